/- Package hold: Get. -/
import Derived.Test.YtcoecfpkihakoaaGreatDoorGz19
import Derived.Maps.RangeWalk
import Derived.Laws.IdiomRangeMap
import Derived.Deep.RegionWith
namespace Go.Proofs.YtcoecfpkihakoaaGreatDoor
open Go.RowKit
variable {h : Nat} {S : Nat → Prop} {L : List Kep} {s : Bool} {m : Option Nat} {D : DataW Value} {row : ByteArray → Value} {blk : ByteArray → Nat}
theorem take_succ_ver {l : List Ver} {i : Nat} (hi : i < l.length) : l.take (i + 1) = l.take i ++ [verAt l i] := by
  rw [List.take_add_one, verAt_get hi]
  rfl
/-- A key's versions fit. -/
theorem getL_fits {L : List Kep} (hf : ∀ x ∈ L, isN x.1 = true ∧ verOk x.2 = true) {key : ByteArray} {i : Nat} (hi : i < (getL L key).length) : verOk (verAt (getL L key) i) = true := by
  have := List.mem_of_getElem? (verAt_get hi)
  exact (hf _ (mem_getL.1 this)).2
theorem verOk_text {v : Ver} (h : verOk v = true) : v.text.size ≤ 1000 := by
  unfold verOk at h
  simp only [Bool.and_eq_true, decide_eq_true_eq] at h
  exact h.2.2.2.2.2
set_option maxRecDepth 10000 in
set_option maxHeartbeats 1600000 in
theorem getO_any {w : World} (hd : HdAt w h S L s m D row blk) (key : ByteArray) (hk : key.size ≤ maxLen) :
    Calls Tryz.prog 26 #[.pointer (some ⟨h, 0, none⟩), .string key] w fun e w' => (∃ v, e = .returned v ∧ OwnR verE 59 w' w.heap.size v (getL L key)) ∧ Below w.heap.size w w' := by
  have HOF : Hid (Calls Tryz.prog 43 #[.pointer (some ⟨h, 0, none⟩), .string key] w fun e w' => e = .returned (row key) ∧ w' = w) := of_any hd key hk
  obtain ⟨p, c, hrow, hrec, hlc, hpn, hpb⟩ := hd.form key
  have HREC : Hid (Rec verE w p (getL L key)) := hrec
  have HTX : Hid (∀ i, i < (getL L key).length → (verAt (getL L key) i).text.size ≤ 1000000) := fun i hi => by have := verOk_text (getL_fits hd.fits hi); omega
  have hl : (getL L key).length ≤ 60 := Nat.le_trans (getL_le _ _) hd.few
  rw [hrow] at HOF
  clear hd hrow hrec hpn hpb
  generalize getL L key = l at *
  go_enter Tryz.func26, Tryz.ntmps26
  go_wp2_with fail
  refine HOF.out.mono ?_
  rintro e w1 ⟨rfl, hw1⟩
  rw [hw1]
  clear hw1 w1 HOF
  go_wp2
  go_loopw [5, 12] (fun v x wq => ∃ i : Nat, i ≤ l.length ∧ x = .int .i64 i ∧ OwnR verE 59 wq w.heap.size v (l.take i) ∧ Below w.heap.size w wq) (fun _ x _ => l.length - (intOf x).toNat)
  case atStart => exact ⟨0, Nat.zero_le _, rfl, OwnR.nil _ _ _, Below.refl _ _⟩
  case round =>
    obtain ⟨i, hi, rfl, hO, hB⟩ := hrel
    obtain ⟨w1, rfl⟩ : ∃ w1, w1 = wr := ⟨_, rfl⟩
    obtain ⟨v, rfl⟩ : ∃ v, v = u5 := ⟨_, rfl⟩
    have HO : Hid (OwnR verE 59 w1 w.heap.size v (l.take i)) := hO
    have HB : Hid (Below w.heap.size w w1) := hB
    have hz1 : w.heap.size ≤ w1.heap.size := hB.size
    clear hO hB
    by_cases hil : i < l.length
    · obtain ⟨b, o, hpp, hblt, c0, c1, c2, c3, c4⟩ := ver_cells (HREC.out.below HB.out) hil
      subst hpp
      have HNX : Hid (l.take (i + 1) = l.take i ++ [verAt l i]) := take_succ_ver hil
      have HCP : Hid (∀ W, Calls Tryz.prog 44 #[.agg #[.int .i64 (verAt l i).n, .int .i64 (verAt l i).who, .int .i64 (verAt l i).size, .int .i64 (verAt l i).at_, .string (verAt l i).text]] W fun e w' => e = .returned (.agg #[.int .i64 (verAt l i).n, .int .i64 (verAt l i).who, .int .i64 (verAt l i).size, .int .i64 (verAt l i).at_, .string (verAt l i).text]) ∧ Below W.heap.size W w') := fun W => copied_any (verAt l i) W (HTX.out i hil)
      have hgl : (l.take i).length ≤ 60 := by rw [List.length_take]; omega
      clear HTX
      generalize verAt l i = x at *
      obtain ⟨xn, xw, xs, xa, xt⟩ := x
      generalize l.take i = gs at *
      have HBW : Hid (Below w1.heap.size w1 (w1.alloc (.cells #[.int .i64 xn, .int .i64 xw, .int .i64 xs, .int .i64 xa, .string xt] 59))) := (Below.refl _ _).alloc (Nat.le_refl _) _
      go_wp2_with fail
      refine (HCP.out _).mono ?_
      rintro e w3 ⟨rfl, hb3⟩
      have hb13 : Below w1.heap.size w1 w3 := HBW.out.trans (hb3.mono HBW.out.size)
      have HO2 : Hid (OwnR verE 59 (w3.alloc (.cells #[.int .i64 xn, .int .i64 xw, .int .i64 xs, .int .i64 xa, .string xt] 59)) w.heap.size v gs) := (HO.out.kept hb13).kept ((Below.refl _ _).alloc (Nat.le_refl _) _)
      have HB3 : Hid (Below w.heap.size w w3) := HB.out.trans (hb13.mono HB.out.size)
      have HNW : Hid (∀ j u, (verE.enc ⟨xn, xw, xs, xa, xt⟩)[j]? = some u → (w3.alloc (.cells #[.int .i64 xn, .int .i64 xw, .int .i64 xs, .int .i64 xa, .string xt] 59)).cell? ⟨w3.heap.size, 0 + j, none⟩ = some u) := fun j u hj => by
        rw [Nat.zero_add, World.cell?_alloc_at _ _ _ _ rfl]
        match j, hj with
        | 0, hj => exact hj
        | 1, hj => exact hj
        | 2, hj => exact hj
        | 3, hj => exact hj
        | 4, hj => exact hj
      have HB2 : Hid (Below w.heap.size w (w3.alloc (.cells #[.int .i64 xn, .int .i64 xw, .int .i64 xs, .int .i64 xa, .string xt] 59))) := HB3.out.alloc HB3.out.size _
      clear hb3 hb13 HBW HCP c0 c1 c2 c3 c4
      go_wp2_with (first | (at_builtin; refine wpList_append_rec rfl (.tmp 16) (.tmp 19) 40 59 rfl (.agg #[.int .i64 0, .int .i64 0, .int .i64 0, .int .i64 0, .string ⟨#[]⟩]) 48 Tryz.underlying40 verinfo rfl w.heap.size v gs rfl HO2.out w3.heap.size 0 1 ⟨xn, xw, xs, xa, xt⟩ rfl HNW.out (by unfold maxLen; omega) (by omega) HB2.out.size (by simp) ?_; intro v4 w4 hO4 hb4))
      have HO4 : Hid (OwnR verE 59 w4 w.heap.size v4 (gs ++ [⟨xn, xw, xs, xa, xt⟩])) := hO4
      have HB4 : Hid (Below w.heap.size w w4) := HB2.out.trans hb4
      clear hO4 hb4
      go_wp2
      go_roundw
      case rel => exact ⟨i + 1, by omega, by go_num, by rw [HNX.out]; exact HO4.out, HB4.out⟩
      case measure => simp [intOf]; omega
    · have hie : i = l.length := by omega
      subst hie
      have HE : Hid (l.take l.length = l) := List.take_length
      go_wp2
      go_ret
      have hO := HO.out
      rw [HE.out] at hO
      exact ⟨⟨v, rfl, hO⟩, HB.out⟩
theorem get_any {w : World} (hd : HdAt w h S L s m D row blk) (key : ByteArray) (hk : key.size ≤ maxLen) :
    Calls Tryz.prog 26 #[.pointer (some ⟨h, 0, none⟩), .string key] w fun e w' => (∃ p c, e = .returned (.slice p (getL L key).length c) ∧ Rec verE w' p (getL L key)) ∧ Below w.heap.size w w' := by
  refine (getO_any hd key hk).mono fun e w' hq => ?_
  obtain ⟨⟨v, e1, e2⟩, e3⟩ := hq
  obtain ⟨p, c, hv, hr, _⟩ := e2.form
  exact ⟨⟨p, c, by rw [e1, hv], hr⟩, e3⟩
end Go.Proofs.YtcoecfpkihakoaaGreatDoor
/- Package hold: Last. -/
namespace Go.Proofs.YtcoecfpkihakoaaGreatDoor
open Go.RowKit
variable {h : Nat} {S : Nat → Prop} {L : List Kep} {s : Bool} {m : Option Nat} {D : DataW Value} {row : ByteArray → Value} {blk : ByteArray → Nat}
set_option maxRecDepth 10000 in
set_option maxHeartbeats 2000000 in
theorem last_any {w : World} (hd : HdAt w h S L s m D row blk) (key : ByteArray) (hk : key.size ≤ maxLen) :
    Calls Tryz.prog 36 #[.pointer (some ⟨h, 0, none⟩), .string key] w fun e w' => e = .returned (.tuple #[.agg #[.int .i64 (lastT (getL L key)).1, .int .i64 (lastT (getL L key)).2], .bool (decide (0 < (getL L key).length))]) ∧ Below w.heap.size w w' := by
  have hb2 : Below w.heap.size w (w.alloc (.cells #[.int .i64 0, .int .i64 0] 55)) := (Below.refl _ _).alloc (Nat.le_refl _) _
  have HOF : Hid (Calls Tryz.prog 43 #[.pointer (some ⟨h, 0, none⟩), .string key] (w.alloc (.cells #[.int .i64 0, .int .i64 0] 55)) fun e w' => e = .returned (row key) ∧ w' = w.alloc (.cells #[.int .i64 0, .int .i64 0] 55)) := of_any (hd.below hb2) key hk
  obtain ⟨p, c, hrow, hrec, hlc, hpn, hpb⟩ := hd.form key
  have HREC : Hid (Rec verE (w.alloc (.cells #[.int .i64 0, .int .i64 0] 55)) p (getL L key)) := hrec.below hb2
  have hl : (getL L key).length ≤ 60 := Nat.le_trans (getL_le _ _) hd.few
  have HB : Hid (Below w.heap.size w (w.alloc (.cells #[.int .i64 0, .int .i64 0] 55))) := hb2
  rw [hrow] at HOF
  clear hd hrow hrec hpn hpb hb2
  generalize getL L key = l at *
  by_cases h0 : l.length = 0
  · have HE : Hid ((.tuple #[.agg #[.int .i64 (lastT l).1, .int .i64 (lastT l).2], .bool (decide (0 < l.length))] : Value) = .tuple #[.agg #[.int .i64 0, .int .i64 0], .bool false]) := by
      show _ = _
      rw [List.length_eq_zero_iff.1 h0]
      rfl
    rw [HE.out]
    rw [h0] at HOF
    go_enter Tryz.func36, Tryz.ntmps36
    go_wp2_with fail
    refine HOF.out.mono ?_
    rintro e w1 ⟨rfl, hw1⟩
    rw [hw1]
    clear hw1 w1 HOF
    go_wp2
    exact bodyPost_ret (v := .tuple #[.agg #[.int .i64 0, .int .i64 0], .bool false]) (by simp [results, Tryz.results36, go_sem]) rfl ⟨rfl, (Below.refl _ _).alloc (Nat.le_refl _) _⟩
  · have hil : l.length - 1 < l.length := by omega
    obtain ⟨b, o, hpp, hblt, c0, c1, c2, c3, c4⟩ := ver_cells HREC.out hil
    have HE : Hid ((.tuple #[.agg #[.int .i64 (lastT l).1, .int .i64 (lastT l).2], .bool (decide (0 < l.length))] : Value) = .tuple #[.agg #[.int .i64 (verAt l (l.length - 1)).n, .int .i64 (verAt l (l.length - 1)).who], .bool true]) := by
      show _ = _
      rw [decide_eq_true (by omega)]
      rfl
    subst hpp
    rw [HE.out]
    generalize verAt l (l.length - 1) = y at *
    obtain ⟨k, hk2⟩ : ∃ k, l.length = k + 1 := ⟨l.length - 1, by omega⟩
    rw [hk2] at HOF c0 c1 c2 c3 c4 hl
    have ek : k + 1 - 1 = k := by omega
    rw [ek] at c0 c1 c2 c3 c4
    have hi0 : (0 : Int) ≤ (k : Int) := by omega
    have hi1 : (k : Int) < (k : Int) + 1 := by omega
    clear hk2 HE hil h0 ek hlc HREC c2 c3 c4
    have hne : ¬ ((k : Int) + 1 = 0) := by omega
    go_enter Tryz.func36, Tryz.ntmps36
    go_wp2_with fail
    refine HOF.out.mono ?_
    rintro e w1 ⟨rfl, hw1⟩
    rw [hw1]
    clear hw1 w1 HOF
    go_wp2
    exact bodyPost_ret (v := .tuple #[.agg #[.int .i64 y.n, .int .i64 y.who], .bool true]) (by simp [results, Tryz.results36, go_sem]) rfl ⟨rfl, (Below.refl _ _).alloc (Nat.le_refl _) _⟩
end Go.Proofs.YtcoecfpkihakoaaGreatDoor
/- Package hold: set. -/
namespace Go.Proofs.YtcoecfpkihakoaaGreatDoor
open Go.RowKit
set_option maxRecDepth 10000 in
set_option maxHeartbeats 1600000 in
theorem set_some (h b n : Nat) (D : DataW Value) (key : ByteArray) (p : Option Addr) (k c : Nat) (w : World) (hk : key.size ≤ 1000000) (hk0 : 0 < k) (hk1 : k ≤ 1000) (q0 : w.cell? ⟨h, 0, none⟩ = some (.map (some b))) (hown : OwnM w b n D) (hn : n < maxLen) :
    Calls Tryz.prog 47 #[.pointer (some ⟨h, 0, none⟩), .string key, .slice p k c] w fun e w' => e = .returned (.tuple #[]) ∧ SetOk w w' b D key (.slice p k c) := by
  have hlt : h < w.heap.size := lt_of_cellH q0
  have HUP : Hid (∀ W, Below w.heap.size w W → ∃ w', (Instr.mapUpdate 92 (.map (some b)) (.string key) (.slice p k c)).run Tryz.prog W = .ok () w' ∧ SetOk w w' b D key (.slice p k c)) := fun W hW => set_step hown hn (by unfold maxLen; omega) hW
  have HCL : Hid (∀ W, Calls Tryz.prog 19 #[.string key] W fun e w' => e = .returned (.string key) ∧ Below W.heap.size W w') := fun W => sclone_any key W (by omega)
  have HQ : Hid (∀ W, Below w.heap.size w W → W.cell? ⟨h, 0, none⟩ = some (.map (some b))) := fun W hW => (hW.cell (p := ⟨h, 0, none⟩) hlt).trans q0
  have hz : ¬ ((k : Int) = 0) := by omega
  have hmn := map_not_nil b
  clear hown hn hk
  go_enter Tryz.func47, Tryz.ntmps47
  go_wp2
  go_region_with (go_at_call 19; refine (HCL.out _).mono ?_; rintro e w5 ⟨rfl, hb5⟩; have hb6 := below_drew' hb5; have q5 := HQ.out w5 hb6; obtain ⟨w9, hrun9, hset9⟩ := HUP.out w5 hb6; clear hb5 hb6)
  all_goals
    go_wp2
    go_end0
    first | exact ⟨rfl, hset9⟩ | exact ⟨rfl, by assumption⟩
set_option maxRecDepth 10000 in
set_option maxHeartbeats 1600000 in
/-- Where no map is there yet. -/
theorem set_none (h : Nat) (key : ByteArray) (p : Option Addr) (k c : Nat) (w : World) (hk : key.size ≤ 1000000) (hk0 : 0 < k) (hk1 : k ≤ 1000) (q0 : w.cell? ⟨h, 0, none⟩ = some (.map none)) (f0 : w.frozen? ⟨h, 0, none⟩ = false) :
    Calls Tryz.prog 47 #[.pointer (some ⟨h, 0, none⟩), .string key, .slice p k c] w fun e w' => e = .returned (.tuple #[]) ∧ SetOk ((w.setCell ⟨h, 0, none⟩ (.map (some w.heap.size))).alloc (.map #[] 0)) w' w.heap.size (.map []) key (.slice p k c) := by
  have hlt : h < w.heap.size := lt_of_cellH q0
  obtain ⟨W0, hW0⟩ : ∃ W0, W0 = (w.setCell ⟨h, 0, none⟩ (.map (some w.heap.size))).alloc (.map #[] 0) := ⟨_, rfl⟩
  have HW0 : Hid (W0 = (w.setCell ⟨h, 0, none⟩ (.map (some w.heap.size))).alloc (.map #[] 0)) := hW0
  have hsz : (w.setCell ⟨h, 0, none⟩ (.map (some w.heap.size))).heap.size = w.heap.size := by simp
  have hown : OwnM W0 w.heap.size 0 (.map []) := by
    have := World.ownsMap_made (w.setCell ⟨h, 0, none⟩ (.map (some w.heap.size))) Tryz.prog 9 anyR
    rw [hsz] at this
    rw [hW0]
    exact this
  have hq : W0.cell? ⟨h, 0, none⟩ = some (.map (some w.heap.size)) := by
    rw [hW0, ((Below.refl _ (w.setCell ⟨h, 0, none⟩ (.map (some w.heap.size)))).alloc (Nat.le_refl _) _).cell (p := ⟨h, 0, none⟩) (by rw [hsz]; exact hlt)]
    exact World.cell?_setCell_same _ _ _ q0
  have hlt0 : h < W0.heap.size := lt_of_cellH hq
  have HUP : Hid (∀ W, Below W0.heap.size W0 W → ∃ w', (Instr.mapUpdate 92 (.map (some w.heap.size)) (.string key) (.slice p k c)).run Tryz.prog W = .ok () w' ∧ SetOk W0 w' w.heap.size (.map []) key (.slice p k c)) := fun W hW => set_step hown (by unfold maxLen; omega) (by unfold maxLen; omega) hW
  have HCL : Hid (∀ W, Calls Tryz.prog 19 #[.string key] W fun e w' => e = .returned (.string key) ∧ Below W.heap.size W w') := fun W => sclone_any key W (by omega)
  have HQ : Hid (∀ W, Below W0.heap.size W0 W → W.cell? ⟨h, 0, none⟩ = some (.map (some w.heap.size))) := fun W hW => (hW.cell (p := ⟨h, 0, none⟩) hlt0).trans hq
  have hz : ¬ ((k : Int) = 0) := by omega
  have hmn := map_is_nil
  have hf1 : (w.alloc (.map #[] 0)).frozen? ⟨h, 0, none⟩ = false := by rw [((Below.refl _ w).alloc (Nat.le_refl _) _).frozen (p := ⟨h, 0, none⟩) hlt]; exact f0
  have hc1 : (w.alloc (.map #[] 0)).cell? ⟨h, 0, none⟩ = some (.map none) := by rw [((Below.refl _ w).alloc (Nat.le_refl _) _).cell (p := ⟨h, 0, none⟩) hlt]; exact q0
  have hmk : (Instr.makeMap 92 none).run Tryz.prog w = .ok (.map (some w.heap.size)) (w.alloc (.map #[] 0)) := by kernel_rfl
  rw [← hW0]
  clear hown hk hW0 hsz
  go_enter Tryz.func47, Tryz.ntmps47
  go_wp2
  rw [← HW0.out]
  clear HW0
  go_region_with (go_at_call 19; refine (HCL.out _).mono ?_; rintro e w5 ⟨rfl, hb5⟩; have hb6 := below_drew' hb5; have q5 := HQ.out w5 hb6; obtain ⟨w9, hrun9, hset9⟩ := HUP.out w5 hb6; clear hb5 hb6)
  all_goals
    go_wp2
    go_end0
    first | exact ⟨rfl, hset9⟩ | exact ⟨rfl, by assumption⟩
end Go.Proofs.YtcoecfpkihakoaaGreatDoor
/- Package hold: Count. -/
namespace Go.Proofs.YtcoecfpkihakoaaGreatDoor
open Go.RowKit
variable {h : Nat} {S : Nat → Prop} {L : List Kep} {s : Bool} {m : Option Nat} {D : DataW Value} {row : ByteArray → Value} {blk : ByteArray → Nat}
theorem sameKey_decide (z x : ByteArray) : (litK z).sameKey (litK x) = decide (z = x) := by
  by_cases e : z = x
  · subst e
    rw [sameKey_litK, decide_eq_true rfl]
  · rw [Maps.sameKey_ne (fun h => e (litK_inj h)), decide_eq_false e]
/-- How many those have together that are still to come. -/
def sumLeft (L : List Kep) (left : Lit → Bool) : Nat := (((keysL L).filter fun x => left (litK x)).map fun x => (getL L x).length).sum
theorem sum_strike {K : List ByteArray} (hn : K.Nodup) (f : ByteArray → Nat) (p : ByteArray → Bool) {x : ByteArray} (hx : x ∈ K) (hp : p x = true) : ((K.filter p).map f).sum = f x + ((K.filter fun z => p z && !decide (z = x)).map f).sum := by
  induction K with
  | nil => cases hx
  | cons a K ih =>
    obtain ⟨h1, h2⟩ := List.nodup_cons.1 hn
    by_cases e : a = x
    · subst e
      have hK : K.filter (fun z => p z && !decide (z = a)) = K.filter p := by
        apply List.filter_congr
        intro z hz
        have : z ≠ a := fun e => h1 (e ▸ hz)
        simp [this]
      rw [List.filter_cons_of_pos hp, List.filter_cons_of_neg (by simp), hK]
      simp
    · have hxK : x ∈ K := by
        rcases List.mem_cons.1 hx with h3 | h3
        · exact absurd h3.symm e
        · exact h3
      have := ih h2 hxK
      cases hpa : p a with
      | true =>
        rw [List.filter_cons_of_pos hpa, List.filter_cons_of_pos (by simp [hpa, e]), List.map_cons, List.map_cons, List.sum_cons, List.sum_cons, this]
        omega
      | false =>
        rw [List.filter_cons_of_neg (by simp [hpa]), List.filter_cons_of_neg (by simp [hpa]), this]
theorem sumLeft_strike {L : List Kep} (hs : SortedK L) {left : Lit → Bool} {x : ByteArray} (hx : x ∈ keysL L) (hl : left (litK x) = true) : sumLeft L left = (getL L x).length + sumLeft L (fun z => left z && !z.sameKey (litK x)) := by
  unfold sumLeft
  rw [sum_strike (keysL_nodup hs) (fun x => (getL L x).length) (fun x => left (litK x)) hx hl]
  simp only [sameKey_decide]
theorem sumLeft_all {L : List Kep} (hs : SortedK L) {left : Lit → Bool} (hl : ∀ x ∈ keysL L, left (litK x) = true) : sumLeft L left = L.length := by
  unfold sumLeft
  rw [List.filter_eq_self.2 hl, keys_sum hs]
theorem sumLeft_none {L : List Kep} {left : Lit → Bool} (hl : ∀ k, left k = false) : sumLeft L left = 0 := by
  unfold sumLeft
  rw [List.filter_eq_nil_iff.2 (fun x _ => by rw [hl]; decide)]
  rfl
theorem keysL_size {L : List Kep} (hs : SortedK L) (hf : ∀ x ∈ L, isN x.1 = true ∧ verOk x.2 = true) {x : ByteArray} (hx : x ∈ keysL L) : x.size ≤ 16 := by
  obtain ⟨v, hv⟩ := List.exists_mem_of_ne_nil _ (((keysOk L hs).mem x).1 hx)
  exact (isN_size (hf _ (mem_getL.1 hv)).1).2
/-- What comes of a map that is gone through: a key, and its row. -/
theorem HdAt.entry {w : World} (hd : HdAt w h S L s m D row blk) {b : Nat} (hm : m = some b) {x : ByteArray} {c : Value} {kl : Lit} {y : DataW Value × List MemPlace} {left : Lit → Bool} (hsub : ∀ z, left z = true → Maps.has D z = true) (hkey : keyOf Tryz.prog 9 (.string x) = some kl) (hlk : left kl = true) (hv : anyR c = some y) (hat : ∀ zd, D.atKey kl zd = y.1) : kl = litK x ∧ x ∈ keysL L ∧ c = row x := by
  obtain ⟨x', e1, e2, e3⟩ := keyOfK_inv hkey
  injection e1 with e1
  subst e1
  subst e2
  obtain ⟨_, _, _, h4, h5⟩ := hd.mapS b hm
  have hh := hsub _ hlk
  rw [h4 x e3] at hh
  have hne : getL L x ≠ [] := by simpa using hh
  refine ⟨rfl, ((keysOk L hd.sorted).mem x).2 hne, ?_⟩
  have h6 := h5 x hne .nil
  rw [hat] at h6
  have h7 : y.1 = .held c := by
    unfold anyR at hv
    exact (congrArg Prod.fst (Option.some.inj hv)).symm
  rw [h7] at h6
  injection h6
set_option maxRecDepth 10000 in
set_option maxHeartbeats 1600000 in
theorem count_nil {w : World} (hd : HdAt w h S L s none D row blk) : Calls Tryz.prog 32 #[.pointer (some ⟨h, 0, none⟩)] w fun e w' => e = .returned (.int .i64 (L.length : Int)) ∧ Below w.heap.size w w' := by
  have HA : Hid (Calls Tryz.prog 51 #[.pointer (some ⟨h, 0, none⟩)] w fun e w' => e = .returned (.map none) ∧ w' = w) := all_any hd
  rw [hd.nothing rfl]
  clear hd
  have hrg := run_range_nilMap (P := Tryz.prog) w 92 9 40 Tryz.underlying92
  have hnx : ∀ ty, (Instr.next (.pointer (some ⟨w.heap.size, 0, none⟩)) false ty).run Tryz.prog (w.alloc (.mapIter none 0 #[] 0)) = _ := fun ty => run_next_nilMap w ty 0 0 #[]
  go_enter Tryz.func32, Tryz.ntmps32
  go_wp2_with fail
  refine HA.out.mono ?_
  rintro e w1 ⟨rfl, hw1⟩
  rw [hw1]
  clear hw1 w1 HA
  go_wp2
  refine wp_loop_rounds 1 ?_
  rw [rounds_succ]
  go_wp2
  go_ret
  exact ⟨rfl, (Below.refl _ _).alloc (Nat.le_refl _) _⟩
set_option maxRecDepth 10000 in
set_option maxHeartbeats 1600000 in
theorem count_some {w : World} {b : Nat} (hd : HdAt w h S L s (some b) D row blk) : Calls Tryz.prog 32 #[.pointer (some ⟨h, 0, none⟩)] w fun e w' => e = .returned (.int .i64 (L.length : Int)) ∧ Below w.heap.size w w' := by
  have HA : Hid (Calls Tryz.prog 51 #[.pointer (some ⟨h, 0, none⟩)] w fun e w' => e = .returned (.map (some b)) ∧ w' = w) := all_any hd
  obtain ⟨hSb, hbh, ⟨n, hown⟩, h4, h5⟩ := hd.mapS b rfl
  have HD : Hid (HdAt w h S L s (some b) D row blk) := hd
  have hfew := hd.few
  have H0 : Hid (sumLeft L (Maps.has D) = L.length) := sumLeft_all hd.sorted (fun x hx => by
    rw [h4 x (by have := keysL_size hd.sorted hd.fits hx; unfold maxLen; omega)]
    simpa using ((keysOk L hd.sorted).mem x).1 hx)
  have hblt : b < w.heap.size := hd.inS b hSb
  clear h4 h5 hd hSb hbh
  go_enter Tryz.func32, Tryz.ntmps32
  go_wp2_with fail
  refine HA.out.mono ?_
  rintro e w1 ⟨rfl, hw1⟩
  rw [hw1]
  clear hw1 w1 HA
  go_wp2_with (first
    | (at_range; refine wpList_range_own _ rfl _ 92 rfl 9 40 keyedK Tryz.underlying92 anyR b n D rfl hown ?_; intro w0 hrg0 hg0 hs0)
    | go_in)
  go_frame
  go_loopw [3] (fun k wr => ∃ (left : Lit → Bool) (cnt acc : Nat), wr.ranges Tryz.prog 9 anyR b w.heap.size n D left cnt ∧ k = .int .i64 acc ∧ acc + sumLeft L left = L.length ∧ (∀ z, left z = true → Maps.has D z = true) ∧ Below w.heap.size w wr) (fun _ wr => wr.rangeLeft b w.heap.size)
  case atStart => exact ⟨Maps.has D, Maps.size D, 0, hrg0, rfl, by rw [H0.out]; omega, fun z hz => hz, ⟨hg0.os, hg0.tape, hg0.output, hg0.size, fun k hk => hg0.block k hk (by simp)⟩⟩
  case round =>
    clear hg0 hs0 hrg0 hown H0
    obtain ⟨left, cnt, acc, hrg, rfl, hacc, hsub, hbw⟩ := hrel
    obtain ⟨w1, rfl⟩ : ∃ w1, w1 = wr := ⟨_, rfl⟩
    have HACC : Hid (acc + sumLeft L left = L.length) := hacc
    have HSUB : Hid (∀ z, left z = true → Maps.has D z = true) := hsub
    have HBW : Hid (Below w.heap.size w w1) := hbw
    have hacc2 : acc ≤ 60 := by omega
    clear hacc hsub hbw
    go_wp2_with (first
      | (at_next; refine wpList_next_ranges (α := ByteArray) (β := Value) _ rfl _ rfl 9 keyedK anyR Value.string id (fun key kl hk => by obtain ⟨x, hx, _⟩ := keyOfK_inv hk; exact ⟨x, hx⟩) (fun v y _ => ⟨v, rfl⟩) b w.heap.size n D left cnt rfl hrg ?_ ?_)
      | go_in)
    · intro _ hl0
      have HE : Hid (acc = L.length) := by
        show _ = _
        have := HACC.out
        rw [sumLeft_none hl0] at this
        exact this
      go_wp2
      go_ret
      exact ⟨by rw [HE.out]; rfl, HBW.out⟩
    · intro x c kl yd yp w2 cnt2 hkey hlk hv hat hrg2 hlt2 hg2 hs2 hen
      obtain ⟨rfl, hxk, rfl⟩ := HD.out.entry rfl HSUB.out hkey hlk hv hat
      have HST : Hid (sumLeft L left = (getL L x).length + sumLeft L (fun z => left z && !z.sameKey (litK x))) := sumLeft_strike HD.out.sorted hxk hlk
      obtain ⟨p, cc, hrow, _, _, _, _⟩ := HD.out.form x
      have hrow2 : row x = .slice p (getL L x).length cc := hrow
      rw [hrow2] at hen ⊢
      have HRG : Hid (w2.ranges Tryz.prog 9 anyR b w.heap.size n D (fun z => left z && !z.sameKey (litK x)) cnt2) := hrg2
      have HLT : Hid (cnt2 < cnt) := hlt2
      have HRG0 : Hid (w1.ranges Tryz.prog 9 anyR b w.heap.size n D left cnt) := hrg
      have HB2 : Hid (Below w.heap.size w w2) := HBW.out.trans ⟨hg2.os, hg2.tape, hg2.output, hg2.size, fun k hk => hg2.block k (by have := HBW.out.size; omega) (fun e => by injection e with e; omega)⟩
      have hgl : (getL L x).length ≤ 60 := Nat.le_trans (getL_le _ _) hfew
      have HAC2 : Hid (acc + (getL L x).length + sumLeft L (fun z => left z && !z.sameKey (litK x)) = L.length) := by
        show _ = _
        have := HACC.out
        rw [HST.out] at this
        omega
      have HS2 : Hid (∀ z, (left z && !z.sameKey (litK x)) = true → Maps.has D z = true) := fun z hz => HSUB.out z (by simp only [Bool.and_eq_true] at hz; exact hz.1)
      clear hv hat hrg2 hlt2 hg2 hs2 hrow hrow2 hkey hlk hxk HST HACC hrg
      generalize (getL L x).length = g at *
      go_wp2
      go_roundw
      case rel => exact ⟨_, cnt2, acc + g, HRG.out, by go_num, HAC2.out, HS2.out, HB2.out⟩
      case measure => rw [HRG.out.left_eq, HRG0.out.left_eq]; exact HLT.out
theorem count_any {w : World} (hd : HdAt w h S L s m D row blk) : Calls Tryz.prog 32 #[.pointer (some ⟨h, 0, none⟩)] w fun e w' => e = .returned (.int .i64 (L.length : Int)) ∧ Below w.heap.size w w' := by
  cases m with
  | none => exact count_nil hd
  | some b => exact count_some hd
end Go.Proofs.YtcoecfpkihakoaaGreatDoor
/- Keys that come in any order, sorted, are the keys of what is kept. -/
namespace Go.Proofs.YtcoecfpkihakoaaGreatDoor
open Go.RowKit
theorem bless_lt : ∀ (x y : List UInt8), Op.bytesLess x y = true → x < y
  | _, [], h => by simp [Op.bytesLess] at h
  | [], _ :: _, _ => List.nil_lt_cons _ _
  | a :: x, b :: y, h => by
    simp only [Op.bytesLess, Bool.or_eq_true, decide_eq_true_eq, Bool.and_eq_true, beq_iff_eq] at h
    rw [List.cons_lt_cons_iff]
    rcases h with h | ⟨e, h⟩
    · exact Or.inl h
    · exact Or.inr ⟨e, bless_lt x y h⟩
theorem filter_strike {K : List ByteArray} (hn : K.Nodup) (p : ByteArray → Bool) {x : ByteArray} (hx : x ∈ K) (hp : p x = true) : (x :: K.filter fun z => p z && !decide (z = x)).Perm (K.filter p) := by
  induction K with
  | nil => cases hx
  | cons a K ih =>
    obtain ⟨h1, h2⟩ := List.nodup_cons.1 hn
    by_cases e : a = x
    · subst e
      have hK : K.filter (fun z => p z && !decide (z = a)) = K.filter p := by
        apply List.filter_congr
        intro z hz
        have : z ≠ a := fun e => h1 (e ▸ hz)
        simp [this]
      rw [List.filter_cons_of_pos hp, List.filter_cons_of_neg (by simp), hK]
    · have hxK : x ∈ K := by
        rcases List.mem_cons.1 hx with h3 | h3
        · exact absurd h3.symm e
        · exact h3
      have := ih h2 hxK
      cases hpa : p a with
      | true =>
        rw [List.filter_cons_of_pos hpa, List.filter_cons_of_pos (by simp [hpa, e])]
        exact (List.Perm.swap _ _ _).trans (this.cons _)
      | false =>
        rw [List.filter_cons_of_neg (by simp [hpa]), List.filter_cons_of_neg (by simp [hpa])]
        exact this
/-- Keys that have come, and those that are left. -/
def KeysLeft (L : List Kep) (left : Lit → Bool) (acc : List ByteArray) : Prop := (acc ++ (keysL L).filter fun x => left (litK x)).Perm (keysL L)
theorem keysLeft_start {L : List Kep} {left : Lit → Bool} (hl : ∀ x ∈ keysL L, left (litK x) = true) : KeysLeft L left [] := by
  unfold KeysLeft
  rw [List.nil_append, List.filter_eq_self.2 hl]
theorem keysLeft_step {L : List Kep} (hs : SortedK L) {left : Lit → Bool} {acc : List ByteArray} {x : ByteArray} (hx : x ∈ keysL L) (hl : left (litK x) = true) (h : KeysLeft L left acc) : KeysLeft L (fun z => left z && !z.sameKey (litK x)) (acc ++ [x]) := by
  unfold KeysLeft at *
  simp only [sameKey_decide]
  rw [List.append_assoc]
  exact (List.Perm.append_left acc (filter_strike (keysL_nodup hs) (fun x => left (litK x)) hx hl)).trans h
theorem keysLeft_end {L : List Kep} {left : Lit → Bool} {acc : List ByteArray} (hl : ∀ k, left k = false) (h : KeysLeft L left acc) : acc.Perm (keysL L) := by
  unfold KeysLeft at h
  rw [List.filter_eq_nil_iff.2 (fun x _ => by rw [hl]; decide), List.append_nil] at h
  exact h
/-- What is sorted of the keys is the keys. -/
theorem sort_keys {L : List Kep} (hs : SortedK L) {acc : List ByteArray} (hp : acc.Perm (keysL L)) : (acc.map fun x => x.data.toList).mergeSort (fun x y => decide (x ≤ y)) = (keysL L).map fun x => x.data.toList := by
  have h1 : ((acc.map fun x => x.data.toList).mergeSort fun x y => decide (x ≤ y)).Perm ((keysL L).map fun x => x.data.toList) := (List.mergeSort_perm _ _).trans (hp.map _)
  have hk : ((keysL L).map fun x => x.data.toList).Pairwise fun x y => decide (x ≤ y) = true := by
    rw [List.pairwise_map]
    refine (keysOk L hs).rising.imp ?_
    intro a b hab
    unfold kl at hab
    rw [ByteArray.toList_eq, ByteArray.toList_eq] at hab
    have h3 : a.data.toList < b.data.toList := bless_lt _ _ hab
    exact decide_eq_true (List.le_of_lt h3)
  have h2 : ((acc.map fun x => x.data.toList).mergeSort fun x y => decide (x ≤ y)).Pairwise fun x y => decide (x ≤ y) = true := List.pairwise_mergeSort (fun a b c h3 h4 => by simp only [decide_eq_true_eq] at *; exact List.le_trans h3 h4) (fun a b => by simp only [Bool.or_eq_true, decide_eq_true_eq]; exact List.le_total a b) _
  exact h1.eq_of_pairwise (fun a b _ _ h3 h4 => by simp only [decide_eq_true_eq] at *; exact List.le_antisymm h3 h4) h2 hk
end Go.Proofs.YtcoecfpkihakoaaGreatDoor
