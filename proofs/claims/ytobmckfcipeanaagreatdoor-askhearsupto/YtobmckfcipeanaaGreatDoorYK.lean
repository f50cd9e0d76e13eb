import Derived.Test.YtobmckfcipeanaaGreatDoorZB
import Derived.BigQuiet
import Derived.Test.YtobmckfcipeanaaGreatDoorYE
import Derived.Test.YtobmckfcipeanaaGreatDoorZL
namespace Go.Proofs.YtobmckfcipeanaaGreatDoor
open Go.RowKit
set_option maxRecDepth 10000 in
set_option maxHeartbeats 2000000 in
theorem sameVers_any (pa pb : Option Addr) (l m : List Ver) (ca cb : Nat) (w : World) (hl : l.length <= 1000000) (ha : Rec verE w pa l) (hb : Rec verE w pb m) :
 Calls Tryz.prog 64 #[.slice pa l.length ca, .slice pb m.length cb] w fun e w' => e = .returned (.bool (decide (l = m))) /\ Below w.heap.size w w' := by
 by_cases hlen : l.length = m.length
 ·have HT : Hid ((∀ i, i < l.length -> verAt l i = verAt m i) -> decide (l = m) = true) := fun h => decide_eq_true (ver_ext hlen h)
  have HF : Hid (∀ i, i < l.length -> verAt l i ≠ verAt m i -> decide (l = m) = false) := fun i _ h => decide_eq_false (fun e => h (by rw [e]))
  generalize decide (l = m) = r at *
  have HM : Hid (m.length = l.length) := hlen.symm
  rw [<- hlen]
  clear hlen
  go_enter Tryz.func64, Tryz.ntmps64
  go_wp2
  go_loopw [5] (fun x wq => ∃ i : Nat, i <= l.length /\ x = .int .i64 i /\ (∀ j, j < i -> verAt l j = verAt m j) /\ ∃ n, wq = w.drewN n) (fun x _ => l.length - (intOf x).toNat)
  case atStart => exact ⟨0, Nat.zero_le _, rfl, fun j hj => absurd hj (Nat.not_lt_zero _), 0, rfl⟩
  case round =>
   obtain ⟨i, hi, rfl, hall, n, hw⟩ := hrel
   obtain ⟨w1, rfl⟩ : ∃ w1, w1 = wr := ⟨_, rfl⟩
   have HALL : Hid (∀ j, j < i -> verAt l j = verAt m j) := hall
   have HW : Hid (∃ n, w1 = w.drewN n) := ⟨n, hw⟩
   have HA : Hid (Rec verE w1 pa l) := by show Rec verE w1 pa l; rw [hw]; exact ha.drewN n
   have HB : Hid (Rec verE w1 pb m) := by show Rec verE w1 pb m; rw [hw]; exact hb.drewN n
   clear hw hall
   by_cases hil : i < l.length
   ·obtain ⟨b1, o1, hp1, _, a0, a1, a2, a3, a4⟩ := ver_cells HA.out hil
    obtain ⟨b2, o2, hp2, _, e0, e1, e2, e3, e4⟩ := ver_cells HB.out (show i < m.length by have := HM.out; omega)
    subst hp1 hp2
    by_cases he : verAt l i = verAt m i
    ·have HNX : Hid (∀ j, j < i + 1 -> verAt l j = verAt m j) := fun j hj => by
      rcases Nat.lt_or_ge j i with h | h
      ·exact HALL.out j h
      ·obtain rfl : j = i := by omega
       exact he
     rw [<- he] at e0 e1 e2 e3 e4
     clear he HALL
     generalize verAt l i = x at *
     obtain ⟨xn, xw, xs, xa, xt⟩ := x
     go_wp2
     go_quiet (fail)
     go_wp2
     go_roundw
     case rel => exact ⟨i + 1, by omega, by go_num, HNX.out, by obtain ⟨n, hn⟩ := HW.out; exact ⟨_, by rw [hn, World.drewN_drewN]⟩⟩
     case measure => simp [intOf]; omega
    ·have HR : Hid (r = false) := HF.out i hil he
     have HNE : Hid (verAt l i ≠ verAt m i) := he
     clear he HF HT HALL
     generalize verAt l i = x at *
     generalize verAt m i = y at *
     obtain ⟨xn, xw, xs, xa, xt⟩ := x
     obtain ⟨yn, yw, ys, ya, yt⟩ := y
     have walk : ((xn == yn) = false) ∨ xn = yn /\ (((xw == yw) = false) ∨ xw = yw /\ (((xs == ys) = false) ∨ xs = ys /\ (((xa == ya) = false) ∨ xa = ya /\ xt ≠ yt))) := by
      by_cases h1 : xn = yn
      ·refine Or.inr ⟨h1, ?_⟩
       by_cases h2 : xw = yw
       ·refine Or.inr ⟨h2, ?_⟩
        by_cases h3 : xs = ys
        ·refine Or.inr ⟨h3, ?_⟩
         by_cases h4 : xa = ya
         ·refine Or.inr ⟨h4, fun h5 => HNE.out (by rw [h1, h2, h3, h4, h5])⟩
         ·exact Or.inl (beq_eq_false_iff_ne.2 h4)
        ·exact Or.inl (beq_eq_false_iff_ne.2 h3)
       ·exact Or.inl (beq_eq_false_iff_ne.2 h2)
      ·exact Or.inl (beq_eq_false_iff_ne.2 h1)
     clear HNE
     rcases walk with g | ⟨rfl, g | ⟨rfl, g | ⟨rfl, g | ⟨rfl, g⟩⟩⟩⟩
     rotate_right
     ·have d1 := toList_ne g
      have d2 := toList_beq g
      have d3 := bytes_beq g
      clear g
      go_wp2
      go_quiet (fail)
      go_wp2
      go_ret
      exact ⟨by rw [HR.out]; rfl, by obtain ⟨n, hn⟩ := HW.out; rw [hn]; exact below_drewN (below_drewN (Below.refl _ _) n) _⟩
     all_goals
      go_wp2
      go_quiet (fail)
      go_wp2
      go_ret
      exact ⟨by rw [HR.out]; rfl, by obtain ⟨n, hn⟩ := HW.out; rw [hn]; exact below_drewN (below_drewN (Below.refl _ _) n) _⟩
   ·have HR : Hid (r = true) := HT.out (fun j hj => HALL.out j (by omega))
    go_wp2
    go_ret
    exact ⟨by rw [HR.out]; rfl, by obtain ⟨n, hn⟩ := HW.out; rw [hn]; exact below_drewN (Below.refl _ _) n⟩
 ·have HR : Hid (decide (l = m) = false) := decide_eq_false (fun e => hlen (by rw [e]))
  rw [HR.out]
  have h6 : ((l.length : Int) != (m.length : Int)) = true := by rw [bne_iff_ne]; omega
  clear hlen
  go_enter Tryz.func64, Tryz.ntmps64
  go_wp2
  go_ret
  exact ⟨rfl, Below.refl _ _⟩
set_option maxRecDepth 10000 in
set_option maxHeartbeats 2000000 in
theorem backWire_any (m : Msg) (p : Option Addr) (n c : Nat) (w : World) :
 Calls Tryz.prog 35 #[msgA m (.slice p n c)] w fun e w' => e = .returned (msgA m (.slice p n c)) /\ Below w.heap.size w w' := by
 obtain ⟨m1, m2, m3, m4, m5, m6, m7, mL⟩ := m
 unfold msgA
 simp only []
 go_enter Tryz.func35, Tryz.ntmps35
 go_wp2
 refine bodyPost_ret (v := .agg #[.string m1, .string m2, .string m3, .string m4, .int .i64 m5, .int .i64 m6, .bool m7, .slice p n c]) (by simp [results, Tryz.results35, go_sem]) rfl ⟨rfl, ?_⟩
 exact ((Below.refl _ _).alloc (Nat.le_refl _) _).alloc (by simp) _
set_option maxRecDepth 10000 in
set_option maxHeartbeats 4000000 in
theorem sameMsg_yes (m : Msg) (pa pb : Option Addr) (ca cb : Nat) (w : World) (hl : m.L.length <= 1000000) (ha : Rec verE w pa m.L) (hb : Rec verE w pb m.L) :
 Calls Tryz.prog 34 #[msgA m (.slice pa m.L.length ca), msgA m (.slice pb m.L.length cb)] w fun e w' => e = .returned (.bool true) /\ Below w.heap.size w w' := by
 obtain ⟨m1, m2, m3, m4, m5, m6, m7, mL⟩ := m
 unfold msgA
 simp only [] at *
 obtain ⟨w1, hw1⟩ : ∃ w1, w1 = (w.alloc (.cells #[.string m1, .string m2, .string m3, .string m4, .int .i64 m5, .int .i64 m6, .bool m7, .slice pa mL.length ca] 59)).alloc (.cells #[.string m1, .string m2, .string m3, .string m4, .int .i64 m5, .int .i64 m6, .bool m7, .slice pb mL.length cb] 59) := ⟨_, rfl⟩
 have HW1 : Hid (w1 = (w.alloc (.cells #[.string m1, .string m2, .string m3, .string m4, .int .i64 m5, .int .i64 m6, .bool m7, .slice pa mL.length ca] 59)).alloc (.cells #[.string m1, .string m2, .string m3, .string m4, .int .i64 m5, .int .i64 m6, .bool m7, .slice pb mL.length cb] 59)) := hw1
 have hb1 : Below w.heap.size w w1 := by rw [hw1]; exact ((Below.refl _ _).alloc (Nat.le_refl _) _).alloc (by simp) _
 have hsv := sameVers_any pa pb mL mL ca cb w1 hl (ha.below hb1) (hb.below hb1)
 rw [decide_eq_true rfl] at hsv
 have HSV : Hid (Calls Tryz.prog 64 #[.slice pa mL.length ca, .slice pb mL.length cb] w1 fun e w' => e = .returned (.bool true) /\ Below w1.heap.size w1 w') := hsv
 have HB1 : Hid (Below w.heap.size w w1) := hb1
 clear hsv hb1 hw1 ha hb
 go_enter Tryz.func34, Tryz.ntmps34
 go_wp2_with fail
 rw [<- HW1.out]
 refine HSV.out.mono ?_
 rintro e w2 ⟨rfl, hb2⟩
 have HB2 : Hid (Below w.heap.size w w2) := HB1.out.trans (hb2.mono HB1.out.size)
 clear hb2 HSV HW1
 go_wp2
 go_ret
 exact ⟨rfl, HB2.out⟩
def bulkV (l : List Ver) : Nat := (l.map fun v => 40 + v.text.size).sum
def bulkN (m : Msg) : Nat := m.from_.size + m.to_.size + m.kind.size + m.key.size + bulkV m.L
theorem bulkV_take {l : List Ver} {i : Nat} (h : i < l.length) : bulkV (l.take (i + 1)) = bulkV (l.take i) + 40 + (verAt l i).text.size := by
 unfold bulkV
 rw [List.take_add_one, verAt_get h]
 simp
 omega
theorem bulkV_le (l : List Ver) (i : Nat) : bulkV (l.take i) <= bulkV l := by
 have e : bulkV l = bulkV (l.take i) + bulkV (l.drop i) := by
  unfold bulkV
  rw [<- List.sum_append, <- List.map_append, List.take_append_drop]
 omega
theorem bulkV_len (l : List Ver) : 40 * l.length <= bulkV l := by
 induction l with
 | nil => simp [bulkV]
 | cons v l ih =>
  unfold bulkV at ih ⊢
  rw [List.map_cons, List.sum_cons, List.length_cons]
  omega
set_option maxRecDepth 10000 in
set_option maxHeartbeats 4000000 in
theorem bulk_any (m : Msg) (p : Option Addr) (c : Nat) (w : World) (hr : Rec verE w p m.L) (hl : bulkN m <= 9223372036854775807) :
 Calls Tryz.prog 22 #[msgA m (.slice p m.L.length c)] w fun e w' => e = .returned (.int .i64 ((bulkN m : Nat) : Int)) /\ Below w.heap.size w w' := by
 obtain ⟨m1, m2, m3, m4, m5, m6, m7, mL⟩ := m
 unfold msgA
 unfold bulkN at hl ⊢
 simp only [] at *
 obtain ⟨w1, hw1⟩ : ∃ w1, w1 = w.alloc (.cells #[.string m1, .string m2, .string m3, .string m4, .int .i64 m5, .int .i64 m6, .bool m7, .slice p mL.length c] 59) := ⟨_, rfl⟩
 have HW1 : Hid (w1 = w.alloc (.cells #[.string m1, .string m2, .string m3, .string m4, .int .i64 m5, .int .i64 m6, .bool m7, .slice p mL.length c] 59)) := hw1
 have hb1 : Below w.heap.size w w1 := by rw [hw1]; exact (Below.refl _ _).alloc (Nat.le_refl _) _
 have q7 : w1.cell? ⟨w.heap.size, 7, none⟩ = some (.slice p mL.length c) := by rw [hw1, World.cell?_alloc_at _ _ _ _ rfl]; rfl
 have HR : Hid (Rec verE w1 p mL) := hr.below hb1
 have HB1 : Hid (Below w.heap.size w w1) := hb1
 have hlen := bulkV_len mL
 have HLE : Hid (∀ i, bulkV (mL.take i) <= bulkV mL) := bulkV_le mL
 have HNX : Hid (∀ i, i < mL.length -> bulkV (mL.take (i + 1)) = bulkV (mL.take i) + 40 + (verAt mL i).text.size) := fun i hi => bulkV_take hi
 have HEN : Hid (bulkV (mL.take mL.length) = bulkV mL) := by show _ = _; rw [List.take_length]
 have hz0 : bulkV (mL.take 0) = 0 := by simp [bulkV]
 have HZ0 : Hid (bulkV (mL.take 0) = 0) := hz0
 clear hw1 hb1 hr hz0
 go_enter Tryz.func22, Tryz.ntmps22
 go_wp2
 rw [show w.alloc (.cells #[.string m1, .string m2, .string m3, .string m4, .int .i64 m5, .int .i64 m6, .bool m7, .slice p mL.length c] 59) = w1 from HW1.out.symm]
 clear HW1
 go_loopw [3, 4] (fun x i wr => ∃ k : Nat, k <= mL.length /\ i = .int .i64 k /\ x = .int .i64 ((m1.size + m2.size + m3.size + m4.size + bulkV (mL.take k) : Nat) : Int) /\ wr = w1) (fun _ i _ => mL.length - (intOf i).toNat)
 case atStart => exact ⟨0, Nat.zero_le _, rfl, by rw [HZ0.out]; congr 1, rfl⟩
 case round =>
  obtain ⟨k, hk, rfl, rfl, hwr⟩ := hrel
  subst hwr
  by_cases hkl : k < mL.length
  ·obtain ⟨b, o, hpp, hblt, c0, c1, c2, c3, c4⟩ := ver_cells HR.out hkl
   subst hpp
   have hnx := HNX.out k hkl
   have hle := HLE.out (k + 1)
   rw [hnx] at hle
   have HNXT : Hid (bulkV (mL.take (k + 1)) = bulkV (mL.take k) + 40 + (verAt mL k).text.size) := hnx
   clear hnx
   generalize verAt mL k = x at *
   obtain ⟨xn, xw, xs, xa, xt⟩ := x
   simp only [] at *
   generalize bulkV (mL.take k) = q at *
   have hq : ((m1.size + m2.size + m3.size + m4.size + q : Nat) : Int) = (m1.size : Int) + m2.size + m3.size + m4.size + q := by omega
   generalize hN : m1.size + m2.size + m3.size + m4.size + q = N at *
   clear hq
   go_wp2
   go_roundw
   case rel => exact ⟨k + 1, by omega, by go_num, by rw [HNXT.out]; congr 1; omega, trivial⟩
   case measure => simp [intOf]; omega
  ·obtain rfl : k = mL.length := by omega
   rw [HEN.out]
   go_wp2
   go_ret
   exact ⟨rfl, HB1.out⟩
def weighM (l : List Msg) : Nat := (l.map fun m => 20 + bulkN m).sum
def fitsM (l : List Msg) : Bool := !(l.any fun m => m.L.any bigV) && decide (weighM l < 6000)
theorem weighM_take {l : List Msg} {m : Msg} {i : Nat} (h : l[i]? = some m) : weighM (l.take (i + 1)) = weighM (l.take i) + (20 + bulkN m) := by
 unfold weighM
 rw [List.take_add_one, h, List.map_append, List.sum_append]
 simp
theorem weighM_le (l : List Msg) (i : Nat) : weighM (l.take i) <= weighM l := by
 have h : weighM l = weighM (l.take i) + weighM (l.drop i) := by
  unfold weighM
  rw [<- List.sum_append, <- List.map_append, List.take_append_drop]
 omega
theorem weighM_len (l : List Msg) : l.length <= weighM l := by
 unfold weighM
 induction l with
 | nil => exact Nat.zero_le _
 | cons x r ih => rw [List.map_cons, List.sum_cons, List.length_cons]; omega
theorem weighM_one {l : List Msg} {m : Msg} (h : m ∈ l) : 20 + bulkN m <= weighM l := by
 unfold weighM
 induction l with
 | nil => cases h
 | cons x r ih =>
  rw [List.map_cons, List.sum_cons]
  rcases List.mem_cons.1 h with e | e
  ·subst e; omega
  ·have := ih e; omega
theorem fitsM_big {l : List Msg} {m : Msg} (h : m ∈ l) (hb : m.L.any bigV = true) : fitsM l = false := by
 unfold fitsM
 have : (l.any fun m => m.L.any bigV) = true := List.any_eq_true.2 ⟨m, h, hb⟩
 rw [this]
 rfl
theorem fitsM_end {l : List Msg} (h : ∀ m ∈ l, m.L.any bigV = false) : fitsM l = decide (weighM l < 6000) := by
 unfold fitsM
 have : (l.any fun m => m.L.any bigV) = false := List.any_eq_false.2 fun m hm hb => by rw [h m hm] at hb; cases hb
 rw [this]
 rfl
set_option maxRecDepth 10000 in
set_option maxHeartbeats 8000000 in
theorem messagesFit_any (p : Option Addr) (l : List Msg) (cap : Nat) (w : World) (hw : weighM l <= 4611686018427387904) (h : MsgsAt w p l) :
 Calls Tryz.prog 6 #[.slice p l.length cap] w fun e w' => e = .returned (.bool (fitsM l)) /\ Below w.heap.size w w' := by
 obtain ⟨ml, hml, hr, hh⟩ := h
 have hlen : l.length = ml.length := by rw [<- hml, List.length_map]
 have hmlen : ml.length <= 4611686018427387904 := by have := weighM_len l; omega
 have HR : Hid (Rec mE w p ml) := hr
 have HH : Hid (∀ x ∈ ml, HasL w x) := hh
 have hmem : ∀ i, i < ml.length -> (msgAt ml i).1 ∈ l := fun i hi => by rw [<- hml]; exact List.mem_map.2 ⟨_, msgAt_mem hi, rfl⟩
 have HG : Hid (∀ i, i < ml.length -> l[i]? = some (msgAt ml i).1) := fun i hi => by rw [<- hml, List.getElem?_map, List.getElem?_eq_getElem hi, msgAt_get hi]; rfl
 have HWT : Hid (∀ i, i < ml.length -> weighM (l.take (i + 1)) = weighM (l.take i) + (20 + bulkN (msgAt ml i).1)) := fun i hi => weighM_take (HG.out i hi)
 have HWL : Hid (∀ i, weighM (l.take i) <= weighM l) := fun i => weighM_le l i
 have HWO : Hid (∀ i, i < ml.length -> 20 + bulkN (msgAt ml i).1 <= weighM l) := fun i hi => weighM_one (hmem i hi)
 have HBG : Hid (∀ i, i < ml.length -> (msgAt ml i).1.L.any bigV = true -> fitsM l = false) := fun i hi hb => fitsM_big (hmem i hi) hb
 have HEN : Hid ((∀ i, i < ml.length -> (msgAt ml i).1.L.any bigV = false) -> fitsM l = decide (weighM (l.take ml.length) < 6000)) := fun hall => by
  rw [<- hlen, List.take_length]
  refine fitsM_end fun m hm => ?_
  rw [<- hml] at hm
  obtain ⟨x, hx, rfl⟩ := List.mem_map.1 hm
  obtain ⟨i, hi, rfl⟩ := List.getElem_of_mem hx
  have := hall i hi
  rw [<- msgAt_get hi] at this
  exact this
 have H0 : Hid (weighM (l.take 0) = 0) := by show _ = _; rfl
 rw [hlen]
 generalize fitsM l = R at *
 generalize weighM l = WW at *
 have HBU : Hid (∀ (x : Msg × Lv) W, HasL W x -> bulkN x.1 <= 9223372036854775807 -> Calls Tryz.prog 22 #[.agg #[.string x.1.from_, .string x.1.to_, .string x.1.kind, .string x.1.key, .int .i64 x.1.op, .int .i64 x.1.config, .bool x.1.shut, .slice x.2.1 x.2.2.1 x.2.2.2]] W fun e w' => e = .returned (.int .i64 ((bulkN x.1 : Nat) : Int)) /\ Below W.heap.size W w') := fun x W hx hb => by
  have h := bulk_any x.1 x.2.1 x.2.2.2 W hx.recs hb
  rw [hx.len]
  exact h
 clear hr hh hml hlen hmem HG
 go_enter Tryz.func6, Tryz.ntmps6
 go_wp2
 go_loopw [3, 4] (fun nv x wr => ∃ i : Nat, i <= ml.length /\ x = .int .i64 i /\ nv = .int .i64 ((weighM (l.take i) : Nat) : Int) /\ (∀ j, j < i -> (msgAt ml j).1.L.any bigV = false) /\ Below w.heap.size w wr) (fun _ x _ => ml.length - (intOf x).toNat)
 case atStart => exact ⟨0, Nat.zero_le _, rfl, by rw [H0.out]; rfl, fun j hj => absurd hj (Nat.not_lt_zero _), Below.refl _ _⟩
 case round =>
  obtain ⟨i, hi, rfl, rfl, hall, hB⟩ := hrel
  obtain ⟨w1, rfl⟩ : ∃ w1, w1 = wr := ⟨_, rfl⟩
  have HB : Hid (Below w.heap.size w w1) := hB
  have HALL : Hid (∀ j, j < i -> (msgAt ml j).1.L.any bigV = false) := hall
  have hwi := HWL.out i
  clear hall
  by_cases hil : i < ml.length
  ·obtain ⟨b, o, hpp, hblt, d0, d1, d2, d3, d4, d5, d6, d7⟩ := msg_cells (HR.out.below hB) hil
   rw [msgAt_get hil] at d0 d1 d2 d3 d4 d5 d6 d7
   have hwo := HWO.out i hil
   have hwt := HWT.out i hil
   have hws := HWL.out (i + 1)
   rw [hwt] at hws
   have HHX : Hid (HasL w (msgAt ml i)) := HH.out _ (msgAt_mem hil)
   have HBX := HBU.out (msgAt ml i) w1 (HHX.out.below hB) (by omega)
   have HWTI : Hid (weighM (l.take (i + 1)) = weighM (l.take i) + (20 + bulkN (msgAt ml i).1)) := hwt
   have HBGI : Hid ((msgAt ml i).1.L.any bigV = true -> R = false) := HBG.out i hil
   have HNX : Hid ((msgAt ml i).1.L.any bigV = false -> ∀ j, j < i + 1 -> (msgAt ml j).1.L.any bigV = false) := fun hb j hj => by
    by_cases e : j = i
    ·rw [e]; exact hb
    ·exact HALL.out j (by omega)
   have hbl := bulkV_len (msgAt ml i).1.L
   have hbn : bulkV (msgAt ml i).1.L <= bulkN (msgAt ml i).1 := by unfold bulkN; omega
   subst hpp
   clear hwt hB HH HBU HWT HWL HWO HBG HALL
   generalize msgAt ml i = x at *
   generalize weighM (l.take i) = ni at *
   obtain ⟨⟨m1, m2, m3, m4, m5, m6, m7, mL⟩, lp, ln, lc⟩ := x
   have hln : ln = mL.length := HHX.out.len
   subst hln
   dsimp only at *
   generalize bulkN ⟨m1, m2, m3, m4, m5, m6, m7, mL⟩ = bn at *
   have HCE : Hid (∀ W, Below w1.heap.size w1 W -> W.cell? ⟨b, o + i * 8 + 7, none⟩ = some (.slice lp mL.length lc) /\ Rec verE W lp mL /\ Below w.heap.size w W) := fun W hW => ⟨(hW.cell (p := ⟨b, o + i * 8 + 7, none⟩) hblt).trans d7, (HHX.out.recs.below HB.out).below hW, HB.out.trans (hW.mono HB.out.size)⟩
   have HBI : Hid (∀ j, j < mL.length -> bigV (verAt mL j) = true -> mL.any bigV = true) := fun j hj hv => big_of_at hj hv
   have HBS : Hid (∀ j, j < mL.length -> (mL.take (j + 1)).any bigV = ((mL.take j).any bigV || bigV (verAt mL j))) := fun j hj => big_succ hj
   have HTK : Hid (mL.take mL.length = mL) := List.take_length
   go_wp2_with fail
   refine HBX.mono ?_
   rintro e w2 ⟨rfl, hb2⟩
   have HB12 : Hid (Below w1.heap.size w1 w2) := hb2
   have q7 := (HCE.out w2 hb2).1
   clear HBX hb2 d0 d1 d2 d3 d4 d5 d6 d7
   go_wp2
   go_loopw [5] (fun y wr => ∃ j : Nat, j <= mL.length /\ y = .int .i64 j /\ (mL.take j).any bigV = false /\ wr = w2) (fun y _ => mL.length - (intOf y).toNat)
   case atStart => exact ⟨0, Nat.zero_le _, rfl, rfl, rfl⟩
   case round =>
    obtain ⟨j, hj, rfl, hany, hwr⟩ := hrel
    subst hwr
    have HANY : Hid ((mL.take j).any bigV = false) := hany
    clear hany
    by_cases hjl : j < mL.length
    ·obtain ⟨b', o', hpp, hblt', v0, v1, v2, v3, v4⟩ := ver_cells (HCE.out wr HB12.out).2.1 hjl
     subst hpp
     have HS := HBS.out j hjl
     have HI := HBI.out j hjl
     have HBE : Hid (bigV (verAt mL j) = decide (200 < (verAt mL j).size /\ (verAt mL j).size <= 1000)) := by show _ = _; rfl
     rw [HANY.out, Bool.false_or] at HS
     have HSH : Hid ((mL.take (j + 1)).any bigV = bigV (verAt mL j)) := HS
     have HIH : Hid (bigV (verAt mL j) = true -> mL.any bigV = true) := HI
     clear HS HI v0 v1 v3 v4
     generalize verAt mL j = x at *
     obtain ⟨xn, xw, xs, xa, xt⟩ := x
     dsimp only at v2 HBE
     by_cases h1 : 200 < xs
     ·have d1 : decide (200 < xs) = true := decide_eq_true h1
      by_cases h2 : xs <= 1000
      ·have d2 : decide (xs <= 1000) = true := decide_eq_true h2
       have HR0 : Hid (R = false) := HBGI.out (HIH.out (by rw [HBE.out]; exact decide_eq_true ⟨h1, h2⟩))
       go_wp2
       go_ret
       exact ⟨by rw [HR0.out]; rfl, (HCE.out wr HB12.out).2.2⟩
      ·have d2 : decide (xs <= 1000) = false := decide_eq_false h2
       have HN : Hid ((mL.take (j + 1)).any bigV = false) := by show _ = _; rw [HSH.out, HBE.out]; exact decide_eq_false fun h => h2 h.2
       go_wp2
       go_roundw
       case rel => exact ⟨j + 1, by omega, by go_num, HN.out, trivial⟩
       case measure => simp [intOf]; omega
     ·have d1 : decide (200 < xs) = false := decide_eq_false h1
      have HN : Hid ((mL.take (j + 1)).any bigV = false) := by show _ = _; rw [HSH.out, HBE.out]; exact decide_eq_false fun h => h1 h.1
      go_wp2
      go_roundw
      case rel => exact ⟨j + 1, by omega, by go_num, HN.out, trivial⟩
      case measure => simp [intOf]; omega
    ·have hje : mL.take j = mL := List.take_of_length_le (by omega)
     have HN : Hid (mL.any bigV = false) := by have := HANY.out; rw [hje] at this; exact this
     have HW3 : Hid (((ni : Int) + 20 + (bn : Int)) = ((weighM (l.take (i + 1)) : Nat) : Int)) := by show _ = _; rw [HWTI.out]; omega
     clear hje HANY
     go_wp2
     go_roundw
     case rel => exact ⟨i + 1, by omega, by go_num, by rw [<- HW3.out], HNX.out HN.out, (HCE.out wr HB12.out).2.2⟩
     case measure => simp [intOf]; omega
  ·have HRE : Hid (R = decide (weighM (l.take ml.length) < 6000)) := HEN.out fun j hj => HALL.out j (by omega)
   have hie : i = ml.length := by omega
   rw [<- hie] at HRE
   clear hB hie
   generalize weighM (l.take i) = ni at *
   go_wp2
   go_ret
   exact ⟨ret_bool (by rw [HRE.out]; exact decide_eq_decide.2 (by omega)), HB.out⟩
end Go.Proofs.YtobmckfcipeanaaGreatDoor
