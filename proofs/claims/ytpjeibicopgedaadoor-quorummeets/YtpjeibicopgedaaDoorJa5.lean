/- Texts laid together. -/
import Derived.Test.YtpjeibicopgedaaDoorJa3
import Derived.Shelf.LaysM
import Derived.Shelf.Strconv.Clone
import Derived.Shelf.GgClosure.StringsIndexFuncTop
import Derived.Laws.RangeAny
namespace Go.Proofs
open Go.Shelf
def Tryd.lays316_ren : Go.Shelf.Ren := ⟨fun | 316 => 33 | n => n, fun | 9 => 9 | 3 => 3 | 4 => 4 | 37 => 82 | 0 => 0 | 127 => 83 | 5 => 5 | n => n, fun | n => n⟩
theorem Tryd.lays316 : Go.Proofs.LaysM.n316 Tryd.prog Tryd.lays316_ren := {
  mixed := by kernel_rfl
  f316 := Tryd.func33.trans (congrArg some (by kernel_rfl))
  t0 := Tryd.underlying0
  a0 := Tryd.isAgg0
  z0 := Tryd.sizeOf0
  v0 := Tryd.zeroValue0
  t3 := Tryd.underlying3
  a3 := Tryd.isAgg3
  z3 := Tryd.sizeOf3
  v3 := Tryd.zeroValue3
  t4 := Tryd.underlying4
  a4 := Tryd.isAgg4
  z4 := Tryd.sizeOf4
  v4 := Tryd.zeroValue4
  t9 := Tryd.underlying9
  a9 := Tryd.isAgg9
  z9 := Tryd.sizeOf9
  v9 := Tryd.zeroValue9
  t37 := Tryd.underlying82
  a37 := Tryd.isAgg82
  z37 := Tryd.sizeOf82
  v37 := Tryd.zeroValue82
  t127 := Tryd.underlying83
  a127 := Tryd.isAgg83
  z127 := Tryd.sizeOf83
  v127 := Tryd.zeroValue83
  t5 := Tryd.underlying5
  a5 := Tryd.isAgg5
  z5 := Tryd.sizeOf5
  v5 := Tryd.zeroValue5
  i0 := by kernel_rfl
  i3 := by kernel_rfl
  i4 := by kernel_rfl
  i5 := by kernel_rfl
  i9 := by kernel_rfl
  i37 := by kernel_rfl
  i127 := by kernel_rfl }
open Go.RowKit in
/-- internal/stringslite.Clone. -/
theorem Tryd.stringslite_Clone (s : ByteArray) (w : World) (hlim : s.size ≤ 281474976710656) :
    Calls Tryd.prog 33 #[.string s] w fun e w' => e = .returned (.string s) ∧ Below w.heap.size w w' := Any.stringslite_Clone Tryd.lays316 s w hlim
def Tryd.laysGw17_ren : Go.Shelf.Ren := ⟨fun | 17 => 40 | 15 => 44 | 20 => 45 | n => n, fun | 9 => 9 | 23 => 81 | 4 => 4 | 3 => 3 | 0 => 0 | 21 => 21 | n => n, fun | n => n⟩
theorem Tryd.laysGw17 : Go.Proofs.LaysGw.n17 Tryd.prog Tryd.laysGw17_ren := {
  mixed := by kernel_rfl
  f15 := Tryd.func44.trans (congrArg some (by kernel_rfl))
  f17 := Tryd.func40.trans (congrArg some (by kernel_rfl))
  f20 := Tryd.func45.trans (congrArg some (by kernel_rfl))
  t0 := Tryd.underlying0
  a0 := Tryd.isAgg0
  z0 := Tryd.sizeOf0
  v0 := Tryd.zeroValue0
  i0 := by kernel_rfl
  t3 := Tryd.underlying3
  a3 := Tryd.isAgg3
  z3 := Tryd.sizeOf3
  v3 := Tryd.zeroValue3
  i3 := by kernel_rfl
  t4 := Tryd.underlying4
  a4 := Tryd.isAgg4
  z4 := Tryd.sizeOf4
  v4 := Tryd.zeroValue4
  i4 := by kernel_rfl
  t9 := Tryd.underlying9
  a9 := Tryd.isAgg9
  z9 := Tryd.sizeOf9
  v9 := Tryd.zeroValue9
  i9 := by kernel_rfl
  t21 := Tryd.underlying21
  a21 := Tryd.isAgg21
  z21 := Tryd.sizeOf21
  v21 := Tryd.zeroValue21
  i21 := by kernel_rfl
  t23 := Tryd.underlying81
  a23 := Tryd.isAgg81
  z23 := Tryd.sizeOf81
  v23 := Tryd.zeroValue81
  i23 := by kernel_rfl }
open Go.RowKit in
/-- strings.ContainsFunc. -/
theorem Tryd.strings_ContainsFunc (g : Nat) (lb : Array Value) (eg : ∀ args w, (callFunc g args).run Tryd.prog w = .ok (.enter g args) w) (p : Nat → Bool) (s : ByteArray) (w : World) (hp : PredAt Tryd.prog g lb encR p w) :
    Calls Tryd.prog 40 #[.string s, .func (.func g) #[] lb] w fun e w' => e = .returned (.bool (decide (0 ≤ Lib.idxFunc p true s))) ∧ Below w.heap.size w w' := Any.strings_ContainsFunc Tryd.laysGw17 g lb eg p s w hp
end Go.Proofs
namespace Go.Proofs.YtpjeibicopgedaaDoor
open Go.RowKit
set_option maxRecDepth 10000 in
theorem bare_any (c : Int) (w : World) : Calls Tryd.prog 18 #[.int .i64 c] w fun e w' => e = .returned (.agg #[.int .i64 c, .int .i64 (-1)]) ∧ Below w.heap.size w w' := by
  go_enter Tryd.func18, Tryd.ntmps18
  go_wp2
  refine bodyPost_ret (v := .agg #[.int .i64 c, .int .i64 (-1)]) (by simp [results, Tryd.results18, go_sem]) rfl ⟨rfl, ?_⟩
  exact (Below.refl _ _).alloc (Nat.le_refl _) _
set_option maxRecDepth 10000 in
theorem fine_any (w : World) : Calls Tryd.prog 28 #[] w fun e w' => e = .returned (.agg #[.int .i64 0, .int .i64 (-1)]) ∧ Below w.heap.size w w' := by
  go_enter Tryd.func28, Tryd.ntmps28
  go_wp2
  refine bodyPost_ret (v := .agg #[.int .i64 0, .int .i64 (-1)]) (by simp [results, Tryd.results28, go_sem]) rfl ⟨rfl, ?_⟩
  exact (Below.refl _ _).alloc (Nat.le_refl _) _
/-- A cell pair that a call laid for its result, while nothing below is written. -/
theorem pair_kept (w : World) (t : TypeId) (wq : World) (hb : Below (w.alloc (.cells #[.int .i64 0, .int .i64 0] t)).heap.size (w.alloc (.cells #[.int .i64 0, .int .i64 0] t)) wq) :
    wq.cell? ⟨w.heap.size, 0, none⟩ = some (.int .i64 0) ∧ wq.cell? ⟨w.heap.size, 1, none⟩ = some (.int .i64 0) ∧ wq.frozen? ⟨w.heap.size, 0, none⟩ = false ∧ wq.frozen? ⟨w.heap.size, 1, none⟩ = false := by
  have hlt : w.heap.size < (w.alloc (.cells #[.int .i64 0, .int .i64 0] t)).heap.size := by simp
  refine ⟨(hb.cell (p := ⟨w.heap.size, 0, none⟩) hlt).trans ?_, (hb.cell (p := ⟨w.heap.size, 1, none⟩) hlt).trans ?_, (hb.frozen (p := ⟨w.heap.size, 0, none⟩) hlt).trans ?_, (hb.frozen (p := ⟨w.heap.size, 1, none⟩) hlt).trans ?_⟩
  · rw [World.cell?_alloc_at _ _ _ _ rfl]; rfl
  · rw [World.cell?_alloc_at _ _ _ _ rfl]; rfl
  · unfold World.frozen?; rw [heap_alloc_new]; rfl
  · unfold World.frozen?; rw [heap_alloc_new]; rfl
theorem pair_below {w wq : World} {t : TypeId} (hb : Below (w.alloc (.cells #[.int .i64 0, .int .i64 0] t)).heap.size (w.alloc (.cells #[.int .i64 0, .int .i64 0] t)) wq) : Below w.heap.size w wq :=
  ((Below.refl _ w).alloc (Nat.le_refl _) _).trans (hb.mono (by simp))
theorem pair_set {w wq : World} (hb : Below w.heap.size w wq) (a b : Value) : Below w.heap.size w ((wq.setCell ⟨w.heap.size, 0, none⟩ a).setCell ⟨w.heap.size, 1, none⟩ b) := by
  refine (hb.setCell ?_ _).setCell ?_ _ <;> exact Nat.le_refl _
set_option maxRecDepth 10000 in
set_option maxHeartbeats 4000000 in
theorem nodesFault_bound (p : Option Addr) (l : List ByteArray) (c : Nat) (w : World) (hl : l.length ≤ 1000000) (h : l.length < 1 ∨ 16 < l.length) :
    Calls Tryd.prog 19 #[.slice p l.length c] w fun e w' => e = .returned (.agg #[.int .i64 2, .int .i64 (-1)]) ∧ Below w.heap.size w w' := by
  rcases h with h | h
  · go_enter Tryd.func19, Tryd.ntmps19
    go_wp2_with fail
    refine (bare_any 2 _).mono ?_
    rintro e w1 ⟨rfl, hb1⟩
    obtain ⟨q1, q2, f1, f2⟩ := pair_kept w _ w1 hb1
    have HB : Hid (Below w.heap.size w w1) := pair_below hb1
    clear hb1
    go_wp2
    refine bodyPost_ret (v := .agg #[.int .i64 2, .int .i64 (-1)]) (by simp [results, Tryd.results19, go_sem, q1, q2]) rfl ⟨rfl, pair_set HB.out _ _⟩
  · go_enter Tryd.func19, Tryd.ntmps19
    go_wp2_with fail
    refine (bare_any 2 _).mono ?_
    rintro e w1 ⟨rfl, hb1⟩
    obtain ⟨q1, q2, f1, f2⟩ := pair_kept w _ w1 hb1
    have HB : Hid (Below w.heap.size w w1) := pair_below hb1
    clear hb1
    go_wp2
    refine bodyPost_ret (v := .agg #[.int .i64 2, .int .i64 (-1)]) (by simp [results, Tryd.results19, go_sem, q1, q2]) rfl ⟨rfl, pair_set HB.out _ _⟩
set_option maxRecDepth 10000 in
set_option maxHeartbeats 4000000 in
theorem nodesFault_scan (p : Option Addr) (l : List ByteArray) (c : Nat) (w : World) (h1 : ¬ l.length < 1) (h2 : ¬ 16 < l.length) (hc : l.length ≤ c) (ht : ∀ x ∈ l, x.size ≤ 1000000) (hs : Strs w p l) :
    Calls Tryd.prog 19 #[.slice p l.length c] w fun e w' => e = .returned (.agg #[.int .i64 (scanF l 0 l.length).1, .int .i64 (scanF l 0 l.length).2]) ∧ Below w.heap.size w w' := by
  have HT : Hid (∀ i, i < l.length → (txt l i).size ≤ 1000000) := fun i hi => ht _ (txt_mem hi)
  have HS : Hid (Strs w p l) := hs
  have g1 : decide ((l.length : Int) < 1) = false := decide_eq_false (by omega)
  have g2 : decide (16 < (l.length : Int)) = false := decide_eq_false (by omega)
  obtain ⟨b, o, rfl⟩ : ∃ b o, p = some ⟨b, o, none⟩ := by
    rcases hs with h0 | ⟨b, o, hp, _⟩
    · rw [h0] at h1; exact absurd (by decide) h1
    · exact ⟨b, o, hp⟩
  clear hs ht
  obtain ⟨R, hR⟩ : ∃ R, R = scanF l 0 l.length := ⟨_, rfl⟩
  rw [← hR]
  have HR : Hid (R = scanF l 0 l.length) := hR
  clear hR
  go_enter Tryd.func19, Tryd.ntmps19
  go_wp2
  have HB0 : Hid (Below (w.alloc (.cells #[.int .i64 0, .int .i64 0] 28)).heap.size (w.alloc (.cells #[.int .i64 0, .int .i64 0] 28)) (w.alloc (.cells #[.int .i64 0, .int .i64 0] 28))) := Below.refl _ _
  have HK : Hid (∀ wq, Below (w.alloc (.cells #[.int .i64 0, .int .i64 0] 28)).heap.size (w.alloc (.cells #[.int .i64 0, .int .i64 0] 28)) wq → (wq.cell? ⟨w.heap.size, 0, none⟩ = some (.int .i64 0) ∧ wq.cell? ⟨w.heap.size, 1, none⟩ = some (.int .i64 0) ∧ wq.frozen? ⟨w.heap.size, 0, none⟩ = false ∧ wq.frozen? ⟨w.heap.size, 1, none⟩ = false) ∧ Below w.heap.size w wq) := fun wq h => ⟨pair_kept w _ wq h, pair_below h⟩
  generalize w.alloc (.cells #[.int .i64 0, .int .i64 0] 28) = w0 at HB0 HK ⊢
  go_loopw [3] (fun x wq => ∃ i : Nat, i ≤ l.length ∧ x = .int .i64 i ∧ scanF l i (l.length - i) = R ∧ Below w0.heap.size w0 wq) (fun x _ => l.length - (intOf x).toNat)
  case atStart => exact ⟨0, Nat.zero_le _, rfl, HR.out.symm, HB0.out⟩
  case round =>
    obtain ⟨i, hi, rfl, hsc, hbq⟩ := hrel
    obtain ⟨w1, rfl⟩ : ∃ w1, w1 = wr := ⟨_, rfl⟩
    have HSC : Hid (scanF l i (l.length - i) = R) := hsc
    have HBQ : Hid (Below w0.heap.size w0 w1) := hbq
    obtain ⟨⟨q1, q2, f1, f2⟩, hbw⟩ := HK.out w1 hbq
    have HBW : Hid (Below w.heap.size w w1) := hbw
    have HS1 : Hid (Strs w1 (some ⟨b, o, none⟩) l) := HS.out.below hbw
    clear hsc hbq hbw HR
    by_cases hil : i < l.length
    · have q3 : w1.cell? ⟨b, o + i, none⟩ = some (.string (txt l i)) := by
        rcases HS1.out with h0 | ⟨b', o', hp, _, hcell⟩
        · rw [h0] at hil; exact absurd hil (Nat.not_lt_zero _)
        · obtain ⟨rfl, rfl⟩ : b = b' ∧ o = o' := by simpa using hp
          exact hcell i hil
      have HNAME : Hid (∀ W, Calls Tryd.prog 27 #[.string (txt l i)] W fun e w' => e = .returned (.bool (isN (txt l i))) ∧ w' = W) := fun W => isName_any _ W (HT.out i hil)
      have HTAKE : Hid ((l.take i).length = i) := by show _ = _; rw [List.length_take]; omega
      have HSUC : Hid (scanF l i (l.length - i) = if faultAt l i = 0 then scanF l (i + 1) (l.length - (i + 1)) else (((faultAt l i : Nat) : Int), (i : Int))) := by
        show _ = _
        rw [show l.length - i = (l.length - (i + 1)) + 1 by omega]
        rfl
      by_cases hN : isN (txt l i) = true
      · by_cases hM : txt l i ∈ l.take i
        · have HA : Hid (R = (6, (i : Int))) := by
            show _ = _
            rw [← HSC.out, HSUC.out, faultAt_twice hN hM, if_neg (by decide)]
            rfl
          have HIX : Hid (∀ W, Strs W (some ⟨b, o, none⟩) (l.take i) → Calls Tryd.prog 14 #[.slice (some ⟨b, o, none⟩) (l.take i).length c, .string (txt l i)] W fun e w' => e = .returned (.int .i64 ((idxN (l.take i) (txt l i) : Nat) : Int)) ∧ w' = W) := fun W hW => index_hit _ _ c _ W (by rw [List.length_take]; omega) hW hM
          rw [hN] at HNAME
          rw [HTAKE.out] at HIX
          have HST : Hid (Strs w1 (some ⟨b, o, none⟩) (l.take i)) := HS1.out.take i
          clear HSC HSUC HT HTAKE hN hM
          generalize idxN (l.take i) (txt l i) = k at *
          generalize txt l i = t at *
          go_wp2_with fail
          refine (HNAME.out _).mono ?_
          rintro e w2 ⟨rfl, hw2⟩
          rw [hw2]
          clear hw2 w2 HNAME
          go_wp2
          go_quiet ((go_at_call 14; exact Calls.quiet_of_same (HIX.out _ (HST.out.drewN _))))
          go_wp2
          refine bodyPost_ret (v := .agg #[.int .i64 R.1, .int .i64 R.2]) (by rw [HA.out]; simp [results, Tryd.results19, go_sem, q1, q2]) rfl ⟨rfl, ?_⟩
          exact pair_set (below_drewN HBW.out _) _ _
        · have HA : Hid (scanF l (i + 1) (l.length - (i + 1)) = R) := by
            show _ = _
            rw [← HSC.out, HSUC.out, faultAt_fine hN hM, if_pos rfl]
          have HIX : Hid (∀ W, Strs W (some ⟨b, o, none⟩) (l.take i) → Calls Tryd.prog 14 #[.slice (some ⟨b, o, none⟩) (l.take i).length c, .string (txt l i)] W fun e w' => e = .returned (.int .i64 (-1)) ∧ w' = W) := fun W hW => index_miss _ _ c _ W (by rw [List.length_take]; omega) hW hM
          rw [hN] at HNAME
          rw [HTAKE.out] at HIX
          have HST : Hid (Strs w1 (some ⟨b, o, none⟩) (l.take i)) := HS1.out.take i
          clear HSC HSUC HT HTAKE hN hM
          generalize txt l i = t at *
          go_wp2_with fail
          refine (HNAME.out _).mono ?_
          rintro e w2 ⟨rfl, hw2⟩
          rw [hw2]
          clear hw2 w2 HNAME
          go_wp2
          go_quiet ((go_at_call 14; exact Calls.quiet_of_same (HIX.out _ (HST.out.drewN _))))
          go_wp2
          go_roundw
          case rel => exact ⟨i + 1, by omega, by go_num, HA.out, below_drewN HBQ.out _⟩
          case measure => simp [intOf]; omega
      · have hN' : isN (txt l i) = false := Bool.eq_false_iff.2 hN
        have HA : Hid (R = (4, (i : Int))) := by
          show _ = _
          rw [← HSC.out, HSUC.out, faultAt_name hN', if_neg (by decide)]
          rfl
        rw [hN'] at HNAME
        clear HSC HSUC HT HTAKE hN hN'
        generalize txt l i = t at *
        go_wp2_with fail
        refine (HNAME.out _).mono ?_
        rintro e w2 ⟨rfl, hw2⟩
        rw [hw2]
        clear hw2 w2 HNAME
        go_wp2
        refine bodyPost_ret (v := .agg #[.int .i64 R.1, .int .i64 R.2]) (by rw [HA.out]; simp [results, Tryd.results19, go_sem, q1, q2]) rfl ⟨rfl, ?_⟩
        exact pair_set HBW.out _ _
    · have hie : i = l.length := by omega
      subst hie
      have HA : Hid (R = (0, -1)) := by
        show _ = _
        rw [← HSC.out, Nat.sub_self]
        rfl
      clear HSC
      go_wp2_with fail
      refine (fine_any _).mono ?_
      rintro e w2 ⟨rfl, hb2⟩
      obtain ⟨⟨r1, r2, e1, e2⟩, hbw⟩ := HK.out w2 (HBQ.out.trans (hb2.mono HBQ.out.size))
      clear q1 q2 f1 f2 hb2
      go_wp2
      refine bodyPost_ret (v := .agg #[.int .i64 R.1, .int .i64 R.2]) (by rw [HA.out]; simp [results, Tryd.results19, go_sem, r1, r2]) rfl ⟨rfl, ?_⟩
      exact pair_set hbw _ _
theorem nodesFault_any (p : Option Addr) (l : List ByteArray) (c : Nat) (w : World) (hl : l.length ≤ 1000000) (hc : l.length ≤ c) (ht : ∀ x ∈ l, x.size ≤ 1000000) (hs : Strs w p l) :
    Calls Tryd.prog 19 #[.slice p l.length c] w fun e w' => e = .returned (.agg #[.int .i64 (nodesF l).1, .int .i64 (nodesF l).2]) ∧ Below w.heap.size w w' := by
  by_cases h : l.length < 1 ∨ 16 < l.length
  · rw [nodesF_bound h]
    exact nodesFault_bound p l c w hl h
  · rw [nodesF_scan (by omega) (by omega)]
    exact nodesFault_scan p l c w (by omega) (by omega) hc ht hs
theorem box_set {w wq : World} (hb : Below w.heap.size w wq) (a b : Value) : Below w.heap.size w ((wq.setCell ⟨w.heap.size + 1, 0, none⟩ a).setCell ⟨w.heap.size + 1, 1, none⟩ b) :=
  (hb.setCell (p := ⟨w.heap.size + 1, 0, none⟩) (by show w.heap.size ≤ w.heap.size + 1; omega) _).setCell (p := ⟨w.heap.size + 1, 1, none⟩) (by show w.heap.size ≤ w.heap.size + 1; omega) _
set_option maxRecDepth 10000 in
set_option maxHeartbeats 4000000 in
theorem rcfg_any (c : Cfg) (p : Option Addr) (cap : Nat) (w : World) (hc : CfgAt w c p cap) :
    Calls Tryd.prog 7 #[cfgA c (.slice p c.L.length cap)] w fun e w' => e = .returned (.agg #[.int .i64 (cfgF c).1, .int .i64 (cfgF c).2]) ∧ Below w.heap.size w w' := by
  obtain ⟨hs, hcap, hnn, hlen, hsz, hin⟩ := hc
  obtain ⟨w1, hw1⟩ : ∃ w1, w1 = (w.alloc (.cells #[.int .i64 c.n, .int .i64 c.k, .slice p c.L.length cap] 24)).alloc (.cells #[.int .i64 0, .int .i64 0] 28) := ⟨_, rfl⟩
  have HW1 : Hid (w1 = (w.alloc (.cells #[.int .i64 c.n, .int .i64 c.k, .slice p c.L.length cap] 24)).alloc (.cells #[.int .i64 0, .int .i64 0] 28)) := hw1
  have e2 : (w.alloc (.cells #[.int .i64 c.n, .int .i64 c.k, .slice p c.L.length cap] 24)).heap.size = w.heap.size + 1 := by simp
  have hb1 : Below w.heap.size w w1 := by rw [hw1]; exact ((Below.refl _ _).alloc (Nat.le_refl _) _).alloc (by rw [e2]; omega) _
  have hx1 : w1.heap[w.heap.size]? = some (.cells #[.int .i64 c.n, .int .i64 c.k, .slice p c.L.length cap] 24 (0, 0)) := by
    rw [hw1, heap_alloc_old _ _ (by rw [e2]; omega)]
    exact heap_alloc_new _ _
  have hy1 : w1.heap[w.heap.size + 1]? = some (.cells #[.int .i64 0, .int .i64 0] 28 (0, 0)) := by
    rw [hw1, ← e2]
    exact heap_alloc_new _ _
  have hl1 := (Array.getElem?_eq_some_iff.1 hy1).1
  have HKE : Hid (∀ W, Below w1.heap.size w1 W → W.cell? ⟨w.heap.size + 1, 0, none⟩ = some (.int .i64 0) ∧ W.cell? ⟨w.heap.size + 1, 1, none⟩ = some (.int .i64 0) ∧ (∀ i, W.frozen? ⟨w.heap.size + 1, i, none⟩ = false) ∧ Below w.heap.size w W) := fun W hW => by
    have hy := (hW.block _ hl1).trans hy1
    exact ⟨by simp [World.cell?, hy], by simp [World.cell?, hy], fun i => by simp [World.frozen?, hy], hb1.trans (hW.mono hb1.size)⟩
  have q0 : w1.cell? ⟨w.heap.size, 0, none⟩ = some (.int .i64 c.n) := by simp [World.cell?, hx1]
  have q1 : w1.cell? ⟨w.heap.size, 1, none⟩ = some (.int .i64 c.k) := by simp [World.cell?, hx1]
  have q2 : w1.cell? ⟨w.heap.size, 2, none⟩ = some (.slice p c.L.length cap) := by simp [World.cell?, hx1]
  have HBA : Hid (∀ (x : Int) (W : World), Calls Tryd.prog 18 #[.int .i64 x] W fun e w' => e = .returned (.agg #[.int .i64 x, .int .i64 (-1)]) ∧ Below W.heap.size W w') := fun x W => bare_any x W
  by_cases h1 : 1 ≤ c.k ∧ c.k ≤ c.n ∧ c.n ≤ 12
  · have HIS : Hid (Calls Tryd.prog 17 #[.int .i64 c.n, .int .i64 c.k] w1 fun e w' => e = .returned (.bool true) ∧ w' = w1) := isSpread_yes c.n c.k w1 h1.1 h1.2.1 h1.2.2
    by_cases h2 : (c.L.length : Int) = c.n
    · have HNF : Hid (Calls Tryd.prog 19 #[.slice p c.L.length cap] w1 fun e w' => e = .returned (.agg #[.int .i64 (nodesF c.L).1, .int .i64 (nodesF c.L).2]) ∧ Below w1.heap.size w1 w') := nodesFault_any p c.L cap w1 (by omega) hcap (fun x hx => by have := hsz x hx; omega) (hs.below hb1)
      rw [cfgF_nodes h1 h2]
      clear hw1 hb1 hx1 hy1 hl1 e2 hs hin HBA
      generalize nodesF c.L = F at *
      obtain ⟨cn, ck, L⟩ := c
      obtain ⟨F1, F2⟩ := F
      unfold cfgA
      simp only [] at *
      have d1 : ((L.length : Int) == cn) = true := by simpa using h2
      go_enter Tryd.func7, Tryd.ntmps7
      go_wp2_with fail
      rw [← HW1.out]
      refine HIS.out.mono ?_
      rintro e w2 ⟨rfl, hw2⟩
      rw [hw2]
      clear hw2 w2 HIS
      go_wp2_with fail
      refine HNF.out.mono ?_
      rintro e w3 ⟨rfl, hb3⟩
      obtain ⟨z0, z1, z2, hlow⟩ := HKE.out w3 hb3
      have HB3 : Hid (Below w.heap.size w w3) := hlow
      clear hb3 hlow HNF
      go_wp2
      refine bodyPost_ret (v := .agg #[.int .i64 F1, .int .i64 F2]) (by simp [results, Tryd.results7, go_sem, z0, z1]) rfl ⟨rfl, box_set HB3.out _ _⟩
    · rw [cfgF_shape h1 h2]
      clear hw1 hb1 hx1 hy1 hl1 e2 hs hin
      obtain ⟨cn, ck, L⟩ := c
      unfold cfgA
      simp only [] at *
      have d1 : ((L.length : Int) == cn) = false := by simpa using h2
      have d2 : ((L.length : Int) != cn) = true := by simpa using h2
      go_enter Tryd.func7, Tryd.ntmps7
      go_wp2_with fail
      rw [← HW1.out]
      refine HIS.out.mono ?_
      rintro e w2 ⟨rfl, hw2⟩
      rw [hw2]
      clear hw2 w2 HIS
      go_wp2_with fail
      refine (HBA.out 3 w1).mono ?_
      rintro e w3 ⟨rfl, hb3⟩
      obtain ⟨z0, z1, z2, hlow⟩ := HKE.out w3 hb3
      have HB3 : Hid (Below w.heap.size w w3) := hlow
      clear hb3 hlow
      go_wp2
      refine bodyPost_ret (v := .agg #[.int .i64 3, .int .i64 (-1)]) (by simp [results, Tryd.results7, go_sem, z0, z1]) rfl ⟨rfl, box_set HB3.out _ _⟩
  · have HIS : Hid (Calls Tryd.prog 17 #[.int .i64 c.n, .int .i64 c.k] w1 fun e w' => e = .returned (.bool false) ∧ w' = w1) := isSpread_no c.n c.k w1 h1
    rw [cfgF_bound h1]
    clear hw1 hb1 hx1 hy1 hl1 e2 hs hin h1
    obtain ⟨cn, ck, L⟩ := c
    unfold cfgA
    simp only [] at *
    go_enter Tryd.func7, Tryd.ntmps7
    go_wp2_with fail
    rw [← HW1.out]
    refine HIS.out.mono ?_
    rintro e w2 ⟨rfl, hw2⟩
    rw [hw2]
    clear hw2 w2 HIS
    go_wp2_with fail
    refine (HBA.out 2 w1).mono ?_
    rintro e w3 ⟨rfl, hb3⟩
    obtain ⟨z0, z1, z2, hlow⟩ := HKE.out w3 hb3
    have HB3 : Hid (Below w.heap.size w w3) := hlow
    clear hb3 hlow
    go_wp2
    refine bodyPost_ret (v := .agg #[.int .i64 2, .int .i64 (-1)]) (by simp [results, Tryd.results7, go_sem, z0, z1]) rfl ⟨rfl, box_set HB3.out _ _⟩
set_option maxRecDepth 10000 in
set_option maxHeartbeats 2000000 in
theorem renough_any (c : Cfg) (lv : Value) (hlv : ∃ p n d, lv = .slice p n d) (w : World) (h : 1 ≤ c.k ∧ c.k ≤ c.n ∧ c.n ≤ 12) :
    Calls Tryd.prog 13 #[cfgA c lv] w fun e w' => e = .returned (.int .i64 ((enoughN c : Nat) : Int)) ∧ Below w.heap.size w w' := by
  obtain ⟨p, nn, d, rfl⟩ := hlv
  obtain ⟨w1, hw1⟩ : ∃ w1, w1 = w.alloc (.cells #[.int .i64 c.n, .int .i64 c.k, .slice p nn d] 24) := ⟨_, rfl⟩
  have HW1 : Hid (w1 = w.alloc (.cells #[.int .i64 c.n, .int .i64 c.k, .slice p nn d] 24)) := hw1
  have HB1 : Hid (Below w.heap.size w w1) := by rw [hw1]; exact (Below.refl _ _).alloc (Nat.le_refl _) _
  have q0 : w1.cell? ⟨w.heap.size, 0, none⟩ = some (.int .i64 c.n) := by rw [hw1, World.cell?_alloc_at _ _ _ _ rfl]; rfl
  have q1 : w1.cell? ⟨w.heap.size, 1, none⟩ = some (.int .i64 c.k) := by rw [hw1, World.cell?_alloc_at _ _ _ _ rfl]; rfl
  have HE : Hid (enoughN c = (c.n.toNat + c.k.toNat + 1) / 2) := by show _ = _; rfl
  generalize enoughN c = E at *
  obtain ⟨cn, ck, L⟩ := c
  unfold cfgA
  simp only [] at *
  obtain ⟨nn', rfl⟩ := Int.eq_ofNat_of_zero_le (show 0 ≤ cn by omega)
  obtain ⟨kk, rfl⟩ := Int.eq_ofNat_of_zero_le (show 0 ≤ ck by omega)
  have hE : E = (nn' + kk + 1) / 2 := HE.out
  clear hw1 HE
  go_enter Tryd.func13, Tryd.ntmps13
  go_wp2
  rw [show w.alloc (.cells #[.int .i64 (nn' : Int), .int .i64 (kk : Int), .slice p nn d] 24) = w1 from HW1.out.symm]
  clear HW1
  have hn12 : nn' ≤ 12 := by omega
  have hk12 : kk ≤ 12 := by omega
  go_loopw [3] (fun x wr => ∃ i : Nat, i ≤ E ∧ x = .int .i64 i ∧ wr = w1) (fun x _ => E - (intOf x).toNat)
  case atStart => exact ⟨0, Nat.zero_le _, rfl, rfl⟩
  case round =>
    obtain ⟨i, hi, rfl, hwr⟩ := hrel
    subst hwr
    by_cases hil : i < E
    · have d1 : decide (2 * (i : Int) < (nn' : Int) + (kk : Int)) = true := decide_eq_true (by omega)
      go_wp2
      go_roundw
      case rel => exact ⟨i + 1, by omega, by go_num, trivial⟩
      case measure => simp [intOf]; omega
    · obtain rfl : i = E := by omega
      have d1 : decide (2 * (i : Int) < (nn' : Int) + (kk : Int)) = false := decide_eq_false (by omega)
      go_wp2
      go_ret
      exact ⟨rfl, HB1.out⟩
set_option maxRecDepth 10000 in
set_option maxHeartbeats 2000000 in
theorem sameTexts_any (pa pb : Option Addr) (l m : List ByteArray) (ca cb : Nat) (w : World) (hl : l.length ≤ 1000000) (_hm : m.length ≤ 1000000) (ha : Strs w pa l) (hb : Strs w pb m) :
    Calls Tryd.prog 15 #[.slice pa l.length ca, .slice pb m.length cb] w fun e w' => e = .returned (.bool (decide (l = m))) ∧ Below w.heap.size w w' := by
  by_cases hlen : l.length = m.length
  · have HT : Hid ((∀ i, i < l.length → txt l i = txt m i) → decide (l = m) = true) := fun h => decide_eq_true (txt_ext hlen h)
    have HF : Hid (∀ i, i < l.length → txt l i ≠ txt m i → decide (l = m) = false) := fun i _ h => decide_eq_false (fun e => h (by rw [e]))
    generalize decide (l = m) = r at *
    have HM : Hid (m.length = l.length) := hlen.symm
    rw [← hlen]
    clear hlen
    go_enter Tryd.func15, Tryd.ntmps15
    go_wp2
    go_loopw [5] (fun x wq => ∃ i : Nat, i ≤ l.length ∧ x = .int .i64 i ∧ (∀ j, j < i → txt l j = txt m j) ∧ ∃ n, wq = w.drewN n) (fun x _ => l.length - (intOf x).toNat)
    case atStart => exact ⟨0, Nat.zero_le _, rfl, fun j hj => absurd hj (Nat.not_lt_zero _), 0, rfl⟩
    case round =>
      obtain ⟨i, hi, rfl, hall, n, hw⟩ := hrel
      obtain ⟨w1, rfl⟩ : ∃ w1, w1 = wr := ⟨_, rfl⟩
      have HALL : Hid (∀ j, j < i → txt l j = txt m j) := hall
      have HW : Hid (∃ n, w1 = w.drewN n) := ⟨n, hw⟩
      have HA : Hid (Strs w1 pa l) := by show Strs w1 pa l; rw [hw]; exact ha.drewN n
      have HB : Hid (Strs w1 pb m) := by show Strs w1 pb m; rw [hw]; exact hb.drewN n
      clear hw hall
      by_cases hil : i < l.length
      · rcases HA.out with h0 | ⟨b1, o1, rfl, hlt1, hc1⟩
        · rw [h0] at hil; exact absurd hil (Nat.not_lt_zero _)
        rcases HB.out with h0 | ⟨b2, o2, rfl, hlt2, hc2⟩
        · have := HM.out; rw [h0] at this; have h3 : (0 : Nat) = l.length := this; omega
        have q1 := hc1 i hil
        have q2 := hc2 i (by have := HM.out; omega)
        clear hc1 hc2 HA HB
        by_cases he : txt l i = txt m i
        · have HE : Hid (txt l i = txt m i) := he
          rw [← he] at q2
          clear he
          generalize hti : txt l i = t at *
          have HTI : Hid (txt l i = t) := hti
          clear hti
          go_wp2
          go_quiet (fail)
          go_wp2
          go_roundw
          case rel => exact ⟨i + 1, by omega, by go_num, fun j hj => by
            rcases Nat.lt_or_ge j i with h | h
            · exact HALL.out j h
            · obtain rfl : j = i := by omega
              rw [HTI.out]; exact HE.out, by obtain ⟨n, hn⟩ := HW.out; exact ⟨_, by rw [hn, World.drewN_drewN]⟩⟩
          case measure => simp [intOf]; omega
        · have HR : Hid (r = false) := HF.out i hil he
          have d1 := toList_ne he
          have d2 := toList_beq he
          have d3 := bytes_beq he
          clear he HF HT HALL
          generalize txt l i = t at *
          generalize txt m i = u at *
          go_wp2
          go_quiet (fail)
          go_wp2
          go_ret
          exact ⟨by rw [HR.out]; rfl, by obtain ⟨n, hn⟩ := HW.out; rw [hn]; exact below_drewN (below_drewN (Below.refl _ _) n) _⟩
      · have HR : Hid (r = true) := HT.out (fun j hj => HALL.out j (by omega))
        go_wp2
        go_ret
        exact ⟨by rw [HR.out]; rfl, by obtain ⟨n, hn⟩ := HW.out; rw [hn]; exact below_drewN (Below.refl _ _) n⟩
  · have HR : Hid (decide (l = m) = false) := decide_eq_false (fun e => hlen (by rw [e]))
    rw [HR.out]
    have h6 : ((l.length : Int) != (m.length : Int)) = true := by rw [bne_iff_ne]; omega
    clear hlen
    go_enter Tryd.func15, Tryd.ntmps15
    go_wp2
    go_ret
    exact ⟨rfl, Below.refl _ _⟩
set_option maxRecDepth 10000 in
theorem sclone_any (t : ByteArray) (w : World) (ht : t.size ≤ 140737488351232) : Calls Tryd.prog 26 #[.string t] w fun e w' => e = .returned (.string t) ∧ Below w.heap.size w w' := by
  have HC : Hid (∀ W, Calls Tryd.prog 33 #[.string t] W fun e w' => e = .returned (.string t) ∧ Below W.heap.size W w') := fun W => Tryd.stringslite_Clone t W (by omega)
  go_enter Tryd.func26, Tryd.ntmps26
  go_wp2_with fail
  refine (HC.out _).mono ?_
  rintro e w1 ⟨rfl, hb1⟩
  have HB1 : Hid (Below w.heap.size w w1) := hb1
  clear hb1
  go_wp2
  go_ret
  exact ⟨rfl, HB1.out⟩
set_option maxRecDepth 10000 in
set_option maxHeartbeats 1000000 in
theorem sign_any (r : Nat) (W : World) : Calls Tryd.prog 41 #[.int .i32 (r : Int)] W fun e w' => e = .returned (.bool (!letterB r)) ∧ w' = W := by
  have key : ∀ b, letterB r = b → Hid ((!letterB r) = (!b)) := fun b h => by show _ = _; rw [h]
  rcases (show (97 ≤ r ∧ r ≤ 122) ∨ (48 ≤ r ∧ r ≤ 57) ∨ r = 45 ∨ 122 < r ∨ (57 < r ∧ r < 97) ∨ (r < 48 ∧ r ≠ 45) by omega) with hc | hc | hc | hc | hc | hc
  · have HL := key true (by simp [letterB, hc])
    obtain ⟨hc1, hc2⟩ := hc
    have d1 : decide ((r : Int) < 97) = false := decide_eq_false (by omega)
    have d2 : decide (122 < (r : Int)) = false := decide_eq_false (by omega)
    rw [HL.out]
    clear key
    go_enter Tryd.func41, Tryd.ntmps41
    go_wp2
    go_ret
    exact ⟨rfl, rfl⟩
  · have HL := key true (by simp [letterB, hc])
    obtain ⟨hc1, hc2⟩ := hc
    have d1 : decide ((r : Int) < 97) = true := decide_eq_true (by omega)
    have d3 : decide ((r : Int) < 48) = false := decide_eq_false (by omega)
    have d4 : decide (57 < (r : Int)) = false := decide_eq_false (by omega)
    rw [HL.out]
    clear key
    go_enter Tryd.func41, Tryd.ntmps41
    go_wp2
    go_ret
    exact ⟨rfl, rfl⟩
  · have HL := key true (by simp [letterB, hc])
    subst hc
    rw [HL.out]
    clear key
    go_enter Tryd.func41, Tryd.ntmps41
    go_wp2
    go_ret
    exact ⟨rfl, rfl⟩
  · have HL := key false (by unfold letterB; rw [decide_eq_false (by omega), decide_eq_false (by omega), decide_eq_false (by omega)]; rfl)
    have d1 : decide ((r : Int) < 97) = false := decide_eq_false (by omega)
    have d2 : decide (122 < (r : Int)) = true := decide_eq_true (by omega)
    have d3 : decide ((r : Int) < 48) = false := decide_eq_false (by omega)
    have d4 : decide (57 < (r : Int)) = true := decide_eq_true (by omega)
    have d5 : ((r : Int) != 45) = true := by rw [bne_iff_ne]; omega
    have d6 : ((r : Int) == 45) = false := by rw [beq_eq_false_iff_ne]; omega
    rw [HL.out]
    clear key
    go_enter Tryd.func41, Tryd.ntmps41
    go_wp2
    go_ret
    exact ⟨rfl, rfl⟩
  · have HL := key false (by unfold letterB; rw [decide_eq_false (by omega), decide_eq_false (by omega), decide_eq_false (by omega)]; rfl)
    obtain ⟨hc1, hc2⟩ := hc
    have d1 : decide ((r : Int) < 97) = true := decide_eq_true (by omega)
    have d3 : decide ((r : Int) < 48) = false := decide_eq_false (by omega)
    have d4 : decide (57 < (r : Int)) = true := decide_eq_true (by omega)
    have d5 : ((r : Int) != 45) = true := by rw [bne_iff_ne]; omega
    have d6 : ((r : Int) == 45) = false := by rw [beq_eq_false_iff_ne]; omega
    rw [HL.out]
    clear key
    go_enter Tryd.func41, Tryd.ntmps41
    go_wp2
    go_ret
    exact ⟨rfl, rfl⟩
  · have HL := key false (by unfold letterB; rw [decide_eq_false (by omega), decide_eq_false (by omega), decide_eq_false (by omega)]; rfl)
    obtain ⟨hc1, hc2⟩ := hc
    have d1 : decide ((r : Int) < 97) = true := decide_eq_true (by omega)
    have d3 : decide ((r : Int) < 48) = true := decide_eq_true (by omega)
    have d5 : ((r : Int) != 45) = true := by rw [bne_iff_ne]; omega
    have d6 : ((r : Int) == 45) = false := by rw [beq_eq_false_iff_ne]; omega
    rw [HL.out]
    clear key
    go_enter Tryd.func41, Tryd.ntmps41
    go_wp2
    go_ret
    exact ⟨rfl, rfl⟩
/-- From place i on: a sign that no name has is found just where there is such a byte. -/
theorem idxFrom (s : ByteArray) : ∀ (f i : Nat), s.size ≤ i + f → (decide (0 ≤ Lib.idxFuncFrom (fun r => !letterB r) true s f i) = true ↔ ∃ j, i ≤ j ∧ j < s.size ∧ letterB (Gf.nth (bytesOf s) j) = false)
  | 0, i, h => by
    constructor
    · intro h1
      have h2 : decide ((0 : Int) ≤ -1) = true := h1
      cases h2
    · rintro ⟨j, h1, h2, _⟩
      omega
  | f + 1, i, h => by
    show decide (0 ≤ (if i < s.size then (if (!letterB (Utf8.decode s i).1) = true then (i : Int) else Lib.idxFuncFrom (fun r => !letterB r) true s f (i + (Utf8.decode s i).2)) else -1)) = true ↔ _
    by_cases hi : i < s.size
    · rw [if_pos hi]
      by_cases ha : (s[i]'hi).toNat < 128
      · rw [decode_ascii s i hi ha, ← bytesOf_nth s i hi]
        have ih := idxFrom s f (i + 1) (by omega)
        cases hl : letterB (Gf.nth (bytesOf s) i) with
        | false =>
          rw [if_pos (by rfl)]
          exact ⟨fun _ => ⟨i, Nat.le_refl _, hi, hl⟩, fun _ => decide_eq_true (by omega)⟩
        | true =>
          rw [if_neg (by simp), ih]
          constructor
          · rintro ⟨j, h1, h2, h3⟩
            exact ⟨j, by omega, h2, h3⟩
          · rintro ⟨j, h1, h2, h3⟩
            refine ⟨j, ?_, h2, h3⟩
            by_cases e : j = i
            · rw [e, hl] at h3; cases h3
            · omega
      · have h1 := (decode_high s i hi (by omega)).1
        have hl : letterB (Utf8.decode s i).1 = false := by
          unfold letterB
          rw [decide_eq_false (by omega), decide_eq_false (by omega), decide_eq_false (by omega)]
          rfl
        have hl2 : letterB (Gf.nth (bytesOf s) i) = false := by
          rw [bytesOf_nth s i hi]
          unfold letterB
          rw [decide_eq_false (by omega), decide_eq_false (by omega), decide_eq_false (by omega)]
          rfl
        rw [hl, if_pos (by rfl)]
        exact ⟨fun _ => ⟨i, Nat.le_refl _, hi, hl2⟩, fun _ => decide_eq_true (by omega)⟩
    · rw [if_neg hi]
      constructor
      · intro h1
        cases h1
      · rintro ⟨j, h1, h2, _⟩
        omega
theorem idxOf (s : ByteArray) : decide (0 ≤ Lib.idxFunc (fun r => !letterB r) true s) = !((bytesOf s).all letterB) := by
  have h := idxFrom s s.size 0 (by omega)
  cases ha : (bytesOf s).all letterB with
  | true =>
    rw [show (!true) = false from rfl, Bool.eq_false_iff]
    intro h1
    obtain ⟨j, _, hj, h3⟩ := h.1 h1
    have hj' : j < (bytesOf s).length := by rw [bytesOf_length]; exact hj
    rw [List.all_eq_true] at ha
    have := ha (Gf.nth (bytesOf s) j) (by rw [Gf.nth_getElem _ j hj']; exact List.getElem_mem hj')
    rw [h3] at this
    cases this
  | false =>
    obtain ⟨x, hx, hne⟩ := List.all_eq_false.1 ha
    obtain ⟨j, hj, rfl⟩ := List.getElem_of_mem hx
    refine h.2 ⟨j, Nat.zero_le _, by rw [bytesOf_length] at hj; exact hj, ?_⟩
    rw [Gf.nth_getElem _ j hj]
    exact Bool.eq_false_iff.2 hne
set_option maxRecDepth 10000 in
set_option maxHeartbeats 1000000 in
theorem pname_any (s : ByteArray) (w : World) : Calls Tryd.prog 31 #[.string s] w fun e w' => e = .returned (.bool (isN s)) ∧ Below w.heap.size w w' := by
  by_cases h1 : s.size < 1
  · have HE : Hid (isN s = false) := isN_len (by omega)
    have d1 : decide (1 ≤ (s.size : Int)) = false := decide_eq_false (by omega)
    rw [HE.out]
    go_enter Tryd.func31, Tryd.ntmps31
    go_wp2
    go_ret
    exact ⟨rfl, Below.refl _ _⟩
  have d1 : decide (1 ≤ (s.size : Int)) = true := decide_eq_true (by omega)
  by_cases h2 : 16 < s.size
  · have HE : Hid (isN s = false) := isN_len (by omega)
    have d2 : decide ((s.size : Int) ≤ 16) = false := decide_eq_false (by omega)
    rw [HE.out]
    go_enter Tryd.func31, Tryd.ntmps31
    go_wp2
    go_ret
    exact ⟨rfl, Below.refl _ _⟩
  have d2 : decide ((s.size : Int) ≤ 16) = true := decide_eq_true (by omega)
  have HC := Tryd.strings_ContainsFunc 41 #[] (enters_of Tryd.func41 (by kernel_rfl) rfl) (fun r => !letterB r) s w (fun W r _ => by
    unfold FnGives
    exact (sign_any r W).mono fun _ _ ⟨he, hw⟩ => ⟨he, 0, hw⟩)
  rw [idxOf] at HC
  have HE : Hid (isN s = (bytesOf s).all letterB) := by show _ = _; unfold isN; rw [decide_eq_true ⟨by omega, by omega⟩, Bool.true_and]
  rw [HE.out]
  generalize (bytesOf s).all letterB = r at *
  clear HE
  go_enter Tryd.func31, Tryd.ntmps31
  go_wp2_with fail
  refine HC.mono ?_
  rintro e w1 ⟨rfl, hb1⟩
  clear HC
  cases r with
  | true =>
    go_wp2
    go_ret
    exact ⟨rfl, hb1⟩
  | false =>
    go_wp2
    go_ret
    exact ⟨rfl, hb1⟩
set_option maxRecDepth 10000 in
set_option maxHeartbeats 1000000 in
theorem sindex_miss (p : Option Addr) (l : List ByteArray) (c : Nat) (s : ByteArray) (w : World) (hl : l.length ≤ 1000000) (hs : Strs w p l) (h : s ∉ l) :
    Calls Tryd.prog 32 #[.slice p l.length c, .string s] w fun e w' => e = .returned (.int .i64 (-1)) ∧ w' = w := by
  have HH : Hid (s ∉ l) := h
  clear h
  go_enter Tryd.func32, Tryd.ntmps32
  go_wp2
  go_loop [8] (fun x => ∃ i : Nat, i ≤ l.length ∧ x = .int .i64 i) (fun x => l.length - (intOf x).toNat)
  case atStart => exact ⟨0, Nat.zero_le _, rfl⟩
  case round =>
    obtain ⟨i, hi, rfl⟩ := hrel
    by_cases hil : i < l.length
    · rcases hs with h0 | ⟨b, o, rfl, hlt, hc⟩
      · rw [h0] at hil; exact absurd hil (Nat.not_lt_zero _)
      have q1 := hc i hil
      have hne : txt l i ≠ s := fun e => HH.out (e ▸ txt_mem hil)
      have h1 := toList_ne (Ne.symm hne)
      have h2 := toList_beq (Ne.symm hne)
      have h3 := bytes_beq (Ne.symm hne)
      clear hne hc
      generalize txt l i = t at *
      go_wp2
      go_round
      case rel => exact ⟨i + 1, by omega, by go_num⟩
      case measure => simp [intOf]; omega
    · go_wp2
      go_ret
      exact ⟨rfl, rfl⟩
set_option maxRecDepth 10000 in
set_option maxHeartbeats 1000000 in
theorem sindex_hit (p : Option Addr) (l : List ByteArray) (c : Nat) (s : ByteArray) (w : World) (hl : l.length ≤ 1000000) (hs : Strs w p l) (h : s ∈ l) :
    Calls Tryd.prog 32 #[.slice p l.length c, .string s] w fun e w' => e = .returned (.int .i64 ((idxN l s : Nat) : Int)) ∧ w' = w := by
  have HH : Hid (s ∈ l) := h
  clear h
  go_enter Tryd.func32, Tryd.ntmps32
  go_wp2
  go_loop [8] (fun x => ∃ i : Nat, i ≤ l.length ∧ x = .int .i64 i ∧ ∀ j, j < i → txt l j ≠ s) (fun x => l.length - (intOf x).toNat)
  case atStart => exact ⟨0, Nat.zero_le _, rfl, fun j hj => absurd hj (Nat.not_lt_zero _)⟩
  case round =>
    obtain ⟨i, hi, rfl, hall⟩ := hrel
    have HALL : Hid (∀ j, j < i → txt l j ≠ s) := hall
    clear hall
    have hil : i < l.length := by
      rcases Nat.lt_or_ge i l.length with h | h
      · exact h
      · obtain ⟨j, hj, e⟩ := txt_of_mem HH.out
        exact absurd e (HALL.out j (by omega))
    rcases hs with h0 | ⟨b, o, rfl, hlt, hc⟩
    · rw [h0] at hil; exact absurd hil (Nat.not_lt_zero _)
    have q1 := hc i hil
    have HE : Hid (txt l i = txt l i) := by show _ = _; rfl
    clear hc
    by_cases hne : txt l i = s
    · have HI : Hid (idxN l s = i) := idxN_eq hil hne HALL.out
      rw [hne] at q1
      clear hne HE
      go_wp2
      go_ret
      exact ⟨by rw [HI.out]; rfl, rfl⟩
    · have HN : Hid (txt l i ≠ s) := hne
      have h1 := toList_ne (Ne.symm hne)
      have h2 := toList_beq (Ne.symm hne)
      have h3 := bytes_beq (Ne.symm hne)
      clear hne HE
      generalize htt : txt l i = t at *
      have HT : Hid (txt l i = t) := htt
      clear htt
      go_wp2
      go_round
      case rel => exact ⟨i + 1, by omega, by go_num, fun j hj => by
        rcases Nat.lt_or_ge j i with h | h
        · exact HALL.out j h
        · obtain rfl : j = i := by omega
          rw [HT.out]; exact HN.out⟩
      case measure => simp [intOf]; omega
set_option maxRecDepth 10000 in
theorem scont_any (p : Option Addr) (l : List ByteArray) (c : Nat) (s : ByteArray) (w : World) (hl : l.length ≤ 1000000) (hs : Strs w p l) :
    Calls Tryd.prog 24 #[.slice p l.length c, .string s] w fun e w' => e = .returned (.bool (inL l s)) ∧ w' = w := by
  by_cases h : s ∈ l
  · have HE : Hid (inL l s = true) := inL_iff.2 h
    have HI := sindex_hit p l c s w hl hs h
    rw [HE.out]
    clear h hs
    generalize idxN l s = k at *
    go_enter Tryd.func24, Tryd.ntmps24
    go_wp2_with fail
    refine HI.mono ?_
    rintro e w1 ⟨rfl, hw1⟩
    rw [hw1]
    clear hw1 w1 HI
    go_wp2
    go_ret
    exact ⟨rfl, rfl⟩
  · have HE : Hid (inL l s = false) := Bool.eq_false_iff.2 fun h2 => h (inL_iff.1 h2)
    have HI := sindex_miss p l c s w hl hs h
    rw [HE.out]
    clear h hs
    go_enter Tryd.func24, Tryd.ntmps24
    go_wp2_with fail
    refine HI.mono ?_
    rintro e w1 ⟨rfl, hw1⟩
    rw [hw1]
    clear hw1 w1 HI
    go_wp2
    go_ret
    exact ⟨rfl, rfl⟩
theorem strs_from {w : World} {p : Option Addr} {l : List ByteArray} {c k : Nat} (h : Strs w p l) (hk : k ≤ l.length) (hc : l.length ≤ c) (hn : p = none → l = [] ∧ c = 0) :
    Strs w (if c = k then p else p.map (·.add k)) (l.drop k) ∧ ((if c = k then p else p.map (·.add k)) = none → l.drop k = [] ∧ c - k = 0) := by
  by_cases e : c = k
  · rw [if_pos e]
    have h0 : l.drop k = [] := List.drop_eq_nil_of_le (by omega)
    exact ⟨Or.inl h0, fun _ => ⟨h0, by omega⟩⟩
  · rw [if_neg e]
    cases p with
    | none =>
      obtain ⟨h1, h2⟩ := hn rfl
      rw [h1] at hk
      simp at hk
      omega
    | some a =>
      refine ⟨?_, fun h0 => by cases h0⟩
      rcases h with h | ⟨b, o, hp, hlt, hcell⟩
      · exact Or.inl (by rw [h, List.drop_nil])
      · obtain rfl : a = ⟨b, o, none⟩ := by simpa using hp
        refine Or.inr ⟨b, o + k, by simp [Addr.add_lit], hlt, fun i hi => ?_⟩
        rw [List.length_drop] at hi
        rw [Nat.add_assoc, hcell (k + i) (by omega)]
        congr 2
        unfold txt
        rw [List.getD_eq_getElem?_getD, List.getD_eq_getElem?_getD, List.getElem?_drop]
theorem run_strs_from (p : Option Addr) (l : List ByteArray) (c k : Nat) (hk : k ≤ l.length) (W : World) : Sem.run Tryd.prog (Instr.slice 22 (.slice p l.length c) (some (.int .i64 (k : Int))) none none) W = .ok (.slice (if c = k then p else p.map (·.add k)) (l.drop k).length (c - k)) W := by
  have hsz : (sizeOf (Tryd.prog.elem 22)).run Tryd.prog W = .ok 1 W := by kernel_rfl
  have hel : Tryd.prog.elem 22 = 9 := by kernel_rfl
  have hun : Tryd.prog.underlying 22 = some (.slice (Tryd.prog.elem 22)) := by rw [hel]; exact Tryd.underlying22
  rw [run_slice_l W 22 p l.length c hun .i64 (k : Int) (by omega) (by omega), hsz]
  simp [Result.andThen, sliced]
theorem run_strs_to (p : Option Addr) (l : List ByteArray) (c k : Nat) (hk : k ≤ l.length) (hc : l.length ≤ c) (W : World) : Sem.run Tryd.prog (Instr.slice 22 (.slice p l.length c) none (some (.int .i64 (k : Int))) none) W = .ok (.slice p (l.take k).length c) W := by
  have hsz : (sizeOf (Tryd.prog.elem 22)).run Tryd.prog W = .ok 1 W := by kernel_rfl
  have hel : Tryd.prog.elem 22 = 9 := by kernel_rfl
  have hun : Tryd.prog.underlying 22 = some (.slice (Tryd.prog.elem 22)) := by rw [hel]; exact Tryd.underlying22
  have hl : (l.take k).length = k := by rw [List.length_take]; omega
  rw [run_slice_h W 22 p l.length c hun .i64 (k : Int) (by omega) (by omega), hsz, hl]
  simp [Result.andThen, sliced, Addr.add]
structure E3 (w : World) (ad : Nat → Addr) : Prop where
  c1 : w.cell? ⟨0, 0, none⟩ = some (.iface 101 (.pointer (some (ad 1))))
  c3 : w.cell? ⟨4, 0, none⟩ = some (.iface 101 (.pointer (some (ad 3))))
  c5 : w.cell? ⟨5, 0, none⟩ = some (.iface 101 (.pointer (some (ad 5))))
theorem E3.below {w w' : World} {ad : Nat → Addr} (h : E3 w ad) (hb : Below w.heap.size w w') : E3 w' ad := ⟨(hb.cell (lt_of_cellE h.c1)).trans h.c1, (hb.cell (lt_of_cellE h.c3)).trans h.c3, (hb.cell (lt_of_cellE h.c5)).trans h.c5⟩
theorem errIs_fault {w w' : World} {ad : Nat → Addr} {t : TypeId} (i : Nat) (hi : i < 12) (at_ : Int) (hw : w' = w.alloc (.cells #[.int .i64 at_, .iface 101 (.pointer (some (ad i)))] t)) : ErrIs w' ad (.iface 56 (.pointer (some ⟨w.heap.size, 0, none⟩))) ((i + 1 : Nat) : Int) at_ := by
  subst hw
  refine Or.inr (Or.inr ⟨i, w.heap.size, hi, rfl, rfl, ?_, ?_⟩)
  · rw [World.cell?_alloc_at _ _ _ _ rfl]; rfl
  · rw [World.cell?_alloc_at _ _ _ _ rfl]; rfl
set_option maxRecDepth 10000 in
set_option maxHeartbeats 1000000 in
theorem check3_bound (ad : Nat → Addr) (p : Option Addr) (l : List ByteArray) (c : Nat) (w : World) (hl : l.length ≤ 1000) (hE : E3 w ad) (h : l.length < 1 ∨ 16 < l.length) :
    Calls Tryd.prog 22 #[.slice p l.length c] w fun e w' => (∃ ev, e = .returned ev ∧ ErrIs w' ad ev 2 (-1)) ∧ Below w.heap.size w w' := by
  have q1 := hE.c1
  have HI : Hid (∀ W, ErrIs W ad (.iface 101 (.pointer (some (ad 1)))) 2 (-1)) := fun W => ErrIs.sent 1 (by decide)
  clear hE
  rcases h with h | h
  · have d1 : decide ((l.length : Int) < 1) = true := decide_eq_true (by omega)
    go_enter Tryd.func22, Tryd.ntmps22
    go_wp2
    go_ret
    exact ⟨⟨_, rfl, HI.out _⟩, Below.refl _ _⟩
  · have d1 : decide ((l.length : Int) < 1) = false := decide_eq_false (by omega)
    have d2 := decide_eq_true (by omega)
    go_enter Tryd.func22, Tryd.ntmps22
    go_wp2
    go_ret
    exact ⟨⟨_, rfl, HI.out _⟩, Below.refl _ _⟩
set_option maxRecDepth 10000 in
set_option maxHeartbeats 4000000 in
theorem check3_scan (ad : Nat → Addr) (p : Option Addr) (l : List ByteArray) (c : Nat) (w : World) (h1 : ¬ l.length < 1) (h2 : ¬ 16 < l.length) (hc : l.length ≤ c) (hs : Strs w p l) (hE : E3 w ad) :
    Calls Tryd.prog 22 #[.slice p l.length c] w fun e w' => (∃ ev, e = .returned ev ∧ ErrIs w' ad ev (scanF l 0 l.length).1 (scanF l 0 l.length).2) ∧ Below w.heap.size w w' := by
  have HS : Hid (Strs w p l) := hs
  have HE : Hid _ := hE
  have g1 := decide_eq_false (by omega)
  have g2 := decide_eq_false (by omega)
  obtain ⟨b, o, rfl⟩ : ∃ b o, p = some ⟨b, o, none⟩ := by
    rcases hs with h0 | ⟨b, o, hp, _⟩
    · rw [h0] at h1; exact absurd (by decide) h1
    · exact ⟨b, o, hp⟩
  clear hs hE
  obtain ⟨R, hR⟩ : ∃ R, R = scanF l 0 l.length := ⟨_, rfl⟩
  rw [← hR]
  have HR : Hid _ := hR
  clear hR
  go_enter Tryd.func22, Tryd.ntmps22
  go_wp2
  go_loopw [16] (fun x wq => ∃ i : Nat, i ≤ l.length ∧ x = .int .i64 i ∧ scanF l i (l.length - i) = R ∧ Below w.heap.size w wq) (fun x _ => l.length - (intOf x).toNat)
  case atStart => exact ⟨0, Nat.zero_le _, rfl, HR.out.symm, Below.refl _ _⟩
  case round =>
    obtain ⟨i, hi, rfl, hsc, hbq⟩ := hrel
    obtain ⟨w1, rfl⟩ : ∃ w1, w1 = wr := ⟨_, rfl⟩
    have HSC : Hid _ := hsc
    have HBW : Hid _ := hbq
    have HS1 : Hid (Strs w1 (some ⟨b, o, none⟩) l) := HS.out.below hbq
    have HE1 : Hid (E3 w1 ad) := HE.out.below hbq
    clear hsc hbq HR HS HE
    by_cases hil : i < l.length
    · have q3 : w1.cell? ⟨b, o + i, none⟩ = some (.string (txt l i)) := by
        rcases HS1.out with h0 | ⟨b', o', hp, _, hcell⟩
        · rw [h0] at hil; exact absurd hil (Nat.not_lt_zero _)
        · obtain ⟨rfl, rfl⟩ : b = b' ∧ o = o' := by simpa using hp
          exact hcell i hil
      have HNAME : Hid (∀ W, Calls Tryd.prog 31 #[.string (txt l i)] W fun e w' => e = .returned (.bool (isN (txt l i))) ∧ Below W.heap.size W w') := fun W => pname_any _ W
      have HSUC : Hid (scanF l i (l.length - i) = if faultAt l i = 0 then scanF l (i + 1) (l.length - (i + 1)) else (((faultAt l i : Nat) : Int), (i : Int))) := by
        show _ = _
        rw [show l.length - i = (l.length - (i + 1)) + 1 by omega]
        rfl
      by_cases hN : isN (txt l i) = true
      · have HCON : Hid (∀ W, Strs W (some ⟨b, o, none⟩) (l.take i) → Calls Tryd.prog 24 #[.slice (some ⟨b, o, none⟩) (l.take i).length c, .string (txt l i)] W fun e w' => e = .returned (.bool (inL (l.take i) (txt l i))) ∧ w' = W) := fun W hW => scont_any _ _ c _ W (by rw [List.length_take]; omega) hW
        rw [show (l.take i).length = i by rw [List.length_take]; omega] at HCON
        rw [hN] at HNAME
        by_cases hM : txt l i ∈ l.take i
        · have HA : Hid (R = (6, (i : Int))) := by
            show _ = _
            rw [← HSC.out, HSUC.out, faultAt_twice hN hM, if_neg (by decide)]
            rfl
          rw [inL_iff.2 hM] at HCON
          clear HSC HSUC hN hM
          generalize txt l i = t at *
          go_wp2_with fail
          refine (HNAME.out _).mono ?_
          rintro e w2 ⟨rfl, hb2⟩
          have HB2 : Hid (Below w.heap.size w w2) := HBW.out.trans (hb2.mono HBW.out.size)
          have HS2 : Hid (Strs w2 (some ⟨b, o, none⟩) (l.take i)) := (HS1.out.below hb2).take i
          have hE2 : E3 w2 ad := HE1.out.below hb2
          have q4 := hE2.c5
          clear hE2 hb2 HNAME q3
          go_wp2_with fail
          refine (HCON.out _ HS2.out).mono ?_
          rintro e w3 ⟨rfl, hw3⟩
          rw [hw3]
          clear hw3 w3 HCON HS2
          go_wp2
          go_ret
          exact ⟨⟨_, rfl, by rw [HA.out]; exact errIs_fault (w := w2) 5 (by decide) (i : Int) rfl⟩, HB2.out.alloc HB2.out.size _⟩
        · have HA : Hid (scanF l (i + 1) (l.length - (i + 1)) = R) := by
            show _ = _
            rw [← HSC.out, HSUC.out, faultAt_fine hN hM, if_pos rfl]
          rw [Bool.eq_false_iff.2 (fun h => hM (inL_iff.1 h))] at HCON
          clear HSC HSUC hN hM
          generalize txt l i = t at *
          go_wp2_with fail
          refine (HNAME.out _).mono ?_
          rintro e w2 ⟨rfl, hb2⟩
          have HB2 : Hid (Below w.heap.size w w2) := HBW.out.trans (hb2.mono HBW.out.size)
          have HS2 : Hid (Strs w2 (some ⟨b, o, none⟩) (l.take i)) := (HS1.out.below hb2).take i
          clear hb2 HNAME q3
          go_wp2_with fail
          refine (HCON.out _ HS2.out).mono ?_
          rintro e w3 ⟨rfl, hw3⟩
          rw [hw3]
          clear hw3 w3 HCON HS2
          go_wp2
          go_roundw
          case rel => exact ⟨i + 1, by omega, by go_num, HA.out, HB2.out⟩
          case measure => simp [intOf]; omega
      · have hN' : isN (txt l i) = false := Bool.eq_false_iff.2 hN
        have HA : Hid (R = (4, (i : Int))) := by
          show _ = _
          rw [← HSC.out, HSUC.out, faultAt_name hN', if_neg (by decide)]
          rfl
        rw [hN'] at HNAME
        clear HSC HSUC hN hN'
        generalize txt l i = t at *
        go_wp2_with fail
        refine (HNAME.out _).mono ?_
        rintro e w2 ⟨rfl, hb2⟩
        have HB2 : Hid (Below w.heap.size w w2) := HBW.out.trans (hb2.mono HBW.out.size)
        have hE2 : E3 w2 ad := HE1.out.below hb2
        have q4 := hE2.c3
        clear hE2 hb2 HNAME q3
        go_wp2
        go_ret
        exact ⟨⟨_, rfl, by rw [HA.out]; exact errIs_fault (w := w2) 3 (by decide) (i : Int) rfl⟩, HB2.out.alloc HB2.out.size _⟩
    · have hie : i = l.length := by omega
      subst hie
      have HA : Hid (R = (0, -1)) := by
        show _ = _
        rw [← HSC.out, Nat.sub_self]
        rfl
      clear HSC
      go_wp2
      go_ret
      exact ⟨⟨_, rfl, by rw [HA.out]; exact ErrIs.nil _ _⟩, HBW.out⟩
theorem check3_any (ad : Nat → Addr) (p : Option Addr) (l : List ByteArray) (c : Nat) (w : World) (hl : l.length ≤ 1000) (hc : l.length ≤ c) (hs : Strs w p l) (hE : E3 w ad) :
    Calls Tryd.prog 22 #[.slice p l.length c] w fun e w' => (∃ ev, e = .returned ev ∧ ErrIs w' ad ev (nodesF l).1 (nodesF l).2) ∧ Below w.heap.size w w' := by
  by_cases h : l.length < 1 ∨ 16 < l.length
  · rw [nodesF_bound h]
    exact check3_bound ad p l c w hl hE h
  · rw [nodesF_scan (by omega) (by omega)]
    exact check3_scan ad p l c w (by omega) (by omega) hc hs hE
set_option maxRecDepth 10000 in
theorem mfits_any (n k : Int) (w : World) : Calls Tryd.prog 21 #[.int .i64 n, .int .i64 k] w fun e w' => e = .returned (.bool (decide (1 ≤ k ∧ k ≤ n ∧ n ≤ 12))) ∧ w' = w := by
  by_cases h1 : 1 ≤ k
  · by_cases h2 : k ≤ n
    · by_cases h3 : n ≤ 12
      · have HE : Hid (decide (1 ≤ k ∧ k ≤ n ∧ n ≤ 12) = true) := decide_eq_true ⟨h1, h2, h3⟩
        rw [HE.out]
        go_enter Tryd.func21, Tryd.ntmps21
        go_wp2
        go_ret
        exact ⟨rfl, rfl⟩
      · have HE : Hid (decide (1 ≤ k ∧ k ≤ n ∧ n ≤ 12) = false) := decide_eq_false fun h => h3 h.2.2
        rw [HE.out]
        go_enter Tryd.func21, Tryd.ntmps21
        go_wp2
        go_ret
        exact ⟨rfl, rfl⟩
    · have HE : Hid (decide (1 ≤ k ∧ k ≤ n ∧ n ≤ 12) = false) := decide_eq_false fun h => h2 h.2.1
      rw [HE.out]
      go_enter Tryd.func21, Tryd.ntmps21
      go_wp2
      go_ret
      exact ⟨rfl, rfl⟩
  · have HE : Hid (decide (1 ≤ k ∧ k ≤ n ∧ n ≤ 12) = false) := decide_eq_false fun h => h1 h.1
    rw [HE.out]
    go_enter Tryd.func21, Tryd.ntmps21
    go_wp2
    go_ret
    exact ⟨rfl, rfl⟩
end Go.Proofs.YtpjeibicopgedaaDoor
