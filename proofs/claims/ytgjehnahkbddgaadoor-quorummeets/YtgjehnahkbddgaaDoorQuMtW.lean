/- Package quorum: Meet; Go's own slices.IndexFunc at texts, whatever function is handed in. -/
import Derived.Test.YtgjehnahkbddgaaDoorQuPrW
import Derived.Test.YtgjehnahkbddgaaDoorQuCW
import Derived.Shelf.Abstract
namespace Go.Proofs.YtgjehnahkbddgaaDoor
open Go.RowKit
/-- What a function that is handed in tells of each text, whatever was made since w. -/
def AsksT (w : World) (fn : FuncId) (caps : Array Value) (l : List ByteArray) (P : ByteArray → Bool) : Prop :=
  ∀ i, i < l.length → ∀ w1, Below w.heap.size w w1 → Calls Tryd.prog fn (#[.string (txt l i)] ++ caps) w1 fun e w2 => e = .returned (.bool (P (txt l i))) ∧ Below w1.heap.size w1 w2
set_option maxRecDepth 10000 in
set_option maxHeartbeats 1000000 in
theorem tindex_any (p : Option Addr) (l : List ByteArray) (cap : Nat) (fn : FuncId) (caps : Array Value) (P : ByteArray → Bool) (w : World) (hl : l.length ≤ 100000) (hs : Strs w p l)
    (hent : ∀ args W, Sem.run Tryd.prog (callFunc fn args) W = .ok (.enter fn args) W) (hc : AsksT w fn caps l P) :
    Calls Tryd.prog 25 #[.slice p l.length cap, .func (.func fn) #[] caps] w fun e w' => (∃ r : Int, e = .returned (.int .i64 r) ∧ ((∃ i : Nat, i < l.length ∧ r = (i : Int) ∧ P (txt l i) = true ∧ ∀ j, j < i → P (txt l j) = false) ∨ r = -1 ∧ ∀ j, j < l.length → P (txt l j) = false)) ∧ Below w.heap.size w w' := by
  have HS : Hid (Strs w p l) := hs
  have HC : Hid (AsksT w fn caps l P) := hc
  clear hs hc
  go_enter Tryd.func25, Tryd.ntmps25
  go_wp2
  go_loopw [8] (fun x wr => ∃ i : Nat, i ≤ l.length ∧ x = .int .i64 i ∧ (∀ j, j < i → P (txt l j) = false) ∧ Below w.heap.size w wr) (fun x _ => l.length - (intOf x).toNat)
  case atStart => exact ⟨0, by omega, rfl, fun j hj => absurd hj (Nat.not_lt_zero _), Below.refl _ _⟩
  case round =>
    obtain ⟨i, hi, rfl, hall, hB⟩ := hrel
    have HALL : Hid (∀ j, j < i → P (txt l j) = false) := hall
    have HB : Hid (Below w.heap.size w wr) := hB
    clear hall hB
    by_cases hil : i < l.length
    · rcases (HS.out.below HB.out) with h0 | ⟨b1, o1, rfl, _, hc1⟩
      · rw [h0] at hil; simp at hil
      have q1 := hc1 i hil
      have HX := HC.out i hil wr HB.out
      clear hc1
      cases hp : P (txt l i) with
      | true =>
        have HA : Hid (P (txt l i) = true) := hp
        rw [hp] at HX
        clear hp
        generalize txt l i = t at q1 HX
        go_wp2_with fail
        refine HX.mono ?_
        rintro e w2 ⟨rfl, hb2⟩
        clear HX
        go_wp2
        go_ret
        exact ⟨⟨(i : Int), rfl, Or.inl ⟨i, hil, rfl, HA.out, HALL.out⟩⟩, HB.out.trans (hb2.mono HB.out.size)⟩
      | false =>
        have HPF : Hid (P (txt l i) = false) := hp
        rw [hp] at HX
        clear hp
        generalize txt l i = t at q1 HX
        go_wp2_with fail
        refine HX.mono ?_
        rintro e w2 ⟨rfl, hb2⟩
        have HB2 : Hid (Below w.heap.size w w2) := HB.out.trans (hb2.mono HB.out.size)
        clear HX hb2 q1
        go_wp2
        go_roundw
        case rel =>
          refine ⟨i + 1, by omega, by go_num, fun j hj => ?_, HB2.out⟩
          by_cases e : j = i
          · rw [e]; exact HPF.out
          · exact HALL.out j (by omega)
        case measure => simp [intOf]; omega
    · have HN : Hid (∀ j, j < l.length → P (txt l j) = false) := fun j hj => HALL.out j (by omega)
      go_wp2
      go_ret
      exact ⟨⟨-1, rfl, Or.inr ⟨rfl, HN.out⟩⟩, HB.out⟩
set_option maxRecDepth 10000 in
theorem stranger_any (g : Nat) (p : Option Addr) (L : List ByteArray) (cap : Nat) (x : ByteArray) (w : World) (hl : L.length ≤ 1000000) (h2 : w.cell? ⟨g, 2, none⟩ = some (.slice p L.length cap)) (hs : Strs w p L) :
    Calls Tryd.prog 23 (#[.string x] ++ #[.pointer (some ⟨g, 0, none⟩)]) w fun e w2 => e = .returned (.bool (!inL L x)) ∧ Below w.heap.size w w2 := by
  have HC := scont_any p L cap x w hl hs
  clear hs
  generalize inL L x = b at *
  go_enter Tryd.func23, Tryd.ntmps23
  go_wp2_with fail
  refine HC.mono ?_
  rintro e w1 ⟨rfl, hw1⟩
  rw [hw1]
  clear hw1 w1 HC
  go_wp2
  go_ret
  exact ⟨rfl, Below.refl _ _⟩
theorem sclone_any (t : ByteArray) (w : World) (ht : t.size ≤ 1000000) : Calls Tryd.prog 26 #[.string t] w fun e w' => e = .returned (.string t) ∧ Below w.heap.size w w' := by
  have HC : Hid (∀ W, Calls Tryd.prog 33 #[.string t] W fun e w' => e = .returned (.string t) ∧ Below W.heap.size W w') := fun W => Tryd.stringslite_Clone t W (by omega)
  go_enter Tryd.func26, Tryd.ntmps26
  go_wp2_with fail
  refine (HC.out _).mono ?_
  rintro e w1 ⟨rfl, hb1⟩
  have HB1 : Hid (Below w.heap.size w w1) := hb1
  clear hb1
  go_wp2
  go_ret
  exact ⟨rfl, HB1.out⟩
/-- The list that is looked at: a, then b. -/
def abL (a b : List ByteArray) (i : Nat) : List ByteArray := if i = 0 then a else b
theorem abL_fault {c : Cfg} {a b : List ByteArray} {i j : Nat} (hi : i < 2) (ha : 0 < i → ∀ x ∈ a, x ∈ c.L) (hj : j < (abL a b i).length) (hall : ∀ q, q < j → txt (abL a b i) q ∈ c.L) (hn : txt (abL a b i) j ∉ c.L) : meetF c.L a b = (5, (j : Int)) := by
  unfold abL at *
  by_cases h : i = 0
  · rw [if_pos h] at *
    exact meetF_a hj hall hn
  · rw [if_neg h] at *
    exact meetF_b (ha (by omega)) hj hall hn
theorem all_txt {l L : List ByteArray} (h : ∀ j, j < l.length → txt l j ∈ L) : ∀ x ∈ l, x ∈ L := fun x hx => by
  obtain ⟨j, hj, rfl⟩ := List.getElem_of_mem hx
  have := h j hj
  rw [txt_getElem l j hj] at this
  exact this
theorem away_in {L : List ByteArray} {x : ByteArray} (h : (!inL L x) = false) : x ∈ L := by
  cases hh : inL L x with
  | true => exact inL_iff.1 hh
  | false => rw [hh] at h; cases h
theorem away_out {L : List ByteArray} {x : ByteArray} (h : (!inL L x) = true) : x ∉ L := fun hx => by rw [inL_iff.2 hx] at h; cases h
theorem meet_bad {c : Cfg} {a b : List ByteArray} (h : 0 < (cfgF c).1) : meetE c a b = cfgF c ∧ meetT c a b = [] := by
  have e : meetE c a b = cfgF c := if_pos h
  exact ⟨e, by unfold meetT; rw [e, if_pos h]⟩
theorem meet_away {c : Cfg} {a b : List ByteArray} {i : Nat} (h : ¬ 0 < (cfgF c).1) (h2 : meetF c.L a b = (5, (i : Int))) : meetE c a b = (5, (i : Int)) ∧ meetT c a b = [] := by
  have e : meetE c a b = (5, (i : Int)) := by unfold meetE; rw [if_neg h, h2]
  exact ⟨e, by unfold meetT; rw [e, if_pos (by show (0 : Int) < 5; decide)]⟩
theorem meet_fine {c : Cfg} {a b : List ByteArray} (h : ¬ 0 < (cfgF c).1) (ha : ∀ x ∈ a, x ∈ c.L) (hb : ∀ x ∈ b, x ∈ c.L) : meetE c a b = (0, -1) ∧ meetT c a b = meetL c.L a b := by
  have e : meetE c a b = (0, -1) := by unfold meetE; rw [if_neg h, meetF_fine ha hb]
  exact ⟨e, by unfold meetT; rw [e, if_neg (by show ¬ (0 : Int) < 0; decide)]⟩
theorem meetL_take {L a b : List ByteArray} {i : Nat} (h : i < L.length) : meetL (L.take (i + 1)) a b = meetL (L.take i) a b ++ (if inL a (txt L i) && inL b (txt L i) then [txt L i] else []) := filter_takeM h
theorem meetL_len {L a b : List ByteArray} : (meetL L a b).length ≤ L.length := List.length_filter_le _ _
set_option maxRecDepth 10000 in
set_option maxHeartbeats 8000000 in
theorem qmeet_any (ad : Nat → Addr) (c : Cfg) (p : Option Addr) (cap : Nat) (a : List ByteArray) (pa : Option Addr) (ca : Nat) (b : List ByteArray) (pb : Option Addr) (cb : Nat) (w : World) (hc : CfgAt w c p cap) (ha : TxsAt w a pa ca) (hb : TxsAt w b pb cb) (hE : ErrsQ w ad) :
    Calls Tryd.prog 12 #[cfgA c (.slice p c.L.length cap), .slice pa a.length ca, .slice pb b.length cb] w fun e w' => (∃ ev lp lc, e = .returned (.tuple #[.slice lp (meetT c a b).length lc, ev]) ∧ Strs w' lp (meetT c a b) ∧ ErrIs w' ad ev (meetE c a b).1 (meetE c a b).2) ∧ Below w.heap.size w w' := by
  obtain ⟨w1, hw1⟩ : ∃ w1, w1 = w.alloc (.cells #[.int .i64 c.n, .int .i64 c.k, .slice p c.L.length cap] 24) := ⟨_, rfl⟩
  have hb1 : Below w.heap.size w w1 := by rw [hw1]; exact (Below.refl _ _).alloc (Nat.le_refl _) _
  have hx1 : CfgBox w1 w.heap.size c (.slice p c.L.length cap) := by rw [hw1]; exact cfgBox_made w c _ _
  have HCK := qcheck_any ad c p cap w1 (hc.below hb1) (hE.below hb1)
  have HW1 : Hid (w1 = w.alloc (.cells #[.int .i64 c.n, .int .i64 c.k, .slice p c.L.length cap] 24)) := hw1
  have HB1 : Hid (Below w.heap.size w w1) := hb1
  have HX1 : Hid (CfgBox w1 w.heap.size c (.slice p c.L.length cap)) := hx1
  have HC1 : Hid (CfgAt w1 c p cap) := hc.below hb1
  have HA1 : Hid (TxsAt w1 a pa ca) := ha.below hb1
  have HBB1 : Hid (TxsAt w1 b pb cb) := hb.below hb1
  have HE1 : Hid (ErrsQ w1 ad) := hE.below hb1
  have hla := ha.len
  have hlb := hb.len
  have hll := hc.len
  have f0 := hx1.f0
  have f1 := hx1.f1
  have f2 := hx1.f2
  obtain ⟨M, hM⟩ : ∃ M, M = meetE c a b := ⟨_, rfl⟩
  obtain ⟨T, hT⟩ : ∃ T, T = meetT c a b := ⟨_, rfl⟩
  rw [← hM, ← hT]
  have HM : Hid (M = meetE c a b) := hM
  have HT : Hid (T = meetT c a b) := hT
  unfold cfgA at HCK ⊢
  clear hw1 hb1 hx1 hE hc ha hb hM hT
  by_cases hp : 0 < (cfgF c).1
  · have HP : Hid (0 < (cfgF c).1) := hp
    have HME : Hid (M = cfgF c ∧ T = []) := ⟨HM.out.trans (meet_bad hp).1, HT.out.trans (meet_bad hp).2⟩
    clear hp HM HT
    generalize cfgF c = R at *
    obtain ⟨n, k, L⟩ := c
    dsimp only at *
    go_enter Tryd.func12, Tryd.ntmps12
    go_wp2_with fail
    rw [← HW1.out]
    refine HCK.mono ?_
    rintro e w3 ⟨⟨ev, rfl, hev⟩, hb3⟩
    have HB3 : Hid (Below w.heap.size w w3) := HB1.out.trans (hb3.mono HB1.out.size)
    have HEV : Hid (ErrIs w3 ad ev R.1 R.2) := hev
    obtain ⟨et, eu, rfl⟩ := hev.some HP.out
    clear hev hb3 HCK
    go_wp2
    go_ret2
    exact ⟨⟨_, none, 0, by rw [HME.out.2]; rfl, by rw [HME.out.2]; exact Strs.nil _ _, by rw [HME.out.1]; exact HEV.out⟩, HB3.out⟩
  · obtain ⟨hf, hn, h0, _, _⟩ := cfgF_fine hp
    rw [h0] at HCK
    have HMA : Hid (∀ j : Nat, meetF c.L a b = (5, (j : Int)) → M = (5, (j : Int)) ∧ T = []) := fun j h5 => ⟨HM.out.trans (meet_away hp h5).1, HT.out.trans (meet_away hp h5).2⟩
    have HMF : Hid ((∀ x ∈ a, x ∈ c.L) → (∀ x ∈ b, x ∈ c.L) → M = (0, -1) ∧ T = meetL c.L a b) := fun h1 h2 => ⟨HM.out.trans (meet_fine hp h1 h2).1, HT.out.trans (meet_fine hp h1 h2).2⟩
    clear hp hn h0 hf HM HT
    go_enter Tryd.func12, Tryd.ntmps12
    go_wp2_with fail
    rw [← HW1.out]
    refine HCK.mono ?_
    rintro e w3 ⟨⟨ev, rfl, hev⟩, hb3⟩
    obtain rfl := ErrIs.isNil hev
    have hs13 := hb3.size
    obtain ⟨w4, hw4⟩ : ∃ w4, w4 = w3.alloc (.cells #[.slice pa a.length ca, .slice pb b.length cb] 22) := ⟨_, rfl⟩
    have hb4 : Below w3.heap.size w3 w4 := by rw [hw4]; exact (Below.refl _ _).alloc (Nat.le_refl _) _
    have hb14 : Below w1.heap.size w1 w4 := hb3.trans (hb4.mono hs13)
    have HW4 : Hid (w4 = w3.alloc (.cells #[.slice pa a.length ca, .slice pb b.length cb] 22)) := hw4
    have HB4 : Hid (Below w.heap.size w w4) := HB1.out.trans (hb14.mono HB1.out.size)
    have HX4 : Hid (CfgBox w4 w.heap.size c (.slice p c.L.length cap)) := HX1.out.below hb14
    have HC4 : Hid (CfgAt w4 c p cap) := HC1.out.below hb14
    have HA4 : Hid (TxsAt w4 a pa ca) := HA1.out.below hb14
    have HBB4 : Hid (TxsAt w4 b pb cb) := HBB1.out.below hb14
    have HE4 : Hid (ErrsQ w4 ad) := HE1.out.below hb14
    have HR4 : Hid (w4.cell? ⟨w3.heap.size, 0, none⟩ = some (.slice pa a.length ca) ∧ w4.cell? ⟨w3.heap.size, 1, none⟩ = some (.slice pb b.length cb)) := by
      rw [hw4]
      exact ⟨by rw [World.cell?_alloc_at _ _ _ _ rfl]; rfl, by rw [World.cell?_alloc_at _ _ _ _ rfl]; rfl⟩
    clear hev hb3 hb4 hb14 hw4 HCK HX1 HC1 HA1 HBB1 HE1 f0 f1 f2 hs13 HW1
    go_wp2_with (rw [← HW4.out])
    go_loopw [26] (fun x wr => ∃ i : Nat, i ≤ 2 ∧ x = .int .i64 i ∧ (0 < i → ∀ x ∈ a, x ∈ c.L) ∧ (1 < i → ∀ x ∈ b, x ∈ c.L) ∧ Below w4.heap.size w4 wr) (fun x _ => 2 - (intOf x).toNat)
    case atStart => exact ⟨0, by omega, rfl, fun h => absurd h (by omega), fun h => absurd h (by omega), Below.refl _ _⟩
    case round =>
      obtain ⟨i, hi, rfl, hia, hib, hB⟩ := hrel
      obtain ⟨w5, rfl⟩ : ∃ w5, w5 = wr := ⟨_, rfl⟩
      have HIA : Hid (0 < i → ∀ x ∈ a, x ∈ c.L) := hia
      have HIB : Hid (1 < i → ∀ x ∈ b, x ∈ c.L) := hib
      have HB5 : Hid (Below w4.heap.size w4 w5) := hB
      have hx5 := HX4.out.below hB
      have hc5 := HC4.out.below hB
      clear hia hib
      by_cases hi2 : i < 2
      · obtain ⟨l, pl, cl, hab, hcl, htl⟩ : ∃ l pl cl, abL a b i = l ∧ w5.cell? ⟨w3.heap.size, i, none⟩ = some (.slice pl l.length cl) ∧ TxsAt w5 l pl cl := by
          have hlt := lt_of_cellE HR4.out.1
          rcases (by omega : i = 0 ∨ i = 1) with rfl | rfl
          · exact ⟨a, pa, ca, rfl, (hB.cell (p := ⟨w3.heap.size, 0, none⟩) hlt).trans HR4.out.1, HA4.out.below hB⟩
          · exact ⟨b, pb, cb, rfl, (hB.cell (p := ⟨w3.heap.size, 1, none⟩) hlt).trans HR4.out.2, HBB4.out.below hB⟩
        have HAB : Hid (abL a b i = l) := hab
        have HASK : AsksT w5 23 #[.pointer (some ⟨w.heap.size, 0, none⟩)] l (fun x => !inL c.L x) := fun j hj w6 h6 => stranger_any w.heap.size p c.L cap (txt l j) w6 (by omega) ((h6.cell (p := ⟨w.heap.size, 2, none⟩) (lt_of_cellE hx5.f2)).trans hx5.f2) (hc5.strs.below h6)
        have HIX := tindex_any pl l cl 23 #[.pointer (some ⟨w.heap.size, 0, none⟩)] (fun x => !inL c.L x) w5 (by have := htl.len; omega) htl.strs (enters_of Tryd.func23 (by kernel_rfl) rfl) HASK
        have hll5 := htl.len
        clear hab htl HASK hx5 hc5 hB
        go_wp2_with fail
        refine HIX.mono ?_
        rintro e w6 ⟨⟨r, rfl, hr⟩, hb6⟩
        have hb46 : Below w4.heap.size w4 w6 := HB5.out.trans (hb6.mono HB5.out.size)
        have HB6 : Hid (Below w4.heap.size w4 w6) := hb46
        have hE6 := HE4.out.below hb46
        have q4 := hE6.c4
        clear hE6 hb46 hb6 HIX hcl
        rcases hr with ⟨j, hj, rfl, hpj, hall⟩ | ⟨rfl, hall⟩
        · have HF : Hid (M = (5, (j : Int)) ∧ T = []) := by
            have h5 : meetF c.L a b = (5, (j : Int)) := abL_fault hi2 HIA.out (by rw [HAB.out]; exact hj) (fun q hq => by rw [HAB.out]; exact away_in (hall q hq)) (by rw [HAB.out]; exact away_out hpj)
            exact HMA.out j h5
          have hj0 : decide ((0 : Int) ≤ (j : Int)) = true := decide_eq_true (by omega)
          clear hpj hall HMA HMF
          go_wp2
          go_region
          go_wp2
          go_ret2
         
          exact ⟨⟨_, none, 0, by rw [HF.out.2]; rfl, by rw [HF.out.2]; exact Strs.nil _ _, by rw [HF.out.1]; exact (errIs_fault (w := w6) 4 (by decide) (j : Int) rfl : ErrIs (w6.alloc (.cells #[.int .i64 (j : Int), .iface 101 (.pointer (some (ad 4)))] 58)) ad _ ((4 + 1 : Nat) : Int) (j : Int))⟩, below_drewN (HB4.out.trans ((HB6.out.mono HB4.out.size).alloc (Nat.le_trans HB4.out.size HB6.out.size) _)) 1⟩
        · have HN : Hid (∀ x ∈ l, x ∈ c.L) := all_txt fun j hj => away_in (hall j hj)
          clear hall
          go_wp2
          go_roundw
          case rel =>
            refine ⟨i + 1, by omega, by go_num, fun _ => ?_, fun h1 => ?_, HB6.out⟩
            · rcases (by omega : i = 0 ∨ i = 1) with h | h
              · have : a = l := by rw [← HAB.out, h]; rfl
                rw [this]
                exact HN.out
              · exact HIA.out (by omega)
            · have : b = l := by rw [← HAB.out, show i = 1 by omega]; rfl
              rw [this]
              exact HN.out
          case measure => simp [intOf]; omega
      · have HF : Hid (M = (0, -1) ∧ T = meetL c.L a b) := by
          have h1 := HIA.out (by omega)
          have h2 := HIB.out (by omega)
          exact HMF.out h1 h2
        have g2 := hx5.f2
        have HC5 : Hid (CfgAt w5 c p cap) := hc5
        have HA5 : Hid (TxsAt w5 a pa ca) := HA4.out.below hB
        have HBB5 : Hid (TxsAt w5 b pb cb) := HBB4.out.below hB
        have HBW5 : Hid (Below w.heap.size w w5) := HB4.out.trans (hB.mono HB4.out.size)
        clear hx5 hc5 hB HMA HMF HIA HIB
        go_wp2
        go_loopw [13, 44] (fun v x wr => ∃ j : Nat, j ≤ c.L.length ∧ x = .int .i64 j ∧ OwnT wr w5.heap.size v (meetL (c.L.take j) a b) ∧ Below w5.heap.size w5 wr) (fun _ x _ => c.L.length - (intOf x).toNat)
        case atStart => exact ⟨0, Nat.zero_le _, rfl, OwnT.nil _ _, Below.refl _ _⟩
        case round =>
          obtain ⟨j, hj, rfl, hO, hB⟩ := hrel
          obtain ⟨w6, rfl⟩ : ∃ w6, w6 = wr := ⟨_, rfl⟩
          obtain ⟨pv, cv, rfl, hsv, _⟩ := hO.form
          have HO6 : Hid (OwnT w6 w5.heap.size (.slice pv (meetL (c.L.take j) a b).length cv) (meetL (c.L.take j) a b)) := hO
          have HB6 : Hid (Below w5.heap.size w5 w6) := hB
          have HSV : Hid (Strs w6 pv (meetL (c.L.take j) a b)) := hsv
          have hml : (meetL (c.L.take j) a b).length ≤ 1000 := Nat.le_trans meetL_len (by rw [List.length_take]; omega)
          clear hO hsv
          by_cases hjl : j < c.L.length
          · rcases (HC5.out.strs.below hB) with h0 | ⟨bl, ol, rfl, hbl, hcs⟩
            · rw [h0] at hjl; simp at hjl
            have q1 := hcs j hjl
            have HSTEP : Hid (meetL (c.L.take (j + 1)) a b = meetL (c.L.take j) a b ++ (if inL a (txt c.L j) && inL b (txt c.L j) then [txt c.L j] else [])) := meetL_take hjl
            have hsz : (txt c.L j).size ≤ 1000 := HC5.out.size _ (txt_mem hjl)
            have HCA : Hid (Calls Tryd.prog 24 #[.slice pa a.length ca, .string (txt c.L j)] w6 fun e w' => e = .returned (.bool (inL a (txt c.L j))) ∧ w' = w6) := scont_any pa a ca (txt c.L j) w6 (by omega) (HA5.out.strs.below hB)
            have HCB : Hid (Calls Tryd.prog 24 #[.slice pb b.length cb, .string (txt c.L j)] w6 fun e w' => e = .returned (.bool (inL b (txt c.L j))) ∧ w' = w6) := scont_any pb b cb (txt c.L j) w6 (by omega) (HBB5.out.strs.below hB)
            have HCL : Hid (Calls Tryd.prog 26 #[.string (txt c.L j)] w6 fun e w' => e = .returned (.string (txt c.L j)) ∧ Below w6.heap.size w6 w') := sclone_any _ w6 (by omega)
            clear hcs hB hsz
            generalize txt c.L j = t at *
            generalize meetL (c.L.take j) a b = ML at *
            cases hia : inL a t with
            | false =>
              rw [hia] at HCA HSTEP
              have HST : Hid (meetL (c.L.take (j + 1)) a b = ML) := HSTEP.out.trans (List.append_nil _)
              clear HSTEP
              go_wp2_with fail
              refine HCA.out.mono ?_
              rintro e w7 ⟨rfl, hw7⟩
              rw [hw7]
              clear hw7 w7 HCA HCB HCL hia
              go_wp2
              go_roundw
              case rel => exact ⟨j + 1, by omega, by go_num, by rw [HST.out]; exact HO6.out, HB6.out⟩
              case measure => simp [intOf]; omega
            | true =>
              rw [hia] at HCA HSTEP
              cases hib : inL b t with
              | false =>
                rw [hib] at HCB HSTEP
                have HST : Hid (meetL (c.L.take (j + 1)) a b = ML) := HSTEP.out.trans (List.append_nil _)
                clear HSTEP
                go_wp2_with fail
                refine HCA.out.mono ?_
                rintro e w7 ⟨rfl, hw7⟩
                rw [hw7]
                clear hw7 w7 HCA HCL hia hib
                go_wp2_with fail
                refine HCB.out.mono ?_
                rintro e w7 ⟨rfl, hw7⟩
                rw [hw7]
                clear hw7 w7 HCB
                go_wp2
                go_roundw
                case rel => exact ⟨j + 1, by omega, by go_num, by rw [HST.out]; exact HO6.out, HB6.out⟩
                case measure => simp [intOf]; omega
              | true =>
                rw [hib] at HCB HSTEP
                have HST : Hid (meetL (c.L.take (j + 1)) a b = ML ++ [t]) := HSTEP.out
                clear HSTEP
                go_wp2_with fail
                refine HCA.out.mono ?_
                rintro e w7 ⟨rfl, hw7⟩
                rw [hw7]
                clear hw7 w7 HCA hia hib
                go_wp2_with fail
                refine HCB.out.mono ?_
                rintro e w7 ⟨rfl, hw7⟩
                rw [hw7]
                clear hw7 w7 HCB
                go_wp2_with fail
                refine HCL.out.mono ?_
                rintro e w7 ⟨rfl, hb7⟩
                have HO7 : Hid (OwnT w7 w5.heap.size (.slice pv ML.length cv) ML) := HO6.out.kept hb7
                have HB7 : Hid (Below w5.heap.size w5 w7) := HB6.out.trans (hb7.mono HB6.out.size)
                have hs7 : w5.heap.size ≤ w7.heap.size := HB7.out.size
                clear hb7 HCL HO6 q1 HSV
                go_wp2_with (first | (at_builtin; refine wpList_append_str rfl (.tmp 56) (.tmp 59) rfl w5.heap.size (.slice pv ML.length cv) ML rfl (HO7.out.kept ((Below.refl _ _).alloc (Nat.le_refl _) _)) ⟨w7.heap.size, 0, none⟩ t 1 rfl (by rw [World.cell?_alloc_at _ _ _ _ rfl]; rfl) (by omega) (by simp; omega) ?_; intro v8 w8 hO8 hb8))
                have HO8 : Hid (OwnT w8 w5.heap.size v8 (ML ++ [t])) := hO8
                have HB8 : Hid (Below w5.heap.size w5 w8) := HB7.out.trans ((((Below.refl w7.heap.size w7).alloc (Nat.le_refl _) _).mono hs7).trans hb8)
                clear hO8 hb8 HO7 HB7
                go_wp2
                go_roundw
                case rel => exact ⟨j + 1, by omega, by go_num, by rw [HST.out]; exact HO8.out, HB8.out⟩
                case measure => simp [intOf]; omega
          · have HE6 : Hid (meetL (c.L.take j) a b = T) := by show _ = _; rw [HF.out.2, List.take_of_length_le (by omega)]
            rw [HE6.out] at HSV hml
            rw [HE6.out]
            clear hB
            go_wp2
            go_ret2
            exact ⟨⟨_, pv, cv, rfl, HSV.out, by rw [HF.out.1]; exact ErrIs.nil _ _⟩, HBW5.out.trans (HB6.out.mono HBW5.out.size)⟩
theorem quorumOk (ad : Nat → Addr) : QuorumOk ad fun _ => True where
  check := fun c p cap w hc hE _ => qcheck_any ad c p cap w hc hE
  enough := fun c p cap w hc hE _ => qenough_any ad c p cap w hc hE
  meet := fun c p cap a pa ca b pb cb w hc ha hb hE _ => qmeet_any ad c p cap a pa ca b pb cb w hc ha hb hE
end Go.Proofs.YtgjehnahkbddgaaDoor
