import Derived.Test.YtobmckfcipeanaaGreatDoorZM
import Derived.Test.YtobmckfcipeanaaGreatDoorZA
import Derived.Deep.Heap
import Derived.Test.YtobmckfcipeanaaGreatDoorYE
import Derived.Test.YtobmckfcipeanaaGreatDoorXB
import Derived.Test.YtobmckfcipeanaaGreatDoorYK
import Derived.Test.YtobmckfcipeanaaGreatDoorZL
namespace Go.Proofs.YtobmckfcipeanaaGreatDoor
open Go.RowKit
structure Bid where
 put : Bool
 who : Int
 op : Int
 config : Int
 c : Cfg
 key : ByteArray
 text : ByteArray
def bidA (b : Bid) (lv : Value) : Value := .agg #[.bool b.put, .int .i64 b.who, .int .i64 b.op, .int .i64 b.config, .int .i64 b.c.n, .int .i64 b.c.k, lv, .string b.key, .string b.text]
def Bid.fits (b : Bid) : Prop := 0 <= b.who /\ b.who < 6 /\ 0 <= b.op /\ 0 <= b.config /\ (b.put = true -> b.text.size <= 1000)
instance (b : Bid) : Decidable b.fits := by unfold Bid.fits; exact inferInstance
def bidF (b : Bid) : Int × Int := if 0 < (cfgF b.c).1 then cfgF b.c else if isN b.key = false then (4, -1) else if b.fits then (0, -1) else (2, -1)
theorem bidF_cfg {b : Bid} (h : 0 < (cfgF b.c).1) : bidF b = cfgF b.c := if_pos h
theorem bidF_key {b : Bid} (h : ¬ 0 < (cfgF b.c).1) (h2 : isN b.key = false) : bidF b = (4, -1) := by unfold bidF; rw [if_neg h, if_pos h2]
theorem bidF_bound {b : Bid} (h : ¬ 0 < (cfgF b.c).1) (h2 : isN b.key = true) (h3 : ¬ b.fits) : bidF b = (2, -1) := by unfold bidF; rw [if_neg h, if_neg (by rw [h2]; decide), if_neg h3]
theorem bidF_fine {b : Bid} (h : ¬ 0 < (cfgF b.c).1) (h2 : isN b.key = true) (h3 : b.fits) : bidF b = (0, -1) := by unfold bidF; rw [if_neg h, if_neg (by rw [h2]; decide), if_pos h3]
structure FltAt (w : World) (b : Nat) (x y : Int) : Prop where
 c0 : w.cell? ⟨b, 0, none⟩ = some (.int .i64 x)
 c1 : w.cell? ⟨b, 1, none⟩ = some (.int .i64 y)
 f0 : w.frozen? ⟨b, 0, none⟩ = false
 f1 : w.frozen? ⟨b, 1, none⟩ = false
theorem lt_of_cellB {w : World} {b o : Nat} {v : Value} (h : w.cell? ⟨b, o, none⟩ = some v) : b < w.heap.size := by
 rcases Nat.lt_or_ge b w.heap.size with h' | h'
 ·exact h'
 ·simp [World.cell?, Array.getElem?_eq_none h'] at h
theorem FltAt.below {w w' : World} {b : Nat} {x y : Int} (h : FltAt w b x y) (hb : Below w.heap.size w w') : FltAt w' b x y :=
 have hlt := lt_of_cellB h.c0
 ⟨(hb.cell (p := ⟨b, 0, none⟩) hlt).trans h.c0, (hb.cell (p := ⟨b, 1, none⟩) hlt).trans h.c1, (hb.frozen (p := ⟨b, 0, none⟩) hlt).trans h.f0, (hb.frozen (p := ⟨b, 1, none⟩) hlt).trans h.f1⟩
theorem FltAt.set {w : World} {b : Nat} {x y : Int} (h : FltAt w b x y) (u v : Int) : ((w.setCell ⟨b, 0, none⟩ (.int .i64 u)).setCell ⟨b, 1, none⟩ (.int .i64 v)).cell? ⟨b, 0, none⟩ = some (.int .i64 u) /\ ((w.setCell ⟨b, 0, none⟩ (.int .i64 u)).setCell ⟨b, 1, none⟩ (.int .i64 v)).cell? ⟨b, 1, none⟩ = some (.int .i64 v) := by
 refine ⟨?_, ?_⟩
 ·rw [World.cell?_setCell_other _ _ _ _ (fun e => by have h2 : (1 : Nat) = 0 := congrArg Addr.off e; omega)]
  exact World.cell?_setCell_same _ _ _ h.c0
 ·refine World.cell?_setCell_same _ _ _ (u := .int .i64 y) ?_
  rw [World.cell?_setCell_other _ _ _ _ (fun e => by have h2 : (0 : Nat) = 1 := congrArg Addr.off e; omega)]
  exact h.c1
set_option maxRecDepth 10000 in
set_option maxHeartbeats 8000000 in
theorem bidFault_any (b : Bid) (p : Option Addr) (cap : Nat) (w : World) (hc : CfgAt w b.c p cap) (hk : b.key.size <= 1000000) :
 Calls Tryz.prog 10 #[bidA b (.slice p b.c.L.length cap)] w fun e w' => e = .returned (.agg #[.int .i64 (bidF b).1, .int .i64 (bidF b).2]) /\ Below w.heap.size w w' := by
 obtain ⟨wa, hwa⟩ : ∃ wa, wa = w.alloc (.cells #[.bool b.put, .int .i64 b.who, .int .i64 b.op, .int .i64 b.config, .int .i64 b.c.n, .int .i64 b.c.k, .slice p b.c.L.length cap, .string b.key, .string b.text] 26) := ⟨_, rfl⟩
 obtain ⟨w0, hw0⟩ : ∃ w0, w0 = wa.alloc (.cells #[.int .i64 0, .int .i64 0] 39) := ⟨_, rfl⟩
 have e1 : wa.heap.size = w.heap.size + 1 := by rw [hwa]; simp
 have hba : Below w.heap.size w wa := by rw [hwa]; exact (Below.refl _ _).alloc (Nat.le_refl _) _
 have hb0a : Below wa.heap.size wa w0 := by rw [hw0]; exact (Below.refl _ _).alloc (Nat.le_refl _) _
 have hb0 : Below w.heap.size w w0 := hba.trans (hb0a.mono hba.size)
 have hF0 : FltAt w0 (w.heap.size + 1) 0 0 := by
  rw [hw0]
  exact ⟨by rw [World.cell?_alloc_at _ _ _ _ e1.symm]; rfl, by rw [World.cell?_alloc_at _ _ _ _ e1.symm]; rfl, World.frozen?_alloc_at _ _ _ _ e1.symm, World.frozen?_alloc_at _ _ _ _ e1.symm⟩
 have hB : ∀ W, Below w0.heap.size w0 W -> ∀ j u, (#[.bool b.put, .int .i64 b.who, .int .i64 b.op, .int .i64 b.config, .int .i64 b.c.n, .int .i64 b.c.k, .slice p b.c.L.length cap, .string b.key, .string b.text] : Array Value)[j]? = some u -> W.cell? ⟨w.heap.size, j, none⟩ = some u := fun W hW j u hj => by
  have hlt : w.heap.size < wa.heap.size := by omega
  rw [hW.cell (p := ⟨w.heap.size, j, none⟩) (Nat.lt_of_lt_of_le hlt hb0a.size), hb0a.cell (p := ⟨w.heap.size, j, none⟩) hlt, hwa, World.cell?_alloc_at _ _ _ _ rfl]
  exact hj
 have HCELL : Hid (∀ W, Below w0.heap.size w0 W -> W.cell? ⟨w.heap.size, 0, none⟩ = some (.bool b.put) /\ W.cell? ⟨w.heap.size, 1, none⟩ = some (.int .i64 b.who) /\ W.cell? ⟨w.heap.size, 2, none⟩ = some (.int .i64 b.op) /\ W.cell? ⟨w.heap.size, 3, none⟩ = some (.int .i64 b.config) /\ W.cell? ⟨w.heap.size, 7, none⟩ = some (.string b.key) /\ W.cell? ⟨w.heap.size, 8, none⟩ = some (.string b.text)) := fun W hW => ⟨hB W hW 0 _ rfl, hB W hW 1 _ rfl, hB W hW 2 _ rfl, hB W hW 3 _ rfl, hB W hW 7 _ rfl, hB W hW 8 _ rfl⟩
 have g4 : w0.cell? ⟨w.heap.size, 4, none⟩ = some (.int .i64 b.c.n) := hB w0 (Below.refl _ _) 4 _ rfl
 have g5 : w0.cell? ⟨w.heap.size, 5, none⟩ = some (.int .i64 b.c.k) := hB w0 (Below.refl _ _) 5 _ rfl
 have g6 : w0.cell? ⟨w.heap.size, 6, none⟩ = some (.slice p b.c.L.length cap) := hB w0 (Below.refl _ _) 6 _ rfl
 have HCF := rcfg_any b.c p cap w0 (hc.below hb0)
 have HNM : Hid (∀ W, Calls Tryz.prog 30 #[.string b.key] W fun e w' => e = .returned (.bool (isN b.key)) /\ Below W.heap.size W w') := fun W => (isName_any b.key W hk).mono fun e w' ⟨he, hw⟩ => ⟨he, by rw [hw]; exact Below.refl _ _⟩
 have HBR : Hid (∀ x W, Calls Tryz.prog 31 #[.int .i64 x] W fun e w' => e = .returned (.agg #[.int .i64 x, .int .i64 (-1)]) /\ Below W.heap.size W w') := fun x W => bare_any x W
 have HW0 : Hid (w0 = (w.alloc (.cells #[.bool b.put, .int .i64 b.who, .int .i64 b.op, .int .i64 b.config, .int .i64 b.c.n, .int .i64 b.c.k, .slice p b.c.L.length cap, .string b.key, .string b.text] 26)).alloc (.cells #[.int .i64 0, .int .i64 0] 39)) := by show _ = _; rw [hw0, hwa]
 have HB0 : Hid (Below w.heap.size w w0) := hb0
 have HF0 : Hid (FltAt w0 (w.heap.size + 1) 0 0) := hF0
 unfold cfgA at HCF
 unfold bidA
 clear hwa hw0 hba hb0a hb0 hF0 hB hc e1
 by_cases hp : 0 < (cfgF b.c).1
 ·rw [bidF_cfg hp]
  have d1 : decide (0 < (cfgF b.c).1) = true := decide_eq_true hp
  generalize cfgF b.c = F at *
  go_enter Tryz.func10, Tryz.ntmps10
  go_wp2_with (rw [<- HW0.out])
  refine HCF.mono ?_
  rintro e w1 ⟨rfl, hb1⟩
  obtain ⟨w2, hw2⟩ : ∃ w2, w2 = w1.alloc (.cells #[.int .i64 F.1, .int .i64 F.2] 39) := ⟨_, rfl⟩
  have hb12 : Below w1.heap.size w1 w2 := by rw [hw2]; exact (Below.refl _ _).alloc (Nat.le_refl _) _
  have hb02 : Below w0.heap.size w0 w2 := hb1.trans (hb12.mono hb1.size)
  have x0 : w2.cell? ⟨w1.heap.size, 0, none⟩ = some (.int .i64 F.1) := by rw [hw2, World.cell?_alloc_at _ _ _ _ rfl]; rfl
  have x1 : w2.cell? ⟨w1.heap.size, 1, none⟩ = some (.int .i64 F.2) := by rw [hw2, World.cell?_alloc_at _ _ _ _ rfl]; rfl
  have HW2 : Hid (w2 = w1.alloc (.cells #[.int .i64 F.1, .int .i64 F.2] 39)) := hw2
  have HB02 : Hid (Below w0.heap.size w0 w2) := hb02
  have hF2 := HF0.out.below hb02
  have HF2 : Hid (FltAt w2 (w.heap.size + 1) 0 0) := hF2
  clear HCF hb1 hw2 hb12 hb02 g4 g5 g6
  have r0 := hF2.c0
  have r1 := hF2.c1
  have rf0 := hF2.f0
  have rf1 := hF2.f1
  obtain ⟨k0, k1⟩ := hF2.set F.1 F.2
  have HB9 : Hid (Below w.heap.size w ((w2.setCell ⟨w.heap.size + 1, 0, none⟩ (.int .i64 F.1)).setCell ⟨w.heap.size + 1, 1, none⟩ (.int .i64 F.2))) := ((HB0.out.trans ((HB02.out).mono HB0.out.size)).setCell (by show w.heap.size <= w.heap.size + 1; omega) _).setCell (by show w.heap.size <= w.heap.size + 1; omega) _
  clear hF2 HF2
  go_wp2_with (first | rw [<- HW2.out] | fail)
  exact bodyPost_ret (v := .agg #[.int .i64 F.1, .int .i64 F.2]) (by simp [results, Tryz.results10, go_sem, k0, k1]) rfl ⟨rfl, HB9.out⟩
 ·have h0 := (cfgF_fine hp).2.2.1
  have HD : Hid (bidF b = bidF b) := by show _ = _; rfl
  by_cases hn : isN b.key = true
  ·rw [hn] at HNM
   by_cases hw1 : b.who < 0
   ·rw [bidF_bound hp hn (fun h => by unfold Bid.fits at h; omega)]
    have dd0 : decide (b.who < 0) = true := decide_eq_true hw1
    have d1 : decide (0 < (cfgF b.c).1) = false := decide_eq_false hp
    rw [h0] at d1 HCF
    obtain ⟨F, hF⟩ : ∃ F : Int × Int, F = (0, -1) := ⟨_, rfl⟩
    rw [<- hF] at d1 HCF
    have HFE : Hid (F = (0, -1)) := hF
    clear hF h0 hp hn HD
    go_enter Tryz.func10, Tryz.ntmps10
    go_wp2_with (rw [<- HW0.out])
    refine HCF.mono ?_
    rintro e w1 ⟨rfl, hb1⟩
    obtain ⟨w2, hw2⟩ : ∃ w2, w2 = w1.alloc (.cells #[.int .i64 F.1, .int .i64 F.2] 39) := ⟨_, rfl⟩
    have hb12 : Below w1.heap.size w1 w2 := by rw [hw2]; exact (Below.refl _ _).alloc (Nat.le_refl _) _
    have hb02 : Below w0.heap.size w0 w2 := hb1.trans (hb12.mono hb1.size)
    have x0 : w2.cell? ⟨w1.heap.size, 0, none⟩ = some (.int .i64 F.1) := by rw [hw2, World.cell?_alloc_at _ _ _ _ rfl]; rfl
    have x1 : w2.cell? ⟨w1.heap.size, 1, none⟩ = some (.int .i64 F.2) := by rw [hw2, World.cell?_alloc_at _ _ _ _ rfl]; rfl
    have HW2 : Hid (w2 = w1.alloc (.cells #[.int .i64 F.1, .int .i64 F.2] 39)) := hw2
    have HB02 : Hid (Below w0.heap.size w0 w2) := hb02
    have hF2 := HF0.out.below hb02
    have HF2 : Hid (FltAt w2 (w.heap.size + 1) 0 0) := hF2
    clear HCF hb1 hw2 hb12 hb02 g4 g5 g6
    have q7 := (HCELL.out w2 HB02.out).2.2.2.2.1
    clear hF2
    go_wp2_with (first | rw [<- HW2.out] | fail)
    refine (HNM.out _).mono ?_
    rintro e w3 ⟨rfl, hb3⟩
    have HB03 : Hid (Below w0.heap.size w0 w3) := HB02.out.trans (hb3.mono HB02.out.size)
    have hF3 := HF2.out.below hb3
    have HF3 : Hid (FltAt w3 (w.heap.size + 1) 0 0) := hF3
    have y0 : w3.cell? ⟨w1.heap.size, 0, none⟩ = some (.int .i64 F.1) := (hb3.cell (p := ⟨w1.heap.size, 0, none⟩) (lt_of_cellB x0)).trans x0
    have y1 : w3.cell? ⟨w1.heap.size, 1, none⟩ = some (.int .i64 F.2) := (hb3.cell (p := ⟨w1.heap.size, 1, none⟩) (lt_of_cellB x0)).trans x1
    obtain ⟨z0, z1, z2, z3, z7, z8⟩ := HCELL.out w3 HB03.out
    clear hb3 x0 x1 q7 HF2 HNM HW2 HB02 HCELL
    clear hF3 y0 y1
    go_wp2_with fail
    refine (HBR.out 2 _).mono ?_
    rintro e w4 ⟨rfl, hb4⟩
    have hF4 := HF3.out.below hb4
    have HB04 : Hid (Below w0.heap.size w0 w4) := HB03.out.trans (hb4.mono HB03.out.size)
    have r0 := hF4.c0
    have r1 := hF4.c1
    have rf0 := hF4.f0
    have rf1 := hF4.f1
    obtain ⟨k0, k1⟩ := hF4.set 2 (-1)
    have HB9 : Hid (Below w.heap.size w ((w4.setCell ⟨w.heap.size + 1, 0, none⟩ (.int .i64 2)).setCell ⟨w.heap.size + 1, 1, none⟩ (.int .i64 (-1)))) := ((HB0.out.trans ((HB04.out).mono HB0.out.size)).setCell (by show w.heap.size <= w.heap.size + 1; omega) _).setCell (by show w.heap.size <= w.heap.size + 1; omega) _
    clear hF4 hb4 HF3 HBR HB03 z0 z1 z2 z3 z7 z8
    go_wp2
    exact bodyPost_ret (v := .agg #[.int .i64 2, .int .i64 (-1)]) (by simp [results, Tryz.results10, go_sem, k0, k1]) rfl ⟨rfl, HB9.out⟩
   ·skip
    by_cases hw2 : 6 <= b.who
    ·rw [bidF_bound hp hn (fun h => by unfold Bid.fits at h; omega)]
     have dd1 : decide (6 <= b.who) = true := decide_eq_true hw2
     have dd0 : decide (b.who < 0) = false := decide_eq_false hw1
     have d1 : decide (0 < (cfgF b.c).1) = false := decide_eq_false hp
     rw [h0] at d1 HCF
     obtain ⟨F, hF⟩ : ∃ F : Int × Int, F = (0, -1) := ⟨_, rfl⟩
     rw [<- hF] at d1 HCF
     have HFE : Hid (F = (0, -1)) := hF
     clear hF h0 hp hn HD
     go_enter Tryz.func10, Tryz.ntmps10
     go_wp2_with (rw [<- HW0.out])
     refine HCF.mono ?_
     rintro e w1 ⟨rfl, hb1⟩
     obtain ⟨w2, hw2⟩ : ∃ w2, w2 = w1.alloc (.cells #[.int .i64 F.1, .int .i64 F.2] 39) := ⟨_, rfl⟩
     have hb12 : Below w1.heap.size w1 w2 := by rw [hw2]; exact (Below.refl _ _).alloc (Nat.le_refl _) _
     have hb02 : Below w0.heap.size w0 w2 := hb1.trans (hb12.mono hb1.size)
     have x0 : w2.cell? ⟨w1.heap.size, 0, none⟩ = some (.int .i64 F.1) := by rw [hw2, World.cell?_alloc_at _ _ _ _ rfl]; rfl
     have x1 : w2.cell? ⟨w1.heap.size, 1, none⟩ = some (.int .i64 F.2) := by rw [hw2, World.cell?_alloc_at _ _ _ _ rfl]; rfl
     have HW2 : Hid (w2 = w1.alloc (.cells #[.int .i64 F.1, .int .i64 F.2] 39)) := hw2
     have HB02 : Hid (Below w0.heap.size w0 w2) := hb02
     have hF2 := HF0.out.below hb02
     have HF2 : Hid (FltAt w2 (w.heap.size + 1) 0 0) := hF2
     clear HCF hb1 hw2 hb12 hb02 g4 g5 g6
     have q7 := (HCELL.out w2 HB02.out).2.2.2.2.1
     clear hF2
     go_wp2_with (first | rw [<- HW2.out] | fail)
     refine (HNM.out _).mono ?_
     rintro e w3 ⟨rfl, hb3⟩
     have HB03 : Hid (Below w0.heap.size w0 w3) := HB02.out.trans (hb3.mono HB02.out.size)
     have hF3 := HF2.out.below hb3
     have HF3 : Hid (FltAt w3 (w.heap.size + 1) 0 0) := hF3
     have y0 : w3.cell? ⟨w1.heap.size, 0, none⟩ = some (.int .i64 F.1) := (hb3.cell (p := ⟨w1.heap.size, 0, none⟩) (lt_of_cellB x0)).trans x0
     have y1 : w3.cell? ⟨w1.heap.size, 1, none⟩ = some (.int .i64 F.2) := (hb3.cell (p := ⟨w1.heap.size, 1, none⟩) (lt_of_cellB x0)).trans x1
     obtain ⟨z0, z1, z2, z3, z7, z8⟩ := HCELL.out w3 HB03.out
     clear hb3 x0 x1 q7 HF2 HNM HW2 HB02 HCELL
     clear hF3 y0 y1
     go_wp2_with fail
     refine (HBR.out 2 _).mono ?_
     rintro e w4 ⟨rfl, hb4⟩
     have hF4 := HF3.out.below hb4
     have HB04 : Hid (Below w0.heap.size w0 w4) := HB03.out.trans (hb4.mono HB03.out.size)
     have r0 := hF4.c0
     have r1 := hF4.c1
     have rf0 := hF4.f0
     have rf1 := hF4.f1
     obtain ⟨k0, k1⟩ := hF4.set 2 (-1)
     have HB9 : Hid (Below w.heap.size w ((w4.setCell ⟨w.heap.size + 1, 0, none⟩ (.int .i64 2)).setCell ⟨w.heap.size + 1, 1, none⟩ (.int .i64 (-1)))) := ((HB0.out.trans ((HB04.out).mono HB0.out.size)).setCell (by show w.heap.size <= w.heap.size + 1; omega) _).setCell (by show w.heap.size <= w.heap.size + 1; omega) _
     clear hF4 hb4 HF3 HBR HB03 z0 z1 z2 z3 z7 z8
     go_wp2
     exact bodyPost_ret (v := .agg #[.int .i64 2, .int .i64 (-1)]) (by simp [results, Tryz.results10, go_sem, k0, k1]) rfl ⟨rfl, HB9.out⟩
    ·skip
     by_cases ho : b.op < 0
     ·rw [bidF_bound hp hn (fun h => by unfold Bid.fits at h; omega)]
      have dd2 : decide (b.op < 0) = true := decide_eq_true ho
      have dd0 : decide (b.who < 0) = false := decide_eq_false hw1
      have dd1 : decide (6 <= b.who) = false := decide_eq_false hw2
      have d1 : decide (0 < (cfgF b.c).1) = false := decide_eq_false hp
      rw [h0] at d1 HCF
      obtain ⟨F, hF⟩ : ∃ F : Int × Int, F = (0, -1) := ⟨_, rfl⟩
      rw [<- hF] at d1 HCF
      have HFE : Hid (F = (0, -1)) := hF
      clear hF h0 hp hn HD
      go_enter Tryz.func10, Tryz.ntmps10
      go_wp2_with (rw [<- HW0.out])
      refine HCF.mono ?_
      rintro e w1 ⟨rfl, hb1⟩
      obtain ⟨w2, hw2⟩ : ∃ w2, w2 = w1.alloc (.cells #[.int .i64 F.1, .int .i64 F.2] 39) := ⟨_, rfl⟩
      have hb12 : Below w1.heap.size w1 w2 := by rw [hw2]; exact (Below.refl _ _).alloc (Nat.le_refl _) _
      have hb02 : Below w0.heap.size w0 w2 := hb1.trans (hb12.mono hb1.size)
      have x0 : w2.cell? ⟨w1.heap.size, 0, none⟩ = some (.int .i64 F.1) := by rw [hw2, World.cell?_alloc_at _ _ _ _ rfl]; rfl
      have x1 : w2.cell? ⟨w1.heap.size, 1, none⟩ = some (.int .i64 F.2) := by rw [hw2, World.cell?_alloc_at _ _ _ _ rfl]; rfl
      have HW2 : Hid (w2 = w1.alloc (.cells #[.int .i64 F.1, .int .i64 F.2] 39)) := hw2
      have HB02 : Hid (Below w0.heap.size w0 w2) := hb02
      have hF2 := HF0.out.below hb02
      have HF2 : Hid (FltAt w2 (w.heap.size + 1) 0 0) := hF2
      clear HCF hb1 hw2 hb12 hb02 g4 g5 g6
      have q7 := (HCELL.out w2 HB02.out).2.2.2.2.1
      clear hF2
      go_wp2_with (first | rw [<- HW2.out] | fail)
      refine (HNM.out _).mono ?_
      rintro e w3 ⟨rfl, hb3⟩
      have HB03 : Hid (Below w0.heap.size w0 w3) := HB02.out.trans (hb3.mono HB02.out.size)
      have hF3 := HF2.out.below hb3
      have HF3 : Hid (FltAt w3 (w.heap.size + 1) 0 0) := hF3
      have y0 : w3.cell? ⟨w1.heap.size, 0, none⟩ = some (.int .i64 F.1) := (hb3.cell (p := ⟨w1.heap.size, 0, none⟩) (lt_of_cellB x0)).trans x0
      have y1 : w3.cell? ⟨w1.heap.size, 1, none⟩ = some (.int .i64 F.2) := (hb3.cell (p := ⟨w1.heap.size, 1, none⟩) (lt_of_cellB x0)).trans x1
      obtain ⟨z0, z1, z2, z3, z7, z8⟩ := HCELL.out w3 HB03.out
      clear hb3 x0 x1 q7 HF2 HNM HW2 HB02 HCELL
      clear hF3 y0 y1
      go_wp2_with fail
      refine (HBR.out 2 _).mono ?_
      rintro e w4 ⟨rfl, hb4⟩
      have hF4 := HF3.out.below hb4
      have HB04 : Hid (Below w0.heap.size w0 w4) := HB03.out.trans (hb4.mono HB03.out.size)
      have r0 := hF4.c0
      have r1 := hF4.c1
      have rf0 := hF4.f0
      have rf1 := hF4.f1
      obtain ⟨k0, k1⟩ := hF4.set 2 (-1)
      have HB9 : Hid (Below w.heap.size w ((w4.setCell ⟨w.heap.size + 1, 0, none⟩ (.int .i64 2)).setCell ⟨w.heap.size + 1, 1, none⟩ (.int .i64 (-1)))) := ((HB0.out.trans ((HB04.out).mono HB0.out.size)).setCell (by show w.heap.size <= w.heap.size + 1; omega) _).setCell (by show w.heap.size <= w.heap.size + 1; omega) _
      clear hF4 hb4 HF3 HBR HB03 z0 z1 z2 z3 z7 z8
      go_wp2
      exact bodyPost_ret (v := .agg #[.int .i64 2, .int .i64 (-1)]) (by simp [results, Tryz.results10, go_sem, k0, k1]) rfl ⟨rfl, HB9.out⟩
     ·skip
      by_cases hcf : b.config < 0
      ·rw [bidF_bound hp hn (fun h => by unfold Bid.fits at h; omega)]
       have dd3 : decide (b.config < 0) = true := decide_eq_true hcf
       have dd0 : decide (b.who < 0) = false := decide_eq_false hw1
       have dd1 : decide (6 <= b.who) = false := decide_eq_false hw2
       have dd2 : decide (b.op < 0) = false := decide_eq_false ho
       have d1 : decide (0 < (cfgF b.c).1) = false := decide_eq_false hp
       rw [h0] at d1 HCF
       obtain ⟨F, hF⟩ : ∃ F : Int × Int, F = (0, -1) := ⟨_, rfl⟩
       rw [<- hF] at d1 HCF
       have HFE : Hid (F = (0, -1)) := hF
       clear hF h0 hp hn HD
       go_enter Tryz.func10, Tryz.ntmps10
       go_wp2_with (rw [<- HW0.out])
       refine HCF.mono ?_
       rintro e w1 ⟨rfl, hb1⟩
       obtain ⟨w2, hw2⟩ : ∃ w2, w2 = w1.alloc (.cells #[.int .i64 F.1, .int .i64 F.2] 39) := ⟨_, rfl⟩
       have hb12 : Below w1.heap.size w1 w2 := by rw [hw2]; exact (Below.refl _ _).alloc (Nat.le_refl _) _
       have hb02 : Below w0.heap.size w0 w2 := hb1.trans (hb12.mono hb1.size)
       have x0 : w2.cell? ⟨w1.heap.size, 0, none⟩ = some (.int .i64 F.1) := by rw [hw2, World.cell?_alloc_at _ _ _ _ rfl]; rfl
       have x1 : w2.cell? ⟨w1.heap.size, 1, none⟩ = some (.int .i64 F.2) := by rw [hw2, World.cell?_alloc_at _ _ _ _ rfl]; rfl
       have HW2 : Hid (w2 = w1.alloc (.cells #[.int .i64 F.1, .int .i64 F.2] 39)) := hw2
       have HB02 : Hid (Below w0.heap.size w0 w2) := hb02
       have hF2 := HF0.out.below hb02
       have HF2 : Hid (FltAt w2 (w.heap.size + 1) 0 0) := hF2
       clear HCF hb1 hw2 hb12 hb02 g4 g5 g6
       have q7 := (HCELL.out w2 HB02.out).2.2.2.2.1
       clear hF2
       go_wp2_with (first | rw [<- HW2.out] | fail)
       refine (HNM.out _).mono ?_
       rintro e w3 ⟨rfl, hb3⟩
       have HB03 : Hid (Below w0.heap.size w0 w3) := HB02.out.trans (hb3.mono HB02.out.size)
       have hF3 := HF2.out.below hb3
       have HF3 : Hid (FltAt w3 (w.heap.size + 1) 0 0) := hF3
       have y0 : w3.cell? ⟨w1.heap.size, 0, none⟩ = some (.int .i64 F.1) := (hb3.cell (p := ⟨w1.heap.size, 0, none⟩) (lt_of_cellB x0)).trans x0
       have y1 : w3.cell? ⟨w1.heap.size, 1, none⟩ = some (.int .i64 F.2) := (hb3.cell (p := ⟨w1.heap.size, 1, none⟩) (lt_of_cellB x0)).trans x1
       obtain ⟨z0, z1, z2, z3, z7, z8⟩ := HCELL.out w3 HB03.out
       clear hb3 x0 x1 q7 HF2 HNM HW2 HB02 HCELL
       clear hF3 y0 y1
       go_wp2_with fail
       refine (HBR.out 2 _).mono ?_
       rintro e w4 ⟨rfl, hb4⟩
       have hF4 := HF3.out.below hb4
       have HB04 : Hid (Below w0.heap.size w0 w4) := HB03.out.trans (hb4.mono HB03.out.size)
       have r0 := hF4.c0
       have r1 := hF4.c1
       have rf0 := hF4.f0
       have rf1 := hF4.f1
       obtain ⟨k0, k1⟩ := hF4.set 2 (-1)
       have HB9 : Hid (Below w.heap.size w ((w4.setCell ⟨w.heap.size + 1, 0, none⟩ (.int .i64 2)).setCell ⟨w.heap.size + 1, 1, none⟩ (.int .i64 (-1)))) := ((HB0.out.trans ((HB04.out).mono HB0.out.size)).setCell (by show w.heap.size <= w.heap.size + 1; omega) _).setCell (by show w.heap.size <= w.heap.size + 1; omega) _
       clear hF4 hb4 HF3 HBR HB03 z0 z1 z2 z3 z7 z8
       go_wp2
       exact bodyPost_ret (v := .agg #[.int .i64 2, .int .i64 (-1)]) (by simp [results, Tryz.results10, go_sem, k0, k1]) rfl ⟨rfl, HB9.out⟩
      ·skip
       by_cases hpt : b.put = true /\ 1000 < b.text.size
       ·rw [bidF_bound hp hn (fun h => by unfold Bid.fits at h; have := h.2.2.2.2 hpt.1; omega)]
        have dd0 : decide (b.who < 0) = false := decide_eq_false hw1
        have dd1 : decide (6 <= b.who) = false := decide_eq_false hw2
        have dd2 : decide (b.op < 0) = false := decide_eq_false ho
        have dd3 : decide (b.config < 0) = false := decide_eq_false hcf
        have dd4 : decide (1000 < b.text.size) = true := decide_eq_true hpt.2
        have dp := hpt.1
        rw [dp] at HCELL HW0
        have d1 : decide (0 < (cfgF b.c).1) = false := decide_eq_false hp
        rw [h0] at d1 HCF
        obtain ⟨F, hF⟩ : ∃ F : Int × Int, F = (0, -1) := ⟨_, rfl⟩
        rw [<- hF] at d1 HCF
        have HFE : Hid (F = (0, -1)) := hF
        clear hF h0 hp hn HD
        rw [dp]
        go_enter Tryz.func10, Tryz.ntmps10
        go_wp2_with (rw [<- HW0.out])
        refine HCF.mono ?_
        rintro e w1 ⟨rfl, hb1⟩
        obtain ⟨w2, hw2⟩ : ∃ w2, w2 = w1.alloc (.cells #[.int .i64 F.1, .int .i64 F.2] 39) := ⟨_, rfl⟩
        have hb12 : Below w1.heap.size w1 w2 := by rw [hw2]; exact (Below.refl _ _).alloc (Nat.le_refl _) _
        have hb02 : Below w0.heap.size w0 w2 := hb1.trans (hb12.mono hb1.size)
        have x0 : w2.cell? ⟨w1.heap.size, 0, none⟩ = some (.int .i64 F.1) := by rw [hw2, World.cell?_alloc_at _ _ _ _ rfl]; rfl
        have x1 : w2.cell? ⟨w1.heap.size, 1, none⟩ = some (.int .i64 F.2) := by rw [hw2, World.cell?_alloc_at _ _ _ _ rfl]; rfl
        have HW2 : Hid (w2 = w1.alloc (.cells #[.int .i64 F.1, .int .i64 F.2] 39)) := hw2
        have HB02 : Hid (Below w0.heap.size w0 w2) := hb02
        have hF2 := HF0.out.below hb02
        have HF2 : Hid (FltAt w2 (w.heap.size + 1) 0 0) := hF2
        clear HCF hb1 hw2 hb12 hb02 g4 g5 g6
        have q7 := (HCELL.out w2 HB02.out).2.2.2.2.1
        clear hF2
        go_wp2_with (first | rw [<- HW2.out] | fail)
        refine (HNM.out _).mono ?_
        rintro e w3 ⟨rfl, hb3⟩
        have HB03 : Hid (Below w0.heap.size w0 w3) := HB02.out.trans (hb3.mono HB02.out.size)
        have hF3 := HF2.out.below hb3
        have HF3 : Hid (FltAt w3 (w.heap.size + 1) 0 0) := hF3
        have y0 : w3.cell? ⟨w1.heap.size, 0, none⟩ = some (.int .i64 F.1) := (hb3.cell (p := ⟨w1.heap.size, 0, none⟩) (lt_of_cellB x0)).trans x0
        have y1 : w3.cell? ⟨w1.heap.size, 1, none⟩ = some (.int .i64 F.2) := (hb3.cell (p := ⟨w1.heap.size, 1, none⟩) (lt_of_cellB x0)).trans x1
        obtain ⟨z0, z1, z2, z3, z7, z8⟩ := HCELL.out w3 HB03.out
        clear hb3 x0 x1 q7 HF2 HNM HW2 HB02 HCELL
        clear hF3 y0 y1
        go_wp2_with fail
        refine (HBR.out 2 _).mono ?_
        rintro e w4 ⟨rfl, hb4⟩
        have hF4 := HF3.out.below hb4
        have HB04 : Hid (Below w0.heap.size w0 w4) := HB03.out.trans (hb4.mono HB03.out.size)
        have r0 := hF4.c0
        have r1 := hF4.c1
        have rf0 := hF4.f0
        have rf1 := hF4.f1
        obtain ⟨k0, k1⟩ := hF4.set 2 (-1)
        have HB9 : Hid (Below w.heap.size w ((w4.setCell ⟨w.heap.size + 1, 0, none⟩ (.int .i64 2)).setCell ⟨w.heap.size + 1, 1, none⟩ (.int .i64 (-1)))) := ((HB0.out.trans ((HB04.out).mono HB0.out.size)).setCell (by show w.heap.size <= w.heap.size + 1; omega) _).setCell (by show w.heap.size <= w.heap.size + 1; omega) _
        clear hF4 hb4 HF3 HBR HB03 z0 z1 z2 z3 z7 z8
        go_wp2
        exact bodyPost_ret (v := .agg #[.int .i64 2, .int .i64 (-1)]) (by simp [results, Tryz.results10, go_sem, k0, k1]) rfl ⟨rfl, HB9.out⟩
       ·rw [bidF_fine hp hn (by unfold Bid.fits; refine ⟨by omega, by omega, by omega, by omega, fun h => ?_⟩; rcases Nat.lt_or_ge 1000 b.text.size with h2 | h2; exact absurd ⟨h, h2⟩ hpt; exact h2)]
        have dd0 : decide (b.who < 0) = false := decide_eq_false hw1
        have dd1 : decide (6 <= b.who) = false := decide_eq_false hw2
        have dd2 : decide (b.op < 0) = false := decide_eq_false ho
        have dd3 : decide (b.config < 0) = false := decide_eq_false hcf
        have d1 : decide (0 < (cfgF b.c).1) = false := decide_eq_false hp
        rw [h0] at d1 HCF
        obtain ⟨F, hF⟩ : ∃ F : Int × Int, F = (0, -1) := ⟨_, rfl⟩
        rw [<- hF] at d1 HCF
        have HFE : Hid (F = (0, -1)) := hF
        clear hF h0 hp hn HD
        cases hput : b.put with
        | false =>
         rw [hput] at HCELL HW0 hpt
         clear hpt
         go_enter Tryz.func10, Tryz.ntmps10
         go_wp2_with (rw [<- HW0.out])
         refine HCF.mono ?_
         rintro e w1 ⟨rfl, hb1⟩
         obtain ⟨w2, hw2⟩ : ∃ w2, w2 = w1.alloc (.cells #[.int .i64 F.1, .int .i64 F.2] 39) := ⟨_, rfl⟩
         have hb12 : Below w1.heap.size w1 w2 := by rw [hw2]; exact (Below.refl _ _).alloc (Nat.le_refl _) _
         have hb02 : Below w0.heap.size w0 w2 := hb1.trans (hb12.mono hb1.size)
         have x0 : w2.cell? ⟨w1.heap.size, 0, none⟩ = some (.int .i64 F.1) := by rw [hw2, World.cell?_alloc_at _ _ _ _ rfl]; rfl
         have x1 : w2.cell? ⟨w1.heap.size, 1, none⟩ = some (.int .i64 F.2) := by rw [hw2, World.cell?_alloc_at _ _ _ _ rfl]; rfl
         have HW2 : Hid (w2 = w1.alloc (.cells #[.int .i64 F.1, .int .i64 F.2] 39)) := hw2
         have HB02 : Hid (Below w0.heap.size w0 w2) := hb02
         have hF2 := HF0.out.below hb02
         have HF2 : Hid (FltAt w2 (w.heap.size + 1) 0 0) := hF2
         clear HCF hb1 hw2 hb12 hb02 g4 g5 g6
         have q7 := (HCELL.out w2 HB02.out).2.2.2.2.1
         clear hF2
         go_wp2_with (first | rw [<- HW2.out] | fail)
         refine (HNM.out _).mono ?_
         rintro e w3 ⟨rfl, hb3⟩
         have HB03 : Hid (Below w0.heap.size w0 w3) := HB02.out.trans (hb3.mono HB02.out.size)
         have hF3 := HF2.out.below hb3
         have HF3 : Hid (FltAt w3 (w.heap.size + 1) 0 0) := hF3
         have y0 : w3.cell? ⟨w1.heap.size, 0, none⟩ = some (.int .i64 F.1) := (hb3.cell (p := ⟨w1.heap.size, 0, none⟩) (lt_of_cellB x0)).trans x0
         have y1 : w3.cell? ⟨w1.heap.size, 1, none⟩ = some (.int .i64 F.2) := (hb3.cell (p := ⟨w1.heap.size, 1, none⟩) (lt_of_cellB x0)).trans x1
         obtain ⟨z0, z1, z2, z3, z7, z8⟩ := HCELL.out w3 HB03.out
         clear hb3 x0 x1 q7 HF2 HNM HW2 HB02 HCELL
         rw [HFE.out] at y0 y1
         dsimp only at y0 y1
         have r0 := hF3.c0
         have r1 := hF3.c1
         have rf0 := hF3.f0
         have rf1 := hF3.f1
         obtain ⟨k0, k1⟩ := hF3.set 0 (-1)
         have HB9 : Hid (Below w.heap.size w ((w3.setCell ⟨w.heap.size + 1, 0, none⟩ (.int .i64 0)).setCell ⟨w.heap.size + 1, 1, none⟩ (.int .i64 (-1)))) := ((HB0.out.trans ((HB03.out).mono HB0.out.size)).setCell (by show w.heap.size <= w.heap.size + 1; omega) _).setCell (by show w.heap.size <= w.heap.size + 1; omega) _
         clear hF3 HF3 HBR
         go_wp2
         exact bodyPost_ret (v := .agg #[.int .i64 0, .int .i64 (-1)]) (by simp [results, Tryz.results10, go_sem, k0, k1]) rfl ⟨rfl, HB9.out⟩
        | true =>
         rw [hput] at HCELL HW0 hpt
         have hle : b.text.size <= 1000 := by rcases Nat.lt_or_ge 1000 b.text.size with h2 | h2; exact absurd ⟨rfl, h2⟩ hpt; exact h2
         have dd4 : decide ((1000 : Int) < (b.text.size : Int)) = false := decide_eq_false (by omega)
         clear hpt
         go_enter Tryz.func10, Tryz.ntmps10
         go_wp2_with (rw [<- HW0.out])
         refine HCF.mono ?_
         rintro e w1 ⟨rfl, hb1⟩
         obtain ⟨w2, hw2⟩ : ∃ w2, w2 = w1.alloc (.cells #[.int .i64 F.1, .int .i64 F.2] 39) := ⟨_, rfl⟩
         have hb12 : Below w1.heap.size w1 w2 := by rw [hw2]; exact (Below.refl _ _).alloc (Nat.le_refl _) _
         have hb02 : Below w0.heap.size w0 w2 := hb1.trans (hb12.mono hb1.size)
         have x0 : w2.cell? ⟨w1.heap.size, 0, none⟩ = some (.int .i64 F.1) := by rw [hw2, World.cell?_alloc_at _ _ _ _ rfl]; rfl
         have x1 : w2.cell? ⟨w1.heap.size, 1, none⟩ = some (.int .i64 F.2) := by rw [hw2, World.cell?_alloc_at _ _ _ _ rfl]; rfl
         have HW2 : Hid (w2 = w1.alloc (.cells #[.int .i64 F.1, .int .i64 F.2] 39)) := hw2
         have HB02 : Hid (Below w0.heap.size w0 w2) := hb02
         have hF2 := HF0.out.below hb02
         have HF2 : Hid (FltAt w2 (w.heap.size + 1) 0 0) := hF2
         clear HCF hb1 hw2 hb12 hb02 g4 g5 g6
         have q7 := (HCELL.out w2 HB02.out).2.2.2.2.1
         clear hF2
         go_wp2_with (first | rw [<- HW2.out] | fail)
         refine (HNM.out _).mono ?_
         rintro e w3 ⟨rfl, hb3⟩
         have HB03 : Hid (Below w0.heap.size w0 w3) := HB02.out.trans (hb3.mono HB02.out.size)
         have hF3 := HF2.out.below hb3
         have HF3 : Hid (FltAt w3 (w.heap.size + 1) 0 0) := hF3
         have y0 : w3.cell? ⟨w1.heap.size, 0, none⟩ = some (.int .i64 F.1) := (hb3.cell (p := ⟨w1.heap.size, 0, none⟩) (lt_of_cellB x0)).trans x0
         have y1 : w3.cell? ⟨w1.heap.size, 1, none⟩ = some (.int .i64 F.2) := (hb3.cell (p := ⟨w1.heap.size, 1, none⟩) (lt_of_cellB x0)).trans x1
         obtain ⟨z0, z1, z2, z3, z7, z8⟩ := HCELL.out w3 HB03.out
         clear hb3 x0 x1 q7 HF2 HNM HW2 HB02 HCELL
         rw [HFE.out] at y0 y1
         dsimp only at y0 y1
         have r0 := hF3.c0
         have r1 := hF3.c1
         have rf0 := hF3.f0
         have rf1 := hF3.f1
         obtain ⟨k0, k1⟩ := hF3.set 0 (-1)
         have HB9 : Hid (Below w.heap.size w ((w3.setCell ⟨w.heap.size + 1, 0, none⟩ (.int .i64 0)).setCell ⟨w.heap.size + 1, 1, none⟩ (.int .i64 (-1)))) := ((HB0.out.trans ((HB03.out).mono HB0.out.size)).setCell (by show w.heap.size <= w.heap.size + 1; omega) _).setCell (by show w.heap.size <= w.heap.size + 1; omega) _
         clear hF3 HF3 HBR
         go_wp2
         exact bodyPost_ret (v := .agg #[.int .i64 0, .int .i64 (-1)]) (by simp [results, Tryz.results10, go_sem, k0, k1]) rfl ⟨rfl, HB9.out⟩
  ·have hn' : isN b.key = false := by simpa using hn
   rw [bidF_key hp hn']
   rw [hn'] at HNM
   have d1 : decide (0 < (cfgF b.c).1) = false := decide_eq_false hp
   rw [h0] at d1 HCF
   obtain ⟨F, hF⟩ : ∃ F : Int × Int, F = (0, -1) := ⟨_, rfl⟩
   rw [<- hF] at d1 HCF
   clear hF h0 hp hn hn' HD
   go_enter Tryz.func10, Tryz.ntmps10
   go_wp2_with (rw [<- HW0.out])
   refine HCF.mono ?_
   rintro e w1 ⟨rfl, hb1⟩
   obtain ⟨w2, hw2⟩ : ∃ w2, w2 = w1.alloc (.cells #[.int .i64 F.1, .int .i64 F.2] 39) := ⟨_, rfl⟩
   have hb12 : Below w1.heap.size w1 w2 := by rw [hw2]; exact (Below.refl _ _).alloc (Nat.le_refl _) _
   have hb02 : Below w0.heap.size w0 w2 := hb1.trans (hb12.mono hb1.size)
   have x0 : w2.cell? ⟨w1.heap.size, 0, none⟩ = some (.int .i64 F.1) := by rw [hw2, World.cell?_alloc_at _ _ _ _ rfl]; rfl
   have x1 : w2.cell? ⟨w1.heap.size, 1, none⟩ = some (.int .i64 F.2) := by rw [hw2, World.cell?_alloc_at _ _ _ _ rfl]; rfl
   have HW2 : Hid (w2 = w1.alloc (.cells #[.int .i64 F.1, .int .i64 F.2] 39)) := hw2
   have HB02 : Hid (Below w0.heap.size w0 w2) := hb02
   have hF2 := HF0.out.below hb02
   have HF2 : Hid (FltAt w2 (w.heap.size + 1) 0 0) := hF2
   clear HCF hb1 hw2 hb12 hb02 g4 g5 g6
   have q7 := (HCELL.out w2 HB02.out).2.2.2.2.1
   clear hF2
   go_wp2_with (first | rw [<- HW2.out] | fail)
   refine (HNM.out _).mono ?_
   rintro e w3 ⟨rfl, hb3⟩
   have HB03 : Hid (Below w0.heap.size w0 w3) := HB02.out.trans (hb3.mono HB02.out.size)
   have hF3 := HF2.out.below hb3
   have HF3 : Hid (FltAt w3 (w.heap.size + 1) 0 0) := hF3
   have y0 : w3.cell? ⟨w1.heap.size, 0, none⟩ = some (.int .i64 F.1) := (hb3.cell (p := ⟨w1.heap.size, 0, none⟩) (lt_of_cellB x0)).trans x0
   have y1 : w3.cell? ⟨w1.heap.size, 1, none⟩ = some (.int .i64 F.2) := (hb3.cell (p := ⟨w1.heap.size, 1, none⟩) (lt_of_cellB x0)).trans x1
   obtain ⟨z0, z1, z2, z3, z7, z8⟩ := HCELL.out w3 HB03.out
   clear hb3 x0 x1 q7 HF2 HNM HW2 HB02 HCELL
   clear hF3 y0 y1
   go_wp2_with fail
   refine (HBR.out 4 _).mono ?_
   rintro e w4 ⟨rfl, hb4⟩
   have hF4 := HF3.out.below hb4
   have HB04 : Hid (Below w0.heap.size w0 w4) := HB03.out.trans (hb4.mono HB03.out.size)
   have r0 := hF4.c0
   have r1 := hF4.c1
   have rf0 := hF4.f0
   have rf1 := hF4.f1
   obtain ⟨k0, k1⟩ := hF4.set 4 (-1)
   have HB9 : Hid (Below w.heap.size w ((w4.setCell ⟨w.heap.size + 1, 0, none⟩ (.int .i64 4)).setCell ⟨w.heap.size + 1, 1, none⟩ (.int .i64 (-1)))) := ((HB0.out.trans ((HB04.out).mono HB0.out.size)).setCell (by show w.heap.size <= w.heap.size + 1; omega) _).setCell (by show w.heap.size <= w.heap.size + 1; omega) _
   clear hF4 hb4 HF3 HBR HB03 z0 z1 z2 z3 z7 z8
   go_wp2
   exact bodyPost_ret (v := .agg #[.int .i64 4, .int .i64 (-1)]) (by simp [results, Tryz.results10, go_sem, k0, k1]) rfl ⟨rfl, HB9.out⟩
theorem OwnT.setC {w : World} {B b : Nat} {v : Value} {l : List ByteArray} (h : OwnT w B v l) (hb : b < B) (i : Nat) (x : Value) : OwnT (w.setCell ⟨b, i, none⟩ x) B v l :=
 World.ownsRow.kept (row := some b) h ⟨rfl, rfl, rfl, by simp, fun k _ hne => Deep.blk_setCell_other _ _ _ _ (fun e => hne (by rw [e]))⟩ (Or.inr fun e => by have := (h.block e).1; omega)
set_option maxRecDepth 10000 in
set_option maxHeartbeats 2000000 in
theorem ownConfig_any (c : Cfg) (p : Option Addr) (cap : Nat) (w : World) (hl : c.L.length <= 8796093021952) (hs : Strs w p c.L) (hn : p = none -> c.L = [] /\ cap = 0) :
 Calls Tryz.prog 8 #[cfgA c (.slice p c.L.length cap)] w fun e w' => (∃ q d, e = .returned (cfgA c (.slice q c.L.length d)) /\ Strs w' q c.L /\ c.L.length <= d /\ (q = none -> c.L = [] /\ d = 0)) /\ Below w.heap.size w w' := by
 obtain ⟨cn, ck, cL⟩ := c
 unfold cfgA
 simp only [] at *
 obtain ⟨w1, hw1⟩ : ∃ w1, w1 = (w.alloc (.cells #[.int .i64 cn, .int .i64 ck, .slice p cL.length cap] 24)).alloc (.cells #[.int .i64 0, .int .i64 0, .slice none 0 0] 24) := ⟨_, rfl⟩
 have HW1 : Hid (w1 = (w.alloc (.cells #[.int .i64 cn, .int .i64 ck, .slice p cL.length cap] 24)).alloc (.cells #[.int .i64 0, .int .i64 0, .slice none 0 0] 24)) := hw1
 have hb1 : Below w.heap.size w w1 := by rw [hw1]; exact ((Below.refl _ _).alloc (Nat.le_refl _) _).alloc (by simp) _
 have e2 : (w.alloc (.cells #[.int .i64 cn, .int .i64 ck, .slice p cL.length cap] 24)).heap.size = w.heap.size + 1 := by simp
 have hx1 : w1.heap[w.heap.size]? = some (.cells #[.int .i64 cn, .int .i64 ck, .slice p cL.length cap] 24 (0, 0)) := by
  rw [hw1, heap_alloc_old _ _ (by rw [e2]; omega)]
  exact heap_alloc_new _ _
 have hy1 : w1.heap[w.heap.size + 1]? = some (.cells #[.int .i64 0, .int .i64 0, .slice none 0 0] 24 (0, 0)) := by
  rw [hw1, <- e2]
  exact heap_alloc_new _ _
 have hs1 : w1.heap.size = w.heap.size + 2 := by rw [hw1]; simp
 have HS1 : Hid (Strs w1 p cL) := hs.below hb1
 have HF1 : Hid (w1.heap[w.heap.size]? = some (.cells #[.int .i64 cn, .int .i64 ck, .slice p cL.length cap] 24 (0, 0)) /\ w1.heap[w.heap.size + 1]? = some (.cells #[.int .i64 0, .int .i64 0, .slice none 0 0] 24 (0, 0)) /\ Below w.heap.size w w1 /\ w1.heap.size = w.heap.size + 2) := ⟨hx1, hy1, hb1, hs1⟩
 have q2 : w1.cell? ⟨w.heap.size, 2, none⟩ = some (.slice p cL.length cap) := by simp [World.cell?, hx1]
 clear hw1 hb1 e2 hx1 hy1 hs1 hs
 go_enter Tryz.func8, Tryz.ntmps8
 go_wp2_with (first | (at_builtin; rw [<- HW1.out]; refine wpList_append_strs rfl (.tmp 4) (.tmp 6) rfl w1.heap.size (.slice none 0 0) [] rfl (OwnT.nil _ _) p cL cap rfl HS1.out hn (by show 0 + cL.length <= _; omega) (Nat.le_refl _) ?_; intro v2 w2 hO2 hb2; rw [List.nil_append] at hO2; obtain ⟨q, d, hv2, hS2, hd2, hn2, hbk2⟩ := hO2.form; subst hv2; have hx2 := (hb2.block _ (by have := HF1.out.2.2.2; omega)).trans HF1.out.1; have hy2 := (hb2.block _ (by have := HF1.out.2.2.2; omega)).trans HF1.out.2.1; have HN2 : Hid (q = none -> cL = [] /\ d = 0) := (fun e => ⟨(by rcases hS2 with h | ⟨b, o, hq, _⟩; exact h; rw [e] at hq; cases hq), hn2 e⟩); have HO2 : Hid (OwnT w2 w1.heap.size (.slice q cL.length d) cL /\ cL.length <= d /\ Below w.heap.size w w2) := ⟨hO2, hd2, HF1.out.2.2.1.trans (hb2.mono HF1.out.2.2.1.size)⟩; have k0 : w2.cell? ⟨w.heap.size, 0, none⟩ = some (.int .i64 cn) := (by simp [World.cell?, hx2]); have k1 : w2.cell? ⟨w.heap.size, 1, none⟩ = some (.int .i64 ck) := (by simp [World.cell?, hx2]); have k2 : w2.cell? ⟨w.heap.size, 2, none⟩ = some (.slice p cL.length cap) := (by simp [World.cell?, hx2]); have k3 : w2.frozen? ⟨w.heap.size, 2, none⟩ = false := (by simp [World.frozen?, hx2]); have z0 : w2.cell? ⟨w.heap.size + 1, 0, none⟩ = some (.int .i64 0) := (by simp [World.cell?, hy2]); have z1 : w2.cell? ⟨w.heap.size + 1, 1, none⟩ = some (.int .i64 0) := (by simp [World.cell?, hy2]); have z2 : w2.cell? ⟨w.heap.size + 1, 2, none⟩ = some (.slice none 0 0) := (by simp [World.cell?, hy2]); have z3 : ∀ i, w2.frozen? ⟨w.heap.size + 1, i, none⟩ = false := (fun i => by simp [World.frozen?, hy2]); clear hO2 hb2 hS2 hd2 hn2 hbk2 hx2 hy2 q2))
 refine bodyPost_ret (v := .agg #[.int .i64 cn, .int .i64 ck, .slice q cL.length d]) (by simp [results, Tryz.results8, go_sem, z0, z1, z2]) rfl ?_
 have hsz := HF1.out.2.2.2
 have ho := (((HO2.out.1.setC (b := w.heap.size) (by omega) 2 (.slice q cL.length d)).setC (b := w.heap.size + 1) (by omega) 0 (.int .i64 cn)).setC (b := w.heap.size + 1) (by omega) 1 (.int .i64 ck)).setC (b := w.heap.size + 1) (by omega) 2 (.slice q cL.length d)
 obtain ⟨q', d', hv, hS, _⟩ := ho.form
 injection hv with e1 _ e2
 subst e1 e2
 exact ⟨⟨q, d, rfl, hS, HO2.out.2.1, HN2.out⟩, (((HO2.out.2.2.setCell (p := ⟨w.heap.size, 2, none⟩) (Nat.le_refl _) _).setCell (p := ⟨w.heap.size + 1, 0, none⟩) (by show w.heap.size <= w.heap.size + 1; omega) _).setCell (p := ⟨w.heap.size + 1, 1, none⟩) (by show w.heap.size <= w.heap.size + 1; omega) _).setCell (p := ⟨w.heap.size + 1, 2, none⟩) (by show w.heap.size <= w.heap.size + 1; omega) _⟩
def longC (c : Cfg) : Bool := decide (30 < c.L.length) || c.L.any fun x => decide (60 < x.size)
theorem longC_fine {c : Cfg} (h : longC c = false) : c.L.length <= 30 /\ ∀ x ∈ c.L, x.size <= 60 := by
 unfold longC at h
 rw [Bool.or_eq_false_iff] at h
 refine ⟨by have := of_decide_eq_false h.1; omega, fun x hx => ?_⟩
 have := List.any_eq_false.1 h.2 x hx
 simpa using this
set_option maxRecDepth 10000 in
set_option maxHeartbeats 1000000 in
theorem longConfig_any (c : Cfg) (p : Option Addr) (cap : Nat) (w : World) (hl : c.L.length <= maxLen) (hx : ∀ x ∈ c.L, x.size <= maxLen) (hs : Strs w p c.L) :
 Calls Tryz.prog 5 #[cfgA c (.slice p c.L.length cap)] w fun e w' => e = .returned (.bool (longC c)) /\ Below w.heap.size w w' := by
 obtain ⟨cn, ck, l⟩ := c
 unfold maxLen at hl
 unfold cfgA
 simp only [] at *
 obtain ⟨w1, hw1⟩ : ∃ w1, w1 = w.alloc (.cells #[.int .i64 cn, .int .i64 ck, .slice p l.length cap] 24) := ⟨_, rfl⟩
 have HW1 : Hid (w1 = w.alloc (.cells #[.int .i64 cn, .int .i64 ck, .slice p l.length cap] 24)) := hw1
 have hb1 : Below w.heap.size w w1 := by rw [hw1]; exact (Below.refl _ _).alloc (Nat.le_refl _) _
 have q2 : w1.cell? ⟨w.heap.size, 2, none⟩ = some (.slice p l.length cap) := by rw [hw1, World.cell?_alloc_at _ _ _ _ rfl]; rfl
 have HB1 : Hid (Below w.heap.size w w1) := hb1
 by_cases h1 : 30 < l.length
 ·have HR : Hid (longC ⟨cn, ck, l⟩ = true) := by show _ = _; unfold longC; rw [decide_eq_true h1, Bool.true_or]
  rw [HR.out]
  clear hw1 hb1 hs hx
  go_enter Tryz.func5, Tryz.ntmps5
  go_wp2
  go_ret
  exact ⟨rfl, by rw [<- HW1.out]; exact HB1.out⟩
 have HX : Hid (∀ i, i < l.length -> (txt l i).size <= 9223372036854775807) := fun i hi => by have := hx _ (txt_mem hi); unfold maxLen at this; omega
 have HT : Hid (∀ i, i < l.length -> 60 < (txt l i).size -> longC ⟨cn, ck, l⟩ = true) := fun i hi h => by
  unfold longC
  rw [decide_eq_false h1, Bool.false_or, List.any_eq_true]
  exact ⟨txt l i, txt_mem hi, decide_eq_true h⟩
 have HF : Hid ((∀ i, i < l.length -> ¬ 60 < (txt l i).size) -> longC ⟨cn, ck, l⟩ = false) := fun h => by
  unfold longC
  rw [decide_eq_false h1, Bool.false_or, List.any_eq_false]
  intro x hx h2
  obtain ⟨i, hi, rfl⟩ := txt_of_mem hx
  exact h i hi (of_decide_eq_true h2)
 generalize longC ⟨cn, ck, l⟩ = r at *
 have HS : Hid (Strs w1 p l) := hs.below hb1
 clear hs hx hw1 hb1
 go_enter Tryz.func5, Tryz.ntmps5
 go_wp2
 rw [show w.alloc (.cells #[.int .i64 cn, .int .i64 ck, .slice p l.length cap] 24) = w1 from HW1.out.symm]
 clear HW1
 go_loopw [3] (fun x wr => ∃ i : Nat, i <= l.length /\ x = .int .i64 i /\ (∀ j, j < i -> ¬ 60 < (txt l j).size) /\ wr = w1) (fun x _ => l.length - (intOf x).toNat)
 case atStart => exact ⟨0, Nat.zero_le _, rfl, (fun j hj => absurd hj (Nat.not_lt_zero _)), rfl⟩
 case round =>
  obtain ⟨i, hi, rfl, hall, hwr⟩ := hrel
  subst hwr
  have HALL : Hid (∀ j, j < i -> ¬ 60 < (txt l j).size) := hall
  clear hall
  by_cases hil : i < l.length
  ·rcases HS.out with h0 | ⟨b, o, rfl, hlt, hc⟩
   ·rw [h0] at hil; exact absurd hil (Nat.not_lt_zero _)
   have q1 := hc i hil
   have hsz := HX.out i hil
   clear hc
   by_cases hbig : 60 < (txt l i).size
   ·have HR : Hid (r = true) := HT.out i hil hbig
    clear HT HF HALL HX
    generalize txt l i = t at *
    go_wp2
    go_ret
    exact ⟨by rw [HR.out]; rfl, HB1.out⟩
   ·have HBG : Hid (¬ 60 < (txt l i).size) := hbig
    clear HT HF HX
    generalize hti : txt l i = t at *
    have HTI : Hid (txt l i = t) := hti
    clear hti
    go_wp2
    go_roundw
    case rel => exact ⟨i + 1, by omega, by go_num, (fun j hj => by
     rcases Nat.lt_or_ge j i with h | h
     ·exact HALL.out j h
     ·obtain rfl : j = i := by omega
      rw [HTI.out]; exact HBG.out), trivial⟩
    case measure => simp [intOf]; omega
  ·have HR : Hid (r = false) := HF.out (fun j hj => HALL.out j (by omega))
   go_wp2
   go_ret
   exact ⟨by rw [HR.out]; rfl, HB1.out⟩
theorem cfgAt_of {w : World} {c : Cfg} {p : Option Addr} {cap : Nat} (h1 : Strs w p c.L) (h2 : c.L.length <= cap) (h3 : p = none -> c.L = [] /\ cap = 0) (h4 : longC c = false) (h5 : CfgIn c) : CfgAt w c p cap :=
 ⟨h1, h2, h3, by have := (longC_fine h4).1; omega, fun x hx => by have := (longC_fine h4).2 x hx; omega, h5⟩
def clientN (who : Int) : ByteArray := strOf [99, 48 + who.toNat]
def Bid.ask (b : Bid) : MAsk := ⟨clientN b.who, b.key, b.who, b.op, b.config, b.c, ⟨0, 0, []⟩, b.put, false, .looking, [], [], (0, 0), if b.put then b.text else ⟨#[]⟩, false⟩
def I64 (x : Int) : Prop := -9223372036854775808 <= x /\ x <= 9223372036854775807
def MAsk.small (a : MAsk) (m : Msg) : Prop := bulkV a.L.flatten + bulkN m <= 6000
def AskMade (Ak : World -> Nat -> Nat -> (Nat -> Prop) -> MAsk -> Prop) (ad : Nat -> Addr) (b : Bid) (B : Nat) (e : Ending) (w' : World) : Prop :=
 ∃ ev, ErrIs w' ad ev (bidF b).1 (bidF b).2 /\ ((0 < (bidF b).1 /\ e = .returned (.tuple #[.pointer none, ev])) ∨ ¬ 0 < (bidF b).1 /\ ∃ h S, e = .returned (.tuple #[.pointer (some ⟨h, 0, none⟩), ev]) /\ Ak w' B h S b.ask)
structure AskOk (ad : Nat -> Addr) (X : World -> Prop) (Ak : World -> Nat -> Nat -> (Nat -> Prop) -> MAsk -> Prop) : Prop where
 inS : ∀ {w B h S a}, Ak w B h S a -> ∀ k, S k -> B <= k /\ k < w.heap.size
 keep : ∀ {w w' B h S a}, Ak w B h S a -> Below B w w' -> (∀ k, S k -> w'.heap[k]? = w.heap[k]?) -> Ak w' B h S a
 put : ∀ (b : Bid) (p : Option Addr) (cap : Nat) (w : World), CfgAt w b.c p cap -> b.put = true -> b.key.size <= 1000 -> b.text.size <= 3000 -> I64 b.who -> I64 b.op -> I64 b.config -> ErrsQ w ad -> X w -> Calls Tryz.prog 7 #[.int .i64 b.who, .int .i64 b.op, cfgA b.c (.slice p b.c.L.length cap), .int .i64 b.config, .string b.key, .string b.text] w fun e w' => AskMade Ak ad b w.heap.size e w' /\ Below w.heap.size w w'
 get : ∀ (b : Bid) (p : Option Addr) (cap : Nat) (w : World), CfgAt w b.c p cap -> b.put = false -> b.key.size <= 1000 -> I64 b.who -> I64 b.op -> I64 b.config -> ErrsQ w ad -> X w -> Calls Tryz.prog 9 #[.int .i64 b.who, .int .i64 b.op, cfgA b.c (.slice p b.c.L.length cap), .int .i64 b.config, .string b.key] w fun e w' => AskMade Ak ad b w.heap.size e w' /\ Below w.heap.size w w'
 begin : ∀ {w B h S a}, Ak w B h S a -> X w -> Calls Tryz.prog 15 #[.pointer (some ⟨h, 0, none⟩)] w fun e w' => (∃ p c, e = .returned (.slice p a.begin.length c) /\ MsgsN w.heap.size w' p a.begin) /\ ∃ S', Ak w' B h S' a /\ Upd S S' w w'
 hear : ∀ {w B h S a} (x : Msg × Lv), Ak w B h S a -> HasL w x -> a.small x.1 -> (∀ v ∈ x.1.L, VerI64 v) -> (∀ W : World, w.heap.size <= W.heap.size -> (∀ k, k < w.heap.size -> ¬ S k -> W.heap[k]? = w.heap[k]?) -> ErrsQ W ad /\ X W) -> Calls Tryz.prog 17 #[.pointer (some ⟨h, 0, none⟩), msgA x.1 (lvV x.2)] w fun e w' => (∃ p c, e = .returned (.slice p (a.hear x.1).2.length c) /\ MsgsN w.heap.size w' p (a.hear x.1).2) /\ ∃ S', Ak w' B h S' (a.hear x.1).1 /\ Upd S S' w w'
 state : ∀ {w B h S a}, Ak w B h S a -> Calls Tryz.prog 20 #[.pointer (some ⟨h, 0, none⟩)] w fun e w' => e = .returned (.string a.st.word) /\ Below w.heap.size w w'
 answer : ∀ {w B h S a}, Ak w B h S a -> Calls Tryz.prog 21 #[.pointer (some ⟨h, 0, none⟩)] w fun e w' => e = .returned (if a.st = .done /\ a.found = true then .tuple #[.agg #[.int .i64 a.tag.1, .int .i64 a.tag.2], .string a.text, .bool true] else .tuple #[.agg #[.int .i64 0, .int .i64 0], .string ⟨#[]⟩, .bool false]) /\ Below w.heap.size w w'
def bid0 : Bid := ⟨false, 0, 0, 0, ⟨1, 1, [⟨#[97]⟩]⟩, ⟨#[107]⟩, ⟨#[]⟩⟩
theorem bid0_fine : bidF bid0 = (0, -1) := by decide +kernel
theorem bid0_begin : bid0.ask.begin = [⟨⟨#[99, 48]⟩, ⟨#[97]⟩, ⟨#[108, 111, 111, 107]⟩, ⟨#[107]⟩, 0, 0, false, []⟩] := by
 have e1 : clientN 0 = ⟨#[99, 48]⟩ := by decide +kernel
 unfold MAsk.begin MAsk.send Bid.ask bid0
 simp only [e1]
 rfl
set_option maxRecDepth 10000 in
set_option maxHeartbeats 4000000 in
theorem asked_any {ad : Nat -> Addr} {X : World -> Prop} {Ak : World -> Nat -> Nat -> (Nat -> Prop) -> MAsk -> Prop} (hO : AskOk ad X Ak) (w : World) (hS : ∀ W, Below w.heap.size w W -> ErrsQ W ad) (hX : ∀ W, Below w.heap.size w W -> X W) :
 Calls Tryz.prog 4 #[] w fun e w' => e = .returned (.bool true) /\ Below w.heap.size w w' := by
 obtain ⟨w1, hw1⟩ : ∃ w1, w1 = (w.alloc (.cells #[.string ⟨#[97]⟩] 9)).alloc (.cells #[.int .i64 1, .int .i64 1, .slice (some ⟨w.heap.size, 0, none⟩) 1 1] 24) := ⟨_, rfl⟩
 have HW1 : Hid (w1 = (w.alloc (.cells #[.string ⟨#[97]⟩] 9)).alloc (.cells #[.int .i64 1, .int .i64 1, .slice (some ⟨w.heap.size, 0, none⟩) 1 1] 24)) := hw1
 have hb1 : Below w.heap.size w w1 := by rw [hw1]; exact ((Below.refl _ _).alloc (Nat.le_refl _) _).alloc (by simp) _
 have hbx : Below (w.alloc (.cells #[.string ⟨#[97]⟩] 9)).heap.size (w.alloc (.cells #[.string ⟨#[97]⟩] 9)) w1 := by rw [hw1]; exact (Below.refl _ _).alloc (Nat.le_refl _) _
 have ex : (w.alloc (.cells #[.string ⟨#[97]⟩] 9)).heap.size = w.heap.size + 1 := by simp
 have hc1 : w1.cell? ⟨w.heap.size, 0, none⟩ = some (.string ⟨#[97]⟩) := by rw [hbx.cell (p := ⟨w.heap.size, 0, none⟩) (by show w.heap.size < _; omega), World.cell?_alloc_at _ _ _ _ rfl]; rfl
 have g0 : w1.cell? ⟨w.heap.size + 1, 0, none⟩ = some (.int .i64 1) := by rw [hw1, World.cell?_alloc_at _ _ _ _ ex.symm]; rfl
 have g1 : w1.cell? ⟨w.heap.size + 1, 1, none⟩ = some (.int .i64 1) := by rw [hw1, World.cell?_alloc_at _ _ _ _ ex.symm]; rfl
 have g2 : w1.cell? ⟨w.heap.size + 1, 2, none⟩ = some (.slice (some ⟨w.heap.size, 0, none⟩) 1 1) := by rw [hw1, World.cell?_alloc_at _ _ _ _ ex.symm]; rfl
 have hat : CfgAt w1 bid0.c (some ⟨w.heap.size, 0, none⟩) 1 := ⟨Or.inr ⟨w.heap.size, 0, rfl, by have := hbx.size; omega, fun i hi => by
  obtain rfl : i = 0 := by simpa [bid0] using hi
  exact hc1⟩, Nat.le_refl _, (fun e => by cases e), by decide, (fun x hx => by simp [bid0] at hx; subst hx; decide), ⟨by decide, by decide⟩, by decide, by decide⟩
 have hg := hO.get bid0 (some ⟨w.heap.size, 0, none⟩) 1 w1 hat rfl (by decide) ⟨by decide, by decide⟩ ⟨by decide, by decide⟩ ⟨by decide, by decide⟩ (hS w1 hb1) (hX w1 hb1)
 have HG : Hid (Calls Tryz.prog 9 #[.int .i64 0, .int .i64 0, .agg #[.int .i64 1, .int .i64 1, .slice (some ⟨w.heap.size, 0, none⟩) 1 1], .int .i64 0, .string ⟨#[107]⟩] w1 fun e w' => (∃ h S, e = .returned (.tuple #[.pointer (some ⟨h, 0, none⟩), .nilIface]) /\ Ak w' w1.heap.size h S bid0.ask) /\ Below w1.heap.size w1 w') := hg.mono fun e w' hp => by
  obtain ⟨⟨ev, h1, h2⟩, h3⟩ := hp
  rw [bid0_fine] at h1 h2
  obtain rfl := h1.isNil
  rcases h2 with ⟨h4, _⟩ | ⟨_, h, S, he, hA⟩
  ·exact absurd h4 (by decide)
  ·exact ⟨⟨h, S, he, hA⟩, h3⟩
 have HB1 : Hid (Below w.heap.size w w1) := hb1
 have HO : Hid (AskOk ad X Ak) := hO
 have HX : Hid (∀ W, Below w.heap.size w W -> X W) := hX
 clear hg hat hc1 hb1 hw1 hS hO hX hbx ex
 go_enter Tryz.func4, Tryz.ntmps4
 go_wp2_with (first | rw [<- HW1.out] | fail)
 refine HG.out.mono ?_
 rintro e w2 ⟨⟨h, S, rfl, hA⟩, hb2⟩
 have HB2 : Hid (Below w.heap.size w w2) := HB1.out.trans (hb2.mono HB1.out.size)
 have HBG := HO.out.begin hA (HX.out w2 HB2.out)
 have hin := HO.out.inS hA
 have HIN : Hid (∀ k, S k -> w1.heap.size <= k /\ k < w2.heap.size) := hin
 have HS1 : Hid (w.heap.size <= w1.heap.size) := HB1.out.size
 clear hA hb2 HG hin
 go_wp2_with fail
 refine HBG.mono ?_
 rintro e w3 ⟨⟨p, c, rfl, hm⟩, S', hA3, hu⟩
 rw [bid0_begin] at hm ⊢
 have HB3 : Hid (Below w.heap.size w w3) := HB2.out.trans ⟨hu.os, hu.tape, hu.output, hu.size, fun k hk => hu.block k (Nat.lt_of_lt_of_le hk HB2.out.size) (fun hs => by have := (HIN.out k hs).1; have := HS1.out; omega)⟩
 obtain ⟨ml, hml, hr, _⟩ := hm
 obtain ⟨x, rfl⟩ : ∃ x, ml = [x] := List.length_eq_one_iff.1 (by have := congrArg List.length hml; simpa using this)
 have hx : x.1 = ⟨⟨#[99, 48]⟩, ⟨#[97]⟩, ⟨#[108, 111, 111, 107]⟩, ⟨#[107]⟩, 0, 0, false, []⟩ := by simpa using hml
 obtain ⟨b, o, hpp, hblt, d0, d1, d2, d3, d4, d5, d6, d7⟩ := msg_cells hr (i := 0) (by simp)
 simp only [List.getElem_cons_zero, hx, Nat.zero_mul, Nat.add_zero] at d0 d2
 have HST := HO.out.state hA3
 have HSW : Hid (Calls Tryz.prog 20 #[.pointer (some ⟨h, 0, none⟩)] w3 fun e w' => e = .returned (.string ⟨#[108, 111, 111, 107, 105, 110, 103]⟩) /\ Below w3.heap.size w3 w') := HST
 subst hpp
 clear hr hml hx d1 d3 d4 d5 d6 d7 HST hA3 hu HBG
 go_wp2_with fail
 refine HSW.out.mono ?_
 rintro e w4 ⟨rfl, hb4⟩
 have HB4 : Hid (Below w.heap.size w w4) := HB3.out.trans (hb4.mono HB3.out.size)
 clear hb4 HSW
 go_wp2
 go_ret
 exact ⟨rfl, HB4.out⟩
end Go.Proofs.YtobmckfcipeanaaGreatDoor
