import Derived.Test.YtobmckfcipeanaaGreatDoorPB
import Derived.Test.YtobmckfcipeanaaGreatDoorPT
import Derived.Test.YtobmckfcipeanaaGreatDoorZO
import Derived.Test.YtobmckfcipeanaaGreatDoorZF
import Derived.Deep.OwnRows
import Derived.Deep.RegionHeld3
import Derived.BigQuiet
import Derived.Test.YtobmckfcipeanaaGreatDoorYL
import Derived.Test.YtobmckfcipeanaaGreatDoorPkGW
namespace Go.Proofs.YtobmckfcipeanaaGreatDoor
open Go.RowKit
set_option maxRecDepth 10000 in
set_option maxHeartbeats 4000000 in
theorem pcopied_any (c : Cfg) (p : Option Addr) (cap : Nat) (w : World) (hc : CfgAt w c p cap) (hn : 1 <= c.L.length) : Calls Tryz.prog 51 #[.agg #[.int .i64 c.n, .int .i64 c.k, .slice p c.L.length cap]] w fun e w' => (∃ g, e = .returned (.agg #[.int .i64 c.n, .int .i64 c.k, .slice (some ⟨g, 0, none⟩) c.L.length c.L.length]) /\ Strs w' (some ⟨g, 0, none⟩) c.L /\ w.heap.size <= g /\ g < w'.heap.size) /\ Below w.heap.size w w' := by
 obtain ⟨w2, hw2⟩ : ∃ w2, w2 = (w.alloc (.cells #[.int .i64 c.n, .int .i64 c.k, .slice p c.L.length cap] 24)).alloc (.cells #[.int .i64 0, .int .i64 0, .slice none 0 0] 24) := ⟨_, rfl⟩
 have hb2 : Below w.heap.size w w2 := by rw [hw2]; exact ((Below.refl _ _).alloc (Nat.le_refl _) _).alloc (by simp) _
 have hz2 : w2.heap.size = w.heap.size + 1 + 1 := by rw [hw2]; simp
 have hbk0 : w2.heap[w.heap.size]? = some (.cells #[.int .i64 c.n, .int .i64 c.k, .slice p c.L.length cap] 24 (0, 0)) := by
  rw [hw2, Below.heap_alloc _ _ _ (by simp)]
  show (w.heap.push _)[w.heap.size]? = _
  simp
 have hbk1 : w2.heap[w.heap.size + 1]? = some (.cells #[.int .i64 0, .int .i64 0, .slice none 0 0] 24 (0, 0)) := by
  rw [hw2]
  show ((w.alloc _).heap.push _)[w.heap.size + 1]? = _
  have e : w.heap.size + 1 = (w.alloc (.cells #[.int .i64 c.n, .int .i64 c.k, .slice p c.L.length cap] 24)).heap.size := by simp
  rw [Array.getElem?_push, if_pos e]
 obtain ⟨i1, hi1, hy0, hy1, hyb⟩ := info_parts strinfo
 have hcl : c.L.length <= 1000 := hc.len
 have hmk : ∀ W : World, Sem.run Tryz.prog (Instr.makeSlice 22 (.int .i64 (c.L.length : Int)) (.int .i64 (c.L.length : Int))) W = .ok (.slice (some ⟨W.heap.size, 0, none⟩) c.L.length c.L.length) (W.alloc (.cells (madeCells #[.string ⟨#[]⟩] c.L.length) 9)) := fun W => run_make_row (P := Tryz.prog) 22 9 i1 (.string ⟨#[]⟩) Tryz.underlying22 hi1 hy0 hy1 rfl .i64 .i64 c.L.length (by rw [hyb]; omega) (by omega) W
 have HST : Hid (Strs w2 p c.L) := hc.strs.below hb2
 have HSZ : Hid (∀ x ∈ c.L, x.size <= 1000) := hc.size
 have HSC : Hid (∀ s : ByteArray, s.size <= 1000000 -> ∀ W, Calls Tryz.prog 24 #[.string s] W fun e w' => e = .returned (.string s) /\ Below W.heap.size W w') := fun s hs W => sclone_any s W hs
 have HBK : Hid (∀ W, Below w2.heap.size w2 W -> W.heap[w.heap.size]? = some (.cells #[.int .i64 c.n, .int .i64 c.k, .slice p c.L.length cap] 24 (0, 0)) /\ W.heap[w.heap.size + 1]? = some (.cells #[.int .i64 0, .int .i64 0, .slice none 0 0] 24 (0, 0))) := fun W hW => ⟨(hW.block _ (by omega)).trans hbk0, (hW.block _ (by omega)).trans hbk1⟩
 have k2 : w2.cell? ⟨w.heap.size, 2, none⟩ = some (.slice p c.L.length cap) := by simp [World.cell?, hbk0]
 obtain ⟨w3, hw3⟩ : ∃ w3, w3 = w2.alloc (.cells (madeCells #[.string ⟨#[]⟩] c.L.length) 9) := ⟨_, rfl⟩
 have hR3 : w3.rowIs w2.heap.size 9 c.L.length (fun _ => .string ⟨#[]⟩) := by rw [hw3]; exact World.rowIs_made w2 _ c.L.length _
 have hb3 : Below w2.heap.size w2 w3 := by rw [hw3]; exact (Below.refl _ _).alloc (Nat.le_refl _) _
 have k3 : w3.cell? ⟨w.heap.size, 2, none⟩ = some (.slice p c.L.length cap) := by simp [World.cell?, (HBK.out w3 hb3).1]
 have HW2 : Hid (w2 = (w.alloc (.cells #[.int .i64 c.n, .int .i64 c.k, .slice p c.L.length cap] 24)).alloc (.cells #[.int .i64 0, .int .i64 0, .slice none 0 0] 24)) := hw2
 have HW3 : Hid (w3 = w2.alloc (.cells (madeCells #[.string ⟨#[]⟩] c.L.length) 9)) := hw3
 have HR3 : Hid (w3.rowIs w2.heap.size 9 c.L.length (fun _ => .string ⟨#[]⟩)) := hR3
 have HB3 : Hid (Below w2.heap.size w2 w3) := hb3
 have HB2 : Hid (Below w.heap.size w w2) := hb2
 have HZ2 : Hid (w2.heap.size = w.heap.size + 1 + 1) := hz2
 have hz2' : w.heap.size + 1 < w2.heap.size := by omega
 clear hc hw2 hw3 hbk0 hbk1 hR3 hb3 hb2 hz2 hi1 hy0 hy1 hyb
 go_enter Tryz.func51, Tryz.ntmps51
 go_wp2_with (first | rw [<- HW2.out] | rw [<- HW3.out])
 go_loopw [13] (fun x wr => ∃ i : Nat, i <= c.L.length /\ x = .int .i64 i /\ wr.rowIs w2.heap.size 9 c.L.length (fun q => if q < i then .string (txt c.L q) else .string ⟨#[]⟩) /\ Below w2.heap.size w2 wr) (fun x _ => c.L.length - (intOf x).toNat)
 case atStart => exact ⟨0, Nat.zero_le _, rfl, HR3.out.congr (fun q _ => by simp), HB3.out⟩
 case round =>
  obtain ⟨i, hi, rfl, hS, hB⟩ := hrel
  obtain ⟨w4, rfl⟩ : ∃ w4, w4 = wr := ⟨_, rfl⟩
  have HS : Hid (w4.rowIs w2.heap.size 9 c.L.length (fun q => if q < i then .string (txt c.L q) else .string ⟨#[]⟩)) := hS
  have HB : Hid (Below w2.heap.size w2 w4) := hB
  by_cases hil : i < c.L.length
  ·rcases HST.out.below hB with h0 | ⟨b, o, hpp, hblt, hcs⟩
   ·rw [h0] at hil; exact absurd hil (Nat.not_lt_zero _)
   have q1 := hcs i hil
   have hts : (txt c.L i).size <= 1000000 := by
    rw [txt_getElem c.L i hil]
    have := HSZ.out _ (List.getElem_mem hil)
    omega
   have HSX := HSC.out _ hts w4
   have HTX : Hid (txt c.L i = txt c.L i) := by show _ = _; rfl
   generalize hgt : txt c.L i = t at HSX q1
   have HGT : Hid (txt c.L i = t) := hgt
   subst hpp
   clear hcs hts HTX hgt hS hB
   go_wp2_with fail
   refine HSX.mono ?_
   rintro e w5 ⟨rfl, hb5⟩
   have hS5 := rowIs_below HS.out hb5
   have qs : w5.cell? ⟨w2.heap.size, i, none⟩ = some (.string ⟨#[]⟩) := by rw [hS5.cell hil, if_neg (Nat.lt_irrefl _)]
   have qf : w5.frozen? ⟨w2.heap.size, i, none⟩ = false := hS5.frozen i
   have HS5 : Hid (w5.rowIs w2.heap.size 9 c.L.length (fun q => if q < i then .string (txt c.L q) else .string ⟨#[]⟩)) := hS5
   have HB5 : Hid (Below w2.heap.size w2 w5) := HB.out.trans (hb5.mono HB.out.size)
   clear hS5 hb5 HSX q1 hmk
   go_wp2
   go_roundw
   case rel =>
    refine ⟨i + 1, by omega, by go_num, (HS5.out.set i _).congr (fun q _ => ?_), HB5.out.setCell (Nat.le_refl _) _⟩
    by_cases e : q = i
    ·rw [if_pos e, if_pos (by omega), e, HGT.out]
    ·rw [if_neg e]
     by_cases e' : q < i
     ·rw [if_pos e', if_pos (by omega)]
     ·rw [if_neg e', if_neg (by omega)]
   case measure => simp [intOf]; omega
  ·have hie : i = c.L.length := by omega
   obtain ⟨e0, e1⟩ := HBK.out w4 hB
   have c0 : w4.cell? ⟨w.heap.size, 0, none⟩ = some (.int .i64 c.n) := by simp [World.cell?, e0]
   have c1 : w4.cell? ⟨w.heap.size, 1, none⟩ = some (.int .i64 c.k) := by simp [World.cell?, e0]
   have c2 : w4.cell? ⟨w.heap.size, 2, none⟩ = some (.slice p c.L.length cap) := by simp [World.cell?, e0]
   have f2 : w4.frozen? ⟨w.heap.size, 2, none⟩ = false := by simp [World.frozen?, e0]
   have d0 : w4.cell? ⟨w.heap.size + 1, 0, none⟩ = some (.int .i64 0) := by simp [World.cell?, e1]
   have d1 : w4.cell? ⟨w.heap.size + 1, 1, none⟩ = some (.int .i64 0) := by simp [World.cell?, e1]
   have d2 : w4.cell? ⟨w.heap.size + 1, 2, none⟩ = some (.slice none 0 0) := by simp [World.cell?, e1]
   have g0 : w4.frozen? ⟨w.heap.size + 1, 0, none⟩ = false := by simp [World.frozen?, e1]
   have g1 : w4.frozen? ⟨w.heap.size + 1, 1, none⟩ = false := by simp [World.frozen?, e1]
   have g2 : w4.frozen? ⟨w.heap.size + 1, 2, none⟩ = false := by simp [World.frozen?, e1]
   have hS4 : w4.rowIs w2.heap.size 9 c.L.length (fun q => .string (txt c.L q)) := hS.congr (fun q hq => by rw [if_pos (by omega)])
   have hlt4 : w2.heap.size < w4.heap.size := hS4.lt
   have hBw : Below w.heap.size w w4 := HB2.out.trans (hB.mono HB2.out.size)
   have HFIN : Hid (∀ W : World, W.heap.size = w4.heap.size -> (∀ k, k ≠ w.heap.size -> k ≠ w.heap.size + 1 -> W.heap[k]? = w4.heap[k]?) -> Strs W (some ⟨w2.heap.size, 0, none⟩) c.L) := fun W hsz hk => by
    refine Or.inr ⟨w2.heap.size, 0, rfl, by omega, fun j hj => ?_⟩
    rw [Nat.zero_add, World.cell?_of_block (a := ⟨w2.heap.size, j, none⟩) (hk w2.heap.size (by have := HZ2.out; omega) (by have := HZ2.out; omega))]
    exact hS4.cell hj
   have HBW : Hid (Below w.heap.size w w4) := hBw
   have HLE : Hid (w.heap.size <= w2.heap.size /\ w2.heap.size < w4.heap.size) := ⟨HB2.out.size, hlt4⟩
   have hnb : w.heap.size ≠ w.heap.size + 1 := by omega
   clear hS hB hS4 e0 e1 hBw HS hmk HBK
   go_wp2
   refine bodyPost_ret (v := .agg #[.int .i64 c.n, .int .i64 c.k, .slice (some ⟨w2.heap.size, 0, none⟩) c.L.length c.L.length]) (by simp [results, Tryz.results51, go_sem, d0, d1, d2]) rfl ⟨⟨w2.heap.size, rfl, ?_, HLE.out.1, ?_⟩, ?_⟩
   ·refine HFIN.out _ (by simp [World.setCell]) fun k h1 h2 => ?_
    simp [Below.heap_setCell, h1, h2]
   ·simpa [World.setCell] using HLE.out.2
   ·exact (((HBW.out.setCell (Nat.le_refl _) _).setCell (by show w.heap.size <= w.heap.size + 1; omega) _).setCell (by show w.heap.size <= w.heap.size + 1; omega) _).setCell (by show w.heap.size <= w.heap.size + 1; omega) _
def newF (who op config : Int) (c : Cfg) (key : ByteArray) : Int × Int := if 0 < (cfgF c).1 then cfgF c else if isN key = false then (4, -1) else if 0 <= who /\ who < 6 /\ 0 <= op /\ 0 <= config then (0, -1) else (2, -1)
def ask0 (who op config : Int) (c : Cfg) (key : ByteArray) (put : Bool) (text : ByteArray) : MAsk := ⟨clientN who, key, who, op, config, c, ⟨0, 0, []⟩, put, false, .looking, [], [], (0, 0), text, false⟩
theorem client_digits {i : Nat} (h : i < 6) : (⟨#[99]⟩ : ByteArray) ++ ⟨(Lib.decDigits i).toArray⟩ = clientN (i : Int) := by
 have e : Lib.decDigits i = [UInt8.ofNat (48 + i)] := by rw [Lib.decDigits, dif_pos (by omega)]
 rw [e]
 match i, h with
 | 0, _ => decide +kernel
 | 1, _ => decide +kernel
 | 2, _ => decide +kernel
 | 3, _ => decide +kernel
 | 4, _ => decide +kernel
 | 5, _ => decide +kernel
theorem digits_size {i : Nat} (h : i < 6) : (⟨(Lib.decDigits i).toArray⟩ : ByteArray).size <= 10 := by
 have e : Lib.decDigits i = [UInt8.ofNat (48 + i)] := by rw [Lib.decDigits, dif_pos (by omega)]
 rw [e]
 show 1 <= 10
 decide
theorem ask0_obj (who op config : Int) (c : Cfg) (key : ByteArray) (put : Bool) (text : ByteArray) : (ask0 who op config c key put text).obj = (0, 0, ⟨#[]⟩, false) := if_neg (fun h => by cases h.2)
structure NewAt (w w' : World) (h g mb : Nat) (who op config : Int) (c : Cfg) (key : ByteArray) : Prop where
 blk : w'.heap[h]? = some (.cells (pkCells (ask0 who op config c key false ⟨#[]⟩) (enoughN c) (.slice (some ⟨g, 0, none⟩) c.L.length c.L.length) (.map (some mb)) .nilFunc wTold) 79 (0, 0))
 strs : Strs w' (some ⟨g, 0, none⟩) c.L
 map_ : w'.heap[mb]? = some (.map #[] 0)
 hs : w.heap.size <= h /\ h < w'.heap.size
 gs : w.heap.size <= g /\ g < w'.heap.size
 ms : w.heap.size <= mb /\ mb < w'.heap.size
 ne : g ≠ h /\ mb ≠ h /\ mb ≠ g
def NewMade (ad : Nat -> Addr) (w : World) (who op config : Int) (c : Cfg) (key : ByteArray) (e : Ending) (w' : World) : Prop :=
 ∃ ev, ErrIs w' ad ev (newF who op config c key).1 (newF who op config c key).2 /\ ((0 < (newF who op config c key).1 /\ e = .returned (.tuple #[.pointer none, ev])) ∨ ¬ 0 < (newF who op config c key).1 /\ ∃ h g mb, e = .returned (.tuple #[.pointer (some ⟨h, 0, none⟩), ev]) /\ NewAt w w' h g mb who op config c key)
set_option maxRecDepth 10000 in
set_option maxHeartbeats 8000000 in
theorem pnew_any (ad : Nat -> Addr) (who op config : Int) (c : Cfg) (p : Option Addr) (cap : Nat) (key : ByteArray) (w : World) (hc : CfgAt w c p cap) (hk : key.size <= 1000) (hE : ErrsQ w ad) :
 Calls Tryz.prog 23 #[.int .i64 who, .int .i64 op, .agg #[.int .i64 c.n, .int .i64 c.k, .slice p c.L.length cap], .int .i64 config, .string key] w fun e w' => NewMade ad w who op config c key e w' /\ Below w.heap.size w w' := by
 obtain ⟨w1, hw1⟩ : ∃ w1, w1 = w.alloc (.cells #[.int .i64 c.n, .int .i64 c.k, .slice p c.L.length cap] 24) := ⟨_, rfl⟩
 have hb1 : Below w.heap.size w w1 := by rw [hw1]; exact (Below.refl _ _).alloc (Nat.le_refl _) _
 have hlt1 : w.heap.size < w1.heap.size := by rw [hw1]; simp
 have hx1 : CfgBox w1 w.heap.size c (.slice p c.L.length cap) := by rw [hw1]; exact cfgBox_made w c _ _
 have HEN := qenough_any ad c p cap w1 (hc.below hb1) (hE.below hb1)
 have HNM : Hid (∀ W, Calls Tryz.prog 49 #[.string key] W fun e w' => e = .returned (.bool (isN key)) /\ Below W.heap.size W w') := fun W => pname_any key W
 have HW1 : Hid (w1 = w.alloc (.cells #[.int .i64 c.n, .int .i64 c.k, .slice p c.L.length cap] 24)) := hw1
 have HB1 : Hid (Below w.heap.size w w1) := hb1
 have HX1 : Hid (CfgBox w1 w.heap.size c (.slice p c.L.length cap)) := hx1
 have HERR : Hid (ErrsQ w1 ad) := hE.below hb1
 have HCF : Hid (CfgAt w1 c p cap) := hc.below hb1
 have f0 := hx1.f0
 have f1 := hx1.f1
 have f2 := hx1.f2
 unfold cfgA at HEN
 clear hw1 hb1 hx1 hE hc
 by_cases hp : 0 < (cfgF c).1
 ·have hnf : newF who op config c key = cfgF c := if_pos hp
  unfold NewMade
  rw [hnf]
  have HP : Hid (0 < (cfgF c).1) := hp
  rw [if_pos hp] at HEN
  clear hp hnf HNM
  generalize cfgF c = R at *
  go_enter Tryz.func23, Tryz.ntmps23
  go_wp2_with (first | rw [<- HW1.out] | fail)
  refine HEN.mono ?_
  rintro e w3 ⟨⟨ev, rfl, hev⟩, hb3⟩
  have HB3 : Hid (Below w.heap.size w w3) := HB1.out.trans (hb3.mono HB1.out.size)
  have HEV : Hid (ErrIs w3 ad ev R.1 R.2) := hev
  obtain ⟨et, eu, rfl⟩ := hev.some HP.out
  clear hev hb3 HEN
  go_wp2
  go_ret2
  exact ⟨⟨_, HEV.out, Or.inl ⟨HP.out, rfl⟩⟩, HB3.out⟩
 ·obtain ⟨hf, hn, h0, _, _⟩ := cfgF_fine hp
  rw [if_neg hp, h0] at HEN
  by_cases hkn : isN key = true
  ·rw [hkn] at HNM
   by_cases hbd : 0 <= who /\ who < 6 /\ 0 <= op /\ 0 <= config
   ·have hnf : newF who op config c key = (0, -1) := by unfold newF; rw [if_neg hp, if_neg (by rw [hkn]; decide), if_pos hbd]
    obtain ⟨wn, rfl⟩ : ∃ wn : Nat, who = (wn : Int) := ⟨who.toNat, by omega⟩
    have hwn : wn < 6 := by omega
    have hop : 0 <= op := hbd.2.2.1
    have hcf : 0 <= config := hbd.2.2.2
    have hd0 : decide ((wn : Int) < 0) = false := decide_eq_false (by omega)
    have hd1 : decide ((6 : Int) <= (wn : Int)) = false := decide_eq_false (by omega)
    have hd2 : decide (op < 0) = false := decide_eq_false (by omega)
    have hd3 : decide (config < 0) = false := decide_eq_false (by omega)
    have HCD : Hid ((⟨#[99]⟩ : ByteArray) ++ ⟨(Lib.decDigits wn).toArray⟩ = clientN (wn : Int)) := client_digits hwn
    have hl1 : 1 <= c.L.length := by omega
    unfold NewMade
    rw [hnf]
    clear hp hnf hkn hf hn h0
    go_enter Tryz.func23, Tryz.ntmps23
    go_wp2_with (first | rw [<- HW1.out] | fail)
    refine HEN.mono ?_
    rintro e w3 ⟨⟨ev, rfl, hev⟩, hb3⟩
    obtain rfl := ErrIs.isNil hev
    have HB13 : Hid (Below w1.heap.size w1 w3) := hb3
    clear hev hb3 HEN
    go_wp2_with fail
    refine (HNM.out _).mono ?_
    rintro e w4 ⟨rfl, hb4⟩
    have hb14 : Below w1.heap.size w1 w4 := HB13.out.trans (hb4.mono HB13.out.size)
    have HB14 : Hid (Below w1.heap.size w1 w4) := hb14
    have HS : Hid (∀ W, Below w4.heap.size w4 W -> (W.cell? ⟨w.heap.size, 0, none⟩ = some (.int .i64 c.n) /\ W.cell? ⟨w.heap.size, 1, none⟩ = some (.int .i64 c.k) /\ W.cell? ⟨w.heap.size, 2, none⟩ = some (.slice p c.L.length cap) /\ Below w4.heap.size w4 W)) := fun W hW => by
     have hx := HX1.out.below (hb14.trans (hW.mono hb14.size))
     exact ⟨hx.f0, hx.f1, hx.f2, hW⟩
    have hIT : ∀ W : World, Calls Tryz.prog 50 #[.int .i64 (wn : Int)] W fun e w' => e = .returned (.string ⟨(Lib.decDigits wn).toArray⟩) /\ w' = W := fun W => Tryz.strconv_Itoa_small wn (by omega) W
    have HIT : Hid (∀ W : World, (W.cell? ⟨w.heap.size, 0, none⟩ = some (.int .i64 c.n) /\ W.cell? ⟨w.heap.size, 1, none⟩ = some (.int .i64 c.k) /\ W.cell? ⟨w.heap.size, 2, none⟩ = some (.slice p c.L.length cap) /\ Below w4.heap.size w4 W) -> Calls Tryz.prog 50 #[.int .i64 (wn : Int)] W fun e w' => e = .returned (.string ⟨(Lib.decDigits wn).toArray⟩) /\ (w'.cell? ⟨w.heap.size, 0, none⟩ = some (.int .i64 c.n) /\ w'.cell? ⟨w.heap.size, 1, none⟩ = some (.int .i64 c.k) /\ w'.cell? ⟨w.heap.size, 2, none⟩ = some (.slice p c.L.length cap) /\ Below w4.heap.size w4 w')) := fun W hW => (hIT W).mono fun e w' hq => ⟨hq.1, by rw [hq.2]; exact hW⟩
    have HKC : Hid (∀ W : World, (W.cell? ⟨w.heap.size, 0, none⟩ = some (.int .i64 c.n) /\ W.cell? ⟨w.heap.size, 1, none⟩ = some (.int .i64 c.k) /\ W.cell? ⟨w.heap.size, 2, none⟩ = some (.slice p c.L.length cap) /\ Below w4.heap.size w4 W) -> Calls Tryz.prog 24 #[.string key] W fun e w' => e = .returned (.string key) /\ (w'.cell? ⟨w.heap.size, 0, none⟩ = some (.int .i64 c.n) /\ w'.cell? ⟨w.heap.size, 1, none⟩ = some (.int .i64 c.k) /\ w'.cell? ⟨w.heap.size, 2, none⟩ = some (.slice p c.L.length cap) /\ Below w4.heap.size w4 w')) := fun W hW => (sclone_any key W (by omega)).mono fun e w' hq => ⟨hq.1, HS.out w' (hW.2.2.2.trans (hq.2.mono hW.2.2.2.size))⟩
    have HCP : Hid (∀ W : World, (W.cell? ⟨w.heap.size, 0, none⟩ = some (.int .i64 c.n) /\ W.cell? ⟨w.heap.size, 1, none⟩ = some (.int .i64 c.k) /\ W.cell? ⟨w.heap.size, 2, none⟩ = some (.slice p c.L.length cap) /\ Below w4.heap.size w4 W) -> Calls Tryz.prog 51 #[.agg #[.int .i64 c.n, .int .i64 c.k, .slice p c.L.length cap]] W fun e w' => ∃ g, e = .returned (.agg #[.int .i64 c.n, .int .i64 c.k, .slice (some ⟨g, 0, none⟩) c.L.length c.L.length]) /\ Hid (Strs w' (some ⟨g, 0, none⟩) c.L /\ w4.heap.size <= g /\ g < w'.heap.size) /\ (w'.cell? ⟨w.heap.size, 0, none⟩ = some (.int .i64 c.n) /\ w'.cell? ⟨w.heap.size, 1, none⟩ = some (.int .i64 c.k) /\ w'.cell? ⟨w.heap.size, 2, none⟩ = some (.slice p c.L.length cap) /\ Below w4.heap.size w4 w')) := fun W hW => (pcopied_any c p cap W (HCF.out.below (HB14.out.trans (hW.2.2.2.mono HB14.out.size))) hl1).mono fun e w' hq => by
     obtain ⟨⟨g, h1, h2, h3, h4⟩, h5⟩ := hq
     exact ⟨g, h1, ⟨h2, Nat.le_trans hW.2.2.2.size h3, h4⟩, HS.out w' (hW.2.2.2.trans (h5.mono hW.2.2.2.size))⟩
    have HS0 := HS.out w4.drew (Below.refl _ _).drew
    have hsum : ∀ W : World, Sem.run Tryz.prog (Op.stringOp .add ⟨#[99]⟩ ⟨(Lib.decDigits wn).toArray⟩) W = .ok (.string (clientN (wn : Int))) W := fun W => by
     rw [<- HCD.out]
     exact run_string_add_sum W _ _ (by have := digits_size hwn; show 1 + _ <= _; omega)
    clear hb14 hIT hb4
    go_wp2
    go_region_held3 (fun W => (W.cell? ⟨w.heap.size, 0, none⟩ = some (.int .i64 c.n) /\ W.cell? ⟨w.heap.size, 1, none⟩ = some (.int .i64 c.k) /\ W.cell? ⟨w.heap.size, 2, none⟩ = some (.slice p c.L.length cap) /\ Below w4.heap.size w4 W)) (first | assumption | exact HS0 | exact HS.out _ (hS7.2.2.2.alloc hS7.2.2.2.size _)) (first | (go_at_call 50; refine (HIT.out _ (by assumption)).mono ?_; rintro e w5 ⟨rfl, hS5⟩) | (go_at_call 24; refine (HKC.out _ (by assumption)).mono ?_; rintro e w6 ⟨rfl, hS6⟩) | (go_at_call 51; refine (HCP.out _ (by assumption)).mono ?_; rintro e w7 ⟨g, rfl, hG7, hS7⟩))
    obtain ⟨w8, hw8⟩ : ∃ w8, w8 = w7.alloc (.cells #[.string (clientN (wn : Int)), .string key, .int .i64 op, .int .i64 config, .int .i64 c.n, .int .i64 c.k, .slice (some ⟨g, 0, none⟩) c.L.length c.L.length, .int .i64 ((enoughN c : Nat) : Int), .string ⟨#[]⟩, .map none, .string ⟨#[108, 111, 111, 107, 105, 110, 103]⟩, .nilFunc, .int .i64 0, .int .i64 0, .string ⟨#[]⟩, .bool false] 79) := ⟨_, rfl⟩
    have hbl8 : w8.heap[w7.heap.size]? = some (.cells #[.string (clientN (wn : Int)), .string key, .int .i64 op, .int .i64 config, .int .i64 c.n, .int .i64 c.k, .slice (some ⟨g, 0, none⟩) c.L.length c.L.length, .int .i64 ((enoughN c : Nat) : Int), .string ⟨#[]⟩, .map none, .string ⟨#[108, 111, 111, 107, 105, 110, 103]⟩, .nilFunc, .int .i64 0, .int .i64 0, .string ⟨#[]⟩, .bool false] 79 (0, 0)) := by
     rw [hw8]
     show (w7.heap.push _)[w7.heap.size]? = _
     simp
    have hb78 : Below w7.heap.size w7 w8 := by rw [hw8]; exact (Below.refl _ _).alloc (Nat.le_refl _) _
    have hz8 : w8.heap.size = w7.heap.size + 1 := by rw [hw8]; simp
    have HAW := pawait_any ⟨#[116, 111, 108, 100]⟩ hbl8 ⟨_, rfl⟩ ⟨_, rfl⟩
    have HW8 : Hid (w8 = w7.alloc (.cells #[.string (clientN (wn : Int)), .string key, .int .i64 op, .int .i64 config, .int .i64 c.n, .int .i64 c.k, .slice (some ⟨g, 0, none⟩) c.L.length c.L.length, .int .i64 ((enoughN c : Nat) : Int), .string ⟨#[]⟩, .map none, .string ⟨#[108, 111, 111, 107, 105, 110, 103]⟩, .nilFunc, .int .i64 0, .int .i64 0, .string ⟨#[]⟩, .bool false] 79)) := hw8
    have hb17 : Below w1.heap.size w1 w7 := HB14.out.trans (hS7.2.2.2.mono HB14.out.size)
    have HAX : Hid (Calls Tryz.prog 52 #[.pointer (some ⟨w7.heap.size, 0, none⟩), .string ⟨#[116, 111, 108, 100]⟩] w8 fun e w' => e = .returned (.tuple #[]) /\ NewAt w w' w7.heap.size g w8.heap.size (wn : Int) op config c key /\ Below w.heap.size w w') := HAW.mono fun e w' hq => by
     obtain ⟨h1, h2, h3⟩ := hq
     have z1 := HB1.out.size
     have z2 := hb17.size
     have z3 := h2.size
     have hg := hG7.out
     have z4 := HB14.out.size
     refine ⟨h1, ⟨h2.blk.trans ?_, ?_, h3, ⟨by omega, by omega⟩, ⟨by omega, by omega⟩, ⟨by omega, ?_⟩, by omega, by omega, by omega⟩, ?_⟩
     ·unfold pkCells
      rw [ask0_obj]
      rfl
     ·refine (hg.1.below hb78).same h2.size fun b o e => ?_
      obtain rfl : g = b := by injection e with e1; injection e1
      exact h2.oth g (by omega) (by omega)
     ·rcases Nat.lt_or_ge w8.heap.size w'.heap.size with h' | h'
      ·exact h'
      ·rw [Array.getElem?_eq_none h'] at h3; cases h3
     ·have hb08 : Below w.heap.size w w8 := HB1.out.trans ((hb17.trans (hb78.mono hb17.size)).mono HB1.out.size)
      exact ⟨h2.os.trans hb08.os, h2.tape.trans hb08.tape, h2.output.trans hb08.output, Nat.le_trans hb08.size h2.size, fun k hk => (h2.oth k (by omega) (by omega)).trans (hb08.block k hk)⟩
    clear hw8 hbl8 hb78 hz8 HAW hb17 hS5 hS6 hS7 HIT HKC HCP HS0 HS hsum
    go_wp2_with (first | rw [<- HW8.out] | fail)
    refine HAX.out.mono ?_
    rintro e w9 ⟨rfl, hN9, hb9⟩
    have HN9 : Hid (NewAt w w9 w7.heap.size g w8.heap.size (wn : Int) op config c key) := hN9
    have HB9 : Hid (Below w.heap.size w w9) := hb9
    clear hN9 hb9 HAX
    go_wp2
    go_ret2
    exact ⟨⟨_, ErrIs.nil _ _, by first | exact Or.inr ⟨by decide, _, _, _, rfl, HN9.out⟩ | exact ⟨_, _, _, rfl, HN9.out⟩ | exact ⟨_, rfl, _, _, HN9.out⟩ | (trace_state; fail)⟩, HB9.out⟩
   ·have hnf : newF who op config c key = (2, -1) := by unfold newF; rw [if_neg hp, if_neg (by rw [hkn]; decide), if_neg hbd]
    unfold NewMade
    rw [hnf]
    clear hp hnf hkn hf hn h0
    by_cases g1 : who < 0
    ·clear hbd
     have hd0 : decide (who < 0) = true := decide_eq_true g1
     go_enter Tryz.func23, Tryz.ntmps23
     go_wp2_with (first | rw [<- HW1.out] | fail)
     refine HEN.mono ?_
     rintro e w3 ⟨⟨ev, rfl, hev⟩, hb3⟩
     obtain rfl := ErrIs.isNil hev
     have HB13 : Hid (Below w1.heap.size w1 w3) := hb3
     clear hev hb3 HEN
     go_wp2_with fail
     refine (HNM.out _).mono ?_
     rintro e w4 ⟨rfl, hb4⟩
     have hb14 : Below w1.heap.size w1 w4 := HB13.out.trans (hb4.mono HB13.out.size)
     have HB4 : Hid (Below w.heap.size w w4) := HB1.out.trans (hb14.mono HB1.out.size)
     have hez := (HERR.out.below hb14).c1
     clear hb14 hb4 HB13
     go_wp2
     go_quiet (fail)
     go_wp2
     go_ret2
     exact ⟨⟨_, ErrIs.sent 1 (by decide), by first | exact Or.inl ⟨by decide, rfl⟩ | rfl⟩, below_drewN HB4.out _⟩
    ·have hd0 : decide (who < 0) = false := decide_eq_false g1
     by_cases g2 : 6 <= who
     ·clear hbd
      have hd1 : decide (6 <= who) = true := decide_eq_true g2
      go_enter Tryz.func23, Tryz.ntmps23
      go_wp2_with (first | rw [<- HW1.out] | fail)
      refine HEN.mono ?_
      rintro e w3 ⟨⟨ev, rfl, hev⟩, hb3⟩
      obtain rfl := ErrIs.isNil hev
      have HB13 : Hid (Below w1.heap.size w1 w3) := hb3
      clear hev hb3 HEN
      go_wp2_with fail
      refine (HNM.out _).mono ?_
      rintro e w4 ⟨rfl, hb4⟩
      have hb14 : Below w1.heap.size w1 w4 := HB13.out.trans (hb4.mono HB13.out.size)
      have HB4 : Hid (Below w.heap.size w w4) := HB1.out.trans (hb14.mono HB1.out.size)
      have hez := (HERR.out.below hb14).c1
      clear hb14 hb4 HB13
      go_wp2
      go_quiet (fail)
      go_wp2
      go_ret2
      exact ⟨⟨_, ErrIs.sent 1 (by decide), by first | exact Or.inl ⟨by decide, rfl⟩ | rfl⟩, below_drewN HB4.out _⟩
     ·have hd1 : decide (6 <= who) = false := decide_eq_false g2
      by_cases g3 : op < 0
      ·clear hbd
       have hd2 : decide (op < 0) = true := decide_eq_true g3
       go_enter Tryz.func23, Tryz.ntmps23
       go_wp2_with (first | rw [<- HW1.out] | fail)
       refine HEN.mono ?_
       rintro e w3 ⟨⟨ev, rfl, hev⟩, hb3⟩
       obtain rfl := ErrIs.isNil hev
       have HB13 : Hid (Below w1.heap.size w1 w3) := hb3
       clear hev hb3 HEN
       go_wp2_with fail
       refine (HNM.out _).mono ?_
       rintro e w4 ⟨rfl, hb4⟩
       have hb14 : Below w1.heap.size w1 w4 := HB13.out.trans (hb4.mono HB13.out.size)
       have HB4 : Hid (Below w.heap.size w w4) := HB1.out.trans (hb14.mono HB1.out.size)
       have hez := (HERR.out.below hb14).c1
       clear hb14 hb4 HB13
       go_wp2
       go_quiet (fail)
       go_wp2
       go_ret2
       exact ⟨⟨_, ErrIs.sent 1 (by decide), by first | exact Or.inl ⟨by decide, rfl⟩ | rfl⟩, below_drewN HB4.out _⟩
      ·have hd2 : decide (op < 0) = false := decide_eq_false g3
       have g4 : config < 0 := by omega
       clear hbd
       have hd3 : decide (config < 0) = true := decide_eq_true g4
       go_enter Tryz.func23, Tryz.ntmps23
       go_wp2_with (first | rw [<- HW1.out] | fail)
       refine HEN.mono ?_
       rintro e w3 ⟨⟨ev, rfl, hev⟩, hb3⟩
       obtain rfl := ErrIs.isNil hev
       have HB13 : Hid (Below w1.heap.size w1 w3) := hb3
       clear hev hb3 HEN
       go_wp2_with fail
       refine (HNM.out _).mono ?_
       rintro e w4 ⟨rfl, hb4⟩
       have hb14 : Below w1.heap.size w1 w4 := HB13.out.trans (hb4.mono HB13.out.size)
       have HB4 : Hid (Below w.heap.size w w4) := HB1.out.trans (hb14.mono HB1.out.size)
       have hez := (HERR.out.below hb14).c1
       clear hb14 hb4 HB13
       go_wp2
       go_quiet (fail)
       go_wp2
       go_ret2
       exact ⟨⟨_, ErrIs.sent 1 (by decide), by first | exact Or.inl ⟨by decide, rfl⟩ | rfl⟩, below_drewN HB4.out _⟩
  ·have hkf : isN key = false := Bool.eq_false_iff.2 hkn
   have hnf : newF who op config c key = (4, -1) := by unfold newF; rw [if_neg hp, if_pos hkf]
   rw [hkf] at HNM
   unfold NewMade
   rw [hnf]
   clear hp hnf hkn hf hn h0 hkf
   go_enter Tryz.func23, Tryz.ntmps23
   go_wp2_with (first | rw [<- HW1.out] | fail)
   refine HEN.mono ?_
   rintro e w3 ⟨⟨ev, rfl, hev⟩, hb3⟩
   obtain rfl := ErrIs.isNil hev
   have HB13 : Hid (Below w1.heap.size w1 w3) := hb3
   clear hev hb3 HEN
   go_wp2_with fail
   refine (HNM.out _).mono ?_
   rintro e w4 ⟨rfl, hb4⟩
   have hb14 : Below w1.heap.size w1 w4 := HB13.out.trans (hb4.mono HB13.out.size)
   have HB4 : Hid (Below w.heap.size w w4) := HB1.out.trans (hb14.mono HB1.out.size)
   have hez := (HERR.out.below hb14).c3
   clear hb14 hb4 HB13
   go_wp2
   go_quiet (fail)
   go_wp2
   go_ret2
   exact ⟨⟨_, ErrIs.sent 3 (by decide), by first | exact Or.inl ⟨by decide, rfl⟩ | rfl⟩, below_drewN HB4.out _⟩
theorem NewAt.keep {w w' W : World} {h g mb : Nat} {who op config : Int} {c : Cfg} {key : ByteArray} (hn : NewAt w w' h g mb who op config c key) (hb : Below w'.heap.size w' W) : NewAt w W h g mb who op config c key :=
 ⟨(hb.block _ hn.hs.2).trans hn.blk, hn.strs.below hb, (hb.block _ hn.ms.2).trans hn.map_, ⟨hn.hs.1, Nat.lt_of_lt_of_le hn.hs.2 hb.size⟩, ⟨hn.gs.1, Nat.lt_of_lt_of_le hn.gs.2 hb.size⟩, ⟨hn.ms.1, Nat.lt_of_lt_of_le hn.ms.2 hb.size⟩, hn.ne⟩
theorem clientN_size {who : Int} : (clientN who).size = 2 := by unfold clientN; rfl
theorem newF_fine {who op config : Int} {c : Cfg} {key : ByteArray} (h : ¬ 0 < (newF who op config c key).1) : ¬ 0 < (cfgF c).1 /\ isN key = true /\ (0 <= who /\ who < 6 /\ 0 <= op /\ 0 <= config) /\ newF who op config c key = (0, -1) := by
 unfold newF at h ⊢
 by_cases h1 : 0 < (cfgF c).1
 ·rw [if_pos h1] at h; exact absurd h1 h
 ·rw [if_neg h1] at h ⊢
  by_cases h2 : isN key = false
  ·rw [if_pos h2] at h; exact absurd (by decide) h
  ·rw [if_neg h2] at h ⊢
   by_cases h3 : 0 <= who /\ who < 6 /\ 0 <= op /\ 0 <= config
   ·rw [if_pos h3]
    exact ⟨h1, by simpa using h2, h3, rfl⟩
   ·rw [if_neg h3] at h; exact absurd (by decide) h
theorem NewAt.ask {w w' W : World} {h g mb : Nat} {who op config : Int} {c : Cfg} {key text : ByteArray} {put : Bool} {cv : Value} {S1 : Nat -> Prop} (hn : NewAt w w' h g mb who op config c key) (hnf : ¬ 0 < (newF who op config c key).1) (hop : op <= 9223372036854775807) (hcf : config <= 9223372036854775807) (htx : text.size <= 1000) (hs : w'.heap.size <= W.heap.size)
 (hW : W.heap[h]? = some (.cells ((pkCells (ask0 who op config c key false ⟨#[]⟩) (enoughN c) (.slice (some ⟨g, 0, none⟩) c.L.length c.L.length) (.map (some mb)) .nilFunc wTold).setIfInBounds 11 cv) 79 (0, 0))) (ho : ∀ k, k < w'.heap.size -> k ≠ h -> W.heap[k]? = w'.heap[k]?)
 (h1 : ∀ k, S1 k -> w.heap.size <= k /\ k < W.heap.size /\ k ≠ h /\ k ≠ mb) (hch : ChOk W (fun k => k = g ∨ S1 k) (ask0 who op config c key put text) (.slice (some ⟨g, 0, none⟩) c.L.length c.L.length) cv) :
 PAkOf W w.heap.size h (fun k => k = h ∨ k = mb ∨ k = g ∨ S1 k) (ask0 who op config c key put text) := by
 obtain ⟨f1, f2, f3, _⟩ := newF_fine hnf
 refine ⟨fun k => k = g ∨ S1 k, .slice (some ⟨g, 0, none⟩) c.L.length c.L.length, cv, wTold, some mb, .map [], fun _ => .slice none 0 0, ⟨?_, Or.inl rfl, ?_, ⟨⟨some ⟨g, 0, none⟩, c.L.length, rfl, ?_, Nat.le_refl _, (fun e => by cases e), (fun b o e => Or.inl (by injection e with e1; injection e1 with e2; exact e2.symm))⟩, fun _ => hch, (fun _ x hx => by cases hx), ?_⟩, ?_, ?_, fun _ => ⟨mb, rfl, Or.inr (Or.inl rfl), hn.ne.2.1, ?_⟩, (fun e => by rcases e with e | e <;> cases e), fun _ => rfl, (fun e => by cases e)⟩⟩
 ·rw [hW]
  unfold pkCells
  rw [ask0_obj, ask0_obj]
  rfl
 ·rintro k (rfl | rfl | rfl | hk)
  ·exact ⟨hn.hs.1, Nat.lt_of_lt_of_le hn.hs.2 hs⟩
  ·exact ⟨hn.ms.1, Nat.lt_of_lt_of_le hn.ms.2 hs⟩
  ·exact ⟨hn.gs.1, Nat.lt_of_lt_of_le hn.gs.2 hs⟩
  ·exact ⟨(h1 k hk).1, (h1 k hk).2.1⟩
 ·exact hn.strs.same hs fun b o e => by
   obtain rfl : g = b := by injection e with e1; injection e1
   exact ho g hn.gs.2 hn.ne.1
 ·rintro k (rfl | hk)
  ·exact Nat.lt_of_lt_of_le hn.gs.2 hs
  ·exact (h1 k hk).2.1
 ·rintro k (rfl | hk)
  ·exact ⟨Or.inr (Or.inr (Or.inl rfl)), hn.ne.1, fun e => hn.ne.2.2 (Option.some.inj e)⟩
  ·exact ⟨Or.inr (Or.inr (Or.inr hk)), (h1 k hk).2.2.1, fun e => (h1 k hk).2.2.2 (Option.some.inj e).symm⟩
 ·exact ⟨f1, by have := isN_size f2; show key.size <= 100; omega, by show (clientN who).size <= 100; rw [clientN_size]; decide, rfl, ⟨f3.1, f3.2.1⟩, ⟨f3.2.2.1, hop⟩, ⟨f3.2.2.2, hcf⟩, htx, (by intro e; cases e), List.nodup_nil, (fun x hx => by cases hx), rfl, (fun e => by cases e), (fun l hl => by cases hl)⟩
 ·have hm : W.heap[mb]? = some (.map #[] 0) := (ho mb hn.ms.2 hn.ne.2.1).trans hn.map_
  refine ⟨⟨0, #[], 0, hm, ?_⟩, fun _ _ => rfl, (fun x hx => by cases hx), rfl⟩
  obtain ⟨es, clock, g1, g2, g3, g4⟩ := World.ownsMap_made W Tryz.prog 9 anyR
  have e : (W.alloc (.map #[] 0)).heap[W.heap.size]? = some (.map #[] 0) := by
   show (W.heap.push _)[W.heap.size]? = _
   simp
  rw [e] at g1
  injection g1 with g1
  injection g1 with g5 g6
  subst g5 g6
  exact ⟨g2, g3, g4⟩
theorem NewAt.base {w0 w w' : World} {h g mb : Nat} {who op config : Int} {c : Cfg} {key : ByteArray} (hn : NewAt w w' h g mb who op config c key) (hb : w0.heap.size <= w.heap.size) : NewAt w0 w' h g mb who op config c key := ⟨hn.blk, hn.strs, hn.map_, ⟨Nat.le_trans hb hn.hs.1, hn.hs.2⟩, ⟨Nat.le_trans hb hn.gs.1, hn.gs.2⟩, ⟨Nat.le_trans hb hn.ms.1, hn.ms.2⟩, hn.ne⟩
theorem bidF_new (b : Bid) : bidF b = if 0 < (newF b.who b.op b.config b.c b.key).1 then newF b.who b.op b.config b.c b.key else if b.put = true /\ 1000 < b.text.size then (2, -1) else (0, -1) := by
 unfold newF
 by_cases h1 : 0 < (cfgF b.c).1
 ·rw [if_pos h1, if_pos h1, bidF_cfg h1]
 ·rw [if_neg h1]
  by_cases h2 : isN b.key = false
  ·rw [if_pos h2, bidF_key h1 h2]; rfl
  ·rw [if_neg h2]
   have h2' : isN b.key = true := by simpa using h2
   by_cases h3 : 0 <= b.who /\ b.who < 6 /\ 0 <= b.op /\ 0 <= b.config
   ·rw [if_pos h3, if_neg (by decide)]
    by_cases h4 : b.put = true /\ 1000 < b.text.size
    ·rw [if_pos h4, bidF_bound h1 h2' (fun hf => by have := hf.2.2.2.2 h4.1; omega)]
    ·rw [if_neg h4, bidF_fine h1 h2' ⟨h3.1, h3.2.1, h3.2.2.1, h3.2.2.2, fun hp => by
      rcases Nat.lt_or_ge 1000 b.text.size with h | h
      ·exact absurd ⟨hp, h⟩ h4
      ·exact h⟩]
   ·rw [if_neg h3, if_pos (by decide), bidF_bound h1 h2' (fun hf => h3 ⟨hf.1, hf.2.1, hf.2.2.1, hf.2.2.2.1⟩)]
set_option maxRecDepth 10000 in
set_option maxHeartbeats 8000000 in
theorem pput_any (ad : Nat -> Addr) (b : Bid) (p : Option Addr) (cap : Nat) (w : World) (hc : CfgAt w b.c p cap) (hput : b.put = true) (hk : b.key.size <= 1000) (ht : b.text.size <= 3000) (hop : I64 b.op) (hcf : I64 b.config) (hE : ErrsQ w ad) :
 Calls Tryz.prog 7 #[.int .i64 b.who, .int .i64 b.op, .agg #[.int .i64 b.c.n, .int .i64 b.c.k, .slice p b.c.L.length cap], .int .i64 b.config, .string b.key, .string b.text] w fun e w' => AskMade PAkOf ad b w.heap.size e w' /\ Below w.heap.size w w' := by
 obtain ⟨w2, hw2⟩ : ∃ w2, w2 = (w.alloc (.cells #[.int .i64 b.who] 3)).alloc (.cells #[.int .i64 b.c.n, .int .i64 b.c.k, .slice p b.c.L.length cap] 24) := ⟨_, rfl⟩
 have hb2 : Below w.heap.size w w2 := by rw [hw2]; exact ((Below.refl _ _).alloc (Nat.le_refl _) _).alloc (by simp) _
 have hz2 : w2.heap.size = w.heap.size + 1 + 1 := by rw [hw2]; simp
 have e1 : (w.alloc (.cells #[.int .i64 b.who] 3)).heap.size = w.heap.size + 1 := by simp
 have q0 : w2.cell? ⟨w.heap.size, 0, none⟩ = some (.int .i64 b.who) := by
  rw [hw2, ((Below.refl _ (w.alloc (.cells #[.int .i64 b.who] 3))).alloc (Nat.le_refl _) _).cell (p := ⟨w.heap.size, 0, none⟩) (by show w.heap.size < _; omega), World.cell?_alloc_at _ _ _ _ rfl]
  rfl
 have q1 : w2.cell? ⟨w.heap.size + 1, 0, none⟩ = some (.int .i64 b.c.n) := by rw [hw2, World.cell?_alloc_at _ _ _ _ e1.symm]; rfl
 have q2 : w2.cell? ⟨w.heap.size + 1, 1, none⟩ = some (.int .i64 b.c.k) := by rw [hw2, World.cell?_alloc_at _ _ _ _ e1.symm]; rfl
 have q3 : w2.cell? ⟨w.heap.size + 1, 2, none⟩ = some (.slice p b.c.L.length cap) := by rw [hw2, World.cell?_alloc_at _ _ _ _ e1.symm]; rfl
 have HNW := pnew_any ad b.who b.op b.config b.c p cap b.key w2 (hc.below hb2) hk (hE.below hb2)
 have HW2 : Hid (w2 = (w.alloc (.cells #[.int .i64 b.who] 3)).alloc (.cells #[.int .i64 b.c.n, .int .i64 b.c.k, .slice p b.c.L.length cap] 24)) := hw2
 have HB2 : Hid (Below w.heap.size w w2) := hb2
 have HZ2 : Hid (w2.heap.size = w.heap.size + 1 + 1) := hz2
 have HQ0 : Hid (w2.cell? ⟨w.heap.size, 0, none⟩ = some (.int .i64 b.who)) := q0
 have HERR : Hid (ErrsQ w2 ad) := hE.below hb2
 have HBF := bidF_new b
 rw [hput] at HBF
 have HBE : Hid (bidF b = if 0 < (newF b.who b.op b.config b.c b.key).1 then newF b.who b.op b.config b.c b.key else if true = true /\ 1000 < b.text.size then (2, -1) else (0, -1)) := HBF
 have HSC : Hid (∀ W, Calls Tryz.prog 24 #[.string b.text] W fun e w' => e = .returned (.string b.text) /\ Below W.heap.size W w') := fun W => sclone_any b.text W (by omega)
 have HPUT : Hid (b.put = true) := hput
 have HOP : Hid (b.op <= 9223372036854775807) := hop.2
 have HCFG : Hid (b.config <= 9223372036854775807) := hcf.2
 clear hw2 hb2 hz2 e1 hc hE HBF hput hop hcf
 unfold NewMade at HNW
 by_cases hp : 0 < (newF b.who b.op b.config b.c b.key).1
 ·have HBX : Hid (bidF b = newF b.who b.op b.config b.c b.key) := by show _ = _; rw [HBE.out, if_pos hp]
  have HP : Hid (0 < (newF b.who b.op b.config b.c b.key).1) := hp
  unfold AskMade
  rw [HBX.out]
  clear hp HBE HBX HSC
  generalize newF b.who b.op b.config b.c b.key = R at *
  go_enter Tryz.func7, Tryz.ntmps7
  go_wp2_with (first | rw [<- HW2.out] | fail)
  refine HNW.mono ?_
  rintro e w3 ⟨⟨ev, hev, hor⟩, hb3⟩
  have HB3 : Hid (Below w.heap.size w w3) := HB2.out.trans (hb3.mono HB2.out.size)
  have HEV : Hid (ErrIs w3 ad ev R.1 R.2) := hev
  obtain ⟨et, eu, rfl⟩ := hev.some HP.out
  rcases hor with ⟨_, rfl⟩ | ⟨hno, _⟩
  ·clear hev hb3 HNW
   go_wp2
   go_ret2
   exact ⟨⟨_, HEV.out, by first | exact Or.inl ⟨HP.out, rfl⟩ | exact Or.inl rfl | rfl⟩, HB3.out⟩
  ·have := HP.out
   omega
 ·obtain ⟨_, _, _, hn0⟩ := newF_fine hp
  have HP : Hid (¬ 0 < (newF b.who b.op b.config b.c b.key).1) := hp
  have hp0 : ¬ 0 < ((0, -1) : Int × Int).1 := by decide
  by_cases hlong : 1000 < b.text.size
  ·have HBX : Hid (bidF b = (2, -1)) := by show _ = _; rw [HBE.out, if_neg hp, if_pos ⟨rfl, hlong⟩]
   have hdl : decide ((1000 : Int) < (b.text.size : Int)) = true := decide_eq_true (by omega)
   unfold AskMade
   rw [HBX.out]
   clear HBE HBX HSC
   go_enter Tryz.func7, Tryz.ntmps7
   go_wp2_with (first | rw [<- HW2.out] | fail)
   refine HNW.mono ?_
   rintro e w3 ⟨⟨ev, hev, hor⟩, hb3⟩
   rw [hn0] at hev hor
   obtain rfl := ErrIs.isNil hev
   have HB3 : Hid (Below w.heap.size w w3) := HB2.out.trans (hb3.mono HB2.out.size)
   have hez := (HERR.out.below hb3).c1
   rcases hor with ⟨hno, _⟩ | ⟨_, h, g, mb, rfl, hN⟩
   ·exact absurd hno (by decide)
   ·clear hev hb3 HNW hN hn0 hp
    go_wp2
    go_quiet (fail)
    go_wp2
    go_ret2
    exact ⟨⟨_, ErrIs.sent 1 (by decide), by first | exact Or.inl ⟨by decide, rfl⟩ | rfl⟩, below_drewN HB3.out _⟩
  ·have HBX : Hid (bidF b = (0, -1)) := by show _ = _; rw [HBE.out, if_neg hp, if_neg (fun h => hlong h.2)]
   have hdl : decide ((1000 : Int) < (b.text.size : Int)) = false := decide_eq_false (by omega)
   have HSH : Hid (b.text.size <= 1000) := by show _ <= _; omega
   unfold AskMade
   rw [HBX.out]
   clear HBE HBX
   go_enter Tryz.func7, Tryz.ntmps7
   go_wp2_with (first | rw [<- HW2.out] | fail)
   refine HNW.mono ?_
   rintro e w3 ⟨⟨ev, hev, hor⟩, hb3⟩
   rw [hn0] at hev hor
   obtain rfl := ErrIs.isNil hev
   have HB23 : Hid (Below w2.heap.size w2 w3) := hb3
   rcases hor with ⟨hno, _⟩ | ⟨_, h, g, mb, rfl, hN⟩
   ·exact absurd hno (by decide)
   ·have HN : Hid (NewAt w2 w3 h g mb b.who b.op b.config b.c b.key) := hN
    clear hev hb3 HNW hN hn0 hp
    go_wp2_with fail
    refine (HSC.out _).mono ?_
    rintro e w4 ⟨rfl, hb4⟩
    obtain ⟨w5, hw5⟩ : ∃ w5, w5 = w4.alloc (.cells #[.string b.text] 9) := ⟨_, rfl⟩
    have hb45 : Below w4.heap.size w4 w5 := by rw [hw5]; exact (Below.refl _ _).alloc (Nat.le_refl _) _
    have hb35 : Below w3.heap.size w3 w5 := hb4.trans (hb45.mono hb4.size)
    have hN5 := (HN.out.keep hb35).base HB2.out.size
    have hz5 : w5.heap.size = w4.heap.size + 1 := by rw [hw5]; simp
    have ht5 : w5.cell? ⟨w4.heap.size, 0, none⟩ = some (.string b.text) := by rw [hw5, World.cell?_alloc_at _ _ _ _ rfl]; rfl
    have hwb5 : w5.cell? ⟨w.heap.size, 0, none⟩ = some (.int .i64 b.who) := ((HB23.out.trans (hb35.mono HB23.out.size)).cell (p := ⟨w.heap.size, 0, none⟩) (by show w.heap.size < _; have := HZ2.out; omega)).trans HQ0.out
    have hc11 : w5.cell? ⟨h, 11, none⟩ = some .nilFunc := by rw [(blk_cell hN5.blk 11).1]; rfl
    have hst : Sem.run Tryz.prog (store ⟨h, 11, none⟩ (.func (.func 25) #[] #[.pointer (some ⟨w.heap.size, 0, none⟩), .pointer (some ⟨w4.heap.size, 0, none⟩)])) w5 = .ok () (w5.setCell ⟨h, 11, none⟩ (.func (.func 25) #[] #[.pointer (some ⟨w.heap.size, 0, none⟩), .pointer (some ⟨w4.heap.size, 0, none⟩)])) := run_store1 hc11 (blk_cell hN5.blk 11).2 rfl
    have hlh : h < w4.heap.size := Nat.lt_of_lt_of_le HN.out.hs.2 hb4.size
    have hlm : mb < w4.heap.size := Nat.lt_of_lt_of_le HN.out.ms.2 hb4.size
    have hlw : w.heap.size < h /\ w.heap.size < mb := by have := HN.out.hs.1; have := HN.out.ms.1; have := HZ2.out; omega
    have HFIN : Hid (PAkOf (w5.setCell ⟨h, 11, none⟩ (.func (.func 25) #[] #[.pointer (some ⟨w.heap.size, 0, none⟩), .pointer (some ⟨w4.heap.size, 0, none⟩)])) w.heap.size h (fun k => k = h ∨ k = mb ∨ k = g ∨ (k = w.heap.size ∨ k = w4.heap.size)) b.ask) := by
     have hb : b.ask = ask0 b.who b.op b.config b.c b.key true b.text := by
      unfold Bid.ask ask0
      rw [HPUT.out]
      rfl
     rw [hb]
     have hz : (w5.setCell ⟨h, 11, none⟩ (.func (.func 25) #[] #[.pointer (some ⟨w.heap.size, 0, none⟩), .pointer (some ⟨w4.heap.size, 0, none⟩)])).heap.size = w5.heap.size := by simp [World.setCell]
     refine hN5.ask (by have := HP.out; omega) HOP.out HCFG.out HSH.out (by omega) (blk_set hN5.blk 11 _) (fun k _ hk => Below.heap_setCell _ _ _ k hk) (fun k hk => ?_) (Or.inl ⟨rfl, w.heap.size, w4.heap.size, rfl, Or.inr (Or.inl rfl), Or.inr (Or.inr rfl), ?_, ?_⟩)
     ·have := HB2.out.size; have := HB23.out.size; have := hb4.size
      rcases hk with rfl | rfl
      ·exact ⟨Nat.le_refl _, by omega, by omega, by omega⟩
      ·exact ⟨by omega, by omega, by omega, by omega⟩
     ·exact (World.cell?_of_block (a := ⟨w.heap.size, 0, none⟩) (Below.heap_setCell _ _ _ _ (by show w.heap.size ≠ h; omega))).trans hwb5
     ·exact (World.cell?_of_block (a := ⟨w4.heap.size, 0, none⟩) (Below.heap_setCell _ _ _ _ (by show w4.heap.size ≠ h; omega))).trans ht5
    have HBF : Hid (Below w.heap.size w (w5.setCell ⟨h, 11, none⟩ (.func (.func 25) #[] #[.pointer (some ⟨w.heap.size, 0, none⟩), .pointer (some ⟨w4.heap.size, 0, none⟩)]))) := (HB2.out.trans ((HB23.out.trans (hb35.mono HB23.out.size)).mono HB2.out.size)).setCell (by show w.heap.size <= h; omega) _
    have HW5 : Hid (w5 = w4.alloc (.cells #[.string b.text] 9)) := hw5
    clear hw5 hb45 hb35 hN5 hz5 ht5 hwb5 hc11 hb4 HSC hlh hlm hlw
    go_wp2_with (first | rw [<- HW5.out] | fail)
    go_ret2
    exact ⟨⟨_, ErrIs.nil _ _, by first | exact Or.inr ⟨by decide, _, _, rfl, HFIN.out⟩ | exact ⟨_, _, rfl, HFIN.out⟩ | exact ⟨_, rfl, _, HFIN.out⟩ | (trace_state; fail)⟩, HBF.out⟩
set_option maxRecDepth 10000 in
set_option maxHeartbeats 8000000 in
theorem pget_any (ad : Nat -> Addr) (b : Bid) (p : Option Addr) (cap : Nat) (w : World) (hc : CfgAt w b.c p cap) (hput : b.put = false) (hk : b.key.size <= 1000) (hop : I64 b.op) (hcf : I64 b.config) (hE : ErrsQ w ad) :
 Calls Tryz.prog 9 #[.int .i64 b.who, .int .i64 b.op, .agg #[.int .i64 b.c.n, .int .i64 b.c.k, .slice p b.c.L.length cap], .int .i64 b.config, .string b.key] w fun e w' => AskMade PAkOf ad b w.heap.size e w' /\ Below w.heap.size w w' := by
 obtain ⟨w2, hw2⟩ : ∃ w2, w2 = w.alloc (.cells #[.int .i64 b.c.n, .int .i64 b.c.k, .slice p b.c.L.length cap] 24) := ⟨_, rfl⟩
 have hb2 : Below w.heap.size w w2 := by rw [hw2]; exact (Below.refl _ _).alloc (Nat.le_refl _) _
 have q1 : w2.cell? ⟨w.heap.size, 0, none⟩ = some (.int .i64 b.c.n) := by rw [hw2, World.cell?_alloc_at _ _ _ _ rfl]; rfl
 have q2 : w2.cell? ⟨w.heap.size, 1, none⟩ = some (.int .i64 b.c.k) := by rw [hw2, World.cell?_alloc_at _ _ _ _ rfl]; rfl
 have q3 : w2.cell? ⟨w.heap.size, 2, none⟩ = some (.slice p b.c.L.length cap) := by rw [hw2, World.cell?_alloc_at _ _ _ _ rfl]; rfl
 have HNW := pnew_any ad b.who b.op b.config b.c p cap b.key w2 (hc.below hb2) hk (hE.below hb2)
 have HW2 : Hid (w2 = w.alloc (.cells #[.int .i64 b.c.n, .int .i64 b.c.k, .slice p b.c.L.length cap] 24)) := hw2
 have HB2 : Hid (Below w.heap.size w w2) := hb2
 have HBF := bidF_new b
 rw [hput] at HBF
 have HBE : Hid (bidF b = if 0 < (newF b.who b.op b.config b.c b.key).1 then newF b.who b.op b.config b.c b.key else (0, -1)) := by
  show _ = _
  rw [HBF, if_neg (fun h => by cases h.1 : ¬ (false = true /\ 1000 < b.text.size))]
 have HPUT : Hid (b.put = false) := hput
 have HOP : Hid (b.op <= 9223372036854775807) := hop.2
 have HCFG : Hid (b.config <= 9223372036854775807) := hcf.2
 clear hw2 hb2 hc hE HBF hput hop hcf
 unfold NewMade at HNW
 by_cases hp : 0 < (newF b.who b.op b.config b.c b.key).1
 ·have HBX : Hid (bidF b = newF b.who b.op b.config b.c b.key) := by show _ = _; rw [HBE.out, if_pos hp]
  have HP : Hid (0 < (newF b.who b.op b.config b.c b.key).1) := hp
  unfold AskMade
  rw [HBX.out]
  clear hp HBE HBX
  generalize newF b.who b.op b.config b.c b.key = R at *
  go_enter Tryz.func9, Tryz.ntmps9
  go_wp2_with (first | rw [<- HW2.out] | fail)
  refine HNW.mono ?_
  rintro e w3 ⟨⟨ev, hev, hor⟩, hb3⟩
  have HB3 : Hid (Below w.heap.size w w3) := HB2.out.trans (hb3.mono HB2.out.size)
  have HEV : Hid (ErrIs w3 ad ev R.1 R.2) := hev
  obtain ⟨et, eu, rfl⟩ := hev.some HP.out
  rcases hor with ⟨_, rfl⟩ | ⟨hno, _⟩
  ·clear hev hb3 HNW
   go_wp2
   go_ret2
   exact ⟨⟨_, HEV.out, by first | exact Or.inl ⟨HP.out, rfl⟩ | exact Or.inl rfl | rfl⟩, HB3.out⟩
  ·have := HP.out
   omega
 ·obtain ⟨_, _, _, hn0⟩ := newF_fine hp
  have HP : Hid (¬ 0 < (newF b.who b.op b.config b.c b.key).1) := hp
  have HBX : Hid (bidF b = (0, -1)) := by show _ = _; rw [HBE.out, if_neg hp]
  unfold AskMade
  rw [HBX.out]
  clear HBE HBX
  go_enter Tryz.func9, Tryz.ntmps9
  go_wp2_with (first | rw [<- HW2.out] | fail)
  refine HNW.mono ?_
  rintro e w3 ⟨⟨ev, hev, hor⟩, hb3⟩
  rw [hn0] at hev hor
  obtain rfl := ErrIs.isNil hev
  have HB23 : Hid (Below w2.heap.size w2 w3) := hb3
  rcases hor with ⟨hno, _⟩ | ⟨_, h, g, mb, rfl, hN⟩
  ·exact absurd hno (by decide)
  ·have HN : Hid (NewAt w2 w3 h g mb b.who b.op b.config b.c b.key) := hN
   have c4 : w3.cell? ⟨h, 4, none⟩ = some (.int .i64 b.c.n) := by rw [(blk_cell hN.blk 4).1]; rfl
   have c5 : w3.cell? ⟨h, 5, none⟩ = some (.int .i64 b.c.k) := by rw [(blk_cell hN.blk 5).1]; rfl
   have c6 : w3.cell? ⟨h, 6, none⟩ = some (.slice (some ⟨g, 0, none⟩) b.c.L.length b.c.L.length) := by rw [(blk_cell hN.blk 6).1]; rfl
   obtain ⟨w5, hw5⟩ : ∃ w5, w5 = w3.alloc (.cells #[.int .i64 b.c.n, .int .i64 b.c.k, .slice (some ⟨g, 0, none⟩) b.c.L.length b.c.L.length] 24) := ⟨_, rfl⟩
   have hb35 : Below w3.heap.size w3 w5 := by rw [hw5]; exact (Below.refl _ _).alloc (Nat.le_refl _) _
   have hN5 := (HN.out.keep hb35).base HB2.out.size
   have hz5 : w5.heap.size = w3.heap.size + 1 := by rw [hw5]; simp
   have k0 : w5.cell? ⟨w3.heap.size, 0, none⟩ = some (.int .i64 b.c.n) := by rw [hw5, World.cell?_alloc_at _ _ _ _ rfl]; rfl
   have k1 : w5.cell? ⟨w3.heap.size, 1, none⟩ = some (.int .i64 b.c.k) := by rw [hw5, World.cell?_alloc_at _ _ _ _ rfl]; rfl
   have k2 : w5.cell? ⟨w3.heap.size, 2, none⟩ = some (.slice (some ⟨g, 0, none⟩) b.c.L.length b.c.L.length) := by rw [hw5, World.cell?_alloc_at _ _ _ _ rfl]; rfl
   have hc11 : w5.cell? ⟨h, 11, none⟩ = some .nilFunc := by rw [(blk_cell hN5.blk 11).1]; rfl
   have hst : Sem.run Tryz.prog (store ⟨h, 11, none⟩ (.func (.func 27) #[] #[.pointer (some ⟨w3.heap.size, 0, none⟩)])) w5 = .ok () (w5.setCell ⟨h, 11, none⟩ (.func (.func 27) #[] #[.pointer (some ⟨w3.heap.size, 0, none⟩)])) := run_store1 hc11 (blk_cell hN5.blk 11).2 rfl
   have hlh : h < w3.heap.size := HN.out.hs.2
   have hlm : mb < w3.heap.size := HN.out.ms.2
   have HFIN : Hid (PAkOf (w5.setCell ⟨h, 11, none⟩ (.func (.func 27) #[] #[.pointer (some ⟨w3.heap.size, 0, none⟩)])) w.heap.size h (fun k => k = h ∨ k = mb ∨ k = g ∨ (k = w3.heap.size)) b.ask) := by
    have hb : b.ask = ask0 b.who b.op b.config b.c b.key false ⟨#[]⟩ := by
     unfold Bid.ask ask0
     rw [HPUT.out]
     rfl
    rw [hb]
    have hz : (w5.setCell ⟨h, 11, none⟩ (.func (.func 27) #[] #[.pointer (some ⟨w3.heap.size, 0, none⟩)])).heap.size = w5.heap.size := by simp [World.setCell]
    have hk : ∀ i, (w5.setCell ⟨h, 11, none⟩ (.func (.func 27) #[] #[.pointer (some ⟨w3.heap.size, 0, none⟩)])).cell? ⟨w3.heap.size, i, none⟩ = w5.cell? ⟨w3.heap.size, i, none⟩ := fun i => World.cell?_of_block (a := ⟨w3.heap.size, i, none⟩) (Below.heap_setCell _ _ _ _ (by show w3.heap.size ≠ h; omega))
    refine hN5.ask (by have := HP.out; omega) HOP.out HCFG.out (by decide) (by omega) (blk_set hN5.blk 11 _) (fun k _ hk => Below.heap_setCell _ _ _ k hk) (fun k hk => ?_) (Or.inr ⟨rfl, w3.heap.size, rfl, Or.inr rfl, ?_, ?_, ?_⟩)
    ·have := HB2.out.size; have := HB23.out.size
     subst hk
     exact ⟨by omega, by omega, by omega, by omega⟩
    ·exact (hk 0).trans k0
    ·exact (hk 1).trans k1
    ·exact (hk 2).trans k2
   have HBF : Hid (Below w.heap.size w (w5.setCell ⟨h, 11, none⟩ (.func (.func 27) #[] #[.pointer (some ⟨w3.heap.size, 0, none⟩)]))) := (HB2.out.trans ((HB23.out.trans (hb35.mono HB23.out.size)).mono HB2.out.size)).setCell (by have := HN.out.hs.1; have := HB2.out.size; show w.heap.size <= h; omega) _
   have HW5 : Hid (w5 = w3.alloc (.cells #[.int .i64 b.c.n, .int .i64 b.c.k, .slice (some ⟨g, 0, none⟩) b.c.L.length b.c.L.length] 24)) := hw5
   clear hw5 hb35 hN5 hz5 k0 k1 k2 hc11 hb3 hlh hlm hN hev hn0 hp HNW
   go_wp2_with (first | rw [<- HW5.out] | fail)
   go_ret2
   exact ⟨⟨_, ErrIs.nil _ _, by first | exact Or.inr ⟨by decide, _, _, rfl, HFIN.out⟩ | exact ⟨_, _, rfl, HFIN.out⟩ | exact ⟨_, rfl, _, HFIN.out⟩ | (trace_state; fail)⟩, HBF.out⟩
end Go.Proofs.YtobmckfcipeanaaGreatDoor
