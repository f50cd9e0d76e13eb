import Derived.Test.YtobmckfcipeanaaGreatDoorYF
import Derived.BigRegion
import Derived.Deep.QuietTactic
import Derived.Deep.RegionHeld3
namespace Go.Proofs.YtobmckfcipeanaaGreatDoor
open Go.RowKit
variable {w w' : World} {B : Nat} {S : Nat -> Prop} {ab : Nat} {a : MAsk} {mv nv fv lv : Value} {vs : List Value}
set_option maxRecDepth 10000 in
theorem waits_any (h : RAk w B S ab a mv nv fv lv vs) : Calls Tryz.prog 43 #[.pointer (some ⟨ab, 0, none⟩)] w fun e w' => e = .returned (.string a.st.waits) /\ w' = w := by
 have c13 : w.cell? ⟨ab, 13, none⟩ = some (.string a.st.word) := h.cell 13
 clear h
 generalize a.st = st at *
 cases st with
 | looking =>
  have q : w.cell? ⟨ab, 13, none⟩ = some (.string ⟨#[108, 111, 111, 107, 105, 110, 103]⟩) := c13
  clear c13
  go_enter Tryz.func43, Tryz.ntmps43
  go_wp2
  go_ret
  exact ⟨rfl, rfl⟩
 | sealing =>
  have q : w.cell? ⟨ab, 13, none⟩ = some (.string ⟨#[115, 101, 97, 108, 105, 110, 103]⟩) := c13
  clear c13
  go_enter Tryz.func43, Tryz.ntmps43
  go_wp2
  go_ret
  exact ⟨rfl, rfl⟩
 | keeping =>
  have q : w.cell? ⟨ab, 13, none⟩ = some (.string ⟨#[107, 101, 101, 112, 105, 110, 103]⟩) := c13
  clear c13
  go_enter Tryz.func43, Tryz.ntmps43
  go_wp2
  go_ret
  exact ⟨rfl, rfl⟩
 | done =>
  have q : w.cell? ⟨ab, 13, none⟩ = some (.string ⟨#[100, 111, 110, 101]⟩) := c13
  clear c13
  go_enter Tryz.func43, Tryz.ntmps43
  go_wp2
  go_ret
  exact ⟨rfl, rfl⟩
 | refused =>
  have q : w.cell? ⟨ab, 13, none⟩ = some (.string ⟨#[114, 101, 102, 117, 115, 101, 100]⟩) := c13
  clear c13
  go_enter Tryz.func43, Tryz.ntmps43
  go_wp2
  go_ret
  exact ⟨rfl, rfl⟩
def MAsk.msg (a : MAsk) (kind : ByteArray) (with_ : Bool) (i : Nat) : Msg := ⟨a.name, txt a.c.L i, kind, a.key, a.op, a.config, false, if with_ then [a.ver i] else []⟩
theorem send_eq (a : MAsk) (kind : ByteArray) (with_ : Bool) : a.send kind with_ = (List.range a.c.L.length).map (a.msg kind with_) := rfl
theorem range_succ_map {α : Type} (f : Nat -> α) (i : Nat) : (List.range (i + 1)).map f = (List.range i).map f ++ [f i] := by rw [List.range_succ, List.map_append]; rfl
set_option maxRecDepth 10000 in
set_option maxHeartbeats 8000000 in
theorem send_plain (h : RAk w B S ab a mv nv fv lv vs) (kind : ByteArray) (hl : a.c.L.length <= 1000) : Calls Tryz.prog 38 #[.pointer (some ⟨ab, 0, none⟩), .string kind, .bool false] w fun e w' => (∃ p c, e = .returned (.slice p (a.send kind false).length c) /\ MsgsAt w' p (a.send kind false)) /\ Below w.heap.size w w' := by
 have HRA : Hid (RAk w B S ab a mv nv fv lv vs) := h
 obtain ⟨mp, mc, hmv, hms, hmc, hmn, hmb⟩ := h.mem.at_
 subst hmv
 have hab : ab < w.heap.size := (h.inB ab h.self).2
 have HALL : Hid (∀ W, Below w.heap.size w W -> (W.cell? ⟨ab, 0, none⟩ = some (.string a.name) /\ W.cell? ⟨ab, 1, none⟩ = some (.string a.key) /\ W.cell? ⟨ab, 3, none⟩ = some (.int .i64 a.op) /\ W.cell? ⟨ab, 4, none⟩ = some (.int .i64 a.config) /\ W.cell? ⟨ab, 7, none⟩ = some (.slice mp a.c.L.length mc)) /\ Strs W mp a.c.L) := fun W hW => by
  have hh := HRA.out.below hW
  exact ⟨⟨hh.cell 0, hh.cell 1, hh.cell 3, hh.cell 4, hh.cell 7⟩, hms.below hW⟩
 have HSL : Hid ((a.send kind false).length = a.c.L.length) := by show _ = _; rw [send_eq, List.length_map, List.length_range]
 have HSE : Hid (a.send kind false = (List.range a.c.L.length).map (a.msg kind false)) := send_eq a kind false
 obtain ⟨f, hf⟩ : ∃ f : Nat -> Msg × Lv, f = fun i => (a.msg kind false i, (none, 0, 0)) := ⟨_, rfl⟩
 have HF : Hid (∀ i, f i = (a.msg kind false i, (none, 0, 0))) := fun i => by rw [hf]
 have HFL : Hid (∀ W, ∀ x ∈ (List.range a.c.L.length).map f, HasL W x) := fun W x hx => by
  obtain ⟨i, _, rfl⟩ := List.mem_map.1 hx
  rw [hf]
  exact ⟨rfl, Rec.nil _ _, Nat.le_refl _, fun _ => ⟨rfl, rfl⟩⟩
 have HFM : Hid (((List.range a.c.L.length).map f).map Prod.fst = a.send kind false) := by
  show _ = _
  rw [HSE.out, List.map_map, hf]
  rfl
 rw [HSL.out]
 clear h hms hmb hf
 obtain ⟨⟨c0, c1, c3, c4, c7⟩, _⟩ := HALL.out w (Below.refl _ _)
 go_enter Tryz.func38, Tryz.ntmps38
 go_wp2
 go_loopw [8, 9] (fun v x wr => ∃ i : Nat, i <= a.c.L.length /\ x = .int .i64 i /\ OwnR mE 59 wr w.heap.size v ((List.range i).map f) /\ Below w.heap.size w wr) (fun _ x _ => a.c.L.length - (intOf x).toNat)
 case atStart => exact ⟨0, Nat.zero_le _, rfl, OwnR.nil _ _ _, Below.refl _ _⟩
 case round =>
  obtain ⟨i, hi, rfl, hO, hB⟩ := hrel
  obtain ⟨w1, rfl⟩ : ∃ w1, w1 = wr := ⟨_, rfl⟩
  obtain ⟨pv, cv, rfl, hrc, hcv, hpn, _⟩ := hO.form
  have htl : ((List.range i).map f).length <= 1000 := by rw [List.length_map, List.length_range]; omega
  have HO : Hid (OwnR mE 59 w1 w.heap.size (.slice pv ((List.range i).map f).length cv) ((List.range i).map f)) := hO
  have HB : Hid (Below w.heap.size w w1) := hB
  have HRC : Hid (Rec mE w1 pv ((List.range i).map f)) := hrc
  obtain ⟨⟨d0, d1, d3, d4, d7⟩, hst⟩ := HALL.out w1 hB
  have hz1 : w.heap.size <= w1.heap.size := hB.size
  clear hO hrc hpn c0 c1 c3 c4 c7
  by_cases hil : i < a.c.L.length
  ·rcases hst with h0 | ⟨b, o, hpp, hblt, hcs⟩
   ·rw [h0] at hil; exact absurd hil (Nat.not_lt_zero _)
   have q1 := hcs i hil
   have HT : Hid ((List.range (i + 1)).map f = (List.range i).map f ++ [f i]) := range_succ_map f i
   have HFI : Hid (f i = (⟨a.name, txt a.c.L i, kind, a.key, a.op, a.config, false, []⟩, (none, 0, 0))) := HF.out i
   have hab1 : ab < w1.heap.size := by omega
   subst hpp
   clear hcs hB
   generalize txt a.c.L i = t at *
   generalize (List.range i).map f = done at *
   go_wp2
   go_region
   obtain ⟨w3, hw3⟩ : ∃ w3, w3 = (w1.alloc (.cells #[.string a.name, .string t, .string kind, .string a.key, .int .i64 a.op, .int .i64 a.config, .bool false, .slice none 0 0] 59)).drew := ⟨_, rfl⟩
   have hb13 : Below w1.heap.size w1 w3 := by rw [hw3]; exact ((Below.refl _ _).alloc (Nat.le_refl _) _).drew
   have hm3 : ∀ j u, (#[Value.string a.name, .string t, .string kind, .string a.key, .int .i64 a.op, .int .i64 a.config, .bool false, .slice none 0 0])[j]? = some u -> w3.cell? ⟨w1.heap.size, j, none⟩ = some u := fun j u hj => by
    rw [hw3]
    show (w1.alloc _).cell? ⟨w1.heap.size, j, none⟩ = some u
    rw [World.cell?_alloc_at _ _ _ _ rfl]
    exact hj
   have m0 := hm3 0 _ rfl
   have m1 := hm3 1 _ rfl
   have m2 := hm3 2 _ rfl
   have m3 := hm3 3 _ rfl
   have m4 := hm3 4 _ rfl
   have m5 := hm3 5 _ rfl
   have m6 := hm3 6 _ rfl
   have m7 := hm3 7 _ rfl
   obtain ⟨w4, hw4⟩ : ∃ w4, w4 = w3.alloc (.cells #[.string a.name, .string t, .string kind, .string a.key, .int .i64 a.op, .int .i64 a.config, .bool false, .slice none 0 0] 59) := ⟨_, rfl⟩
   have hb34 : Below w3.heap.size w3 w4 := by rw [hw4]; exact (Below.refl _ _).alloc (Nat.le_refl _) _
   have hb14 : Below w1.heap.size w1 w4 := hb13.trans (hb34.mono hb13.size)
   have HN4 : Hid (∀ j u, (mE.enc (f i))[j]? = some u -> w4.cell? ⟨w3.heap.size, 0 + j, none⟩ = some u) := fun j u hj => by
    rw [hw4, World.cell?_alloc_at _ _ _ _ rfl, Nat.zero_add]
    rw [HFI.out] at hj
    simpa [mE, msgC] using hj
   have HW3 : Hid (w3 = (w1.alloc (.cells #[.string a.name, .string t, .string kind, .string a.key, .int .i64 a.op, .int .i64 a.config, .bool false, .slice none 0 0] 59)).drew) := hw3
   have HW4 : Hid (w4 = w3.alloc (.cells #[.string a.name, .string t, .string kind, .string a.key, .int .i64 a.op, .int .i64 a.config, .bool false, .slice none 0 0] 59)) := hw4
   have HO4 : Hid (OwnR mE 59 w4 w.heap.size (.slice pv done.length cv) done) := HO.out.kept hb14
   have HB4 : Hid (Below w.heap.size w w4) := HB.out.trans (hb14.mono HB.out.size)
   have HS4 : Hid (w.heap.size <= w4.heap.size /\ w3.heap.size < w4.heap.size) := ⟨HB4.out.size, by rw [hw4]; simp⟩
   clear hw3 hw4 hb13 hb34 hb14 hm3 HO HB HRC HFI
   rw [<- HW3.out]
   clear d0 d1 d3 d4 d7 q1
   go_wp2_with (first | rw [<- HW4.out] | (at_builtin; refine wpList_append_rec (E := mE) rfl (.tmp 80) (.tmp 82) 27 59 rfl (.agg #[.string ⟨#[]⟩, .string ⟨#[]⟩, .string ⟨#[]⟩, .string ⟨#[]⟩, .int .i64 0, .int .i64 0, .bool false, .slice none 0 0]) 112 Tryz.underlying27 minfoR rfl w.heap.size (.slice pv done.length cv) done rfl HO4.out w3.heap.size 0 1 (f i) rfl HN4.out (by unfold maxLen; omega) (by omega) HS4.out.1 HS4.out.2 ?_; intro v5 w5 hO5 hb5))
   have HO5 : Hid (OwnR mE 59 w5 w.heap.size v5 (done ++ [f i])) := hO5
   have HB5 : Hid (Below w.heap.size w w5) := HB4.out.trans hb5
   clear hO5 hb5 HO4 HB4 m0 m1 m2 m3 m4 m5 m6 m7
   go_wp2
   go_roundw
   case rel => exact ⟨i + 1, by omega, by go_num, by rw [HT.out]; exact HO5.out, HB5.out⟩
   case measure => simp [intOf]; omega
  ·have hie : i = a.c.L.length := by omega
   subst hie
   clear hst hB
   have HLE : Hid (((List.range a.c.L.length).map f).length = a.c.L.length) := by show _ = _; rw [List.length_map, List.length_range]
   rw [HLE.out]
   go_wp2
   go_ret
   exact ⟨⟨pv, cv, rfl, _, HFM.out, HRC.out, HFL.out _⟩, HB.out⟩
end Go.Proofs.YtobmckfcipeanaaGreatDoor
