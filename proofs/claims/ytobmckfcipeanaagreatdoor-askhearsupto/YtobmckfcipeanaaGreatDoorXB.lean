import Derived.Test.YtobmckfcipeanaaGreatDoorYE
import Derived.Test.YtobmckfcipeanaaGreatDoorYK
import Derived.Deep.QuietTactic
import Derived.BigQuiet
import Derived.StillTailTactics
import Derived.Test.YtobmckfcipeanaaGreatDoorZB
import Derived.Deep.Heap
import Derived.Test.YtobmckfcipeanaaGreatDoorZA
import Derived.Test.YtobmckfcipeanaaGreatDoorZF
import Derived.Below
import Derived.WalkSmall
import Derived.Test.YtobmckfcipeanaaGreatDoorYC
namespace Go.Proofs.YtobmckfcipeanaaGreatDoor
open Go.RowKit
def MsgsN (B : Nat) (w : World) (p : Option Addr) (l : List Msg) : Prop := ∃ ml : List (Msg × Lv), ml.map Prod.fst = l /\ Rec mE w p ml /\ (∀ x ∈ ml, HasL w x /\ ∀ b o, x.2.1 = some ⟨b, o, none⟩ -> B <= b) /\ ∀ b o, p = some ⟨b, o, none⟩ -> B <= b
theorem MsgsN.at_ {B : Nat} {w : World} {p : Option Addr} {l : List Msg} (h : MsgsN B w p l) : MsgsAt w p l := by
 obtain ⟨ml, h1, h2, h3, _⟩ := h
 exact ⟨ml, h1, h2, fun x hx => (h3 x hx).1⟩
theorem MsgsN.nil (B : Nat) (w : World) : MsgsN B w none [] := ⟨[], rfl, Rec.nil _ _, (fun x hx => by cases hx), (fun b o e => by cases e)⟩
theorem MsgsN.mono {B B' : Nat} {w : World} {p : Option Addr} {l : List Msg} (h : MsgsN B w p l) (hb : B' <= B) : MsgsN B' w p l := by
 obtain ⟨ml, h1, h2, h3, h4⟩ := h
 exact ⟨ml, h1, h2, fun x hx => ⟨(h3 x hx).1, fun b o e => Nat.le_trans hb ((h3 x hx).2 b o e)⟩, fun b o e => Nat.le_trans hb (h4 b o e)⟩
theorem MsgsN.below {B : Nat} {w w' : World} {p : Option Addr} {l : List Msg} (h : MsgsN B w p l) (hb : Below w.heap.size w w') : MsgsN B w' p l := by
 obtain ⟨ml, h1, h2, h3, h4⟩ := h
 exact ⟨ml, h1, h2.below hb, fun x hx => ⟨(h3 x hx).1.below hb, (h3 x hx).2⟩, h4⟩
theorem MsgsN.upd {B : Nat} {w w' : World} {p : Option Addr} {l : List Msg} (h : MsgsN B w p l) (hs : w.heap.size <= w'.heap.size) (hk : ∀ k, B <= k -> k < w.heap.size -> w'.heap[k]? = w.heap[k]?) : MsgsAt w' p l := by
 obtain ⟨ml, h1, h2, h3, h4⟩ := h
 refine ⟨ml, h1, ?_, fun x hx => ?_⟩
 ·rcases h2 with h0 | ⟨b, o, hp, hlt, hc⟩
  ·exact Or.inl h0
  ·exact Or.inr ⟨b, o, hp, Nat.lt_of_lt_of_le hlt hs, fun j x hx jj u hu => (World.cell?_of_block (a := ⟨b, o + j * mE.k + jj, none⟩) (hk b (h4 b o hp) hlt)).trans (hc j x hx jj u hu)⟩
 ·obtain ⟨g1, g2⟩ := h3 x hx
  refine ⟨g1.len, ?_, g1.room, g1.empty⟩
  rcases g1.recs with h0 | ⟨b, o, hp, hlt, hc⟩
  ·exact Or.inl h0
  ·exact Or.inr ⟨b, o, hp, Nat.lt_of_lt_of_le hlt hs, fun j y hy jj u hu => (World.cell?_of_block (a := ⟨b, o + j * verE.k + jj, none⟩) (hk b (g2 b o hp) hlt)).trans (hc j y hy jj u hu)⟩
set_option maxRecDepth 10000 in
set_option maxHeartbeats 4000000 in
theorem backWires_any (B : Nat) (p : Option Addr) (l : List Msg) (cap : Nat) (w : World) (hl : l.length <= 1000) (hB0 : B <= w.heap.size) (h : MsgsN B w p l) :
 Calls Tryz.prog 14 #[.slice p l.length cap] w fun e w' => (∃ p' c', e = .returned (.slice p' l.length c') /\ MsgsN B w' p' l) /\ Below w.heap.size w w' := by
 obtain ⟨ml, hml, hr, hh, _⟩ := h
 have hlen : l.length = ml.length := by rw [<- hml, List.length_map]
 rw [hlen] at hl ⊢
 have HR : Hid (Rec mE w p ml) := hr
 have HH : Hid (∀ x ∈ ml, HasL w x /\ ∀ b o, x.2.1 = some ⟨b, o, none⟩ -> B <= b) := hh
 have HB0 : Hid (B <= w.heap.size) := hB0
 clear hB0
 have HML : Hid (ml.map Prod.fst = l) := hml
 have HBK : Hid (∀ (m : Msg) (h : Lv) W, Calls Tryz.prog 35 #[.agg #[.string m.from_, .string m.to_, .string m.kind, .string m.key, .int .i64 m.op, .int .i64 m.config, .bool m.shut, .slice h.1 h.2.1 h.2.2]] W fun e w' => e = .returned (.agg #[.string m.from_, .string m.to_, .string m.kind, .string m.key, .int .i64 m.op, .int .i64 m.config, .bool m.shut, .slice h.1 h.2.1 h.2.2]) /\ Below W.heap.size W w') := fun m h W => backWire_any m h.1 h.2.1 h.2.2 W
 clear hr hh hml hlen
 go_enter Tryz.func14, Tryz.ntmps14
 go_wp2
 go_loopw [3, 4] (fun v x wr => ∃ i : Nat, i <= ml.length /\ x = .int .i64 i /\ OwnR mE 59 wr w.heap.size v (ml.take i) /\ Below w.heap.size w wr) (fun _ x _ => ml.length - (intOf x).toNat)
 case atStart => exact ⟨0, Nat.zero_le _, rfl, OwnR.nil _ _ _, Below.refl _ _⟩
 case round =>
  obtain ⟨i, hi, rfl, hO, hB⟩ := hrel
  obtain ⟨w1, rfl⟩ : ∃ w1, w1 = wr := ⟨_, rfl⟩
  obtain ⟨pv, cv, rfl, hms, hcv, hpn, hpb⟩ := hO.form
  have HPB : Hid (∀ b o, pv = some ⟨b, o, none⟩ -> w.heap.size <= b /\ b < w1.heap.size) := hpb
  clear hpb
  have HO : Hid (OwnR mE 59 w1 w.heap.size (.slice pv (ml.take i).length cv) (ml.take i)) := hO
  have HB : Hid (Below w.heap.size w w1) := hB
  have HMS : Hid (Rec mE w1 pv (ml.take i)) := hms
  have htl : (ml.take i).length <= 1000 := by rw [List.length_take]; omega
  clear hO hms hpn
  by_cases hil : i < ml.length
  ·have HT : Hid (ml.take (i + 1) = ml.take i ++ [msgAt ml i]) := msg_take hil
   obtain ⟨b, o, hpp, hblt, d0, d1, d2, d3, d4, d5, d6, d7⟩ := msg_cells (HR.out.below hB) hil
   subst hpp
   rw [msgAt_get hil] at d0 d1 d2 d3 d4 d5 d6 d7
   have HBX := HBK.out (msgAt ml i).1 (msgAt ml i).2
   clear hB
   generalize msgAt ml i = x at *
   generalize ml.take i = done at *
   obtain ⟨⟨m1, m2, m3, m4, m5, m6, m7, mL⟩, lp, ln, lc⟩ := x
   dsimp only at d0 d1 d2 d3 d4 d5 d6 d7 HBX
   have HBY : Hid (∀ W, Calls Tryz.prog 35 #[.agg #[.string m1, .string m2, .string m3, .string m4, .int .i64 m5, .int .i64 m6, .bool m7, .slice lp ln lc]] W fun e w' => e = .returned (.agg #[.string m1, .string m2, .string m3, .string m4, .int .i64 m5, .int .i64 m6, .bool m7, .slice lp ln lc]) /\ Below W.heap.size W w') := HBX
   clear HBX
   go_wp2_with fail
   refine (HBY.out _).mono ?_
   rintro e w2 ⟨rfl, hb2⟩
   have HO2 : Hid (OwnR mE 59 w2 w.heap.size (.slice pv done.length cv) done) := HO.out.kept hb2
   have HB2 : Hid (Below w.heap.size w w2) := HB.out.trans (hb2.mono HB.out.size)
   have hz2 : w.heap.size <= w2.heap.size := HB2.out.size
   obtain ⟨w4, hw4⟩ : ∃ w4, w4 = (w2.alloc (.cells #[.string m1, .string m2, .string m3, .string m4, .int .i64 m5, .int .i64 m6, .bool m7, .slice lp ln lc] 59)).alloc (.cells #[.string m1, .string m2, .string m3, .string m4, .int .i64 m5, .int .i64 m6, .bool m7, .slice lp ln lc] 59) := ⟨_, rfl⟩
   have hb24 : Below w2.heap.size w2 w4 := by rw [hw4]; exact ((Below.refl _ _).alloc (Nat.le_refl _) _).alloc (by simp) _
   have HN4 : Hid (∀ j u, (mE.enc (⟨m1, m2, m3, m4, m5, m6, m7, mL⟩, lp, ln, lc))[j]? = some u -> w4.cell? ⟨w2.heap.size + 1, 0 + j, none⟩ = some u) := fun j u hj => by
    rw [hw4, World.cell?_alloc_at _ _ _ _ (by simp), Nat.zero_add]
    simpa [mE, msgC] using hj
   have HW4 : Hid (w4 = (w2.alloc (.cells #[.string m1, .string m2, .string m3, .string m4, .int .i64 m5, .int .i64 m6, .bool m7, .slice lp ln lc] 59)).alloc (.cells #[.string m1, .string m2, .string m3, .string m4, .int .i64 m5, .int .i64 m6, .bool m7, .slice lp ln lc] 59)) := hw4
   have HO4 : Hid (OwnR mE 59 w4 w.heap.size (.slice pv done.length cv) done) := HO2.out.kept hb24
   have HB4 : Hid (Below w.heap.size w w4) := HB2.out.trans (hb24.mono HB2.out.size)
   have HS4 : Hid (w.heap.size <= w4.heap.size /\ w2.heap.size + 1 < w4.heap.size) := by
    have e : w4.heap.size = w2.heap.size + 1 + 1 := by rw [hw4]; simp
    exact ⟨by omega, by omega⟩
   clear hb2 HO HB HBY d0 d1 d2 d3 d4 d5 d6 d7 hw4 hb24 HO2 HB2 HMS
   go_wp2_with (first | rw [<- HW4.out] | (at_builtin; refine wpList_append_rec (E := mE) rfl (.tmp 17) (.tmp 19) 27 59 rfl (.agg #[.string ⟨#[]⟩, .string ⟨#[]⟩, .string ⟨#[]⟩, .string ⟨#[]⟩, .int .i64 0, .int .i64 0, .bool false, .slice none 0 0]) 112 Tryz.underlying27 minfoR rfl w.heap.size (.slice pv done.length cv) done rfl HO4.out (w2.heap.size + 1) 0 1 (⟨m1, m2, m3, m4, m5, m6, m7, mL⟩, lp, ln, lc) rfl HN4.out (by unfold maxLen; omega) (by omega) HS4.out.1 HS4.out.2 ?_; intro v5 w5 hO5 hb5))
   have HO5 : Hid (OwnR mE 59 w5 w.heap.size v5 (done ++ [(⟨m1, m2, m3, m4, m5, m6, m7, mL⟩, lp, ln, lc)])) := hO5
   have HB5 : Hid (Below w.heap.size w w5) := HB4.out.trans hb5
   clear hO5 hb5 HO4 HB4
   go_wp2
   go_roundw
   case rel => exact ⟨i + 1, by omega, by go_num, by rw [HT.out]; exact HO5.out, HB5.out⟩
   case measure => simp [intOf]; omega
  ·have hie : i = ml.length := by omega
   have HE : Hid (ml.take i = ml) := by show _ = _; rw [hie, List.take_length]
   rw [HE.out] at HMS
   rw [HE.out]
   clear hie htl
   go_wp2
   go_ret
   exact ⟨⟨pv, cv, rfl, ml, HML.out, HMS.out, fun x hx => ⟨(HH.out x hx).1.below HB.out, (HH.out x hx).2⟩, fun b o e => Nat.le_trans HB0.out (HPB.out b o e).1⟩, HB.out⟩
set_option maxRecDepth 10000 in
set_option maxHeartbeats 4000000 in
theorem sameMsgs_yes (pa pb : Option Addr) (l : List Msg) (ca cb : Nat) (w : World) (hl : l.length <= 1000) (hv : ∀ m ∈ l, m.L.length <= 1000000) (ha : MsgsAt w pa l) (hb : MsgsAt w pb l) :
 Calls Tryz.prog 13 #[.slice pa l.length ca, .slice pb l.length cb] w fun e w' => e = .returned (.bool true) /\ Below w.heap.size w w' := by
 obtain ⟨al, hal, har, hah⟩ := ha
 obtain ⟨bl, hbl, hbr, hbh⟩ := hb
 have hla : al.length = l.length := by rw [<- hal, List.length_map]
 have hlb : bl.length = l.length := by rw [<- hbl, List.length_map]
 have HAR : Hid (Rec mE w pa al) := har
 have HBR : Hid (Rec mE w pb bl) := hbr
 have HAH : Hid (∀ x ∈ al, HasL w x) := hah
 have HBH : Hid (∀ x ∈ bl, HasL w x) := hbh
 have HLA : Hid (al.length = l.length) := hla
 have HLB : Hid (bl.length = l.length) := hlb
 have HEQ : Hid (∀ i, i < l.length -> (msgAt al i).1 = (msgAt bl i).1 /\ (msgAt al i).1.L.length <= 1000000) := fun i hi => by
  have e1 : (msgAt al i).1 = l[i] := by rw [<- msgAt_get (by omega)]; simp only [<- hal, List.getElem_map]
  have e2 : (msgAt bl i).1 = l[i] := by rw [<- msgAt_get (by omega)]; simp only [<- hbl, List.getElem_map]
  exact ⟨e1.trans e2.symm, by rw [e1]; exact hv _ (List.getElem_mem hi)⟩
 have HSM : Hid (∀ (m : Msg) (p1 p2 : Option Addr) (c1 c2 : Nat) W, m.L.length <= 1000000 -> Rec verE W p1 m.L -> Rec verE W p2 m.L -> Calls Tryz.prog 34 #[.agg #[.string m.from_, .string m.to_, .string m.kind, .string m.key, .int .i64 m.op, .int .i64 m.config, .bool m.shut, .slice p1 m.L.length c1], .agg #[.string m.from_, .string m.to_, .string m.kind, .string m.key, .int .i64 m.op, .int .i64 m.config, .bool m.shut, .slice p2 m.L.length c2]] W fun e w' => e = .returned (.bool true) /\ Below W.heap.size W w') := fun m p1 p2 c1 c2 W h1 h2 h3 => sameMsg_yes m p1 p2 c1 c2 W h1 h2 h3
 clear har hah hbr hbh hla hlb hal hbl hv
 go_enter Tryz.func13, Tryz.ntmps13
 go_wp2
 go_loopw [5] (fun x wr => ∃ i : Nat, i <= l.length /\ x = .int .i64 i /\ Below w.heap.size w wr) (fun x _ => l.length - (intOf x).toNat)
 case atStart => exact ⟨0, Nat.zero_le _, rfl, Below.refl _ _⟩
 case round =>
  obtain ⟨i, hi, rfl, hB⟩ := hrel
  obtain ⟨w1, rfl⟩ : ∃ w1, w1 = wr := ⟨_, rfl⟩
  have HB : Hid (Below w.heap.size w w1) := hB
  by_cases hil : i < l.length
  ·have hia : i < al.length := by rw [HLA.out]; exact hil
   have hib : i < bl.length := by rw [HLB.out]; exact hil
   obtain ⟨b1, o1, hp1, hlt1, a0, a1, a2, a3, a4, a5, a6, a7⟩ := msg_cells (HAR.out.below hB) hia
   obtain ⟨b2, o2, hp2, hlt2, c0, c1, c2, c3, c4, c5, c6, c7⟩ := msg_cells (HBR.out.below hB) hib
   rw [msgAt_get hia] at a0 a1 a2 a3 a4 a5 a6 a7
   rw [msgAt_get hib] at c0 c1 c2 c3 c4 c5 c6 c7
   obtain ⟨he, hle⟩ := HEQ.out i hil
   have hA := (HAH.out _ (msgAt_mem hia)).below hB
   have hC := (HBH.out _ (msgAt_mem hib)).below hB
   rw [<- he] at c0 c1 c2 c3 c4 c5 c6
   have l1 := hA.len
   have l2 := hC.len
   have r1 := hA.recs
   have r2 := hC.recs
   rw [<- he] at l2 r2
   rw [l1] at a7
   rw [l2] at c7
   have HX : Hid (∀ W, Below w1.heap.size w1 W -> Calls Tryz.prog 34 #[.agg #[.string (msgAt al i).1.from_, .string (msgAt al i).1.to_, .string (msgAt al i).1.kind, .string (msgAt al i).1.key, .int .i64 (msgAt al i).1.op, .int .i64 (msgAt al i).1.config, .bool (msgAt al i).1.shut, .slice (msgAt al i).2.1 (msgAt al i).1.L.length (msgAt al i).2.2.2], .agg #[.string (msgAt al i).1.from_, .string (msgAt al i).1.to_, .string (msgAt al i).1.kind, .string (msgAt al i).1.key, .int .i64 (msgAt al i).1.op, .int .i64 (msgAt al i).1.config, .bool (msgAt al i).1.shut, .slice (msgAt bl i).2.1 (msgAt al i).1.L.length (msgAt bl i).2.2.2]] W fun e w' => e = .returned (.bool true) /\ Below W.heap.size W w') := fun W hW => HSM.out (msgAt al i).1 _ _ _ _ W hle (r1.below hW) (r2.below hW)
   subst hp1 hp2
   clear hA hC l1 l2 r1 r2 he hle hB
   generalize (msgAt al i).1 = m at *
   generalize (msgAt al i).2 = ha at *
   generalize (msgAt bl i).2 = hb at *
   obtain ⟨m1, m2, m3, m4, m5, m6, m7, mL⟩ := m
   obtain ⟨p1, n1, k1⟩ := ha
   obtain ⟨p2, n2, k2⟩ := hb
   dsimp only at *
   go_wp2
   refine wp_region_still_tail 8 (by kernel_rfl) (by kernel_rfl) ?_
   simp only [List.take_succ_cons, List.take_zero, List.drop_succ_cons, List.drop_zero]
   still_step
   still_step
   still_step
   still_step
   still_step
   still_step
   still_step
   still_step
   refine wpStill_nil ?_
   go_wp2_with (go_at_call 34; refine (HX.out _ (Below.refl _ _).drew).mono ?_; rintro e w2 ⟨rfl, hb2⟩; have HB2 : Hid (Below w.heap.size w w2) := HB.out.trans (((Below.refl _ _).drew.trans hb2).mono HB.out.size); clear hb2)
   go_roundw
   case rel => exact ⟨i + 1, by omega, by go_num, HB2.out⟩
   case measure => simp [intOf]; omega
  ·go_wp2
   go_ret
   exact ⟨rfl, HB.out⟩
theorem OwnR.same' {T : TypeId} {w w' : World} {B : Nat} {v : Value} {l : List Ver} (h : OwnR verE T w B v l) (hb : ∀ k, v.ownBlock = some k -> w'.heap[k]? = w.heap[k]?) : OwnR verE T w' B v l := by
 obtain ⟨h1, h2⟩ := h
 refine ⟨h1, ?_⟩
 rcases h2 with h2 | ⟨g, cap, cur, hv, hbg, hg, hrest⟩
 ·exact Or.inl h2
 ·refine Or.inr ⟨g, cap, cur, hv, hbg, ?_, hrest⟩
  rw [hb g (by rw [hv]; rfl)]
  exact hg
theorem OwnR.setC {T : TypeId} {w : World} {B : Nat} {v : Value} {l : List Ver} (h : OwnR verE T w B v l) {b : Nat} (hb : b < B) (i : Nat) (x : Value) : OwnR verE T (w.setCell ⟨b, i, none⟩ x) B v l := h.same' (fun k hk => Deep.blk_setCell_other _ _ _ _ (by have := (h.block hk).1; show k ≠ b; omega))
set_option maxRecDepth 10000 in
theorem rbyte_any (n : Nat) (w : World) :
 Calls Tryz.prog 63 #[.int .i64 (n : Int)] w fun e w' => e = .returned (.string (strOf [n % 256])) /\ Below w.heap.size w w' := by
 have hcv : Sem.run Tryz.prog (convert 133 9 (.slice (some ⟨w.heap.size, 0, none⟩) 1 1)) (w.alloc (.cells #[.int .u8 ((n : Int) % 256)] 5)) = .ok (.string (strOf [n % 256])) (w.alloc (.cells #[.int .u8 ((n : Int) % 256)] 5)) := by
  have hsg : Seg (w.alloc (.cells #[.int .u8 ((n : Int) % 256)] 5)) (some ⟨w.heap.size, 0, none⟩) [n % 256] := ⟨fun i => by
   match i with
   | 0 => show n % 256 < 256; omega
   | i + 1 => show (([n % 256] : List Nat).getD (i + 1) 0) < 256; simp, Or.inr ⟨w.heap.size, 0, rfl, by simp, fun i hi => by
   obtain rfl : i = 0 := by simpa using hi
   rw [World.cell?_alloc_at _ _ _ _ rfl]
   show some (Value.int .u8 ((n : Int) % 256)) = some (.int .u8 ((n % 256 : Nat) : Int))
   rw [Int.natCast_emod]
   rfl⟩⟩
  exact conv_seg hsg 1
 go_enter Tryz.func63, Tryz.ntmps63
 go_wp2
 go_ret
 exact ⟨rfl, (Below.refl _ _).alloc (Nat.le_refl _) _⟩
set_option maxRecDepth 10000 in
set_option maxHeartbeats 4000000 in
theorem wireOf_any (m : Msg) (p : Option Addr) (c : Nat) (w : World) (hl : m.L.length <= 1000000) (hr : Rec verE w p m.L) (hc : p = none -> m.L = [] /\ c = 0) :
 Calls Tryz.prog 18 #[msgA m (.slice p m.L.length c)] w fun e w' => (∃ lv, e = .returned (msgA m lv) /\ OwnR verE 69 w' w.heap.size lv m.L) /\ Below w.heap.size w w' := by
 obtain ⟨m1, m2, m3, m4, m5, m6, m7, mL⟩ := m
 unfold msgA
 simp only [] at *
 have hb1 : Below w.heap.size w (((w.alloc (.cells #[.string m1, .string m2, .string m3, .string m4, .int .i64 m5, .int .i64 m6, .bool m7, .slice p mL.length c] 59)).alloc (.cells #[.string ⟨#[]⟩, .string ⟨#[]⟩, .string ⟨#[]⟩, .string ⟨#[]⟩, .int .i64 0, .int .i64 0, .bool false, .slice none 0 0] 57)).alloc (.cells #[.string m1, .string m2, .string m3, .string m4, .int .i64 m5, .int .i64 m6, .bool m7, .slice none 0 0] 57)) := (((Below.refl _ _).alloc (Nat.le_refl _) _).alloc (by simp) _).alloc (by simp; omega) _
 have he1 : (((w.alloc (.cells #[.string m1, .string m2, .string m3, .string m4, .int .i64 m5, .int .i64 m6, .bool m7, .slice p mL.length c] 59)).alloc (.cells #[.string ⟨#[]⟩, .string ⟨#[]⟩, .string ⟨#[]⟩, .string ⟨#[]⟩, .int .i64 0, .int .i64 0, .bool false, .slice none 0 0] 57)).alloc (.cells #[.string m1, .string m2, .string m3, .string m4, .int .i64 m5, .int .i64 m6, .bool m7, .slice none 0 0] 57)).heap[w.heap.size + 1]? = some (.cells #[.string ⟨#[]⟩, .string ⟨#[]⟩, .string ⟨#[]⟩, .string ⟨#[]⟩, .int .i64 0, .int .i64 0, .bool false, .slice none 0 0] 57 (0, 0)) := by
  have e : w.heap.size + 1 = (w.alloc (.cells #[.string m1, .string m2, .string m3, .string m4, .int .i64 m5, .int .i64 m6, .bool m7, .slice p mL.length c] 59)).heap.size := by simp
  rw [heap_alloc_old _ _ (by simp), e]
  exact heap_alloc_new _ _
 have he2 : (((w.alloc (.cells #[.string m1, .string m2, .string m3, .string m4, .int .i64 m5, .int .i64 m6, .bool m7, .slice p mL.length c] 59)).alloc (.cells #[.string ⟨#[]⟩, .string ⟨#[]⟩, .string ⟨#[]⟩, .string ⟨#[]⟩, .int .i64 0, .int .i64 0, .bool false, .slice none 0 0] 57)).alloc (.cells #[.string m1, .string m2, .string m3, .string m4, .int .i64 m5, .int .i64 m6, .bool m7, .slice none 0 0] 57)).heap[w.heap.size + 2]? = some (.cells #[.string m1, .string m2, .string m3, .string m4, .int .i64 m5, .int .i64 m6, .bool m7, .slice none 0 0] 57 (0, 0)) := by
  have e : w.heap.size + 2 = ((w.alloc (.cells #[.string m1, .string m2, .string m3, .string m4, .int .i64 m5, .int .i64 m6, .bool m7, .slice p mL.length c] 59)).alloc (.cells #[.string ⟨#[]⟩, .string ⟨#[]⟩, .string ⟨#[]⟩, .string ⟨#[]⟩, .int .i64 0, .int .i64 0, .bool false, .slice none 0 0] 57)).heap.size := by simp
  rw [e]
  exact heap_alloc_new _ _
 have HBK : Hid ((((w.alloc (.cells #[.string m1, .string m2, .string m3, .string m4, .int .i64 m5, .int .i64 m6, .bool m7, .slice p mL.length c] 59)).alloc (.cells #[.string ⟨#[]⟩, .string ⟨#[]⟩, .string ⟨#[]⟩, .string ⟨#[]⟩, .int .i64 0, .int .i64 0, .bool false, .slice none 0 0] 57)).alloc (.cells #[.string m1, .string m2, .string m3, .string m4, .int .i64 m5, .int .i64 m6, .bool m7, .slice none 0 0] 57)).heap[w.heap.size + 1]? = some (.cells #[.string ⟨#[]⟩, .string ⟨#[]⟩, .string ⟨#[]⟩, .string ⟨#[]⟩, .int .i64 0, .int .i64 0, .bool false, .slice none 0 0] 57 (0, 0)) /\ (((w.alloc (.cells #[.string m1, .string m2, .string m3, .string m4, .int .i64 m5, .int .i64 m6, .bool m7, .slice p mL.length c] 59)).alloc (.cells #[.string ⟨#[]⟩, .string ⟨#[]⟩, .string ⟨#[]⟩, .string ⟨#[]⟩, .int .i64 0, .int .i64 0, .bool false, .slice none 0 0] 57)).alloc (.cells #[.string m1, .string m2, .string m3, .string m4, .int .i64 m5, .int .i64 m6, .bool m7, .slice none 0 0] 57)).heap[w.heap.size + 2]? = some (.cells #[.string m1, .string m2, .string m3, .string m4, .int .i64 m5, .int .i64 m6, .bool m7, .slice none 0 0] 57 (0, 0)) /\ Below w.heap.size w (((w.alloc (.cells #[.string m1, .string m2, .string m3, .string m4, .int .i64 m5, .int .i64 m6, .bool m7, .slice p mL.length c] 59)).alloc (.cells #[.string ⟨#[]⟩, .string ⟨#[]⟩, .string ⟨#[]⟩, .string ⟨#[]⟩, .int .i64 0, .int .i64 0, .bool false, .slice none 0 0] 57)).alloc (.cells #[.string m1, .string m2, .string m3, .string m4, .int .i64 m5, .int .i64 m6, .bool m7, .slice none 0 0] 57))) := ⟨he1, he2, hb1⟩
 have HR : Hid (Rec verE (((w.alloc (.cells #[.string m1, .string m2, .string m3, .string m4, .int .i64 m5, .int .i64 m6, .bool m7, .slice p mL.length c] 59)).alloc (.cells #[.string ⟨#[]⟩, .string ⟨#[]⟩, .string ⟨#[]⟩, .string ⟨#[]⟩, .int .i64 0, .int .i64 0, .bool false, .slice none 0 0] 57)).alloc (.cells #[.string m1, .string m2, .string m3, .string m4, .int .i64 m5, .int .i64 m6, .bool m7, .slice none 0 0] 57)) p mL) := hr.below hb1
 have hsz : w.heap.size + 3 <= (((w.alloc (.cells #[.string m1, .string m2, .string m3, .string m4, .int .i64 m5, .int .i64 m6, .bool m7, .slice p mL.length c] 59)).alloc (.cells #[.string ⟨#[]⟩, .string ⟨#[]⟩, .string ⟨#[]⟩, .string ⟨#[]⟩, .int .i64 0, .int .i64 0, .bool false, .slice none 0 0] 57)).alloc (.cells #[.string m1, .string m2, .string m3, .string m4, .int .i64 m5, .int .i64 m6, .bool m7, .slice none 0 0] 57)).heap.size := by simp
 have HC : Hid (p = none -> mL = [] /\ c = 0) := hc
 clear hb1 he1 he2 hr hc
 go_enter Tryz.func18, Tryz.ntmps18
 go_wp2_with (first | (at_builtin; refine wpList_append_recs (E := verE) rfl (.tmp 20) (.tmp 22) 55 69 rfl (.agg #[.int .i64 0, .int .i64 0, .int .i64 0, .int .i64 0, .string ⟨#[]⟩]) 48 Tryz.underlying55 verinfo rfl (w.heap.size + 3) (.slice none 0 0) [] rfl (OwnR.nil _ _ _) p mL c rfl HR.out HC.out (by unfold maxLen; simp; omega) (by simp; omega) hsz ?_; intro v3 w3 hO3 hb3; obtain ⟨p3, c3, hv3, _⟩ := hO3.form; rw [List.nil_append] at hv3 hO3; subst hv3; have e1 := (hb3.block (w.heap.size + 1) (by omega)).trans HBK.out.1; have e2 := (hb3.block (w.heap.size + 2) (by omega)).trans HBK.out.2.1; have HB3 : Hid (Below w.heap.size w w3) := (HBK.out.2.2.trans (hb3.mono (by omega))); have HO3 : Hid (OwnR verE 69 w3 (w.heap.size + 3) (.slice p3 mL.length c3) mL) := hO3; have z0 : w3.cell? ⟨w.heap.size + 1, 0, none⟩ = some (.string ⟨#[]⟩) := (by simp [World.cell?, e1]); have z1 : w3.cell? ⟨w.heap.size + 1, 1, none⟩ = some (.string ⟨#[]⟩) := (by simp [World.cell?, e1]); have z2 : w3.cell? ⟨w.heap.size + 1, 2, none⟩ = some (.string ⟨#[]⟩) := (by simp [World.cell?, e1]); have z3 : w3.cell? ⟨w.heap.size + 1, 3, none⟩ = some (.string ⟨#[]⟩) := (by simp [World.cell?, e1]); have z4 : w3.cell? ⟨w.heap.size + 1, 4, none⟩ = some (.int .i64 0) := (by simp [World.cell?, e1]); have z5 : w3.cell? ⟨w.heap.size + 1, 5, none⟩ = some (.int .i64 0) := (by simp [World.cell?, e1]); have z6 : w3.cell? ⟨w.heap.size + 1, 6, none⟩ = some (.bool false) := (by simp [World.cell?, e1]); have z7 : w3.cell? ⟨w.heap.size + 1, 7, none⟩ = some (.slice none 0 0) := (by simp [World.cell?, e1]); have y0 : w3.cell? ⟨w.heap.size + 2, 0, none⟩ = some (.string m1) := (by simp [World.cell?, e2]); have y1 : w3.cell? ⟨w.heap.size + 2, 1, none⟩ = some (.string m2) := (by simp [World.cell?, e2]); have y2 : w3.cell? ⟨w.heap.size + 2, 2, none⟩ = some (.string m3) := (by simp [World.cell?, e2]); have y3 : w3.cell? ⟨w.heap.size + 2, 3, none⟩ = some (.string m4) := (by simp [World.cell?, e2]); have y4 : w3.cell? ⟨w.heap.size + 2, 4, none⟩ = some (.int .i64 m5) := (by simp [World.cell?, e2]); have y5 : w3.cell? ⟨w.heap.size + 2, 5, none⟩ = some (.int .i64 m6) := (by simp [World.cell?, e2]); have y6 : w3.cell? ⟨w.heap.size + 2, 6, none⟩ = some (.bool m7) := (by simp [World.cell?, e2]); have y7 : w3.cell? ⟨w.heap.size + 2, 7, none⟩ = some (.slice none 0 0) := (by simp [World.cell?, e2]); have g1 : ∀ o, w3.frozen? ⟨w.heap.size + 1, o, none⟩ = false := (fun o => by simp [World.frozen?, e1]); have g2 : ∀ o, w3.frozen? ⟨w.heap.size + 2, o, none⟩ = false := (fun o => by simp [World.frozen?, e2]); clear e1 e2 hO3 hb3))
 refine bodyPost_ret (v := .agg #[.string m1, .string m2, .string m3, .string m4, .int .i64 m5, .int .i64 m6, .bool m7, .slice p3 mL.length c3]) (by simp [results, Tryz.results18, go_sem, z0, z1, z2, z3, z4, z5, z6, z7]) rfl ⟨⟨_, rfl, ?_⟩, ?_⟩
 ·exact OwnR.base (((((((((HO3.out.setC (b := w.heap.size + 2) (by omega) 7 _).setC (b := w.heap.size + 1) (by omega) 0 _).setC (b := w.heap.size + 1) (by omega) 1 _).setC (b := w.heap.size + 1) (by omega) 2 _).setC (b := w.heap.size + 1) (by omega) 3 _).setC (b := w.heap.size + 1) (by omega) 4 _).setC (b := w.heap.size + 1) (by omega) 5 _).setC (b := w.heap.size + 1) (by omega) 6 _).setC (b := w.heap.size + 1) (by omega) 7 _) (by omega)
 ·exact (((((((((HB3.out.setCell (p := ⟨w.heap.size + 2, 7, none⟩) (by show w.heap.size <= w.heap.size + 2; omega) _).setCell (p := ⟨w.heap.size + 1, 0, none⟩) (by show w.heap.size <= w.heap.size + 1; omega) _).setCell (p := ⟨w.heap.size + 1, 1, none⟩) (by show w.heap.size <= w.heap.size + 1; omega) _).setCell (p := ⟨w.heap.size + 1, 2, none⟩) (by show w.heap.size <= w.heap.size + 1; omega) _).setCell (p := ⟨w.heap.size + 1, 3, none⟩) (by show w.heap.size <= w.heap.size + 1; omega) _).setCell (p := ⟨w.heap.size + 1, 4, none⟩) (by show w.heap.size <= w.heap.size + 1; omega) _).setCell (p := ⟨w.heap.size + 1, 5, none⟩) (by show w.heap.size <= w.heap.size + 1; omega) _).setCell (p := ⟨w.heap.size + 1, 6, none⟩) (by show w.heap.size <= w.heap.size + 1; omega) _).setCell (p := ⟨w.heap.size + 1, 7, none⟩) (by show w.heap.size <= w.heap.size + 1; omega) _)
set_option maxRecDepth 10000 in
theorem below_digit (k : Nat) (hk : k < 10) (w : World) : Calls Tryz.prog 33 #[.int .i64 (-(k : Int))] w fun e w' => e = .returned (.string (strOf [48 + k])) /\ Below w.heap.size w w' := by
 have HB : Hid (∀ W, Calls Tryz.prog 63 #[.int .i64 (48 + (k : Int))] W fun e w' => e = .returned (.string (strOf [48 + k])) /\ Below W.heap.size W w') := fun W => by
  have h := rbyte_any (48 + k) W
  rw [Nat.mod_eq_of_lt (by omega)] at h
  exact h
 go_enter Tryz.func33, Tryz.ntmps33
 go_wp2_with fail
 refine (HB.out _).mono ?_
 rintro e w1 ⟨rfl, hb1⟩
 clear HB
 go_wp2
 go_ret
 exact ⟨rfl, hb1⟩
set_option maxRecDepth 10000 in
theorem decimal_digit (k : Nat) (hk : k < 10) (w : World) : Calls Tryz.prog 12 #[.int .i64 (k : Int)] w fun e w' => e = .returned (.string (strOf [48 + k])) /\ Below w.heap.size w w' := by
 have HB := below_digit k hk w
 go_enter Tryz.func12, Tryz.ntmps12
 go_wp2_with fail
 refine HB.mono ?_
 rintro e w1 ⟨rfl, hb1⟩
 clear HB
 go_wp2
 go_ret
 exact ⟨rfl, hb1⟩
def MsOwn (T : TypeId) (B : Nat) (w : World) (v : Value) (ml : List (Msg × Lv)) : Prop := OwnR mE T w B v ml /\ ∀ x ∈ ml, HasL w x /\ ∀ b o, x.2.1 = some ⟨b, o, none⟩ -> (B <= b /\ b < w.heap.size) /\ v.ownBlock ≠ some b
theorem hasL_kept {w w' : World} {x : Msg × Lv} {row : Option Nat} (h : HasL w x) (hg : w.grownBy w' row) (hne : ∀ b o, x.2.1 = some ⟨b, o, none⟩ -> some b ≠ row) : HasL w' x := ⟨h.len, rec_kept h.recs hg hne, h.room, h.empty⟩
theorem MsOwn.snoc {T : TypeId} {B : Nat} {w1 w5 w6 : World} {v v6 : Value} {ml : List (Msg × Lv)} {x : Msg × Lv} (h : MsOwn T B w1 v ml) (hB : B <= w1.heap.size) (hb : Below w1.heap.size w1 w5) (hx : HasL w5 x) (hxb : ∀ b o, x.2.1 = some ⟨b, o, none⟩ -> w1.heap.size <= b /\ b < w5.heap.size)
 (hO : OwnR mE T w6 B v6 (ml ++ [x])) (hg : w5.grownBy w6 v.ownBlock) (hl : v6.ownBlock = v.ownBlock ∨ v6.ownBlock = some w5.heap.size) : MsOwn T B w6 v6 (ml ++ [x]) := by
 have hz := hb.size
 have hz6 := hg.size
 refine ⟨hO, fun y hy => ?_⟩
 rcases List.mem_append.1 hy with hy | hy
 ·obtain ⟨h1, h2⟩ := h.2 y hy
  refine ⟨hasL_kept (h1.below hb) hg (fun b o hq e => (h2 b o hq).2 e.symm), fun b o hq => ⟨⟨(h2 b o hq).1.1, by have := (h2 b o hq).1.2; omega⟩, ?_⟩⟩
  have := (h2 b o hq).1.2
  rcases hl with e | e
  ·rw [e]; exact (h2 b o hq).2
  ·rw [e]; intro e'; have := Option.some.inj e'; omega
 ·rw [List.mem_singleton.1 hy]
  refine ⟨hasL_kept hx hg (fun b o hq e => ?_), fun b o hq => ⟨⟨by have := (hxb b o hq).1; omega, by have := (hxb b o hq).2; omega⟩, ?_⟩⟩
  ·have h1 := hxb b o hq
   have h2 := (h.1.block e.symm).2
   omega
  ·have h1 := hxb b o hq
   rcases hl with e | e
   ·rw [e]
    intro e'
    have := (h.1.block e').2
    omega
   ·rw [e]; intro e'; have := Option.some.inj e'; omega
theorem MsOwn.nil (T : TypeId) (B : Nat) (w : World) : MsOwn T B w (.slice none 0 0) [] := ⟨OwnR.nil _ _ _, fun x hx => by cases hx⟩
theorem MsOwn.kept {T : TypeId} {B : Nat} {w w' : World} {v : Value} {ml : List (Msg × Lv)} (h : MsOwn T B w v ml) (hb : Below w.heap.size w w') : MsOwn T B w' v ml := ⟨h.1.kept hb, fun x hx => ⟨(h.2 x hx).1.below hb, fun b o hq => ⟨⟨((h.2 x hx).2 b o hq).1.1, Nat.lt_of_lt_of_le ((h.2 x hx).2 b o hq).1.2 hb.size⟩, ((h.2 x hx).2 b o hq).2⟩⟩⟩
theorem MsOwn.at_ {T : TypeId} {B : Nat} {w : World} {v : Value} {ml : List (Msg × Lv)} (h : MsOwn T B w v ml) : ∃ p c, v = .slice p ml.length c /\ MsgsN B w p (ml.map Prod.fst) := by
 obtain ⟨p, c, h1, h2, _, _, h5⟩ := h.1.form
 exact ⟨p, c, h1, ml, rfl, h2, fun x hx => ⟨(h.2 x hx).1, fun b o e => ((h.2 x hx).2 b o e).1.1⟩, fun b o e => (h5 b o e).1⟩
theorem encL_at {n k : Nat} {s : ByteArray} {i : Nat} (h : i < n) : shAt (encL n k s) i = ((i : Int), encT k s i) := by
 unfold shAt encL
 rw [List.getD_eq_getElem?_getD, List.getElem?_map, List.getElem?_range h]
 rfl
theorem minfoA : (Tryz.prog.info? 59).map (fun i => (i.zero, i.size, i.bytes)) = some (some (.agg #[.string ⟨#[]⟩, .string ⟨#[]⟩, .string ⟨#[]⟩, .string ⟨#[]⟩, .int .i64 0, .int .i64 0, .bool false, .slice none 0 0]), 8, 112) := by kernel_rfl
end Go.Proofs.YtobmckfcipeanaaGreatDoor
