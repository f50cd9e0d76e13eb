/- The walk of the law ServeSeals, over what package serve is asked. -/
import Derived.Test.YtcoecfpkihakoaaDoorGa4
import Derived.Test.YtcoecfpkihakoaaDoorGa3
import Derived.Test.YtcoecfpkihakoaaDoorGa5
import Derived.Deep.RegionHeld3
import Derived.Deep.CutRange
import Derived.BigQuiet
namespace Go.Proofs.YtcoecfpkihakoaaDoor
open Go.RowKit
variable {ad : Nat → Addr} {X : World → Prop} {Hd : World → Nat → (Nat → Prop) → List Kep → Bool → Prop} {Sv : World → Nat → Nat → (Nat → Prop) → MMem → Prop}
theorem cfIn_one : CfIn 1 := ⟨by decide, by decide⟩
/-- Answers that lie apart from what a member has of its own. -/
def AnsAt (S : Nat → Prop) (w : World) (p : Option Addr) (l : List Msg) : Prop := MsgsO (fun b => b < w.heap.size ∧ ¬ S b) w p l
theorem AnsAt.upd {S S' : Nat → Prop} {w w' : World} {p : Option Addr} {l : List Msg} (h : AnsAt S w p l) (hu : Upd S S' w w') : AnsAt S' w' p l :=
  (MsgsO.keep h hu.size (fun k hk hO => hu.block k hk hO.2)).mono fun b hb => ⟨Nat.lt_of_lt_of_le hb.1 hu.size, fun hs => (hu.new b hs).elim hb.2 (by have := hb.1; omega)⟩
theorem AnsAt.below {S : Nat → Prop} {w w' : World} {p : Option Addr} {l : List Msg} (h : AnsAt S w p l) (hb : Below w.heap.size w w') : AnsAt S w' p l := h.upd (Upd.of_below hb)
theorem AnsAt.one {S : Nat → Prop} {w : World} {p : Option Addr} {x : Msg} (h : AnsAt S w p [x]) : ∃ b o q d, p = some ⟨b, o, none⟩ ∧ b < w.heap.size ∧ w.cell? ⟨b, o + 2, none⟩ = some (.string x.kind) ∧ w.cell? ⟨b, o + 6, none⟩ = some (.bool x.shut) ∧ w.cell? ⟨b, o + 7, none⟩ = some (.slice q x.L.length d) ∧ Rec verE w q x.L := by
  obtain ⟨ml, hml, hr, hh, _⟩ := h
  obtain ⟨y, rfl⟩ : ∃ y, ml = [y] := List.length_eq_one_iff.1 (by have := congrArg List.length hml; simpa using this)
  have hx : y.1 = x := by simpa using hml
  obtain ⟨b, o, hpp, hblt, d0, d1, d2, d3, d4, d5, d6, d7⟩ := msg_cells hr (i := 0) (by simp)
  simp only [List.getElem_cons_zero, hx, Nat.zero_mul, Nat.add_zero] at d2 d6 d7
  obtain ⟨g1, _⟩ := hh y (List.mem_singleton.2 rfl)
  rw [g1.len, hx] at d7
  have := g1.recs
  rw [hx] at this
  exact ⟨b, o, y.2.1, y.2.2.2, hpp, hblt, d2, d6, d7, this⟩
/-- What is made of one: a member's, since w1. -/
theorem sv_hear1 {w1 W : World} {B h : Nat} {S : Nat → Prop} {m : MMem} (hO : ServeOk0 ad X Hd Sv) (hX : ∀ V : World, w1.heap.size ≤ V.heap.size → (∀ k, k < w1.heap.size → V.heap[k]? = w1.heap[k]?) → X V) (hwB : w1.heap.size ≤ B) (hb : Below w1.heap.size w1 W) (hS : Sv W B h S m) (hF : m.Fine) (x : Msg × Lv) (hL : HasL W x) (hnS : ∀ b o, x.2.1 = some ⟨b, o, none⟩ → ¬ S b) (hk : MsgR x.1) (hci : CfIn x.1.config) :
    Calls Tryd.prog 8 #[.pointer (some ⟨h, 0, none⟩), msgA x.1 (lvV x.2)] W fun e w' => ∃ p c S', e = .returned (.slice p (m.hear x.1).2.length c) ∧ AnsAt S' w' p (m.hear x.1).2 ∧ Sv w' B h S' (m.hear x.1).1 ∧ Upd S S' W w' ∧ Below w1.heap.size w1 w' := by
  have hSB : ∀ k, S k → w1.heap.size ≤ k := fun k hk => by have := (hO.inS hS k hk).1; omega
  refine (hO.hear x hS hF hL hnS hk hci (fun V hs hk => hX V (Nat.le_trans hb.size hs) (fun k hk0 => (hk k (Nat.lt_of_lt_of_le hk0 hb.size) (fun hS => by have := hSB k hS; omega)).trans (hb.block k hk0)))).mono fun e w' hq => ?_
  obtain ⟨p, c, S', e1, e2, e3, e4⟩ := hq
  exact ⟨p, c, S', e1, e2.mono (fun b hb => hb.2), e3, e4, hb.trans ⟨e4.os, e4.tape, e4.output, e4.size, fun k hk => e4.block k (Nat.lt_of_lt_of_le hk hb.size) (fun hS => by have := hSB k hS; omega)⟩⟩
/-- One answer, and what the member is then. -/
theorem sv_hear2 {w1 W : World} {B h : Nat} {S : Nat → Prop} {m m' : MMem} {a : Msg} (hO : ServeOk0 ad X Hd Sv) (hX : ∀ V : World, w1.heap.size ≤ V.heap.size → (∀ k, k < w1.heap.size → V.heap[k]? = w1.heap[k]?) → X V) (hwB : w1.heap.size ≤ B) (hb : Below w1.heap.size w1 W) (hS : Sv W B h S m ∧ B ≤ W.heap.size) (hF : m.Fine) (x : Msg × Lv) (hL : HasL W x) (hnS : ∀ b o, x.2.1 = some ⟨b, o, none⟩ → ¬ S b) (hk : MsgR x.1) (hci : CfIn x.1.config) (he : m.hear x.1 = (m', [a])) :
    Calls Tryd.prog 8 #[.pointer (some ⟨h, 0, none⟩), msgA x.1 (lvV x.2)] W fun e w' => ∃ p c S', e = .returned (.slice p 1 c) ∧ Hid (AnsAt S' w' p [a]) ∧ Hid (Sv w' B h S' m' ∧ B ≤ w'.heap.size) ∧ Hid (Upd S S' W w') ∧ Hid m'.Fine ∧ Below w1.heap.size w1 w' := by
  refine (sv_hear1 hO hX hwB hb hS.1 hF x hL hnS hk hci).mono fun e w' hq => ?_
  have hf := hear_fine hF x.1 hci
  rw [he] at hq hf
  obtain ⟨p, c, S', e1, e2, e3, e4, e5⟩ := hq
  exact ⟨p, c, S', e1, e2, ⟨e3, Nat.le_trans hS.2 e4.size⟩, e4, hf, e5⟩
theorem hasL_nil (w : World) {x : Msg} (h : x.L = []) : HasL w (x, (none, 0, 0)) := ⟨by rw [h]; rfl, by rw [h]; exact Or.inl rfl, by rw [h]; exact Nat.le_refl _, fun _ => ⟨h, rfl⟩⟩
set_option maxRecDepth 10000 in
set_option maxHeartbeats 16000000 in
theorem serveSeals_much (hO : ServeOk0 ad X Hd Sv) (l : List Msg) (lp : Option Addr) (lcap : Nat) (v : Ver) (w : World) (hi : SvIn X l lp w) (h2 : fitsX l = false) : Calls Tryd.prog 3 #[.slice lp l.length lcap, .agg #[.int .i64 v.n, .int .i64 v.who, .int .i64 v.size, .int .i64 v.at_, .string v.text]] w fun e w' => e = .returned (.bool true) ∧ Below w.heap.size w w' := by
  obtain ⟨w1, hw1⟩ : ∃ w1, w1 = w.alloc (.cells #[.int .i64 v.n, .int .i64 v.who, .int .i64 v.size, .int .i64 v.at_, .string v.text] 28) := ⟨_, rfl⟩
  have hb1 : Below w.heap.size w w1 := by rw [hw1]; exact (Below.refl _ _).alloc (Nat.le_refl _) _
  have hz1 : w1.heap.size = w.heap.size + 1 := by rw [hw1]; simp
  have hX1 : ∀ V : World, w1.heap.size ≤ V.heap.size → (∀ k, k < w1.heap.size → V.heap[k]? = w1.heap[k]?) → X V := fun V hs hk => hi.errs V (Nat.le_trans hb1.size hs) (fun k hk0 => (hk k (by omega)).trans (hb1.block k hk0))
  have HAS := answers_any hO w1 hX1
  have HMF : Hid (∀ W, Below w1.heap.size w1 W → Calls Tryd.prog 5 #[.slice lp l.length lcap] W fun e w' => e = .returned (.bool (fitsX l)) ∧ Below w1.heap.size w1 w') := fun W hW => (messagesFit_all lp l lcap W hi.few hi.room ((hi.msgs.below hb1).below hW)).mono fun e w' hq => ⟨hq.1, hW.trans (hq.2.mono hW.size)⟩
  have HV : Hid (∀ W, Below w1.heap.size w1 W → W.cell? ⟨w.heap.size, 0, none⟩ = some (.int .i64 v.n) ∧ W.cell? ⟨w.heap.size, 1, none⟩ = some (.int .i64 v.who) ∧ W.cell? ⟨w.heap.size, 2, none⟩ = some (.int .i64 v.size) ∧ W.cell? ⟨w.heap.size, 3, none⟩ = some (.int .i64 v.at_) ∧ W.cell? ⟨w.heap.size, 4, none⟩ = some (.string v.text)) := fun W hW => by
    have hbl : W.heap[w.heap.size]? = some (.cells #[.int .i64 v.n, .int .i64 v.who, .int .i64 v.size, .int .i64 v.at_, .string v.text] 28 (0, 0)) := (hW.block _ (by omega)).trans (by rw [hw1]; show (w.heap.push _)[w.heap.size]? = _; simp)
    refine ⟨?_, ?_, ?_, ?_, ?_⟩ <;> simp [World.cell?, hbl]
  have HW1 : Hid (w1 = w.alloc (.cells #[.int .i64 v.n, .int .i64 v.who, .int .i64 v.size, .int .i64 v.at_, .string v.text] 28)) := hw1
  have HB1 : Hid (Below w.heap.size w w1) := hb1
  rw [h2] at HMF
  clear hi hO hw1 hb1 hz1 hX1 HV
  go_enter Tryd.func3, Tryd.ntmps3
  go_wp2_with (first | rw [← HW1.out])
  refine HAS.mono ?_
  rintro e w2 ⟨rfl, hb2⟩
  have HM1 := HMF.out w2 hb2
  clear hb2 HAS HMF
  go_wp2_with fail
  refine HM1.mono ?_
  rintro e w3 ⟨rfl, hb3⟩
  have HB3 : Hid (Below w.heap.size w w3) := HB1.out.trans (hb3.mono HB1.out.size)
  clear hb3 HM1
  go_wp2
  go_ret
  exact ⟨rfl, HB3.out⟩
set_option maxRecDepth 10000 in
set_option maxHeartbeats 16000000 in
theorem serveSeals_long (hO : ServeOk0 ad X Hd Sv) (l : List Msg) (lp : Option Addr) (lcap : Nat) (v : Ver) (w : World) (hi : SvIn X l lp w) (h2 : fitsX l = true) (h1 : 200 < v.text.size) : Calls Tryd.prog 3 #[.slice lp l.length lcap, .agg #[.int .i64 v.n, .int .i64 v.who, .int .i64 v.size, .int .i64 v.at_, .string v.text]] w fun e w' => e = .returned (.bool true) ∧ Below w.heap.size w w' := by
  obtain ⟨w1, hw1⟩ : ∃ w1, w1 = w.alloc (.cells #[.int .i64 v.n, .int .i64 v.who, .int .i64 v.size, .int .i64 v.at_, .string v.text] 28) := ⟨_, rfl⟩
  have hb1 : Below w.heap.size w w1 := by rw [hw1]; exact (Below.refl _ _).alloc (Nat.le_refl _) _
  have hz1 : w1.heap.size = w.heap.size + 1 := by rw [hw1]; simp
  have hX1 : ∀ V : World, w1.heap.size ≤ V.heap.size → (∀ k, k < w1.heap.size → V.heap[k]? = w1.heap[k]?) → X V := fun V hs hk => hi.errs V (Nat.le_trans hb1.size hs) (fun k hk0 => (hk k (by omega)).trans (hb1.block k hk0))
  have HAS := answers_any hO w1 hX1
  have HMF : Hid (∀ W, Below w1.heap.size w1 W → Calls Tryd.prog 5 #[.slice lp l.length lcap] W fun e w' => e = .returned (.bool (fitsX l)) ∧ Below w1.heap.size w1 w') := fun W hW => (messagesFit_all lp l lcap W hi.few hi.room ((hi.msgs.below hb1).below hW)).mono fun e w' hq => ⟨hq.1, hW.trans (hq.2.mono hW.size)⟩
  have HV : Hid (∀ W, Below w1.heap.size w1 W → W.cell? ⟨w.heap.size, 0, none⟩ = some (.int .i64 v.n) ∧ W.cell? ⟨w.heap.size, 1, none⟩ = some (.int .i64 v.who) ∧ W.cell? ⟨w.heap.size, 2, none⟩ = some (.int .i64 v.size) ∧ W.cell? ⟨w.heap.size, 3, none⟩ = some (.int .i64 v.at_) ∧ W.cell? ⟨w.heap.size, 4, none⟩ = some (.string v.text)) := fun W hW => by
    have hbl : W.heap[w.heap.size]? = some (.cells #[.int .i64 v.n, .int .i64 v.who, .int .i64 v.size, .int .i64 v.at_, .string v.text] 28 (0, 0)) := (hW.block _ (by omega)).trans (by rw [hw1]; show (w.heap.push _)[w.heap.size]? = _; simp)
    refine ⟨?_, ?_, ?_, ?_, ?_⟩ <;> simp [World.cell?, hbl]
  have HW1 : Hid (w1 = w.alloc (.cells #[.int .i64 v.n, .int .i64 v.who, .int .i64 v.size, .int .i64 v.at_, .string v.text] 28)) := hw1
  have HB1 : Hid (Below w.heap.size w w1) := hb1
  rw [h2] at HMF
  have n1 : decide ((200 : Int) < (v.text.size : Int)) = true := decide_eq_true (by omega)
  clear hi hO hw1 hb1 hz1 hX1
  go_enter Tryd.func3, Tryd.ntmps3
  go_wp2_with (first | rw [← HW1.out])
  refine HAS.mono ?_
  rintro e w2 ⟨rfl, hb2⟩
  have HM1 := HMF.out w2 hb2
  clear hb2 HAS HMF
  go_wp2_with fail
  refine HM1.mono ?_
  rintro e w3 ⟨rfl, hb3⟩
  obtain ⟨d0, d1, d2, d3, d4⟩ := HV.out w3 hb3
  have HB3 : Hid (Below w.heap.size w w3) := HB1.out.trans (hb3.mono HB1.out.size)
  clear hb3 HM1
  go_wp2
  go_ret
  exact ⟨rfl, HB3.out⟩
set_option maxRecDepth 10000 in
set_option maxHeartbeats 16000000 in
theorem serveSeals_fine (hO : ServeOk0 ad X Hd Sv) (l : List Msg) (lp : Option Addr) (lcap : Nat) (v : Ver) (w : World) (hi : SvIn X l lp w) (h2 : fitsX l = true) (h1 : ¬ 200 < v.text.size) : Calls Tryd.prog 3 #[.slice lp l.length lcap, .agg #[.int .i64 v.n, .int .i64 v.who, .int .i64 v.size, .int .i64 v.at_, .string v.text]] w fun e w' => e = .returned (.bool true) ∧ Below w.heap.size w w' := by
  obtain ⟨w1, hw1⟩ : ∃ w1, w1 = w.alloc (.cells #[.int .i64 v.n, .int .i64 v.who, .int .i64 v.size, .int .i64 v.at_, .string v.text] 28) := ⟨_, rfl⟩
  have hb1 : Below w.heap.size w w1 := by rw [hw1]; exact (Below.refl _ _).alloc (Nat.le_refl _) _
  have hz1 : w1.heap.size = w.heap.size + 1 := by rw [hw1]; simp
  have hX1 : ∀ V : World, w1.heap.size ≤ V.heap.size → (∀ k, k < w1.heap.size → V.heap[k]? = w1.heap[k]?) → X V := fun V hs hk => hi.errs V (Nat.le_trans hb1.size hs) (fun k hk0 => (hk k (by omega)).trans (hb1.block k hk0))
  have HAS := answers_any hO w1 hX1
  have HMF : Hid (∀ W, Below w1.heap.size w1 W → Calls Tryd.prog 5 #[.slice lp l.length lcap] W fun e w' => e = .returned (.bool (fitsX l)) ∧ Below w1.heap.size w1 w') := fun W hW => (messagesFit_all lp l lcap W hi.few hi.room ((hi.msgs.below hb1).below hW)).mono fun e w' hq => ⟨hq.1, hW.trans (hq.2.mono hW.size)⟩
  have HV : Hid (∀ W, Below w1.heap.size w1 W → W.cell? ⟨w.heap.size, 0, none⟩ = some (.int .i64 v.n) ∧ W.cell? ⟨w.heap.size, 1, none⟩ = some (.int .i64 v.who) ∧ W.cell? ⟨w.heap.size, 2, none⟩ = some (.int .i64 v.size) ∧ W.cell? ⟨w.heap.size, 3, none⟩ = some (.int .i64 v.at_) ∧ W.cell? ⟨w.heap.size, 4, none⟩ = some (.string v.text)) := fun W hW => by
    have hbl : W.heap[w.heap.size]? = some (.cells #[.int .i64 v.n, .int .i64 v.who, .int .i64 v.size, .int .i64 v.at_, .string v.text] 28 (0, 0)) := (hW.block _ (by omega)).trans (by rw [hw1]; show (w.heap.push _)[w.heap.size]? = _; simp)
    refine ⟨?_, ?_, ?_, ?_, ?_⟩ <;> simp [World.cell?, hbl]
  have HW1 : Hid (w1 = w.alloc (.cells #[.int .i64 v.n, .int .i64 v.who, .int .i64 v.size, .int .i64 v.at_, .string v.text] 28)) := hw1
  have HB1 : Hid (Below w.heap.size w w1) := hb1
  rw [h2] at HMF
  have n1 : decide ((200 : Int) < (v.text.size : Int)) = false := decide_eq_false (by omega)
  have HNE : Hid (∀ W, Below w1.heap.size w1 W → Calls Tryd.prog 6 #[.string ⟨#[97]⟩] W fun e w' => ∃ h S, e = .returned (.tuple #[.pointer (some ⟨h, 0, none⟩), .nilIface]) ∧ Sv w' W.heap.size h S ⟨nA, []⟩ ∧ Below W.heap.size W w') := fun W hW => (hO.new nA W (by decide) (hX1 W hW.size (fun k hk => hW.block k hk))).mono fun e w' hq => by
    rcases hq.1 with ⟨_, h, S, e1, e2⟩ | ⟨h4, _⟩
    · exact ⟨h, S, e1, e2, hq.2⟩
    · rw [show isN nA = true from isN_a] at h4; cases h4
  have HFT : Hid (∀ m ∈ l, MsgR m) := hi.room
  have hll : l.length ≤ 140737488351232 := hi.few
  have HO : Hid (ServeOk0 ad X Hd Sv) := hO
  have HX1 : Hid (∀ V : World, w1.heap.size ≤ V.heap.size → (∀ k, k < w1.heap.size → V.heap[k]? = w1.heap[k]?) → X V) := hX1
  have HMS : Hid (MsgsAt w1 lp l) := hi.msgs.below hb1
  have HVT : Hid (¬ 200 < v.text.size) := h1
  have HZ1 : Hid (w1.heap.size = w.heap.size + 1) := hz1
  clear hi hO h2 hw1 hb1 hz1 hX1 h1
  go_enter Tryd.func3, Tryd.ntmps3
  go_wp2_with (first | rw [← HW1.out])
  refine HAS.mono ?_
  rintro e w2 ⟨rfl, hb2⟩
  have HM1 := HMF.out w2 hb2
  clear hb2 HAS HMF HW1
  go_wp2_with fail
  refine HM1.mono ?_
  rintro e w3 ⟨rfl, hb3⟩
  obtain ⟨d0, d1, d2, d3, d4⟩ := HV.out w3 hb3
  have HN3 := HNE.out w3 hb3
  have HB3 : Hid (Below w1.heap.size w1 w3) := hb3
  clear hb3 HM1 HNE d0 d1 d2 d3
  go_wp2_with fail
  refine HN3.mono ?_
  rintro e w4 ⟨h, S, rfl, hS4, hb4⟩
  have HB4 : Hid (Below w1.heap.size w1 w4) := HB3.out.trans (hb4.mono HB3.out.size)
  have HWB : Hid (w1.heap.size ≤ w3.heap.size) := HB3.out.size
  have HS4 : Hid (Sv w4 w3.heap.size h S ⟨nA, []⟩) := hS4
  have HBW : Hid (w3.heap.size ≤ w4.heap.size) := hb4.size
  generalize w3.heap.size = B at *
  clear hS4 hb4 HN3 HB3 d4 n1
  go_wp2_with fail
  go_loopw [8] (fun x wq => ∃ (i : Nat) (m : MMem) (S : Nat → Prop), i ≤ l.length ∧ x = .int .i64 i ∧ Hid (m.Fine ∧ Sing m) ∧ Hid (Sv wq B h S m ∧ B ≤ wq.heap.size) ∧ Below w1.heap.size w1 wq) (fun x _ => l.length - (intOf x).toNat)
  case atStart => exact ⟨0, ⟨nA, []⟩, S, Nat.zero_le _, rfl, ⟨MMem.Fine.nil _, rfl, Or.inl rfl⟩, ⟨HS4.out, HBW.out⟩, HB4.out⟩
  case round =>
    obtain ⟨i, m, S0, hi, rfl, HF, HSV, hbq⟩ := hrel
    obtain ⟨w20, rfl⟩ : ∃ w20, w20 = wr := ⟨_, rfl⟩
    have HBQ : Hid (Below w1.heap.size w1 w20) := hbq
    clear HS4 HB4 HBW
    by_cases hil : i < l.length
    · obtain ⟨ml, hml, hmr, hmh⟩ := HMS.out
      have hix : i < ml.length := by rw [← List.length_map (f := Prod.fst), hml]; exact hil
      obtain ⟨mb, mo, hmp, hmlt, t0, t1, t2, t3, t4, t5, t6, t7⟩ := msg_cells hmr hix
      have hxl : l[i]? = some (msgAt ml i).1 := by rw [← hml, List.getElem?_map, List.getElem?_eq_getElem hix, msgAt_get hix]; rfl
      have hxh := hmh _ (msgAt_mem hix)
      rw [msgAt_get hix] at t0 t1 t2 t3 t4 t5 t6 t7
      have hone := HFT.out _ (List.mem_of_getElem? hxl)
      clear hml hmr hmh hix hxl
      generalize msgAt ml i = x at *
      obtain ⟨⟨m1, m2, m3, m4, m5, m6, m7, mL⟩, lq, ln, lc⟩ := x
      have hln : ln = mL.length := hxh.len
      subst hln hmp
      dsimp only at *
      have hbk : MsgR ⟨m1, nA, m3, nK, m5, 1, m7, mL⟩ := ⟨⟨hone.1.1, show nA.size ≤ 140737488351232 from by decide, hone.1.2.2.1, show nK.size ≤ 140737488351232 from by decide⟩, hone.2⟩
      have hmL : mL.length ≤ 2932031007317 := hone.2.1
      have HWO : Calls Tryd.prog 7 #[.agg #[.string m1, .string m2, .string m3, .string m4, .int .i64 m5, .int .i64 m6, .bool m7, .slice lq mL.length lc]] w20 fun e w' => (∃ q d, e = .returned (.agg #[.string m1, .string m2, .string m3, .string m4, .int .i64 m5, .int .i64 m6, .bool m7, .slice q mL.length d]) ∧ OwnR verE 28 w' w20.heap.size (.slice q mL.length d) mL) ∧ Below w20.heap.size w20 w' := (wireOf_any ⟨m1, m2, m3, m4, m5, m6, m7, mL⟩ lq lc w20 hmL (hxh.below hbq).recs hxh.empty).mono fun e w' hq => by
        obtain ⟨⟨lv, e1, e2⟩, e3⟩ := hq
        obtain ⟨q, d, f1, _⟩ := OwnR.form e2
        subst f1
        exact ⟨⟨q, d, e1, e2⟩, e3⟩
      have HBK : Hid (MsgR ⟨m1, nA, m3, nK, m5, 1, m7, mL⟩) := hbk
      have g0 := (hbq.cell (p := ⟨mb, mo + i * 8, none⟩) hmlt).trans t0
      have g1 := (hbq.cell (p := ⟨mb, mo + i * 8 + 1, none⟩) hmlt).trans t1
      have g2 := (hbq.cell (p := ⟨mb, mo + i * 8 + 2, none⟩) hmlt).trans t2
      have g3 := (hbq.cell (p := ⟨mb, mo + i * 8 + 3, none⟩) hmlt).trans t3
      have g4 := (hbq.cell (p := ⟨mb, mo + i * 8 + 4, none⟩) hmlt).trans t4
      have g5 := (hbq.cell (p := ⟨mb, mo + i * 8 + 5, none⟩) hmlt).trans t5
      have g6 := (hbq.cell (p := ⟨mb, mo + i * 8 + 6, none⟩) hmlt).trans t6
      have g7 := (hbq.cell (p := ⟨mb, mo + i * 8 + 7, none⟩) hmlt).trans t7
      clear hbq t0 t1 t2 t3 t4 t5 t6 t7 hone hbk hxh hmlt
      go_wp2_with fail
      refine HWO.mono ?_
      rintro e w21 ⟨⟨q, d, rfl, hO21⟩, hb21⟩
      clear HWO g0 g1 g2 g3 g4 g5 g6 g7
      obtain ⟨w22, hw22⟩ : ∃ w22, w22 = w21.alloc (.cells #[.string m1, .string m2, .string m3, .string m4, .int .i64 m5, .int .i64 m6, .bool m7, .slice q mL.length d] 38) := ⟨_, rfl⟩
      have hbl2 : w22.heap[w21.heap.size]? = some (.cells #[.string m1, .string m2, .string m3, .string m4, .int .i64 m5, .int .i64 m6, .bool m7, .slice q mL.length d] 38 (0, 0)) := by rw [hw22]; show (w21.heap.push _)[w21.heap.size]? = _; simp
      obtain ⟨w23, hw23⟩ : ∃ w23, w23 = w22.setCell ⟨w21.heap.size, 1, none⟩ (.string ⟨#[97]⟩) := ⟨_, rfl⟩
      have hbl3 : w23.heap[w21.heap.size]? = some (.cells #[.string m1, .string ⟨#[97]⟩, .string m3, .string m4, .int .i64 m5, .int .i64 m6, .bool m7, .slice q mL.length d] 38 (0, 0)) := by rw [hw23]; exact blk_setG hbl2 1 _
      obtain ⟨w24, hw24⟩ : ∃ w24, w24 = w23.setCell ⟨w21.heap.size, 3, none⟩ (.string ⟨#[107]⟩) := ⟨_, rfl⟩
      have hbl4 : w24.heap[w21.heap.size]? = some (.cells #[.string m1, .string ⟨#[97]⟩, .string m3, .string ⟨#[107]⟩, .int .i64 m5, .int .i64 m6, .bool m7, .slice q mL.length d] 38 (0, 0)) := by rw [hw24]; exact blk_setG hbl3 3 _
      obtain ⟨w25, hw25⟩ : ∃ w25, w25 = w24.setCell ⟨w21.heap.size, 5, none⟩ (.int .i64 1) := ⟨_, rfl⟩
      have hbl5 : w25.heap[w21.heap.size]? = some (.cells #[.string m1, .string ⟨#[97]⟩, .string m3, .string ⟨#[107]⟩, .int .i64 m5, .int .i64 1, .bool m7, .slice q mL.length d] 38 (0, 0)) := by rw [hw25]; exact blk_setG hbl4 5 _
      have k1 : w22.cell? ⟨w21.heap.size, 1, none⟩ = some (.string m2) := by simp [World.cell?, hbl2]
      have f1 : w22.frozen? ⟨w21.heap.size, 1, none⟩ = false := by simp [World.frozen?, hbl2]
      have k3 : w23.cell? ⟨w21.heap.size, 3, none⟩ = some (.string m4) := by simp [World.cell?, hbl3]
      have f3 : w23.frozen? ⟨w21.heap.size, 3, none⟩ = false := by simp [World.frozen?, hbl3]
      have k5 : w24.cell? ⟨w21.heap.size, 5, none⟩ = some (.int .i64 m6) := by simp [World.cell?, hbl4]
      have f5 : w24.frozen? ⟨w21.heap.size, 5, none⟩ = false := by simp [World.frozen?, hbl4]
      have q0 : w25.cell? ⟨w21.heap.size, 0, none⟩ = some (.string m1) := by simp [World.cell?, hbl5]
      have q1 : w25.cell? ⟨w21.heap.size, 1, none⟩ = some (.string ⟨#[97]⟩) := by simp [World.cell?, hbl5]
      have q2 : w25.cell? ⟨w21.heap.size, 2, none⟩ = some (.string m3) := by simp [World.cell?, hbl5]
      have q3 : w25.cell? ⟨w21.heap.size, 3, none⟩ = some (.string ⟨#[107]⟩) := by simp [World.cell?, hbl5]
      have q4 : w25.cell? ⟨w21.heap.size, 4, none⟩ = some (.int .i64 m5) := by simp [World.cell?, hbl5]
      have q5 : w25.cell? ⟨w21.heap.size, 5, none⟩ = some (.int .i64 1) := by simp [World.cell?, hbl5]
      have q6 : w25.cell? ⟨w21.heap.size, 6, none⟩ = some (.bool m7) := by simp [World.cell?, hbl5]
      have q7 : w25.cell? ⟨w21.heap.size, 7, none⟩ = some (.slice q mL.length d) := by simp [World.cell?, hbl5]
      have h2125 : Below w21.heap.size w21 w25 := by
        rw [hw25, hw24, hw23, hw22]
        exact ((((Below.refl _ _).alloc (Nat.le_refl _) _).setCell (p := ⟨w21.heap.size, 1, none⟩) (Nat.le_refl _) _).setCell (p := ⟨w21.heap.size, 3, none⟩) (Nat.le_refl _) _).setCell (p := ⟨w21.heap.size, 5, none⟩) (Nat.le_refl _) _
      have h2025 : Below w20.heap.size w20 w25 := hb21.trans (h2125.mono hb21.size)
      have HB25 : Hid (Below w1.heap.size w1 w25) := HBQ.out.trans (h2025.mono HBQ.out.size)
      have HBB : Hid (B ≤ w25.heap.size) := Nat.le_trans HSV.out.2 h2025.size
      have hS25 := HO.out.keep HSV.out.1 (h2025.mono HSV.out.2) (fun k hk => h2025.block k (HO.out.inS HSV.out.1 k hk).2)
      have hL25 : HasL w25 (⟨m1, nA, m3, nK, m5, 1, m7, mL⟩, (q, mL.length, d)) := hasL_own (OwnR.kept hO21 h2125)
      have HHE := sv_hear1 HO.out HX1.out HWB.out HB25.out hS25 HF.out.1 (⟨m1, nA, m3, nK, m5, 1, m7, mL⟩, (q, mL.length, d)) hL25 (fun b o e hs => by
        have e' : q = some ⟨b, o, none⟩ := e
        have h1 := (OwnR.block hO21 (k := b) (by rw [e']; rfl)).1
        have h2 := (HO.out.inS HSV.out.1 b hs).2
        omega) HBK.out cfIn_one
      have HW22 : Hid (w22 = w21.alloc (.cells #[.string m1, .string m2, .string m3, .string m4, .int .i64 m5, .int .i64 m6, .bool m7, .slice q mL.length d] 38)) := hw22
      have HW23 : Hid (w23 = w22.setCell ⟨w21.heap.size, 1, none⟩ (.string ⟨#[97]⟩)) := hw23
      have HW24 : Hid (w24 = w23.setCell ⟨w21.heap.size, 3, none⟩ (.string ⟨#[107]⟩)) := hw24
      have HW25 : Hid (w25 = w24.setCell ⟨w21.heap.size, 5, none⟩ (.int .i64 1)) := hw25
      clear hw22 hw23 hw24 hw25 hbl2 hbl3 hbl4 hbl5 h2125 h2025 hS25 hL25 hO21 hb21 HSV
      go_wp2_with (first | rw [← HW22.out] | rw [← HW23.out] | rw [← HW24.out] | rw [← HW25.out])
      refine HHE.mono ?_
      rintro e w26 ⟨p', c', S', rfl, hA, hS26, hU, hb26⟩
      have HS26 : Hid (Sv w26 B h S' (m.hear ⟨m1, nA, m3, nK, m5, 1, m7, mL⟩).1 ∧ B ≤ w26.heap.size) := ⟨hS26, Nat.le_trans HBB.out hU.size⟩
      have HB26 : Hid (Below w1.heap.size w1 w26) := hb26
      clear hA hS26 hU hb26 HHE q0 q1 q2 q3 q4 q5 q6 q7 k1 k3 k5 f1 f3 f5
      go_wp2
      go_roundw
      case rel => exact ⟨i + 1, (m.hear ⟨m1, nA, m3, nK, m5, 1, m7, mL⟩).1, S', by omega, by go_num, ⟨hear_fine HF.out.1 _ cfIn_one, HF.out.2.hear rfl⟩, HS26.out, HB26.out⟩
      case measure => simp [intOf]; omega
    · have hie : i = l.length := by omega
      clear hbq
      go_wp2_with fail
      have hfew := (hear_few HF.out.1 look1 cfIn_one).2
      obtain ⟨L, sl, n1, n2, n3, n4, e1, e2, e3, e4⟩ := seals HF.out.2 v
      rw [e1] at hfew
      have HGL : Hid ((getL L nK).length ≤ 60) := hfew _ (List.mem_singleton.2 rfl)
      generalize getL L nK = G at *
      have HE2 : Hid (n1.hear seal1 = (n2, [⟨nA, ⟨#[109, 111, 118, 101, 114]⟩, kShut, nK, 0, 1, false, G⟩])) := e2
      have HE3 : Hid (n2.hear (keep1 v) = (n3, [⟨nA, ⟨#[99, 48]⟩, kKept, nK, 0, 1, true, []⟩])) := e3
      have HE4 : Hid (n3.hear look1 = (n4, [⟨nA, ⟨#[99, 48]⟩, kTold, nK, 0, 1, true, G⟩])) := e4
      have HH1 := sv_hear2 HO.out HX1.out HWB.out HBQ.out HSV.out HF.out.1 (look1, (none, 0, 0)) (hasL_nil _ rfl) (fun b o e => by cases e) ⟨⟨by decide, by decide, by decide, by decide⟩, by decide, fun v hv => by cases hv⟩ cfIn_one e1
      clear e1 e2 e3 e4 hfew hie hil hi HSV HF HBQ
      refine HH1.mono ?_
      rintro e w31 ⟨p1, c1, S1, rfl, HA1, HS1, HU1, HF1, hb31⟩
      have HH2 := sv_hear2 HO.out HX1.out HWB.out hb31 HS1.out HF1.out (seal1, (none, 0, 0)) (hasL_nil _ rfl) (fun b o e => by cases e) ⟨⟨by decide, by decide, by decide, by decide⟩, by decide, fun v hv => by cases hv⟩ cfIn_one HE2.out
      clear hb31 HH1 HS1 HU1 HF1 HE2
      go_wp2_with fail
      refine HH2.mono ?_
      rintro e w32 ⟨p2, c2, S2, rfl, HA2, HS2, HU2, HF2, hb32⟩
      have HA1' : Hid (AnsAt S2 w32 p1 [⟨nA, ⟨#[99, 48]⟩, kTold, nK, 0, 1, sl, G⟩]) := HA1.out.upd HU2.out
      obtain ⟨v0, v1, v2, v3, v4⟩ := HV.out w32 hb32
      obtain ⟨w33, hw33⟩ : ∃ w33, w33 = w32.alloc (.cells #[.int .i64 v.n, .int .i64 v.who, .int .i64 v.size, .int .i64 v.at_, .string v.text] 28) := ⟨_, rfl⟩
      have h3233 : Below w32.heap.size w32 w33 := by rw [hw33]; exact (Below.refl _ _).alloc (Nat.le_refl _) _
      have HB33 : Hid (Below w1.heap.size w1 w33) := hb32.trans (h3233.mono hb32.size)
      have hS33 : Sv w33 B h S2 n2 ∧ B ≤ w33.heap.size := ⟨HO.out.keep HS2.out.1 (h3233.mono HS2.out.2) (fun k hk => h3233.block k (HO.out.inS HS2.out.1 k hk).2), Nat.le_trans HS2.out.2 h3233.size⟩
      have hL33 : HasL w33 (keep1 v, (some ⟨w32.heap.size, 0, none⟩, 1, 1)) := ⟨rfl, Or.inr ⟨w32.heap.size, 0, rfl, by rw [hw33]; simp, fun j y hy jj u hu => by
        match j, hy with
        | 0, hy =>
          obtain rfl : v = y := by simpa [keep1] using hy
          rw [Nat.zero_mul, Nat.zero_add, hw33, World.cell?_alloc_at _ _ _ _ rfl]
          match jj, hu with
          | 0, hu => exact hu
          | 1, hu => exact hu
          | 2, hu => exact hu
          | 3, hu => exact hu
          | 4, hu => exact hu⟩, Nat.le_refl _, fun e => by cases e⟩
      have hbk3 : MsgR (keep1 v) := ⟨⟨by show (2 : Nat) ≤ _; decide, by show (1 : Nat) ≤ _; decide, by show (4 : Nat) ≤ _; decide, by show (1 : Nat) ≤ _; decide⟩, by show (1 : Nat) ≤ _; decide, fun y hy => by
        obtain rfl : y = v := by simpa [keep1] using hy
        have := HVT.out
        omega⟩
      have HH3 := sv_hear2 HO.out HX1.out HWB.out HB33.out hS33 HF2.out (keep1 v, (some ⟨w32.heap.size, 0, none⟩, 1, 1)) hL33 (fun b o e hs => by
        obtain ⟨e', _⟩ : w32.heap.size = b ∧ 0 = o := by simpa using e
        have h2 := (HO.out.inS HS2.out.1 b hs).2
        omega) hbk3 cfIn_one HE3.out
      have HA13 : Hid (AnsAt S2 w33 p1 [⟨nA, ⟨#[99, 48]⟩, kTold, nK, 0, 1, sl, G⟩]) := HA1'.out.below h3233
      have HA23 : Hid (AnsAt S2 w33 p2 [⟨nA, ⟨#[109, 111, 118, 101, 114]⟩, kShut, nK, 0, 1, false, G⟩]) := HA2.out.below h3233
      have HW33 : Hid (w33 = w32.alloc (.cells #[.int .i64 v.n, .int .i64 v.who, .int .i64 v.size, .int .i64 v.at_, .string v.text] 28)) := hw33
      clear hb32 HH2 HS2 HU2 HF2 HE3 HA1 HA2 HA1' h3233 hS33 hL33 hbk3 hw33
      go_wp2_with (first | rw [← HW33.out])
      refine HH3.mono ?_
      rintro e w34 ⟨p3, c3, S3, rfl, HA3, HS3, HU3, HF3, hb34⟩
      have HH4 := sv_hear2 HO.out HX1.out HWB.out hb34 HS3.out HF3.out (look1, (none, 0, 0)) (hasL_nil _ rfl) (fun b o e => by cases e) ⟨⟨by decide, by decide, by decide, by decide⟩, by decide, fun v hv => by cases hv⟩ cfIn_one HE4.out
      have HA14 : Hid (AnsAt S3 w34 p1 [⟨nA, ⟨#[99, 48]⟩, kTold, nK, 0, 1, sl, G⟩]) := HA13.out.upd HU3.out
      have HA24 : Hid (AnsAt S3 w34 p2 [⟨nA, ⟨#[109, 111, 118, 101, 114]⟩, kShut, nK, 0, 1, false, G⟩]) := HA23.out.upd HU3.out
      clear hb34 HH3 HS3 HU3 HF3 HE4 HA13 HA23 v0 v1 v2 v3 v4
      go_wp2_with fail
      refine HH4.mono ?_
      rintro e w35 ⟨p4, c4, S4, rfl, HA4, HS4, HU4, HF4, hb35⟩
      obtain ⟨b1, o1, q1, d1, rfl, hl1, k1, s1, l1, r1⟩ := (HA14.out.upd HU4.out).one
      obtain ⟨b2, o2, q2, d2, rfl, hl2, k2, s2, l2, r2⟩ := (HA24.out.upd HU4.out).one
      obtain ⟨b3, o3, q3, d3, rfl, hl3, k3, s3, l3, r3⟩ := (HA3.out.upd HU4.out).one
      obtain ⟨b4, o4, q4, d4, rfl, hl4, k4, s4, l4, r4⟩ := HA4.out.one
      have HB35 : Hid (Below w.heap.size w w35) := HB1.out.trans (hb35.mono HB1.out.size)
      have HSS : Hid (∀ W, Below w35.heap.size w35 W → (W.cell? ⟨b1, o1 + 7, none⟩ = some (.slice q1 G.length d1) ∧ W.cell? ⟨b2, o2 + 7, none⟩ = some (.slice q2 G.length d2) ∧ W.cell? ⟨b4, o4 + 7, none⟩ = some (.slice q4 G.length d4) ∧ Below w35.heap.size w35 W)) := fun W hW => ⟨(hW.cell (p := ⟨b1, o1 + 7, none⟩) hl1).trans l1, (hW.cell (p := ⟨b2, o2 + 7, none⟩) hl2).trans l2, (hW.cell (p := ⟨b4, o4 + 7, none⟩) hl4).trans l4, hW⟩
      have HSV2 : Hid (∀ W qa qb da db, (W.cell? ⟨b1, o1 + 7, none⟩ = some (.slice q1 G.length d1) ∧ W.cell? ⟨b2, o2 + 7, none⟩ = some (.slice q2 G.length d2) ∧ W.cell? ⟨b4, o4 + 7, none⟩ = some (.slice q4 G.length d4) ∧ Below w35.heap.size w35 W) → Rec verE w35 qa G → Rec verE w35 qb G → Calls Tryd.prog 9 #[.slice qa G.length da, .slice qb G.length db] W fun e w' => e = .returned (.bool true) ∧ (w'.cell? ⟨b1, o1 + 7, none⟩ = some (.slice q1 G.length d1) ∧ w'.cell? ⟨b2, o2 + 7, none⟩ = some (.slice q2 G.length d2) ∧ w'.cell? ⟨b4, o4 + 7, none⟩ = some (.slice q4 G.length d4) ∧ Below w35.heap.size w35 w')) := fun W qa qb da db hW ha hb => (sameVers_any qa qb G G da db W (by have := HGL.out; omega) (ha.below hW.2.2.2) (hb.below hW.2.2.2)).mono fun e w' hq => ⟨by rw [hq.1, decide_eq_true rfl], HSS.out w' (hW.2.2.2.trans (hq.2.mono hW.2.2.2.size))⟩
      have HR1 : Hid (Rec verE w35 q1 G) := r1
      have HR2 : Hid (Rec verE w35 q2 G) := r2
      have HR4 : Hid (Rec verE w35 q4 G) := r4
      have gl := HGL.out
      clear HH4 HS4 HU4 HF4 HA14 HA24 HA3 HA4 r1 r2 r3 r4 hb35 HV HX1 HMS HFT HWB HO HVT HZ1
      dsimp only at k1 s1 l1 k2 s2 l2 k3 s3 l3 k4 s4 l4
      unfold kTold at k1 k4
      unfold kShut at k2
      unfold kKept at k3
      go_wp2_with fail
      clear k1 s1 k2 s2 k3 s3 l3 k4 s4
      go_cut [4] from 122 to 142 (fun v W => v = .bool true ∧ Below w35.heap.size w35 W)
      case first =>
        go_region_held3 (fun W => (W.cell? ⟨b1, o1 + 7, none⟩ = some (.slice q1 G.length d1) ∧ W.cell? ⟨b2, o2 + 7, none⟩ = some (.slice q2 G.length d2) ∧ W.cell? ⟨b4, o4 + 7, none⟩ = some (.slice q4 G.length d4) ∧ Below w35.heap.size w35 W)) (first | assumption | exact HSS.out _ (Below.refl _ _).drew) (first | (go_at_call 9; refine (HSV2.out _ _ _ _ _ (by assumption) (by first | exact HR2.out | exact HR4.out) (by exact HR1.out)).mono ?_; rintro e v5 ⟨rfl, hS5⟩))
        all_goals (go_wp2_with fail; go_meet)
        all_goals exact ⟨rfl, hS5.2.2.2⟩
      case rest =>
        obtain ⟨rfl, hbc⟩ := hcut
        have HBC : Hid (Below w.heap.size w wc) := HB35.out.trans (hbc.mono HB35.out.size)
        clear hbc
        go_wp2
        go_ret
        exact ⟨rfl, HBC.out⟩
/-- The law ServeSeals is true. -/
theorem serveSeals_any (hO : ServeOk0 ad X Hd Sv) (l : List Msg) (lp : Option Addr) (lcap : Nat) (v : Ver) (w : World) (hi : SvIn X l lp w) : Calls Tryd.prog 3 #[.slice lp l.length lcap, .agg #[.int .i64 v.n, .int .i64 v.who, .int .i64 v.size, .int .i64 v.at_, .string v.text]] w fun e w' => e = .returned (.bool true) ∧ Below w.heap.size w w' := by
  cases h2 : fitsX l with
  | false => exact serveSeals_much hO l lp lcap v w hi h2
  | true =>
    by_cases h1 : 200 < v.text.size
    · exact serveSeals_long hO l lp lcap v w hi h2 h1
    · exact serveSeals_fine hO l lp lcap v w hi h2 h1
end Go.Proofs.YtcoecfpkihakoaaDoor
