/- Texts laid together. -/
import Derived.Test.YtmbpfbhpmafheaaGreatDoorHs11
namespace Go.Proofs.YtmbpfbhpmafheaaGreatDoor
open Go.RowKit
/-- The cells of an act lie at block b. -/
def ActIs (W : World) (b : Nat) (a : HAct) : Prop := W.cell? ⟨b, 0, none⟩ = some (.string a.kind) ∧ W.cell? ⟨b, 1, none⟩ = some (.string a.key) ∧ W.cell? ⟨b, 2, none⟩ = some (.int .i64 a.v.n) ∧ W.cell? ⟨b, 3, none⟩ = some (.int .i64 a.v.who) ∧ W.cell? ⟨b, 4, none⟩ = some (.int .i64 a.v.size) ∧ W.cell? ⟨b, 5, none⟩ = some (.int .i64 a.v.at_) ∧ W.cell? ⟨b, 6, none⟩ = some (.string a.v.text) ∧ W.cell? ⟨b, 7, none⟩ = some (.int .i64 a.n)
theorem ActIs.of_block {W W' : World} {b : Nat} {a : HAct} (h : ActIs W b a) (hb : W'.heap[b]? = W.heap[b]?) : ActIs W' b a := by
  have hc : ∀ o, W'.cell? ⟨b, o, none⟩ = W.cell? ⟨b, o, none⟩ := fun o => by unfold World.cell?; rw [hb]
  unfold ActIs at h ⊢
  rw [hc, hc, hc, hc, hc, hc, hc, hc]
  exact h
theorem ActIs.made (w : World) (a : HAct) (t : TypeId) : ActIs (w.alloc (.cells #[.string a.kind, .string a.key, .int .i64 a.v.n, .int .i64 a.v.who, .int .i64 a.v.size, .int .i64 a.v.at_, .string a.v.text, .int .i64 a.n] t)) w.heap.size a := by
  refine ⟨?_, ?_, ?_, ?_, ?_, ?_, ?_, ?_⟩ <;> (rw [World.cell?_alloc_at _ _ _ _ rfl]; rfl)
/-- What a put does to both, its answers alike. -/
theorem both_put {ad : Nat → Addr} {Hd : World → Nat → (Nat → Prop) → List Kep → Bool → Prop} (hO : HoldOk ad Hd) {B hp hm ab : Nat} {L : List Kep} {s : Bool} {S : Nat → Prop} {w : World} (hT : Two Hd B w hp hm L s S) (hB : B ≤ w.heap.size) (a : HAct) (hk : a.key.size ≤ maxLen) (ht : a.v.text.size ≤ maxLen) (hS : Sent w ad) (hab : ActIs w ab a) (hn : ¬ S ab) (hne : ab ≠ hm) :
    Calls Tryz.prog 16 #[.pointer (some ⟨hp, 0, none⟩), .string a.key, verA a.v] w fun e w' => ∃ ev, e = .returned ev ∧ BareIs ad ev (putR L s a.key a.v).1 ∧ ActIs w' ab a ∧
      Calls Tryz.prog 26 #[.pointer (some ⟨hm, 0, none⟩), .string a.key, verA a.v] w' fun e w'' => e = .returned (.int .i64 (putR L s a.key a.v).1) ∧ ActIs w'' ab a ∧ (∃ S', Two Hd B w'' hp hm (putR L s a.key a.v).2 s S') ∧ Below B w w'' := by
  have hlt : ab < w.heap.size := lt_of_cellH hab.1
  refine (hO.put a.key a.v hk ht hT.own hS).mono ?_
  rintro e w' ⟨⟨ev, rfl, hI⟩, S', hH', hU⟩
  have hab' : ActIs w' ab a := hab.of_block (hU.block ab hlt hn)
  refine ⟨ev, rfl, hI, hab', ?_⟩
  obtain ⟨hm', _, _, _, _⟩ := hT.upd hU hB
  refine (rput_any hm L s a.key a.v w' (by have := hT.len; omega) ht hm').mono ?_
  rintro e w'' ⟨rfl, hm'', hturn⟩
  obtain ⟨h1, h2⟩ := hT.step hO hU hH' hB hm'' hturn (putR_len hT.len) (putR_names hT.names hk)
  exact ⟨rfl, hab'.of_block (hturn.block ab (Nat.lt_of_lt_of_le hlt hU.size) hne), ⟨S', h1⟩, h2⟩
/-- What a trim does to both, its answers alike. -/
theorem both_trim {ad : Nat → Addr} {Hd : World → Nat → (Nat → Prop) → List Kep → Bool → Prop} (hO : HoldOk ad Hd) {B hp hm ab : Nat} {L : List Kep} {s : Bool} {S : Nat → Prop} {w : World} (hT : Two Hd B w hp hm L s S) (hB : B ≤ w.heap.size) (a : HAct) (hk : a.key.size ≤ maxLen) (h0 : 0 ≤ a.n) (h1 : a.n ≤ 9223372036854775807) (hab : ActIs w ab a) (hn : ¬ S ab) :
    Calls Tryz.prog 27 #[.pointer (some ⟨hp, 0, none⟩), .string a.key, .int .i64 a.n] w fun e w' => e = .returned (.tuple #[.int .i64 ((goneN L a.key a.n : Nat) : Int), .nilIface]) ∧ ActIs w' ab a ∧ w.heap.size ≤ w'.heap.size ∧
      (∀ W, Below w'.heap.size w' W → Calls Tryz.prog 28 #[.pointer (some ⟨hm, 0, none⟩), .string a.key, .int .i64 a.n] W fun e w'' => e = .returned (.int .i64 ((goneN L a.key a.n : Nat) : Int)) ∧ (∃ S', Two Hd B w'' hp hm (trimL L a.key a.n) s S') ∧ Below B w w'') := by
  have hlt : ab < w.heap.size := lt_of_cellH hab.1
  refine (hO.trim a.key a.n hk h0 h1 hT.own).mono ?_
  rintro e w' ⟨rfl, S', hH', hU⟩
  refine ⟨rfl, hab.of_block (hU.block ab hlt hn), hU.size, fun W hW => ?_⟩
  have hUW : Upd S S' w W := ⟨hW.os.trans hU.os, hW.tape.trans hU.tape, hW.output.trans hU.output, Nat.le_trans hU.size hW.size, fun k hk' hs => (hW.block k (Nat.lt_of_lt_of_le hk' hU.size)).trans (hU.block k hk' hs), hU.new⟩
  have hHW : Hd W hp S' (trimL L a.key a.n) s := hO.keep hH' hW.size (fun k hk' => hW.block k (hO.lt hH' k hk'))
  obtain ⟨hm', _, _, _, _⟩ := hT.upd hUW hB
  refine (rtrim_any hm L s a.key a.n W (by have := hT.len; omega) h0 h1 hm').mono ?_
  rintro e w'' ⟨rfl, hm'', hturn⟩
  have hsub := trimGo_subP a.key (goneN L a.key a.n) L
  obtain ⟨h2, h3⟩ := hT.step hO hUW hHW hB hm'' hturn (Nat.le_trans hsub.1 hT.len) (fun x hx => hT.names x (hsub.2 x hx))
  exact ⟨rfl, ⟨S', h2⟩, h3⟩
theorem MHold.seal1 {w : World} {h : Nat} {L : List Kep} {s : Bool} (hm : MHold w h L s) (b : Bool) : MHold (w.setCell ⟨h, 1, none⟩ (.bool b)) h L b ∧ Turn h w (w.setCell ⟨h, 1, none⟩ (.bool b)) := by
  obtain ⟨p, c, q0, hr, hc, hn, hne⟩ := hm.row
  have e0 : (w.setCell ⟨h, 1, none⟩ (.bool b)).cell? ⟨h, 0, none⟩ = w.cell? ⟨h, 0, none⟩ := World.cell?_setCell_other _ _ _ _ (fun e => by have h2 : (1 : Nat) = 0 := congrArg Addr.off e; omega)
  refine ⟨⟨⟨p, c, e0.trans q0, ?_, hc, hn, hne⟩, World.cell?_setCell_same _ _ _ hm.sealed_, by rw [World.frozen?_setCell]; exact hm.free0, by rw [World.frozen?_setCell]; exact hm.free1⟩, ⟨rfl, rfl, rfl, by simp, fun k hk hkne => Deep.blk_setCell_other _ _ _ _ hkne, Or.inl e0⟩⟩
  rcases hr with hr | ⟨b', o, hp, hlt, hcell⟩
  · exact Or.inl hr
  · refine Or.inr ⟨b', o, hp, by simpa using hlt, fun i x hx j u hu => ?_⟩
    rw [World.cell?_setCell_other _ _ _ _ (fun e => by have h2 : h = b' := congrArg Addr.block e; exact hne b' o hp h2.symm)]
    exact hcell i x hx j u hu
theorem MHold.wipe0 {w : World} {h : Nat} {L : List Kep} {s : Bool} (hm : MHold w h L s) : MHold (w.setCell ⟨h, 0, none⟩ (.slice none 0 0)) h [] s ∧ Turn h w (w.setCell ⟨h, 0, none⟩ (.slice none 0 0)) := by
  obtain ⟨p, c, q0, _⟩ := hm.row
  have e0 : (w.setCell ⟨h, 0, none⟩ (.slice none 0 0)).cell? ⟨h, 0, none⟩ = some (.slice none 0 0) := World.cell?_setCell_same _ _ _ q0
  have e1 : (w.setCell ⟨h, 0, none⟩ (.slice none 0 0)).cell? ⟨h, 1, none⟩ = w.cell? ⟨h, 1, none⟩ := World.cell?_setCell_other _ _ _ _ (fun e => by have h2 : (0 : Nat) = 1 := congrArg Addr.off e; omega)
  exact ⟨⟨⟨none, 0, e0, Or.inl rfl, Nat.le_refl _, fun _ => ⟨rfl, rfl⟩, fun _ _ e => by cases e⟩, e1.trans hm.sealed_, by rw [World.frozen?_setCell]; exact hm.free0, by rw [World.frozen?_setCell]; exact hm.free1⟩, ⟨rfl, rfl, rfl, by simp, fun k hk hkne => Deep.blk_setCell_other _ _ _ _ hkne, Or.inr fun b o n c e => by rw [e0] at e; cases e⟩⟩
theorem both_seal {ad : Nat → Addr} {Hd : World → Nat → (Nat → Prop) → List Kep → Bool → Prop} (hO : HoldOk ad Hd) {B hp hm : Nat} {L : List Kep} {s : Bool} {S : Nat → Prop} {w : World} (hT : Two Hd B w hp hm L s S) (hB : B ≤ w.heap.size) :
    Calls Tryz.prog 29 #[.pointer (some ⟨hp, 0, none⟩)] w fun e w' => e = .returned (.tuple #[]) ∧ (w'.cell? ⟨hm, 1, none⟩ = some (.bool s) ∧ w'.frozen? ⟨hm, 1, none⟩ = false) ∧ (∃ S', Two Hd B (w'.setCell ⟨hm, 1, none⟩ (.bool true)) hp hm L true S') ∧ Below B w (w'.setCell ⟨hm, 1, none⟩ (.bool true)) := by
  refine (hO.seals hT.own).mono ?_
  rintro e w' ⟨rfl, S', hH', hU⟩
  obtain ⟨hm', _, _, _, _⟩ := hT.upd hU hB
  obtain ⟨h1, h2⟩ := hm'.seal1 true
  obtain ⟨h3, h4⟩ := hT.step hO hU hH' hB h1 h2 hT.len hT.names
  exact ⟨rfl, ⟨hm'.sealed_, hm'.free1⟩, ⟨S', h3⟩, h4⟩
theorem both_wipe {ad : Nat → Addr} {Hd : World → Nat → (Nat → Prop) → List Kep → Bool → Prop} (hO : HoldOk ad Hd) {B hp hm : Nat} {L : List Kep} {s : Bool} {S : Nat → Prop} {w : World} (hT : Two Hd B w hp hm L s S) (hB : B ≤ w.heap.size) :
    Calls Tryz.prog 30 #[.pointer (some ⟨hp, 0, none⟩)] w fun e w' => e = .returned (.tuple #[]) ∧ (∃ p n c, w'.cell? ⟨hm, 0, none⟩ = some (.slice p n c)) ∧ (w'.cell? ⟨hm, 1, none⟩ = some (.bool s) ∧ w'.frozen? ⟨hm, 0, none⟩ = false ∧ w'.frozen? ⟨hm, 1, none⟩ = false) ∧ (∃ S', Two Hd B ((w'.setCell ⟨hm, 0, none⟩ (.slice none 0 0)).setCell ⟨hm, 1, none⟩ (.bool false)) hp hm [] false S') ∧ Below B w ((w'.setCell ⟨hm, 0, none⟩ (.slice none 0 0)).setCell ⟨hm, 1, none⟩ (.bool false)) := by
  refine (hO.wipe hT.own).mono ?_
  rintro e w' ⟨rfl, S', hH', hU⟩
  obtain ⟨hm', _, _, _, _⟩ := hT.upd hU hB
  obtain ⟨p, c, q0, _⟩ := hm'.row
  obtain ⟨h1, h2⟩ := hm'.wipe0
  obtain ⟨h5, h6⟩ := h1.seal1 false
  obtain ⟨h3, h4⟩ := hT.step hO hU hH' hB h5 (h2.trans h6) (Nat.zero_le _) (fun x hx => by cases hx)
  exact ⟨rfl, ⟨p, _, c, q0⟩, ⟨hm'.sealed_, hm'.free0, hm'.free1⟩, ⟨S', h3⟩, h4⟩
theorem lit_ne {x : ByteArray} {l : List UInt8} (h : x ≠ ⟨l.toArray⟩) : (x.toList == l) = false := by
  rw [beq_eq_false_iff_ne]
  intro e
  refine h (ByteArray.ext ?_)
  rw [ByteArray.toList_eq] at e
  rw [← e]
set_option maxRecDepth 10000 in
set_option maxHeartbeats 16000000 in
theorem play_any {ad : Nat → Addr} {Hd : World → Nat → (Nat → Prop) → List Kep → Bool → Prop} (hO : HoldOk ad Hd) (B hp hm : Nat) (L0 : List Kep) (s0 : Bool) (S0 : Nat → Prop) (pl : Option Addr) (acts : List HAct) (cl : Nat) (w : World) (hT : Two Hd B w hp hm L0 s0 S0) (hB : B ≤ w.heap.size) (hl : acts.length ≤ maxLen)
    (hA : ∀ W, Below B w W → Rec actE W pl acts) (hS : ∀ W, Below B w W → Sent W ad) (hx : ∀ i, i < acts.length → (actAt acts i).key.size ≤ maxLen ∧ (actAt acts i).v.text.size ≤ maxLen ∧ -9223372036854775808 ≤ (actAt acts i).n ∧ (actAt acts i).n ≤ 9223372036854775807) :
    Calls Tryz.prog 14 #[.pointer (some ⟨hp, 0, none⟩), .pointer (some ⟨hm, 0, none⟩), .slice pl acts.length cl] w fun e w' => e = .returned (.bool true) ∧ (∃ L s S, Two Hd B w' hp hm L s S) ∧ Below B w w' := by
  have HA : Hid (∀ W, Below B w W → Rec actE W pl acts) := hA
  have HS : Hid (∀ W, Below B w W → Sent W ad) := hS
  have HX : Hid (∀ i, i < acts.length → (actAt acts i).key.size ≤ maxLen ∧ (actAt acts i).v.text.size ≤ maxLen ∧ -9223372036854775808 ≤ (actAt acts i).n ∧ (actAt acts i).n ≤ 9223372036854775807) := hx
  have HT0 : Hid (Two Hd B w hp hm L0 s0 S0) := hT
  have HO : Hid (HoldOk ad Hd) := hO
  have hl' : acts.length ≤ 9223372036854775807 := by unfold maxLen at hl; omega
  clear hA hS hx hT hO hl
  go_enter Tryz.func14, Tryz.ntmps14
  go_wp2
  go_loopw [7] (fun x wq => ∃ i : Nat, i ≤ acts.length ∧ x = .int .i64 i ∧ (∃ L s S, Two Hd B wq hp hm L s S) ∧ Below B w wq) (fun x _ => acts.length - (intOf x).toNat)
  case atStart => exact ⟨0, Nat.zero_le _, rfl, ⟨L0, s0, S0, HT0.out⟩, Below.refl _ _⟩
  case round =>
    obtain ⟨i, hi, rfl, ⟨L, s, S, hT2⟩, hb2⟩ := hrel
    obtain ⟨w2, rfl⟩ : ∃ w2, w2 = wr := ⟨_, rfl⟩
    have HT2 : Hid (Two Hd B w2 hp hm L s S) := hT2
    have HB2 : Hid (Below B w w2) := hb2
    have hB2 : B ≤ w2.heap.size := Nat.le_trans hB hb2.size
    clear hT2 hb2 HT0
    by_cases hil : i < acts.length
    · obtain ⟨b, o, hpp, hblt, c0, c1, c2, c3, c4, c5, c6, c7⟩ := act_cells (HA.out w2 HB2.out) hil
      obtain ⟨hky, hvt, hn0, hn1⟩ := HX.out i hil
      subst hpp
      generalize actAt acts i = a at *
      obtain ⟨kk, ky, v, an⟩ := a
      obtain ⟨w3, hw3⟩ : ∃ w3, w3 = w2.alloc (.cells #[.string kk, .string ky, .int .i64 v.n, .int .i64 v.who, .int .i64 v.size, .int .i64 v.at_, .string v.text, .int .i64 an] 70) := ⟨_, rfl⟩
      have hb3 : Below w2.heap.size w2 w3 := by rw [hw3]; exact (Below.refl _ _).alloc (Nat.le_refl _) _
      have hA3 : (w3.cell? ⟨w2.heap.size, 0, none⟩ = some (.string kk) ∧ w3.cell? ⟨w2.heap.size, 1, none⟩ = some (.string ky) ∧ w3.cell? ⟨w2.heap.size, 2, none⟩ = some (.int .i64 v.n) ∧ w3.cell? ⟨w2.heap.size, 3, none⟩ = some (.int .i64 v.who) ∧ w3.cell? ⟨w2.heap.size, 4, none⟩ = some (.int .i64 v.size) ∧ w3.cell? ⟨w2.heap.size, 5, none⟩ = some (.int .i64 v.at_) ∧ w3.cell? ⟨w2.heap.size, 6, none⟩ = some (.string v.text) ∧ w3.cell? ⟨w2.heap.size, 7, none⟩ = some (.int .i64 an)) := by rw [hw3]; exact ActIs.made w2 ⟨kk, ky, v, an⟩ _
      have HT3 : Hid (Two Hd B w3 hp hm L s S) := HT2.out.below HO.out.see hb3
      have HB3 : Hid (Below B w w3) := HB2.out.trans (hb3.mono hB2)
      have hB3 : B ≤ w3.heap.size := Nat.le_trans hB2 hb3.size
      have HNS : Hid (¬ S w2.heap.size) := fun h => absurd (HO.out.lt HT2.out.own _ h) (Nat.lt_irrefl _)
      have HNM : Hid (w2.heap.size ≠ hm) := fun h => by
        obtain ⟨p, c, q, _⟩ := HT2.out.model.row
        have := lt_of_cellH q
        omega
      have HW3 : Hid (w3 = w2.alloc (.cells #[.string kk, .string ky, .int .i64 v.n, .int .i64 v.who, .int .i64 v.size, .int .i64 v.at_, .string v.text, .int .i64 an] 70)) := hw3
      have HKEEP : Hid (∀ W W', (W.cell? ⟨w2.heap.size, 0, none⟩ = some (.string kk) ∧ W.cell? ⟨w2.heap.size, 1, none⟩ = some (.string ky) ∧ W.cell? ⟨w2.heap.size, 2, none⟩ = some (.int .i64 v.n) ∧ W.cell? ⟨w2.heap.size, 3, none⟩ = some (.int .i64 v.who) ∧ W.cell? ⟨w2.heap.size, 4, none⟩ = some (.int .i64 v.size) ∧ W.cell? ⟨w2.heap.size, 5, none⟩ = some (.int .i64 v.at_) ∧ W.cell? ⟨w2.heap.size, 6, none⟩ = some (.string v.text) ∧ W.cell? ⟨w2.heap.size, 7, none⟩ = some (.int .i64 an)) → Below W.heap.size W W' → (W'.cell? ⟨w2.heap.size, 0, none⟩ = some (.string kk) ∧ W'.cell? ⟨w2.heap.size, 1, none⟩ = some (.string ky) ∧ W'.cell? ⟨w2.heap.size, 2, none⟩ = some (.int .i64 v.n) ∧ W'.cell? ⟨w2.heap.size, 3, none⟩ = some (.int .i64 v.who) ∧ W'.cell? ⟨w2.heap.size, 4, none⟩ = some (.int .i64 v.size) ∧ W'.cell? ⟨w2.heap.size, 5, none⟩ = some (.int .i64 v.at_) ∧ W'.cell? ⟨w2.heap.size, 6, none⟩ = some (.string v.text) ∧ W'.cell? ⟨w2.heap.size, 7, none⟩ = some (.int .i64 an))) := fun W W' h hb => (show ActIs W' w2.heap.size ⟨kk, ky, v, an⟩ from ActIs.of_block (show ActIs W w2.heap.size ⟨kk, ky, v, an⟩ from h) (hb.block _ (lt_of_cellH h.1)))
      clear hw3 hb3 HT2 HB2
      by_cases hp0 : kk = ⟨#[112, 117, 116]⟩
      · subst hp0
        have HP : Hid (Calls Tryz.prog 16 #[.pointer (some ⟨hp, 0, none⟩), .string ky, .agg #[.int .i64 v.n, .int .i64 v.who, .int .i64 v.size, .int .i64 v.at_, .string v.text]] w3.drew fun e w' => ∃ ev, e = .returned ev ∧ BareIs ad ev (putR L s ky v).1 ∧ (w'.cell? ⟨w2.heap.size, 0, none⟩ = some (.string (⟨#[112, 117, 116]⟩ : ByteArray)) ∧ w'.cell? ⟨w2.heap.size, 1, none⟩ = some (.string ky) ∧ w'.cell? ⟨w2.heap.size, 2, none⟩ = some (.int .i64 v.n) ∧ w'.cell? ⟨w2.heap.size, 3, none⟩ = some (.int .i64 v.who) ∧ w'.cell? ⟨w2.heap.size, 4, none⟩ = some (.int .i64 v.size) ∧ w'.cell? ⟨w2.heap.size, 5, none⟩ = some (.int .i64 v.at_) ∧ w'.cell? ⟨w2.heap.size, 6, none⟩ = some (.string v.text) ∧ w'.cell? ⟨w2.heap.size, 7, none⟩ = some (.int .i64 an)) ∧
            Calls Tryz.prog 26 #[.pointer (some ⟨hm, 0, none⟩), .string ky, .agg #[.int .i64 v.n, .int .i64 v.who, .int .i64 v.size, .int .i64 v.at_, .string v.text]] w' fun e w'' => e = .returned (.int .i64 (putR L s ky v).1) ∧ (w''.cell? ⟨w2.heap.size, 0, none⟩ = some (.string (⟨#[112, 117, 116]⟩ : ByteArray)) ∧ w''.cell? ⟨w2.heap.size, 1, none⟩ = some (.string ky) ∧ w''.cell? ⟨w2.heap.size, 2, none⟩ = some (.int .i64 v.n) ∧ w''.cell? ⟨w2.heap.size, 3, none⟩ = some (.int .i64 v.who) ∧ w''.cell? ⟨w2.heap.size, 4, none⟩ = some (.int .i64 v.size) ∧ w''.cell? ⟨w2.heap.size, 5, none⟩ = some (.int .i64 v.at_) ∧ w''.cell? ⟨w2.heap.size, 6, none⟩ = some (.string v.text) ∧ w''.cell? ⟨w2.heap.size, 7, none⟩ = some (.int .i64 an)) ∧ (∃ S', Two Hd B w'' hp hm (putR L s ky v).2 s S') ∧ Below B w3.drew w'') := by
          have hd : Below w3.heap.size w3 w3.drew := (Below.refl _ _).drew
          exact (both_put HO.out (HT3.out.below HO.out.see hd) hB3 ⟨⟨#[112, 117, 116]⟩, ky, v, an⟩ hky hvt (HS.out _ (HB3.out.drew)) (show ActIs w3.drew w2.heap.size _ from hA3) HNS.out HNM.out)
        have HCO : Hid (∀ W ev c, BareIs ad ev c → (W.cell? ⟨w2.heap.size, 0, none⟩ = some (.string (⟨#[112, 117, 116]⟩ : ByteArray)) ∧ W.cell? ⟨w2.heap.size, 1, none⟩ = some (.string ky) ∧ W.cell? ⟨w2.heap.size, 2, none⟩ = some (.int .i64 v.n) ∧ W.cell? ⟨w2.heap.size, 3, none⟩ = some (.int .i64 v.who) ∧ W.cell? ⟨w2.heap.size, 4, none⟩ = some (.int .i64 v.size) ∧ W.cell? ⟨w2.heap.size, 5, none⟩ = some (.int .i64 v.at_) ∧ W.cell? ⟨w2.heap.size, 6, none⟩ = some (.string v.text) ∧ W.cell? ⟨w2.heap.size, 7, none⟩ = some (.int .i64 an)) → Below B w3.drew W → Calls Tryz.prog 9 #[ev, .int .i64 c] W fun e w' => e = .returned (.bool true) ∧ (w'.cell? ⟨w2.heap.size, 0, none⟩ = some (.string (⟨#[112, 117, 116]⟩ : ByteArray)) ∧ w'.cell? ⟨w2.heap.size, 1, none⟩ = some (.string ky) ∧ w'.cell? ⟨w2.heap.size, 2, none⟩ = some (.int .i64 v.n) ∧ w'.cell? ⟨w2.heap.size, 3, none⟩ = some (.int .i64 v.who) ∧ w'.cell? ⟨w2.heap.size, 4, none⟩ = some (.int .i64 v.size) ∧ w'.cell? ⟨w2.heap.size, 5, none⟩ = some (.int .i64 v.at_) ∧ w'.cell? ⟨w2.heap.size, 6, none⟩ = some (.string v.text) ∧ w'.cell? ⟨w2.heap.size, 7, none⟩ = some (.int .i64 an)) ∧ Below W.heap.size W w') := fun W ev c h1 h2 h3 => (coded2_any h1 W (HS.out W (HB3.out.drew.trans h3))).mono fun e w' ⟨h4, h5⟩ => ⟨h4, HKEEP.out W w' h2 h5, h5⟩
        have hS0 : (w3.drew.cell? ⟨w2.heap.size, 0, none⟩ = some (.string (⟨#[112, 117, 116]⟩ : ByteArray)) ∧ w3.drew.cell? ⟨w2.heap.size, 1, none⟩ = some (.string ky) ∧ w3.drew.cell? ⟨w2.heap.size, 2, none⟩ = some (.int .i64 v.n) ∧ w3.drew.cell? ⟨w2.heap.size, 3, none⟩ = some (.int .i64 v.who) ∧ w3.drew.cell? ⟨w2.heap.size, 4, none⟩ = some (.int .i64 v.size) ∧ w3.drew.cell? ⟨w2.heap.size, 5, none⟩ = some (.int .i64 v.at_) ∧ w3.drew.cell? ⟨w2.heap.size, 6, none⟩ = some (.string v.text) ∧ w3.drew.cell? ⟨w2.heap.size, 7, none⟩ = some (.int .i64 an)) := hA3
        generalize (putR L s ky v).1 = pc at *
        generalize (putR L s ky v).2 = L' at *
        go_wp2
        rw [← HW3.out]
        go_region_held3 (fun W => (W.cell? ⟨w2.heap.size, 0, none⟩ = some (.string (⟨#[112, 117, 116]⟩ : ByteArray)) ∧ W.cell? ⟨w2.heap.size, 1, none⟩ = some (.string ky) ∧ W.cell? ⟨w2.heap.size, 2, none⟩ = some (.int .i64 v.n) ∧ W.cell? ⟨w2.heap.size, 3, none⟩ = some (.int .i64 v.who) ∧ W.cell? ⟨w2.heap.size, 4, none⟩ = some (.int .i64 v.size) ∧ W.cell? ⟨w2.heap.size, 5, none⟩ = some (.int .i64 v.at_) ∧ W.cell? ⟨w2.heap.size, 6, none⟩ = some (.string v.text) ∧ W.cell? ⟨w2.heap.size, 7, none⟩ = some (.int .i64 an))) (first | assumption | exact hS0) (first | (go_at_call 16; refine HP.out.mono ?_; rintro e w4 ⟨ev, rfl, hI4, hX4, hC4⟩) | (go_at_call 26; refine hC4.mono ?_; rintro e w5 ⟨rfl, hX5, hT5, hB5⟩) | (go_at_call 9; refine (HCO.out _ ev pc hI4 (by assumption) hB5).mono ?_; rintro e w6 ⟨rfl, hX6, hb6⟩))
        have HT6 : Hid (∃ L s S, Two Hd B w6 hp hm L s S) := by
          obtain ⟨S', h⟩ := hT5
          exact ⟨L', s, S', h.below HO.out.see hb6⟩
        have HB6 : Hid (Below B w w6) := (HB3.out.drew.trans hB5).trans (hb6.mono (Nat.le_trans hB3 hB5.size))
        clear hT5 hB5 hb6 hX4 hX5 hX6 hI4 hC4 HP HCO hS0
        go_simp
        go_wp2
        go_roundw
        case rel => exact ⟨i + 1, by omega, by go_num, HT6.out, HB6.out⟩
        case measure => simp [intOf]; omega
      have p1 : (kk.toList == [112, 117, 116]) = false := lit_ne hp0
      clear hp0
      by_cases ht0 : kk = ⟨#[116, 114, 105, 109]⟩
      · subst ht0
        have HAI : Hid (ActIs w3 w2.heap.size ⟨⟨#[116, 114, 105, 109]⟩, ky, v, an⟩) := hA3
        by_cases hneg : an < 0
        · have HTB := HO.out.trimBad ky an hky hneg hn0 HT3.out.own (HS.out w3 HB3.out)
          have d1 : decide (an < 0) = true := decide_eq_true hneg
          obtain ⟨x0, x1, x2, x3, x4, x5, x6, x7⟩ := hA3
          go_wp2_with (rw [← HW3.out])
          refine HTB.mono ?_
          rintro e w4 ⟨⟨ev, rfl, hI⟩, hb4⟩
          have HCO := coded2_any hI w4 (HS.out w4 (HB3.out.trans (hb4.mono hB3)))
          have hA4 : ActIs w4 w2.heap.size ⟨⟨#[116, 114, 105, 109]⟩, ky, v, an⟩ := HAI.out.of_block (hb4.block _ (lt_of_cellH HAI.out.1))
          obtain ⟨y0, y1, y2, y3, y4, y5, y6, y7⟩ := hA4
          have HB4 : Hid (Below B w w4) := HB3.out.trans (hb4.mono hB3)
          have HT4 : Hid (Two Hd B w4 hp hm L s S) := HT3.out.below HO.out.see hb4
          have HZ4 : Hid (B ≤ w4.heap.size) := Nat.le_trans hB3 hb4.size
          clear hb4 HTB hI x0 x1 x2 x3 x4 x5 x6 x7
          go_wp2_with fail
          refine HCO.mono ?_
          rintro e w5 ⟨rfl, hb5⟩
          have HT5 : Hid (∃ L s S, Two Hd B w5 hp hm L s S) := ⟨L, s, S, HT4.out.below HO.out.see hb5⟩
          have HB5 : Hid (Below B w w5) := HB4.out.trans (hb5.mono HZ4.out)
          clear hb5 HCO
          go_wp2
          go_roundw
          case rel => exact ⟨i + 1, by omega, by go_num, HT5.out, HB5.out⟩
          case measure => simp [intOf]; omega
        · have HTR := both_trim HO.out HT3.out hB3 ⟨⟨#[116, 114, 105, 109]⟩, ky, v, an⟩ hky (by show 0 ≤ an; omega) hn1 HAI.out HNS.out
          have d1 : decide (an < 0) = false := decide_eq_false hneg
          obtain ⟨x0, x1, x2, x3, x4, x5, x6, x7⟩ := hA3
          have HTR' : Hid (Calls Tryz.prog 27 #[.pointer (some ⟨hp, 0, none⟩), .string ky, .int .i64 an] w3 fun e w' => e = .returned (.tuple #[.int .i64 ((goneN L ky an : Nat) : Int), .nilIface]) ∧ ActIs w' w2.heap.size ⟨⟨#[116, 114, 105, 109]⟩, ky, v, an⟩ ∧ w3.heap.size ≤ w'.heap.size ∧
            (∀ W, Below w'.heap.size w' W → Calls Tryz.prog 28 #[.pointer (some ⟨hm, 0, none⟩), .string ky, .int .i64 an] W fun e w'' => e = .returned (.int .i64 ((goneN L ky an : Nat) : Int)) ∧ (∃ S', Two Hd B w'' hp hm (trimL L ky an) s S') ∧ Below B w3 w'')) := HTR
          clear HTR
          generalize goneN L ky an = gn at *
          generalize trimL L ky an = L' at *
          go_wp2_with (rw [← HW3.out])
          refine HTR'.out.mono ?_
          rintro e w4 ⟨rfl, hA4, _, hC4⟩
          obtain ⟨y0, y1, y2, y3, y4, y5, y6, y7⟩ := hA4
          have HC4 := hC4 w4 (Below.refl _ _)
          clear hC4 HTR' x0 x1 x2 x3 x4 x5 x6 x7
          go_wp2_with fail
          refine HC4.mono ?_
          rintro e w5 ⟨rfl, hT5, hb5⟩
          have HT5 : Hid (∃ L s S, Two Hd B w5 hp hm L s S) := by
            obtain ⟨S', h⟩ := hT5
            exact ⟨L', s, S', h⟩
          have HB5 : Hid (Below B w w5) := HB3.out.trans hb5
          clear hb5 hT5 HC4 y0 y1 y2 y3 y4 y5 y6 y7
          go_wp2
          go_roundw
          case rel => exact ⟨i + 1, by omega, by go_num, HT5.out, HB5.out⟩
          case measure => simp [intOf]; omega
      have t1 : (kk.toList == [116, 114, 105, 109]) = false := lit_ne ht0
      clear ht0
      by_cases hs0 : kk = ⟨#[115, 101, 97, 108]⟩
      · subst hs0
        have HSE := both_seal HO.out HT3.out hB3
        obtain ⟨x0, x1, x2, x3, x4, x5, x6, x7⟩ := hA3
        go_wp2_with (rw [← HW3.out])
        refine HSE.mono ?_
        rintro e w4 ⟨rfl, ⟨z0, z1⟩, hT4, hb4⟩
        have HT4 : Hid (∃ L s S, Two Hd B (w4.setCell ⟨hm, 1, none⟩ (.bool true)) hp hm L s S) := by
          obtain ⟨S', h⟩ := hT4
          exact ⟨L, true, S', h⟩
        have HB4 : Hid (Below B w (w4.setCell ⟨hm, 1, none⟩ (.bool true))) := HB3.out.trans hb4
        clear hT4 hb4 HSE x0 x1 x2 x3 x4 x5 x6 x7
        go_wp2
        go_roundw
        case rel => exact ⟨i + 1, by omega, by go_num, HT4.out, HB4.out⟩
        case measure => simp [intOf]; omega
      have s1 : (kk.toList == [115, 101, 97, 108]) = false := lit_ne hs0
      clear hs0
      by_cases hw0 : kk = ⟨#[119, 105, 112, 101]⟩
      · subst hw0
        have HWI := both_wipe HO.out HT3.out hB3
        obtain ⟨x0, x1, x2, x3, x4, x5, x6, x7⟩ := hA3
        go_wp2_with (rw [← HW3.out])
        refine HWI.mono ?_
        rintro e w4 ⟨rfl, ⟨pz, nz, cz, z0⟩, ⟨z1, z2, z3⟩, hT4, hb4⟩
        have HT4 : Hid (∃ L s S, Two Hd B ((w4.setCell ⟨hm, 0, none⟩ (.slice none 0 0)).setCell ⟨hm, 1, none⟩ (.bool false)) hp hm L s S) := by
          obtain ⟨S', h⟩ := hT4
          exact ⟨[], false, S', h⟩
        have HB4 : Hid (Below B w ((w4.setCell ⟨hm, 0, none⟩ (.slice none 0 0)).setCell ⟨hm, 1, none⟩ (.bool false))) := HB3.out.trans hb4
        clear hT4 hb4 HWI x0 x1 x2 x3 x4 x5 x6 x7
        go_wp2
        go_roundw
        case rel => exact ⟨i + 1, by omega, by go_num, HT4.out, HB4.out⟩
        case measure => simp [intOf]; omega
      have v1 : (kk.toList == [119, 105, 112, 101]) = false := lit_ne hw0
      clear hw0
      have HAI : Hid (ActIs w3 w2.heap.size ⟨kk, ky, v, an⟩) := hA3
      have HLA := HO.out.last ky hky HT3.out.own
      obtain ⟨m0, hm0⟩ : ∃ m0, m0 = (getL L ky).length := ⟨_, rfl⟩
      have HM0 : Hid (m0 = (getL L ky).length) := hm0
      have HLZ : Hid (m0 = 0 → lastT (getL L ky) = (0, 0)) := fun h => by
        have : getL L ky = [] := List.length_eq_zero_iff.1 (by rw [← HM0.out]; exact h)
        rw [this]
        rfl
      have hgl : (getL L ky).length ≤ 900000 := Nat.le_trans (getL_le _ _) (by have := HT3.out.len; omega)
      have HMG : Hid (∀ W, Below w3.heap.size w3 W → Calls Tryz.prog 31 #[.pointer (some ⟨hm, 0, none⟩), .string ky] W fun e w' => (∃ p c, e = .returned (.slice p m0 c) ∧ Rec verE w' p (getL L ky)) ∧ Below W.heap.size W w') := fun W hW => by
        refine (rget_any hm L s ky W (by have := HT3.out.len; omega) (HT3.out.below HO.out.see hW).model).mono ?_
        rintro e w' ⟨⟨v, rfl, hv⟩, hb⟩
        obtain ⟨p, c, rfl, hs, _⟩ := hv.form
        exact ⟨⟨p, c, by rw [HM0.out], hs⟩, hb⟩
      have HGE : Hid (∀ W, Below w3.heap.size w3 W → Calls Tryz.prog 17 #[.pointer (some ⟨hp, 0, none⟩), .string ky] W fun e w' => (∃ p c, e = .returned (.slice p m0 c) ∧ Rec verE w' p (getL L ky)) ∧ Below W.heap.size W w') := fun W hW => by
        rw [HM0.out]
        exact HO.out.get ky hky (HT3.out.below HO.out.see hW).own
      have HSV : Hid (∀ W pa pb ca cb, Rec verE W pa (getL L ky) → Rec verE W pb (getL L ky) → Calls Tryz.prog 32 #[.slice pa m0 ca, .slice pb m0 cb] W fun e w' => e = .returned (.bool true) ∧ Below W.heap.size W w') := fun W pa pb ca cb h1 h2 => by
        have := sameVers_any pa pb _ _ ca cb W (by omega) h1 h2
        rw [decide_eq_true rfl, ← HM0.out] at this
        exact this
      rw [← hm0] at HLA hgl
      clear hm0 HM0
      generalize getL L ky = gl at *
      generalize hta : lastT gl = ta at *
      have HTA : Hid (m0 = 0 → ta = (0, 0)) := HLZ.out
      clear hta HLZ
      obtain ⟨t0, t9⟩ := ta
      obtain ⟨x0, x1, x2, x3, x4, x5, x6, x7⟩ := hA3
      go_wp2_with (rw [← HW3.out])
      refine HLA.mono ?_
      rintro e w4 ⟨rfl, hb4⟩
      obtain ⟨w5, hw5⟩ : ∃ w5, w5 = w4.alloc (.cells #[.int .i64 t0, .int .i64 t9] 45) := ⟨_, rfl⟩
      have hb45 : Below w4.heap.size w4 w5 := by rw [hw5]; exact (Below.refl _ _).alloc (Nat.le_refl _) _
      have r0 : w5.cell? ⟨w4.heap.size, 0, none⟩ = some (.int .i64 t0) := by rw [hw5]; simp
      have r1 : w5.cell? ⟨w4.heap.size, 1, none⟩ = some (.int .i64 t9) := by rw [hw5]; simp
      have HB35 : Hid (Below w3.heap.size w3 w5) := hb4.trans (hb45.mono hb4.size)
      have HTG : Hid (∀ W, Below w5.heap.size w5 W → W.cell? ⟨w4.heap.size, 0, none⟩ = some (.int .i64 t0) ∧ W.cell? ⟨w4.heap.size, 1, none⟩ = some (.int .i64 t9)) := fun W hW => ⟨(hW.cell (p := ⟨w4.heap.size, 0, none⟩) (lt_of_cellH r0)).trans r0, (hW.cell (p := ⟨w4.heap.size, 1, none⟩) (lt_of_cellH r0)).trans r1⟩
      have HW5 : Hid (w5 = w4.alloc (.cells #[.int .i64 t0, .int .i64 t9] 45)) := hw5
      have HKY : Hid (∀ W, Below w3.heap.size w3 W → W.cell? ⟨w2.heap.size, 1, none⟩ = some (.string ky)) := fun W hW => (hW.cell (p := ⟨w2.heap.size, 1, none⟩) (lt_of_cellH HAI.out.1)).trans HAI.out.2.1
      have y1 := HKY.out w5 HB35.out
      clear hb4 hb45 hw5 HLA r0 r1 x0 x1 x2 x3 x4 x5 x6 x7
      go_wp2_with (rw [← HW5.out])
      refine (HMG.out w5 HB35.out).mono ?_
      rintro e w6 ⟨⟨pm, cm, rfl, hrm⟩, hb6⟩
      have HB36 : Hid (Below w3.heap.size w3 w6) := HB35.out.trans (hb6.mono HB35.out.size)
      have HB56 : Hid (Below w5.heap.size w5 w6) := hb6
      have HRM : Hid (Rec verE w6 pm gl) := hrm
      have y2 := HKY.out w6 HB36.out
      clear hb6 hrm HMG y1
      go_wp2_with fail
      refine (HGE.out w6 HB36.out).mono ?_
      rintro e w7 ⟨⟨pg, cg, rfl, hrg⟩, hb7⟩
      have HB37 : Hid (Below w3.heap.size w3 w7) := HB36.out.trans (hb7.mono HB36.out.size)
      have HB57 : Hid (Below w5.heap.size w5 w7) := HB56.out.trans (hb7.mono HB56.out.size)
      have HSW := HSV.out w7 pg pm cg cm hrg (HRM.out.below hb7)
      clear hb7 hrg HGE y2 HSV
      go_wp2_with fail
      refine HSW.mono ?_
      rintro e w8 ⟨rfl, hb8⟩
      have HB38 : Hid (Below w3.heap.size w3 w8) := HB37.out.trans (hb8.mono HB37.out.size)
      obtain ⟨r0, r1⟩ := HTG.out w8 (HB57.out.trans (hb8.mono HB57.out.size))
      have HT8 : Hid (∃ L s S, Two Hd B w8 hp hm L s S) := ⟨L, s, S, HT3.out.below HO.out.see HB38.out⟩
      have HB8 : Hid (Below B w w8) := HB3.out.trans (HB38.out.mono hB3)
      clear hb8 HSW HTG
      by_cases hz : m0 = 0
      · have hta := HTA.out hz
        obtain ⟨rfl, rfl⟩ := Prod.mk.inj hta
        subst hz
        clear hta
        go_wp2
        go_roundw
        case rel => exact ⟨i + 1, by omega, by go_num, HT8.out, HB8.out⟩
        case measure => simp [intOf]; omega
      · have d1 : decide (0 < m0) = true := decide_eq_true (by omega)
        have d2 : decide (0 < (m0 : Int)) = true := decide_eq_true (by omega)
        have d3 : 0 < m0 := by omega
        go_wp2
        go_roundw
        case rel => exact ⟨i + 1, by omega, by go_num, HT8.out, HB8.out⟩
        case measure => simp [intOf]; omega
    · have hie : i = acts.length := by omega
      subst hie
      have HAS := asHold_any HO.out.see B hp hm L s S w2 HT2.out
      go_wp2_with fail
      refine HAS.mono ?_
      rintro e w3 ⟨rfl, hb3⟩
      have HT3 : Hid (∃ L s S, Two Hd B w3 hp hm L s S) := ⟨L, s, S, HT2.out.below HO.out.see hb3⟩
      have HB3 : Hid (Below B w w3) := HB2.out.trans (hb3.mono hB2)
      clear hb3 HAS
      go_wp2
      go_ret
      exact ⟨rfl, HT3.out, HB3.out⟩
set_option maxRecDepth 10000 in
set_option maxHeartbeats 4000000 in
theorem heavy_any (p : Option Addr) (l : List HAct) (c : Nat) (w : World) (hl : l.length ≤ maxLen) (hr : Rec actE w p l) :
    Calls Tryz.prog 13 #[.slice p l.length c] w fun e w' => (∃ r, e = .returned (.bool r)) ∧ Below w.heap.size w w' := by
  have HR : Hid (Rec actE w p l) := hr
  have hl' : l.length ≤ 9223372036854775807 := by unfold maxLen at hl; omega
  clear hr hl
  go_enter Tryz.func13, Tryz.ntmps13
  go_wp2
  go_loopw [3, 4] (fun y x wq => (∃ z : Int, y = .int .i64 z) ∧ (∃ i : Nat, i ≤ l.length ∧ x = .int .i64 i) ∧ ∃ n, wq = w.drewN n) (fun _ x _ => l.length - (intOf x).toNat)
  case atStart => exact ⟨⟨0, rfl⟩, ⟨0, Nat.zero_le _, rfl⟩, 0, rfl⟩
  case round =>
    obtain ⟨⟨z, rfl⟩, ⟨i, hi, rfl⟩, n, hw⟩ := hrel
    obtain ⟨w1, rfl⟩ : ∃ w1, w1 = wr := ⟨_, rfl⟩
    have HW : Hid (∃ n, w1 = w.drewN n) := ⟨n, hw⟩
    have HR1 : Hid (Rec actE w1 p l) := by show Rec actE w1 p l; rw [hw]; exact HR.out.drewN n
    clear hw
    by_cases hil : i < l.length
    · obtain ⟨b, o, hpp, hblt, c0, c1, c2, c3, c4, c5, c6, c7⟩ := act_cells HR1.out hil
      subst hpp
      generalize actAt l i = a at *
      obtain ⟨kk, ky, v, an⟩ := a
      go_wp2
      go_quiet (fail)
      go_wp2
      go_roundw
      case rel => exact ⟨⟨_, rfl⟩, ⟨i + 1, by omega, by go_num⟩, by obtain ⟨n, hn⟩ := HW.out; exact ⟨_, by rw [hn, World.drewN_drewN]⟩⟩
      case measure => simp [intOf]; omega
    · go_wp2
      go_ret
      exact ⟨⟨_, rfl⟩, by obtain ⟨n, hn⟩ := HW.out; rw [hn]; exact below_drewN (Below.refl _ _) n⟩
/-- A hold and its model, both new. -/
theorem two_new {ad : Nat → Addr} {Hd : World → Nat → (Nat → Prop) → List Kep → Bool → Prop} (hO : HoldOk ad Hd) (B : Nat) (w : World) (hB : B ≤ w.heap.size) :
    Two Hd B ((w.alloc (.cells #[.map none, .bool false] 39)).alloc (.cells #[.slice none 0 0, .bool false] 43)) w.heap.size (w.heap.size + 1) [] false (fun k => k = w.heap.size) := by
  have hb : Below (w.alloc (.cells #[.map none, .bool false] 39)).heap.size (w.alloc (.cells #[.map none, .bool false] 39)) ((w.alloc (.cells #[.map none, .bool false] 39)).alloc (.cells #[.slice none 0 0, .bool false] 43)) := (Below.refl _ _).alloc (Nat.le_refl _) _
  refine ⟨hO.keep (hO.zero w) hb.size (fun k hk => hb.block k (hO.lt (hO.zero w) k hk)), fun k hk => by have : k = w.heap.size := hk; omega, by show ¬ (_ = _); omega, fun h => absurd rfl h, ⟨⟨none, 0, by simp, Or.inl rfl, Nat.le_refl _, fun _ => ⟨rfl, rfl⟩, fun b o h => by cases h⟩, by simp, by simp, by simp⟩, by omega, by simp, fun x hx => by cases hx⟩
set_option maxRecDepth 10000 in
set_option maxHeartbeats 1600000 in
theorem holdActs_any {ad : Nat → Addr} {Hd : World → Nat → (Nat → Prop) → List Kep → Bool → Prop} (hO : HoldOk ad Hd) (pl : Option Addr) (acts : List HAct) (cl : Nat) (w : World) (hl : acts.length ≤ maxLen) (hr : Rec actE w pl acts)
    (hS : ∀ W, Below w.heap.size w W → Sent W ad) (hx : ∀ i, i < acts.length → (actAt acts i).key.size ≤ maxLen ∧ (actAt acts i).v.text.size ≤ maxLen ∧ -9223372036854775808 ≤ (actAt acts i).n ∧ (actAt acts i).n ≤ 9223372036854775807) :
    Calls Tryz.prog 4 #[.slice pl acts.length cl] w fun e w' => e = .returned (.bool true) ∧ Below w.heap.size w w' := by
  have HH := holds_any hO.toHoldOk0 w hS
  have HR : Hid (Rec actE w pl acts) := hr
  have HO : Hid (HoldOk ad Hd) := hO
  have HS : Hid (∀ W, Below w.heap.size w W → Sent W ad) := hS
  have HX : Hid (∀ i, i < acts.length → (actAt acts i).key.size ≤ maxLen ∧ (actAt acts i).v.text.size ≤ maxLen ∧ -9223372036854775808 ≤ (actAt acts i).n ∧ (actAt acts i).n ≤ 9223372036854775807) := hx
  have HL : Hid (acts.length ≤ maxLen) := hl
  clear hl hr hO hS hx
  go_enter Tryz.func4, Tryz.ntmps4
  go_wp2_with fail
  refine HH.mono ?_
  rintro e w1 ⟨rfl, hb1⟩
  clear HH
  have HB1 : Hid (Below w.heap.size w w1) := hb1
  have HV := heavy_any pl acts cl w1 HL.out (HR.out.below hb1)
  clear hb1
  go_wp2_with fail
  refine HV.mono ?_
  rintro e w2 ⟨⟨r, rfl⟩, hb2⟩
  clear HV
  have HB2 : Hid (Below w.heap.size w w2) := HB1.out.trans (hb2.mono HB1.out.size)
  clear hb2 HB1
  cases r
  · obtain ⟨w3, hw3⟩ : ∃ w3, w3 = (w2.alloc (.cells #[.map none, .bool false] 39)).alloc (.cells #[.slice none 0 0, .bool false] 43) := ⟨_, rfl⟩
    have hb3 : Below w.heap.size w w3 := by rw [hw3]; exact HB2.out.trans ((((Below.refl w2.heap.size _).alloc (Nat.le_refl _) _).alloc (by simp) _).mono HB2.out.size)
    have hT := two_new HO.out w.heap.size w2 HB2.out.size
    rw [← hw3] at hT
    have HP := play_any HO.out w.heap.size w2.heap.size (w2.heap.size + 1) [] false _ pl acts cl w3 hT hb3.size HL.out (fun W hW => HR.out.below (hb3.trans hW)) (fun W hW => HS.out W (hb3.trans hW)) HX.out
    have HW3 : Hid (w3 = (w2.alloc (.cells #[.map none, .bool false] 39)).alloc (.cells #[.slice none 0 0, .bool false] 43)) := hw3
    have HB3 : Hid (Below w.heap.size w w3) := hb3
    clear hw3 hb3 hT HB2
    go_wp2_with fail
    rw [← HW3.out]
    refine HP.mono ?_
    rintro e w4 ⟨rfl, _, hb4⟩
    go_wp2
    go_ret
    exact ⟨rfl, HB3.out.trans hb4⟩
  · go_wp2
    go_ret
    exact ⟨rfl, HB2.out⟩
set_option maxRecDepth 10000 in
set_option maxHeartbeats 1600000 in
/-- Where a number is no place, or no bit, it is passed by. -/
theorem holdSaves_pass {ad : Nat → Addr} {Hd : World → Nat → (Nat → Prop) → List Kep → Bool → Prop} (hO : HoldOk ad Hd) (pl pm : Option Addr) (acts more : List HAct) (cl cm : Nat) (at_ bit : Int) (w : World) (hl : acts.length ≤ maxLen) (hlm : more.length ≤ maxLen) (hr : Rec actE w pl acts) (hrm : Rec actE w pm more)
    (hS : ∀ W, Below w.heap.size w W → Sent W ad) (hbad : at_ < 0 ∨ bit < 0 ∨ 7 < bit) :
    Calls Tryz.prog 5 #[.slice pl acts.length cl, .slice pm more.length cm, .int .i64 at_, .int .i64 bit] w fun e w' => e = .returned (.bool true) ∧ Below w.heap.size w w' := by
  have HH := holds_any hO.toHoldOk0 w hS
  have HR : Hid (Rec actE w pl acts) := hr
  have HRM : Hid (Rec actE w pm more) := hrm
  have HL : Hid (acts.length ≤ maxLen) := hl
  have HLM : Hid (more.length ≤ maxLen) := hlm
  clear hl hr hO hS hlm hrm
  go_enter Tryz.func5, Tryz.ntmps5
  go_wp2_with fail
  refine HH.mono ?_
  rintro e w1 ⟨rfl, hb1⟩
  clear HH
  have HB1 : Hid (Below w.heap.size w w1) := hb1
  have HV := heavy_any pl acts cl w1 HL.out (HR.out.below hb1)
  clear hb1
  go_wp2_with fail
  refine HV.mono ?_
  rintro e w2 ⟨⟨r, rfl⟩, hb2⟩
  clear HV
  have HB2 : Hid (Below w.heap.size w w2) := HB1.out.trans (hb2.mono HB1.out.size)
  clear hb2 HB1
  cases r
  · have HV := heavy_any pm more cm w2 HLM.out (HRM.out.below HB2.out)
    go_wp2_with fail
    refine HV.mono ?_
    rintro e w3 ⟨⟨r, rfl⟩, hb3⟩
    clear HV
    have HB3 : Hid (Below w.heap.size w w3) := HB2.out.trans (hb3.mono HB2.out.size)
    clear hb3 HB2
    cases r
    · by_cases h1 : at_ < 0
      · have d1 : decide (at_ < 0) = true := decide_eq_true h1
        go_wp2
        go_ret
        exact ⟨rfl, HB3.out⟩
      · have d1 : decide (at_ < 0) = false := decide_eq_false h1
        by_cases h2 : bit < 0
        · have d2 : decide (bit < 0) = true := decide_eq_true h2
          go_wp2
          go_ret
          exact ⟨rfl, HB3.out⟩
        · have d2 : decide (bit < 0) = false := decide_eq_false h2
          have d3 : decide (7 < bit) = true := decide_eq_true (by omega)
          clear hbad
          go_wp2
          go_ret
          exact ⟨rfl, HB3.out⟩
    · go_wp2
      go_ret
      exact ⟨rfl, HB3.out⟩
  · go_wp2
    go_ret
    exact ⟨rfl, HB2.out⟩
set_option maxRecDepth 10000 in
set_option maxHeartbeats 4000000 in
theorem holdSaves_in {ad : Nat → Addr} {Hd : World → Nat → (Nat → Prop) → List Kep → Bool → Prop} {Saved : ByteArray → List Kep → Bool → Prop} {X : World → Prop} (hO : HoldOk ad Hd) (hV : SaveOk ad Hd Saved X) (pl pm : Option Addr) (acts more : List HAct) (cl cm : Nat) (a k : Nat) (hk : k ≤ 7) (ha : a ≤ 9223372036854775807) (w : World) (hl : acts.length ≤ maxLen) (hlm : more.length ≤ maxLen) (hr : Rec actE w pl acts) (hrm : Rec actE w pm more)
    (hS : ∀ W, Below w.heap.size w W → Sent W ad) (hXX : ∀ W, Below w.heap.size w W → X W) (hx : ∀ i, i < acts.length → (actAt acts i).key.size ≤ maxLen ∧ (actAt acts i).v.text.size ≤ maxLen ∧ -9223372036854775808 ≤ (actAt acts i).n ∧ (actAt acts i).n ≤ 9223372036854775807)
    (hxm : ∀ i, i < more.length → (actAt more i).key.size ≤ maxLen ∧ (actAt more i).v.text.size ≤ maxLen ∧ -9223372036854775808 ≤ (actAt more i).n ∧ (actAt more i).n ≤ 9223372036854775807) :
    Calls Tryz.prog 5 #[.slice pl acts.length cl, .slice pm more.length cm, .int .i64 (a : Int), .int .i64 (k : Int)] w fun e w' => e = .returned (.bool true) ∧ Below w.heap.size w w' := by
  have HH := holds_any hO.toHoldOk0 w hS
  have HR : Hid (Rec actE w pl acts) := hr
  have HRM : Hid (Rec actE w pm more) := hrm
  have HL : Hid (acts.length ≤ maxLen) := hl
  have HLM : Hid (more.length ≤ maxLen) := hlm
  have HO : Hid (HoldOk ad Hd) := hO
  have HVO : Hid (SaveOk ad Hd Saved X) := hV
  have HS : Hid (∀ W, Below w.heap.size w W → Sent W ad) := hS
  have HXX : Hid (∀ W, Below w.heap.size w W → X W) := hXX
  have HX : Hid (∀ i, i < acts.length → (actAt acts i).key.size ≤ maxLen ∧ (actAt acts i).v.text.size ≤ maxLen ∧ -9223372036854775808 ≤ (actAt acts i).n ∧ (actAt acts i).n ≤ 9223372036854775807) := hx
  have HXM : Hid (∀ i, i < more.length → (actAt more i).key.size ≤ maxLen ∧ (actAt more i).v.text.size ≤ maxLen ∧ -9223372036854775808 ≤ (actAt more i).n ∧ (actAt more i).n ≤ 9223372036854775807) := hxm
  have d1 : decide ((a : Int) < 0) = false := decide_eq_false (by omega)
  have d2 : decide ((k : Int) < 0) = false := decide_eq_false (by omega)
  have d3 : decide (7 < (k : Int)) = false := decide_eq_false (by omega)
  clear hl hr hO hS hlm hrm hV hx hxm hXX
  go_enter Tryz.func5, Tryz.ntmps5
  go_wp2_with fail
  refine HH.mono ?_
  rintro e w1 ⟨rfl, hb1⟩
  clear HH
  have HB1 : Hid (Below w.heap.size w w1) := hb1
  have HV := heavy_any pl acts cl w1 HL.out (HR.out.below hb1)
  clear hb1
  go_wp2_with fail
  refine HV.mono ?_
  rintro e w2 ⟨⟨r, rfl⟩, hb2⟩
  clear HV
  have HB2 : Hid (Below w.heap.size w w2) := HB1.out.trans (hb2.mono HB1.out.size)
  clear hb2 HB1
  cases r
  rotate_left
  · go_wp2
    go_ret
    exact ⟨rfl, HB2.out⟩
  have HV := heavy_any pm more cm w2 HLM.out (HRM.out.below HB2.out)
  go_wp2_with fail
  refine HV.mono ?_
  rintro e w3 ⟨⟨r, rfl⟩, hb3⟩
  clear HV
  have HB3 : Hid (Below w.heap.size w w3) := HB2.out.trans (hb3.mono HB2.out.size)
  clear hb3 HB2
  cases r
  rotate_left
  · go_wp2
    go_ret
    exact ⟨rfl, HB3.out⟩
  obtain ⟨w4, hw4⟩ : ∃ w4, w4 = (w3.alloc (.cells #[.map none, .bool false] 39)).alloc (.cells #[.slice none 0 0, .bool false] 43) := ⟨_, rfl⟩
  have hb4 : Below w.heap.size w w4 := by rw [hw4]; exact HB3.out.trans ((((Below.refl w3.heap.size _).alloc (Nat.le_refl _) _).alloc (by simp) _).mono HB3.out.size)
  have hT := two_new HO.out w.heap.size w3 HB3.out.size
  rw [← hw4] at hT
  have HP := play_any HO.out w.heap.size w3.heap.size (w3.heap.size + 1) [] false _ pl acts cl w4 hT hb4.size HL.out (fun W hW => HR.out.below (hb4.trans hW)) (fun W hW => HS.out W (hb4.trans hW)) HX.out
  have HW4 : Hid (w4 = (w3.alloc (.cells #[.map none, .bool false] 39)).alloc (.cells #[.slice none 0 0, .bool false] 43)) := hw4
  have HB4 : Hid (Below w.heap.size w w4) := hb4
  clear hw4 hb4 hT HB3 HR HX HL
  go_wp2_with fail
  rw [← HW4.out]
  refine HP.mono ?_
  rintro e w5 ⟨rfl, ⟨L, s, S, hT5⟩, hb5⟩
  have HT5 : Hid (Two Hd w.heap.size w5 w3.heap.size (w3.heap.size + 1) L s S) := hT5
  have HB5 : Hid (Below w.heap.size w w5) := HB4.out.trans hb5
  clear HP HW4 HB4 hb5
  generalize w3.heap.size = hp at *
  obtain ⟨p, c, q0, hrec, _, _, _⟩ := hT5.model.row
  obtain ⟨hfl, hfx⟩ := HVO.out.fits hT5.own
  have HREC : Hid (Rec kepE w5 p L) := hrec
  have HFX : Hid (∀ i, i ≤ L.length → bytesK (L.take i) ≤ i * 1016) := bytesK_le hfx
  have HFL : Hid (L.length ≤ 60) := hfl
  have HFT : Hid (∀ i, i < L.length → (kepAt L i).1.size ≤ 16 ∧ (kepAt L i).2.text.size ≤ 1000) := fun i hi => hfx _ (List.mem_of_getElem? (kepAt_get hi))
  clear hT5 hrec hfx
  have hfl' : L.length ≤ 9223372036854775807 := by omega
  clear hfl
  go_wp2
  go_loopw [12, 13] (fun y x wq => ∃ i : Nat, i ≤ L.length ∧ x = .int .i64 i ∧ y = .int .i64 ((bytesK (L.take i) : Nat) : Int) ∧ ∃ n, wq = w5.drewN n) (fun _ x _ => L.length - (intOf x).toNat)
  case atStart => exact ⟨0, Nat.zero_le _, rfl, by simp [bytesK], 0, rfl⟩
  case round =>
    obtain ⟨i, hi, rfl, rfl, n, hw⟩ := hrel
    obtain ⟨w6, rfl⟩ : ∃ w6, w6 = wr := ⟨_, rfl⟩
    have HW6 : Hid (∃ n, w6 = w5.drewN n) := ⟨n, hw⟩
    have HR6 : Hid (Rec kepE w6 p L) := by show Rec kepE w6 p L; rw [hw]; exact HREC.out.drewN n
    have q6 : w6.cell? ⟨hp + 1, 0, none⟩ = some (.slice p L.length c) := by rw [hw]; exact q0
    clear hw q0
    by_cases hil : i < L.length
    · obtain ⟨b, o, hpp, hblt, c0, c1, c2, c3, c4, c5⟩ := kep_cells HR6.out hil
      obtain ⟨z1, z2⟩ := HFT.out i hil
      have HSU : Hid (bytesK (L.take (i + 1)) = bytesK (L.take i) + ((kepAt L i).1.size + (kepAt L i).2.text.size)) := bytesK_succ hil
      have HBD : Hid (bytesK (L.take i) ≤ i * 1016) := HFX.out i (by omega)
      have hbd : bytesK (L.take i) ≤ 100000 := by have := HBD.out; have := HFL.out; omega
      subst hpp
      generalize bytesK (L.take i) = y at *
      generalize kepAt L i = x at *
      obtain ⟨xk, xv⟩ := x
      clear hblt
      go_wp2
      go_quiet (fail)
      go_wp2
      go_roundw
      case rel => exact ⟨i + 1, by omega, by go_num, by rw [HSU.out]; go_num, by obtain ⟨n, hn⟩ := HW6.out; exact ⟨_, by rw [hn, World.drewN_drewN]⟩⟩
      case measure => simp [intOf]; omega
    · have hie : i = L.length := by omega
      subst hie
      have HBY : Hid (bytesK (L.take L.length) = bytesK L) := by show _ = _; rw [List.take_length]
      rw [HBY.out]
      have HB6 : Hid (Below w.heap.size w w6) := by obtain ⟨n, hn⟩ := HW6.out; rw [hn]; exact below_drewN HB5.out n
      have HT6 : Hid (Two Hd w.heap.size w6 hp (hp + 1) L s S) := HT5.out.below HO.out.see (by obtain ⟨n, hn⟩ := HW6.out; rw [hn]; exact below_drewN (Below.refl _ _) n)
      have HSV := HVO.out.save HT6.out.own (HS.out w6 HB6.out) (HXX.out w6 HB6.out)
      have hby : bytesK L ≤ 100000 := by have := HFX.out L.length (Nat.le_refl _); rw [HBY.out] at this; have := HFL.out; omega
      clear HBY HFT HFX HT5 HB5 HREC HW6 HR6
      generalize hgb : bytesK L = bk at *
      go_wp2_with fail
      refine HSV.mono ?_
      rintro e w7 ⟨(⟨t, rfl, hsv⟩ | ⟨ev, rfl, hev, hbig⟩), hb7⟩
      rotate_left
      · obtain ⟨_, rfl⟩ := bare_at (i := 6) hev
        have HB7 : Hid (Below w.heap.size w w7) := HB6.out.trans (hb7.mono HB6.out.size)
        have HCO := coded2_any hev w7 (HS.out w7 HB7.out)
        have d4 : decide (4000 < (bk : Int)) = true := decide_eq_true (by omega)
        clear hb7 HSV hev
        generalize ad 6 = a6 at *
        go_wp2_with fail
        refine HCO.mono ?_
        rintro e w8 ⟨rfl, hb8⟩
        go_wp2
        go_ret
        exact ⟨rfl, HB7.out.trans (hb8.mono HB7.out.size)⟩
      clear HSV hby hgb
      have HB7 : Hid (Below w.heap.size w w7) := HB6.out.trans (hb7.mono HB6.out.size)
      have HT7 : Hid (Two Hd w.heap.size w7 hp (hp + 1) L s S) := HT6.out.below HO.out.see hb7
      have HLD := HVO.out.load hsv w7 (HS.out w7 HB7.out) (HXX.out w7 HB7.out)
      obtain ⟨x, htx, hxs⟩ := HVO.out.sealed_ hsv
      have HTX : Hid (t = sealT x) := htx
      have HTZ : Hid (t.size = x.size + 4) := by show _ = _; rw [htx]; exact sealT_size x
      clear hb7 HT6 HB6 hsv htx
      go_wp2_with fail
      refine HLD.mono ?_
      rintro e w8 ⟨⟨h2, S2, rfl, hD8, hn8⟩, hb8⟩
      have HB8 : Hid (Below w.heap.size w w8) := HB7.out.trans (hb8.mono HB7.out.size)
      have HT8 : Hid (Two Hd w.heap.size w8 h2 (hp + 1) L s S2) := HT7.out.other hb8 HB7.out.size hD8 hn8 HO.out
      have HAH := asHold_any HO.out.see w.heap.size h2 (hp + 1) L s S2 w8 HT8.out
      clear HLD hD8 hn8 hb8 HT7 HB7
      go_wp2_with fail
      refine HAH.mono ?_
      rintro e w9 ⟨rfl, hb9⟩
      have HB9 : Hid (Below w.heap.size w w9) := HB8.out.trans (hb9.mono HB8.out.size)
      have HT9 : Hid (Two Hd w.heap.size w9 h2 (hp + 1) L s S2) := HT8.out.below HO.out.see hb9
      clear HAH hb9 HT8 HB8
      by_cases hat : a < t.size
      · have hat' : (a : Int) < (t.size : Int) := by omega
        have d5 : decide ((a : Int) < (t.size : Int)) = true := decide_eq_true hat'
        have htz := HTZ.out
        have hlen : (bytesOf t).length = t.size := bytesOf_length t
        have hcv : Sem.run Tryz.prog (convert 9 53 (.string t)) w9 = .ok (.slice (some ⟨w9.heap.size, 0, none⟩) t.size (grownCap w9 t.size 0 5)) (Lib.bytesWorld w9 5 t) := Lib.run_convert_string_bytes (P := Tryz.prog) w9 9 53 5 t Tryz.underlying9 Tryz.underlying53 Tryz.underlying5
        have hR := brow_bytesWorld w9 5 t
        have hbw := below_bytesWorld w9 5 t
        have HT10 : Hid (Two Hd w.heap.size (Lib.bytesWorld w9 5 t) h2 (hp + 1) L s S2) := HT9.out.below HO.out.see hbw
        have HB10 : Hid (Below w9.heap.size w9 (Lib.bytesWorld w9 5 t)) := hbw
        have hgw : w.heap.size ≤ w9.heap.size := HB9.out.size
        generalize Lib.bytesWorld w9 5 t = w10 at hcv hR HT10 HB10
        generalize grownCap w9 t.size 0 5 = cp at hcv
        clear hbw
        obtain ⟨g, hg⟩ : ∃ g, g = w9.heap.size := ⟨_, rfl⟩
        rw [← hg] at hcv hR hgw
        have HG : Hid (g = w9.heap.size) := hg
        clear hg
        have q1 := hR.cell (j := a) (by omega)
        have q2 := hR.free (j := a) (by omega)
        have lx := hR.2.1 a
        have hp2 : 2 ^ k < 256 := Nat.lt_of_lt_of_le (Nat.pow_lt_pow_right (by decide) (by omega : k < 8)) (by decide)
        have HXV : Hid (bits .xor .u8 ((Gf.nth (bytesOf t) a : Nat) : Int) ((2 : Int) ^ k % 256) = ((Gf.nth (bytesOf t) a ^^^ 2 ^ k : Nat) : Int)) := by
          show _ = _
          rw [show ((2 : Int) ^ k % 256) = ((2 ^ k : Nat) : Int) by
            rw [show ((2 : Int) ^ k) = ((2 ^ k : Nat) : Int) by simp]
            generalize 2 ^ k = y at *
            omega]
          exact u8_xor_nat _ _ lx hp2
        have HFL1 : Hid (flip1 (bytesOf t) (8 * a + k) = (bytesOf t).set a (Gf.nth (bytesOf t) a ^^^ 2 ^ k)) := by
          show _ = _
          unfold flip1
          rw [show (8 * a + k) / 8 = a by omega, show (8 * a + k) % 8 = k by omega]
        have hbad : fourT (crcOf (cutT (strOf (flip1 (bytesOf t) (8 * a + k))))) ≠ endT (strOf (flip1 (bytesOf t) (8 * a + k))) := by
          rw [HTX.out]
          exact flip_open x (8 * a + k) (by omega)
        have hR2 := hR.set (i := a) (v := Gf.nth (bytesOf t) a ^^^ 2 ^ k) (by omega) (Gf.xlt lx hp2)
        rw [← HXV.out, ← HFL1.out] at hR2
        have hfl1 : (flip1 (bytesOf t) (8 * a + k)).length = t.size := by rw [flip1_length, hlen]
        have hcv2 : Sem.run Tryz.prog (convert 53 9 (.slice (some ⟨g, 0, none⟩) t.size cp)) (w10.setCell ⟨g, a, none⟩ (.int .u8 (bits .xor .u8 ((Gf.nth (bytesOf t) a : Nat) : Int) ((2 : Int) ^ k % 256)))) = .ok (.string (strOf (flip1 (bytesOf t) (8 * a + k)))) (w10.setCell ⟨g, a, none⟩ (.int .u8 (bits .xor .u8 ((Gf.nth (bytesOf t) a : Nat) : Int) ((2 : Int) ^ k % 256)))) := by
          have h := conv_seg hR2.seg cp
          rw [hfl1] at h
          exact h
        have hb11 : Below w.heap.size w (w10.setCell ⟨g, a, none⟩ (.int .u8 (bits .xor .u8 ((Gf.nth (bytesOf t) a : Nat) : Int) ((2 : Int) ^ k % 256)))) := (HB9.out.trans (HB10.out.mono HB9.out.size)).setCell (p := ⟨g, a, none⟩) hgw _
        have hb911 : Below w9.heap.size w9 (w10.setCell ⟨g, a, none⟩ (.int .u8 (bits .xor .u8 ((Gf.nth (bytesOf t) a : Nat) : Int) ((2 : Int) ^ k % 256)))) := HB10.out.setCell (p := ⟨g, a, none⟩) (by rw [HG.out]; exact Nat.le_refl _) _
        have HLB := HVO.out.loadBad _ (w10.setCell ⟨g, a, none⟩ (.int .u8 (bits .xor .u8 ((Gf.nth (bytesOf t) a : Nat) : Int) ((2 : Int) ^ k % 256)))) (by rw [strOf_size, hfl1]; omega) (by rw [strOf_size, hfl1]; omega) hbad (HS.out _ hb11) (HXX.out _ hb11)
        have HT11 : Hid (Two Hd w.heap.size (w10.setCell ⟨g, a, none⟩ (.int .u8 (bits .xor .u8 ((Gf.nth (bytesOf t) a : Nat) : Int) ((2 : Int) ^ k % 256)))) h2 (hp + 1) L s S2) := HT9.out.below HO.out.see hb911
        have HB11 : Hid (Below w.heap.size w (w10.setCell ⟨g, a, none⟩ (.int .u8 (bits .xor .u8 ((Gf.nth (bytesOf t) a : Nat) : Int) ((2 : Int) ^ k % 256))))) := hb11
        generalize strOf (flip1 (bytesOf t) (8 * a + k)) = t2 at *
        generalize Gf.nth (bytesOf t) a = y at *
        clear hbad hb11 hb911 hR hR2 hfl1 HXV HFL1 HT10 HB10 HT9 HB9 HTX hxs hlen lx hp2 htz HTZ
        rw [HG.out] at hcv q1 q2 hcv2 HLB HT11 HB11
        go_wp2_with fail
        refine HLB.mono ?_
        rintro e w12 ⟨⟨ev, rfl, hev⟩, hb12⟩
        have HB12 : Hid (Below w.heap.size w w12) := HB11.out.trans (hb12.mono HB11.out.size)
        have HT12 : Hid (Two Hd w.heap.size w12 h2 (hp + 1) L s S2) := HT11.out.below HO.out.see hb12
        have HCO := coded2_any hev w12 (HS.out w12 HB12.out)
        obtain ⟨_, rfl⟩ := bare_at (i := 8) hev
        clear hev hb12 HT11 HB11 HLB hcv2 hcv q1 q2
        go_wp2_with fail
        refine HCO.mono ?_
        rintro e w13 ⟨rfl, hb13⟩
        have HB13 : Hid (Below w.heap.size w w13) := HB12.out.trans (hb13.mono HB12.out.size)
        have HT13 : Hid (Two Hd w.heap.size w13 h2 (hp + 1) L s S2) := HT12.out.below HO.out.see hb13
        have HP := play_any HO.out w.heap.size h2 (hp + 1) L s S2 pm more cm w13 HT13.out HB13.out.size HLM.out (fun W hW => HRM.out.below (HB13.out.trans hW)) (fun W hW => HS.out W (HB13.out.trans hW)) HXM.out
        clear HCO hb13 HT12 HB12
        go_wp2_with fail
        refine HP.mono ?_
        rintro e wz ⟨rfl, _, hbz⟩
        go_wp2
        go_ret
        exact ⟨rfl, HB13.out.trans hbz⟩
      · have d5 : decide ((a : Int) < (t.size : Int)) = false := decide_eq_false (by omega)
        have HP := play_any HO.out w.heap.size h2 (hp + 1) L s S2 pm more cm w9 HT9.out HB9.out.size HLM.out (fun W hW => HRM.out.below (HB9.out.trans hW)) (fun W hW => HS.out W (HB9.out.trans hW)) HXM.out
        go_wp2_with fail
        refine HP.mono ?_
        rintro e wz ⟨rfl, _, hbz⟩
        go_wp2
        go_ret
        exact ⟨rfl, HB9.out.trans hbz⟩
/-- HoldSaves holds. -/
theorem holdSaves_any {ad : Nat → Addr} {Hd : World → Nat → (Nat → Prop) → List Kep → Bool → Prop} {Saved : ByteArray → List Kep → Bool → Prop} {X : World → Prop} (hO : HoldOk ad Hd) (hV : SaveOk ad Hd Saved X) (pl pm : Option Addr) (acts more : List HAct) (cl cm : Nat) (at_ bit : Int) (hat : at_ ≤ 9223372036854775807) (w : World) (hl : acts.length ≤ maxLen) (hlm : more.length ≤ maxLen) (hr : Rec actE w pl acts) (hrm : Rec actE w pm more)
    (hS : ∀ W, Below w.heap.size w W → Sent W ad) (hXX : ∀ W, Below w.heap.size w W → X W) (hx : ∀ i, i < acts.length → (actAt acts i).key.size ≤ maxLen ∧ (actAt acts i).v.text.size ≤ maxLen ∧ -9223372036854775808 ≤ (actAt acts i).n ∧ (actAt acts i).n ≤ 9223372036854775807)
    (hxm : ∀ i, i < more.length → (actAt more i).key.size ≤ maxLen ∧ (actAt more i).v.text.size ≤ maxLen ∧ -9223372036854775808 ≤ (actAt more i).n ∧ (actAt more i).n ≤ 9223372036854775807) :
    Calls Tryz.prog 5 #[.slice pl acts.length cl, .slice pm more.length cm, .int .i64 at_, .int .i64 bit] w fun e w' => e = .returned (.bool true) ∧ Below w.heap.size w w' := by
  by_cases h : at_ < 0 ∨ bit < 0 ∨ 7 < bit
  · exact holdSaves_pass hO pl pm acts more cl cm at_ bit w hl hlm hr hrm hS h
  · obtain ⟨a, rfl⟩ : ∃ a : Nat, at_ = (a : Int) := ⟨at_.toNat, by omega⟩
    obtain ⟨k, rfl⟩ : ∃ k : Nat, bit = (k : Int) := ⟨bit.toNat, by omega⟩
    exact holdSaves_in hO hV pl pm acts more cl cm a k (by omega) (by omega) w hl hlm hr hrm hS hXX hx hxm
end Go.Proofs.YtmbpfbhpmafheaaGreatDoor
