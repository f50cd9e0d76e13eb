/- Acts on a hold, in memory; what they make of the model's list. -/
import Derived.Test.YtoapbjifkjehhaaGreatDoorHoldCW
import Derived.Test.YtoapbjifkjehhaaGreatDoorG12
namespace Go.Proofs.YtoapbjifkjehhaaGreatDoor
open Go.RowKit
/-- An act: its kind, a key, a version, a number. -/
structure HAct where
  kind : ByteArray
  key : ByteArray
  v : Ver
  n : Int
def actC (a : HAct) : List Value := .string a.kind :: .string a.key :: (verC a.v ++ [.int .i64 a.n])
def actE : Enc HAct := ⟨8, by decide, actC, fun _ => rfl, fun x u hu => by
  simp [actC, verC] at hu
  rcases hu with rfl | rfl | rfl | rfl | rfl | rfl | rfl | rfl <;> rfl⟩
def actAt (l : List HAct) (i : Nat) : HAct := l.getD i ⟨⟨#[]⟩, ⟨#[]⟩, ⟨0, 0, 0, 0, ⟨#[]⟩⟩, 0⟩
theorem actAt_get {l : List HAct} {i : Nat} (hi : i < l.length) : l[i]? = some (actAt l i) := by
  unfold actAt
  rw [List.getD_eq_getElem?_getD, List.getElem?_eq_getElem hi]
  rfl
theorem act_cells {w : World} {p : Option Addr} {l : List HAct} (h : Rec actE w p l) {i : Nat} (hi : i < l.length) : ∃ b o, p = some ⟨b, o, none⟩ ∧ b < w.heap.size ∧ w.cell? ⟨b, o + i * 8, none⟩ = some (.string (actAt l i).kind) ∧ w.cell? ⟨b, o + i * 8 + 1, none⟩ = some (.string (actAt l i).key) ∧ w.cell? ⟨b, o + i * 8 + 2, none⟩ = some (.int .i64 (actAt l i).v.n) ∧ w.cell? ⟨b, o + i * 8 + 3, none⟩ = some (.int .i64 (actAt l i).v.who) ∧ w.cell? ⟨b, o + i * 8 + 4, none⟩ = some (.int .i64 (actAt l i).v.size) ∧ w.cell? ⟨b, o + i * 8 + 5, none⟩ = some (.int .i64 (actAt l i).v.at_) ∧ w.cell? ⟨b, o + i * 8 + 6, none⟩ = some (.string (actAt l i).v.text) ∧ w.cell? ⟨b, o + i * 8 + 7, none⟩ = some (.int .i64 (actAt l i).n) := by
  rcases h with h | ⟨b, o, hp, hlt, hc⟩
  · rw [h] at hi; exact absurd hi (Nat.not_lt_zero _)
  · have hx := actAt_get hi
    exact ⟨b, o, hp, hlt, hc i _ hx 0 _ rfl, hc i _ hx 1 _ rfl, hc i _ hx 2 _ rfl, hc i _ hx 3 _ rfl, hc i _ hx 4 _ rfl, hc i _ hx 5 _ rfl, hc i _ hx 6 _ rfl, hc i _ hx 7 _ rfl⟩
theorem putScan_zero {L : List Kep} {key : ByteArray} {v : Ver} : ∀ (m i : Nat), putScan L key v i m = 0 → L.length < 60
  | 0, _, h => by
    have h' : (if 60 ≤ L.length then (7 : Int) else 0) = 0 := h
    by_cases hl : 60 ≤ L.length
    · rw [if_pos hl] at h'; cases h'
    · omega
  | m + 1, i, h => by
    have h' : (if sameTag (kepAt L i) key v then (if (kepAt L i).2 = v then (-1 : Int) else 6) else putScan L key v (i + 1) m) = 0 := h
    by_cases hs : sameTag (kepAt L i) key v = true
    · rw [if_pos hs] at h'
      split at h' <;> cases h'
    · rw [if_neg hs] at h'
      exact putScan_zero m (i + 1) h'
theorem putR_len {L : List Kep} {s : Bool} {key : ByteArray} {v : Ver} (h : L.length ≤ 800000) : (putR L s key v).2.length ≤ 800000 := by
  unfold putR
  by_cases h0 : putErr L s key v = 0
  · rw [if_pos h0]
    have hl : L.length < 60 := by
      unfold putErr at h0
      split at h0
      · cases h0
      · split at h0
        · split at h0
          · exact putScan_zero _ _ h0
          · cases h0
        · cases h0
    show (putL L key v).length ≤ 800000
    unfold putL
    rw [List.length_append, List.length_append, List.length_take, List.length_drop]
    show _ + 1 + _ ≤ _
    omega
  · rw [if_neg h0]
    split <;> exact h
theorem putR_names {L : List Kep} {s : Bool} {key : ByteArray} {v : Ver} (h : ∀ x ∈ L, x.1.size ≤ maxLen) (hk : key.size ≤ maxLen) : ∀ x ∈ (putR L s key v).2, x.1.size ≤ maxLen := by
  unfold putR
  split
  · intro x hx
    have hx' : x ∈ L.take (placeN L key v) ++ [(key, v)] ++ L.drop (placeN L key v) := hx
    rcases List.mem_append.1 hx' with h1 | h1
    · rcases List.mem_append.1 h1 with h2 | h2
      · exact h x (List.mem_of_mem_take h2)
      · rw [List.mem_singleton.1 h2]; exact hk
    · exact h x (List.mem_of_mem_drop h1)
  · split <;> exact h
theorem trimGo_subP (key : ByteArray) : ∀ (left : Nat) (L : List Kep), (trimGo key left L).length ≤ L.length ∧ ∀ x ∈ trimGo key left L, x ∈ L
  | _, [] => ⟨Nat.le_refl _, fun _ h => h⟩
  | left, y :: r => by
    by_cases hc : y.1 = key ∧ 0 < left
    · have e : trimGo key left (y :: r) = trimGo key (left - 1) r := if_pos hc
      rw [e]
      have ih := trimGo_subP key (left - 1) r
      exact ⟨Nat.le_trans ih.1 (Nat.le_succ _), fun x hx => List.mem_cons_of_mem _ (ih.2 x hx)⟩
    · have e : trimGo key left (y :: r) = y :: trimGo key left r := if_neg hc
      rw [e]
      have ih := trimGo_subP key left r
      refine ⟨Nat.succ_le_succ ih.1, fun x hx => ?_⟩
      rcases List.mem_cons.1 hx with rfl | h1
      · exact List.mem_cons_self
      · exact List.mem_cons_of_mem _ (ih.2 x h1)
end Go.Proofs.YtoapbjifkjehhaaGreatDoor
/- The statements' own play: acts on a hold and on its model; they answer alike. -/
namespace Go.Proofs.YtoapbjifkjehhaaGreatDoor
open Go.RowKit
/-- The cells of an act lie at block b. -/
def ActIs (W : World) (b : Nat) (a : HAct) : Prop := W.cell? ⟨b, 0, none⟩ = some (.string a.kind) ∧ W.cell? ⟨b, 1, none⟩ = some (.string a.key) ∧ W.cell? ⟨b, 2, none⟩ = some (.int .i64 a.v.n) ∧ W.cell? ⟨b, 3, none⟩ = some (.int .i64 a.v.who) ∧ W.cell? ⟨b, 4, none⟩ = some (.int .i64 a.v.size) ∧ W.cell? ⟨b, 5, none⟩ = some (.int .i64 a.v.at_) ∧ W.cell? ⟨b, 6, none⟩ = some (.string a.v.text) ∧ W.cell? ⟨b, 7, none⟩ = some (.int .i64 a.n)
theorem ActIs.of_block {W W' : World} {b : Nat} {a : HAct} (h : ActIs W b a) (hb : W'.heap[b]? = W.heap[b]?) : ActIs W' b a := by
  have hc : ∀ o, W'.cell? ⟨b, o, none⟩ = W.cell? ⟨b, o, none⟩ := fun o => by unfold World.cell?; rw [hb]
  unfold ActIs at h ⊢
  rw [hc, hc, hc, hc, hc, hc, hc, hc]
  exact h
theorem ActIs.made (w : World) (a : HAct) (t : TypeId) : ActIs (w.alloc (.cells #[.string a.kind, .string a.key, .int .i64 a.v.n, .int .i64 a.v.who, .int .i64 a.v.size, .int .i64 a.v.at_, .string a.v.text, .int .i64 a.n] t)) w.heap.size a := by
  refine ⟨?_, ?_, ?_, ?_, ?_, ?_, ?_, ?_⟩ <;> (rw [World.cell?_alloc_at _ _ _ _ rfl]; rfl)
/-- What a put does to both, its answers alike. -/
theorem both_put {ad : Nat → Addr} {Hd : World → Nat → (Nat → Prop) → List Kep → Bool → Prop} (hO : HoldOk ad Hd) {B hp hm ab : Nat} {L : List Kep} {s : Bool} {S : Nat → Prop} {w : World} (hT : Two Hd B w hp hm L s S) (hB : B ≤ w.heap.size) (a : HAct) (hk : a.key.size ≤ maxLen) (ht : a.v.text.size ≤ maxLen) (hS : Sent w ad) (hab : ActIs w ab a) (hn : ¬ S ab) (hne : ab ≠ hm) :
    Calls Tryz.prog 16 #[.pointer (some ⟨hp, 0, none⟩), .string a.key, verA a.v] w fun e w' => ∃ ev, e = .returned ev ∧ BareIs ad ev (putR L s a.key a.v).1 ∧ ActIs w' ab a ∧
      Calls Tryz.prog 26 #[.pointer (some ⟨hm, 0, none⟩), .string a.key, verA a.v] w' fun e w'' => e = .returned (.int .i64 (putR L s a.key a.v).1) ∧ ActIs w'' ab a ∧ (∃ S', Two Hd B w'' hp hm (putR L s a.key a.v).2 s S') ∧ Below B w w'' := by
  have hlt : ab < w.heap.size := lt_of_cellH hab.1
  refine (hO.put a.key a.v hk ht hT.own hS).mono ?_
  rintro e w' ⟨⟨ev, rfl, hI⟩, S', hH', hU⟩
  have hab' : ActIs w' ab a := hab.of_block (hU.block ab hlt hn)
  refine ⟨ev, rfl, hI, hab', ?_⟩
  obtain ⟨hm', _, _, _, _⟩ := hT.upd hU hB
  refine (rput_any hm L s a.key a.v w' (by have := hT.len; omega) ht hm').mono ?_
  rintro e w'' ⟨rfl, hm'', hturn⟩
  obtain ⟨h1, h2⟩ := hT.step hO hU hH' hB hm'' hturn (putR_len hT.len) (putR_names hT.names hk)
  exact ⟨rfl, hab'.of_block (hturn.block ab (Nat.lt_of_lt_of_le hlt hU.size) hne), ⟨S', h1⟩, h2⟩
/-- What a trim does to both, its answers alike. -/
theorem both_trim {ad : Nat → Addr} {Hd : World → Nat → (Nat → Prop) → List Kep → Bool → Prop} (hO : HoldOk ad Hd) {B hp hm ab : Nat} {L : List Kep} {s : Bool} {S : Nat → Prop} {w : World} (hT : Two Hd B w hp hm L s S) (hB : B ≤ w.heap.size) (a : HAct) (hk : a.key.size ≤ maxLen) (h0 : 0 ≤ a.n) (h1 : a.n ≤ 9223372036854775807) (hab : ActIs w ab a) (hn : ¬ S ab) :
    Calls Tryz.prog 27 #[.pointer (some ⟨hp, 0, none⟩), .string a.key, .int .i64 a.n] w fun e w' => e = .returned (.tuple #[.int .i64 ((goneN L a.key a.n : Nat) : Int), .nilIface]) ∧ ActIs w' ab a ∧ w.heap.size ≤ w'.heap.size ∧
      (∀ W, Below w'.heap.size w' W → Calls Tryz.prog 28 #[.pointer (some ⟨hm, 0, none⟩), .string a.key, .int .i64 a.n] W fun e w'' => e = .returned (.int .i64 ((goneN L a.key a.n : Nat) : Int)) ∧ (∃ S', Two Hd B w'' hp hm (trimL L a.key a.n) s S') ∧ Below B w w'') := by
  have hlt : ab < w.heap.size := lt_of_cellH hab.1
  refine (hO.trim a.key a.n hk h0 h1 hT.own).mono ?_
  rintro e w' ⟨rfl, S', hH', hU⟩
  refine ⟨rfl, hab.of_block (hU.block ab hlt hn), hU.size, fun W hW => ?_⟩
  have hUW : Upd S S' w W := ⟨hW.os.trans hU.os, hW.tape.trans hU.tape, hW.output.trans hU.output, Nat.le_trans hU.size hW.size, fun k hk' hs => (hW.block k (Nat.lt_of_lt_of_le hk' hU.size)).trans (hU.block k hk' hs), hU.new⟩
  have hHW : Hd W hp S' (trimL L a.key a.n) s := hO.keep hH' hW.size (fun k hk' => hW.block k (hO.lt hH' k hk'))
  obtain ⟨hm', _, _, _, _⟩ := hT.upd hUW hB
  refine (rtrim_any hm L s a.key a.n W (by have := hT.len; omega) h0 h1 hm').mono ?_
  rintro e w'' ⟨rfl, hm'', hturn⟩
  have hsub := trimGo_subP a.key (goneN L a.key a.n) L
  obtain ⟨h2, h3⟩ := hT.step hO hUW hHW hB hm'' hturn (Nat.le_trans hsub.1 hT.len) (fun x hx => hT.names x (hsub.2 x hx))
  exact ⟨rfl, ⟨S', h2⟩, h3⟩
theorem MHold.seal1 {w : World} {h : Nat} {L : List Kep} {s : Bool} (hm : MHold w h L s) (b : Bool) : MHold (w.setCell ⟨h, 1, none⟩ (.bool b)) h L b ∧ Turn h w (w.setCell ⟨h, 1, none⟩ (.bool b)) := by
  obtain ⟨p, c, q0, hr, hc, hn, hne⟩ := hm.row
  have e0 : (w.setCell ⟨h, 1, none⟩ (.bool b)).cell? ⟨h, 0, none⟩ = w.cell? ⟨h, 0, none⟩ := World.cell?_setCell_other _ _ _ _ (fun e => by have h2 : (1 : Nat) = 0 := congrArg Addr.off e; omega)
  refine ⟨⟨⟨p, c, e0.trans q0, ?_, hc, hn, hne⟩, World.cell?_setCell_same _ _ _ hm.sealed_, by rw [World.frozen?_setCell]; exact hm.free0, by rw [World.frozen?_setCell]; exact hm.free1⟩, ⟨rfl, rfl, rfl, by simp, fun k hk hkne => Deep.blk_setCell_other _ _ _ _ hkne, Or.inl e0⟩⟩
  rcases hr with hr | ⟨b', o, hp, hlt, hcell⟩
  · exact Or.inl hr
  · refine Or.inr ⟨b', o, hp, by simpa using hlt, fun i x hx j u hu => ?_⟩
    rw [World.cell?_setCell_other _ _ _ _ (fun e => by have h2 : h = b' := congrArg Addr.block e; exact hne b' o hp h2.symm)]
    exact hcell i x hx j u hu
theorem MHold.wipe0 {w : World} {h : Nat} {L : List Kep} {s : Bool} (hm : MHold w h L s) : MHold (w.setCell ⟨h, 0, none⟩ (.slice none 0 0)) h [] s ∧ Turn h w (w.setCell ⟨h, 0, none⟩ (.slice none 0 0)) := by
  obtain ⟨p, c, q0, _⟩ := hm.row
  have e0 : (w.setCell ⟨h, 0, none⟩ (.slice none 0 0)).cell? ⟨h, 0, none⟩ = some (.slice none 0 0) := World.cell?_setCell_same _ _ _ q0
  have e1 : (w.setCell ⟨h, 0, none⟩ (.slice none 0 0)).cell? ⟨h, 1, none⟩ = w.cell? ⟨h, 1, none⟩ := World.cell?_setCell_other _ _ _ _ (fun e => by have h2 : (0 : Nat) = 1 := congrArg Addr.off e; omega)
  exact ⟨⟨⟨none, 0, e0, Or.inl rfl, Nat.le_refl _, fun _ => ⟨rfl, rfl⟩, fun _ _ e => by cases e⟩, e1.trans hm.sealed_, by rw [World.frozen?_setCell]; exact hm.free0, by rw [World.frozen?_setCell]; exact hm.free1⟩, ⟨rfl, rfl, rfl, by simp, fun k hk hkne => Deep.blk_setCell_other _ _ _ _ hkne, Or.inr fun b o n c e => by rw [e0] at e; cases e⟩⟩
theorem both_seal {ad : Nat → Addr} {Hd : World → Nat → (Nat → Prop) → List Kep → Bool → Prop} (hO : HoldOk ad Hd) {B hp hm : Nat} {L : List Kep} {s : Bool} {S : Nat → Prop} {w : World} (hT : Two Hd B w hp hm L s S) (hB : B ≤ w.heap.size) :
    Calls Tryz.prog 29 #[.pointer (some ⟨hp, 0, none⟩)] w fun e w' => e = .returned (.tuple #[]) ∧ (w'.cell? ⟨hm, 1, none⟩ = some (.bool s) ∧ w'.frozen? ⟨hm, 1, none⟩ = false) ∧ (∃ S', Two Hd B (w'.setCell ⟨hm, 1, none⟩ (.bool true)) hp hm L true S') ∧ Below B w (w'.setCell ⟨hm, 1, none⟩ (.bool true)) := by
  refine (hO.seals hT.own).mono ?_
  rintro e w' ⟨rfl, S', hH', hU⟩
  obtain ⟨hm', _, _, _, _⟩ := hT.upd hU hB
  obtain ⟨h1, h2⟩ := hm'.seal1 true
  obtain ⟨h3, h4⟩ := hT.step hO hU hH' hB h1 h2 hT.len hT.names
  exact ⟨rfl, ⟨hm'.sealed_, hm'.free1⟩, ⟨S', h3⟩, h4⟩
theorem both_wipe {ad : Nat → Addr} {Hd : World → Nat → (Nat → Prop) → List Kep → Bool → Prop} (hO : HoldOk ad Hd) {B hp hm : Nat} {L : List Kep} {s : Bool} {S : Nat → Prop} {w : World} (hT : Two Hd B w hp hm L s S) (hB : B ≤ w.heap.size) :
    Calls Tryz.prog 30 #[.pointer (some ⟨hp, 0, none⟩)] w fun e w' => e = .returned (.tuple #[]) ∧ (∃ p n c, w'.cell? ⟨hm, 0, none⟩ = some (.slice p n c)) ∧ (w'.cell? ⟨hm, 1, none⟩ = some (.bool s) ∧ w'.frozen? ⟨hm, 0, none⟩ = false ∧ w'.frozen? ⟨hm, 1, none⟩ = false) ∧ (∃ S', Two Hd B ((w'.setCell ⟨hm, 0, none⟩ (.slice none 0 0)).setCell ⟨hm, 1, none⟩ (.bool false)) hp hm [] false S') ∧ Below B w ((w'.setCell ⟨hm, 0, none⟩ (.slice none 0 0)).setCell ⟨hm, 1, none⟩ (.bool false)) := by
  refine (hO.wipe hT.own).mono ?_
  rintro e w' ⟨rfl, S', hH', hU⟩
  obtain ⟨hm', _, _, _, _⟩ := hT.upd hU hB
  obtain ⟨p, c, q0, _⟩ := hm'.row
  obtain ⟨h1, h2⟩ := hm'.wipe0
  obtain ⟨h5, h6⟩ := h1.seal1 false
  obtain ⟨h3, h4⟩ := hT.step hO hU hH' hB h5 (h2.trans h6) (Nat.zero_le _) (fun x hx => by cases hx)
  exact ⟨rfl, ⟨p, _, c, q0⟩, ⟨hm'.sealed_, hm'.free0, hm'.free1⟩, ⟨S', h3⟩, h4⟩
end Go.Proofs.YtoapbjifkjehhaaGreatDoor
