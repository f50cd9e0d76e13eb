/- The document's own member in memory. -/
import Derived.Test.YtcoecfpkihakoaaGreatDoorGz6
import Derived.Test.YtcoecfpkihakoaaGreatDoorGz7
import Derived.Sort.Grow
import Derived.BigQuiet
import Derived.StillTailTactics
import Derived.Test.YtcoecfpkihakoaaGreatDoorGz5
namespace Go.Proofs.YtcoecfpkihakoaaGreatDoor
open Go.RowKit
/-- Where a configuration's hold lies: its number and its block. -/
def ofE : Enc (Int × Nat) := ⟨2, by decide, fun x => [.int .i64 x.1, .pointer (some ⟨x.2, 0, none⟩)], fun _ => rfl, fun x u hu => by simp at hu; rcases hu with rfl | rfl <;> rfl⟩
def blkAt (bs : List Nat) (i : Nat) : Nat := bs.getD i 0
def ofB (m : MMem) (bs : List Nat) : List (Int × Nat) := (m.L.map Prod.fst).zip bs
theorem ofB_at {m : MMem} {bs : List Nat} (hl : bs.length = m.L.length) {i : Nat} (hi : i < m.L.length) : (ofB m bs)[i]? = some ((cfdAt m.L i).1, blkAt bs i) := by
  have h1 := cfdAt_get hi
  have h2 : bs[i]? = some (blkAt bs i) := by
    unfold blkAt
    rw [List.getD_eq_getElem?_getD, List.getElem?_eq_getElem (by omega)]
    rfl
  unfold ofB
  rw [List.getElem?_zip_eq_some]
  exact ⟨by rw [List.getElem?_map, h1]; rfl, h2⟩
theorem ofB_length {m : MMem} {bs : List Nat} (hl : bs.length = m.L.length) : (ofB m bs).length = m.L.length := by
  unfold ofB
  rw [List.length_zip, List.length_map, hl, Nat.min_self]
theorem ofB_snoc {m : MMem} {bs : List Nat} (hl : bs.length = m.L.length) (c : Int) (b : Nat) (L : List Kep) (s : Bool) : ofB ⟨m.name, m.L ++ [(c, L, s)]⟩ (bs ++ [b]) = ofB m bs ++ [(c, b)] := by
  unfold ofB
  rw [List.map_append, List.zip_append (by rw [List.length_map, hl])]
  rfl
theorem MHold.same {w w' : World} {h : Nat} {L : List Kep} {s : Bool} (hm : MHold w h L s) (hs : w.heap.size ≤ w'.heap.size) (h1 : w'.heap[h]? = w.heap[h]?) (h2 : L ≠ [] → ∀ b o n c, w.cell? ⟨h, 0, none⟩ = some (.slice (some ⟨b, o, none⟩) n c) → w'.heap[b]? = w.heap[b]?) : MHold w' h L s := by
  obtain ⟨p, c, q0, hr, hc, hn, hne⟩ := hm.row
  have hcell : ∀ o, w'.cell? ⟨h, o, none⟩ = w.cell? ⟨h, o, none⟩ := fun o => by unfold World.cell?; rw [h1]
  have hfr : ∀ o, w'.frozen? ⟨h, o, none⟩ = w.frozen? ⟨h, o, none⟩ := fun o => by unfold World.frozen?; rw [h1]
  refine ⟨⟨p, c, (hcell 0).trans q0, ?_, hc, hn, hne⟩, (hcell 1).trans hm.sealed_, (hfr 0).trans hm.free0, (hfr 1).trans hm.free1⟩
  by_cases hL : L = []
  · exact Or.inl hL
  rcases hr with hr | ⟨b, o, rfl, hltb, hcc⟩
  · exact Or.inl hr
  · have hb := h2 hL b o _ c q0
    exact Or.inr ⟨b, o, rfl, Nat.lt_of_lt_of_le hltb hs, fun i x hx j u hj => by
      have := hcc i x hx j u hj
      unfold World.cell? at this ⊢
      rw [hb]
      exact this⟩
theorem OwnR.sameE {α : Type} {E : Enc α} {T : TypeId} {w w' : World} {B : Nat} {v : Value} {l : List α} (h : OwnR E T w B v l) (hb : ∀ k, v.ownBlock = some k → w'.heap[k]? = w.heap[k]?) : OwnR E T w' B v l := by
  obtain ⟨h1, h2⟩ := h
  refine ⟨h1, ?_⟩
  rcases h2 with h2 | ⟨g, cap, cur, hvv, hbg, hg, hrest⟩
  · exact Or.inl h2
  · exact Or.inr ⟨g, cap, cur, hvv, hbg, (hb g (by rw [hvv]; rfl)).trans hg, hrest⟩
/-- In the world w block h is the member m; lv: its list, bs: the blocks of its holds. What it has of its own lies in the blocks of S, from B on. -/
structure RMem (w : World) (B : Nat) (S : Nat → Prop) (h : Nat) (m : MMem) (up : Bool) (lv : Value) (bs : List Nat) : Prop where
  blk : w.heap[h]? = some (.cells #[.string m.name, lv, .bool up] 35 (0, 0))
  row : OwnR ofE 50 w B lv (ofB m bs)
  len : bs.length = m.L.length
  one : ∀ i j, i < bs.length → j < bs.length → blkAt bs i = blkAt bs j → i = j
  hold : ∀ i, i < m.L.length → MHold w (blkAt bs i) (cfdAt m.L i).2.1 (cfdAt m.L i).2.2
  self : S h
  sL : ∀ k, lv.ownBlock = some k → S k ∧ k ≠ h ∧ ∀ i, i < bs.length → k ≠ blkAt bs i
  sB : ∀ i, i < bs.length → S (blkAt bs i) ∧ blkAt bs i ≠ h
  sR : ∀ i, i < m.L.length → (cfdAt m.L i).2.1 ≠ [] → ∀ b o n c, w.cell? ⟨blkAt bs i, 0, none⟩ = some (.slice (some ⟨b, o, none⟩) n c) → S b ∧ b ≠ h ∧ lv.ownBlock ≠ some b ∧ ∀ j, j < bs.length → b ≠ blkAt bs j
  inB : ∀ k, S k → B ≤ k ∧ k < w.heap.size
variable {w w' : World} {B : Nat} {S : Nat → Prop} {h : Nat} {m : MMem} {up : Bool} {lv : Value} {bs : List Nat}
theorem RMem.leB (hm : RMem w B S h m up lv bs) : B ≤ w.heap.size := Nat.le_of_lt (Nat.lt_of_le_of_lt (hm.inB h hm.self).1 (hm.inB h hm.self).2)
theorem RMem.keep (hm : RMem w B S h m up lv bs) (hs : w.heap.size ≤ w'.heap.size) (hk : ∀ k, S k → w'.heap[k]? = w.heap[k]?) : RMem w' B S h m up lv bs where
  blk := (hk h hm.self).trans hm.blk
  row := hm.row.sameE fun k hk' => hk k (hm.sL k hk').1
  len := hm.len
  one := hm.one
  hold := fun i hi => (hm.hold i hi).same hs (hk _ (hm.sB i (by rw [hm.len]; exact hi)).1) (fun hL b o n c e => hk b (hm.sR i hi hL b o n c e).1)
  self := hm.self
  sL := hm.sL
  sB := hm.sB
  sR := fun i hi hL b o n c e => hm.sR i hi hL b o n c ((World.cell?_of_block (a := ⟨blkAt bs i, 0, none⟩) (hk _ (hm.sB i (by rw [hm.len]; exact hi)).1)).symm.trans e)
  inB := fun k hk' => ⟨(hm.inB k hk').1, Nat.lt_of_lt_of_le (hm.inB k hk').2 hs⟩
theorem RMem.below (hm : RMem w B S h m up lv bs) (hb : Below w.heap.size w w') : RMem w' B S h m up lv bs := hm.keep hb.size fun k hk => hb.block k (hm.inB k hk).2
/-- What a member has, with all that is new. -/
def withNew (S : Nat → Prop) (w w' : World) : Nat → Prop := fun k => S k ∨ (w.heap.size ≤ k ∧ k < w'.heap.size)
/-- One of its holds is turned. -/
theorem RMem.turn (hm : RMem w B S h m up lv bs) {i : Nat} (hi : i < m.L.length) {L' : List Kep} {s' : Bool} (hT : Turn (blkAt bs i) w w') (hH : MHold w' (blkAt bs i) L' s') (hne : (cfdAt m.L i).2.1 = [] → w'.cell? ⟨blkAt bs i, 0, none⟩ = w.cell? ⟨blkAt bs i, 0, none⟩ → L' = []) :
    RMem w' B (withNew S w w') h (m.put i (L', s')) up lv bs ∧ Upd S (withNew S w w') w w' := by
  have hib : i < bs.length := by rw [hm.len]; exact hi
  have hsame : ∀ k, k < w.heap.size → k ≠ blkAt bs i → w'.heap[k]? = w.heap[k]? := hT.block
  have hlv : ∀ k, lv.ownBlock = some k → w'.heap[k]? = w.heap[k]? := fun k hk => hsame k (hm.inB k (hm.sL k hk).1).2 ((hm.sL k hk).2.2 i hib)
  have hof : ofB (m.put i (L', s')) bs = ofB m bs := by
    unfold ofB MMem.put
    have e : (m.L.set i ((cfdAt m.L i).1, L', s')).map Prod.fst = m.L.map Prod.fst := by
      rw [List.map_set]
      refine List.ext_getElem? fun j => ?_
      rw [List.getElem?_set]
      split
      · rename_i e
        subst e
        rw [if_pos (by rw [List.length_map]; exact hi), List.getElem?_map, cfdAt_get hi]
        rfl
      · rfl
    show (List.map Prod.fst (m.L.set i _)).zip bs = _
    rw [e]
  refine ⟨⟨(hsame h (hm.inB h hm.self).2 (fun e => (hm.sB i hib).2 e.symm)).trans hm.blk, by rw [hof]; exact hm.row.sameE hlv, by rw [put_length]; exact hm.len, hm.one, fun j hj => ?_, Or.inl hm.self, fun k hk => ⟨Or.inl (hm.sL k hk).1, (hm.sL k hk).2⟩, fun j hj => ⟨Or.inl (hm.sB j hj).1, (hm.sB j hj).2⟩, fun j hj hL b o n c e => ?_, fun k hk => ?_⟩, ⟨hT.os, hT.tape, hT.output, hT.size, fun k hk hs => hsame k hk (fun e => hs (by rw [e]; exact (hm.sB i hib).1)), fun k hk => hk.elim Or.inl (fun h => Or.inr h.1)⟩⟩
  · rw [put_length] at hj
    have hjb : j < bs.length := by rw [hm.len]; exact hj
    rw [put_at hi]
    by_cases e : j = i
    · rw [if_pos e, e]
      exact hH
    · rw [if_neg e]
      refine (hm.hold j hj).same hT.size (hsame _ (hm.inB _ (hm.sB j hjb).1).2 (fun e' => e (hm.one j i hjb hib e'))) (fun hL b o n c e' => ?_)
      have := hm.sR j hj hL b o n c e'
      exact hsame b (hm.inB b this.1).2 (this.2.2.2 i hib)
  · rw [put_length] at hj
    have hjb : j < bs.length := by rw [hm.len]; exact hj
    rw [put_at hi] at hL
    have old : ∀ q, q < m.L.length → (cfdAt m.L q).2.1 ≠ [] → w.cell? ⟨blkAt bs q, 0, none⟩ = some (.slice (some ⟨b, o, none⟩) n c) → withNew S w w' b ∧ b ≠ h ∧ lv.ownBlock ≠ some b ∧ ∀ j, j < bs.length → b ≠ blkAt bs j := fun q hq hL' e' => by
      have := hm.sR q hq hL' b o n c e'
      exact ⟨Or.inl this.1, this.2⟩
    by_cases ej : j = i
    · subst ej
      rw [if_pos rfl] at hL
      rcases hT.row with h1 | h1
      · exact old j hi (fun h0 => hL (hne h0 h1)) (h1.symm.trans e)
      · have hb := h1 b o n c e
        obtain ⟨p, c', q0, hr, _⟩ := hH.row
        rw [e] at q0
        have hlt : b < w'.heap.size := by
          rcases hr with hr | ⟨b1, o1, hp, hl1, _⟩
          · exact absurd hr hL
          · rw [hp] at q0
            injection q0 with q0
            injection q0 with q0
            injection q0 with q0
            injection q0 with q0
            rw [q0]
            exact hl1
        refine ⟨Or.inr ⟨hb, hlt⟩, fun e => ?_, fun e => ?_, fun q hq e => ?_⟩
        · have := (hm.inB h hm.self).2; omega
        · have := (hm.inB b (hm.sL b e).1).2; omega
        · have := (hm.inB _ (hm.sB q hq).1).2; omega
    · rw [if_neg ej] at hL
      refine old j hj hL ((World.cell?_of_block (a := ⟨blkAt bs j, 0, none⟩) (hsame _ (hm.inB _ (hm.sB j hjb).1).2 (fun e' => ej (hm.one j i hjb hib e')))).symm.trans e)
  · rcases hk with hk | hk
    · exact ⟨(hm.inB k hk).1, Nat.lt_of_lt_of_le (hm.inB k hk).2 hT.size⟩
    · exact ⟨Nat.le_trans hm.leB hk.1, hk.2⟩
end Go.Proofs.YtcoecfpkihakoaaGreatDoor
/- The statements' own: are messages few, and short? Reckoned in an int, whatever they are. -/
namespace Go.Proofs.YtcoecfpkihakoaaGreatDoor
open Go.RowKit
/-- How much messages weigh, as an int holds it. -/
def wsumM (l : List Msg) : Int := l.foldl (fun z m => wrap64 (wrap64 (z + 20) + wbulkN m)) 0
def fitsX (l : List Msg) : Bool := !(l.any fun m => m.L.any bigV) && decide (wsumM l < 6000)
theorem wsumM_take {l : List Msg} {m : Msg} {i : Nat} (h : l[i]? = some m) : wsumM (l.take (i + 1)) = wrap64 (wrap64 (wsumM (l.take i) + 20) + wbulkN m) := by
  unfold wsumM
  rw [List.take_add_one, h, List.foldl_append]
  rfl
theorem fitsX_big {l : List Msg} {m : Msg} (h : m ∈ l) (hb : m.L.any bigV = true) : fitsX l = false := by
  unfold fitsX
  have : (l.any fun m => m.L.any bigV) = true := List.any_eq_true.2 ⟨m, h, hb⟩
  rw [this]
  rfl
theorem fitsX_end {l : List Msg} (h : ∀ m ∈ l, m.L.any bigV = false) : fitsX l = decide (wsumM l < 6000) := by
  unfold fitsX
  have : (l.any fun m => m.L.any bigV) = false := List.any_eq_false.2 fun m hm hb => by rw [h m hm] at hb; cases hb
  rw [this]
  rfl
set_option maxRecDepth 10000 in
set_option maxHeartbeats 8000000 in
theorem messagesFit_all (p : Option Addr) (l : List Msg) (cap : Nat) (w : World) (hfew : l.length ≤ 140737488351232) (hroom : ∀ m ∈ l, MsgR m) (h : MsgsAt w p l) :
    Calls Tryz.prog 5 #[.slice p l.length cap] w fun e w' => e = .returned (.bool (fitsX l)) ∧ Below w.heap.size w w' := by
  obtain ⟨ml, hml, hr, hh⟩ := h
  have hlen : l.length = ml.length := by rw [← hml, List.length_map]
  have hmlen : ml.length ≤ 140737488351232 := by omega
  have HR : Hid (Rec mE w p ml) := hr
  have HH : Hid (∀ x ∈ ml, HasL w x) := hh
  have hmem : ∀ i, i < ml.length → (msgAt ml i).1 ∈ l := fun i hi => by rw [← hml]; exact List.mem_map.2 ⟨_, msgAt_mem hi, rfl⟩
  have HG : Hid (∀ i, i < ml.length → l[i]? = some (msgAt ml i).1) := fun i hi => by rw [← hml, List.getElem?_map, List.getElem?_eq_getElem hi, msgAt_get hi]; rfl
  have HWT : Hid (∀ i, i < ml.length → wsumM (l.take (i + 1)) = wrap64 (wrap64 (wsumM (l.take i) + 20) + wbulkN (msgAt ml i).1)) := fun i hi => wsumM_take (HG.out i hi)
  have HWO : Hid (∀ i, i < ml.length → MsgR (msgAt ml i).1) := fun i hi => hroom _ (hmem i hi)
  have HBG : Hid (∀ i, i < ml.length → (msgAt ml i).1.L.any bigV = true → fitsX l = false) := fun i hi hb => fitsX_big (hmem i hi) hb
  have HEN : Hid ((∀ i, i < ml.length → (msgAt ml i).1.L.any bigV = false) → fitsX l = decide (wsumM (l.take ml.length) < 6000)) := fun hall => by
    rw [← hlen, List.take_length]
    refine fitsX_end fun m hm => ?_
    rw [← hml] at hm
    obtain ⟨x, hx, rfl⟩ := List.mem_map.1 hm
    obtain ⟨i, hi, rfl⟩ := List.getElem_of_mem hx
    have := hall i hi
    rw [← msgAt_get hi] at this
    exact this
  have H0 : Hid (wsumM (l.take 0) = 0) := by show _ = _; rfl
  rw [hlen]
  generalize fitsX l = R at *
  have HBU : Hid (∀ (x : Msg × Lv) W, HasL W x → MsgR x.1 → Calls Tryz.prog 17 #[.agg #[.string x.1.from_, .string x.1.to_, .string x.1.kind, .string x.1.key, .int .i64 x.1.op, .int .i64 x.1.config, .bool x.1.shut, .slice x.2.1 x.2.2.1 x.2.2.2]] W fun e w' => e = .returned (.int .i64 (wbulkN x.1)) ∧ Below W.heap.size W w') := fun x W hx hb => by
    have h := bulk_all x.1 x.2.1 x.2.2.2 W hx.recs hb
    rw [hx.len]
    exact h
  clear hr hh hml hlen hmem HG hfew hroom
  go_enter Tryz.func5, Tryz.ntmps5
  go_wp2
  go_loopw [3, 4] (fun nv x wr => ∃ i : Nat, i ≤ ml.length ∧ x = .int .i64 i ∧ nv = .int .i64 (wsumM (l.take i)) ∧ (∀ j, j < i → (msgAt ml j).1.L.any bigV = false) ∧ Below w.heap.size w wr) (fun _ x _ => ml.length - (intOf x).toNat)
  case atStart => exact ⟨0, Nat.zero_le _, rfl, by rw [H0.out], fun j hj => absurd hj (Nat.not_lt_zero _), Below.refl _ _⟩
  case round =>
    obtain ⟨i, hi, rfl, rfl, hall, hB⟩ := hrel
    obtain ⟨w1, rfl⟩ : ∃ w1, w1 = wr := ⟨_, rfl⟩
    have HB : Hid (Below w.heap.size w w1) := hB
    have HALL : Hid (∀ j, j < i → (msgAt ml j).1.L.any bigV = false) := hall
    clear hall
    by_cases hil : i < ml.length
    · obtain ⟨b, o, hpp, hblt, d0, d1, d2, d3, d4, d5, d6, d7⟩ := msg_cells (HR.out.below hB) hil
      rw [msgAt_get hil] at d0 d1 d2 d3 d4 d5 d6 d7
      have hwo := HWO.out i hil
      have hwt := HWT.out i hil
      have HHX : Hid (HasL w (msgAt ml i)) := HH.out _ (msgAt_mem hil)
      have HBX := HBU.out (msgAt ml i) w1 (HHX.out.below hB) hwo
      have HWTI : Hid (wsumM (l.take (i + 1)) = wrap64 (wrap64 (wsumM (l.take i) + 20) + wbulkN (msgAt ml i).1)) := hwt
      have HBGI : Hid ((msgAt ml i).1.L.any bigV = true → R = false) := HBG.out i hil
      have HNX : Hid ((msgAt ml i).1.L.any bigV = false → ∀ j, j < i + 1 → (msgAt ml j).1.L.any bigV = false) := fun hb j hj => by
        by_cases e : j = i
        · rw [e]; exact hb
        · exact HALL.out j (by omega)
      have hln5 : (msgAt ml i).1.L.length ≤ 2932031007317 := hwo.2.1
      subst hpp
      clear hwt hwo hB HH HBU HWT HWO HBG HALL
      generalize msgAt ml i = x at *
      generalize wsumM (l.take i) = ni at *
      obtain ⟨⟨m1, m2, m3, m4, m5, m6, m7, mL⟩, lp, ln, lc⟩ := x
      have hln : ln = mL.length := HHX.out.len
      subst hln
      dsimp only at *
      generalize wbulkN ⟨m1, m2, m3, m4, m5, m6, m7, mL⟩ = bn at *
      have HCE : Hid (∀ W, Below w1.heap.size w1 W → W.cell? ⟨b, o + i * 8 + 7, none⟩ = some (.slice lp mL.length lc) ∧ Rec verE W lp mL ∧ Below w.heap.size w W) := fun W hW => ⟨(hW.cell (p := ⟨b, o + i * 8 + 7, none⟩) hblt).trans d7, (HHX.out.recs.below HB.out).below hW, HB.out.trans (hW.mono HB.out.size)⟩
      have HBI : Hid (∀ j, j < mL.length → bigV (verAt mL j) = true → mL.any bigV = true) := fun j hj hv => big_of_at hj hv
      have HBS : Hid (∀ j, j < mL.length → (mL.take (j + 1)).any bigV = ((mL.take j).any bigV || bigV (verAt mL j))) := fun j hj => big_succ hj
      have HTK : Hid (mL.take mL.length = mL) := List.take_length
      go_wp2_with fail
      refine HBX.mono ?_
      rintro e w2 ⟨rfl, hb2⟩
      have HB12 : Hid (Below w1.heap.size w1 w2) := hb2
      have q7 := (HCE.out w2 hb2).1
      clear HBX hb2 d0 d1 d2 d3 d4 d5 d6 d7
      go_wp2
      go_loopw [5] (fun y wr => ∃ j : Nat, j ≤ mL.length ∧ y = .int .i64 j ∧ (mL.take j).any bigV = false ∧ wr = w2) (fun y _ => mL.length - (intOf y).toNat)
      case atStart => exact ⟨0, Nat.zero_le _, rfl, rfl, rfl⟩
      case round =>
        obtain ⟨j, hj, rfl, hany, hwr⟩ := hrel
        subst hwr
        have HANY : Hid ((mL.take j).any bigV = false) := hany
        clear hany
        by_cases hjl : j < mL.length
        · obtain ⟨b', o', hpp, hblt', v0, v1, v2, v3, v4⟩ := ver_cells (HCE.out wr HB12.out).2.1 hjl
          subst hpp
          have HS := HBS.out j hjl
          have HI := HBI.out j hjl
          have HBE : Hid (bigV (verAt mL j) = decide (200 < (verAt mL j).size ∧ (verAt mL j).size ≤ 1000)) := by show _ = _; rfl
          rw [HANY.out, Bool.false_or] at HS
          have HSH : Hid ((mL.take (j + 1)).any bigV = bigV (verAt mL j)) := HS
          have HIH : Hid (bigV (verAt mL j) = true → mL.any bigV = true) := HI
          clear HS HI v0 v1 v3 v4
          generalize verAt mL j = x at *
          obtain ⟨xn, xw, xs, xa, xt⟩ := x
          dsimp only at v2 HBE
          by_cases h1 : 200 < xs
          · have d1 : decide (200 < xs) = true := decide_eq_true h1
            by_cases h2 : xs ≤ 1000
            · have d2 : decide (xs ≤ 1000) = true := decide_eq_true h2
              have HR0 : Hid (R = false) := HBGI.out (HIH.out (by rw [HBE.out]; exact decide_eq_true ⟨h1, h2⟩))
              go_wp2
              go_ret
              exact ⟨by rw [HR0.out]; rfl, (HCE.out wr HB12.out).2.2⟩
            · have d2 : decide (xs ≤ 1000) = false := decide_eq_false h2
              have HN : Hid ((mL.take (j + 1)).any bigV = false) := by show _ = _; rw [HSH.out, HBE.out]; exact decide_eq_false fun h => h2 h.2
              go_wp2
              go_roundw
              case rel => exact ⟨j + 1, by omega, by go_num, HN.out, trivial⟩
              case measure => simp [intOf]; omega
          · have d1 : decide (200 < xs) = false := decide_eq_false h1
            have HN : Hid ((mL.take (j + 1)).any bigV = false) := by show _ = _; rw [HSH.out, HBE.out]; exact decide_eq_false fun h => h1 h.1
            go_wp2
            go_roundw
            case rel => exact ⟨j + 1, by omega, by go_num, HN.out, trivial⟩
            case measure => simp [intOf]; omega
        · have hje : mL.take j = mL := List.take_of_length_le (by omega)
          have HN : Hid (mL.any bigV = false) := by have := HANY.out; rw [hje] at this; exact this
          clear hje HANY
          go_wp2
          go_roundw
          case rel => exact ⟨i + 1, by omega, by go_num, by rw [HWTI.out], HNX.out HN.out, (HCE.out wr HB12.out).2.2⟩
          case measure => simp [intOf]; omega
    · have HRE : Hid (R = decide (wsumM (l.take ml.length) < 6000)) := HEN.out fun j hj => HALL.out j (by omega)
      have hie : i = ml.length := by omega
      rw [← hie] at HRE
      clear hB hie
      generalize wsumM (l.take i) = ni at *
      go_wp2
      go_ret
      exact ⟨by rw [HRE.out]; rfl, HB.out⟩
end Go.Proofs.YtcoecfpkihakoaaGreatDoor
/- Package hold: which of two tags is less. -/
namespace Go.Proofs.YtcoecfpkihakoaaGreatDoor
open Go.RowKit Go.Sort
/-- -1, 0, 1 by number. -/
def cmpZ (a b : Int) : Int := if a < b then -1 else if b < a then 1 else 0
set_option maxRecDepth 10000 in
theorem nanZ (a : Int) (w : World) : Calls Tryz.prog 87 #[.int .i64 a] w fun e w' => e = .returned (.bool false) ∧ w' = w := by
  go_enter Tryz.func87, Tryz.ntmps87
  go_wp2
  go_ret
  exact ⟨rfl, rfl⟩
set_option maxRecDepth 10000 in
set_option maxHeartbeats 1000000 in
theorem cmpZ_any (a b : Int) (w : World) : Calls Tryz.prog 74 #[.int .i64 a, .int .i64 b] w fun e w' => e = .returned (.int .i64 (cmpZ a b)) ∧ w' = w := by
  have h1 := fun W => nanZ a W
  have h2 := fun W => nanZ b W
  rcases Int.lt_trichotomy a b with h | h | h
  · have HE : Hid (cmpZ a b = -1) := if_pos h
    rw [HE.out]
    go_enter Tryz.func74, Tryz.ntmps74
    go_wp2_with fail
    refine (h1 _).mono ?_
    rintro e w1 ⟨rfl, hw1⟩
    rw [hw1]
    clear hw1 w1
    go_wp2_with fail
    refine (h2 _).mono ?_
    rintro e w1 ⟨rfl, hw1⟩
    rw [hw1]
    clear hw1 w1
    go_wp2
    go_ret
    exact ⟨rfl, rfl⟩
  · subst h
    have HE : Hid (cmpZ a a = 0) := by show _ = _; unfold cmpZ; rw [if_neg (Int.lt_irrefl _), if_neg (Int.lt_irrefl _)]
    rw [HE.out]
    go_enter Tryz.func74, Tryz.ntmps74
    go_wp2_with fail
    refine (h1 _).mono ?_
    rintro e w1 ⟨rfl, hw1⟩
    rw [hw1]
    clear hw1 w1
    go_wp2_with fail
    refine (h2 _).mono ?_
    rintro e w1 ⟨rfl, hw1⟩
    rw [hw1]
    clear hw1 w1
    go_wp2
    go_ret
    exact ⟨rfl, rfl⟩
  · have HE : Hid (cmpZ a b = 1) := by show _ = _; unfold cmpZ; rw [if_neg (by omega), if_pos h]
    have d1 : decide (a < b) = false := decide_eq_false (by omega)
    rw [HE.out]
    go_enter Tryz.func74, Tryz.ntmps74
    go_wp2_with fail
    refine (h1 _).mono ?_
    rintro e w1 ⟨rfl, hw1⟩
    rw [hw1]
    clear hw1 w1
    go_wp2_with fail
    refine (h2 _).mono ?_
    rintro e w1 ⟨rfl, hw1⟩
    rw [hw1]
    clear hw1 w1
    go_wp2
    go_ret
    exact ⟨rfl, rfl⟩
/-- The first that is not 0, of two. -/
def orZ (a b : Int) : Int := if a ≠ 0 then a else b
set_option maxRecDepth 10000 in
set_option maxHeartbeats 1000000 in
theorem or_two (g o : Nat) (a b : Int) (w : World) (h0 : w.cell? ⟨g, o, none⟩ = some (.int .i64 a)) (h1 : w.cell? ⟨g, o + 1, none⟩ = some (.int .i64 b)) :
    Calls Tryz.prog 73 #[.slice (some ⟨g, o, none⟩) 2 2] w fun e w' => e = .returned (.int .i64 (orZ a b)) ∧ w' = w := by
  obtain ⟨f, hf⟩ : ∃ f : Nat → Int, f = fun i => if i = 0 then a else b := ⟨_, rfl⟩
  have HC : Hid (∀ i, i < 2 → w.cell? ⟨g, o + i, none⟩ = some (.int .i64 (f i))) := fun i hi => by
    rw [hf]
    match i, hi with
    | 0, _ => exact h0
    | 1, _ => exact h1
  obtain ⟨r, hr⟩ : ∃ r, r = orZ a b := ⟨_, rfl⟩
  have HR : Hid (∀ i, i < 2 → (∀ j, j < i → f j = 0) → f i ≠ 0 → r = f i) := fun i hi hall hne => by
    rw [hr, hf]
    unfold orZ
    match i, hi with
    | 0, _ => rw [hf] at hne; have hne' : a ≠ 0 := hne; rw [if_pos hne']; rfl
    | 1, _ =>
      have := hall 0 (by omega)
      rw [hf] at this
      have ha : a = 0 := this
      rw [if_neg (by rw [ha]; decide)]; rfl
  have HZ : Hid ((∀ j, j < 2 → f j = 0) → r = 0) := fun hall => by
    have t0 := hall 0 (by omega)
    have t1 := hall 1 (by omega)
    rw [hf] at t0 t1
    have ha : a = 0 := t0
    have hb : b = 0 := t1
    rw [hr, ha, hb]
    decide
  rw [← hr]
  clear hf hr h0 h1
  go_enter Tryz.func73, Tryz.ntmps73
  go_wp2
  go_loop [8] (fun x => ∃ i : Nat, i ≤ 2 ∧ x = .int .i64 i ∧ ∀ j, j < i → f j = 0) (fun x => 2 - (intOf x).toNat)
  case atStart => exact ⟨0, by omega, rfl, fun j hj => absurd hj (Nat.not_lt_zero _)⟩
  case round =>
    obtain ⟨i, hi, rfl, hall⟩ := hrel
    have HALL : Hid (∀ j, j < i → f j = 0) := hall
    clear hall
    by_cases hil : i < 2
    · have q1 := HC.out i hil
      have HRI : Hid (f i ≠ 0 → r = f i) := HR.out i hil HALL.out
      have HN : Hid (f i = 0 → ∀ j, j < i + 1 → f j = 0) := fun h j hj => by
        rcases Nat.lt_or_ge j i with h' | h'
        · exact HALL.out j h'
        · obtain rfl : j = i := by omega
          exact h
      clear HALL HR HC HZ
      generalize f i = y at *
      by_cases hy : y = 0
      · have HNX := HN.out hy
        subst hy
        have HNX' : Hid (∀ j, j < i + 1 → f j = 0) := HNX
        clear HNX HN HRI
        go_wp2
        go_round
        case rel => exact ⟨i + 1, by omega, by go_num, HNX'.out⟩
        case measure => simp [intOf]; omega
      · have HE : Hid (r = y) := HRI.out hy
        have d1 : (y == 0) = false := by rw [beq_eq_false_iff_ne]; exact hy
        have d2 : (y != 0) = true := by rw [bne_iff_ne]; exact hy
        clear HRI HN
        go_wp2
        go_ret
        exact ⟨by rw [HE.out]; rfl, rfl⟩
    · have HE : Hid (r = 0) := HZ.out (fun j hj => HALL.out j (by omega))
      go_wp2
      go_ret
      exact ⟨by rw [HE.out]; rfl, rfl⟩
/-- What two tags compare as. -/
def tagC (a b : Int × Int) : Int := orZ (cmpZ a.1 b.1) (cmpZ a.2 b.2)
theorem tagC_lt {a b : Int × Int} : decide (tagC a b < 0) = lessB a b := by
  unfold tagC orZ cmpZ lessB
  by_cases h1 : a.1 < b.1
  · simp [h1]
  · by_cases h2 : b.1 < a.1
    · have h3 : ¬ a.1 = b.1 := by omega
      simp [h1, h2, h3]
    · have h3 : a.1 = b.1 := by omega
      simp only [h3]
      by_cases h4 : a.2 < b.2
      · simp [h4]
      · by_cases h5 : b.2 < a.2 <;> simp [h4, h5]
theorem tagC_zero {a b : Int × Int} : tagC a b = 0 ↔ a = b := by
  obtain ⟨a1, a2⟩ := a
  obtain ⟨b1, b2⟩ := b
  unfold tagC orZ cmpZ
  simp only [Prod.mk.injEq]
  by_cases h1 : a1 < b1
  · simp [h1]; omega
  · by_cases h2 : b1 < a1
    · simp [h1, h2]; omega
    · have h3 : a1 = b1 := by omega
      subst h3
      by_cases h4 : a2 < b2
      · simp [h4]; omega
      · by_cases h5 : b2 < a2
        · simp [h4, h5]; omega
        · simp [h4, h5]; omega
set_option maxRecDepth 10000 in
set_option maxHeartbeats 1000000 in
theorem compare_any (a b : Int × Int) (W : World) : Calls Tryz.prog 64 #[.agg #[.int .i64 a.1, .int .i64 a.2], .agg #[.int .i64 b.1, .int .i64 b.2]] W fun e w' => e = .returned (.int .i64 (tagC a b)) ∧ ∃ n os, w' = grow (W.drewN n) os := by
  obtain ⟨a1, a2⟩ := a
  obtain ⟨b1, b2⟩ := b
  obtain ⟨W2, hW2⟩ : ∃ W2, W2 = (W.alloc (.cells #[.int .i64 a1, .int .i64 a2] 55)).alloc (.cells #[.int .i64 b1, .int .i64 b2] 55) := ⟨_, rfl⟩
  have HG : Hid (∃ os, W2 = grow W os) := ⟨_, by rw [hW2, alloc_eq_grow, alloc_eq_grow, grow_grow]⟩
  have q1 : W2.cell? ⟨W.heap.size, 0, none⟩ = some (.int .i64 a1) := by rw [hW2]; simp
  have q2 : W2.cell? ⟨W.heap.size, 1, none⟩ = some (.int .i64 a2) := by rw [hW2]; simp
  have q4 : W2.cell? ⟨W.heap.size + 1, 0, none⟩ = some (.int .i64 b1) := by rw [hW2]; simp
  have q5 : W2.cell? ⟨W.heap.size + 1, 1, none⟩ = some (.int .i64 b2) := by rw [hW2]; simp
  have HW2 : Hid (W2 = (W.alloc (.cells #[.int .i64 a1, .int .i64 a2] 55)).alloc (.cells #[.int .i64 b1, .int .i64 b2] 55)) := hW2
  clear hW2
  show Calls Tryz.prog 64 #[.agg #[.int .i64 a1, .int .i64 a2], .agg #[.int .i64 b1, .int .i64 b2]] W fun e w' => e = .returned (.int .i64 (orZ (cmpZ a1 b1) (cmpZ a2 b2))) ∧ ∃ n os, w' = grow (W.drewN n) os
  have c1 := fun W => cmpZ_any a1 b1 W
  have c2 := fun W => cmpZ_any a2 b2 W
  have c4 := fun g W h0 h1 => or_two g 0 (cmpZ a1 b1) (cmpZ a2 b2) W h0 h1
  generalize cmpZ a1 b1 = r1 at *
  generalize cmpZ a2 b2 = r2 at *
  generalize orZ r1 r2 = r at *
  have C1 : Hid (∀ W, Calls Tryz.prog 74 #[.int .i64 a1, .int .i64 b1] W fun e w' => e = .returned (.int .i64 r1) ∧ w' = W) := c1
  have C2 : Hid (∀ W, Calls Tryz.prog 74 #[.int .i64 a2, .int .i64 b2] W fun e w' => e = .returned (.int .i64 r2) ∧ w' = W) := c2
  have C4 : Hid (∀ g W, W.cell? ⟨g, 0, none⟩ = some (.int .i64 r1) → W.cell? ⟨g, 1, none⟩ = some (.int .i64 r2) → Calls Tryz.prog 73 #[.slice (some ⟨g, 0, none⟩) 2 2] W fun e w' => e = .returned (.int .i64 r) ∧ w' = W) := c4
  clear c1 c2 c4
  go_enter Tryz.func64, Tryz.ntmps64
  go_wp2
  rw [← HW2.out]
  clear HW2
  refine wp_region_still_tail 10 (by kernel_rfl) (by kernel_rfl) ?_
  simp only [List.take_succ_cons, List.take_zero, List.drop_succ_cons, List.drop_zero]
  still_step
  still_step
  still_step
  still_step
  still_call (C1.out _)
  still_step
  still_step
  still_step
  still_step
  still_call (C2.out _)
  refine wpStill_nil ?_
  change wpList _ _ _ _ _ (W2.drewN 1)
  have HG3 : Hid (∃ os, W2.drewN 1 = grow (W.drewN 1) os) := by
    obtain ⟨os, h⟩ := HG.out
    exact ⟨os, by rw [h]; rfl⟩
  generalize W2.drewN 1 = W3 at HG3 ⊢
  clear q1 q2 q4 q5
  go_wp2_with (go_at_call 73; refine (C4.out _ _ (by simp) (by simp)).mono ?_; rintro e w' ⟨rfl, rfl⟩)
  go_ret
  obtain ⟨os, h⟩ := HG3.out
  exact ⟨rfl, 1, _, by rw [h, alloc_eq_grow, grow_grow]⟩
theorem grow_drewN (w : World) (os : Array Obj) (n : Nat) : (grow w os).drewN n = grow (w.drewN n) os := rfl
end Go.Proofs.YtcoecfpkihakoaaGreatDoor
/- Package serve: is it of a kind and a form that a member answers? -/
namespace Go.Proofs.YtcoecfpkihakoaaGreatDoor
open Go.RowKit
/-- It is asked for. -/
def AskIs (x : Msg) : Prop := (¬ x.config < 0 ∧ isN x.key = true) ∧ ¬ oddK x
instance (x : Msg) : Decidable (AskIs x) := by unfold AskIs; infer_instance
theorem hear_off {m : MMem} {x : Msg} (h : ¬ (x.to_ = m.name ∧ AskIs x)) : m.hear x = (m, []) := by
  unfold MMem.hear
  rw [if_pos]
  by_cases h1 : x.to_ = m.name
  · by_cases h2 : oddK x
    · exact Or.inr h2
    · refine Or.inl (Or.inr ?_)
      by_cases h3 : x.config < 0
      · exact Or.inl h3
      · refine Or.inr ?_
        cases h4 : isN x.key with
        | false => rfl
        | true => exact absurd ⟨h1, ⟨h3, h4⟩, h2⟩ h
  · exact Or.inl (Or.inl h1)
theorem hear_on {m : MMem} {x : Msg} (h1 : x.to_ = m.name) (h2 : AskIs x) : m.hear x = match m.held x.config with | none => (m, []) | some m1 => m1.does (cfdI m.L x.config) x := by
  unfold MMem.hear
  refine if_neg ?_
  rintro (h | h)
  · rcases h with h | h | h
    · exact h h1
    · exact h2.1.1 h
    · rw [h2.1.2] at h; cases h
  · exact h2.2 h
set_option maxRecDepth 10000 in
set_option maxHeartbeats 8000000 in
theorem isAsk_any (x : Msg × Lv) (hx : x.2.2.1 = x.1.L.length) (hl : x.1.L.length ≤ 2932031007317) (w : World) :
    Calls Tryz.prog 23 #[.agg #[.string x.1.from_, .string x.1.to_, .string x.1.kind, .string x.1.key, .int .i64 x.1.op, .int .i64 x.1.config, .bool x.1.shut, .slice x.2.1 x.2.2.1 x.2.2.2]] w fun e w' => e = .returned (.bool (decide (AskIs x.1))) ∧ Below w.heap.size w w' := by
  obtain ⟨⟨m1, m2, m3, m4, m5, m6, m7, mL⟩, lp, ln, lc⟩ := x
  dsimp only at *
  subst hx
  obtain ⟨w1, hw1⟩ : ∃ w1, w1 = w.alloc (.cells #[.string m1, .string m2, .string m3, .string m4, .int .i64 m5, .int .i64 m6, .bool m7, .slice lp mL.length lc] 42) := ⟨_, rfl⟩
  have hb1 : Below w.heap.size w w1 := by rw [hw1]; exact (Below.refl _ _).alloc (Nat.le_refl _) _
  have hz1 : w.heap.size < w1.heap.size := by rw [hw1]; simp
  have d2 : w1.cell? ⟨w.heap.size, 2, none⟩ = some (.string m3) := by rw [hw1, World.cell?_alloc_at _ _ _ _ rfl]; rfl
  have d3 : w1.cell? ⟨w.heap.size, 3, none⟩ = some (.string m4) := by rw [hw1, World.cell?_alloc_at _ _ _ _ rfl]; rfl
  have d5 : w1.cell? ⟨w.heap.size, 5, none⟩ = some (.int .i64 m6) := by rw [hw1, World.cell?_alloc_at _ _ _ _ rfl]; rfl
  have d7 : w1.cell? ⟨w.heap.size, 7, none⟩ = some (.slice lp mL.length lc) := by rw [hw1, World.cell?_alloc_at _ _ _ _ rfl]; rfl
  have HW1 : Hid (w1 = w.alloc (.cells #[.string m1, .string m2, .string m3, .string m4, .int .i64 m5, .int .i64 m6, .bool m7, .slice lp mL.length lc] 42)) := hw1
  have HB1 : Hid (Below w.heap.size w w1) := hb1
  have HC : Hid (∀ W, Below w1.heap.size w1 W → (W.cell? ⟨w.heap.size, 2, none⟩ = some (.string m3) ∧ W.cell? ⟨w.heap.size, 7, none⟩ = some (.slice lp mL.length lc)) ∧ Below w.heap.size w W) := fun W hW => ⟨⟨(hW.cell (p := ⟨w.heap.size, 2, none⟩) hz1).trans d2, (hW.cell (p := ⟨w.heap.size, 7, none⟩) hz1).trans d7⟩, HB1.out.trans (hW.mono HB1.out.size)⟩
  have HIN := pname_any m4 w1
  have e0 : decide (AskIs ⟨m1, m2, m3, m4, m5, m6, m7, mL⟩) = (decide (¬ m6 < 0) && (isN m4 && !decide (m3 ≠ kLook ∧ m3 ≠ kSeal ∧ (m3 ≠ kKeep ∨ mL.length ≠ 1)))) := by
    rw [Bool.eq_iff_iff]
    unfold AskIs oddK
    simp
    constructor
    · rintro ⟨⟨h1, h2⟩, h3⟩; exact ⟨h1, h2, h3⟩
    · rintro ⟨h1, h2, h3⟩; exact ⟨⟨h1, h2⟩, h3⟩
  generalize decide (AskIs ⟨m1, m2, m3, m4, m5, m6, m7, mL⟩) = R at *
  have HOD : Hid (m3 ≠ kLook ∧ m3 ≠ kSeal ∧ (m3 ≠ kKeep ∨ mL.length ≠ 1) ↔ m3 ≠ ⟨#[108, 111, 111, 107]⟩ ∧ m3 ≠ ⟨#[115, 101, 97, 108]⟩ ∧ (m3 ≠ ⟨#[107, 101, 101, 112]⟩ ∨ mL.length ≠ 1)) := Iff.rfl
  generalize hod : decide (m3 ≠ kLook ∧ m3 ≠ kSeal ∧ (m3 ≠ kKeep ∨ mL.length ≠ 1)) = od at *
  have HOE : Hid (decide (m3 ≠ kLook ∧ m3 ≠ kSeal ∧ (m3 ≠ kKeep ∨ mL.length ≠ 1)) = od) := hod
  generalize isN m4 = bn at *
  have HR : Hid (R = (decide (¬ m6 < 0) && (bn && !od))) := e0
  clear hw1 hb1 hz1 e0 hod
  by_cases g6 : m6 < 0
  · have n6 : decide (m6 < 0) = true := decide_eq_true g6
    have HE : Hid (R = false) := by show _ = _; rw [HR.out, decide_eq_false (fun h => h g6)]; rfl
    clear HR HOD HOE
    clear HIN
    go_enter Tryz.func23, Tryz.ntmps23
    go_wp2_with (first | rw [← HW1.out] | fail)
    go_ret
    exact ⟨by rw [HE.out]; rfl, HB1.out⟩
  · have n6 : decide (m6 < 0) = false := decide_eq_false g6
    have HE : Hid (R = (bn && !od)) := by show _ = _; rw [HR.out, decide_eq_true g6]; rfl
    clear HR
    cases bn with
    | false =>
      have HE1 : Hid (R = false) := HE.out
      clear HE HOD HOE
      go_enter Tryz.func23, Tryz.ntmps23
      go_wp2_with (first | rw [← HW1.out] | fail)
      refine HIN.mono ?_
      rintro e w2 ⟨rfl, hb2⟩
      obtain ⟨⟨q2, q7⟩, hbw⟩ := HC.out w2 hb2
      have HBW : Hid (Below w.heap.size w w2) := hbw
      clear hb2 HIN hbw
      go_wp2
      go_ret
      exact ⟨by rw [HE1.out]; rfl, HBW.out⟩
    | true =>
      have HE2 : Hid (R = !od) := HE.out
      clear HE
      by_cases a1 : m3 = ⟨#[108, 111, 111, 107]⟩
      · have HF0 : od = false := by rw [← HOE.out]; exact decide_eq_false fun h => (HOD.out.1 h).1 a1
        have HF : Hid (R = true) := by show _ = _; rw [HE2.out, HF0]; rfl
        clear HF0 HE2
        subst a1
        go_enter Tryz.func23, Tryz.ntmps23
        go_wp2_with (first | rw [← HW1.out] | fail)
        refine HIN.mono ?_
        rintro e w2 ⟨rfl, hb2⟩
        obtain ⟨⟨q2, q7⟩, hbw⟩ := HC.out w2 hb2
        have HBW : Hid (Below w.heap.size w w2) := hbw
        clear hb2 HIN hbw
        go_wp2
        go_ret
        exact ⟨by rw [HF.out]; rfl, HBW.out⟩
      · have s1 : ¬ m3.toList = [108, 111, 111, 107] := lit_ne a1
        have s2 : (m3.toList == [108, 111, 111, 107]) = false := lit_beq a1
        by_cases a2 : m3 = ⟨#[115, 101, 97, 108]⟩
        · have HF0 : od = false := by rw [← HOE.out]; exact decide_eq_false fun h => (HOD.out.1 h).2.1 a2
          have HF : Hid (R = true) := by show _ = _; rw [HE2.out, HF0]; rfl
          clear HF0 HE2
          subst a2
          clear s1 s2 a1
          go_enter Tryz.func23, Tryz.ntmps23
          go_wp2_with (first | rw [← HW1.out] | fail)
          refine HIN.mono ?_
          rintro e w2 ⟨rfl, hb2⟩
          obtain ⟨⟨q2, q7⟩, hbw⟩ := HC.out w2 hb2
          have HBW : Hid (Below w.heap.size w w2) := hbw
          clear hb2 HIN hbw
          go_wp2
          go_ret
          exact ⟨by rw [HF.out]; rfl, HBW.out⟩
        · have t1 : ¬ m3.toList = [115, 101, 97, 108] := lit_ne a2
          have t2 : (m3.toList == [115, 101, 97, 108]) = false := lit_beq a2
          by_cases a3 : m3 = ⟨#[107, 101, 101, 112]⟩
          · by_cases hL1 : mL.length = 1
            · have HF0 : od = false := by rw [← HOE.out]; exact decide_eq_false fun h => (HOD.out.1 h).2.2.elim (fun h => h a3) (fun h => h hL1)
              have HF : Hid (R = true) := by show _ = _; rw [HE2.out, HF0]; rfl
              clear HF0 HE2
              subst a3
              clear s1 s2 t1 t2 a1 a2 HOD HOE
              rw [hL1] at HC d7 HW1
              rw [hL1]
              go_enter Tryz.func23, Tryz.ntmps23
              go_wp2_with (first | rw [← HW1.out] | fail)
              refine HIN.mono ?_
              rintro e w2 ⟨rfl, hb2⟩
              obtain ⟨⟨q2, q7⟩, hbw⟩ := HC.out w2 hb2
              have HBW : Hid (Below w.heap.size w w2) := hbw
              clear hb2 HIN hbw
              go_wp2
              go_ret
              exact ⟨by rw [HF.out]; rfl, HBW.out⟩
            · have HF0 : od = true := by rw [← HOE.out]; exact decide_eq_true (HOD.out.2 ⟨a1, a2, Or.inr hL1⟩)
              have HF : Hid (R = false) := by show _ = _; rw [HE2.out, HF0]; rfl
              clear HF0 HE2
              have gl : (((mL.length : Nat) : Int) == 1) = false := by simp; omega
              subst a3
              clear s1 s2 t1 t2 a1 a2 HOD HOE hL1
              go_enter Tryz.func23, Tryz.ntmps23
              go_wp2_with (first | rw [← HW1.out] | fail)
              refine HIN.mono ?_
              rintro e w2 ⟨rfl, hb2⟩
              obtain ⟨⟨q2, q7⟩, hbw⟩ := HC.out w2 hb2
              have HBW : Hid (Below w.heap.size w w2) := hbw
              clear hb2 HIN hbw
              go_wp2
              go_ret
              exact ⟨by rw [HF.out]; rfl, HBW.out⟩
          · have HF0 : od = true := by rw [← HOE.out]; exact decide_eq_true (HOD.out.2 ⟨a1, a2, Or.inl a3⟩)
            have HF : Hid (R = false) := by show _ = _; rw [HE2.out, HF0]; rfl
            clear HF0 HE2
            have r1 : ¬ m3.toList = [107, 101, 101, 112] := lit_ne a3
            have r2 : (m3.toList == [107, 101, 101, 112]) = false := lit_beq a3
            clear a1 a2 a3 HOD HOE
            go_enter Tryz.func23, Tryz.ntmps23
            go_wp2_with (first | rw [← HW1.out] | fail)
            refine HIN.mono ?_
            rintro e w2 ⟨rfl, hb2⟩
            obtain ⟨⟨q2, q7⟩, hbw⟩ := HC.out w2 hb2
            have HBW : Hid (Below w.heap.size w w2) := hbw
            clear hb2 HIN hbw
            go_wp2
            go_ret
            exact ⟨by rw [HF.out]; rfl, HBW.out⟩
end Go.Proofs.YtcoecfpkihakoaaGreatDoor
/- A message of the statements' as the program's. -/
namespace Go.Proofs.YtcoecfpkihakoaaGreatDoor
open Go.RowKit
set_option maxRecDepth 10000 in
set_option maxHeartbeats 4000000 in
theorem wireOf_any (m : Msg) (p : Option Addr) (c : Nat) (w : World) (hl : m.L.length ≤ 2932031007317) (hr : Rec verE w p m.L) (hc : p = none → m.L = [] ∧ c = 0) :
    Calls Tryz.prog 12 #[msgA m (.slice p m.L.length c)] w fun e w' => (∃ lv, e = .returned (msgA m lv) ∧ OwnR verE 59 w' w.heap.size lv m.L) ∧ Below w.heap.size w w' := by
  obtain ⟨m1, m2, m3, m4, m5, m6, m7, mL⟩ := m
  unfold msgA
  simp only [] at *
  have hb1 : Below w.heap.size w (((w.alloc (.cells #[.string m1, .string m2, .string m3, .string m4, .int .i64 m5, .int .i64 m6, .bool m7, .slice p mL.length c] 44)).alloc (.cells #[.string ⟨#[]⟩, .string ⟨#[]⟩, .string ⟨#[]⟩, .string ⟨#[]⟩, .int .i64 0, .int .i64 0, .bool false, .slice none 0 0] 42)).alloc (.cells #[.string m1, .string m2, .string m3, .string m4, .int .i64 m5, .int .i64 m6, .bool m7, .slice none 0 0] 42)) := (((Below.refl _ _).alloc (Nat.le_refl _) _).alloc (by simp) _).alloc (by simp; omega) _
  have he1 : (((w.alloc (.cells #[.string m1, .string m2, .string m3, .string m4, .int .i64 m5, .int .i64 m6, .bool m7, .slice p mL.length c] 44)).alloc (.cells #[.string ⟨#[]⟩, .string ⟨#[]⟩, .string ⟨#[]⟩, .string ⟨#[]⟩, .int .i64 0, .int .i64 0, .bool false, .slice none 0 0] 42)).alloc (.cells #[.string m1, .string m2, .string m3, .string m4, .int .i64 m5, .int .i64 m6, .bool m7, .slice none 0 0] 42)).heap[w.heap.size + 1]? = some (.cells #[.string ⟨#[]⟩, .string ⟨#[]⟩, .string ⟨#[]⟩, .string ⟨#[]⟩, .int .i64 0, .int .i64 0, .bool false, .slice none 0 0] 42 (0, 0)) := by
    have e : w.heap.size + 1 = (w.alloc (.cells #[.string m1, .string m2, .string m3, .string m4, .int .i64 m5, .int .i64 m6, .bool m7, .slice p mL.length c] 44)).heap.size := by simp
    rw [heap_alloc_old _ _ (by simp), e]
    exact heap_alloc_new _ _
  have he2 : (((w.alloc (.cells #[.string m1, .string m2, .string m3, .string m4, .int .i64 m5, .int .i64 m6, .bool m7, .slice p mL.length c] 44)).alloc (.cells #[.string ⟨#[]⟩, .string ⟨#[]⟩, .string ⟨#[]⟩, .string ⟨#[]⟩, .int .i64 0, .int .i64 0, .bool false, .slice none 0 0] 42)).alloc (.cells #[.string m1, .string m2, .string m3, .string m4, .int .i64 m5, .int .i64 m6, .bool m7, .slice none 0 0] 42)).heap[w.heap.size + 2]? = some (.cells #[.string m1, .string m2, .string m3, .string m4, .int .i64 m5, .int .i64 m6, .bool m7, .slice none 0 0] 42 (0, 0)) := by
    have e : w.heap.size + 2 = ((w.alloc (.cells #[.string m1, .string m2, .string m3, .string m4, .int .i64 m5, .int .i64 m6, .bool m7, .slice p mL.length c] 44)).alloc (.cells #[.string ⟨#[]⟩, .string ⟨#[]⟩, .string ⟨#[]⟩, .string ⟨#[]⟩, .int .i64 0, .int .i64 0, .bool false, .slice none 0 0] 42)).heap.size := by simp
    rw [e]
    exact heap_alloc_new _ _
  have HBK : Hid ((((w.alloc (.cells #[.string m1, .string m2, .string m3, .string m4, .int .i64 m5, .int .i64 m6, .bool m7, .slice p mL.length c] 44)).alloc (.cells #[.string ⟨#[]⟩, .string ⟨#[]⟩, .string ⟨#[]⟩, .string ⟨#[]⟩, .int .i64 0, .int .i64 0, .bool false, .slice none 0 0] 42)).alloc (.cells #[.string m1, .string m2, .string m3, .string m4, .int .i64 m5, .int .i64 m6, .bool m7, .slice none 0 0] 42)).heap[w.heap.size + 1]? = some (.cells #[.string ⟨#[]⟩, .string ⟨#[]⟩, .string ⟨#[]⟩, .string ⟨#[]⟩, .int .i64 0, .int .i64 0, .bool false, .slice none 0 0] 42 (0, 0)) ∧ (((w.alloc (.cells #[.string m1, .string m2, .string m3, .string m4, .int .i64 m5, .int .i64 m6, .bool m7, .slice p mL.length c] 44)).alloc (.cells #[.string ⟨#[]⟩, .string ⟨#[]⟩, .string ⟨#[]⟩, .string ⟨#[]⟩, .int .i64 0, .int .i64 0, .bool false, .slice none 0 0] 42)).alloc (.cells #[.string m1, .string m2, .string m3, .string m4, .int .i64 m5, .int .i64 m6, .bool m7, .slice none 0 0] 42)).heap[w.heap.size + 2]? = some (.cells #[.string m1, .string m2, .string m3, .string m4, .int .i64 m5, .int .i64 m6, .bool m7, .slice none 0 0] 42 (0, 0)) ∧ Below w.heap.size w (((w.alloc (.cells #[.string m1, .string m2, .string m3, .string m4, .int .i64 m5, .int .i64 m6, .bool m7, .slice p mL.length c] 44)).alloc (.cells #[.string ⟨#[]⟩, .string ⟨#[]⟩, .string ⟨#[]⟩, .string ⟨#[]⟩, .int .i64 0, .int .i64 0, .bool false, .slice none 0 0] 42)).alloc (.cells #[.string m1, .string m2, .string m3, .string m4, .int .i64 m5, .int .i64 m6, .bool m7, .slice none 0 0] 42))) := ⟨he1, he2, hb1⟩
  have HR : Hid (Rec verE (((w.alloc (.cells #[.string m1, .string m2, .string m3, .string m4, .int .i64 m5, .int .i64 m6, .bool m7, .slice p mL.length c] 44)).alloc (.cells #[.string ⟨#[]⟩, .string ⟨#[]⟩, .string ⟨#[]⟩, .string ⟨#[]⟩, .int .i64 0, .int .i64 0, .bool false, .slice none 0 0] 42)).alloc (.cells #[.string m1, .string m2, .string m3, .string m4, .int .i64 m5, .int .i64 m6, .bool m7, .slice none 0 0] 42)) p mL) := hr.below hb1
  have hsz : w.heap.size + 3 ≤ (((w.alloc (.cells #[.string m1, .string m2, .string m3, .string m4, .int .i64 m5, .int .i64 m6, .bool m7, .slice p mL.length c] 44)).alloc (.cells #[.string ⟨#[]⟩, .string ⟨#[]⟩, .string ⟨#[]⟩, .string ⟨#[]⟩, .int .i64 0, .int .i64 0, .bool false, .slice none 0 0] 42)).alloc (.cells #[.string m1, .string m2, .string m3, .string m4, .int .i64 m5, .int .i64 m6, .bool m7, .slice none 0 0] 42)).heap.size := by simp
  have HC : Hid (p = none → mL = [] ∧ c = 0) := hc
  clear hb1 he1 he2 hr hc
  go_enter Tryz.func12, Tryz.ntmps12
  go_wp2_with (first | (at_builtin; refine wpList_append_recs (E := verE) rfl (.tmp 20) (.tmp 22) 40 59 rfl (.agg #[.int .i64 0, .int .i64 0, .int .i64 0, .int .i64 0, .string ⟨#[]⟩]) 48 Tryz.underlying40 verinfo rfl (w.heap.size + 3) (.slice none 0 0) [] rfl (OwnR.nil _ _ _) p mL c rfl HR.out HC.out (by unfold maxLen; simp; omega) (by simp; omega) hsz ?_; intro v3 w3 hO3 hb3; obtain ⟨p3, c3, hv3, _⟩ := hO3.form; rw [List.nil_append] at hv3 hO3; subst hv3; have e1 := (hb3.block (w.heap.size + 1) (by omega)).trans HBK.out.1; have e2 := (hb3.block (w.heap.size + 2) (by omega)).trans HBK.out.2.1; have HB3 : Hid (Below w.heap.size w w3) := (HBK.out.2.2.trans (hb3.mono (by omega))); have HO3 : Hid (OwnR verE 59 w3 (w.heap.size + 3) (.slice p3 mL.length c3) mL) := hO3; have z0 : w3.cell? ⟨w.heap.size + 1, 0, none⟩ = some (.string ⟨#[]⟩) := (by simp [World.cell?, e1]); have z1 : w3.cell? ⟨w.heap.size + 1, 1, none⟩ = some (.string ⟨#[]⟩) := (by simp [World.cell?, e1]); have z2 : w3.cell? ⟨w.heap.size + 1, 2, none⟩ = some (.string ⟨#[]⟩) := (by simp [World.cell?, e1]); have z3 : w3.cell? ⟨w.heap.size + 1, 3, none⟩ = some (.string ⟨#[]⟩) := (by simp [World.cell?, e1]); have z4 : w3.cell? ⟨w.heap.size + 1, 4, none⟩ = some (.int .i64 0) := (by simp [World.cell?, e1]); have z5 : w3.cell? ⟨w.heap.size + 1, 5, none⟩ = some (.int .i64 0) := (by simp [World.cell?, e1]); have z6 : w3.cell? ⟨w.heap.size + 1, 6, none⟩ = some (.bool false) := (by simp [World.cell?, e1]); have z7 : w3.cell? ⟨w.heap.size + 1, 7, none⟩ = some (.slice none 0 0) := (by simp [World.cell?, e1]); have y0 : w3.cell? ⟨w.heap.size + 2, 0, none⟩ = some (.string m1) := (by simp [World.cell?, e2]); have y1 : w3.cell? ⟨w.heap.size + 2, 1, none⟩ = some (.string m2) := (by simp [World.cell?, e2]); have y2 : w3.cell? ⟨w.heap.size + 2, 2, none⟩ = some (.string m3) := (by simp [World.cell?, e2]); have y3 : w3.cell? ⟨w.heap.size + 2, 3, none⟩ = some (.string m4) := (by simp [World.cell?, e2]); have y4 : w3.cell? ⟨w.heap.size + 2, 4, none⟩ = some (.int .i64 m5) := (by simp [World.cell?, e2]); have y5 : w3.cell? ⟨w.heap.size + 2, 5, none⟩ = some (.int .i64 m6) := (by simp [World.cell?, e2]); have y6 : w3.cell? ⟨w.heap.size + 2, 6, none⟩ = some (.bool m7) := (by simp [World.cell?, e2]); have y7 : w3.cell? ⟨w.heap.size + 2, 7, none⟩ = some (.slice none 0 0) := (by simp [World.cell?, e2]); have g1 : ∀ o, w3.frozen? ⟨w.heap.size + 1, o, none⟩ = false := (fun o => by simp [World.frozen?, e1]); have g2 : ∀ o, w3.frozen? ⟨w.heap.size + 2, o, none⟩ = false := (fun o => by simp [World.frozen?, e2]); clear e1 e2 hO3 hb3))
  refine bodyPost_ret (v := .agg #[.string m1, .string m2, .string m3, .string m4, .int .i64 m5, .int .i64 m6, .bool m7, .slice p3 mL.length c3]) (by simp [results, Tryz.results12, go_sem, z0, z1, z2, z3, z4, z5, z6, z7]) rfl ⟨⟨_, rfl, ?_⟩, ?_⟩
  · exact OwnR.base (((((((((HO3.out.setC (b := w.heap.size + 2) (by omega) 7 _).setC (b := w.heap.size + 1) (by omega) 0 _).setC (b := w.heap.size + 1) (by omega) 1 _).setC (b := w.heap.size + 1) (by omega) 2 _).setC (b := w.heap.size + 1) (by omega) 3 _).setC (b := w.heap.size + 1) (by omega) 4 _).setC (b := w.heap.size + 1) (by omega) 5 _).setC (b := w.heap.size + 1) (by omega) 6 _).setC (b := w.heap.size + 1) (by omega) 7 _) (by omega)
  · exact (((((((((HB3.out.setCell (p := ⟨w.heap.size + 2, 7, none⟩) (by show w.heap.size ≤ w.heap.size + 2; omega) _).setCell (p := ⟨w.heap.size + 1, 0, none⟩) (by show w.heap.size ≤ w.heap.size + 1; omega) _).setCell (p := ⟨w.heap.size + 1, 1, none⟩) (by show w.heap.size ≤ w.heap.size + 1; omega) _).setCell (p := ⟨w.heap.size + 1, 2, none⟩) (by show w.heap.size ≤ w.heap.size + 1; omega) _).setCell (p := ⟨w.heap.size + 1, 3, none⟩) (by show w.heap.size ≤ w.heap.size + 1; omega) _).setCell (p := ⟨w.heap.size + 1, 4, none⟩) (by show w.heap.size ≤ w.heap.size + 1; omega) _).setCell (p := ⟨w.heap.size + 1, 5, none⟩) (by show w.heap.size ≤ w.heap.size + 1; omega) _).setCell (p := ⟨w.heap.size + 1, 6, none⟩) (by show w.heap.size ≤ w.heap.size + 1; omega) _).setCell (p := ⟨w.heap.size + 1, 7, none⟩) (by show w.heap.size ≤ w.heap.size + 1; omega) _)
end Go.Proofs.YtcoecfpkihakoaaGreatDoor
