import Derived.Test.YtobmckfcipeanaaGreatDoorPH
import Derived.Test.YtobmckfcipeanaaGreatDoorRA
import Derived.Test.YtobmckfcipeanaaGreatDoorPN
import Derived.Test.YtobmckfcipeanaaGreatDoorPS
namespace Go.Proofs.YtobmckfcipeanaaGreatDoor
open Go.RowKit
variable {w w' : World} {B h : Nat} {S S0 : Nat -> Prop} {a : MAsk} {mv cv : Value} {aw : ByteArray} {m : Option Nat} {D : DataW Value} {row : ByteArray -> Value}
theorem four_set {w : World} {b : Nat} {v0 v1 v2 v3 u0 u1 u2 u3 : Value} (k0 : w.cell? ⟨b, 0, none⟩ = some u0) (k1 : w.cell? ⟨b, 1, none⟩ = some u1) (k2 : w.cell? ⟨b, 2, none⟩ = some u2) (k3 : w.cell? ⟨b, 3, none⟩ = some u3) :
 ((((w.setCell ⟨b, 0, none⟩ v0).setCell ⟨b, 1, none⟩ v1).setCell ⟨b, 2, none⟩ v2).setCell ⟨b, 3, none⟩ v3).cell? ⟨b, 0, none⟩ = some v0 /\ ((((w.setCell ⟨b, 0, none⟩ v0).setCell ⟨b, 1, none⟩ v1).setCell ⟨b, 2, none⟩ v2).setCell ⟨b, 3, none⟩ v3).cell? ⟨b, 1, none⟩ = some v1 /\ ((((w.setCell ⟨b, 0, none⟩ v0).setCell ⟨b, 1, none⟩ v1).setCell ⟨b, 2, none⟩ v2).setCell ⟨b, 3, none⟩ v3).cell? ⟨b, 2, none⟩ = some v2 /\ ((((w.setCell ⟨b, 0, none⟩ v0).setCell ⟨b, 1, none⟩ v1).setCell ⟨b, 2, none⟩ v2).setCell ⟨b, 3, none⟩ v3).cell? ⟨b, 3, none⟩ = some v3 := by
 refine ⟨?_, ?_, ?_, ?_⟩ <;> simp [go_sem, k0, k1, k2, k3]
theorem keep_cells {a a' : MAsk} (en mb : Nat) (mv hv cv : Value) (aw : ByteArray) (e1 : a'.name = a.name) (e2 : a'.key = a.key) (e3 : a'.op = a.op) (e4 : a'.config = a.config) (e5 : a'.c = a.c) : (((((((pkCells a en mv hv cv aw).setIfInBounds 10 (.string a'.st.word)).setIfInBounds 12 (.int .i64 a'.obj.1)).setIfInBounds 13 (.int .i64 a'.obj.2.1)).setIfInBounds 14 (.string a'.obj.2.2.1)).setIfInBounds 15 (.bool a'.obj.2.2.2)).setIfInBounds 8 (.string wKept)).setIfInBounds 9 (.map (some mb)) = pkCells a' en mv (.map (some mb)) cv wKept := by
 unfold pkCells
 rw [e1, e2, e3, e4, e5]
 generalize a.obj = ob
 generalize a'.obj = ob'
 simp only [List.setIfInBounds_toArray, List.set_cons_zero, List.set_cons_succ]
set_option maxRecDepth 10000 in
set_option maxHeartbeats 8000000 in
theorem phtold_any (ad : Nat -> Addr) (hp : PAk w B h S S0 a mv cv aw m D row) (x : Msg × Lv) (ht : a.takes x.1 = true) (hst : a.st = .looking) (hL : HasL w x) (hv : ∀ v ∈ x.1.L, VerI64 v) (hsm : a.small x.1) (hG : ∀ W : World, w.heap.size <= W.heap.size -> (∀ k, k < w.heap.size -> ¬ S k -> W.heap[k]? = w.heap[k]?) -> ErrsQ W ad /\ ∃ z, W.cell? ⟨11, 0, none⟩ = some (.iface 234 (.pointer (some z)))) :
 Calls Tryz.prog 41 #[.pointer (some ⟨h, 0, none⟩), .string x.1.from_, .slice x.2.1 x.2.2.1 x.2.2.2] w fun e w' => (∃ p c, e = .returned (.slice p (tolR (a.heard x.1)).2.length c) /\ MsgsN w.heap.size w' p (tolR (a.heard x.1)).2) /\ ∃ S', PAkOf w' B h S' (tolR (a.heard x.1)).1 /\ Upd S S' w w' := by
 obtain ⟨b, hmb, hSb, hbh, hH⟩ := hp.open_ (Or.inl hst)
 subst hmb
 obtain ⟨n0, hown0⟩ := hH.own
 have hown := hown0.tight
 have hsz : Maps.size D <= 12 := by
  rw [hH.size]
  obtain ⟨⟨_, _, h3⟩, h4, _⟩ := cfgF_fine hp.fine.cfg
  have := length_le_sub hp.fine.nodup hp.fine.sub
  omega
 have hlt := hp.lt
 obtain ⟨b1, b2, b3, b4, b5⟩ := bulk_from hsm
 have HNT := pnote_any x.1.from_ x.2.1 x.1.L x.2.2.2 hlt (hp.cell 9) hown (by unfold maxLen; omega) (by omega) hL.recs hL.empty (by omega) (fun v hv => by have := b3 v hv; omega)
 rw [hL.len]
 have HNU : Hid (Calls Tryz.prog 68 #[.pointer (some ⟨h, 0, none⟩), .string x.1.from_, .slice x.2.1 x.1.L.length x.2.2.2] w fun e w' => e = .returned (.tuple #[]) /\ ∃ S1 S01 D' row', PAk w' B h S1 S01 (a.heard x.1) mv cv aw (some b) D' row' /\ Upd S S1 w w') := HNT.mono fun e w' hq => by
  obtain ⟨h1, v', w1, h2, h3, h4⟩ := hq
  exact ⟨h1, hp.heard ht hv (fun _ => rfl) (by unfold maxLen; omega) h2 h3 h4⟩
 have HST' : Hid ((a.heard x.1).st = .looking) := hst
 have HFL : Hid ((a.heard x.1).L.flatten.length <= 1000) := by show _ <= _; omega
 have HGG : Hid (∀ W : World, w.heap.size <= W.heap.size -> (∀ k, k < w.heap.size -> ¬ S k -> W.heap[k]? = w.heap[k]?) -> ErrsQ W ad /\ ∃ z, W.cell? ⟨11, 0, none⟩ = some (.iface 234 (.pointer (some z)))) := hG
 clear hown hown0 hH HNT hsz hp hv hst ht hL hsm b1 b2 b3 b4 b5 hG
 generalize a.heard x.1 = a' at *
 generalize x.1.from_ = mf at *
 generalize x.1.L.length = ln at *
 generalize x.2.1 = lp at *
 generalize x.2.2.2 = lc at *
 by_cases hfl : a'.from_.length < enoughN a'.c
 ·have HR : Hid (tolR a' = (a', [])) := if_pos hfl
  rw [HR.out]
  go_enter Tryz.func41, Tryz.ntmps41
  go_wp2_with fail
  refine HNU.out.mono ?_
  rintro e w2 ⟨rfl, S1, S01, D', row', hP, hU⟩
  obtain ⟨b2, hb2, _, _, hH2⟩ := hP.open_ (Or.inl HST'.out)
  have HFU := pfull_any (h := h) (enoughN a'.c) hH2 (by rw [hP.cell 9, hb2]; rfl) (hP.cell 7)
  have hdf : decide (enoughN a'.c <= a'.from_.length) = false := decide_eq_false (by omega)
  rw [hdf] at HFU
  have HP2 : Hid (PAk w2 B h S1 S01 a' mv cv aw (some b) D' row') := hP
  have HU2 : Hid (Upd S S1 w w2) := hU
  clear hP hU hH2 hdf HNU
  go_wp2_with fail
  refine HFU.mono ?_
  rintro e w3 ⟨rfl, hb3⟩
  have HB3 : Hid (Below w2.heap.size w2 w3) := hb3
  clear hb3 HFU
  go_wp2
  go_ret
  exact ⟨⟨none, 0, rfl, MsgsN.nil _ _⟩, S1, ⟨_, _, _, _, _, _, _, HP2.out.below HB3.out⟩, HU2.out.trans (Upd.of_below HB3.out)⟩
 ·go_enter Tryz.func41, Tryz.ntmps41
  go_wp2_with fail
  refine HNU.out.mono ?_
  rintro e w2 ⟨rfl, S1, S01, D', row', hP, hU⟩
  obtain ⟨b2, hb2, _, _, hH2⟩ := hP.open_ (Or.inl HST'.out)
  have HFU := pfull_any (h := h) (enoughN a'.c) hH2 (by rw [hP.cell 9, hb2]; rfl) (hP.cell 7)
  have hdf : decide (enoughN a'.c <= a'.from_.length) = true := decide_eq_true (by omega)
  rw [hdf] at HFU
  have HP2 : Hid (PAk w2 B h S1 S01 a' mv cv aw (some b) D' row') := hP
  have HU2 : Hid (Upd S S1 w w2) := hU
  clear hP hU hH2 hdf HNU
  go_wp2_with fail
  refine HFU.mono ?_
  rintro e w3 ⟨rfl, hb3⟩
  have hP3 := HP2.out.below hb3
  have hU3 := HU2.out.trans (Upd.of_below hb3)
  obtain ⟨hE3, z, hZ3⟩ := HGG.out w3 hU3.size (fun k hk hs => hU3.block k hk hs)
  obtain ⟨fn, caps, hcv, hent, hch⟩ := choose_any ad z hP3 HST'.out HFL.out hE3 hZ3
  subst hcv
  have HP3 : Hid (PAk w3 B h S1 S01 a' mv (.func (.func fn) #[] caps) aw (some b) D' row') := hP3
  have HU3 : Hid (Upd S S1 w w3) := hU3
  obtain ⟨LL, hLL⟩ : ∃ LL, LL = toldP a' a'.c.L := ⟨_, rfl⟩
  rw [<- hLL] at hch
  obtain ⟨f1, f2, f3, f4, hff⟩ : ∃ f1 f2 f3 f4, f1 = a'.found_.tag.1 /\ f2 = a'.found_.tag.2 /\ f3 = a'.found_.text /\ f4 = a'.found_.found := ⟨_, _, _, _, rfl, rfl, rfl, rfl⟩
  rw [<- hff.1, <- hff.2.1, <- hff.2.2.1, <- hff.2.2.2] at hch
  have HFF : Hid (f1 = a'.found_.tag.1 /\ f2 = a'.found_.tag.2 /\ f3 = a'.found_.text /\ f4 = a'.found_.found) := hff
  have HS : Hid (∀ W : World, Below w3.heap.size w3 W -> (W.cell? ⟨h, 11, none⟩ = some (.func (.func fn) #[] caps) /\ Below w3.heap.size w3 W)) := fun W hW => ⟨(HP3.out.below hW).cell 11, hW⟩
  have HS0 := HS.out w3.drew (Below.refl _ _).drew
  have HSA := HS.out (w3.alloc (.cells #[.int .i64 0, .int .i64 0, .string ⟨#[]⟩, .bool false] 72)).drew (((Below.refl _ _).alloc (Nat.le_refl _) _).drew)
  have HTD : ∀ W, Below w3.heap.size w3 W -> Calls Tryz.prog 70 #[.pointer (some ⟨h, 0, none⟩)] W fun e w' => (∃ p c, e = .returned (.slice p LL.length c) /\ Vss w' p LL) /\ Below W.heap.size W w' := fun W hW => by rw [hLL]; exact ptold_any (HP3.out.below hW) HST'.out
  have HTA : Hid (Calls Tryz.prog 70 #[.pointer (some ⟨h, 0, none⟩)] w3.drew fun e w' => ∃ p c, e = .returned (.slice p LL.length c) /\ Hid (Vss w' p LL) /\ (w'.cell? ⟨h, 11, none⟩ = some (.func (.func fn) #[] caps) /\ Below w3.heap.size w3 w')) := (HTD _ (Below.refl _ _).drew).mono fun e w' hq => by
   obtain ⟨⟨p, c, h1, h2⟩, h3⟩ := hq
   exact ⟨p, c, h1, h2, HS.out w' ((Below.refl _ w3).drew.trans h3)⟩
  have hOlt : w3.heap.size < (w3.alloc (.cells #[.int .i64 0, .int .i64 0, .string ⟨#[]⟩, .bool false] 72)).drew.heap.size := by show w3.heap.size < (w3.alloc _).heap.size; simp
  have hObl : (w3.alloc (.cells #[.int .i64 0, .int .i64 0, .string ⟨#[]⟩, .bool false] 72)).drew.heap[w3.heap.size]? = some (.cells #[.int .i64 0, .int .i64 0, .string ⟨#[]⟩, .bool false] 72 (0, 0)) := by
   show (w3.heap.push _)[w3.heap.size]? = _
   simp
  have HTB : Hid (Calls Tryz.prog 70 #[.pointer (some ⟨h, 0, none⟩)] (w3.alloc (.cells #[.int .i64 0, .int .i64 0, .string ⟨#[]⟩, .bool false] 72)).drew fun e w' => ∃ p c, e = .returned (.slice p LL.length c) /\ Hid (Vss w' p LL /\ w'.heap[w3.heap.size]? = some (.cells #[.int .i64 0, .int .i64 0, .string ⟨#[]⟩, .bool false] 72 (0, 0))) /\ (w'.cell? ⟨h, 11, none⟩ = some (.func (.func fn) #[] caps) /\ Below w3.heap.size w3 w')) := (HTD _ (((Below.refl _ _).alloc (Nat.le_refl _) _).drew)).mono fun e w' hq => by
   obtain ⟨⟨p, c, h1, h2⟩, h3⟩ := hq
   exact ⟨p, c, h1, ⟨h2, (h3.block _ hOlt).trans hObl⟩, HS.out w' ((((Below.refl _ w3).alloc (Nat.le_refl _) _).drew).trans (h3.mono (Nat.le_of_lt hOlt)))⟩
  have HCA : Hid (∀ W p c, Hid (Vss W p LL) -> (W.cell? ⟨h, 11, none⟩ = some (.func (.func fn) #[] caps) /\ Below w3.heap.size w3 W) -> Calls Tryz.prog fn (#[.slice p LL.length c] ++ caps) W fun e w' => e = .returned (.agg #[.int .i64 f1, .int .i64 f2, .string f3, .bool f4]) /\ (w'.cell? ⟨h, 11, none⟩ = some (.func (.func fn) #[] caps) /\ Below w3.heap.size w3 w')) := fun W p c hV hS => (hch W hS.2 p c hV.out).mono fun e w' hq => ⟨hq.1, HS.out w' (hS.2.trans (hq.2.mono hS.2.size))⟩
  have HCB : Hid (∀ W p c, Hid (Vss W p LL) -> (W.cell? ⟨h, 11, none⟩ = some (.func (.func fn) #[] caps) /\ Below w3.heap.size w3 W) -> Calls Tryz.prog fn (#[.slice p LL.length c] ++ caps) (W.alloc (.cells #[.int .i64 0, .int .i64 0, .string ⟨#[]⟩, .bool false] 72)) fun e w' => e = .returned (.agg #[.int .i64 f1, .int .i64 f2, .string f3, .bool f4]) /\ (w'.cell? ⟨h, 11, none⟩ = some (.func (.func fn) #[] caps) /\ Below w3.heap.size w3 w') /\ (w'.cell? ⟨W.heap.size, 0, none⟩ = some (.int .i64 0) /\ w'.cell? ⟨W.heap.size, 1, none⟩ = some (.int .i64 0) /\ w'.cell? ⟨W.heap.size, 2, none⟩ = some (.string ⟨#[]⟩) /\ w'.cell? ⟨W.heap.size, 3, none⟩ = some (.bool false)) /\ (w'.frozen? ⟨W.heap.size, 0, none⟩ = false /\ w'.frozen? ⟨W.heap.size, 1, none⟩ = false /\ w'.frozen? ⟨W.heap.size, 2, none⟩ = false /\ w'.frozen? ⟨W.heap.size, 3, none⟩ = false) /\ Hid (w3.heap.size <= W.heap.size)) := fun W p c hV hS => by
   have hba : Below W.heap.size W (W.alloc (.cells #[.int .i64 0, .int .i64 0, .string ⟨#[]⟩, .bool false] 72)) := (Below.refl _ _).alloc (Nat.le_refl _) _
   have hb3a := hS.2.trans (hba.mono hS.2.size)
   refine (hch _ hb3a p c (hV.out.below hba)).mono fun e w' hq => ?_
   have hbl : w'.heap[W.heap.size]? = some (.cells #[.int .i64 0, .int .i64 0, .string ⟨#[]⟩, .bool false] 72 (0, 0)) := (hq.2.block _ (by simp)).trans (by show (W.heap.push _)[W.heap.size]? = _; simp)
   exact ⟨hq.1, HS.out w' (hb3a.trans (hq.2.mono hb3a.size)), ⟨(blk_cell hbl 0).1, (blk_cell hbl 1).1, (blk_cell hbl 2).1, (blk_cell hbl 3).1⟩, ⟨(blk_cell hbl 0).2, (blk_cell hbl 1).2, (blk_cell hbl 2).2, (blk_cell hbl 3).2⟩, hS.2.size⟩
  have HCC : Hid (∀ W p c, Hid (Vss W p LL /\ W.heap[w3.heap.size]? = some (.cells #[.int .i64 0, .int .i64 0, .string ⟨#[]⟩, .bool false] 72 (0, 0))) -> (W.cell? ⟨h, 11, none⟩ = some (.func (.func fn) #[] caps) /\ Below w3.heap.size w3 W) -> Calls Tryz.prog fn (#[.slice p LL.length c] ++ caps) W fun e w' => e = .returned (.agg #[.int .i64 f1, .int .i64 f2, .string f3, .bool f4]) /\ (w'.cell? ⟨h, 11, none⟩ = some (.func (.func fn) #[] caps) /\ Below w3.heap.size w3 w') /\ (w'.cell? ⟨w3.heap.size, 0, none⟩ = some (.int .i64 0) /\ w'.cell? ⟨w3.heap.size, 1, none⟩ = some (.int .i64 0) /\ w'.cell? ⟨w3.heap.size, 2, none⟩ = some (.string ⟨#[]⟩) /\ w'.cell? ⟨w3.heap.size, 3, none⟩ = some (.bool false)) /\ (w'.frozen? ⟨w3.heap.size, 0, none⟩ = false /\ w'.frozen? ⟨w3.heap.size, 1, none⟩ = false /\ w'.frozen? ⟨w3.heap.size, 2, none⟩ = false /\ w'.frozen? ⟨w3.heap.size, 3, none⟩ = false)) := fun W p c hV hS => by
   refine (hch W hS.2 p c hV.out.1).mono fun e w' hq => ?_
   have hlt : w3.heap.size < W.heap.size := by
    rcases Nat.lt_or_ge w3.heap.size W.heap.size with h' | h'
    ·exact h'
    ·have := hV.out.2; rw [Array.getElem?_eq_none h'] at this; cases this
   have hbl := (hq.2.block _ hlt).trans hV.out.2
   exact ⟨hq.1, HS.out w' (hS.2.trans (hq.2.mono hS.2.size)), ⟨(blk_cell hbl 0).1, (blk_cell hbl 1).1, (blk_cell hbl 2).1, (blk_cell hbl 3).1⟩, (blk_cell hbl 0).2, (blk_cell hbl 1).2, (blk_cell hbl 2).2, (blk_cell hbl 3).2⟩
  clear hb3 HFU hP3 hU3 hE3 hZ3 hch hLL hff HTD hOlt hObl
  go_wp2
  go_cut [7] from 19 to 27 (fun v W => ∃ ob, v = .pointer (some ⟨ob, 0, none⟩) /\ (W.cell? ⟨ob, 0, none⟩ = some (.int .i64 f1) /\ W.cell? ⟨ob, 1, none⟩ = some (.int .i64 f2) /\ W.cell? ⟨ob, 2, none⟩ = some (.string f3) /\ W.cell? ⟨ob, 3, none⟩ = some (.bool f4)) /\ Below w3.heap.size w3 W /\ w3.heap.size <= ob)
  case first =>
   go_region_held3 (fun W => (W.cell? ⟨h, 11, none⟩ = some (.func (.func fn) #[] caps) /\ Below w3.heap.size w3 W)) (first | with_reducible assumption | with_reducible exact HS0 | with_reducible exact HSA | (with_reducible exact HS.out _ (hS4.2.alloc hS4.2.size _)) | (with_reducible exact HS.out _ (hS5.2.alloc hS5.2.size _)) | exact HS.out _ ((((hS5.2.setCell (by first | exact Nat.le_refl _ | exact hle5.out) _).setCell (by first | exact Nat.le_refl _ | exact hle5.out) _).setCell (by first | exact Nat.le_refl _ | exact hle5.out) _).setCell (by first | exact Nat.le_refl _ | exact hle5.out) _)) (first | (go_at_call 70; with_reducible refine HTA.out.mono ?_; rintro e w4 ⟨p4, c4, rfl, hV4, hS4⟩) | (go_at_call 70; with_reducible refine HTB.out.mono ?_; rintro e w4 ⟨p4, c4, rfl, hV4, hS4⟩) | (with_reducible refine (HCC.out w4 p4 c4 (by with_reducible assumption) (by with_reducible assumption)).mono ?_; rintro e w5 ⟨rfl, hS5, ⟨k0, k1, k2, k3⟩, y0, y1, y2, y3⟩) | (with_reducible refine (HCA.out w4 p4 c4 (by with_reducible assumption) (by with_reducible assumption)).mono ?_; rintro e w5 ⟨rfl, hS5⟩) | (with_reducible refine (HCB.out w4 p4 c4 (by with_reducible assumption) (by with_reducible assumption)).mono ?_; rintro e w5 ⟨rfl, hS5, ⟨k0, k1, k2, k3⟩, ⟨y0, y1, y2, y3⟩, hle5⟩))
   all_goals (go_wp2_with fail; go_meet)
   all_goals first
    | exact ⟨_, rfl, ⟨by rw [World.cell?_alloc_at _ _ _ _ rfl]; rfl, by rw [World.cell?_alloc_at _ _ _ _ rfl]; rfl, by rw [World.cell?_alloc_at _ _ _ _ rfl]; rfl, by rw [World.cell?_alloc_at _ _ _ _ rfl]; rfl⟩, hS5.2.alloc hS5.2.size _, hS5.2.size⟩
    | exact ⟨_, rfl, four_set k0 k1 k2 k3, (((hS5.2.setCell (Nat.le_refl _) _).setCell (Nat.le_refl _) _).setCell (Nat.le_refl _) _).setCell (Nat.le_refl _) _, Nat.le_refl _⟩
    | exact ⟨_, rfl, four_set k0 k1 k2 k3, (((hS5.2.setCell hle5.out _).setCell hle5.out _).setCell hle5.out _).setCell hle5.out _, hle5.out⟩
  case rest =>
   obtain ⟨ob, rfl, ⟨o0, o1, o2, o3⟩, hbc, hob⟩ := hcut
   have hPc := HP3.out.below hbc
   have hUc := HU3.out.trans (Upd.of_below hbc)
   obtain ⟨e1, e2, e3, e4, e5, e6, e7, e8, e9, e10, _⟩ := found_same a'
   clear HTA HTB HCA HCB HCC HS0 HSA
   cases f4 with
   | false =>
    have hfd : a'.found_.found = false := HFF.out.2.2.2.symm
    have HR : Hid (tolR a' = ({ a'.found_ with st := .done }, [])) := by show _ = _; unfold tolR; rw [if_neg hfl, if_pos hfd]
    have hob2 : ({ a'.found_ with st := .done } : MAsk).obj = (0, 0, ⟨#[]⟩, false) := if_neg (fun e => by have := e.2; rw [show ({ a'.found_ with st := .done } : MAsk).found = a'.found_.found from rfl, hfd] at this; cases this)
    have HEND := pend_any ⟨#[100, 111, 110, 101]⟩ 0 0 ⟨#[]⟩ false hPc.blk rfl
    have HENE : Hid (Calls Tryz.prog 40 #[.pointer (some ⟨h, 0, none⟩), .string ⟨#[100, 111, 110, 101]⟩, .agg #[.int .i64 0, .int .i64 0, .string ⟨#[]⟩, .bool false]] wc fun e w' => e = .returned (.tuple #[]) /\ PAkOf w' B h S1 { a'.found_ with st := .done } /\ Upd S S1 w w') := HEND.mono fun e w' hq => by
     obtain ⟨h1, h2⟩ := hq
     have hcs := end_cells (a := a') (a' := { a'.found_ with st := .done }) (enoughN a'.c) mv (.map (some b)) (.func (.func fn) #[] caps) aw e3 e2 e6 e7 e1
     rw [hob2] at hcs
     refine ⟨h1, hPc.ended (cv' := .nilFunc) (a' := { a'.found_ with st := .done }) ?_ e1 ((hPc.fine.found HST'.out).ended (Or.inl rfl)) (Or.inl rfl), hUc.trans (h2.upd hPc.self (fun k hk => Or.inl hk))⟩
     have e5' : enoughN ({ a'.found_ with st := .done } : MAsk).c = enoughN a'.c := congrArg enoughN e1
     rw [e5']
     exact hcs ▸ h2
    clear hPc hUc hbc hob HEND hob2 hfd e1 e2 e3 e4 e5 e6 e7 e8 e9 e10 HP3 HU3
    go_wp2_with fail
    refine HENE.out.mono ?_
    rintro e w7 ⟨rfl, hP7, hU7⟩
    have HP7 : Hid (PAkOf w7 B h S1 { a'.found_ with st := .done }) := hP7
    have HU7 : Hid (Upd S S1 w w7) := hU7
    clear hP7 hU7 HENE
    go_wp2
    go_ret
    rw [HR.out]
    exact ⟨⟨none, 0, rfl, MsgsN.nil _ _⟩, S1, HP7.out, HU7.out⟩
   | true =>
    have hfd : a'.found_.found = true := HFF.out.2.2.2.symm
    have HR : Hid (tolR a' = (a'.found_.keeps, a'.found_.keeps.send wKeep true)) := by show _ = _; unfold tolR; rw [if_neg hfl, if_neg (by rw [hfd]; decide)]
    have hst2 : a'.found_.moves = false := by rw [e4]; exact hPc.fine.still
    have hke := keeps_eq hst2
    have hfk : a'.found_.keeps.found = true := by rw [hke]; exact hfd
    have hsk : a'.found_.keeps.st = .keeping := by rw [hke]
    have hob2 : a'.found_.keeps.obj = (f1, f2, f3, true) := by
     have : a'.found_.keeps.obj = (a'.found_.keeps.tag.1, a'.found_.keeps.tag.2, a'.found_.keeps.text, true) := if_pos ⟨Or.inl hsk, hfk⟩
     rw [this, HFF.out.1, HFF.out.2.1, HFF.out.2.2.1, hke]
    have hW0 : AskWr h _ wc wc := AskWr.refl hPc.blk
    have hcell : ∀ i, i < 16 -> ∃ v, wc.cell? ⟨h, i, none⟩ = some v := fun i hi => ⟨(pkCells a' (enoughN a'.c) mv (.map (some b)) (.func (.func fn) #[] caps) aw)[i]'hi, by rw [(blk_cell hPc.blk i).1]; exact Array.getElem?_eq_getElem hi⟩
    obtain ⟨v10, c10⟩ := hcell 10 (by decide)
    obtain ⟨v12, c12⟩ := hcell 12 (by decide)
    obtain ⟨v13, c13⟩ := hcell 13 (by decide)
    obtain ⟨v14, c14⟩ := hcell 14 (by decide)
    obtain ⟨v15, c15⟩ := hcell 15 (by decide)
    have y10 := (blk_cell hPc.blk 10).2
    have y12 := (blk_cell hPc.blk 12).2
    have y13 := (blk_cell hPc.blk 13).2
    have y14 := (blk_cell hPc.blk 14).2
    have y15 := (blk_cell hPc.blk 15).2
    have hneo : h ≠ ob := by have := HP3.out.lt; omega
    have hneo' : ob ≠ h := fun e => hneo e.symm
    obtain ⟨w8, hw8⟩ : ∃ w8, w8 = (((((wc.setCell ⟨h, 10, none⟩ (.string ⟨#[107, 101, 101, 112, 105, 110, 103]⟩)).setCell ⟨h, 12, none⟩ (.int .i64 f1)).setCell ⟨h, 13, none⟩ (.int .i64 f2)).setCell ⟨h, 14, none⟩ (.string f3)).setCell ⟨h, 15, none⟩ (.bool true)).drew := ⟨_, rfl⟩
    have hW8 : AskWr h ((((((pkCells a' (enoughN a'.c) mv (.map (some b)) (.func (.func fn) #[] caps) aw).setIfInBounds 10 (.string ⟨#[107, 101, 101, 112, 105, 110, 103]⟩)).setIfInBounds 12 (.int .i64 f1)).setIfInBounds 13 (.int .i64 f2)).setIfInBounds 14 (.string f3)).setIfInBounds 15 (.bool true)) wc w8 := by rw [hw8]; exact (((((hW0.set 10 _).set 12 _).set 13 _).set 14 _).set 15 _).below (Below.refl _ _).drew
    have HAW := pawait_any wKept hW8.blk ⟨_, rfl⟩ ⟨_, rfl⟩
    have HAX : Hid (Calls Tryz.prog 52 #[.pointer (some ⟨h, 0, none⟩), .string ⟨#[107, 101, 112, 116]⟩] w8 fun e w' => e = .returned (.tuple #[]) /\ ∃ S2 row' D', PAk w' B h S2 S01 a'.found_.keeps mv (.func (.func fn) #[] caps) wKept (some w8.heap.size) D' row' /\ Upd S S2 w w') := HAW.mono fun e w' hq => by
     obtain ⟨h1, h2, h3⟩ := hq
     have h4 := hW8.trans h2
     have hcs := keep_cells (a := a') (a' := a'.found_.keeps) (enoughN a'.c) w8.heap.size mv (.map (some b)) (.func (.func fn) #[] caps) aw (by rw [hke]; exact e3) (by rw [hke]; exact e2) (by rw [hke]; exact e6) (by rw [hke]; exact e7) (by rw [hke]; exact e1)
     rw [hob2, hsk] at hcs
     have e5' : enoughN a'.found_.keeps.c = enoughN a'.c := by rw [hke]; exact congrArg enoughN e1
     obtain ⟨row', D', hK⟩ := hPc.kept (a' := a'.found_.keeps) (cv' := .func (.func fn) #[] caps) (mb := w8.heap.size) (by rw [e5']; exact hcs ▸ h4) (by rw [hke]; exact e1) ((hPc.fine.found HST'.out).keeps hfd) hsk (by rw [hke]) hW8.size h3
     exact ⟨h1, _, row', D', hK, hUc.trans (h4.upd hPc.self (fun k hk => by rcases hk with hk | rfl; exact Or.inl hk; exact Or.inr hW8.size))⟩
    have HW8 : Hid (w8 = (((((wc.setCell ⟨h, 10, none⟩ (.string ⟨#[107, 101, 101, 112, 105, 110, 103]⟩)).setCell ⟨h, 12, none⟩ (.int .i64 f1)).setCell ⟨h, 13, none⟩ (.int .i64 f2)).setCell ⟨h, 14, none⟩ (.string f3)).setCell ⟨h, 15, none⟩ (.bool true)).drew) := hw8
    have HSK : Hid (a'.found_.keeps.st = .keeping) := hsk
    clear hPc hUc hbc hob HAW hob2 hfd e1 e2 e3 e4 e5 e6 e7 e8 e9 e10 HP3 HU3 hst2 hke hfk hsk hW0 hcell hw8 hW8
    go_wp2
    go_region
    rw [<- HW8.out]
    clear c10 c12 c13 c14 c15 y10 y12 y13 y14 y15 o0 o1 o2 o3
    go_wp2_with fail
    refine HAX.out.mono ?_
    rintro e w9 ⟨rfl, S2, row9, D9, hP9, hU9⟩
    obtain ⟨hE9, z9, hZ9⟩ := HGG.out w9 hU9.size (fun k hk hs => hU9.block k hk hs)
    have HKP := pkeep_any hP9 HSK.out z9 hZ9
    have HP9 : Hid (PAk w9 B h S2 S01 a'.found_.keeps mv (.func (.func fn) #[] caps) wKept (some w8.heap.size) D9 row9) := hP9
    have HU9 : Hid (Upd S S2 w w9) := hU9
    clear hP9 hU9 hE9 hZ9 HAX
    go_wp2_with fail
    refine HKP.mono ?_
    rintro e w10 ⟨⟨p10, c10, rfl, hm10⟩, hb10⟩
    have HM10 : Hid (MsgsN w.heap.size w10 p10 (a'.found_.keeps.send wKeep true)) := hm10.mono HU9.out.size
    have HB10 : Hid (Below w9.heap.size w9 w10) := hb10
    clear hm10 hb10 HKP
    go_wp2
    go_ret
    rw [HR.out]
    exact ⟨⟨p10, c10, rfl, HM10.out⟩, S2, ⟨_, _, _, _, _, _, _, HP9.out.below HB10.out⟩, HU9.out.trans (Upd.of_below HB10.out)⟩
end Go.Proofs.YtobmckfcipeanaaGreatDoor
namespace Go.Proofs.YtobmckfcipeanaaGreatDoor
open Go.RowKit
variable {w w' : World} {B h : Nat} {S S0 : Nat -> Prop} {a : MAsk} {mv cv : Value} {aw : ByteArray} {m : Option Nat} {D : DataW Value} {row : ByteArray -> Value}
theorem Upd.since {S S' : Nat -> Prop} {w w1 w' : World} (hb : Below w.heap.size w w1) (h : Upd S S' w1 w') : Upd S S' w w' := (Upd.of_below (S := S) hb).trans h
set_option maxRecDepth 10000 in
set_option maxHeartbeats 8000000 in
theorem phear_any (ad : Nat -> Addr) (hp : PAk w B h S S0 a mv cv aw m D row) (x : Msg × Lv) (hL : HasL w x) (hsm : a.small x.1) (hv : ∀ v ∈ x.1.L, VerI64 v) (hG : ∀ W : World, w.heap.size <= W.heap.size -> (∀ k, k < w.heap.size -> ¬ S k -> W.heap[k]? = w.heap[k]?) -> ErrsQ W ad /\ ∃ z, W.cell? ⟨11, 0, none⟩ = some (.iface 234 (.pointer (some z)))) :
 Calls Tryz.prog 17 #[.pointer (some ⟨h, 0, none⟩), .agg #[.string x.1.from_, .string x.1.to_, .string x.1.kind, .string x.1.key, .int .i64 x.1.op, .int .i64 x.1.config, .bool x.1.shut, .slice x.2.1 x.2.2.1 x.2.2.2]] w fun e w' => (∃ p c, e = .returned (.slice p (a.hear x.1).2.length c) /\ MsgsN w.heap.size w' p (a.hear x.1).2) /\ ∃ S', PAkOf w' B h S' (a.hear x.1).1 /\ Upd S S' w w' := by
 obtain ⟨b1, _, _, _, _⟩ := bulk_from hsm
 have HCN := fun W (hW : Below w.heap.size w W) => counts_any (hp.below hW) x (by unfold maxLen; omega)
 have HTK : ∀ W, Below w.heap.size w W -> a.takes x.1 = true -> x.1.shut = false -> a.st = .looking -> Calls Tryz.prog 41 #[.pointer (some ⟨h, 0, none⟩), .string x.1.from_, .slice x.2.1 x.2.2.1 x.2.2.2] W fun e w' => (∃ p c, e = .returned (.slice p (a.hear x.1).2.length c) /\ MsgsN w.heap.size w' p (a.hear x.1).2) /\ ∃ S', PAkOf w' B h S' (a.hear x.1).1 /\ Upd S S' w w' := fun W hW h1 h2 h3 => by
  rw [hear_told h1 h2 h3]
  exact (phtold_any ad (hp.below hW) x h1 h3 (hL.below hW) hv hsm (fun W2 hs hk => hG W2 (Nat.le_trans hW.size hs) (fun k hk1 hk2 => (hk k (Nat.lt_of_lt_of_le hk1 hW.size) hk2).trans (hW.block k hk1)))).mono fun e w' hq => by
   obtain ⟨⟨p, c, e1, e2⟩, S', h2, h3⟩ := hq
   exact ⟨⟨p, c, e1, e2.mono hW.size⟩, S', h2, h3.since hW⟩
 have HKP : ∀ W, Below w.heap.size w W -> a.takes x.1 = true -> x.1.shut = false -> a.st = .keeping -> Calls Tryz.prog 42 #[.pointer (some ⟨h, 0, none⟩), .string x.1.from_] W fun e w' => e = .returned (.tuple #[]) /\ ∃ S', PAkOf w' B h S' (a.hear x.1).1 /\ Upd S S' w w' := fun W hW h1 h2 h3 => by
  rw [hear_kept h1 h2 h3]
  exact (phkept_any (hp.below hW) x.1 h1 h3 hv b1).mono fun e w' hq => by
   obtain ⟨h1, S', h2, h3⟩ := hq
   exact ⟨h1, S', h2, h3.since hW⟩
 have HED : ∀ W, Below w.heap.size w W -> a.takes x.1 = true -> x.1.shut = true -> Calls Tryz.prog 40 #[.pointer (some ⟨h, 0, none⟩), .string ⟨#[114, 101, 102, 117, 115, 101, 100]⟩, .agg #[.int .i64 0, .int .i64 0, .string ⟨#[]⟩, .bool false]] W fun e w' => e = .returned (.tuple #[]) /\ PAkOf w' B h S (a.hear x.1).1 /\ Upd S S w w' := fun W hW h1 h2 => by
  rw [hear_shut h1 h2 hp.fine.st]
  have hPW := hp.below hW
  refine (pend_any ⟨#[114, 101, 102, 117, 115, 101, 100]⟩ 0 0 ⟨#[]⟩ false hPW.blk rfl).mono fun e w' hq => ?_
  obtain ⟨g1, g2⟩ := hq
  have hob2 : ({ a with st := .refused } : MAsk).obj = (0, 0, ⟨#[]⟩, false) := if_neg (fun e => by rcases e.1 with e | e <;> cases e)
  have hcs := end_cells (a := a) (a' := { a with st := .refused }) (enoughN a.c) mv (.map m) cv aw rfl rfl rfl rfl rfl
  rw [hob2] at hcs
  refine ⟨g1, hPW.ended (cv' := .nilFunc) (a' := { a with st := .refused }) (hcs ▸ g2) rfl (hPW.fine.ended (Or.inr rfl)) (Or.inr rfl), (g2.upd hPW.self (fun k hk => Or.inl hk)).since hW⟩
 have HKE : ∀ W, Below w.heap.size w W -> PAkOf W B h S a := fun W hW => ⟨_, _, _, _, _, _, _, hp.below hW⟩
 have hc10 : ∀ W, Below w.heap.size w W -> W.cell? ⟨h, 10, none⟩ = some (.string a.st.word) := fun W hW => (hp.below hW).cell 10
 have hst := hp.fine.st
 have hno : a.takes x.1 = false -> a.hear x.1 = (a, []) := hear_no
 have hsh : a.takes x.1 = true -> x.1.shut = true -> (a.hear x.1).2 = [] := fun h1 h2 => by rw [hear_shut h1 h2 hst]
 have hkh : a.takes x.1 = true -> x.1.shut = false -> a.st = .keeping -> (a.hear x.1).2 = [] := fun h1 h2 h3 => by rw [hear_kept h1 h2 h3]
 have htf : a.takes x.1 = true -> a.st = .looking ∨ a.st = .keeping := fun h1 => (takes_facts hst h1).1
 clear hp hL hsm hv hG b1
 obtain ⟨⟨m1, m2, m3, m4, m5, m6, m7, mL⟩, lp, ln, lc⟩ := x
 dsimp only at *
 obtain ⟨w1, hw1⟩ : ∃ w1, w1 = w.alloc (.cells #[.string m1, .string m2, .string m3, .string m4, .int .i64 m5, .int .i64 m6, .bool m7, .slice lp ln lc] 57) := ⟨_, rfl⟩
 have hb1 : Below w.heap.size w w1 := by rw [hw1]; exact (Below.refl _ _).alloc (Nat.le_refl _) _
 have hlt1 : w.heap.size < w1.heap.size := by rw [hw1]; simp
 have hbl1 : w1.heap[w.heap.size]? = some (.cells #[.string m1, .string m2, .string m3, .string m4, .int .i64 m5, .int .i64 m6, .bool m7, .slice lp ln lc] 57 (0, 0)) := by
  rw [hw1]
  show (w.heap.push _)[w.heap.size]? = _
  simp
 have HS : Hid (∀ W, Below w1.heap.size w1 W -> (W.cell? ⟨w.heap.size, 0, none⟩ = some (.string m1) /\ W.cell? ⟨w.heap.size, 1, none⟩ = some (.string m2) /\ W.cell? ⟨w.heap.size, 2, none⟩ = some (.string m3) /\ W.cell? ⟨w.heap.size, 3, none⟩ = some (.string m4) /\ W.cell? ⟨w.heap.size, 4, none⟩ = some (.int .i64 m5) /\ W.cell? ⟨w.heap.size, 5, none⟩ = some (.int .i64 m6) /\ W.cell? ⟨w.heap.size, 6, none⟩ = some (.bool m7) /\ W.cell? ⟨w.heap.size, 7, none⟩ = some (.slice lp ln lc) /\ Below w1.heap.size w1 W)) := fun W hW => by
  have hb := (hW.block _ hlt1).trans hbl1
  exact ⟨(blk_cell hb 0).1, (blk_cell hb 1).1, (blk_cell hb 2).1, (blk_cell hb 3).1, (blk_cell hb 4).1, (blk_cell hb 5).1, (blk_cell hb 6).1, (blk_cell hb 7).1, hW⟩
 have HS0 := HS.out w1.drew (Below.refl _ _).drew
 have HW1 : Hid (w1 = w.alloc (.cells #[.string m1, .string m2, .string m3, .string m4, .int .i64 m5, .int .i64 m6, .bool m7, .slice lp ln lc] 57)) := hw1
 have HB1 : Hid (Below w.heap.size w w1) := hb1
 have HCT : Hid (Calls Tryz.prog 39 #[.pointer (some ⟨h, 0, none⟩), .agg #[.string m1, .string m2, .string m3, .string m4, .int .i64 m5, .int .i64 m6, .bool m7, .slice lp ln lc]] w1.drew fun e w' => e = .returned (.bool (a.takes ⟨m1, m2, m3, m4, m5, m6, m7, mL⟩)) /\ (w'.cell? ⟨w.heap.size, 0, none⟩ = some (.string m1) /\ w'.cell? ⟨w.heap.size, 1, none⟩ = some (.string m2) /\ w'.cell? ⟨w.heap.size, 2, none⟩ = some (.string m3) /\ w'.cell? ⟨w.heap.size, 3, none⟩ = some (.string m4) /\ w'.cell? ⟨w.heap.size, 4, none⟩ = some (.int .i64 m5) /\ w'.cell? ⟨w.heap.size, 5, none⟩ = some (.int .i64 m6) /\ w'.cell? ⟨w.heap.size, 6, none⟩ = some (.bool m7) /\ w'.cell? ⟨w.heap.size, 7, none⟩ = some (.slice lp ln lc) /\ Below w1.heap.size w1 w')) := (HCN w1.drew hb1.drew).mono fun e w' hq => ⟨hq.1, HS.out w' ((Below.refl _ w1).drew.trans hq.2)⟩
 have HNO : Hid (a.takes ⟨m1, m2, m3, m4, m5, m6, m7, mL⟩ = false -> a.hear ⟨m1, m2, m3, m4, m5, m6, m7, mL⟩ = (a, [])) := hno
 have HKEE : Hid (∀ W, Below w.heap.size w W -> PAkOf W B h S a) := HKE
 clear hw1 hb1 hlt1 hbl1 HCN hno HKE
 by_cases htk : a.takes ⟨m1, m2, m3, m4, m5, m6, m7, mL⟩ = true
 ·rw [htk] at HCT
  have htl := htf htk
  cases m7 with
  | true =>
   have HEX : Hid (∀ W, Below w.heap.size w W -> Calls Tryz.prog 40 #[.pointer (some ⟨h, 0, none⟩), .string ⟨#[114, 101, 102, 117, 115, 101, 100]⟩, .agg #[.int .i64 0, .int .i64 0, .string ⟨#[]⟩, .bool false]] W fun e w' => e = .returned (.tuple #[]) /\ PAkOf w' B h S (a.hear ⟨m1, m2, m3, m4, m5, m6, true, mL⟩).1 /\ Upd S S w w') := fun W hW => HED W hW htk rfl
   have HE2 : Hid ((a.hear ⟨m1, m2, m3, m4, m5, m6, true, mL⟩).2 = []) := hsh htk rfl
   clear HTK HKP HED hsh hkh htf htk htl hst HNO HKEE hc10
   generalize a.hear ⟨m1, m2, m3, m4, m5, m6, true, mL⟩ = R at *
   go_enter Tryz.func17, Tryz.ntmps17
   go_wp2
   rw [<- HW1.out]
   go_region_held3 (fun W => (W.cell? ⟨w.heap.size, 0, none⟩ = some (.string m1) /\ W.cell? ⟨w.heap.size, 1, none⟩ = some (.string m2) /\ W.cell? ⟨w.heap.size, 2, none⟩ = some (.string m3) /\ W.cell? ⟨w.heap.size, 3, none⟩ = some (.string m4) /\ W.cell? ⟨w.heap.size, 4, none⟩ = some (.int .i64 m5) /\ W.cell? ⟨w.heap.size, 5, none⟩ = some (.int .i64 m6) /\ W.cell? ⟨w.heap.size, 6, none⟩ = some (.bool true) /\ W.cell? ⟨w.heap.size, 7, none⟩ = some (.slice lp ln lc) /\ Below w1.heap.size w1 W)) (first | assumption | exact HS0) (first | (go_at_call 39; refine HCT.out.mono ?_; rintro e w2 ⟨rfl, hS2⟩))
   have HB2 : Hid (Below w.heap.size w w2) := HB1.out.trans (hS2.2.2.2.2.2.2.2.2.mono HB1.out.size)
   have HEY := HEX.out w2 HB2.out
   clear HCT HS0 HEX
   go_wp2_with fail
   refine HEY.mono ?_
   rintro e w3 ⟨rfl, hP3, hU3⟩
   have HP3 : Hid (PAkOf w3 B h S R.1) := hP3
   have HU3 : Hid (Upd S S w w3) := hU3
   clear hP3 hU3 HEY
   go_wp2
   go_ret
   rw [HE2.out]
   exact ⟨⟨none, 0, rfl, MsgsN.nil _ _⟩, S, HP3.out, HU3.out⟩
  | false =>
   by_cases hlk : a.st = .looking
   ·have HTX : Hid (∀ W, Below w.heap.size w W -> Calls Tryz.prog 41 #[.pointer (some ⟨h, 0, none⟩), .string m1, .slice lp ln lc] W fun e w' => (∃ p c, e = .returned (.slice p (a.hear ⟨m1, m2, m3, m4, m5, m6, false, mL⟩).2.length c) /\ MsgsN w.heap.size w' p (a.hear ⟨m1, m2, m3, m4, m5, m6, false, mL⟩).2) /\ ∃ S', PAkOf w' B h S' (a.hear ⟨m1, m2, m3, m4, m5, m6, false, mL⟩).1 /\ Upd S S' w w') := fun W hW => HTK W hW htk rfl hlk
    have HC10 : Hid (∀ W, Below w.heap.size w W -> W.cell? ⟨h, 10, none⟩ = some (.string ⟨#[108, 111, 111, 107, 105, 110, 103]⟩)) := fun W hW => by rw [hc10 W hW, hlk]; rfl
    clear HTK HKP HED hsh hkh htf htk htl hst HNO HKEE hc10 hlk
    generalize a.hear ⟨m1, m2, m3, m4, m5, m6, false, mL⟩ = R at *
    go_enter Tryz.func17, Tryz.ntmps17
    go_wp2
    rw [<- HW1.out]
    go_region_held3 (fun W => (W.cell? ⟨w.heap.size, 0, none⟩ = some (.string m1) /\ W.cell? ⟨w.heap.size, 1, none⟩ = some (.string m2) /\ W.cell? ⟨w.heap.size, 2, none⟩ = some (.string m3) /\ W.cell? ⟨w.heap.size, 3, none⟩ = some (.string m4) /\ W.cell? ⟨w.heap.size, 4, none⟩ = some (.int .i64 m5) /\ W.cell? ⟨w.heap.size, 5, none⟩ = some (.int .i64 m6) /\ W.cell? ⟨w.heap.size, 6, none⟩ = some (.bool false) /\ W.cell? ⟨w.heap.size, 7, none⟩ = some (.slice lp ln lc) /\ Below w1.heap.size w1 W)) (first | assumption | exact HS0) (first | (go_at_call 39; refine HCT.out.mono ?_; rintro e w2 ⟨rfl, hS2⟩))
    have HB2 : Hid (Below w.heap.size w w2) := HB1.out.trans (hS2.2.2.2.2.2.2.2.2.mono HB1.out.size)
    have HTY := HTX.out w2 HB2.out
    have d10 := HC10.out w2 HB2.out
    clear HCT HS0 HTX HC10
    go_wp2_with fail
    refine HTY.mono ?_
    rintro e w3 ⟨⟨p3, c3, rfl, hM3⟩, S3, hP3, hU3⟩
    have HM3 : Hid (MsgsN w.heap.size w3 p3 R.2) := hM3
    have HP3 : Hid (PAkOf w3 B h S3 R.1) := hP3
    have HU3 : Hid (Upd S S3 w w3) := hU3
    clear hM3 hP3 hU3 HTY
    go_wp2
    go_ret
    exact ⟨⟨p3, c3, rfl, HM3.out⟩, S3, HP3.out, HU3.out⟩
   ·have hkp : a.st = .keeping := by rcases htl with e | e; exact absurd e hlk; exact e
    have HKX : Hid (∀ W, Below w.heap.size w W -> Calls Tryz.prog 42 #[.pointer (some ⟨h, 0, none⟩), .string m1] W fun e w' => e = .returned (.tuple #[]) /\ ∃ S', PAkOf w' B h S' (a.hear ⟨m1, m2, m3, m4, m5, m6, false, mL⟩).1 /\ Upd S S' w w') := fun W hW => HKP W hW htk rfl hkp
    have HE2 : Hid ((a.hear ⟨m1, m2, m3, m4, m5, m6, false, mL⟩).2 = []) := hkh htk rfl hkp
    have HC10 : Hid (∀ W, Below w.heap.size w W -> W.cell? ⟨h, 10, none⟩ = some (.string ⟨#[107, 101, 101, 112, 105, 110, 103]⟩)) := fun W hW => by rw [hc10 W hW, hkp]; rfl
    clear HTK HKP HED hsh hkh htf htk htl hst HNO HKEE hc10 hlk hkp
    generalize a.hear ⟨m1, m2, m3, m4, m5, m6, false, mL⟩ = R at *
    go_enter Tryz.func17, Tryz.ntmps17
    go_wp2
    rw [<- HW1.out]
    go_region_held3 (fun W => (W.cell? ⟨w.heap.size, 0, none⟩ = some (.string m1) /\ W.cell? ⟨w.heap.size, 1, none⟩ = some (.string m2) /\ W.cell? ⟨w.heap.size, 2, none⟩ = some (.string m3) /\ W.cell? ⟨w.heap.size, 3, none⟩ = some (.string m4) /\ W.cell? ⟨w.heap.size, 4, none⟩ = some (.int .i64 m5) /\ W.cell? ⟨w.heap.size, 5, none⟩ = some (.int .i64 m6) /\ W.cell? ⟨w.heap.size, 6, none⟩ = some (.bool false) /\ W.cell? ⟨w.heap.size, 7, none⟩ = some (.slice lp ln lc) /\ Below w1.heap.size w1 W)) (first | assumption | exact HS0) (first | (go_at_call 39; refine HCT.out.mono ?_; rintro e w2 ⟨rfl, hS2⟩))
    have HB2 : Hid (Below w.heap.size w w2) := HB1.out.trans (hS2.2.2.2.2.2.2.2.2.mono HB1.out.size)
    have HKY := HKX.out w2 HB2.out
    have d10 := HC10.out w2 HB2.out
    clear HCT HS0 HKX HC10
    go_wp2_with fail
    refine HKY.mono ?_
    rintro e w3 ⟨rfl, S3, hP3, hU3⟩
    have HP3 : Hid (PAkOf w3 B h S3 R.1) := hP3
    have HU3 : Hid (Upd S S3 w w3) := hU3
    clear hP3 hU3 HKY
    go_wp2
    go_ret
    rw [HE2.out]
    exact ⟨⟨none, 0, rfl, MsgsN.nil _ _⟩, S3, HP3.out, HU3.out⟩
 ·have htf' : a.takes ⟨m1, m2, m3, m4, m5, m6, m7, mL⟩ = false := Bool.eq_false_iff.2 htk
  rw [htf'] at HCT
  have HR := HNO.out htf'
  rw [HR]
  clear HTK HKP HED hsh hkh htf htk htf' hst HNO hc10 HR
  go_enter Tryz.func17, Tryz.ntmps17
  go_wp2
  rw [<- HW1.out]
  go_region_held3 (fun W => (W.cell? ⟨w.heap.size, 0, none⟩ = some (.string m1) /\ W.cell? ⟨w.heap.size, 1, none⟩ = some (.string m2) /\ W.cell? ⟨w.heap.size, 2, none⟩ = some (.string m3) /\ W.cell? ⟨w.heap.size, 3, none⟩ = some (.string m4) /\ W.cell? ⟨w.heap.size, 4, none⟩ = some (.int .i64 m5) /\ W.cell? ⟨w.heap.size, 5, none⟩ = some (.int .i64 m6) /\ W.cell? ⟨w.heap.size, 6, none⟩ = some (.bool m7) /\ W.cell? ⟨w.heap.size, 7, none⟩ = some (.slice lp ln lc) /\ Below w1.heap.size w1 W)) (first | assumption | exact HS0) (first | (go_at_call 39; refine HCT.out.mono ?_; rintro e w2 ⟨rfl, hS2⟩))
  have HB2 : Hid (Below w.heap.size w w2) := HB1.out.trans (hS2.2.2.2.2.2.2.2.2.mono HB1.out.size)
  clear HCT HS0
  go_wp2
  go_ret
  exact ⟨⟨none, 0, rfl, MsgsN.nil _ _⟩, S, HKEE.out w2 HB2.out, Upd.of_below HB2.out⟩
theorem askOk (ad : Nat -> Addr) : AskOk ad (fun w => ∃ z, w.cell? ⟨11, 0, none⟩ = some (.iface 234 (.pointer (some z)))) PAkOf where
 inS := fun ⟨_, _, _, _, _, _, _, hp⟩ k hk => hp.inB k hk
 keep := fun ⟨_, _, _, _, _, _, _, hp⟩ hb hk => ⟨_, _, _, _, _, _, _, hp.keep hb.size hk⟩
 put := fun b p cap w hc hput hk ht _ ho hf hE _ => pput_any ad b p cap w hc hput hk ht ho hf hE
 get := fun b p cap w hc hput hk _ ho hf hE _ => pget_any ad b p cap w hc hput hk ho hf hE
 begin := fun {_ _ _ S _} ⟨_, _, _, _, _, _, _, hp⟩ _ => (pbegin_any hp).mono fun _ _ hq => ⟨hq.1, S, ⟨_, _, _, _, _, _, _, hp.below hq.2⟩, Upd.of_below hq.2⟩
 hear := fun x ⟨_, _, _, _, _, _, _, hp⟩ hL hs hv hG => phear_any ad hp x hL hs hv hG
 state := fun ⟨_, _, _, _, _, _, _, hp⟩ => pstate_any hp
 answer := fun ⟨_, _, _, _, _, _, _, hp⟩ => panswer_any hp
end Go.Proofs.YtobmckfcipeanaaGreatDoor
