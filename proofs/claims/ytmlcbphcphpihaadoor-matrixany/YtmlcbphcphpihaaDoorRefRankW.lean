/- The document's own Rank: how many rows are kept; nothing that was there is written. -/
import Derived.Test.YtmlcbphcphpihaaDoorOwnNB
import Derived.Test.YtmlcbphcphpihaaDoorRefMulW
import Derived.StillTailTactics
import Derived.Deep.RegionWith
namespace Go.Proofs.YtmlcbphcphpihaaDoor
open Go.RowKit
/-- The row in block g, of whatever capacity, is the call's own and holds l. -/
def OwnC (w : World) (B : Nat) (E : TypeId) (g n c : Nat) (l : List Nat) : Prop := w.ownsRow B E 1 (.slice (some ⟨g, 0, none⟩) n c) n (l.map byteV)
theorem OwnC.cell {w : World} {B : Nat} {E : TypeId} {g n c : Nat} {l : List Nat} (h : OwnC w B E g n c l) (j : Nat) (hj : j < n) (hl : l.length = n) : w.cell? ⟨g, j, none⟩ = some (.int .u8 ((Gf.nth l j : Nat) : Int)) := by
  rw [World.ownsRow.cellAt (w := w) h j (by omega), List.getElem?_map, List.getElem?_eq_getElem (by omega), Gf.nth_getElem l j (by omega)]
  rfl
theorem OwnC.free {w : World} {B : Nat} {E : TypeId} {g n c : Nat} {l : List Nat} (h : OwnC w B E g n c l) (j : Nat) : w.frozen? ⟨g, j, none⟩ = false := World.ownsRow.frozenAt (w := w) h j
theorem OwnC.set {w : World} {B : Nat} {E : TypeId} {g n c : Nat} {f : Nat → Nat} (h : OwnC w B E g n c (rowFn n f)) (j v : Nat) : OwnC (w.setCell ⟨g, j, none⟩ (.int .u8 (v : Int))) B E g n c (rowFn n (fun i => if i = j then v else f i)) := by
  have := (World.ownsRow.stored (w := w) h j (byteV v)).1
  rw [← List.map_set, rowFn_set] at this
  exact this
theorem OwnC.drewN {w : World} {B : Nat} {E : TypeId} {g n c : Nat} {l : List Nat} (h : OwnC w B E g n c l) (m : Nat) : OwnC (w.drewN m) B E g n c l := World.ownsRow.kept h (grownBy_drewN w m none) (Or.inr (by simp [Value.ownBlock]))
theorem OwnC.own {w : World} {B : Nat} {E : TypeId} {g n c : Nat} {l : List Nat} (h : OwnC w B E g n c l) (hl : l.length = n) : Own w B E (.slice (some ⟨g, 0, none⟩) n c) l := by
  unfold Own
  rw [hl]
  exact h
theorem OwnC.seg {w : World} {B : Nat} {E : TypeId} {g n c : Nat} {l : List Nat} (h : OwnC w B E g n c l) (hl : l.length = n) (hb : Gf.Bytes l) : Seg w (some ⟨g, 0, none⟩) l := by
  obtain ⟨p, c', hv, hs⟩ := (h.own hl).seg hb
  injection hv with h1 h2 h3
  subst h1
  exact hs
theorem Own.c {w : World} {B : Nat} {E : TypeId} {v : Value} {l : List Nat} (h : Own w B E v l) (hl : 0 < l.length) : ∃ g c, v = .slice (some ⟨g, 0, none⟩) l.length c ∧ OwnC w B E g l.length c l ∧ B ≤ g ∧ g < w.heap.size := by
  rcases h.2 with ⟨rfl, h0⟩ | ⟨g, cap, cur, rfl, hb, hg, hnc, hcm, hcs, htake⟩
  · omega
  · exact ⟨g, cap, rfl, h, hb, (Array.getElem?_eq_some_iff.1 hg).1⟩
theorem OwnMatV.row {B : Nat} {w : World} {T : TypeId} {v : Value} {vs : List Value} {M : List (List Nat)} (h : OwnMatV B w T v vs M) {i : Nat} (hi : i < M.length) (hne : 0 < (rowOf M i).length) :
    ∃ g c b1 o1 d, v = .slice (some ⟨g, 0, none⟩) M.length c ∧ g < w.heap.size ∧ b1 < w.heap.size ∧ w.cell? ⟨g, i, none⟩ = some (.slice (some ⟨b1, o1, none⟩) (rowOf M i).length d) ∧ Seg w (some ⟨b1, o1, none⟩) (rowOf M i) := by
  obtain ⟨hvs, hlen, hall⟩ := h
  obtain ⟨q, c, h1, h2, h3, h4⟩ := hall i hi
  rcases hvs.cells with ⟨_, rfl⟩ | ⟨g, cap, rfl, hB, hg, hcell⟩
  · simp at h1
  · rcases h2.cells with h5 | ⟨b1, o1, hq, hb1, hc1⟩
    · rw [h5] at hne; exact absurd hne (Nat.lt_irrefl _)
    · subst hq
      exact ⟨g, cap, b1, o1, c, by rw [hlen], hg, hb1, hcell i _ h1, h2⟩
theorem leadCall (p : Option Addr) (l : List Nat) (n cap : Nat) (w : World) (hn : l.length = n) (h40 : n < 2 ^ 40) (hs : Seg w p l) (hl : leadIdx l < n) :
    Calls Tryd.prog 37 #[.slice p n cap] w fun e w' => e = .returned (.int .i64 ((leadIdx l : Nat) : Int)) ∧ w' = w := by
  subst hn
  exact lead_some p l cap (leadIdx l) w h40 hs hl (leadIdx_ne l hl) (leadIdx_zero l)
theorem leadNone (p : Option Addr) (l : List Nat) (n cap : Nat) (w : World) (hn : l.length = n) (h40 : n < 2 ^ 40) (hs : Seg w p l) (hz : ∀ i, i < n → Gf.nth l i = 0) :
    Calls Tryd.prog 37 #[.slice p n cap] w fun e w' => e = .returned (.int .i64 (-1)) ∧ w' = w := by
  subst hn
  exact lead_none p l cap w h40 hs hz
theorem hidden_at {α : Type} {p : α → Prop} (h : Hid (∀ x, p x)) (x : α) : Hid (p x) := h.out x
theorem OwnMatV.below {B : Nat} {w w' : World} {T : TypeId} {v : Value} {vs : List Value} {M : List (List Nat)} (h : OwnMatV B w T v vs M) (_hB : B ≤ w.heap.size) (hb : Below w.heap.size w w') : OwnMatV B w' T v vs M := by
  obtain ⟨hvs, hlen, hall⟩ := h
  refine ⟨hvs.kept (row := none) ⟨hb.os, hb.tape, hb.output, hb.size, fun k hk _ => hb.block k hk⟩ (by cases hv : v.ownBlock <;> simp), hlen, fun i hi => ?_⟩
  obtain ⟨q, c, h1, h2, h3, h4⟩ := hall i hi
  exact ⟨q, c, h1, h2.below hb, h3, fun ad hq => ⟨(h4 ad hq).1, Nat.lt_of_lt_of_le (h4 ad hq).2.1 hb.size, (h4 ad hq).2.2⟩⟩
set_option maxRecDepth 10000 in
set_option maxHeartbeats 4000000 in
theorem rrank_any (pm : Option Addr) (M : List (List Nat)) (cm n : Nat) (w : World) (hl : M.length ≤ 100) (hn1 : 1 ≤ n) (hn : n ≤ 100) (hrl : ∀ i, i < M.length → (rowOf M i).length = n) (hMb : BytesM M) (mM : Mat w pm M) :
    Calls Tryd.prog 18 #[.slice pm M.length cm] w fun e w' => e = .returned (.int .i64 (((keptOf n M M.length).length : Nat) : Int)) ∧ Below w.heap.size w w' := by
  obtain ⟨i1, hi1, hy0, hy1, hy2⟩ := info_parts rowinfo
  obtain ⟨i0, hi0, hz0, hz1, hzb⟩ := info_parts u8info
  have HRA : Hid (∀ i, i < M.length → (rowOf M i).length = n) := hrl
  clear hrl
  go_enter Tryd.func18, Tryd.ntmps18
  go_wp2
  go_loopw [3, 4] (fun v x wr => ∃ i : Nat, i ≤ M.length ∧ x = .int .i64 i ∧ OwnMat w.heap.size wr 39 v (keptOf n M i) ∧ Below w.heap.size w wr) (fun _ x _ => M.length - (intOf x).toNat)
  case atStart => exact ⟨0, by omega, rfl, OwnMat.nil _ _ _, Below.refl _ _⟩
  case round =>
    obtain ⟨i, hi, rfl, hO, hBr⟩ := hrel
    obtain ⟨w3, rfl⟩ : ∃ w3, w3 = wr := ⟨_, rfl⟩
    obtain ⟨vs, hmv⟩ := hO
    have HMV : Hid (OwnMatV w.heap.size w3 39 u3 vs (keptOf n M i)) := hmv
    have HV : Hid (OwnV w3 w.heap.size 39 u3 vs) := hmv.1
    have HVL : Hid (vs.length = (keptOf n M i).length) := hmv.2.1
    have HBr : Hid (Below w.heap.size w w3) := hBr
    have hz3 : w.heap.size ≤ w3.heap.size := hBr.size
    obtain ⟨pk, ck, hv3, _⟩ := OwnMat.mat ⟨vs, hmv⟩
    clear hmv hBr
    by_cases hil : i < M.length
    · rcases mM.below HBr.out with h' | ⟨b, o, rfl, hb, hc⟩
      · rw [h'] at hil; simp at hil
      obtain ⟨q, c, hc1, hs1, hn1'⟩ := hc i hil
      have HS : Hid (Seg w3 q (rowOf M i)) := hs1
      have HQ : Hid (q = none → c = 0) := hn1'
      have HRL : Hid ((rowOf M i).length = n) := HRA.out i hil
      have HST : Hid (Stair n (keptOf n M i)) := keptOf_stair n M hMb HRA.out i hi
      have HKL : (keptOf n M i).length ≤ 100 := by have := keptOf_length n M i; omega
      have HK1 : Hid (keptOf n M (i + 1) = if leadIdx (redTo n (rowOf M i) (keptOf n M i) (keptOf n M i).length) < n then keptOf n M i ++ [redTo n (rowOf M i) (keptOf n M i) (keptOf n M i).length] else keptOf n M i) := rfl
      have hrb : Gf.Bytes (rowOf M i) := hMb i
      subst hv3
      clear hc hs1 hn1'
      generalize keptOf n M i = K at HMV HV HVL HST HKL HK1
      generalize rowOf M i = row at hc1 HS HRL HK1 hrb
      go_wp2_with (first | (at_builtin; refine wpList_copy_row rfl (.tmp 16) (.tmp 20) 39 rfl 5 i0 Tryd.underlying39 hi0 hz0 hz1 hzb rfl q row c rfl HS.out (by have := HRL.out; omega) HQ.out ?_; intro r w4 hr hb4; obtain ⟨g, cg, hv, hoc, hg1, hg2⟩ := hr.c (by have := HRL.out; omega); rw [HRL.out] at hv hoc; subst hv))
      have HOC : Hid (OwnC w4 w3.heap.size 5 g n cg (redTo n row K 0)) := hoc
      have HB4 : Hid (Below w3.heap.size w3 w4) := hb4
      clear hr hoc hb4 hc1
      go_loopw [6] (fun x wq => ∃ k : Nat, k ≤ K.length ∧ x = .int .i64 k ∧ OwnC wq w3.heap.size 5 g n cg (redTo n row K k) ∧ Below w3.heap.size w3 wq) (fun x _ => K.length - (intOf x).toNat)
      case atStart => exact ⟨0, by omega, rfl, HOC.out, HB4.out⟩
      case round =>
        obtain ⟨k, hk, rfl, hON, hBq⟩ := hrel
        obtain ⟨w5, rfl⟩ : ∃ w5, w5 = wr := ⟨_, rfl⟩
        have HON : Hid (OwnC w5 w3.heap.size 5 g n cg (redTo n row K k)) := hON
        have HBq : Hid (Below w3.heap.size w3 w5) := hBq
        have hz5 : w3.heap.size ≤ w5.heap.size := hBq.size
        have HRB := redTo_bytes n row K hrb k
        have HRN : Hid ((redTo n row K k).length = n) := redTo_length n row K HRL.out k
        clear hON hBq HOC HB4
        by_cases hkl : k < K.length
        · obtain ⟨gk, ck', b1, o1, d, hv', hgk, hb1, hcell, hseg⟩ := HMV.out.row hkl (by rw [(HST.out.1 k hkl).1]; omega)
          injection hv' with e1 e2 e3
          subst e1
          obtain ⟨hkn, hkb, hkd⟩ := HST.out.1 k hkl
          rw [hkn] at hcell
          have hne := leadIdx_ne (rowOf K k) (by rw [hkn]; exact hkd)
          have q1 : w5.cell? ⟨gk, k, none⟩ = some (.slice (some ⟨b1, o1, none⟩) n d) := (HBq.out.cell (p := ⟨gk, k, none⟩) hgk).trans hcell
          have HSg : Hid (Seg w5 (some ⟨b1, o1, none⟩) (rowOf K k)) := hseg.below HBq.out
          have HKN : Hid ((rowOf K k).length = n) := hkn
          have HR1 : Hid (redTo n row K (k + 1) = redStep n (redTo n row K k) (rowOf K k)) := rfl
          clear hcell hseg hkn e2 e3
          generalize rowOf K k = kr at hkb hkd hne HSg HKN HR1
          generalize redTo n row K k = rk at HON HRB HRN HR1
          go_wp2_with fail
          refine (leadCall _ kr n d _ HKN.out (by omega) HSg.out hkd).mono ?_
          rintro e w6 ⟨rfl, hw6⟩
          rw [hw6]; clear hw6 w6
          have q2 : w5.cell? ⟨b1, o1 + leadIdx kr, none⟩ = some (.int .u8 ((Gf.nth kr (leadIdx kr) : Nat) : Int)) := by
            rcases HSg.out.cells with h0 | ⟨b', o', hp, _, hcc⟩
            · exact absurd HKN.out (by rw [h0]; simp; omega)
            · injection hp with hp; injection hp with p1 p2 _; subst p1 p2
              exact hcc _ (by rw [HKN.out]; exact hkd)
          have q3 : w5.cell? ⟨g, leadIdx kr, none⟩ = some (.int .u8 ((Gf.nth rk (leadIdx kr) : Nat) : Int)) := HON.out.cell _ hkd HRN.out
          have lk := hkb (leadIdx kr)
          have lr := HRB (leadIdx kr)
          have li := Gf.inv_lt (Gf.nth kr (leadIdx kr))
          have HX : Hid (redStep n rk kr = rowFn n fun j => Gf.nth rk j ^^^ Gf.mul (Gf.mul (Gf.nth rk (leadIdx kr)) (Gf.inv (Gf.nth kr (leadIdx kr)))) (Gf.nth kr j)) := rfl
          have lx := Gf.mul_lt lr (Gf.inv (Gf.nth kr (leadIdx kr)))
          generalize Gf.nth kr (leadIdx kr) = yk at q2 lk hne li HX lx
          generalize Gf.nth rk (leadIdx kr) = yr at q3 lr HX lx
          generalize leadIdx kr = at_ at hkd q2 q3 ⊢
          go_wp2
          go_quiet ((first | (go_at_call 38; exact Calls.quiet_of_same (rinv_any yk _ lk hne)) | (go_at_call 31; exact Calls.quiet_of_same (rmul_any yr (Gf.inv yk) _ lr li))))
          have HON7 : Hid (OwnC (w5.drewN nq) w3.heap.size 5 g n cg rk) := HON.out.drewN nq
          have HBq7 : Hid (Below w3.heap.size w3 (w5.drewN nq)) := below_drewN HBq.out nq
          have q1' : (w5.drewN nq).cell? ⟨gk, k, none⟩ = some (.slice (some ⟨b1, o1, none⟩) n d) := q1
          have HSg7 : Hid (Seg (w5.drewN nq) (some ⟨b1, o1, none⟩) kr) := HSg.out.drewN nq
          generalize w5.drewN nq = w7 at HON7 HBq7 q1' HSg7 ⊢
          generalize Gf.mul yr (Gf.inv yk) = xx at lx HX ⊢
          clear q1 q2 q3 HON HBq HSg hz5
          have HON8 : Hid (OwnC w7 w3.heap.size 5 g n cg (rowFn n fun c => if c < 0 then Gf.nth rk c ^^^ Gf.mul xx (Gf.nth kr c) else Gf.nth rk c)) := by
            rw [rowFn_congr n _ (Gf.nth rk) (fun c _ => by rw [if_neg (Nat.not_lt_zero _)]), rowFn_nth rk n HRN.out]
            exact HON7.out
          have hz7 : w3.heap.size ≤ w7.heap.size := HBq7.out.size
          clear HON7
          go_wp2
          go_loopw [9] (fun x wq => ∃ j : Nat, j ≤ n ∧ x = .int .i64 j ∧ OwnC wq w3.heap.size 5 g n cg (rowFn n fun c => if c < j then Gf.nth rk c ^^^ Gf.mul xx (Gf.nth kr c) else Gf.nth rk c) ∧ Below w3.heap.size w3 wq) (fun x _ => n - (intOf x).toNat)
          case atStart => exact ⟨0, by omega, rfl, HON8.out, HBq7.out⟩
          case round =>
            obtain ⟨j, hj, rfl, hON9, hBq9⟩ := hrel
            obtain ⟨w8, rfl⟩ : ∃ w8, w8 = wr := ⟨_, rfl⟩
            have HON9 : Hid (OwnC w8 w3.heap.size 5 g n cg (rowFn n fun c => if c < j then Gf.nth rk c ^^^ Gf.mul xx (Gf.nth kr c) else Gf.nth rk c)) := hON9
            have HBq9 : Hid (Below w3.heap.size w3 w8) := hBq9
            clear hON9 hBq9
            by_cases hjl : j < n
            · have toW : ∀ b o, b < w3.heap.size → w8.cell? ⟨b, o, none⟩ = w7.cell? ⟨b, o, none⟩ := fun b o hb => (HBq9.out.cell (p := ⟨b, o, none⟩) hb).trans (HBq7.out.cell (p := ⟨b, o, none⟩) hb).symm
              have r1 : w8.cell? ⟨gk, k, none⟩ = some (.slice (some ⟨b1, o1, none⟩) n d) := by rw [toW _ _ hgk]; exact q1'
              have r2 : w8.cell? ⟨b1, o1 + j, none⟩ = some (.int .u8 ((Gf.nth kr j : Nat) : Int)) := by
                rw [toW _ _ hb1]
                rcases HSg7.out.cells with h0 | ⟨b', o', hp, _, hcc⟩
                · exact absurd HKN.out (by rw [h0]; simp; omega)
                · injection hp with hp; injection hp with p1 p2 _; subst p1 p2
                  exact hcc _ (by rw [HKN.out]; exact hjl)
              have r3 : w8.cell? ⟨g, j, none⟩ = some (.int .u8 ((Gf.nth rk j : Nat) : Int)) := by
                rw [HON9.out.cell j hjl (rowFn_length _ _), nth_rowFn _ _ j hjl, if_neg (Nat.lt_irrefl _)]
              have r4 : w8.frozen? ⟨g, j, none⟩ = false := HON9.out.free j
              have ly := hkb j
              have ls := HRB j
              have lm := Gf.mul_lt lx (Gf.nth kr j)
              have HZ : Hid (bits .xor .u8 ((Gf.nth rk j : Nat) : Int) ((Gf.mul xx (Gf.nth kr j) : Nat) : Int) = ((Gf.nth rk j ^^^ Gf.mul xx (Gf.nth kr j) : Nat) : Int)) := u8_xor_nat _ _ ls lm
              have HT : Hid (∀ m, OwnC ((w8.drewN m).setCell ⟨g, j, none⟩ (.int .u8 ((Gf.nth rk j ^^^ Gf.mul xx (Gf.nth kr j) : Nat) : Int))) w3.heap.size 5 g n cg (rowFn n fun c => if c < j + 1 then Gf.nth rk c ^^^ Gf.mul xx (Gf.nth kr c) else Gf.nth rk c)) := fun m => by
                have := (HON9.out.drewN m).set j (Gf.nth rk j ^^^ Gf.mul xx (Gf.nth kr j))
                rw [rowFn_congr n (fun c => if c < j + 1 then Gf.nth rk c ^^^ Gf.mul xx (Gf.nth kr c) else Gf.nth rk c) (fun c => if c = j then Gf.nth rk j ^^^ Gf.mul xx (Gf.nth kr j) else if c < j then Gf.nth rk c ^^^ Gf.mul xx (Gf.nth kr c) else Gf.nth rk c) (fun c _ => by
                  by_cases e : c = j
                  · subst e; rw [if_pos (by omega), if_pos rfl]
                  · rw [if_neg e]
                    by_cases e' : c < j
                    · rw [if_pos (by omega), if_pos e']
                    · rw [if_neg (by omega), if_neg e'])]
                exact this
              clear toW HON9
              generalize Gf.nth kr j = y at r2 ly lm HZ HT
              generalize Gf.nth rk j = sv at r3 ls HZ HT
              go_wp2
              refine wp_region_still_tail 17 (by kernel_rfl) (by kernel_rfl) ?_
              simp only [List.take_succ_cons, List.take_zero, List.drop_succ_cons, List.drop_zero]
              repeat still_step
              still_call (rmul_any xx y _ lx ly)
              repeat still_step
              refine wpStill_nil ?_
              rw [HZ.out]
              have HT9 := hidden_at HT 1
              have HB9 : Hid (Below w3.heap.size w3 (w8.drewN 1)) := below_drewN HBq9.out 1
              have r3' : (w8.drewN 1).cell? ⟨g, j, none⟩ = some (.int .u8 (sv : Int)) := r3
              have r4' : (w8.drewN 1).frozen? ⟨g, j, none⟩ = false := r4
              change wpList _ _ _ _ _ (w8.drewN 1)
              generalize w8.drewN 1 = w9 at HT9 HB9 r3' r4' ⊢
              clear r1 r2 r3 r4 HT
              go_wp2
              go_roundw
              case rel => exact ⟨j + 1, by omega, by go_num, HT9.out, HB9.out.setCell hg1 _⟩
              case measure => simp [intOf]; omega
            · have hje : j = n := by omega
              subst hje
              have HF : Hid (OwnC w8 w3.heap.size 5 g j cg (redTo j row K (k + 1))) := by
                rw [HR1.out, HX.out, rowFn_congr j _ (fun c => if c < j then Gf.nth rk c ^^^ Gf.mul xx (Gf.nth kr c) else Gf.nth rk c) (fun c hc => by rw [if_pos hc])]
                exact HON9.out
              go_wp2
              go_roundw
              case rel => exact ⟨k + 1, by omega, by go_num, HF.out, HBq9.out⟩
              case measure => simp [intOf]; omega
        · have hke : k = K.length := by omega
          subst hke
          have HSr : Hid (Seg w5 (some ⟨g, 0, none⟩) (redTo n row K K.length)) := HON.out.seg HRN.out HRB
          by_cases hld : leadIdx (redTo n row K K.length) < n
          · have HK2 : Hid (keptOf n M (i + 1) = K ++ [redTo n row K K.length]) := by have := HK1.out; rw [if_pos hld] at this; exact this
            have hrw : Hid (Own w5 w3.heap.size 5 (.slice (some ⟨g, 0, none⟩) n cg) (redTo n row K K.length)) := HON.out.own HRN.out
            clear HK1 HON
            generalize redTo n row K K.length = rk at HRB HRN HSr hld HK2 hrw
            go_wp2_with fail
            refine (leadCall _ rk n cg _ HRN.out (by omega) HSr.out hld).mono ?_
            rintro e w6 ⟨rfl, hw6⟩
            rw [hw6]; clear hw6 w6
            go_wp2_with (first | (at_builtin; refine wpList_append_val rfl (.tmp 72) (.tmp 74) 22 rfl w.heap.size 39 i1 (.slice none 0 0) 24 Tryd.underlying22 hi1 hy0 rfl hy1 hy2 (by decide) (.slice pk K.length ck) vs rfl (((HV.out.kept (row := none) ⟨HBq.out.os, HBq.out.tape, HBq.out.output, HBq.out.size, fun k hk _ => HBq.out.block k hk⟩ (by cases pk <;> simp [Value.ownBlock]))).kept (World.grownBy_alloc w5 _ none) (by cases pk <;> simp [Value.ownBlock])) ⟨w5.heap.size, 0, none⟩ 1 (.slice (some ⟨g, 0, none⟩) n cg) rfl rfl (by simp) (by have := HVL.out; omega) (by simp; omega) ?_; intro v' w8 hV' hg' hw'))
            have hmv3 := HMV.out.snoc hz3 hrw.out HRB HBq.out hV' hg' hw'
            have hb8 : Below w.heap.size w w8 := ((HBr.out.trans (HBq.out.mono hz3)).alloc (by omega) _).grown hg' (by simp; omega) (fun k' hk' => (HV.out.block hk').1)
            go_roundw
            case rel => exact ⟨i + 1, by omega, by go_num, ⟨_, by rw [HK2.out]; exact hmv3⟩, hb8⟩
            case measure => simp [intOf]; omega
          · have HK2 : Hid (keptOf n M (i + 1) = K) := by have := HK1.out; rw [if_neg hld] at this; exact this
            clear HK1 HON
            have HZr : Hid (∀ i, i < n → Gf.nth (redTo n row K K.length) i = 0) := fun i hi => leadIdx_zero _ i (by omega)
            generalize redTo n row K K.length = rk at HRB HRN HSr HZr
            go_wp2_with fail
            refine (leadNone _ rk n cg _ HRN.out (by omega) HSr.out HZr.out).mono ?_
            rintro e w6 ⟨rfl, hw6⟩
            rw [hw6]; clear hw6 w6
            go_wp2
            go_roundw
            case rel =>
              refine ⟨i + 1, by omega, by go_num, ⟨vs, ?_⟩, HBr.out.trans (HBq.out.mono hz3)⟩
              rw [HK2.out]
              exact HMV.out.below hz3 HBq.out
            case measure => simp [intOf]; omega
    · have hie : i = M.length := by omega
      subst hie
      subst hv3
      go_wp2
      go_ret
      exact ⟨rfl, HBr.out⟩
end Go.Proofs.YtmlcbphcphpihaaDoor
