/- Texts laid together. -/
import Derived.Test.YtpjeibicopgedaaGreatDoorQb12
import Derived.OpenShut
import Derived.ChangeOld
import Derived.Deep.SlicePairs
import Derived.Lib.SmallJoins
import Derived.Deep.Strs
namespace Go.Proofs.YtpjeibicopgedaaGreatDoor
open Go.RowKit
set_option maxRecDepth 10000 in
set_option maxHeartbeats 2000000 in
theorem enough_any {ad : Nat → Addr} {X : World → Prop} (hO : EnoughOk ad X) (w : World) (hS : ∀ W, Below w.heap.size w W → ErrsQ W ad) (hX : ∀ W, Below w.heap.size w W → X W) :
    Calls Tryz.prog 4 #[] w fun e w' => e = .returned (.bool true) ∧ Below w.heap.size w w' := by
  obtain ⟨w1, hw1⟩ : ∃ w1, w1 = w.alloc (.cells #[.string ⟨#[97]⟩] 9) := ⟨_, rfl⟩
  have HW1 : Hid (w1 = w.alloc (.cells #[.string ⟨#[97]⟩] 9)) := hw1
  have hb1 : Below w.heap.size w w1 := by rw [hw1]; exact (Below.refl _ _).alloc (Nat.le_refl _) _
  have hc1 : w1.cell? ⟨w.heap.size, 0, none⟩ = some (.string ⟨#[97]⟩) := by rw [hw1, World.cell?_alloc_at _ _ _ _ rfl]; rfl
  have hat : CfgAt w1 ⟨1, 1, [⟨#[97]⟩]⟩ (some ⟨w.heap.size, 0, none⟩) 1 := ⟨Or.inr ⟨w.heap.size, 0, rfl, by rw [hw1]; simp, fun i hi => by
    obtain rfl : i = 0 := by simpa using hi
    exact hc1⟩, Nat.le_refl _, (fun e => by cases e), by decide, (fun x hx => by simp at hx; subst hx; decide), ⟨by decide, by decide⟩, by decide, by decide⟩
  have he := hO.enough ⟨1, 1, [⟨#[97]⟩]⟩ (some ⟨w.heap.size, 0, none⟩) 1 w1 hat (hS w1 hb1) (hX w1 hb1)
  rw [one_cfg] at he
  have HE : Hid (Calls Tryz.prog 14 #[.agg #[.int .i64 1, .int .i64 1, .slice (some ⟨w.heap.size, 0, none⟩) 1 1]] w1 fun e w' => e = .returned (.tuple #[.int .i64 1, .nilIface]) ∧ Below w1.heap.size w1 w') := he.mono fun e w' hp => by
    obtain ⟨⟨ev, h1, h2⟩, h3⟩ := hp
    obtain rfl := h2.isNil
    exact ⟨h1, h3⟩
  have HB1 : Hid (Below w.heap.size w w1) := hb1
  clear he hat hc1 hb1 hw1 hO hS hX
  go_enter Tryz.func4, Tryz.ntmps4
  go_wp2_with fail
  rw [← HW1.out]
  refine HE.out.mono ?_
  rintro e w2 ⟨rfl, hb2⟩
  have HB2 : Hid (Below w.heap.size w w2) := HB1.out.trans (hb2.mono HB1.out.size)
  clear hb2 HE HB1
  go_wp2
  go_ret
  exact ⟨rfl, HB2.out⟩
theorem box_set {w wq : World} (hb : Below w.heap.size w wq) (a b : Value) : Below w.heap.size w ((wq.setCell ⟨w.heap.size + 1, 0, none⟩ a).setCell ⟨w.heap.size + 1, 1, none⟩ b) :=
  (hb.setCell (p := ⟨w.heap.size + 1, 0, none⟩) (by show w.heap.size ≤ w.heap.size + 1; omega) _).setCell (p := ⟨w.heap.size + 1, 1, none⟩) (by show w.heap.size ≤ w.heap.size + 1; omega) _
set_option maxRecDepth 10000 in
set_option maxHeartbeats 4000000 in
theorem rcfg_any (c : Cfg) (p : Option Addr) (cap : Nat) (w : World) (hc : CfgAt w c p cap) :
    Calls Tryz.prog 10 #[cfgA c (.slice p c.L.length cap)] w fun e w' => e = .returned (.agg #[.int .i64 (cfgF c).1, .int .i64 (cfgF c).2]) ∧ Below w.heap.size w w' := by
  obtain ⟨hs, hcap, hnn, hlen, hsz, hin⟩ := hc
  obtain ⟨w1, hw1⟩ : ∃ w1, w1 = (w.alloc (.cells #[.int .i64 c.n, .int .i64 c.k, .slice p c.L.length cap] 24)).alloc (.cells #[.int .i64 0, .int .i64 0] 38) := ⟨_, rfl⟩
  have HW1 : Hid (w1 = (w.alloc (.cells #[.int .i64 c.n, .int .i64 c.k, .slice p c.L.length cap] 24)).alloc (.cells #[.int .i64 0, .int .i64 0] 38)) := hw1
  have e2 : (w.alloc (.cells #[.int .i64 c.n, .int .i64 c.k, .slice p c.L.length cap] 24)).heap.size = w.heap.size + 1 := by simp
  have hb1 : Below w.heap.size w w1 := by rw [hw1]; exact ((Below.refl _ _).alloc (Nat.le_refl _) _).alloc (by rw [e2]; omega) _
  have hx1 : w1.heap[w.heap.size]? = some (.cells #[.int .i64 c.n, .int .i64 c.k, .slice p c.L.length cap] 24 (0, 0)) := by
    rw [hw1, heap_alloc_old _ _ (by rw [e2]; omega)]
    exact heap_alloc_new _ _
  have hy1 : w1.heap[w.heap.size + 1]? = some (.cells #[.int .i64 0, .int .i64 0] 38 (0, 0)) := by
    rw [hw1, ← e2]
    exact heap_alloc_new _ _
  have hl1 := (Array.getElem?_eq_some_iff.1 hy1).1
  have HKE : Hid (∀ W, Below w1.heap.size w1 W → W.cell? ⟨w.heap.size + 1, 0, none⟩ = some (.int .i64 0) ∧ W.cell? ⟨w.heap.size + 1, 1, none⟩ = some (.int .i64 0) ∧ (∀ i, W.frozen? ⟨w.heap.size + 1, i, none⟩ = false) ∧ Below w.heap.size w W) := fun W hW => by
    have hy := (hW.block _ hl1).trans hy1
    exact ⟨by simp [World.cell?, hy], by simp [World.cell?, hy], fun i => by simp [World.frozen?, hy], hb1.trans (hW.mono hb1.size)⟩
  have q0 : w1.cell? ⟨w.heap.size, 0, none⟩ = some (.int .i64 c.n) := by simp [World.cell?, hx1]
  have q1 : w1.cell? ⟨w.heap.size, 1, none⟩ = some (.int .i64 c.k) := by simp [World.cell?, hx1]
  have q2 : w1.cell? ⟨w.heap.size, 2, none⟩ = some (.slice p c.L.length cap) := by simp [World.cell?, hx1]
  have HBA : Hid (∀ (x : Int) (W : World), Calls Tryz.prog 11 #[.int .i64 x] W fun e w' => e = .returned (.agg #[.int .i64 x, .int .i64 (-1)]) ∧ Below W.heap.size W w') := fun x W => bare_any x W
  by_cases h1 : 1 ≤ c.k ∧ c.k ≤ c.n ∧ c.n ≤ 12
  · have HIS : Hid (Calls Tryz.prog 19 #[.int .i64 c.n, .int .i64 c.k] w1 fun e w' => e = .returned (.bool true) ∧ w' = w1) := isSpread_yes c.n c.k w1 h1.1 h1.2.1 h1.2.2
    by_cases h2 : (c.L.length : Int) = c.n
    · have HNF : Hid (Calls Tryz.prog 20 #[.slice p c.L.length cap] w1 fun e w' => e = .returned (.agg #[.int .i64 (nodesF c.L).1, .int .i64 (nodesF c.L).2]) ∧ Below w1.heap.size w1 w') := nodesFault_any p c.L cap w1 (by omega) hcap (fun x hx => by have := hsz x hx; omega) (hs.below hb1)
      rw [cfgF_nodes h1 h2]
      clear hw1 hb1 hx1 hy1 hl1 e2 hs hin HBA
      generalize nodesF c.L = F at *
      obtain ⟨cn, ck, L⟩ := c
      obtain ⟨F1, F2⟩ := F
      unfold cfgA
      simp only [] at *
      have d1 : ((L.length : Int) == cn) = true := by simpa using h2
      go_enter Tryz.func10, Tryz.ntmps10
      go_wp2_with fail
      rw [← HW1.out]
      refine HIS.out.mono ?_
      rintro e w2 ⟨rfl, hw2⟩
      rw [hw2]
      clear hw2 w2 HIS
      go_wp2_with fail
      refine HNF.out.mono ?_
      rintro e w3 ⟨rfl, hb3⟩
      obtain ⟨z0, z1, z2, hlow⟩ := HKE.out w3 hb3
      have HB3 : Hid (Below w.heap.size w w3) := hlow
      clear hb3 hlow HNF
      go_wp2
      refine bodyPost_ret (v := .agg #[.int .i64 F1, .int .i64 F2]) (by simp [results, Tryz.results10, go_sem, z0, z1]) rfl ⟨rfl, box_set HB3.out _ _⟩
    · rw [cfgF_shape h1 h2]
      clear hw1 hb1 hx1 hy1 hl1 e2 hs hin
      obtain ⟨cn, ck, L⟩ := c
      unfold cfgA
      simp only [] at *
      have d1 : ((L.length : Int) == cn) = false := by simpa using h2
      have d2 : ((L.length : Int) != cn) = true := by simpa using h2
      go_enter Tryz.func10, Tryz.ntmps10
      go_wp2_with fail
      rw [← HW1.out]
      refine HIS.out.mono ?_
      rintro e w2 ⟨rfl, hw2⟩
      rw [hw2]
      clear hw2 w2 HIS
      go_wp2_with fail
      refine (HBA.out 3 w1).mono ?_
      rintro e w3 ⟨rfl, hb3⟩
      obtain ⟨z0, z1, z2, hlow⟩ := HKE.out w3 hb3
      have HB3 : Hid (Below w.heap.size w w3) := hlow
      clear hb3 hlow
      go_wp2
      refine bodyPost_ret (v := .agg #[.int .i64 3, .int .i64 (-1)]) (by simp [results, Tryz.results10, go_sem, z0, z1]) rfl ⟨rfl, box_set HB3.out _ _⟩
  · have HIS : Hid (Calls Tryz.prog 19 #[.int .i64 c.n, .int .i64 c.k] w1 fun e w' => e = .returned (.bool false) ∧ w' = w1) := isSpread_no c.n c.k w1 h1
    rw [cfgF_bound h1]
    clear hw1 hb1 hx1 hy1 hl1 e2 hs hin h1
    obtain ⟨cn, ck, L⟩ := c
    unfold cfgA
    simp only [] at *
    go_enter Tryz.func10, Tryz.ntmps10
    go_wp2_with fail
    rw [← HW1.out]
    refine HIS.out.mono ?_
    rintro e w2 ⟨rfl, hw2⟩
    rw [hw2]
    clear hw2 w2 HIS
    go_wp2_with fail
    refine (HBA.out 2 w1).mono ?_
    rintro e w3 ⟨rfl, hb3⟩
    obtain ⟨z0, z1, z2, hlow⟩ := HKE.out w3 hb3
    have HB3 : Hid (Below w.heap.size w w3) := hlow
    clear hb3 hlow
    go_wp2
    refine bodyPost_ret (v := .agg #[.int .i64 2, .int .i64 (-1)]) (by simp [results, Tryz.results10, go_sem, z0, z1]) rfl ⟨rfl, box_set HB3.out _ _⟩
theorem rec_kept {α : Type} {E : Enc α} {w w' : World} {q : Option Addr} {l : List α} {row : Option Nat} (h : Rec E w q l) (hg : w.grownBy w' row) (hne : ∀ b o, q = some ⟨b, o, none⟩ → some b ≠ row) : Rec E w' q l := by
  rcases h with h | ⟨b, o, hp, hlt, hc⟩
  · exact Or.inl h
  · exact Or.inr ⟨b, o, hp, Nat.lt_of_lt_of_le hlt hg.size, fun i x hx j u hu => (World.cell?_of_block (a := ⟨b, o + i * E.k + j, none⟩) (hg.block b hlt (hne _ _ hp))).trans (hc i x hx j u hu)⟩
/-- v owns a slice of lists of versions that lie in rows of their own, all from block B on. -/
def OwnVsV (B : Nat) (w : World) (e : TypeId) (v : Value) (vs : List Value) (M : List (List Ver)) : Prop :=
  OwnV w B e v vs ∧ vs.length = M.length ∧ ∀ i, i < M.length → ∃ q c, vs[i]? = some (.slice q (M.getD i []).length c) ∧ Rec verE w q (M.getD i []) ∧ (M.getD i []).length ≤ c ∧ (q = none → M.getD i [] = [] ∧ c = 0) ∧ ∀ b o, q = some ⟨b, o, none⟩ → B ≤ b ∧ b < w.heap.size ∧ v.ownBlock ≠ some b
theorem OwnVsV.nil (B : Nat) (w : World) (e : TypeId) : OwnVsV B w e (.slice none 0 0) [] [] := ⟨OwnV.nil w B e, rfl, fun _ hi => absurd hi (Nat.not_lt_zero _)⟩
/-- One list more. -/
theorem OwnVsV.snoc {B : Nat} {w w1 w3 : World} {T E : TypeId} {v v' r : Value} {vs : List Value} {M : List (List Ver)} {row : List Ver} {o : Obj} (h : OwnVsV B w T v vs M) (hB : B ≤ w.heap.size) (hr : OwnR verE E w1 w.heap.size r row) (hb : Below w.heap.size w w1)
    (hv : OwnV w3 B T v' (vs ++ [r]))
    (hg : (w1.alloc o).grownBy w3 v.ownBlock) (hw : v'.ownBlock = v.ownBlock ∨ v'.ownBlock = some (w1.alloc o).heap.size) : OwnVsV B w3 T v' (vs ++ [r]) (M ++ [row]) := by
  obtain ⟨hvs, hlen, hall⟩ := h
  have hz := hb.size
  have hsz : (w1.alloc o).heap.size = w1.heap.size + 1 := by simp
  have hvb : ∀ k, v.ownBlock = some k → k < w.heap.size := fun k hk => (hvs.block hk).2
  have hg1 : w1.grownBy w3 v.ownBlock := ⟨hg.os, hg.tape, hg.output, by have := hg.size; omega, fun k hk hne => (hg.block k (by omega) hne).trans (Below.heap_alloc w1 o k hk)⟩
  refine ⟨hv, by simp [hlen], fun i hi => ?_⟩
  rw [List.length_append, List.length_singleton] at hi
  by_cases hlt : i < M.length
  · obtain ⟨q, c, h1, h2, h3, h4, h5⟩ := hall i hlt
    have e : (M ++ [row]).getD i [] = M.getD i [] := by rw [List.getD_eq_getElem?_getD, List.getD_eq_getElem?_getD, List.getElem?_append_left hlt]
    rw [e]
    refine ⟨q, c, by rw [List.getElem?_append_left (by omega)]; exact h1, rec_kept (h2.below hb) hg1 (fun b o hq => fun e => (h5 b o hq).2.2 e.symm), h3, h4, fun b o hq => ?_⟩
    have := h5 b o hq
    refine ⟨this.1, by have := hg1.size; omega, ?_⟩
    rcases hw with hw | hw
    · rw [hw]; exact this.2.2
    · rw [hw, hsz]; intro e; have := Option.some.inj e; omega
  · obtain rfl : i = M.length := by omega
    have e : (M ++ [row]).getD M.length [] = row := by rw [List.getD_eq_getElem?_getD, List.getElem?_append_right (Nat.le_refl _), Nat.sub_self]; rfl
    rw [e]
    obtain ⟨q, c, h1, h2, h3, h4, h5⟩ := hr.form
    refine ⟨q, c, by rw [List.getElem?_append_right (by omega), hlen, Nat.sub_self, h1]; rfl, rec_kept h2 hg1 (fun b o hq => ?_), h3, h4, fun b o hq => ?_⟩
    · have := h5 b o hq
      intro e
      have := hvb _ e.symm
      omega
    · have := h5 b o hq
      refine ⟨by omega, by have := hg1.size; omega, ?_⟩
      rcases hw with hw | hw
      · rw [hw]; intro e; have := hvb _ e; omega
      · rw [hw, hsz]; intro e; have := Option.some.inj e; omega
theorem OwnVsV.vss {B : Nat} {w : World} {T : TypeId} {v : Value} {vs : List Value} {M : List (List Ver)} (h : OwnVsV B w T v vs M) : ∃ p c, v = .slice p M.length c ∧ Vss w p M := by
  obtain ⟨hvs, hlen, hall⟩ := h
  rcases hvs.cells with ⟨rfl, rfl⟩ | ⟨g, cap, rfl, hB, hg, hcell⟩
  · have : M = [] := List.length_eq_zero_iff.1 (by simpa using hlen.symm)
    subst this
    exact ⟨none, 0, rfl, Or.inl rfl⟩
  · refine ⟨some ⟨g, 0, none⟩, cap, by rw [hlen], Or.inr ⟨g, 0, rfl, hg, fun i hi => ?_⟩⟩
    obtain ⟨q, c, h1, h2, h3, h4, _⟩ := hall i hi
    refine ⟨q, c, ?_, h2, h3, h4⟩
    rw [Nat.zero_add]
    exact hcell i _ h1
theorem versinfo : (Tryz.prog.info? 47).map (fun i => (i.zero, i.size, i.bytes)) = some (some (.slice none 0 0), 1, 24) := by kernel_rfl
theorem take_succ_vs {LL : List (List Ver)} {i : Nat} (hi : i < LL.length) : LL.take (i + 1) = LL.take i ++ [LL.getD i []] := by
  rw [List.take_succ_eq_append_getElem hi, List.getD_eq_getElem?_getD, List.getElem?_eq_getElem hi]
  rfl
set_option maxRecDepth 10000 in
set_option maxHeartbeats 4000000 in
theorem ownVers_any (p : Option Addr) (LL : List (List Ver)) (cap : Nat) (w : World) (hl : LL.length ≤ 1000) (hl2 : LL.flatten.length ≤ 1000) (hL : Vss w p LL) :
    Calls Tryz.prog 9 #[.slice p LL.length cap] w fun e w' => (∃ p' c', e = .returned (.slice p' LL.length c') ∧ Vss w' p' LL) ∧ Below w.heap.size w w' := by
  obtain ⟨i1, hi1, hy0, hy1, hy2⟩ := info_parts versinfo
  have HL : Hid (Vss w p LL) := hL
  have HFL : Hid (∀ i, i < LL.length → (LL.getD i []).length ≤ 1000) := fun i hi => by have := flatten_at_le LL hi; omega
  have HTS : Hid (∀ i, i < LL.length → LL.take (i + 1) = LL.take i ++ [LL.getD i []]) := fun i hi => take_succ_vs hi
  have HTL : Hid (∀ i, i ≤ LL.length → (LL.take i).length = i) := fun i hi => by rw [List.length_take]; omega
  have HTN : Hid (LL.take LL.length = LL) := List.take_length
  have HT0 : Hid (LL.take 0 = []) := by show _ = _; rfl
  clear hL hl2
  go_enter Tryz.func9, Tryz.ntmps9
  go_wp2
  go_loopw [3, 4] (fun v x wr => ∃ i : Nat, i ≤ LL.length ∧ x = .int .i64 i ∧ (∃ vs, OwnVsV w.heap.size wr 47 v vs (LL.take i)) ∧ Below w.heap.size w wr) (fun _ x _ => LL.length - (intOf x).toNat)
  case atStart => exact ⟨0, Nat.zero_le _, rfl, ⟨[], by rw [HT0.out]; exact OwnVsV.nil _ _ _⟩, Below.refl _ _⟩
  case round =>
    obtain ⟨i, hi, rfl, ⟨vs, hM⟩, hB⟩ := hrel
    obtain ⟨w3, rfl⟩ : ∃ w3, w3 = wr := ⟨_, rfl⟩
    have HM : Hid (OwnVsV w.heap.size w3 47 u3 vs (LL.take i)) := hM
    have HV : Hid (OwnV w3 w.heap.size 47 u3 vs) := hM.1
    have HVL : Hid (vs.length = i) := hM.2.1.trans (HTL.out i hi)
    have HB : Hid (Below w.heap.size w w3) := hB
    have hz3 : w.heap.size ≤ w3.heap.size := hB.size
    clear hM hB
    by_cases hil : i < LL.length
    · rcases HL.out.below HB.out with h0 | ⟨b, o, rfl, hblt, hc⟩
      · rw [h0] at hil; simp at hil
      obtain ⟨q, c, hcell, hrec, hlc, hqn⟩ := hc i hil
      have HR : Hid (Rec verE w3 q (LL.getD i [])) := hrec
      have HQN : Hid (q = none → LL.getD i [] = [] ∧ c = 0) := hqn
      have hfl := HFL.out i hil
      have HNX : Hid (LL.take (i + 1) = LL.take i ++ [LL.getD i []]) := HTS.out i hil
      clear hc hrec hqn HTS HTL HTN HT0 HFL
      generalize LL.getD i [] = row at *
      go_wp2_with (first | (at_builtin; refine wpList_append_recs (E := verE) rfl (.tmp 13) (.tmp 17) 47 51 rfl (.agg #[.int .i64 0, .int .i64 0, .int .i64 0, .int .i64 0, .string ⟨#[]⟩]) 48 Tryz.underlying47 verinfo rfl w3.heap.size (.slice none 0 0) [] rfl (OwnR.nil _ _ _) q row c rfl HR.out HQN.out (by unfold maxLen; simp; omega) (by simp; omega) (Nat.le_refl _) ?_; intro v5 w5 hO5 hb5; rw [List.nil_append] at hO5; obtain ⟨p5, c5, rfl, _⟩ := hO5.form; have HO5 : Hid (OwnR verE 51 w5 w3.heap.size (.slice p5 row.length c5) row) := hO5; have HB5 : Hid (Below w3.heap.size w3 w5) := hb5; clear hO5 hb5) | (at_builtin; refine wpList_append_val rfl (.tmp 12) (.tmp 19) 25 rfl w.heap.size 47 i1 (.slice none 0 0) 24 Tryz.underlying25 hi1 hy0 rfl hy1 hy2 (by decide) u3 vs rfl (((HV.out.kept (row := none) ⟨HB5.out.os, HB5.out.tape, HB5.out.output, HB5.out.size, fun k hk _ => HB5.out.block k hk⟩ (by cases hv : u3.ownBlock <;> simp))).kept (World.grownBy_alloc w5 _ none) (by cases hv : u3.ownBlock <;> simp)) ⟨w5.heap.size, 0, none⟩ 1 (.slice p5 row.length c5) rfl rfl (by simp) (by have := HVL.out; omega) (by have := HB5.out.size; simp; omega) ?_; intro v' w8 hV' hg' hw'))
      have hmv3 := HM.out.snoc hz3 HO5.out HB5.out hV' hg' hw'
      have hb8 : Below w.heap.size w w8 := ((HB.out.trans (HB5.out.mono hz3)).alloc (by have := HB5.out.size; omega) _).grown hg' (by have := HB5.out.size; simp; omega) (fun k' hk' => (HV.out.block hk').1)
      go_roundw
      case rel => exact ⟨i + 1, by omega, by go_num, ⟨_, by rw [HNX.out]; exact hmv3⟩, hb8⟩
      case measure => simp [intOf]; omega
    · have hie : i = LL.length := by omega
      obtain ⟨p', c', hv, hvs⟩ := HM.out.vss
      rw [HTL.out i hi] at hv
      subst hv
      have HVS : Hid (Vss w3 p' LL) := by
        show Vss _ _ _
        have := hvs
        rw [hie, HTN.out] at this
        exact this
      clear HM HV hvs
      subst hie
      go_wp2
      go_ret
      exact ⟨⟨p', c', rfl, HVS.out⟩, HB.out⟩
theorem TagAt.other {w : World} {b b' : Nat} {a : Int × Int} (h : TagAt w b a) (hne : b' ≠ b) (x y : Value) : TagAt ((w.setCell ⟨b', 0, none⟩ x).setCell ⟨b', 1, none⟩ y) b a := by
  have e : ∀ i j : Nat, (⟨b', i, none⟩ : Addr) ≠ ⟨b, j, none⟩ := fun i j e => hne (congrArg Addr.block e)
  refine ⟨?_, ?_, by simp [h.f0], by simp [h.f1]⟩
  · rw [World.cell?_setCell_other _ _ _ _ (e _ _), World.cell?_setCell_other _ _ _ _ (e _ _)]; exact h.n
  · rw [World.cell?_setCell_other _ _ _ _ (e _ _), World.cell?_setCell_other _ _ _ _ (e _ _)]; exact h.who
set_option maxRecDepth 10000 in
set_option maxHeartbeats 16000000 in
theorem quorumBest_any {ad : Nat → Addr} {X : World → Prop} (hE : EnoughOk ad X) (hO : BestOk ad X) (c : Cfg) (p : Option Addr) (cap : Nat) (LL : List (List Ver)) (pl : Option Addr) (cl : Nat) (w : World)
    (hC : TxsIn w c.L p cap) (hin : CfgIn c) (hL : Vss w pl LL) (hV : ∀ v ∈ LL.flatten, VerI64 v) (hb : LL.length + tolN LL.flatten ≤ 4611686018427387904) (hS : ∀ W, Below w.heap.size w W → Sent W ad) (hX : ∀ W, Below w.heap.size w W → X W) :
    Calls Tryz.prog 3 #[cfgA c (.slice p c.L.length cap), .slice pl LL.length cl] w fun e w' => e = .returned (.bool true) ∧ Below w.heap.size w w' := by
  obtain ⟨w1, hw1⟩ : ∃ w1, w1 = w.alloc (.cells #[.int .i64 c.n, .int .i64 c.k, .slice p c.L.length cap] 24) := ⟨_, rfl⟩
  have HW1 : Hid (w1 = w.alloc (.cells #[.int .i64 c.n, .int .i64 c.k, .slice p c.L.length cap] 24)) := hw1
  have hb1 : Below w.heap.size w w1 := by rw [hw1]; exact (Below.refl _ _).alloc (Nat.le_refl _) _
  have a0 : w1.cell? ⟨w.heap.size, 0, none⟩ = some (.int .i64 c.n) := by rw [hw1, World.cell?_alloc_at _ _ _ _ rfl]; rfl
  have a1 : w1.cell? ⟨w.heap.size, 1, none⟩ = some (.int .i64 c.k) := by rw [hw1, World.cell?_alloc_at _ _ _ _ rfl]; rfl
  have a2 : w1.cell? ⟨w.heap.size, 2, none⟩ = some (.slice p c.L.length cap) := by rw [hw1, World.cell?_alloc_at _ _ _ _ rfl]; rfl
  have hlt1 : w.heap.size < w1.heap.size := lt_of_cellH a0
  have HBX : Hid (∀ W, Below w1.heap.size w1 W → W.cell? ⟨w.heap.size, 0, none⟩ = some (.int .i64 c.n) ∧ W.cell? ⟨w.heap.size, 1, none⟩ = some (.int .i64 c.k) ∧ W.cell? ⟨w.heap.size, 2, none⟩ = some (.slice p c.L.length cap)) := fun W hW => ⟨(hW.cell (p := ⟨w.heap.size, 0, none⟩) hlt1).trans a0, (hW.cell (p := ⟨w.heap.size, 1, none⟩) hlt1).trans a1, (hW.cell (p := ⟨w.heap.size, 2, none⟩) hlt1).trans a2⟩
  have HLO : Hid (∀ W, Below w1.heap.size w1 W → Below w.heap.size w W) := fun W hW => hb1.trans (hW.mono hb1.size)
  have HEN := enough_any hE w1 (fun W hW => (hS W (HLO.out W hW)).errsQ) (fun W hW => hX W (HLO.out W hW))
  have HLC : Hid (∀ W, Below w1.heap.size w1 W → Calls Tryz.prog 5 #[cfgA c (.slice p c.L.length cap)] W fun e w' => e = .returned (.bool (longC c)) ∧ Below W.heap.size W w') := fun W hW => longConfig_any c p cap W hC.len hC.size (hC.strs.below (HLO.out W hW))
  have HMT : Hid (∀ W, Below w1.heap.size w1 W → Calls Tryz.prog 6 #[.slice pl LL.length cl] W fun e w' => e = .returned (.bool (muchT LL)) ∧ Below W.heap.size W w') := fun W hW => muchTold_any pl LL cl W hb (hL.below (HLO.out W hW))
  have HOC : Hid (∀ W, Below w1.heap.size w1 W → longC c = false → Calls Tryz.prog 8 #[cfgA c (.slice p c.L.length cap)] W fun e w' => (∃ q d, e = .returned (cfgA c (.slice q c.L.length d)) ∧ CfgAt w' c q d) ∧ Below W.heap.size W w') := fun W hW hlc => (ownConfig_any c p cap W (by have := (longC_fine hlc).1; omega) (hC.strs.below (HLO.out W hW)) hC.empty).mono fun e w' hp => by
    obtain ⟨⟨q, d, h1, h2, h3, h4⟩, h5⟩ := hp
    exact ⟨⟨q, d, h1, cfgAt_of h2 h3 h4 hlc hin⟩, h5⟩
  have HOV : Hid (∀ W, Below w1.heap.size w1 W → muchT LL = false → Calls Tryz.prog 9 #[.slice pl LL.length cl] W fun e w' => (∃ p' c', e = .returned (.slice p' LL.length c') ∧ Vss w' p' LL) ∧ Below W.heap.size W w') := fun W hW hm => ownVers_any pl LL cl W (by have := muchT_fine hm; omega) (by have := muchT_fine hm; omega) (hL.below (HLO.out W hW))
  have HQB : Hid (∀ W q d q2 d2, Below w1.heap.size w1 W → CfgAt W c q d → Vss W q2 LL → muchT LL = false → Calls Tryz.prog 7 #[cfgA c (.slice q c.L.length d), .slice q2 LL.length d2] W fun e w' => (∃ ev, e = .returned (.tuple #[.agg #[.int .i64 (bestT c LL).1.1, .int .i64 (bestT c LL).1.2], .string (bestT c LL).2.1, .bool (bestT c LL).2.2, ev]) ∧ ErrIs w' ad ev (bestE c LL).1 (bestE c LL).2) ∧ Below W.heap.size W w') := fun W q d q2 d2 hW h1 h2 h3 => hO.best c q d LL q2 d2 W h1 h2 h3 hV (hS W (HLO.out W hW)).errsQ (hX W (HLO.out W hW))
  have HCF : Hid (∀ W, Below w1.heap.size w1 W → longC c = false → Calls Tryz.prog 10 #[cfgA c (.slice p c.L.length cap)] W fun e w' => e = .returned (.agg #[.int .i64 (cfgF c).1, .int .i64 (cfgF c).2]) ∧ Below W.heap.size W w') := fun W hW hlc => rcfg_any c p cap W (cfgAt_of (hC.strs.below (HLO.out W hW)) hC.room hC.empty hlc hin)
  have HFD : Hid (∀ W ev x y, Below w1.heap.size w1 W → ErrIs W ad ev x y → Calls Tryz.prog 12 #[ev, .agg #[.int .i64 x, .int .i64 y]] W fun e w' => e = .returned (.bool true) ∧ Below W.heap.size W w') := fun W ev x y hW he => faulted2_any ad ev x y W (hS W (HLO.out W hW)) he
  have HRB : Hid (∀ W, Below w1.heap.size w1 W → ¬ 0 < (cfgF c).1 → muchT LL = false → Calls Tryz.prog 13 #[cfgA c (.slice p c.L.length cap), .slice pl LL.length cl] W fun e w' => e = .returned (.tuple #[.agg #[.int .i64 (bestF c.n.toNat c.k.toNat LL.flatten LL.flatten).1.1, .int .i64 (bestF c.n.toNat c.k.toNat LL.flatten LL.flatten).1.2], .string (bestF c.n.toNat c.k.toNat LL.flatten LL.flatten).2.1, .bool (bestF c.n.toNat c.k.toNat LL.flatten LL.flatten).2.2]) ∧ Below W.heap.size W w') := fun W hW hf hm => by
    have h1 := (cfgF_fine hf).1
    have h2 := muchT_fine hm
    have := rbest_any c.n.toNat c.k.toNat p c.L.length cap pl LL cl W (by omega) (by omega) (by omega) (by omega) (by omega) (hL.below (HLO.out W hW))
    rw [show ((c.n.toNat : Nat) : Int) = c.n by omega, show ((c.k.toNat : Nat) : Int) = c.k by omega] at this
    exact this
  have HP : Hid (0 < (cfgF c).1 → bestE c LL = cfgF c ∧ bestT c LL = ((0, 0), ⟨#[]⟩, false)) := fun h => bestE_bad h
  have HN1 : Hid (¬ 0 < (cfgF c).1 → c.n < (LL.length : Int) → bestE c LL = (3, -1) ∧ bestT c LL = ((0, 0), ⟨#[]⟩, false)) := fun h h2 => bestE_many h h2
  have HN2 : Hid (¬ 0 < (cfgF c).1 → ¬ c.n < (LL.length : Int) → bestE c LL = (0, -1) ∧ bestT c LL = bestF c.n.toNat c.k.toNat LL.flatten LL.flatten) := fun h h2 => bestE_fine h h2
  have HFI : Hid (¬ 0 < (cfgF c).1 → (1 ≤ c.k ∧ c.k ≤ c.n ∧ c.n ≤ 12) ∧ cfgF c = (0, -1)) := fun h => ⟨(cfgF_fine h).1, (cfgF_fine h).2.2.1⟩
  have HLF : Hid (longC c = false → c.L.length ≤ 30) := fun h => (longC_fine h).1
  have HMF : Hid (muchT LL = false → LL.length ≤ 200) := fun h => (muchT_fine h).1
  have hcn := hin.1
  have hck := hin.2
  clear hw1 hb1 a0 a1 a2 hE hO hC hin hL hV hb hS hX
  obtain ⟨cn, ck, L⟩ := c
  unfold cfgA at *
  simp only [] at *
  generalize cfgF ⟨cn, ck, L⟩ = F at *
  generalize bestE ⟨cn, ck, L⟩ LL = BE at *
  generalize bestT ⟨cn, ck, L⟩ LL = BT at *
  generalize bestF cn.toNat ck.toNat LL.flatten LL.flatten = BF at *
  obtain ⟨f1, f2⟩ := F
  obtain ⟨e1, e2⟩ := BE
  obtain ⟨⟨bn, bw⟩, bx, bf⟩ := BT
  obtain ⟨⟨mn, mw⟩, mx, mf⟩ := BF
  simp only [] at *
  go_enter Tryz.func3, Tryz.ntmps3
  go_wp2_with fail
  rw [← HW1.out]
  refine HEN.mono ?_
  rintro e w2 ⟨rfl, hb2⟩
  have HB2 : Hid (Below w1.heap.size w1 w2) := hb2
  obtain ⟨q0, q1, q2⟩ := HBX.out w2 hb2
  clear hb2 HEN HW1
  go_wp2_with fail
  refine (HLC.out w2 HB2.out).mono ?_
  rintro e w3 ⟨rfl, hb3⟩
  have HB3 : Hid (Below w1.heap.size w1 w3) := HB2.out.trans (hb3.mono HB2.out.size)
  clear hb3 HB2 HLC q0 q1 q2
  generalize hlc : longC ⟨cn, ck, L⟩ = LC at *
  cases LC with
  | true =>
    go_wp2
    go_ret
    exact ⟨rfl, HLO.out w3 HB3.out⟩
  | false =>
    go_wp2_with fail
    refine (HMT.out w3 HB3.out).mono ?_
    rintro e w4 ⟨rfl, hb4⟩
    have HB4 : Hid (Below w1.heap.size w1 w4) := HB3.out.trans (hb4.mono HB3.out.size)
    clear hb4 HB3 HMT
    generalize muchT LL = MT at *
    cases MT with
    | true =>
      go_wp2
      go_ret
      exact ⟨rfl, HLO.out w4 HB4.out⟩
    | false =>
      have hl200 := HMF.out (by first | rfl | trivial)
      obtain ⟨q0, q1, q2⟩ := HBX.out w4 HB4.out
      go_wp2_with fail
      refine (HOC.out w4 HB4.out (by first | rfl | trivial)).mono ?_
      rintro e w5 ⟨⟨qc, dc, rfl, hca⟩, hb5⟩
      have HB5 : Hid (Below w1.heap.size w1 w5) := HB4.out.trans (hb5.mono HB4.out.size)
      have HCA : Hid (CfgAt w5 ⟨cn, ck, L⟩ qc dc) := hca
      clear hb5 hca HOC q0 q1 q2 HMF
      go_wp2_with fail
      refine (HOV.out w5 HB5.out (by first | rfl | trivial)).mono ?_
      rintro e w6 ⟨⟨qv, dv, rfl, hva⟩, hb6⟩
      have HB6 : Hid (Below w1.heap.size w1 w6) := HB5.out.trans (hb6.mono HB5.out.size)
      have HCA6 : Hid (CfgAt w6 ⟨cn, ck, L⟩ qc dc) := HCA.out.below hb6
      have HVA : Hid (Vss w6 qv LL) := hva
      clear hb6 hva HOV HCA
      go_wp2_with fail
      refine (HQB.out w6 qc dc qv dv HB6.out HCA6.out HVA.out (by first | rfl | trivial)).mono ?_
      rintro e w7 ⟨⟨ev, rfl, hev⟩, hb7⟩
      have HB7 : Hid (Below w1.heap.size w1 w7) := HB6.out.trans (hb7.mono HB6.out.size)
      have HEV : Hid (ErrIs w7 ad ev e1 e2) := hev
      clear hb7 hev HQB HCA6 HVA
      obtain ⟨w8, hw8⟩ : ∃ w8, w8 = w7.alloc (.cells #[.int .i64 bn, .int .i64 bw] 30) := ⟨_, rfl⟩
      have HW8 : Hid (w8 = w7.alloc (.cells #[.int .i64 bn, .int .i64 bw] 30)) := hw8
      have hb8 : Below w7.heap.size w7 w8 := by rw [hw8]; exact (Below.refl _ _).alloc (Nat.le_refl _) _
      have HT8 : Hid (TagAt w8 w7.heap.size (bn, bw)) := by show TagAt _ _ _; rw [hw8]; exact TagAt.alloc _ _ _ _
      have HB8 : Hid (Below w1.heap.size w1 w8) := HB7.out.trans (hb8.mono HB7.out.size)
      have HEV8 : Hid (ErrIs w8 ad ev e1 e2) := HEV.out.below hb8
      obtain ⟨q0, q1, q2⟩ := HBX.out w8 HB8.out
      clear hw8 hb8 HEV
      go_wp2_with (rw [← HW8.out])
      refine (HCF.out w8 HB8.out (by first | rfl | trivial)).mono ?_
      rintro e w9 ⟨rfl, hb9⟩
      obtain ⟨w10, hw10⟩ : ∃ w10, w10 = w9.alloc (.cells #[.int .i64 f1, .int .i64 f2] 38) := ⟨_, rfl⟩
      have HW10 : Hid (w10 = w9.alloc (.cells #[.int .i64 f1, .int .i64 f2] 38)) := hw10
      have hb10 : Below w9.heap.size w9 w10 := by rw [hw10]; exact (Below.refl _ _).alloc (Nat.le_refl _) _
      have HF10 : Hid (TagAt w10 w9.heap.size (f1, f2)) := by show TagAt _ _ _; rw [hw10]; exact TagAt.alloc _ _ _ _
      have h810 : Below w8.heap.size w8 w10 := hb9.trans (hb10.mono hb9.size)
      have hlt79 : w7.heap.size < w9.heap.size := Nat.lt_of_lt_of_le (lt_of_cellH HT8.out.n) hb9.size
      have H10 : Hid (∀ W, Below w10.heap.size w10 W → (W.cell? ⟨w.heap.size, 0, none⟩ = some (.int .i64 cn) ∧ W.cell? ⟨w.heap.size, 1, none⟩ = some (.int .i64 ck) ∧ W.cell? ⟨w.heap.size, 2, none⟩ = some (.slice p L.length cap)) ∧ TagAt W w7.heap.size (bn, bw) ∧ TagAt W w9.heap.size (f1, f2) ∧ ErrIs W ad ev e1 e2 ∧ Below w1.heap.size w1 W) := fun W hW => by
        have h8W : Below w8.heap.size w8 W := h810.trans (hW.mono h810.size)
        have h1W : Below w1.heap.size w1 W := HB8.out.trans (h8W.mono HB8.out.size)
        exact ⟨HBX.out W h1W, HT8.out.below h8W, HF10.out.below hW, HEV8.out.below h8W, h1W⟩
      have hlt19 : w1.heap.size ≤ w9.heap.size := Nat.le_trans HB8.out.size hb9.size
      clear hw10 hb10 h810 hb9 HT8 HF10 HEV8 HB8 HW8 HCF q0 q1 q2 HB7
      obtain ⟨⟨q0, q1, q2⟩, tt, tf, te, tb⟩ := H10.out w10 (Below.refl _ _)
      have t0 := tt.n
      have t1 := tt.who
      have g0 := tf.n
      have g1 := tf.who
      have g2 := tf.f0
      have g3 := tf.f1
      have HTE : Hid (ErrIs w10 ad ev e1 e2) := te
      have HTB : Hid (Below w1.heap.size w1 w10) := tb
      have HTF : Hid (TagAt w10 w9.heap.size (f1, f2)) := tf
      dsimp only at t0 t1 g0 g1
      clear tt tf te tb
      by_cases hf : 0 < f1
      · obtain ⟨he, hbt⟩ := HP.out hf
        simp only [Prod.mk.injEq] at he hbt
        obtain ⟨rfl, rfl⟩ := he
        obtain ⟨⟨rfl, rfl⟩, rfl, rfl⟩ := hbt
        have hne : (e1 == 0) = false := beq_eq_false_iff_ne.2 (by omega)
        clear HP HN1 HN2 HFI HRB
        go_wp2_with (rw [← HW10.out])
        refine (HFD.out w10 ev e1 e2 HTB.out HTE.out).mono ?_
        rintro e w11 ⟨rfl, hb11⟩
        clear t0 t1 g0 g1 g2 g3 q0 q1 q2
        obtain ⟨⟨q0, q1, q2⟩, tt, _, _, tb⟩ := H10.out w11 hb11
        have t0 := tt.n
        have t1 := tt.who
        dsimp only at t0 t1
        have HTB11 : Hid (Below w1.heap.size w1 w11) := tb
        clear tt tb hb11
        go_wp2
        go_ret
        exact ⟨rfl, HLO.out w11 HTB11.out⟩
      · obtain ⟨hc1, hcf⟩ := HFI.out (by omega)
        simp only [Prod.mk.injEq] at hcf
        obtain ⟨rfl, rfl⟩ := hcf
        by_cases hm : cn < (LL.length : Int)
        · obtain ⟨he, hbt⟩ := HN1.out (by omega) hm
          simp only [Prod.mk.injEq] at he hbt
          obtain ⟨rfl, rfl⟩ := he
          obtain ⟨⟨rfl, rfl⟩, rfl, rfl⟩ := hbt
          clear HP HN1 HN2 HFI HRB hf
          go_wp2_with (rw [← HW10.out])
          refine (bare_any 3 _).mono ?_
          rintro e w11 ⟨rfl, hb11⟩
          clear t0 t1 g0 g1 g2 g3 q0 q1 q2
          obtain ⟨_, tt, tf, te, tb⟩ := H10.out w11 hb11
          have g0 := tf.n
          have g1 := tf.who
          have g2 := tf.f0
          have g3 := tf.f1
          dsimp only at g0 g1
          obtain ⟨w12, hw12⟩ : ∃ w12, w12 = (w11.setCell ⟨w9.heap.size, 0, none⟩ (.int .i64 3)).setCell ⟨w9.heap.size, 1, none⟩ (.int .i64 (-1)) := ⟨_, rfl⟩
          have HW12 : Hid (w12 = (w11.setCell ⟨w9.heap.size, 0, none⟩ (.int .i64 3)).setCell ⟨w9.heap.size, 1, none⟩ (.int .i64 (-1))) := hw12
          have hf12 : TagAt w12 w9.heap.size (3, -1) := by rw [hw12]; exact tf.set 3 (-1)
          have ht12 : TagAt w12 w7.heap.size (0, 0) := by rw [hw12]; exact tt.other (by omega) _ _
          have he12 : ErrIs w12 ad ev 3 (-1) := by
            rw [hw12]
            exact (te.setInt g1 0 _).setInt (z := -1) (by rw [World.cell?_setCell_other _ _ _ _ (fun e => by have h2 : (0 : Nat) = 1 := congrArg Addr.off e; omega)]; exact g1) 1 _
          have HB12 : Hid (Below w1.heap.size w1 w12) := by
            show Below _ _ _
            rw [hw12]
            exact (tb.setCell (p := ⟨w9.heap.size, 0, none⟩) hlt19 _).setCell (p := ⟨w9.heap.size, 1, none⟩) hlt19 _
          have HT12 : Hid (TagAt w12 w7.heap.size (0, 0)) := ht12
          have HE12 : Hid (ErrIs w12 ad ev 3 (-1)) := he12
          have r0 := hf12.n
          have r1 := hf12.who
          dsimp only at r0 r1
          clear hw12 hf12 ht12 he12 tt tf te tb hb11 HTE HTB HTF H10
          go_wp2_with (rw [← HW12.out])
          refine (HFD.out w12 ev 3 (-1) HB12.out HE12.out).mono ?_
          rintro e w13 ⟨rfl, hb13⟩
          have HT13 := HT12.out.below hb13
          have t0 := HT13.n
          have t1 := HT13.who
          dsimp only at t0 t1
          have HB13 : Hid (Below w1.heap.size w1 w13) := HB12.out.trans (hb13.mono HB12.out.size)
          clear HT13 hb13 r0 r1 g0 g1 g2 g3
          go_wp2
          go_ret
          exact ⟨rfl, HLO.out w13 HB13.out⟩
        · obtain ⟨he, hbt⟩ := HN2.out (by omega) (by omega)
          simp only [Prod.mk.injEq] at he hbt
          obtain ⟨rfl, rfl⟩ := he
          obtain ⟨⟨rfl, rfl⟩, rfl, rfl⟩ := hbt
          have hnil := HTE.out.isNil
          subst hnil
          have HRB2 := HRB.out w10 HTB.out (by omega) (by first | rfl | trivial)
          clear HP HN1 HN2 HFI HRB
          go_wp2_with (rw [← HW10.out])
          refine HRB2.mono ?_
          rintro e w11 ⟨rfl, hb11⟩
          clear t0 t1 g0 g1 g2 g3 q0 q1 q2 HRB2
          obtain ⟨_, tt, _, _, tb⟩ := H10.out w11 hb11
          obtain ⟨w12, hw12⟩ : ∃ w12, w12 = w11.alloc (.cells #[.int .i64 bn, .int .i64 bw] 30) := ⟨_, rfl⟩
          have HW12 : Hid (w12 = w11.alloc (.cells #[.int .i64 bn, .int .i64 bw] 30)) := hw12
          have hb12 : Below w11.heap.size w11 w12 := by rw [hw12]; exact (Below.refl _ _).alloc (Nat.le_refl _) _
          have ht12 : TagAt w12 w11.heap.size (bn, bw) := by rw [hw12]; exact TagAt.alloc _ _ _ _
          have hs12 := tt.below hb12
          have r0 := ht12.n
          have r1 := ht12.who
          have t0 := hs12.n
          have t1 := hs12.who
          dsimp only at r0 r1 t0 t1
          have HB12 : Hid (Below w1.heap.size w1 w12) := tb.trans (hb12.mono tb.size)
          clear hw12 hb12 ht12 hs12 tt tb hb11 HTE HTB HTF H10
          go_wp2_with (rw [← HW12.out])
          go_ret
          exact ⟨rfl, HLO.out w12 HB12.out⟩
section
open Go.ChangeShapes Go.WideShapes Go.ChangeAt Go.RowKit
theorem vCellsInt : Tryz.prog.cellsOf 3 = 1 := by kernel_rfl
theorem qVerFields : ∃ f0 f1 f2, Tryz.prog.underlying 51 = some (.struct #[f0, f1, f2]) ∧ f0.offset = 0 ∧ f1.offset = 2 ∧ f2.offset = 3 ∧ f0.type = 30 ∧ f1.type = 3 ∧ f2.type = 49 := ⟨_, _, _, Tryz.underlying51, rfl, rfl, rfl, rfl, rfl, rfl⟩
theorem qTagFields : ∃ f0 f1, Tryz.prog.underlying 30 = some (.struct #[f0, f1]) ∧ f0.offset = 0 ∧ f1.offset = 1 ∧ f0.type = 3 ∧ f1.type = 3 := ⟨_, _, Tryz.underlying30, rfl, rfl, rfl, rfl⟩
theorem qShardFields : ∃ f0 f1, Tryz.prog.underlying 49 = some (.struct #[f0, f1]) ∧ f0.offset = 0 ∧ f1.offset = 1 ∧ f0.type = 3 ∧ f1.type = 9 := ⟨_, _, Tryz.underlying49, rfl, rfl, rfl, rfl⟩
theorem qCellsVer : Tryz.prog.cellsOf 51 = 5 := by kernel_rfl
theorem qCellsTag : Tryz.prog.cellsOf 30 = 2 := by kernel_rfl
theorem qCellsShard : Tryz.prog.cellsOf 49 = 2 := by kernel_rfl
theorem qCellsStr : Tryz.prog.cellsOf 9 = 1 := by kernel_rfl
theorem qCellsVers : Tryz.prog.cellsOf 47 = 1 := by kernel_rfl
/-- What is asked of a measure of what came in: uptoBulk has it. -/
structure IsBulk {H : Type} (m : DataW H → Nat) : Prop where
  one : ∀ d, 1 ≤ m d
  str : ∀ l : List UInt8, l.length ≤ m (.lit (.string l))
  agg : ∀ l : List (DataW H), (l.map m).sum ≤ m (.agg l)
  slice : ∀ es sp : List (DataW H), (es.map m).sum ≤ m (.slice es sp)
theorem sum_range_le {f g : Nat → Nat} : ∀ n, (∀ i, i < n → f i ≤ g i) → ((List.range n).map f).sum ≤ ((List.range n).map g).sum
  | 0, _ => Nat.le_refl _
  | n + 1, h => by
    have ih := sum_range_le n (fun i hi => h i (by omega))
    have := h n (by omega)
    simp only [List.range_succ, List.map_append, List.sum_append, List.map_cons, List.map_nil, List.sum_cons, List.sum_nil]
    omega
theorem mem_sum_le {α : Type} {f : α → Nat} {l : List α} {x : α} (h : x ∈ l) : f x ≤ (l.map f).sum := by
  induction l with
  | nil => cases h
  | cons y r ih =>
    rw [List.map_cons, List.sum_cons]
    cases List.mem_cons.1 h with
    | inl e => subst e; omega
    | inr e => have := ih e; omega
theorem len_le_sum {α : Type} {f : α → Nat} (h : ∀ x, 1 ≤ f x) (l : List α) : l.length ≤ (l.map f).sum := by
  induction l with
  | nil => exact Nat.le_refl _
  | cons y r ih => have := h y; rw [List.map_cons, List.sum_cons, List.length_cons]; omega
theorem IsBulk.str' {H : Type} {m : DataW H → Nat} (hb : IsBulk m) (s : ByteArray) : s.size ≤ m (.lit (.string s.data.toList)) := by
  have e : s.data.toList.length = s.size := by simp
  have := hb.str s.data.toList
  omega
theorem IsBulk.agg' {H : Type} {m : DataW H → Nat} (hb : IsBulk m) {d : DataW H} {l : List (DataW H)} (h : d ∈ l) : m d ≤ m (.agg l) := Nat.le_trans (mem_sum_le h) (hb.agg l)
set_option maxRecDepth 100000 in
theorem ver_elem8 {H : Type} {m : DataW H → Nat} (hb : IsBulk m) {enc : TypeId × Value → H} {W : World} {fuel : Nat} {cs : List Value} {y : DataW H × List MemPlace} (h : DataW.trod enc Tryz.prog W 0 (fun _ => true) true fuel 51 cs = some y) : ∃ x : Ver, cs = verC x ∧ VerI64 x ∧ 1 + x.text.size / 20 ≤ m y.1 := by
  obtain ⟨g0, g1, g2, hsv, p0, p1, p2, u0, u1, u2⟩ := qVerFields
  obtain ⟨a0, a1, hta, b0, b1, c0, c1⟩ := qTagFields
  obtain ⟨d0, d1, hsh, e0, e1, i0, i1⟩ := qShardFields
  obtain ⟨z0, z1, z2, n2, rfl, hlen, k0, k1, k2⟩ := Deep.trod_struct3 hsv h
  rw [qCellsVer] at hlen
  match cs, hlen with
  | [v0, v1, v2, v3, v4], _ =>
    rw [u0, p0, qCellsTag] at k0
    rw [u1, p1, vCellsInt] at k1
    rw [u2, p2, qCellsShard] at k2
    obtain ⟨xs, hxs, _, ws⟩ := DataW.trod_int Tryz.underlying3 k1
    obtain ⟨r0, r1, n3, _, _, l0, l1⟩ := trod_struct2 hta k0
    rw [c0, b0, vCellsInt] at l0
    rw [c1, b1, vCellsInt] at l1
    obtain ⟨xn, hxn, _, wn⟩ := DataW.trod_int Tryz.underlying3 l0
    obtain ⟨xw, hxw, _, ww⟩ := DataW.trod_int Tryz.underlying3 l1
    obtain ⟨q0, q1, n4, hz2, _, m0, m1⟩ := trod_struct2 hsh k2
    rw [i0, e0, vCellsInt] at m0
    rw [i1, e1, qCellsStr] at m1
    obtain ⟨xa, hxa, _, wa⟩ := DataW.trod_int Tryz.underlying3 m0
    obtain ⟨xt, hxt, hq1, hzt⟩ := DataW.trod_string Tryz.underlying9 m1
    simp at hxs hxn hxw hxa hxt
    subst hxs hxn hxw hxa hxt
    refine ⟨⟨xn, xw, xs, xa, xt⟩, rfl, ⟨bounds_i64 wn, bounds_i64 ww, bounds_i64 ws, bounds_i64 wa⟩, ?_⟩
    have h0 := hb.one (DataW.agg (H := H) [z0.1, z1.1, z2.1])
    have h1 := hb.str' xt
    have h2 : m q1.1 ≤ m (.agg [q0.1, q1.1]) := hb.agg' (by simp)
    have h3 : m z2.1 ≤ m (.agg [z0.1, z1.1, z2.1]) := hb.agg' (by simp)
    have e1 : m q1.1 = m (DataW.lit (H := H) (.string xt.data.toList)) := by rw [hq1]
    have e2 : m z2.1 = m (.agg [q0.1, q1.1]) := by rw [hz2]
    show 1 + xt.size / 20 ≤ m (.agg [z0.1, z1.1, z2.1])
    omega
set_option maxRecDepth 100000 in
/-- A list of versions that came in. -/
theorem vers_arg8 {H : Type} {m : DataW H → Nat} (hb : IsBulk m) {enc : TypeId × Value → H} {W : World} {fuel : Nat} {v : Value} {y : DataW H × List MemPlace} (h : DataW.trod enc Tryz.prog W 0 (fun _ => true) true fuel 47 [v] = some y) :
    ∃ p l cap, v = .slice p l.length cap ∧ Rec verE W p l ∧ l.length ≤ cap ∧ (p = none → l = [] ∧ cap = 0) ∧ (∀ x ∈ l, VerI64 x) ∧ tolN l ≤ m y.1 := by
  rcases Deep.open_slice Tryz.underlying47 h with ⟨hcs, _⟩ | ⟨a, len0, cap0, m0, nn, D, Pl, hcs, _, hle, hcm, hm, hy, hx⟩
  · simp at hcs
    subst hcs
    exact ⟨none, [], 0, rfl, Or.inl rfl, Nat.le_refl _, fun _ => ⟨rfl, rfl⟩, (fun x hx => by cases hx), Nat.zero_le _⟩
  · simp at hcs
    subst hcs
    have hlm : len0 ≤ m0 := by rw [hm]; split <;> omega
    have hsum : ((List.range len0).map fun i => m (D i)).sum ≤ m y.1 := by
      rw [hy]
      have h1 := hb.slice ((List.range len0).map D)
      simp only [List.map_map] at h1
      exact h1 _
    have hv : ∀ i, ∃ x : Ver, i < len0 → (∀ j u, (verC x)[j]? = some u → W.cell? ((a.add (i * 5)).add j) = some u) ∧ VerI64 x ∧ 1 + x.text.size / 20 ≤ m (D i) := fun i => by
      by_cases hi : i < len0
      · obtain ⟨cs', h1, h2⟩ := hx i (by omega)
        obtain ⟨x, hcx, hfx, hbx⟩ := ver_elem8 hb h2
        rw [qCellsVer] at h1
        obtain ⟨_, hlen, hcell⟩ := World.cells?_some h1
        refine ⟨x, fun _ => ⟨fun j u hj => ?_, hfx, hbx⟩⟩
        have hj8 : j < 5 := (List.getElem?_eq_some_iff.1 hj).1
        have := hcell j (by omega)
        rw [this, hcx]
        exact hj
      · exact ⟨⟨0, 0, 0, 0, ⟨#[]⟩⟩, fun h => absurd h hi⟩
    have hlen : ((List.range len0).map fun i => Classical.choose (hv i)).length = len0 := by simp
    have hat : ∀ i, i < len0 → ((List.range len0).map fun i => Classical.choose (hv i))[i]? = some (Classical.choose (hv i)) := fun i hi => by
      rw [List.getElem?_map, List.getElem?_range hi]
      rfl
    refine ⟨some a, (List.range len0).map fun i => Classical.choose (hv i), cap0, by rw [hlen], ?_, by rw [hlen]; omega, (fun e => by cases e), fun x hxm => ?_, ?_⟩
    · by_cases h0 : len0 = 0
      · exact Or.inl (List.length_eq_zero_iff.1 (by rw [hlen]; exact h0))
      · obtain ⟨u0, hx0⟩ : ∃ u, W.cell? ((a.add (0 * 5)).add 0) = some u := ⟨_, (Classical.choose_spec (hv 0) (by omega)).1 0 _ rfl⟩
        obtain ⟨b, off, sp⟩ := a
        have hsp : sp = none := by
          cases sp with
          | none => rfl
          | some q =>
            exfalso
            simp [Addr.add, World.cell?] at hx0
            revert hx0
            split <;> intro h9 <;> cases h9
        subst hsp
        refine Or.inr ⟨b, off, rfl, ?_, fun i x hxi j u hj => ?_⟩
        · rw [Addr.add_lit, Addr.add_lit] at hx0
          rcases Nat.lt_or_ge b W.heap.size with h' | h'
          · exact h'
          · simp [World.cell?, Array.getElem?_eq_none h'] at hx0
        · have hi : i < len0 := by have := (List.getElem?_eq_some_iff.1 hxi).1; rw [hlen] at this; exact this
          rw [hat i hi] at hxi
          have e := Option.some.inj hxi
          have hc := (Classical.choose_spec (hv i) hi).1 j u (by rw [e]; exact hj)
          rw [Addr.add_lit, Addr.add_lit] at hc
          exact hc
    · obtain ⟨i, hi, rfl⟩ := List.mem_map.1 hxm
      exact (Classical.choose_spec (hv i) (List.mem_range.1 hi)).2.1
    · refine Nat.le_trans ?_ hsum
      unfold tolN
      rw [List.map_map]
      exact sum_range_le len0 fun i hi => (Classical.choose_spec (hv i) hi).2.2
end
section
open Go.ChangeShapes Go.WideShapes Go.ChangeAt Go.RowKit
theorem cfgLaidOut : laidOutB Tryz.prog = true := by kernel_rfl
theorem qCfgFields : ∃ f0 f1 f2, Tryz.prog.underlying 24 = some (.struct #[f0, f1, f2]) ∧ f0.offset = 0 ∧ f1.offset = 1 ∧ f2.offset = 2 ∧ f0.type = 3 ∧ f1.type = 3 ∧ f2.type = 22 := ⟨_, _, _, Tryz.underlying24, rfl, rfl, rfl, rfl, rfl, rfl⟩
theorem qCellsInt : Tryz.prog.cellsOf 3 = 1 := by kernel_rfl
theorem qCellsStrs : Tryz.prog.cellsOf 22 = 1 := by kernel_rfl
theorem qCellsCfg : Tryz.prog.cellsOf 24 = 3 := by kernel_rfl
set_option maxRecDepth 100000 in
/-- Texts that came in. -/
theorem strs_arg8 {H : Type} {enc : TypeId × Value → H} {W : World} {fuel : Nat} {v : Value} {y : DataW H × List MemPlace} (h : DataW.trod enc Tryz.prog W 0 (fun _ => true) true fuel 22 [v] = some y) : ∃ p l cap, v = .slice p l.length cap ∧ TxsIn W l p cap := by
  rcases Deep.open_strs Tryz.underlying22 Tryz.underlying9 (by kernel_rfl) h with ⟨hcs, _⟩ | ⟨a, len0, cap0, m, Sx, hcs, _, hle, hcm, hm, hd, hx⟩
  · simp at hcs
    subst hcs
    exact ⟨none, [], 0, rfl, ⟨Or.inl rfl, Nat.le_refl _, fun _ => ⟨rfl, rfl⟩, Nat.zero_le _, fun x hx => by cases hx⟩⟩
  · simp at hcs
    subst hcs
    have hlm : len0 ≤ m := by rw [hm]; split <;> omega
    have hlen : ((List.range len0).map Sx).length = len0 := by simp
    have hat : ∀ i, i < len0 → txt ((List.range len0).map Sx) i = Sx i := fun i hi => by
      rw [txt_getElem _ i (by rw [hlen]; exact hi)]
      simp
    refine ⟨some a, (List.range len0).map Sx, cap0, by rw [hlen], ⟨?_, by rw [hlen]; exact hle, (fun e => by cases e), by rw [hlen]; omega, fun x hxm => ?_⟩⟩
    · by_cases h0 : len0 = 0
      · exact Or.inl (List.length_eq_zero_iff.1 (by rw [hlen]; exact h0))
      · have hx0 := (hx 0 (by omega)).1
        obtain ⟨b, off, sp⟩ := a
        have hsp : sp = none := by
          cases sp with
          | none => rfl
          | some q =>
            exfalso
            simp [Addr.add, World.cell?] at hx0
            revert hx0
            split <;> intro h9 <;> cases h9
        subst hsp
        refine Or.inr ⟨b, off, rfl, ?_, fun i hi => ?_⟩
        · rw [Addr.add_lit] at hx0
          rcases Nat.lt_or_ge b W.heap.size with h' | h'
          · exact h'
          · simp [World.cell?, Array.getElem?_eq_none h'] at hx0
        · rw [hlen] at hi
          have := (hx i (by omega)).1
          rw [Addr.add_lit] at this
          rw [hat i hi]
          exact this
    · obtain ⟨i, hi, rfl⟩ := List.mem_map.1 hxm
      exact (hx i (by have := List.mem_range.1 hi; omega)).2
set_option maxRecDepth 100000 in
/-- A configuration that came in. -/
theorem cfg_arg8 {H : Type} {enc : TypeId × Value → H} {W : World} {base : Nat} {v : Value} {d : DataW H} {ps : List MemPlace} (hok : Value.okWide Tryz.prog W .any base 24 v) (h : DataW.Trod enc Tryz.prog W 0 (fun _ => true) true 24 v d ps) :
    ∃ c p cap, v = cfgA c (.slice p c.L.length cap) ∧ TxsIn W c.L p cap ∧ CfgIn c := by
  obtain ⟨f0, f1, f2, hst, o0, o1, o2, t0, t1, t2⟩ := qCfgFields
  obtain ⟨cs, rfl, hsz⟩ := okWide_struct hst hok
  rw [qCellsCfg] at hsz
  obtain ⟨fuel, hf⟩ := h
  obtain ⟨csl, hcsl⟩ : ∃ csl, csl = cs.toList := ⟨_, rfl⟩
  have hcl : csl.length = 3 := by rw [hcsl]; simpa using hsz
  have hce : cs = csl.toArray := by rw [hcsl]
  subst hce
  have hf2 : DataW.trod enc Tryz.prog W 0 (fun _ => true) true fuel 24 csl = some (d, ps) := by
    have e : (Value.agg csl.toArray).cells.toList = csl := by simp [Value.cells]
    rw [← e]
    exact hf
  obtain ⟨z0, z1, z2, n2, _, hlen, k0, k1, k2⟩ := Deep.trod_struct3 hst hf2
  match csl, hcl with
  | [v0, v1, v2], _ =>
    rw [t0, o0, qCellsInt] at k0
    rw [t1, o1, qCellsInt] at k1
    rw [t2, o2, qCellsStrs] at k2
    obtain ⟨cn, hn, _, wn⟩ := DataW.trod_int Tryz.underlying3 k0
    obtain ⟨ck, hk, _, wk⟩ := DataW.trod_int Tryz.underlying3 k1
    obtain ⟨p, l, cap, hl, htx⟩ := strs_arg8 (show DataW.trod _ _ _ _ _ _ _ _ [v2] = some z2 from k2)
    simp at hn hk
    subst hn hk hl
    exact ⟨⟨cn, ck, l⟩, p, cap, rfl, htx, bounds_i64 wn, bounds_i64 wk⟩
set_option maxRecDepth 100000 in
/-- A list of texts, by its value. -/
theorem strs_in8 {H : Type} {enc : TypeId × Value → H} {W : World} {base : Nat} {v : Value} {d : DataW H} {ps : List MemPlace} (hok : Value.okWide Tryz.prog W .any base 22 v) (h : DataW.Trod enc Tryz.prog W 0 (fun _ => true) true 22 v d ps) : ∃ p l cap, v = .slice p l.length cap ∧ TxsIn W l p cap := by
  obtain ⟨a0, len0, cap0, rfl⟩ := okWide_slice Tryz.underlying22 hok
  obtain ⟨fuel, hf⟩ := h
  exact strs_arg8 hf
end
section
open Go.ChangeShapes Go.WideShapes Go.ChangeAt Go.RowKit
theorem tolN_flatten (LL : List (List Ver)) : tolN LL.flatten = (LL.map tolN).sum := by
  induction LL with
  | nil => rfl
  | cons x r ih => rw [List.flatten_cons, tolN_append, ih, List.map_cons, List.sum_cons]
set_option maxRecDepth 100000 in
/-- Lists of versions that came in. -/
theorem vss_arg8 {H : Type} {m : DataW H → Nat} (hb : IsBulk m) {enc : TypeId × Value → H} {W : World} {fuel : Nat} {v : Value} {y : DataW H × List MemPlace} (h : DataW.trod enc Tryz.prog W 0 (fun _ => true) true fuel 25 [v] = some y) :
    ∃ p LL cap, v = .slice p LL.length cap ∧ Vss W p LL ∧ LL.length ≤ cap ∧ (p = none → LL = [] ∧ cap = 0) ∧ (∀ x ∈ LL.flatten, VerI64 x) ∧ LL.length ≤ m y.1 ∧ tolN LL.flatten ≤ m y.1 := by
  rcases Deep.open_slice Tryz.underlying25 h with ⟨hcs, _⟩ | ⟨a, len0, cap0, m0, nn, D, Pl, hcs, _, hle, hcm, hm, hy, hx⟩
  · simp at hcs
    subst hcs
    exact ⟨none, [], 0, rfl, Or.inl rfl, Nat.le_refl _, fun _ => ⟨rfl, rfl⟩, (fun x hx => by cases hx), Nat.zero_le _, Nat.zero_le _⟩
  · simp at hcs
    subst hcs
    have hlm : len0 ≤ m0 := by rw [hm]; split <;> omega
    have hsum : ((List.range len0).map fun i => m (D i)).sum ≤ m y.1 := by
      rw [hy]
      have h1 := hb.slice ((List.range len0).map D)
      simp only [List.map_map] at h1
      exact h1 _
    have hv : ∀ i, ∃ r : List Ver, i < len0 → (∃ q c, W.cell? ((a.add (i * 1)).add 0) = some (.slice q r.length c) ∧ Rec verE W q r ∧ r.length ≤ c ∧ (q = none → r = [] ∧ c = 0)) ∧ (∀ x ∈ r, VerI64 x) ∧ tolN r ≤ m (D i) := fun i => by
      by_cases hi : i < len0
      · obtain ⟨cs', h1, h2⟩ := hx i (by omega)
        rw [qCellsVers] at h1
        obtain ⟨_, hlen, hcell⟩ := World.cells?_some h1
        match cs', hlen, h2, hcell with
        | [u], _, h2, hcell =>
          obtain ⟨q, r, c, rfl, h3, h4, h5, h6, h7⟩ := vers_arg8 hb h2
          refine ⟨r, fun _ => ⟨⟨q, c, ?_, h3, h4, h5⟩, h6, h7⟩⟩
          have := hcell 0 (by decide)
          simpa using this
      · exact ⟨[], fun h => absurd h hi⟩
    obtain ⟨R, hR⟩ : ∃ R : Nat → List Ver, ∀ i, i < len0 → (∃ q c, W.cell? ((a.add (i * 1)).add 0) = some (.slice q (R i).length c) ∧ Rec verE W q (R i) ∧ (R i).length ≤ c ∧ (q = none → R i = [] ∧ c = 0)) ∧ (∀ x ∈ R i, VerI64 x) ∧ tolN (R i) ≤ m (D i) := ⟨fun i => Classical.choose (hv i), fun i => Classical.choose_spec (hv i)⟩
    clear hv
    have hlen : ((List.range len0).map R).length = len0 := by simp
    have hat : ∀ i, i < len0 → ((List.range len0).map R).getD i [] = R i := fun i hi => by
      rw [List.getD_eq_getElem?_getD, List.getElem?_map, List.getElem?_range hi]
      rfl
    refine ⟨some a, (List.range len0).map R, cap0, by rw [hlen], ?_, by rw [hlen]; omega, (fun e => by cases e), fun x hxm => ?_, ?_, ?_⟩
    · by_cases h0 : len0 = 0
      · exact Or.inl (List.length_eq_zero_iff.1 (by rw [hlen]; exact h0))
      · obtain ⟨⟨q, c, hx0, _⟩, _⟩ := hR 0 (by omega)
        obtain ⟨b, off, sp⟩ := a
        have hsp : sp = none := by
          cases sp with
          | none => rfl
          | some q =>
            exfalso
            simp [Addr.add, World.cell?] at hx0
            revert hx0
            split <;> intro h9 <;> cases h9
        subst hsp
        refine Or.inr ⟨b, off, rfl, ?_, fun i hi => ?_⟩
        · rw [Addr.add_lit, Addr.add_lit] at hx0
          rcases Nat.lt_or_ge b W.heap.size with h' | h'
          · exact h'
          · simp [World.cell?, Array.getElem?_eq_none h'] at hx0
        · rw [hlen] at hi
          rw [hat i hi]
          obtain ⟨⟨q, c, h1, h2, h3, h4⟩, _⟩ := hR i hi
          refine ⟨q, c, ?_, h2, h3, h4⟩
          rw [Addr.add_lit, Addr.add_lit, Nat.mul_one, Nat.add_zero] at h1
          exact h1
    · obtain ⟨r, hr, hxr⟩ := List.mem_flatten.1 hxm
      obtain ⟨i, hi, rfl⟩ := List.mem_map.1 hr
      exact (hR i (List.mem_range.1 hi)).2.1 x hxr
    · rw [hlen]
      have h1 := len_le_sum (f := fun i => m (D i)) (fun i => hb.one _) (List.range len0)
      rw [List.length_range] at h1
      exact Nat.le_trans h1 hsum
    · refine Nat.le_trans ?_ hsum
      rw [tolN_flatten, List.map_map]
      exact sum_range_le len0 fun i hi => (hR i hi).2.2
end
end Go.Proofs.YtpjeibicopgedaaGreatDoor
