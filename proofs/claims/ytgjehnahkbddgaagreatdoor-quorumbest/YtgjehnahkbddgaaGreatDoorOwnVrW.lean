/- The statements' own copies of lists of versions: new memory, the same versions. -/
import Derived.Test.YtgjehnahkbddgaaGreatDoorZK
namespace Go.Proofs.YtgjehnahkbddgaaGreatDoor
open Go.RowKit
theorem rec_kept {α : Type} {E : Enc α} {w w' : World} {q : Option Addr} {l : List α} {row : Option Nat} (h : Rec E w q l) (hg : w.grownBy w' row) (hne : ∀ b o, q = some ⟨b, o, none⟩ → some b ≠ row) : Rec E w' q l := by
  rcases h with h | ⟨b, o, hp, hlt, hc⟩
  · exact Or.inl h
  · exact Or.inr ⟨b, o, hp, Nat.lt_of_lt_of_le hlt hg.size, fun i x hx j u hu => (World.cell?_of_block (a := ⟨b, o + i * E.k + j, none⟩) (hg.block b hlt (hne _ _ hp))).trans (hc i x hx j u hu)⟩
/-- v owns a slice of lists of versions that lie in rows of their own, all from block B on. -/
def OwnVsV (B : Nat) (w : World) (e : TypeId) (v : Value) (vs : List Value) (M : List (List Ver)) : Prop :=
  OwnV w B e v vs ∧ vs.length = M.length ∧ ∀ i, i < M.length → ∃ q c, vs[i]? = some (.slice q (M.getD i []).length c) ∧ Rec verE w q (M.getD i []) ∧ (M.getD i []).length ≤ c ∧ (q = none → M.getD i [] = [] ∧ c = 0) ∧ ∀ b o, q = some ⟨b, o, none⟩ → B ≤ b ∧ b < w.heap.size ∧ v.ownBlock ≠ some b
theorem OwnVsV.nil (B : Nat) (w : World) (e : TypeId) : OwnVsV B w e (.slice none 0 0) [] [] := ⟨OwnV.nil w B e, rfl, fun _ hi => absurd hi (Nat.not_lt_zero _)⟩
/-- One list more. -/
theorem OwnVsV.snoc {B : Nat} {w w1 w3 : World} {T E : TypeId} {v v' r : Value} {vs : List Value} {M : List (List Ver)} {row : List Ver} {o : Obj} (h : OwnVsV B w T v vs M) (hB : B ≤ w.heap.size) (hr : OwnR verE E w1 w.heap.size r row) (hb : Below w.heap.size w w1)
    (hv : OwnV w3 B T v' (vs ++ [r]))
    (hg : (w1.alloc o).grownBy w3 v.ownBlock) (hw : v'.ownBlock = v.ownBlock ∨ v'.ownBlock = some (w1.alloc o).heap.size) : OwnVsV B w3 T v' (vs ++ [r]) (M ++ [row]) := by
  obtain ⟨hvs, hlen, hall⟩ := h
  have hz := hb.size
  have hsz : (w1.alloc o).heap.size = w1.heap.size + 1 := by simp
  have hvb : ∀ k, v.ownBlock = some k → k < w.heap.size := fun k hk => (hvs.block hk).2
  have hg1 : w1.grownBy w3 v.ownBlock := ⟨hg.os, hg.tape, hg.output, by have := hg.size; omega, fun k hk hne => (hg.block k (by omega) hne).trans (Below.heap_alloc w1 o k hk)⟩
  refine ⟨hv, by simp [hlen], fun i hi => ?_⟩
  rw [List.length_append, List.length_singleton] at hi
  by_cases hlt : i < M.length
  · obtain ⟨q, c, h1, h2, h3, h4, h5⟩ := hall i hlt
    have e : (M ++ [row]).getD i [] = M.getD i [] := by rw [List.getD_eq_getElem?_getD, List.getD_eq_getElem?_getD, List.getElem?_append_left hlt]
    rw [e]
    refine ⟨q, c, by rw [List.getElem?_append_left (by omega)]; exact h1, rec_kept (h2.below hb) hg1 (fun b o hq => fun e => (h5 b o hq).2.2 e.symm), h3, h4, fun b o hq => ?_⟩
    have := h5 b o hq
    refine ⟨this.1, by have := hg1.size; omega, ?_⟩
    rcases hw with hw | hw
    · rw [hw]; exact this.2.2
    · rw [hw, hsz]; intro e; have := Option.some.inj e; omega
  · obtain rfl : i = M.length := by omega
    have e : (M ++ [row]).getD M.length [] = row := by rw [List.getD_eq_getElem?_getD, List.getElem?_append_right (Nat.le_refl _), Nat.sub_self]; rfl
    rw [e]
    obtain ⟨q, c, h1, h2, h3, h4, h5⟩ := hr.form
    refine ⟨q, c, by rw [List.getElem?_append_right (by omega), hlen, Nat.sub_self, h1]; rfl, rec_kept h2 hg1 (fun b o hq => ?_), h3, h4, fun b o hq => ?_⟩
    · have := h5 b o hq
      intro e
      have := hvb _ e.symm
      omega
    · have := h5 b o hq
      refine ⟨by omega, by have := hg1.size; omega, ?_⟩
      rcases hw with hw | hw
      · rw [hw]; intro e; have := hvb _ e; omega
      · rw [hw, hsz]; intro e; have := Option.some.inj e; omega
theorem OwnVsV.vss {B : Nat} {w : World} {T : TypeId} {v : Value} {vs : List Value} {M : List (List Ver)} (h : OwnVsV B w T v vs M) : ∃ p c, v = .slice p M.length c ∧ Vss w p M := by
  obtain ⟨hvs, hlen, hall⟩ := h
  rcases hvs.cells with ⟨rfl, rfl⟩ | ⟨g, cap, rfl, hB, hg, hcell⟩
  · have : M = [] := List.length_eq_zero_iff.1 (by simpa using hlen.symm)
    subst this
    exact ⟨none, 0, rfl, Or.inl rfl⟩
  · refine ⟨some ⟨g, 0, none⟩, cap, by rw [hlen], Or.inr ⟨g, 0, rfl, hg, fun i hi => ?_⟩⟩
    obtain ⟨q, c, h1, h2, h3, h4, _⟩ := hall i hi
    refine ⟨q, c, ?_, h2, h3, h4⟩
    rw [Nat.zero_add]
    exact hcell i _ h1
theorem versinfo : (Tryz.prog.info? 47).map (fun i => (i.zero, i.size, i.bytes)) = some (some (.slice none 0 0), 1, 24) := by kernel_rfl
theorem take_succ_vs {LL : List (List Ver)} {i : Nat} (hi : i < LL.length) : LL.take (i + 1) = LL.take i ++ [LL.getD i []] := by
  rw [List.take_succ_eq_append_getElem hi, List.getD_eq_getElem?_getD, List.getElem?_eq_getElem hi]
  rfl
set_option maxRecDepth 10000 in
set_option maxHeartbeats 4000000 in
theorem ownVers_any (p : Option Addr) (LL : List (List Ver)) (cap : Nat) (w : World) (hl : LL.length ≤ 1000) (hl2 : LL.flatten.length ≤ 1000) (hL : Vss w p LL) :
    Calls Tryz.prog 9 #[.slice p LL.length cap] w fun e w' => (∃ p' c', e = .returned (.slice p' LL.length c') ∧ Vss w' p' LL) ∧ Below w.heap.size w w' := by
  obtain ⟨i1, hi1, hy0, hy1, hy2⟩ := info_parts versinfo
  have HL : Hid (Vss w p LL) := hL
  have HFL : Hid (∀ i, i < LL.length → (LL.getD i []).length ≤ 1000) := fun i hi => by have := flatten_at_le LL hi; omega
  have HTS : Hid (∀ i, i < LL.length → LL.take (i + 1) = LL.take i ++ [LL.getD i []]) := fun i hi => take_succ_vs hi
  have HTL : Hid (∀ i, i ≤ LL.length → (LL.take i).length = i) := fun i hi => by rw [List.length_take]; omega
  have HTN : Hid (LL.take LL.length = LL) := List.take_length
  have HT0 : Hid (LL.take 0 = []) := by show _ = _; rfl
  clear hL hl2
  go_enter Tryz.func9, Tryz.ntmps9
  go_wp2
  go_loopw [3, 4] (fun v x wr => ∃ i : Nat, i ≤ LL.length ∧ x = .int .i64 i ∧ (∃ vs, OwnVsV w.heap.size wr 47 v vs (LL.take i)) ∧ Below w.heap.size w wr) (fun _ x _ => LL.length - (intOf x).toNat)
  case atStart => exact ⟨0, Nat.zero_le _, rfl, ⟨[], by rw [HT0.out]; exact OwnVsV.nil _ _ _⟩, Below.refl _ _⟩
  case round =>
    obtain ⟨i, hi, rfl, ⟨vs, hM⟩, hB⟩ := hrel
    obtain ⟨w3, rfl⟩ : ∃ w3, w3 = wr := ⟨_, rfl⟩
    have HM : Hid (OwnVsV w.heap.size w3 47 u3 vs (LL.take i)) := hM
    have HV : Hid (OwnV w3 w.heap.size 47 u3 vs) := hM.1
    have HVL : Hid (vs.length = i) := hM.2.1.trans (HTL.out i hi)
    have HB : Hid (Below w.heap.size w w3) := hB
    have hz3 : w.heap.size ≤ w3.heap.size := hB.size
    clear hM hB
    by_cases hil : i < LL.length
    · rcases HL.out.below HB.out with h0 | ⟨b, o, rfl, hblt, hc⟩
      · rw [h0] at hil; simp at hil
      obtain ⟨q, c, hcell, hrec, hlc, hqn⟩ := hc i hil
      have HR : Hid (Rec verE w3 q (LL.getD i [])) := hrec
      have HQN : Hid (q = none → LL.getD i [] = [] ∧ c = 0) := hqn
      have hfl := HFL.out i hil
      have HNX : Hid (LL.take (i + 1) = LL.take i ++ [LL.getD i []]) := HTS.out i hil
      clear hc hrec hqn HTS HTL HTN HT0 HFL
      generalize LL.getD i [] = row at *
      go_wp2_with (first | (at_builtin; refine wpList_append_recs (E := verE) rfl (.tmp 13) (.tmp 17) 47 51 rfl (.agg #[.int .i64 0, .int .i64 0, .int .i64 0, .int .i64 0, .string ⟨#[]⟩]) 48 Tryz.underlying47 verinfo rfl w3.heap.size (.slice none 0 0) [] rfl (OwnR.nil _ _ _) q row c rfl HR.out HQN.out (by unfold maxLen; simp; omega) (by simp; omega) (Nat.le_refl _) ?_; intro v5 w5 hO5 hb5; rw [List.nil_append] at hO5; obtain ⟨p5, c5, rfl, _⟩ := hO5.form; have HO5 : Hid (OwnR verE 51 w5 w3.heap.size (.slice p5 row.length c5) row) := hO5; have HB5 : Hid (Below w3.heap.size w3 w5) := hb5; clear hO5 hb5) | (at_builtin; refine wpList_append_val rfl (.tmp 12) (.tmp 19) 25 rfl w.heap.size 47 i1 (.slice none 0 0) 24 Tryz.underlying25 hi1 hy0 rfl hy1 hy2 (by decide) u3 vs rfl (((HV.out.kept (row := none) ⟨HB5.out.os, HB5.out.tape, HB5.out.output, HB5.out.size, fun k hk _ => HB5.out.block k hk⟩ (by cases hv : u3.ownBlock <;> simp))).kept (World.grownBy_alloc w5 _ none) (by cases hv : u3.ownBlock <;> simp)) ⟨w5.heap.size, 0, none⟩ 1 (.slice p5 row.length c5) rfl rfl (by simp) (by have := HVL.out; omega) (by have := HB5.out.size; simp; omega) ?_; intro v' w8 hV' hg' hw'))
      have hmv3 := HM.out.snoc hz3 HO5.out HB5.out hV' hg' hw'
      have hb8 : Below w.heap.size w w8 := ((HB.out.trans (HB5.out.mono hz3)).alloc (by have := HB5.out.size; omega) _).grown hg' (by have := HB5.out.size; simp; omega) (fun k' hk' => (HV.out.block hk').1)
      go_roundw
      case rel => exact ⟨i + 1, by omega, by go_num, ⟨_, by rw [HNX.out]; exact hmv3⟩, hb8⟩
      case measure => simp [intOf]; omega
    · have hie : i = LL.length := by omega
      obtain ⟨p', c', hv, hvs⟩ := HM.out.vss
      rw [HTL.out i hi] at hv
      subst hv
      have HVS : Hid (Vss w3 p' LL) := by
        show Vss _ _ _
        have := hvs
        rw [hie, HTN.out] at this
        exact this
      clear HM HV hvs
      subst hie
      go_wp2
      go_ret
      exact ⟨⟨p', c', rfl, HVS.out⟩, HB.out⟩
end Go.Proofs.YtgjehnahkbddgaaGreatDoor
