/- Texts laid together. -/
import Derived.Test.YtmbpfbhpmafheaaGreatDoorHa6
import Derived.Deep.Heap
import Derived.Sort.Grow
import Derived.StillTailTactics
namespace Go.Proofs.YtmbpfbhpmafheaaGreatDoor
open Go.RowKit
section
variable {h : Nat} {S : Nat → Prop} {L : List Kep} {s : Bool} {m : Option Nat} {D : DataW Value} {row : ByteArray → Value} {blk : ByteArray → Nat}
theorem sameKey_decide (z x : ByteArray) : (litK z).sameKey (litK x) = decide (z = x) := by
  by_cases e : z = x
  · subst e
    rw [sameKey_litK, decide_eq_true rfl]
  · rw [Maps.sameKey_ne (fun h => e (litK_inj h)), decide_eq_false e]
/-- How many those have together that are still to come. -/
def sumLeft (L : List Kep) (left : Lit → Bool) : Nat := (((keysL L).filter fun x => left (litK x)).map fun x => (getL L x).length).sum
theorem sum_strike {K : List ByteArray} (hn : K.Nodup) (f : ByteArray → Nat) (p : ByteArray → Bool) {x : ByteArray} (hx : x ∈ K) (hp : p x = true) : ((K.filter p).map f).sum = f x + ((K.filter fun z => p z && !decide (z = x)).map f).sum := by
  induction K with
  | nil => cases hx
  | cons a K ih =>
    obtain ⟨h1, h2⟩ := List.nodup_cons.1 hn
    by_cases e : a = x
    · subst e
      have hK : K.filter (fun z => p z && !decide (z = a)) = K.filter p := by
        apply List.filter_congr
        intro z hz
        have : z ≠ a := fun e => h1 (e ▸ hz)
        simp [this]
      rw [List.filter_cons_of_pos hp, List.filter_cons_of_neg (by simp), hK]
      simp
    · have hxK : x ∈ K := by
        rcases List.mem_cons.1 hx with h3 | h3
        · exact absurd h3.symm e
        · exact h3
      have := ih h2 hxK
      cases hpa : p a with
      | true =>
        rw [List.filter_cons_of_pos hpa, List.filter_cons_of_pos (by simp [hpa, e]), List.map_cons, List.map_cons, List.sum_cons, List.sum_cons, this]
        omega
      | false =>
        rw [List.filter_cons_of_neg (by simp [hpa]), List.filter_cons_of_neg (by simp [hpa]), this]
theorem sumLeft_strike {L : List Kep} (hs : SortedK L) {left : Lit → Bool} {x : ByteArray} (hx : x ∈ keysL L) (hl : left (litK x) = true) : sumLeft L left = (getL L x).length + sumLeft L (fun z => left z && !z.sameKey (litK x)) := by
  unfold sumLeft
  rw [sum_strike (keysL_nodup hs) (fun x => (getL L x).length) (fun x => left (litK x)) hx hl]
  simp only [sameKey_decide]
theorem sumLeft_all {L : List Kep} (hs : SortedK L) {left : Lit → Bool} (hl : ∀ x ∈ keysL L, left (litK x) = true) : sumLeft L left = L.length := by
  unfold sumLeft
  rw [List.filter_eq_self.2 hl, keys_sum hs]
theorem sumLeft_none {L : List Kep} {left : Lit → Bool} (hl : ∀ k, left k = false) : sumLeft L left = 0 := by
  unfold sumLeft
  rw [List.filter_eq_nil_iff.2 (fun x _ => by rw [hl]; decide)]
  rfl
theorem keysL_size {L : List Kep} (hs : SortedK L) (hf : ∀ x ∈ L, isN x.1 = true ∧ verOk x.2 = true) {x : ByteArray} (hx : x ∈ keysL L) : x.size ≤ 16 := by
  obtain ⟨v, hv⟩ := List.exists_mem_of_ne_nil _ (((keysOk L hs).mem x).1 hx)
  exact (isN_size (hf _ (mem_getL.1 hv)).1).2
/-- What comes of a map that is gone through: a key, and its row. -/
theorem HdAt.entry {w : World} (hd : HdAt w h S L s m D row blk) {b : Nat} (hm : m = some b) {x : ByteArray} {c : Value} {kl : Lit} {y : DataW Value × List MemPlace} {left : Lit → Bool} (hsub : ∀ z, left z = true → Maps.has D z = true) (hkey : keyOf Tryz.prog 9 (.string x) = some kl) (hlk : left kl = true) (hv : anyR c = some y) (hat : ∀ zd, D.atKey kl zd = y.1) : kl = litK x ∧ x ∈ keysL L ∧ c = row x := by
  obtain ⟨x', e1, e2, e3⟩ := keyOfK_inv hkey
  injection e1 with e1
  subst e1
  subst e2
  obtain ⟨_, _, _, h4, h5⟩ := hd.mapS b hm
  have hh := hsub _ hlk
  rw [h4 x e3] at hh
  have hne : getL L x ≠ [] := by simpa using hh
  refine ⟨rfl, ((keysOk L hd.sorted).mem x).2 hne, ?_⟩
  have h6 := h5 x hne .nil
  rw [hat] at h6
  have h7 : y.1 = .held c := by
    unfold anyR at hv
    exact (congrArg Prod.fst (Option.some.inj hv)).symm
  rw [h7] at h6
  injection h6
set_option maxRecDepth 10000 in
set_option maxHeartbeats 1600000 in
theorem count_nil {w : World} (hd : HdAt w h S L s none D row blk) : Calls Tryz.prog 11 #[.pointer (some ⟨h, 0, none⟩)] w fun e w' => e = .returned (.int .i64 (L.length : Int)) ∧ Below w.heap.size w w' := by
  have HA : Hid (Calls Tryz.prog 25 #[.pointer (some ⟨h, 0, none⟩)] w fun e w' => e = .returned (.map none) ∧ w' = w) := all_any hd
  rw [hd.nothing rfl]
  clear hd
  have hrg := run_range_nilMap (P := Tryz.prog) w 37 9 57 Tryz.underlying37
  have hnx : ∀ ty, (Instr.next (.pointer (some ⟨w.heap.size, 0, none⟩)) false ty).run Tryz.prog (w.alloc (.mapIter none 0 #[] 0)) = _ := fun ty => run_next_nilMap w ty 0 0 #[]
  go_enter Tryz.func11, Tryz.ntmps11
  go_wp2_with fail
  refine HA.out.mono ?_
  rintro e w1 ⟨rfl, hw1⟩
  rw [hw1]
  clear hw1 w1 HA
  go_wp2
  refine wp_loop_rounds 1 ?_
  rw [rounds_succ]
  go_wp2
  go_ret
  exact ⟨rfl, (Below.refl _ _).alloc (Nat.le_refl _) _⟩
set_option maxRecDepth 10000 in
set_option maxHeartbeats 1600000 in
theorem count_some {w : World} {b : Nat} (hd : HdAt w h S L s (some b) D row blk) : Calls Tryz.prog 11 #[.pointer (some ⟨h, 0, none⟩)] w fun e w' => e = .returned (.int .i64 (L.length : Int)) ∧ Below w.heap.size w w' := by
  have HA : Hid (Calls Tryz.prog 25 #[.pointer (some ⟨h, 0, none⟩)] w fun e w' => e = .returned (.map (some b)) ∧ w' = w) := all_any hd
  obtain ⟨hSb, hbh, ⟨n, hown⟩, h4, h5⟩ := hd.mapS b rfl
  have HD : Hid (HdAt w h S L s (some b) D row blk) := hd
  have hfew := hd.few
  have H0 : Hid (sumLeft L (Maps.has D) = L.length) := sumLeft_all hd.sorted (fun x hx => by
    rw [h4 x (by have := keysL_size hd.sorted hd.fits hx; unfold maxLen; omega)]
    simpa using ((keysOk L hd.sorted).mem x).1 hx)
  have hblt : b < w.heap.size := hd.inS b hSb
  clear h4 h5 hd hSb hbh
  go_enter Tryz.func11, Tryz.ntmps11
  go_wp2_with fail
  refine HA.out.mono ?_
  rintro e w1 ⟨rfl, hw1⟩
  rw [hw1]
  clear hw1 w1 HA
  go_wp2_with (first
    | (at_range; refine wpList_range_own _ rfl _ 37 rfl 9 57 keyedK Tryz.underlying37 anyR b n D rfl hown ?_; intro w0 hrg0 hg0 hs0)
    | go_in)
  go_frame
  go_loopw [3] (fun k wr => ∃ (left : Lit → Bool) (cnt acc : Nat), wr.ranges Tryz.prog 9 anyR b w.heap.size n D left cnt ∧ k = .int .i64 acc ∧ acc + sumLeft L left = L.length ∧ (∀ z, left z = true → Maps.has D z = true) ∧ Below w.heap.size w wr) (fun _ wr => wr.rangeLeft b w.heap.size)
  case atStart => exact ⟨Maps.has D, Maps.size D, 0, hrg0, rfl, by rw [H0.out]; omega, fun z hz => hz, ⟨hg0.os, hg0.tape, hg0.output, hg0.size, fun k hk => hg0.block k hk (by simp)⟩⟩
  case round =>
    clear hg0 hs0 hrg0 hown H0
    obtain ⟨left, cnt, acc, hrg, rfl, hacc, hsub, hbw⟩ := hrel
    obtain ⟨w1, rfl⟩ : ∃ w1, w1 = wr := ⟨_, rfl⟩
    have HACC : Hid (acc + sumLeft L left = L.length) := hacc
    have HSUB : Hid (∀ z, left z = true → Maps.has D z = true) := hsub
    have HBW : Hid (Below w.heap.size w w1) := hbw
    have hacc2 : acc ≤ 60 := by omega
    clear hacc hsub hbw
    go_wp2_with (first
      | (at_next; refine wpList_next_ranges (α := ByteArray) (β := Value) _ rfl _ rfl 9 keyedK anyR Value.string id (fun key kl hk => by obtain ⟨x, hx, _⟩ := keyOfK_inv hk; exact ⟨x, hx⟩) (fun v y _ => ⟨v, rfl⟩) b w.heap.size n D left cnt rfl hrg ?_ ?_)
      | go_in)
    · intro _ hl0
      have HE : Hid (acc = L.length) := by
        show _ = _
        have := HACC.out
        rw [sumLeft_none hl0] at this
        exact this
      go_wp2
      go_ret
      exact ⟨by rw [HE.out]; rfl, HBW.out⟩
    · intro x c kl yd yp w2 cnt2 hkey hlk hv hat hrg2 hlt2 hg2 hs2 hen
      obtain ⟨rfl, hxk, rfl⟩ := HD.out.entry rfl HSUB.out hkey hlk hv hat
      have HST : Hid (sumLeft L left = (getL L x).length + sumLeft L (fun z => left z && !z.sameKey (litK x))) := sumLeft_strike HD.out.sorted hxk hlk
      obtain ⟨p, cc, hrow, _, _, _, _⟩ := HD.out.form x
      have hrow2 : row x = .slice p (getL L x).length cc := hrow
      rw [hrow2] at hen ⊢
      have HRG : Hid (w2.ranges Tryz.prog 9 anyR b w.heap.size n D (fun z => left z && !z.sameKey (litK x)) cnt2) := hrg2
      have HLT : Hid (cnt2 < cnt) := hlt2
      have HRG0 : Hid (w1.ranges Tryz.prog 9 anyR b w.heap.size n D left cnt) := hrg
      have HB2 : Hid (Below w.heap.size w w2) := HBW.out.trans ⟨hg2.os, hg2.tape, hg2.output, hg2.size, fun k hk => hg2.block k (by have := HBW.out.size; omega) (fun e => by injection e with e; omega)⟩
      have hgl : (getL L x).length ≤ 60 := Nat.le_trans (getL_le _ _) hfew
      have HAC2 : Hid (acc + (getL L x).length + sumLeft L (fun z => left z && !z.sameKey (litK x)) = L.length) := by
        show _ = _
        have := HACC.out
        rw [HST.out] at this
        omega
      have HS2 : Hid (∀ z, (left z && !z.sameKey (litK x)) = true → Maps.has D z = true) := fun z hz => HSUB.out z (by simp only [Bool.and_eq_true] at hz; exact hz.1)
      clear hv hat hrg2 hlt2 hg2 hs2 hrow hrow2 hkey hlk hxk HST HACC hrg
      generalize (getL L x).length = g at *
      go_wp2
      go_roundw
      case rel => exact ⟨_, cnt2, acc + g, HRG.out, by go_num, HAC2.out, HS2.out, HB2.out⟩
      case measure => rw [HRG.out.left_eq, HRG0.out.left_eq]; exact HLT.out
theorem count_any {w : World} (hd : HdAt w h S L s m D row blk) : Calls Tryz.prog 11 #[.pointer (some ⟨h, 0, none⟩)] w fun e w' => e = .returned (.int .i64 (L.length : Int)) ∧ Below w.heap.size w w' := by
  cases m with
  | none => exact count_nil hd
  | some b => exact count_some hd
end
section
variable {w w1 w2 w3 : World} {h : Nat} {S : Nat → Prop} {L : List Kep} {s : Bool} {m : Option Nat} {D : DataW Value} {row : ByteArray → Value} {blk : ByteArray → Nat}
/-- The blocks of a hold behind a call: what it had, and what is new. -/
def grownS (S : Nat → Prop) (w w' : World) : Nat → Prop := fun k => k < w'.heap.size ∧ (S k ∨ w.heap.size ≤ k)
/-- What set leaves: its map is b', all other blocks are as they were. -/
structure SetAt (w2 w3 : World) (h b' : Nat) (s : Bool) (D0 : DataW Value) (key : ByteArray) (v : Value) : Prop where
  os : w3.os = w2.os
  tape : w3.tape = w2.tape
  output : w3.output = w2.output
  size : w2.heap.size ≤ w3.heap.size
  ptr : w3.cell? ⟨h, 0, none⟩ = some (.map (some b'))
  shut : w3.cell? ⟨h, 1, none⟩ = some (.bool s)
  free0 : w3.frozen? ⟨h, 0, none⟩ = false
  free1 : w3.frozen? ⟨h, 1, none⟩ = false
  own : ∃ n, OwnM w3 b' n (D0.put (litK key) (.held v))
  ne : b' ≠ h
  block : ∀ k, k < w2.heap.size → k ≠ b' → k ≠ h → w3.heap[k]? = w2.heap[k]?
theorem insV_put {L : List Kep} (hs : SortedK L) (key : ByteArray) (v : Ver) : getL (putL L key v) key = insV (getL L key) (placeV (getL L key) (tagOf v)) v := getL_putL hs key v
/-- A key's row is another one: the hold holds L'. -/
theorem HdAt.repl (hd : HdAt w h S L s m D row blk) (key : ByteArray) {L' : List Kep} (hG : GoodL L') (hnk : getL L' key ≠ []) (hot : ∀ x, x ≠ key → getL L' x = getL L x) (hb : Below w.heap.size w w1) {v' : Value} (hO : OwnR verE 49 w2 0 v' (getL L' key)) (hg : w1.grownBy w2 (row key).ownBlock) (hwh : (v'.ownBlock = (row key).ownBlock ∧ (row key).ownBlock ≠ none) ∨ ∃ k, v'.ownBlock = some k ∧ w1.heap.size ≤ k)
    {b' : Nat} {D0 : DataW Value} (hst : SetAt w2 w3 h b' s D0 key v') (hb' : (m = some b' ∨ (m = none ∧ w2.heap.size ≤ b'))) (hI : Maps.IsMap D0) (hhas : ∀ x, x.size ≤ maxLen → Maps.has D0 (litK x) = decide (getL L x ≠ [])) (hat : ∀ x, getL L x ≠ [] → ∀ z, D0.atKey (litK x) z = .held (row x)) :
    HdOf w3 h (grownS S w w3) L' s ∧ Upd S (grownS S w w3) w w3 := by
  have hsz1 := hb.size
  have hsz2 := hg.size
  have hsz3 := hst.size
  have hS1 : ∀ k, S k → k < w.heap.size := hd.inS
  -- the row's block
  obtain ⟨g', hg'⟩ : ∃ g', v'.ownBlock = some g' := by
    rcases hwh with ⟨e, hne⟩ | ⟨k, e, _⟩
    · cases hr : (row key).ownBlock with
      | none => exact absurd hr hne
      | some k => exact ⟨k, by rw [e, hr]⟩
    · exact ⟨k, e⟩
  have hgS : S g' ∧ (row key).ownBlock = some g' ∨ w1.heap.size ≤ g' := by
    rcases hwh with ⟨e, _⟩ | ⟨k, e, hk⟩
    · have hr : (row key).ownBlock = some g' := by rw [← e]; exact hg'
      exact Or.inl ⟨(hd.rowS hr).1, hr⟩
    · rw [hg'] at e
      injection e with e
      exact Or.inr (e ▸ hk)
  have hglt : g' < w2.heap.size := (OwnR.block hO hg').2
  have hgh : g' ≠ h := by
    rcases hgS with ⟨_, h2⟩ | h2
    · obtain ⟨_, hne, e⟩ := hd.rowS h2
      rw [e]
      exact (hd.inB key hne).2.2.1
    · have := hS1 h hd.self
      omega
  have hgb : g' ≠ b' := by
    rcases hb' with e | ⟨_, e⟩
    · rcases hgS with ⟨_, h2⟩ | h2
      · obtain ⟨_, hne, e2⟩ := hd.rowS h2
        rw [e2]
        exact (hd.inB key hne).2.2.2 b' e
      · have := hS1 b' (hd.mapS b' e).1
        omega
    · omega
  -- other keys' rows are as they were
  have hoth : ∀ x, x ≠ key → ∀ k, (row x).ownBlock = some k → w3.heap[k]? = w.heap[k]? := fun x hx k hk => by
    obtain ⟨h1, h2, h3⟩ := hd.rowS hk
    obtain ⟨_, _, h6, h7⟩ := hd.inB x h2
    have hkw := hS1 k h1
    have e1 : k ≠ h := by rw [h3]; exact h6
    have e2 : k ≠ b' := by
      rcases hb' with e | ⟨_, e⟩
      · rw [h3]; exact h7 b' e
      · omega
    have e3 : some k ≠ (row key).ownBlock := fun e => by
      obtain ⟨_, h8, h9⟩ := hd.rowS e.symm
      exact hd.apart x key h2 h8 hx (by rw [← h3, ← h9])
    rw [hst.block k (by omega) e2 e1, hg.block k (by omega) e3]
    exact hb.block k hkw
  have hSb : grownS S w w3 b' := by
    obtain ⟨n, hn⟩ := hst.own
    refine ⟨World.ownsMap.lt hn, ?_⟩
    rcases hb' with e | ⟨_, e⟩
    · exact Or.inl (hd.mapS b' e).1
    · exact Or.inr (by omega)
  refine ⟨⟨some b', D0.put (litK key) (.held v'), fun x => if x = key then v' else row x, fun x => if x = key then g' else blk x, ?_⟩, ⟨hst.os.trans (hg.os.trans hb.os), hst.tape.trans (hg.tape.trans hb.tape), hst.output.trans (hg.output.trans hb.output), by omega, fun k hk hn => ?_, fun k hk => hk.2⟩⟩
  · refine ⟨hG.sorted, hG.few, hG.fits, fun k hk => hk.1, ⟨by have := hS1 h hd.self; omega, Or.inl hd.self⟩, hst.ptr, hst.shut, hst.free0, hst.free1, (fun e => by cases e), fun b hb0 => ?_, fun x => ?_, fun x hx => ?_, fun x hx => ?_, fun x y hx hy hxy => ?_⟩
    · injection hb0 with hb0
      subst hb0
      refine ⟨hSb, hst.ne, hst.own, fun x hx => ?_, fun x hx z => ?_⟩
      · by_cases e : x = key
        · subst e
          rw [Maps.has_put_same hI (litK_key x)]
          simpa using hnk
        · rw [Maps.has_put_other (fun e2 => e (litK_inj e2)), hhas x hx, hot x e]
      · by_cases e : x = key
        · subst e
          rw [Maps.atKey_put_same hI (litK_key x), if_pos rfl]
        · rw [Maps.atKey_put_other (fun e2 => e (litK_inj e2)), if_neg e]
          exact hat x (by rw [← hot x e]; exact hx) z
    · show OwnR verE _ w3 0 (if x = key then v' else row x) _
      by_cases e : x = key
      · subst e
        rw [if_pos rfl]
        refine hO.same fun k hk => ?_
        rw [hg'] at hk
        injection hk with hk
        subst hk
        exact hst.block g' hglt hgb hgh
      · rw [if_neg e, hot x e]
        exact (hd.own x).same (hoth x e)
    · by_cases e : x = key
      · subst e
        exact absurd hx hnk
      · show (if x = key then v' else row x) = _
        rw [if_neg e]
        exact hd.nilrow x (by rw [← hot x e]; exact hx)
    · show (if x = key then v' else row x).ownBlock = some (if x = key then g' else blk x) ∧ _
      by_cases e : x = key
      · subst e
        rw [if_pos rfl, if_pos rfl]
        refine ⟨hg', ⟨by omega, ?_⟩, hgh, fun b hb0 => by injection hb0 with hb0; rw [← hb0]; exact hgb⟩
        rcases hgS with ⟨h1, _⟩ | h1
        · exact Or.inl h1
        · exact Or.inr (by omega)
      · rw [if_neg e, if_neg e]
        rw [hot x e] at hx
        obtain ⟨h1, h2, h3, h4⟩ := hd.inB x hx
        have := hS1 _ h2
        refine ⟨h1, ⟨by omega, Or.inl h2⟩, h3, fun b hb0 => ?_⟩
        injection hb0 with hb0
        subst hb0
        rcases hb' with e2 | ⟨_, e2⟩
        · exact h4 _ e2
        · omega
    · show (if x = key then g' else blk x) ≠ (if y = key then g' else blk y)
      have aux : ∀ z, z ≠ key → getL L z ≠ [] → blk z ≠ g' := fun z hz hne e => by
        obtain ⟨h1, h2, _, _⟩ := hd.inB z hne
        rcases hgS with ⟨_, h4⟩ | h4
        · obtain ⟨_, h5, h6⟩ := hd.rowS h4
          exact hd.apart z key hne h5 hz (by rw [e, ← h6])
        · have := hS1 _ h2
          omega
      by_cases ex : x = key
      · by_cases ey : y = key
        · exact absurd (ex.trans ey.symm) hxy
        · rw [if_pos ex, if_neg ey]
          exact fun e => aux y ey (by rw [← hot y ey]; exact hy) e.symm
      · by_cases ey : y = key
        · rw [if_neg ex, if_pos ey]
          exact aux x ex (by rw [← hot x ex]; exact hx)
        · rw [if_neg ex, if_neg ey]
          exact hd.apart x y (by rw [← hot x ex]; exact hx) (by rw [← hot y ey]; exact hy) hxy
  · have e1 : k ≠ h := fun e => hn (e ▸ hd.self)
    have e2 : k ≠ b' := fun e => by
      rcases hb' with e3 | ⟨_, e3⟩
      · exact hn (e ▸ (hd.mapS b' e3).1)
      · omega
    have e3 : some k ≠ (row key).ownBlock := fun e => hn (hd.rowS e.symm).1
    rw [hst.block k (by omega) e2 e1, hg.block k (by omega) e3]
    exact hb.block k hk
theorem HdAt.put (hd : HdAt w h S L s m D row blk) (key : ByteArray) (v : Ver) (hG : GoodL (putL L key v)) (hb : Below w.heap.size w w1) {v' : Value} (hO : OwnR verE 49 w2 0 v' (insV (getL L key) (placeV (getL L key) (tagOf v)) v)) (hg : w1.grownBy w2 (row key).ownBlock) (hwh : (v'.ownBlock = (row key).ownBlock ∧ (row key).ownBlock ≠ none) ∨ ∃ k, v'.ownBlock = some k ∧ w1.heap.size ≤ k)
    {b' : Nat} {D0 : DataW Value} (hst : SetAt w2 w3 h b' s D0 key v') (hb' : (m = some b' ∨ (m = none ∧ w2.heap.size ≤ b'))) (hI : Maps.IsMap D0) (hhas : ∀ x, x.size ≤ maxLen → Maps.has D0 (litK x) = decide (getL L x ≠ [])) (hat : ∀ x, getL L x ≠ [] → ∀ z, D0.atKey (litK x) z = .held (row x)) :
    HdOf w3 h (grownS S w w3) (putL L key v) s ∧ Upd S (grownS S w w3) w w3 :=
  hd.repl key hG (by rw [insV_put hd.sorted]; unfold insV; simp) (fun x hx => getL_putL_other L v hx) hb (by rw [insV_put hd.sorted]; exact hO) hg hwh hst hb' hI hhas hat
theorem setAt_some {b : Nat} {key : ByteArray} {v : Value} (hne : b ≠ h) (q0 : w2.cell? ⟨h, 0, none⟩ = some (.map (some b))) (q1 : w2.cell? ⟨h, 1, none⟩ = some (.bool s)) (f0 : w2.frozen? ⟨h, 0, none⟩ = false) (f1 : w2.frozen? ⟨h, 1, none⟩ = false) (hs : SetOk w2 w3 b D key v) : SetAt w2 w3 h b s D key v := by
  have hlt : h < w2.heap.size := lt_of_cellH q0
  have hh := hs.grown.block h hlt (fun e => hne (Option.some.inj e).symm)
  exact ⟨hs.grown.os, hs.grown.tape, hs.grown.output, hs.grown.size, (cell_same hh 0).1.trans q0, (cell_same hh 1).1.trans q1, (cell_same hh 0).2.trans f0, (cell_same hh 1).2.trans f1, hs.own, hne, fun k hk h1 _ => hs.grown.block k hk (fun e => h1 (Option.some.inj e))⟩
theorem setAt_none {key : ByteArray} {v : Value} (q0 : w2.cell? ⟨h, 0, none⟩ = some (.map none)) (q1 : w2.cell? ⟨h, 1, none⟩ = some (.bool s)) (f0 : w2.frozen? ⟨h, 0, none⟩ = false) (f1 : w2.frozen? ⟨h, 1, none⟩ = false) (hs : SetOk ((w2.setCell ⟨h, 0, none⟩ (.map (some w2.heap.size))).alloc (.map #[] 0)) w3 w2.heap.size (.map []) key v) : SetAt w2 w3 h w2.heap.size s (.map []) key v := by
  have hlt : h < w2.heap.size := lt_of_cellH q0
  obtain ⟨W0, hW0⟩ : ∃ W0, W0 = (w2.setCell ⟨h, 0, none⟩ (.map (some w2.heap.size))).alloc (.map #[] 0) := ⟨_, rfl⟩
  rw [← hW0] at hs
  have hsz : (w2.setCell ⟨h, 0, none⟩ (.map (some w2.heap.size))).heap.size = w2.heap.size := by simp
  have hsz0 : W0.heap.size = w2.heap.size + 1 := by rw [hW0]; simp
  have hold : ∀ k, k < w2.heap.size → W0.heap[k]? = (w2.setCell ⟨h, 0, none⟩ (.map (some w2.heap.size))).heap[k]? := fun k hk => by rw [hW0]; exact heap_alloc_old _ _ (by rw [hsz]; exact hk)
  have hh : w3.heap[h]? = (w2.setCell ⟨h, 0, none⟩ (.map (some w2.heap.size))).heap[h]? := by
    rw [hs.grown.block h (by omega) (fun e => by injection e with e; omega), hold h hlt]
  have hsz3 := hs.grown.size
  refine ⟨by rw [hs.grown.os, hW0]; rfl, by rw [hs.grown.tape, hW0]; rfl, by rw [hs.grown.output, hW0]; rfl, by omega, ?_, ?_, ?_, ?_, hs.own, by omega, fun k hk h1 h2 => ?_⟩
  · rw [(cell_same hh 0).1]
    exact World.cell?_setCell_same _ _ _ q0
  · rw [(cell_same hh 1).1, World.cell?_setCell_other _ _ _ _ (fun e => by have h2 : (0 : Nat) = 1 := congrArg Addr.off e; omega)]
    exact q1
  · rw [(cell_same hh 0).2, World.frozen?_setCell]
    exact f0
  · rw [(cell_same hh 1).2, World.frozen?_setCell]
    exact f1
  · rw [hs.grown.block k (by omega) (fun e => h1 (Option.some.inj e)), hold k hk]
    exact Deep.blk_setCell_other _ _ _ _ h2
end
section
open Go.Sort
/-- -1, 0, 1 by number. -/
def cmpZ (a b : Int) : Int := if a < b then -1 else if b < a then 1 else 0
set_option maxRecDepth 10000 in
theorem nanZ (a : Int) (w : World) : Calls Tryz.prog 90 #[.int .i64 a] w fun e w' => e = .returned (.bool false) ∧ w' = w := by
  go_enter Tryz.func90, Tryz.ntmps90
  go_wp2
  go_ret
  exact ⟨rfl, rfl⟩
set_option maxRecDepth 10000 in
set_option maxHeartbeats 1000000 in
theorem cmpZ_any (a b : Int) (w : World) : Calls Tryz.prog 69 #[.int .i64 a, .int .i64 b] w fun e w' => e = .returned (.int .i64 (cmpZ a b)) ∧ w' = w := by
  have h1 := fun W => nanZ a W
  have h2 := fun W => nanZ b W
  rcases Int.lt_trichotomy a b with h | h | h
  · have HE : Hid (cmpZ a b = -1) := if_pos h
    rw [HE.out]
    go_enter Tryz.func69, Tryz.ntmps69
    go_wp2_with fail
    refine (h1 _).mono ?_
    rintro e w1 ⟨rfl, hw1⟩
    rw [hw1]
    clear hw1 w1
    go_wp2_with fail
    refine (h2 _).mono ?_
    rintro e w1 ⟨rfl, hw1⟩
    rw [hw1]
    clear hw1 w1
    go_wp2
    go_ret
    exact ⟨rfl, rfl⟩
  · subst h
    have HE : Hid (cmpZ a a = 0) := by show _ = _; unfold cmpZ; rw [if_neg (Int.lt_irrefl _), if_neg (Int.lt_irrefl _)]
    rw [HE.out]
    go_enter Tryz.func69, Tryz.ntmps69
    go_wp2_with fail
    refine (h1 _).mono ?_
    rintro e w1 ⟨rfl, hw1⟩
    rw [hw1]
    clear hw1 w1
    go_wp2_with fail
    refine (h2 _).mono ?_
    rintro e w1 ⟨rfl, hw1⟩
    rw [hw1]
    clear hw1 w1
    go_wp2
    go_ret
    exact ⟨rfl, rfl⟩
  · have HE : Hid (cmpZ a b = 1) := by show _ = _; unfold cmpZ; rw [if_neg (by omega), if_pos h]
    have d1 : decide (a < b) = false := decide_eq_false (by omega)
    rw [HE.out]
    go_enter Tryz.func69, Tryz.ntmps69
    go_wp2_with fail
    refine (h1 _).mono ?_
    rintro e w1 ⟨rfl, hw1⟩
    rw [hw1]
    clear hw1 w1
    go_wp2_with fail
    refine (h2 _).mono ?_
    rintro e w1 ⟨rfl, hw1⟩
    rw [hw1]
    clear hw1 w1
    go_wp2
    go_ret
    exact ⟨rfl, rfl⟩
/-- The first that is not 0, of two. -/
def orZ (a b : Int) : Int := if a ≠ 0 then a else b
set_option maxRecDepth 10000 in
set_option maxHeartbeats 1000000 in
theorem or_two (g o : Nat) (a b : Int) (w : World) (h0 : w.cell? ⟨g, o, none⟩ = some (.int .i64 a)) (h1 : w.cell? ⟨g, o + 1, none⟩ = some (.int .i64 b)) :
    Calls Tryz.prog 68 #[.slice (some ⟨g, o, none⟩) 2 2] w fun e w' => e = .returned (.int .i64 (orZ a b)) ∧ w' = w := by
  obtain ⟨f, hf⟩ : ∃ f : Nat → Int, f = fun i => if i = 0 then a else b := ⟨_, rfl⟩
  have HC : Hid (∀ i, i < 2 → w.cell? ⟨g, o + i, none⟩ = some (.int .i64 (f i))) := fun i hi => by
    rw [hf]
    match i, hi with
    | 0, _ => exact h0
    | 1, _ => exact h1
  obtain ⟨r, hr⟩ : ∃ r, r = orZ a b := ⟨_, rfl⟩
  have HR : Hid (∀ i, i < 2 → (∀ j, j < i → f j = 0) → f i ≠ 0 → r = f i) := fun i hi hall hne => by
    rw [hr, hf]
    unfold orZ
    match i, hi with
    | 0, _ => rw [hf] at hne; have hne' : a ≠ 0 := hne; rw [if_pos hne']; rfl
    | 1, _ =>
      have := hall 0 (by omega)
      rw [hf] at this
      have ha : a = 0 := this
      rw [if_neg (by rw [ha]; decide)]; rfl
  have HZ : Hid ((∀ j, j < 2 → f j = 0) → r = 0) := fun hall => by
    have t0 := hall 0 (by omega)
    have t1 := hall 1 (by omega)
    rw [hf] at t0 t1
    have ha : a = 0 := t0
    have hb : b = 0 := t1
    rw [hr, ha, hb]
    decide
  rw [← hr]
  clear hf hr h0 h1
  go_enter Tryz.func68, Tryz.ntmps68
  go_wp2
  go_loop [8] (fun x => ∃ i : Nat, i ≤ 2 ∧ x = .int .i64 i ∧ ∀ j, j < i → f j = 0) (fun x => 2 - (intOf x).toNat)
  case atStart => exact ⟨0, by omega, rfl, fun j hj => absurd hj (Nat.not_lt_zero _)⟩
  case round =>
    obtain ⟨i, hi, rfl, hall⟩ := hrel
    have HALL : Hid (∀ j, j < i → f j = 0) := hall
    clear hall
    by_cases hil : i < 2
    · have q1 := HC.out i hil
      have HRI : Hid (f i ≠ 0 → r = f i) := HR.out i hil HALL.out
      have HN : Hid (f i = 0 → ∀ j, j < i + 1 → f j = 0) := fun h j hj => by
        rcases Nat.lt_or_ge j i with h' | h'
        · exact HALL.out j h'
        · obtain rfl : j = i := by omega
          exact h
      clear HALL HR HC HZ
      generalize f i = y at *
      by_cases hy : y = 0
      · have HNX := HN.out hy
        subst hy
        have HNX' : Hid (∀ j, j < i + 1 → f j = 0) := HNX
        clear HNX HN HRI
        go_wp2
        go_round
        case rel => exact ⟨i + 1, by omega, by go_num, HNX'.out⟩
        case measure => simp [intOf]; omega
      · have HE : Hid (r = y) := HRI.out hy
        have d1 : (y == 0) = false := by rw [beq_eq_false_iff_ne]; exact hy
        have d2 : (y != 0) = true := by rw [bne_iff_ne]; exact hy
        clear HRI HN
        go_wp2
        go_ret
        exact ⟨by rw [HE.out]; rfl, rfl⟩
    · have HE : Hid (r = 0) := HZ.out (fun j hj => HALL.out j (by omega))
      go_wp2
      go_ret
      exact ⟨by rw [HE.out]; rfl, rfl⟩
/-- What two tags compare as. -/
def tagC (a b : Int × Int) : Int := orZ (cmpZ a.1 b.1) (cmpZ a.2 b.2)
theorem tagC_lt {a b : Int × Int} : decide (tagC a b < 0) = lessB a b := by
  unfold tagC orZ cmpZ lessB
  by_cases h1 : a.1 < b.1
  · simp [h1]
  · by_cases h2 : b.1 < a.1
    · have h3 : ¬ a.1 = b.1 := by omega
      simp [h1, h2, h3]
    · have h3 : a.1 = b.1 := by omega
      simp only [h3]
      by_cases h4 : a.2 < b.2
      · simp [h4]
      · by_cases h5 : b.2 < a.2 <;> simp [h4, h5]
theorem tagC_zero {a b : Int × Int} : tagC a b = 0 ↔ a = b := by
  obtain ⟨a1, a2⟩ := a
  obtain ⟨b1, b2⟩ := b
  unfold tagC orZ cmpZ
  simp only [Prod.mk.injEq]
  by_cases h1 : a1 < b1
  · simp [h1]; omega
  · by_cases h2 : b1 < a1
    · simp [h1, h2]; omega
    · have h3 : a1 = b1 := by omega
      subst h3
      by_cases h4 : a2 < b2
      · simp [h4]; omega
      · by_cases h5 : b2 < a2
        · simp [h4, h5]; omega
        · simp [h4, h5]; omega
set_option maxRecDepth 10000 in
set_option maxHeartbeats 1000000 in
theorem compare_any (a b : Int × Int) (W : World) : Calls Tryz.prog 43 #[.agg #[.int .i64 a.1, .int .i64 a.2], .agg #[.int .i64 b.1, .int .i64 b.2]] W fun e w' => e = .returned (.int .i64 (tagC a b)) ∧ ∃ n os, w' = grow (W.drewN n) os := by
  obtain ⟨a1, a2⟩ := a
  obtain ⟨b1, b2⟩ := b
  obtain ⟨W2, hW2⟩ : ∃ W2, W2 = (W.alloc (.cells #[.int .i64 a1, .int .i64 a2] 45)).alloc (.cells #[.int .i64 b1, .int .i64 b2] 45) := ⟨_, rfl⟩
  have HG : Hid (∃ os, W2 = grow W os) := ⟨_, by rw [hW2, alloc_eq_grow, alloc_eq_grow, grow_grow]⟩
  have q1 : W2.cell? ⟨W.heap.size, 0, none⟩ = some (.int .i64 a1) := by rw [hW2]; simp
  have q2 : W2.cell? ⟨W.heap.size, 1, none⟩ = some (.int .i64 a2) := by rw [hW2]; simp
  have q4 : W2.cell? ⟨W.heap.size + 1, 0, none⟩ = some (.int .i64 b1) := by rw [hW2]; simp
  have q5 : W2.cell? ⟨W.heap.size + 1, 1, none⟩ = some (.int .i64 b2) := by rw [hW2]; simp
  have HW2 : Hid (W2 = (W.alloc (.cells #[.int .i64 a1, .int .i64 a2] 45)).alloc (.cells #[.int .i64 b1, .int .i64 b2] 45)) := hW2
  clear hW2
  show Calls Tryz.prog 43 #[.agg #[.int .i64 a1, .int .i64 a2], .agg #[.int .i64 b1, .int .i64 b2]] W fun e w' => e = .returned (.int .i64 (orZ (cmpZ a1 b1) (cmpZ a2 b2))) ∧ ∃ n os, w' = grow (W.drewN n) os
  have c1 := fun W => cmpZ_any a1 b1 W
  have c2 := fun W => cmpZ_any a2 b2 W
  have c4 := fun g W h0 h1 => or_two g 0 (cmpZ a1 b1) (cmpZ a2 b2) W h0 h1
  generalize cmpZ a1 b1 = r1 at *
  generalize cmpZ a2 b2 = r2 at *
  generalize orZ r1 r2 = r at *
  have C1 : Hid (∀ W, Calls Tryz.prog 69 #[.int .i64 a1, .int .i64 b1] W fun e w' => e = .returned (.int .i64 r1) ∧ w' = W) := c1
  have C2 : Hid (∀ W, Calls Tryz.prog 69 #[.int .i64 a2, .int .i64 b2] W fun e w' => e = .returned (.int .i64 r2) ∧ w' = W) := c2
  have C4 : Hid (∀ g W, W.cell? ⟨g, 0, none⟩ = some (.int .i64 r1) → W.cell? ⟨g, 1, none⟩ = some (.int .i64 r2) → Calls Tryz.prog 68 #[.slice (some ⟨g, 0, none⟩) 2 2] W fun e w' => e = .returned (.int .i64 r) ∧ w' = W) := c4
  clear c1 c2 c4
  go_enter Tryz.func43, Tryz.ntmps43
  go_wp2
  rw [← HW2.out]
  clear HW2
  refine wp_region_still_tail 10 (by kernel_rfl) (by kernel_rfl) ?_
  simp only [List.take_succ_cons, List.take_zero, List.drop_succ_cons, List.drop_zero]
  still_step
  still_step
  still_step
  still_step
  still_call (C1.out _)
  still_step
  still_step
  still_step
  still_step
  still_call (C2.out _)
  refine wpStill_nil ?_
  change wpList _ _ _ _ _ (W2.drewN 1)
  have HG3 : Hid (∃ os, W2.drewN 1 = grow (W.drewN 1) os) := by
    obtain ⟨os, h⟩ := HG.out
    exact ⟨os, by rw [h]; rfl⟩
  generalize W2.drewN 1 = W3 at HG3 ⊢
  clear q1 q2 q4 q5
  go_wp2_with (go_at_call 68; refine (C4.out _ _ (by simp) (by simp)).mono ?_; rintro e w' ⟨rfl, rfl⟩)
  go_ret
  obtain ⟨os, h⟩ := HG3.out
  exact ⟨rfl, 1, _, by rw [h, alloc_eq_grow, grow_grow]⟩
theorem grow_drewN (w : World) (os : Array Obj) (n : Nat) : (grow w os).drewN n = grow (w.drewN n) os := rfl
end
section
open Go.Sort
set_option maxRecDepth 10000 in
set_option maxHeartbeats 1000000 in
/-- The closure by which a tag is sought. -/
theorem seek_any (v : Ver) (b : Int × Int) (w : World) : Calls Tryz.prog 65 #[.agg #[.int .i64 v.n, .int .i64 v.who, .int .i64 v.size, .int .i64 v.at_, .string v.text], .agg #[.int .i64 b.1, .int .i64 b.2]] w fun e w' => e = .returned (.int .i64 (tagC (tagOf v) b)) ∧ ∃ q os, w' = grow (w.drewN q) os := by
  obtain ⟨n, who, size, at_, text⟩ := v
  have HC : Hid (∀ W, Calls Tryz.prog 43 #[.agg #[.int .i64 n, .int .i64 who], .agg #[.int .i64 b.1, .int .i64 b.2]] W fun e w' => e = .returned (.int .i64 (tagC (n, who) b)) ∧ ∃ n os, w' = grow (W.drewN n) os) := fun W => compare_any (n, who) b W
  show Calls Tryz.prog 65 #[.agg #[.int .i64 n, .int .i64 who, .int .i64 size, .int .i64 at_, .string text], .agg #[.int .i64 b.1, .int .i64 b.2]] w fun e w' => e = .returned (.int .i64 (tagC (n, who) b)) ∧ ∃ q os, w' = grow (w.drewN q) os
  generalize tagC (n, who) b = c at *
  obtain ⟨b1, b2⟩ := b
  have HG : Hid (∃ os, (w.alloc (.cells #[.int .i64 n, .int .i64 who, .int .i64 size, .int .i64 at_, .string text] 49)).alloc (.cells #[.int .i64 b1, .int .i64 b2] 45) = grow w os) := ⟨_, by rw [alloc_eq_grow, alloc_eq_grow, grow_grow]⟩
  go_enter Tryz.func65, Tryz.ntmps65
  go_wp2_with fail
  refine (HC.out _).mono ?_
  rintro e w2 ⟨rfl, q, os, hw2⟩
  have HE : Hid (∃ q os, w2 = grow (w.drewN q) os) := by
    obtain ⟨os0, h0⟩ := HG.out
    exact ⟨q, os0 ++ os, by rw [hw2, h0, grow_drewN, grow_grow]⟩
  clear hw2 HG
  go_wp2
  go_ret
  exact ⟨rfl, HE.out⟩
end
section
open Go.Sort
/-- Is one there with this tag? -/
def foundV (l : List Ver) (t : Int × Int) : Bool := l.any fun x => decide (tagOf x = t)
theorem verAt_lt {l : List Ver} (hs : l.Pairwise fun x y => lessB (tagOf x) (tagOf y) = true) {i j : Nat} (hij : i < j) (hj : j < l.length) : lessB (tagOf (verAt l i)) (tagOf (verAt l j)) = true := by
  have := List.pairwise_iff_getElem.1 hs i j (by omega) hj hij
  have e : ∀ k (hk : k < l.length), l[k] = verAt l k := fun k hk => by
    have := verAt_get hk
    rw [List.getElem?_eq_getElem hk] at this
    exact Option.some.inj this
  rw [e i (by omega), e j hj] at this
  exact this
theorem placeV_at {l : List Ver} {t : Int × Int} {k : Nat} (hk : k ≤ l.length) (hlo : ∀ j, j < k → lessB (tagOf (verAt l j)) t = true) (hhi : ∀ j, k ≤ j → j < l.length → lessB (tagOf (verAt l j)) t = false) : placeV l t = k := by
  have e : ∀ k (hk : k < l.length), l[k] = verAt l k := fun k hk => by
    have := verAt_get hk
    rw [List.getElem?_eq_getElem hk] at this
    exact Option.some.inj this
  unfold placeV
  rw [← List.take_append_drop k l]
  rw [findIdx_split (fun x hx => ?_) (fun x hx => ?_), List.length_take]
  · omega
  · obtain ⟨j, hj, rfl⟩ := List.getElem_of_mem hx
    rw [List.length_take] at hj
    rw [List.getElem_take, e j (by omega), hlo j (by omega)]
    rfl
  · obtain ⟨j, hj, rfl⟩ := List.getElem_of_mem hx
    rw [List.length_drop] at hj
    rw [List.getElem_drop, e (k + j) (by omega), hhi (k + j) (by omega) (by omega)]
    rfl
theorem foundV_at {l : List Ver} {t : Int × Int} (hs : l.Pairwise fun x y => lessB (tagOf x) (tagOf y) = true) {k : Nat} (hlo : ∀ j, j < k → lessB (tagOf (verAt l j)) t = true) (hhi : ∀ j, k ≤ j → j < l.length → lessB (tagOf (verAt l j)) t = false) : foundV l t = (decide (k < l.length) && decide (tagOf (verAt l k) = t)) := by
  have e : ∀ k (hk : k < l.length), l[k] = verAt l k := fun k hk => by
    have := verAt_get hk
    rw [List.getElem?_eq_getElem hk] at this
    exact Option.some.inj this
  unfold foundV
  rw [Bool.eq_iff_iff]
  simp only [List.any_eq_true, decide_eq_true_eq, Bool.and_eq_true]
  constructor
  · rintro ⟨x, hx, ht⟩
    obtain ⟨j, hj, rfl⟩ := List.getElem_of_mem hx
    rw [e j hj] at ht
    have h1 : k ≤ j := by
      refine Classical.byContradiction fun h => ?_
      have := hlo j (by omega)
      rw [ht, lessB_irrefl] at this
      cases this
    rcases Nat.lt_or_ge k j with h2 | h2
    · have h3 := verAt_lt hs h2 hj
      have h4 := hhi k (Nat.le_refl _) (by omega)
      rw [ht] at h3
      rw [h3] at h4
      cases h4
    · obtain rfl : j = k := by omega
      exact ⟨hj, ht⟩
  · rintro ⟨hk, ht⟩
    exact ⟨l[k], List.getElem_mem hk, by rw [e k hk]; exact ht⟩
set_option maxRecDepth 10000 in
set_option maxHeartbeats 4000000 in
theorem search_any (p : Option Addr) (l : List Ver) (c : Nat) (t : Int × Int) (w : World) (hl : l.length ≤ 1000) (hs : l.Pairwise fun x y => lessB (tagOf x) (tagOf y) = true) (hr : Rec verE w p l) :
    Calls Tryz.prog 64 #[.slice p l.length c, .agg #[.int .i64 t.1, .int .i64 t.2], .func (.func 65) #[] #[]] w fun e w' => e = .returned (.tuple #[.int .i64 ((placeV l t : Nat) : Int), .bool (foundV l t)]) ∧ RowKit.Below w.heap.size w w' := by
  have mixed : Tryz.prog.follows .mixedOrders = true := by kernel_rfl
  have HSK : Hid (∀ (v : Ver) (W : World), Calls Tryz.prog 65 #[.agg #[.int .i64 v.n, .int .i64 v.who, .int .i64 v.size, .int .i64 v.at_, .string v.text], .agg #[.int .i64 t.1, .int .i64 t.2]] W fun e w' => e = .returned (.int .i64 (tagC (tagOf v) t)) ∧ ∃ q os, w' = grow (W.drewN q) os) := fun v W => seek_any v t W
  have HTL : Hid (∀ v : Ver, decide (tagC (tagOf v) t < 0) = lessB (tagOf v) t) := fun v => tagC_lt
  have HTZ : Hid (∀ v : Ver, tagC (tagOf v) t = 0 ↔ tagOf v = t) := fun v => tagC_zero
  have HLT : Hid (∀ i j, i < j → j < l.length → lessB (tagOf (verAt l i)) (tagOf (verAt l j)) = true) := fun i j h1 h2 => verAt_lt hs h1 h2
  have HP : Hid (∀ k, k ≤ l.length → (∀ j, j < k → lessB (tagOf (verAt l j)) t = true) → (∀ j, k ≤ j → j < l.length → lessB (tagOf (verAt l j)) t = false) → placeV l t = k ∧ foundV l t = (decide (k < l.length) && decide (tagOf (verAt l k) = t))) := fun k h1 h2 h3 => ⟨placeV_at h1 h2 h3, foundV_at hs h2 h3⟩
  generalize placeV l t = R1 at *
  generalize foundV l t = R2 at *
  obtain ⟨t1, t2⟩ := t
  obtain ⟨w1, hw1⟩ : ∃ w1, w1 = w.alloc (.cells #[.int .i64 t1, .int .i64 t2] 45) := ⟨_, rfl⟩
  have HW1 : Hid (w1 = w.alloc (.cells #[.int .i64 t1, .int .i64 t2] 45)) := hw1
  have HB1 : Hid (RowKit.Below w.heap.size w w1) := by rw [hw1]; exact (RowKit.Below.refl _ _).alloc (Nat.le_refl _) _
  have hs1 : w.heap.size < w1.heap.size := by rw [hw1]; simp
  have k1 : w1.cell? ⟨w.heap.size, 0, none⟩ = some (.int .i64 t1) := by rw [hw1]; simp
  have k2 : w1.cell? ⟨w.heap.size, 1, none⟩ = some (.int .i64 t2) := by rw [hw1]; simp
  have HALL : Hid (∀ W, RowKit.Below w1.heap.size w1 W → W.cell? ⟨w.heap.size, 0, none⟩ = some (.int .i64 t1) ∧ W.cell? ⟨w.heap.size, 1, none⟩ = some (.int .i64 t2) ∧ Rec verE W p l ∧ RowKit.Below w.heap.size w W) := fun W hW => ⟨(hW.cell (p := ⟨w.heap.size, 0, none⟩) hs1).trans k1, (hW.cell (p := ⟨w.heap.size, 1, none⟩) hs1).trans k2, (hr.below HB1.out).below hW, HB1.out.trans (hW.mono HB1.out.size)⟩
  clear hw1 k1 k2 hr hs HB1
  have HTR : Hid (∀ i j, i ≤ j → j < l.length → lessB (tagOf (verAt l j)) (t1, t2) = true → lessB (tagOf (verAt l i)) (t1, t2) = true) := fun i j h1 h2 h3 => by
    rcases Nat.lt_or_ge i j with h4 | h4
    · exact lessB_trans (HLT.out i j h4 h2) h3
    · obtain rfl : i = j := by omega
      exact h3
  clear HLT
  go_enter Tryz.func64, Tryz.ntmps64
  go_wp2
  rw [← HW1.out]
  clear HW1
  go_loopw [9, 10] (fun a b wq => ∃ lo hi : Nat, lo ≤ hi ∧ hi ≤ l.length ∧ a = .int .i64 lo ∧ b = .int .i64 hi ∧ (∀ j, j < lo → lessB (tagOf (verAt l j)) (t1, t2) = true) ∧ (∀ j, hi ≤ j → j < l.length → lessB (tagOf (verAt l j)) (t1, t2) = false) ∧ RowKit.Below w1.heap.size w1 wq) (fun a b _ => (intOf b).toNat - (intOf a).toNat)
  case atStart => exact ⟨0, l.length, Nat.zero_le _, Nat.le_refl _, rfl, rfl, fun j hj => absurd hj (Nat.not_lt_zero _), fun j h1 h2 => by omega, RowKit.Below.refl _ _⟩
  case round =>
    obtain ⟨lo, hi, hlh, hhl, rfl, rfl, hlo, hhi, hbq⟩ := hrel
    obtain ⟨w2, rfl⟩ : ∃ w2, w2 = wr := ⟨_, rfl⟩
    have HLO : Hid (∀ j, j < lo → lessB (tagOf (verAt l j)) (t1, t2) = true) := hlo
    have HHI : Hid (∀ j, hi ≤ j → j < l.length → lessB (tagOf (verAt l j)) (t1, t2) = false) := hhi
    have HBQ : Hid (RowKit.Below w1.heap.size w1 w2) := hbq
    obtain ⟨q1, q2, hrec, hb0⟩ := HALL.out w2 hbq
    have HREC : Hid (Rec verE w2 p l) := hrec
    have HB0 : Hid (RowKit.Below w.heap.size w w2) := hb0
    clear hlo hhi hbq hrec hb0
    by_cases hlt : lo < hi
    · obtain ⟨M, hM⟩ : ∃ M : Nat, M = (lo + hi) / 2 := ⟨_, rfl⟩
      have hM1 : lo ≤ M := by omega
      have hM2 : M < hi := by omega
      have hMl : M < l.length := by omega
      have hmid : ((lo : Int) + (hi : Int)) / 2 = (M : Int) := by omega
      have hmi : (0 : Int) ≤ (M : Int) := by omega
      have hmx : (M : Int) < (l.length : Int) := by omega
      obtain ⟨b, o, hpp, hblt, c0, c1, c2, c3, c4⟩ := ver_cells HREC.out hMl
      have HT2 := HTL.out (verAt l M)
      have HC : Hid (∀ W, Calls Tryz.prog 65 #[.agg #[.int .i64 (verAt l M).n, .int .i64 (verAt l M).who, .int .i64 (verAt l M).size, .int .i64 (verAt l M).at_, .string (verAt l M).text], .agg #[.int .i64 t1, .int .i64 t2]] W fun e w' => e = .returned (.int .i64 (tagC (tagOf (verAt l M)) (t1, t2))) ∧ ∃ q os, w' = grow (W.drewN q) os) := fun W => HSK.out (verAt l M) W
      subst hpp
      have HNL : Hid (lessB (tagOf (verAt l M)) (t1, t2) = true → ∀ j, j < M + 1 → lessB (tagOf (verAt l j)) (t1, t2) = true) := fun h j hj => HTR.out j M (by omega) hMl h
      have HNH : Hid (lessB (tagOf (verAt l M)) (t1, t2) = false → ∀ j, M ≤ j → j < l.length → lessB (tagOf (verAt l j)) (t1, t2) = false) := fun h j h1 h2 => by
        cases h3 : lessB (tagOf (verAt l j)) (t1, t2)
        · rfl
        · rw [HTR.out M j h1 h2 h3] at h; cases h
      generalize lessB (tagOf (verAt l M)) (t1, t2) = r at *
      generalize tagC (tagOf (verAt l M)) (t1, t2) = cc at *
      generalize verAt l M = y at *
      have j1 := cell_grown (lt_of_cellH q1) q1
      have j2 := cell_grown (lt_of_cellH q2) q2
      have i0 := cell_grown (lt_of_cellH c0) c0
      have i1 := cell_grown (lt_of_cellH c1) c1
      have i2 := cell_grown (lt_of_cellH c2) c2
      have i3 := cell_grown (lt_of_cellH c3) c3
      have i4 := cell_grown (lt_of_cellH c4) c4
      clear hM HSK HTL HTZ HP HALL HTR HREC
      cases r with
      | true =>
        have HN := HNL.out rfl
        have HN1 : Hid (∀ j, j < M + 1 → lessB (tagOf (verAt l j)) (t1, t2) = true) := HN
        clear HN HNL HNH HLO
        go_wp2
        go_quiet_grown ((go_at_call 65; exact Calls.grown_of (HC.out _)))
        go_wp2
        go_roundw
        case rel => exact ⟨M + 1, hi, by omega, hhl, by go_num, rfl, HN1.out, HHI.out, HBQ.out.trans ((below_grow w2 _ _).mono HBQ.out.size)⟩
        case measure => simp [intOf]; omega
      | false =>
        have HN := HNH.out rfl
        have HN1 : Hid (∀ j, M ≤ j → j < l.length → lessB (tagOf (verAt l j)) (t1, t2) = false) := HN
        clear HN HNL HNH HHI
        go_wp2
        go_quiet_grown ((go_at_call 65; exact Calls.grown_of (HC.out _)))
        go_wp2
        go_roundw
        case rel => exact ⟨lo, M, by omega, by omega, rfl, by go_num, HLO.out, HN1.out, HBQ.out.trans ((below_grow w2 _ _).mono HBQ.out.size)⟩
        case measure => simp [intOf]; omega
    · obtain rfl : hi = lo := by omega
      obtain ⟨hR1, hR2⟩ := HP.out hi hhl HLO.out HHI.out
      subst hR1
      have HR2 : Hid (R2 = (decide (R1 < l.length) && decide (tagOf (verAt l R1) = (t1, t2)))) := hR2
      clear hR2 HLO HHI
      by_cases hkl : R1 < l.length
      · have hmi : (0 : Int) ≤ (R1 : Int) := by omega
        have hmx : (R1 : Int) < (l.length : Int) := by omega
        obtain ⟨b, o, hpp, hblt, c0, c1, c2, c3, c4⟩ := ver_cells HREC.out hkl
        have HC : Hid (∀ W, Calls Tryz.prog 65 #[.agg #[.int .i64 (verAt l R1).n, .int .i64 (verAt l R1).who, .int .i64 (verAt l R1).size, .int .i64 (verAt l R1).at_, .string (verAt l R1).text], .agg #[.int .i64 t1, .int .i64 t2]] W fun e w' => e = .returned (.int .i64 (tagC (tagOf (verAt l R1)) (t1, t2))) ∧ ∃ q os, w' = grow (W.drewN q) os) := fun W => HSK.out (verAt l R1) W
        have HZ : Hid (R2 = decide (tagC (tagOf (verAt l R1)) (t1, t2) = 0)) := by
          show _ = _
          rw [HR2.out, decide_eq_true hkl, Bool.true_and]
          exact decide_eq_decide.2 (HTZ.out (verAt l R1)).symm
        subst hpp
        clear HR2
        generalize tagC (tagOf (verAt l R1)) (t1, t2) = cc at *
        generalize verAt l R1 = y at *
        have j1 := cell_grown (lt_of_cellH q1) q1
        have j2 := cell_grown (lt_of_cellH q2) q2
        have i0 := cell_grown (lt_of_cellH c0) c0
        have i1 := cell_grown (lt_of_cellH c1) c1
        have i2 := cell_grown (lt_of_cellH c2) c2
        have i3 := cell_grown (lt_of_cellH c3) c3
        have i4 := cell_grown (lt_of_cellH c4) c4
        clear HSK HTL HTZ HP HALL HTR HREC
        go_wp2
        go_quiet_grown ((go_at_call 65; exact Calls.grown_of (HC.out _)))
        go_wp2
        go_ret2
        exact ⟨by rw [HZ.out]; rfl, HB0.out.trans ((below_grow w2 _ _).mono HB0.out.size)⟩
      · have HZ : Hid (R2 = false) := by show _ = _; rw [HR2.out, decide_eq_false hkl]; rfl
        clear HR2 HSK HTL HTZ HP HALL HTR HREC
        go_wp2
        go_quiet (fail)
        go_wp2
        go_ret2
        exact ⟨by rw [HZ.out]; rfl, HB0.out.trans ⟨rfl, rfl, rfl, Nat.le_refl _, fun _ _ => rfl⟩⟩
set_option maxRecDepth 10000 in
set_option maxHeartbeats 1000000 in
theorem place_any (p : Option Addr) (l : List Ver) (c : Nat) (t : Int × Int) (w : World) (hl : l.length ≤ 1000) (hs : l.Pairwise fun x y => lessB (tagOf x) (tagOf y) = true) (hr : Rec verE w p l) :
    Calls Tryz.prog 39 #[.slice p l.length c, .agg #[.int .i64 t.1, .int .i64 t.2]] w fun e w' => e = .returned (.tuple #[.int .i64 ((placeV l t : Nat) : Int), .bool (foundV l t)]) ∧ RowKit.Below w.heap.size w w' := by
  obtain ⟨t1, t2⟩ := t
  have HB : Hid (RowKit.Below w.heap.size w (w.alloc (.cells #[.int .i64 t1, .int .i64 t2] 45))) := (RowKit.Below.refl _ _).alloc (Nat.le_refl _) _
  have HC : Hid (∀ W, RowKit.Below w.heap.size w W → Calls Tryz.prog 64 #[.slice p l.length c, .agg #[.int .i64 t1, .int .i64 t2], .func (.func 65) #[] #[]] W fun e w' => e = .returned (.tuple #[.int .i64 ((placeV l (t1, t2) : Nat) : Int), .bool (foundV l (t1, t2))]) ∧ RowKit.Below W.heap.size W w') := fun W hW => search_any p l c (t1, t2) W hl hs (hr.below hW)
  clear hs hr
  generalize placeV l (t1, t2) = R1 at *
  generalize foundV l (t1, t2) = R2 at *
  go_enter Tryz.func39, Tryz.ntmps39
  go_wp2_with fail
  refine (HC.out _ HB.out).mono ?_
  rintro e w2 ⟨rfl, hb2⟩
  have HB2 : Hid (RowKit.Below w.heap.size w w2) := HB.out.trans (hb2.mono HB.out.size)
  clear hb2
  go_wp2
  go_ret2
  exact ⟨rfl, HB2.out⟩
end
section
variable {h : Nat} {S : Nat → Prop} {L : List Kep} {s : Bool} {m : Option Nat} {D : DataW Value} {row : ByteArray → Value} {blk : ByteArray → Nat}
theorem bare_sent (ad : Nat → Addr) (i : Nat) (hi : i < 12) : BareIs ad (.iface 206 (.pointer (some (ad i)))) ((i + 1 : Nat) : Int) := Or.inr ⟨i, hi, rfl, rfl⟩
/-- What a call of Put that changes nothing leaves. -/
def PutNot (w : World) (ad : Nat → Addr) (c : Int) (e : Ending) (w' : World) : Prop := (∃ ev, e = .returned ev ∧ BareIs ad ev c) ∧ Below w.heap.size w w'
theorem found_at {L : List Kep} (hs : SortedK L) {key : ByteArray} {x v : Ver} (hx : x ∈ getL L key) (hxt : tagOf x = tagOf v) : placeV (getL L key) (tagOf v) < (getL L key).length ∧ verAt (getL L key) (placeV (getL L key) (tagOf v)) = x := by
  obtain ⟨j, hj, rfl⟩ := List.getElem_of_mem hx
  have e : ∀ k (hk : k < (getL L key).length), (getL L key)[k] = verAt (getL L key) k := fun k hk => by
    have := verAt_get hk
    rw [List.getElem?_eq_getElem hk] at this
    exact Option.some.inj this
  have hss := getL_sorted hs key
  have hp : placeV (getL L key) (tagOf v) = j := by
    refine placeV_at (by omega) (fun i hi => ?_) (fun i hi1 hi2 => ?_)
    · have := verAt_lt hss hi hj
      rw [← e j hj, hxt] at this
      exact this
    · cases hl : lessB (tagOf (verAt (getL L key) i)) (tagOf v)
      · rfl
      · rcases Nat.lt_or_ge j i with h1 | h1
        · have := verAt_lt hss h1 hi2
          rw [← e j hj, hxt] at this
          have h2 := lessB_trans this hl
          rw [lessB_irrefl] at h2
          cases h2
        · obtain rfl : i = j := by omega
          rw [← e i hj, hxt, lessB_irrefl] at hl
          cases hl
  rw [hp]
  exact ⟨hj, (e j hj).symm⟩
theorem foundV_true {l : List Ver} {x : Ver} {t : Int × Int} (hx : x ∈ l) (hxt : tagOf x = t) : foundV l t = true := List.any_eq_true.2 ⟨x, hx, decide_eq_true hxt⟩
theorem foundV_false {l : List Ver} {t : Int × Int} (hn : ∀ x ∈ l, tagOf x ≠ t) : foundV l t = false := by
  unfold foundV
  rw [List.any_eq_false]
  intro x hx
  simpa using hn x hx
/-- Behind Insert, set lays the row into the map. -/
theorem set_after {w w8 w9 : World} (hd : HdAt w h S L false m D row blk) (key : ByteArray) (v : Ver) (hk : isN key = true) (hG : GoodL (putL L key v)) (hb : Below w.heap.size w w8) {v' : Value} (hO : OwnR verE 49 w9 0 v' (insV (getL L key) (placeV (getL L key) (tagOf v)) v)) (hg : w8.grownBy w9 (row key).ownBlock) (hwh : (v'.ownBlock = (row key).ownBlock ∧ (row key).ownBlock ≠ none) ∨ ∃ k, v'.ownBlock = some k ∧ w8.heap.size ≤ k) :
    Calls Tryz.prog 40 #[.pointer (some ⟨h, 0, none⟩), .string key, v'] w9 fun e w' => e = .returned (.tuple #[]) ∧ HdOf w' h (grownS S w w') (putL L key v) false ∧ Upd S (grownS S w w') w w' := by
  have hd8 := hd.below hb
  have hhlt : h < w.heap.size := hd.inS h hd.self
  have hsz := hb.size
  have hrh : some h ≠ (row key).ownBlock := fun e => by
    obtain ⟨_, h2, h3⟩ := hd.rowS e.symm
    exact (hd.inB key h2).2.2.1 h3.symm
  have hblk : w9.heap[h]? = w8.heap[h]? := hg.block h (by omega) hrh
  have q0 := (cell_same hblk 0).1.trans hd8.ptr
  have q1 := (cell_same hblk 1).1.trans hd8.shut
  have f0 := (cell_same hblk 0).2.trans hd8.free0
  have f1 := (cell_same hblk 1).2.trans hd8.free1
  have hksz := isN_size hk
  obtain ⟨p', c', hv', _, _, _, _⟩ := hO.form
  have hpl : placeV (getL L key) (tagOf v) ≤ (getL L key).length := List.findIdx_le_length
  have hlen := insV_length hpl v
  have hgl := getL_le L key
  have hfew := hd.few
  cases hm : m with
  | some b =>
    subst hm
    obtain ⟨hSb, hbh, ⟨n, hown⟩, h4, h5⟩ := hd8.mapS b rfl
    have hrb : some b ≠ (row key).ownBlock := fun e => by
      obtain ⟨_, h2, h3⟩ := hd.rowS e.symm
      exact (hd.inB key h2).2.2.2 b rfl h3.symm
    have hblt : b < w.heap.size := hd.inS b hSb
    have hown9 : OwnM w9 b (Maps.size D) D := (OwnM.tight hown).same (hg.block b (by omega) hrb)
    have hsd := hd.size rfl
    have hc := set_some h b (Maps.size D) D key p' (insV (getL L key) (placeV (getL L key) (tagOf v)) v).length c' w9 (by omega) (by omega) (by omega) q0 hown9 (by unfold maxLen; omega)
    rw [← hv'] at hc
    refine hc.mono fun e w' hpost => ?_
    obtain ⟨he, hset⟩ := hpost
    exact ⟨he, hd.put key v hG hb hO hg hwh (setAt_some hbh q0 q1 f0 f1 hset) (Or.inl rfl) (World.ownsMap.isMap hown) h4 h5⟩
  | none =>
    subst hm
    have hL := hd.nothing rfl
    have hc := set_none h key p' (insV (getL L key) (placeV (getL L key) (tagOf v)) v).length c' w9 (by omega) (by omega) (by omega) q0 f0
    rw [← hv'] at hc
    refine hc.mono fun e w' hpost => ?_
    obtain ⟨he, hset⟩ := hpost
    refine ⟨he, hd.put key v hG hb hO hg hwh (setAt_none q0 q1 f0 f1 hset) (Or.inr ⟨rfl, Nat.le_refl _⟩) Maps.isMap_empty (fun x _ => ?_) (fun x hx => ?_)⟩
    · rw [hL]
      rfl
    · rw [hL] at hx
      exact absurd rfl hx
theorem putR_not {s : Bool} {L : List Kep} {key : ByteArray} {v : Ver} {c : Int} (hc : 0 < c) (he : putErr L s key v = c) : putR L s key v = (c, L) := by unfold putR; rw [he, if_neg (by omega), if_neg (by omega)]
set_option maxRecDepth 10000 in
set_option maxHeartbeats 8000000 in
theorem put_all {s : Bool} {ad : Nat → Addr} {w : World} (hd : HdAt w h S L s m D row blk) (key : ByteArray) (v : Ver) (hk : key.size ≤ maxLen) (ht : v.text.size ≤ maxLen) (hE : HErrs w ad) {Q : Ending → World → Prop} (HN : ∀ c, putR L s key v = (c, L) → ∀ e w', PutNot w ad c e w' → Q e w') (H1 : putR L s key v = (0, putL L key v) → ∀ e w', e = .returned .nilIface ∧ HdOf w' h (grownS S w w') (putL L key v) s ∧ Upd S (grownS S w w') w w' → Q e w') :
    Calls Tryz.prog 16 #[.pointer (some ⟨h, 0, none⟩), .string key, verA v] w Q := by
  obtain ⟨w1, hw1⟩ : ∃ w1, w1 = w.alloc (.cells #[.int .i64 v.n, .int .i64 v.who, .int .i64 v.size, .int .i64 v.at_, .string v.text] 49) := ⟨_, rfl⟩
  have HW1 : Hid (w1 = w.alloc (.cells #[.int .i64 v.n, .int .i64 v.who, .int .i64 v.size, .int .i64 v.at_, .string v.text] 49)) := hw1
  have hb1 : Below w.heap.size w w1 := by rw [hw1]; exact (Below.refl _ _).alloc (Nat.le_refl _) _
  have hs1 : w.heap.size < w1.heap.size := by rw [hw1]; simp
  have b0 : w1.cell? ⟨w.heap.size, 0, none⟩ = some (.int .i64 v.n) := by rw [hw1]; simp
  have b1 : w1.cell? ⟨w.heap.size, 1, none⟩ = some (.int .i64 v.who) := by rw [hw1]; simp
  have b2 : w1.cell? ⟨w.heap.size, 2, none⟩ = some (.int .i64 v.size) := by rw [hw1]; simp
  have b3 : w1.cell? ⟨w.heap.size, 3, none⟩ = some (.int .i64 v.at_) := by rw [hw1]; simp
  have b4 : w1.cell? ⟨w.heap.size, 4, none⟩ = some (.string v.text) := by rw [hw1]; simp
  have HSE : Hid (Calls Tryz.prog 12 #[.pointer (some ⟨h, 0, none⟩)] w1 fun e w' => e = .returned (.bool s) ∧ w' = w1) := sealed_any (hd.below hb1)
  have HALL : Hid (∀ W, Below w1.heap.size w1 W → (W.cell? ⟨w.heap.size, 0, none⟩ = some (.int .i64 v.n) ∧ W.cell? ⟨w.heap.size, 1, none⟩ = some (.int .i64 v.who) ∧ W.cell? ⟨w.heap.size, 2, none⟩ = some (.int .i64 v.size) ∧ W.cell? ⟨w.heap.size, 3, none⟩ = some (.int .i64 v.at_) ∧ W.cell? ⟨w.heap.size, 4, none⟩ = some (.string v.text)) ∧ HErrs W ad ∧ HdAt W h S L s m D row blk ∧ Below w.heap.size w W) := fun W hW => ⟨⟨(hW.cell (p := ⟨w.heap.size, 0, none⟩) hs1).trans b0, (hW.cell (p := ⟨w.heap.size, 1, none⟩) hs1).trans b1, (hW.cell (p := ⟨w.heap.size, 2, none⟩) hs1).trans b2, (hW.cell (p := ⟨w.heap.size, 3, none⟩) hs1).trans b3, (hW.cell (p := ⟨w.heap.size, 4, none⟩) hs1).trans b4⟩, (hE.below hb1).below hW, (hd.below hb1).below hW, hb1.trans (hW.mono hb1.size)⟩
  have HCK : Hid (∀ W, Calls Tryz.prog 36 #[.string key] W fun e w' => e = .returned (.bool (isN key)) ∧ Below W.heap.size W w') := fun W => pname_any key W
  have HIB : Hid (∀ W, Calls Tryz.prog 37 #[.agg #[.int .i64 v.n, .int .i64 v.who, .int .i64 v.size, .int .i64 v.at_, .string v.text]] W fun e w' => e = .returned (.bool (verOk v)) ∧ Below W.heap.size W w') := fun W => inBounds_any v W ht
  have HB0 : Hid (Below w.heap.size w w1) := hb1
  have HNH : Hid (∀ c, putR L s key v = (c, L) → ∀ e w', PutNot w ad c e w' → Q e w') := HN
  have HHI : Hid (putR L s key v = (0, putL L key v) → ∀ e w', e = .returned .nilIface ∧ HdOf w' h (grownS S w w') (putL L key v) s ∧ Upd S (grownS S w w') w w' → Q e w') := H1
  clear hw1 hb1 b0 b1 b2 b3 b4 HN H1
  show Calls Tryz.prog 16 #[.pointer (some ⟨h, 0, none⟩), .string key, .agg #[.int .i64 v.n, .int .i64 v.who, .int .i64 v.size, .int .i64 v.at_, .string v.text]] w _
  go_enter Tryz.func16, Tryz.ntmps16
  go_wp2_with fail
  rw [← HW1.out]
  refine HSE.out.mono ?_
  rintro e w0 ⟨rfl, hw0⟩
  rw [hw0]
  clear hw0 w0 HSE HW1
  cases s with
  | true =>
    have q9 := (HALL.out w1 (Below.refl _ _)).2.1.c9
    have HQ : Hid (∀ e w', PutNot w ad 10 e w' → Q e w') := HNH.out 10 (putR_not (by decide) (if_pos rfl))
    clear HIB HCK HNH HHI HALL
    go_wp2
    exact HQ.out _ _ ⟨⟨_, rfl, bare_sent ad 9 (by decide)⟩, HB0.out⟩
  | false =>
    go_wp2_with fail
    refine (HCK.out _).mono ?_
    rintro e w3 ⟨rfl, hb3⟩
    have hb13 : Below w1.heap.size w1 w3 := hb3
    obtain ⟨⟨c0, c1, c2, c3, c4⟩, he3, hd3, hbw3⟩ := HALL.out w3 hb13
    clear hb3
    cases hN : isN key with
    | false =>
      have q3 := he3.c3
      have HBW3 : Hid (Below w.heap.size w w3) := hbw3
      have HQ : Hid (∀ e w', PutNot w ad 4 e w' → Q e w') := HNH.out 4 (putR_not (by decide) (by unfold putErr; rw [if_neg (by decide), if_neg (by rw [hN]; decide)]))
      clear hb13 he3 hd3 hbw3 c0 c1 c2 c3 c4 HIB HCK HNH HHI HALL
      go_wp2
      exact HQ.out _ _ ⟨⟨_, rfl, bare_sent ad 3 (by decide)⟩, HBW3.out⟩
    | true =>
      go_wp2_with fail
      refine (HIB.out _).mono ?_
      rintro e w4 ⟨rfl, hb4⟩
      have hb14 : Below w1.heap.size w1 w4 := hb13.trans (hb4.mono hb13.size)
      obtain ⟨⟨d0, d1, d2, d3, d4⟩, he4, hd4, hbw4⟩ := HALL.out w4 hb14
      clear hb4 hb13 c0 c1 c2 c3 c4 he3 hd3 hbw3 HIB
      cases hV : verOk v with
      | false =>
        have q1 := he4.c1
        have HBW4 : Hid (Below w.heap.size w w4) := hbw4
        have HQ : Hid (∀ e w', PutNot w ad 2 e w' → Q e w') := HNH.out 2 (putR_not (by decide) (by unfold putErr; rw [if_neg (by decide), if_pos hN, if_neg (by rw [hV]; decide)]))
        clear hb14 d0 d1 d2 d3 d4 he4 hd4 hbw4 HCK HNH HHI HALL
        go_wp2
        exact HQ.out _ _ ⟨⟨_, rfl, bare_sent ad 1 (by decide)⟩, HBW4.out⟩
      | true =>
        have hpe : putErr L false key v = putScan L key v 0 L.length := by unfold putErr; rw [if_neg (by decide), if_pos hN, if_pos hV]
        have HOF : Hid (Calls Tryz.prog 38 #[.pointer (some ⟨h, 0, none⟩), .string key] w4 fun e w' => e = .returned (row key) ∧ w' = w4) := of_any hd4 key hk
        obtain ⟨p, c, hrow, hrec, hlc, hpn, hpb⟩ := hd4.form key
        have HPL : Hid (Calls Tryz.prog 39 #[.slice p (getL L key).length c, .agg #[.int .i64 v.n, .int .i64 v.who]] w4 fun e w' => e = .returned (.tuple #[.int .i64 ((placeV (getL L key) (tagOf v) : Nat) : Int), .bool (foundV (getL L key) (tagOf v))]) ∧ Below w4.heap.size w4 w') := place_any p (getL L key) c (tagOf v) w4 (by have := getL_le L key; have := hd.few; omega) (getL_sorted hd.sorted key) hrec
        have HROW : Hid (row key = .slice p (getL L key).length c) := hrow
        rw [hrow] at HOF
        go_wp2_with fail
        refine HOF.out.mono ?_
        rintro e w0 ⟨rfl, hw0⟩
        rw [hw0]
        clear hw0 w0 HOF
        go_wp2_with fail
        refine HPL.out.mono ?_
        rintro e w5 ⟨rfl, hb5⟩
        have hb15 : Below w1.heap.size w1 w5 := hb14.trans (hb5.mono hb14.size)
        have HREC5 : Hid (Rec verE w5 p (getL L key)) := hrec.below hb5
        obtain ⟨⟨f0, f1, f2, f3, f4⟩, he5, hd5, hbw5⟩ := HALL.out w5 hb15
        have HD5 : Hid (HdAt w5 h S L false m D row blk) := hd5
        have HB15 : Hid (Below w1.heap.size w1 w5) := hb15
        have HBW5 : Hid (Below w.heap.size w w5) := hbw5
        clear hb5 hb14 hb15 d0 d1 d2 d3 d4 he4 hd4 hbw4 HPL hrow hrec hpn hpb hd5 hbw5 hlc
        have hfew : (getL L key).length ≤ 60 := Nat.le_trans (getL_le _ _) hd.few
        by_cases hx : ∃ x ∈ getL L key, tagOf x = tagOf v
        · obtain ⟨x, hx, hxt⟩ := hx
          have hsc := putScan_there hd.sorted hx hxt
          have hlt2 : placeV (getL L key) (tagOf v) < (getL L key).length := (found_at hd.sorted hx hxt).1
          obtain ⟨bb, oo, hpp, hblt, g0, g1, g2, g3, g4⟩ := ver_cells HREC5.out hlt2
          rw [(found_at hd.sorted hx hxt).2] at g0 g1 g2 g3 g4
          rw [foundV_true hx hxt]
          subst hpp
          by_cases hxv : x = v
          · have HQ : Hid (∀ e w', PutNot w ad 0 e w' → Q e w') := HNH.out 0 (by unfold putR; rw [hpe, hsc, if_pos hxv, if_neg (by decide), if_pos (by decide)])
            clear HNH HHI hsc hpe
            generalize placeV (getL L key) (tagOf v) = K at *
            generalize (getL L key).length = n at *
            have hi0 : (0 : Int) ≤ (K : Int) := by omega
            have hi1 : (K : Int) < (n : Int) := by omega
            clear he5 HREC5 HROW HD5 hd HALL HB15
            subst hxv
            clear hx hxt
            obtain ⟨xn, xw, xs, xa, xt⟩ := x
            go_wp2
            go_quiet (fail)
            go_wp2
            exact HQ.out _ _ ⟨⟨_, rfl, Or.inl ⟨rfl, rfl⟩⟩, HBW5.out.trans ⟨rfl, rfl, rfl, Nat.le_refl _, fun _ _ => rfl⟩⟩
          · have HQ : Hid (∀ e w', PutNot w ad 6 e w' → Q e w') := HNH.out 6 (putR_not (by decide) (by rw [hpe, hsc, if_neg hxv]))
            clear HNH HHI hsc hpe
            generalize placeV (getL L key) (tagOf v) = K at *
            generalize (getL L key).length = n at *
            have hi0 : (0 : Int) ≤ (K : Int) := by omega
            have hi1 : (K : Int) < (n : Int) := by omega
            have q5 := he5.c5
            clear he5 HREC5 HROW HD5 hd HALL HB15
            obtain ⟨xn, xw, xs, xa, xt⟩ := x
            obtain ⟨yn, yw, ys, ya, yt⟩ := v
            have hnw : xn = yn ∧ xw = yw := by simpa [tagOf] using hxt
            obtain ⟨rfl, rfl⟩ := hnw
            have walk : ((xs == ys) = false) ∨ xs = ys ∧ (((xa == ya) = false) ∨ xa = ya ∧ xt ≠ yt) := by
              by_cases h3 : xs = ys
              · refine Or.inr ⟨h3, ?_⟩
                by_cases h4 : xa = ya
                · refine Or.inr ⟨h4, fun h5 => hxv (by rw [h3, h4, h5])⟩
                · exact Or.inl (beq_eq_false_iff_ne.2 h4)
              · exact Or.inl (beq_eq_false_iff_ne.2 h3)
            clear hxv hx hxt
            rcases walk with g | ⟨rfl, g | ⟨rfl, g⟩⟩
            rotate_right
            · have d1 := toList_ne g
              have d2 := toList_beq g
              have d3 := bytes_beq g
              clear g
              go_wp2
              go_quiet (fail)
              go_wp2
              exact HQ.out _ _ ⟨⟨_, rfl, bare_sent ad 5 (by decide)⟩, HBW5.out.trans ⟨rfl, rfl, rfl, Nat.le_refl _, fun _ _ => rfl⟩⟩
            all_goals
              go_wp2
              go_quiet (fail)
              go_wp2
              exact HQ.out _ _ ⟨⟨_, rfl, bare_sent ad 5 (by decide)⟩, HBW5.out.trans ⟨rfl, rfl, rfl, Nat.le_refl _, fun _ _ => rfl⟩⟩
        · have hn : ∀ x ∈ getL L key, tagOf x ≠ tagOf v := fun x h1 h2 => hx ⟨x, h1, h2⟩
          have hsc := putScan_none hn L.length 0 (by omega)
          clear hx
          rw [foundV_false hn]
          by_cases hF : 60 ≤ L.length
          · have HQ : Hid (∀ e w', PutNot w ad 7 e w' → Q e w') := HNH.out 7 (putR_not (by decide) (by rw [hpe, hsc, if_pos hF]))
            clear HNH HHI hsc hpe
            have HCN : Hid (∀ W, Below w5.heap.size w5 W → Calls Tryz.prog 11 #[.pointer (some ⟨h, 0, none⟩)] W fun e w' => e = .returned (.int .i64 (L.length : Int)) ∧ Below W.heap.size W w') := fun W hW => count_any (HD5.out.below hW)
            have HE5 : Hid (HErrs w5 ad) := he5
            generalize placeV (getL L key) (tagOf v) = K at *
            generalize (getL L key).length = n at *
            have hc60 : (60 : Int) ≤ (L.length : Int) := by omega
            clear he5 HREC5 HROW HD5 hd HALL HB15 hF hn
            generalize L.length = N at *
            go_wp2
            go_quiet (fail)
            go_wp2_with fail
            refine (HCN.out (w5.drewN nq) ⟨rfl, rfl, rfl, Nat.le_refl _, fun _ _ => rfl⟩).mono ?_
            rintro e w6 ⟨rfl, hb6⟩
            have hb56 : Below w5.heap.size w5 w6 := ⟨hb6.os, hb6.tape, hb6.output, hb6.size, hb6.block⟩
            have q6 := (HE5.out.below hb56).c6
            have HB6 : Hid (Below w.heap.size w w6) := HBW5.out.trans (hb56.mono HBW5.out.size)
            clear hb6 hb56
            go_wp2
            exact HQ.out _ _ ⟨⟨_, rfl, bare_sent ad 6 (by decide)⟩, HB6.out⟩
          · have h0 : putErr L false key v = 0 := by rw [hpe, hsc, if_neg hF]
            have HQ : Hid (∀ e w', e = .returned .nilIface ∧ HdOf w' h (grownS S w w') (putL L key v) false ∧ Upd S (grownS S w w') w w' → Q e w') := HHI.out (by unfold putR; rw [if_pos h0])
            have hG : GoodL (putL L key v) := (GoodL.put (⟨hd.sorted, hd.few, hd.fits⟩ : GoodL L) h0).1
            replace hF : L.length < 60 := by omega
            clear HNH HHI hsc hpe h0
            have HCN : Hid (∀ W, Below w5.heap.size w5 W → Calls Tryz.prog 11 #[.pointer (some ⟨h, 0, none⟩)] W fun e w' => e = .returned (.int .i64 (L.length : Int)) ∧ Below W.heap.size W w') := fun W hW => count_any (HD5.out.below hW)
            have hlt60 : ¬ (60 : Int) ≤ (L.length : Int) := by omega
            have hpl : placeV (getL L key) (tagOf v) ≤ (getL L key).length := List.findIdx_le_length
            have HIN : Hid (∀ w7, Below w5.heap.size w5 w7 → Calls Tryz.prog 41 #[.slice p (getL L key).length c, .int .i64 ((placeV (getL L key) (tagOf v) : Nat) : Int), .slice (some ⟨w7.heap.size, 0, none⟩) 1 1] (w7.alloc (.cells #[.int .i64 v.n, .int .i64 v.who, .int .i64 v.size, .int .i64 v.at_, .string v.text] 49)) fun e w' => InsOk (w7.alloc (.cells #[.int .i64 v.n, .int .i64 v.who, .int .i64 v.size, .int .i64 v.at_, .string v.text] 49)) w' (.slice p (getL L key).length c) (getL L key) (placeV (getL L key) (tagOf v)) v e) := fun w7 hb7 => by
              have hd8 := (HD5.out.below hb7).below ((Below.refl _ _).alloc (Nat.le_refl _) (.cells #[.int .i64 v.n, .int .i64 v.who, .int .i64 v.size, .int .i64 v.at_, .string v.text] 49))
              have hO := hd8.own key
              rw [HROW.out] at hO
              refine insert_any _ (getL L key) _ v w7.heap.size 1 #[.int .i64 v.n, .int .i64 v.who, .int .i64 v.size, .int .i64 v.at_, .string v.text] 49 _ (by omega) hpl hO (fun j u hj => ?_) (fun k hk e => ?_) (heap_alloc_new _ _)
              · rw [World.cell?_alloc_at _ _ _ _ rfl]
                match j, hj with
                | 0, hj => exact hj
                | 1, hj => exact hj
                | 2, hj => exact hj
                | 3, hj => exact hj
                | 4, hj => exact hj
              · rw [← HROW.out] at hk
                have h1 := HD5.out.inS k (HD5.out.rowS hk).1
                have h2 := hb7.size
                omega
            have HSA : Hid (∀ w8 w9 v', Below w5.heap.size w5 w8 → OwnR verE 49 w9 0 v' (insV (getL L key) (placeV (getL L key) (tagOf v)) v) → w8.grownBy w9 (Value.slice p (getL L key).length c).ownBlock → ((v'.ownBlock = (Value.slice p (getL L key).length c).ownBlock ∧ (Value.slice p (getL L key).length c).ownBlock ≠ none) ∨ ∃ k, v'.ownBlock = some k ∧ w8.heap.size ≤ k) → Calls Tryz.prog 40 #[.pointer (some ⟨h, 0, none⟩), .string key, v'] w9 fun e w' => e = .returned (.tuple #[]) ∧ HdOf w' h (grownS S w w') (putL L key v) false ∧ Upd S (grownS S w w') w w') := fun w8 w9 v' h1 h2 h3 h4 => set_after hd key v hN hG (HBW5.out.trans (h1.mono HBW5.out.size)) h2 (by rw [HROW.out]; exact h3) (by rw [HROW.out]; exact h4)
            have HCP : Hid (∀ W, Calls Tryz.prog 42 #[.agg #[.int .i64 v.n, .int .i64 v.who, .int .i64 v.size, .int .i64 v.at_, .string v.text]] W fun e w' => e = .returned (.agg #[.int .i64 v.n, .int .i64 v.who, .int .i64 v.size, .int .i64 v.at_, .string v.text]) ∧ Below W.heap.size W w') := fun W => copied_any v W (by have := verOk_text hV; omega)
            have HC5 : Hid (∀ W, Below w5.heap.size w5 W → W.cell? ⟨w.heap.size, 0, none⟩ = some (.int .i64 v.n) ∧ W.cell? ⟨w.heap.size, 1, none⟩ = some (.int .i64 v.who) ∧ W.cell? ⟨w.heap.size, 2, none⟩ = some (.int .i64 v.size) ∧ W.cell? ⟨w.heap.size, 3, none⟩ = some (.int .i64 v.at_) ∧ W.cell? ⟨w.heap.size, 4, none⟩ = some (.string v.text)) := fun W hW => (HALL.out W (HB15.out.trans (hW.mono HB15.out.size))).1
            generalize placeV (getL L key) (tagOf v) = K at *
            clear hG he5 HREC5 HROW HD5 hd HALL HB15 hn hpl hF
            generalize L.length = N at *
            go_wp2
            go_quiet (fail)
            go_wp2_with fail
            refine (HCN.out (w5.drewN nq) ⟨rfl, rfl, rfl, Nat.le_refl _, fun _ _ => rfl⟩).mono ?_
            rintro e w6 ⟨rfl, hb6⟩
            have hb56 : Below w5.heap.size w5 w6 := ⟨hb6.os, hb6.tape, hb6.output, hb6.size, hb6.block⟩
            obtain ⟨k0, k1, k2, k3, k4⟩ := HC5.out w6 hb56
            have HB56 : Hid (Below w5.heap.size w5 w6) := hb56
            clear hb6 hb56 f0 f1 f2 f3 f4 HCN
            go_wp2_with fail
            refine (HCP.out _).mono ?_
            rintro e w7 ⟨rfl, hb7⟩
            have HB57 : Hid (Below w5.heap.size w5 w7) := HB56.out.trans (hb7.mono HB56.out.size)
            clear hb7 k0 k1 k2 k3 k4 HCP
            go_wp2_with fail
            refine (HIN.out w7 HB57.out).mono ?_
            rintro e w9 ⟨v', rfl, hO9, hg9, hwh9⟩
            have HO9 := HSA.out (w7.alloc (.cells #[.int .i64 v.n, .int .i64 v.who, .int .i64 v.size, .int .i64 v.at_, .string v.text] 49)) w9 v' (HB57.out.alloc HB57.out.size _) hO9 hg9 hwh9
            have HO10 : Hid (Calls Tryz.prog 40 #[.pointer (some ⟨h, 0, none⟩), .string key, v'] w9 fun e w' => e = .returned (.tuple #[]) ∧ HdOf w' h (grownS S w w') (putL L key v) false ∧ Upd S (grownS S w w') w w') := HO9
            clear HO9 hO9 hg9 hwh9 HSA HIN
            go_wp2_with fail
            refine HO10.out.mono ?_
            rintro e w10 ⟨rfl, hH⟩
            have HH : Hid (HdOf w10 h (grownS S w w10) (putL L key v) false ∧ Upd S (grownS S w w10) w w10) := hH
            clear hH
            go_wp2
            exact HQ.out _ _ ⟨rfl, HH.out⟩
/-- Put, whatever it is given. -/
theorem put_any {ad : Nat → Addr} {w : World} (hd : HdOf w h S L s) (key : ByteArray) (v : Ver) (hk : key.size ≤ maxLen) (ht : v.text.size ≤ maxLen) (hE : HErrs w ad) :
    Calls Tryz.prog 16 #[.pointer (some ⟨h, 0, none⟩), .string key, verA v] w fun e w' => (∃ ev, e = .returned ev ∧ BareIs ad ev (putR L s key v).1) ∧ ∃ S', HdOf w' h S' (putR L s key v).2 s ∧ Upd S S' w w' := by
  obtain ⟨m, D, row, blk, hda⟩ := id hd
  exact put_all hda key v hk ht hE (fun c e1 e w' hp => by rw [e1]; exact ⟨hp.1, S, hd.below hp.2, Upd.of_below hp.2⟩) (fun e1 e w' hp => by rw [e1]; exact ⟨⟨_, hp.1, Or.inl ⟨rfl, rfl⟩⟩, _, hp.2⟩)
end
end Go.Proofs.YtmbpfbhpmafheaaGreatDoor
