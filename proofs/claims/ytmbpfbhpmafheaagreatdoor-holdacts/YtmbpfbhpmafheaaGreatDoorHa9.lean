/- Texts laid together. -/
import Derived.Test.YtmbpfbhpmafheaaGreatDoorHa7
import Derived.Sort.OwnSorted
namespace Go.Proofs.YtmbpfbhpmafheaaGreatDoor
open Go.RowKit
section
variable {h : Nat} {S : Nat → Prop} {L : List Kep} {s : Bool} {m : Option Nat} {D : DataW Value} {row : ByteArray → Value} {blk : ByteArray → Nat}
set_option maxRecDepth 10000 in
set_option maxHeartbeats 1600000 in
/-- A key without versions goes out of the map. -/
theorem set_del (h b n : Nat) (D : DataW Value) (key : ByteArray) (p : Option Addr) (c : Nat) (w : World) (hk : key.size ≤ maxLen) (q0 : w.cell? ⟨h, 0, none⟩ = some (.map (some b))) (hown : OwnM w b n D) :
    Calls Tryz.prog 40 #[.pointer (some ⟨h, 0, none⟩), .string key, .slice p 0 c] w fun e w' => e = .returned (.tuple #[]) ∧ (∃ n, OwnM w' b n (D.del (litK key))) ∧ w.grownBy w' (some b) := by
  go_enter Tryz.func40, Tryz.ntmps40
  go_wp2_with (at_delete; refine wpList_delete_own _ rfl _ _ 37 9 rfl 57 keyedK Tryz.underlying37 anyR b n D rfl hown (.string key) (litK key) rfl (keyOfK hk) ?_; intro w2 hown2 hturn2; go_frame)
  try simp only [Exit.inBlock, Exit.then]
  refine bodyPost_ret (results_none rfl _ _ _) rfl ?_
  exact ⟨rfl, ⟨_, hown2⟩, hturn2.grown⟩
/-- A key's versions are gone: the hold holds L'. -/
theorem HdAt.del {w w2 w3 : World} {b : Nat} (hd : HdAt w h S L s (some b) D row blk) (key : ByteArray) {L' : List Kep} (hG : GoodL L') (hnk : getL L' key = []) (hot : ∀ x, x ≠ key → getL L' x = getL L x) (hb : Below w.heap.size w w2) (hown : ∃ n, OwnM w3 b n (D.del (litK key))) (hg : w2.grownBy w3 (some b)) :
    HdOf w3 h (grownS S w w3) L' s ∧ Upd S (grownS S w w3) w w3 := by
  have hsz1 := hb.size
  have hsz2 := hg.size
  have hS1 : ∀ k, S k → k < w.heap.size := hd.inS
  obtain ⟨hSb, hbh, _, h4, h5⟩ := hd.mapS b rfl
  have hhlt := hS1 h hd.self
  have hblk : ∀ k, k < w.heap.size → k ≠ b → w3.heap[k]? = w.heap[k]? := fun k hk hne => by
    rw [hg.block k (by omega) (fun e => hne (Option.some.inj e))]
    exact hb.block k hk
  have hh := hblk h hhlt (Ne.symm hbh)
  refine ⟨⟨some b, D.del (litK key), fun x => if x = key then .slice none 0 0 else row x, blk, ?_⟩, ⟨hg.os.trans hb.os, hg.tape.trans hb.tape, hg.output.trans hb.output, by omega, fun k hk hn => hblk k hk (fun e => hn (e ▸ hSb)), fun k hk => hk.2⟩⟩
  have hne : ∀ x, getL L' x ≠ [] → x ≠ key := fun x hx e => hx (e ▸ hnk)
  refine ⟨hG.sorted, hG.few, hG.fits, fun k hk => hk.1, ⟨by omega, Or.inl hd.self⟩, (cell_same hh 0).1.trans hd.ptr, (cell_same hh 1).1.trans hd.shut, (cell_same hh 0).2.trans hd.free0, (cell_same hh 1).2.trans hd.free1, (fun e => by cases e), fun b0 hb0 => ?_, fun x => ?_, fun x hx => ?_, fun x hx => ?_, fun x y hx hy hxy => ?_⟩
  · injection hb0 with hb0
    subst hb0
    have := hS1 b hSb
    refine ⟨⟨by omega, Or.inl hSb⟩, hbh, hown, fun x hx => ?_, fun x hx z => ?_⟩
    · by_cases e : x = key
      · subst e
        rw [Maps.has_del_same]
        simp [hnk]
      · rw [Maps.has_del_other (fun e2 => e (litK_inj e2)), h4 x hx, hot x e]
    · have e := hne x hx
      rw [Maps.atKey_del_other (fun e2 => e (litK_inj e2)), if_neg e]
      exact h5 x (by rw [← hot x e]; exact hx) z
  · show OwnR verE _ w3 0 (if x = key then .slice none 0 0 else row x) _
    by_cases e : x = key
    · subst e
      rw [if_pos rfl, hnk]
      exact OwnR.nil _ _ _
    · rw [if_neg e, hot x e]
      refine (hd.own x).same fun k hk => ?_
      obtain ⟨h1, h2, h3⟩ := hd.rowS hk
      exact hblk k (hS1 k h1) (by rw [h3]; exact (hd.inB x h2).2.2.2 b rfl)
  · show (if x = key then _ else row x) = _
    by_cases e : x = key
    · rw [if_pos e]
    · rw [if_neg e]
      exact hd.nilrow x (by rw [← hot x e]; exact hx)
  · have e := hne x hx
    show (if x = key then _ else row x).ownBlock = _ ∧ _
    rw [if_neg e]
    rw [hot x e] at hx
    obtain ⟨h1, h2, h3, h4⟩ := hd.inB x hx
    have := hS1 _ h2
    exact ⟨h1, ⟨by omega, Or.inl h2⟩, h3, h4⟩
  · have ex := hne x hx
    have ey := hne y hy
    exact hd.apart x y (by rw [← hot x ex]; exact hx) (by rw [← hot y ey]; exact hy) hxy
/-- Behind Clone, set lays what is left. -/
theorem set_trim {w w2 : World} {b : Nat} (hd : HdAt w h S L s (some b) D row blk) (key : ByteArray) (hk : key.size ≤ maxLen) (hk2 : getL L key ≠ []) (g : Nat) (hb : Below w.heap.size w w2) {v' : Value} (hO : OwnR verE 49 w2 w.heap.size v' ((getL L key).drop g)) :
    Calls Tryz.prog 40 #[.pointer (some ⟨h, 0, none⟩), .string key, v'] w2 fun e w' => e = .returned (.tuple #[]) ∧ HdOf w' h (grownS S w w') (trimGo key g L) s ∧ Upd S (grownS S w w') w w' := by
  have hd2 := hd.below hb
  obtain ⟨hSb, hbh, ⟨n, hown⟩, h4, h5⟩ := hd2.mapS b rfl
  have hG : GoodL (trimGo key g L) := GoodL.trim ⟨hd.sorted, hd.few, hd.fits⟩ key g
  have hgk := getL_trim key L g
  have hot : ∀ x, x ≠ key → getL (trimGo key g L) x = getL L x := fun x hx => getL_trim_other hx L g
  have hks : key.size ≤ 16 := by
    obtain ⟨x, hx⟩ := List.exists_mem_of_ne_nil _ hk2
    exact (isN_size (hd.fits _ (mem_getL.1 hx)).1).2
  obtain ⟨p', c', hv', _, _, hpn, hpb⟩ := hO.form
  have hgl := getL_le L key
  have hfew := hd.few
  by_cases hz : ((getL L key).drop g).length = 0
  · have hc := set_del h b n D key p' c' w2 hk hd2.ptr hown
    rw [hz] at hv'
    rw [← hv'] at hc
    refine hc.mono fun e w' hpost => ?_
    obtain ⟨he, hdel, hgr⟩ := hpost
    exact ⟨he, hd.del key hG (by rw [hgk]; exact List.length_eq_zero_iff.1 hz) hot hb hdel hgr⟩
  · have hsd := hd.size rfl
    have hc := set_some h b (Maps.size D) D key p' ((getL L key).drop g).length c' w2 (by omega) (by omega) (by rw [List.length_drop]; omega) hd2.ptr (OwnM.tight hown) (by unfold maxLen; omega)
    rw [← hv'] at hc
    refine hc.mono fun e w' hpost => ?_
    obtain ⟨he, hset⟩ := hpost
    refine ⟨he, hd.repl key hG (by rw [hgk]; exact fun e => hz (by rw [e]; rfl)) hot (Below.refl _ _) (w2 := w2) (by rw [hgk]; exact hO.base (Nat.zero_le _)) ⟨hb.os, hb.tape, hb.output, hb.size, fun k hk _ => hb.block k hk⟩ (Or.inr ?_) (setAt_some hbh hd2.ptr hd2.shut hd2.free0 hd2.free1 hset) (Or.inl rfl) (World.ownsMap.isMap hown) h4 h5⟩
    cases hvb : v'.ownBlock with
    | some k => exact ⟨k, rfl, (hO.block hvb).1⟩
    | none =>
      exfalso
      rw [hv'] at hvb
      cases p' with
      | none => exact hz (by rw [(hpn rfl).1]; rfl)
      | some a => simp [Value.ownBlock] at hvb
set_option maxRecDepth 10000 in
set_option maxHeartbeats 1600000 in
theorem trim_none {w : World} (hd : HdAt w h S L s m D row blk) (key : ByteArray) (n : Int) (hk : key.size ≤ maxLen) (h0 : 0 ≤ n) (h1 : n ≤ 9223372036854775807) (hg : goneN L key n = 0) :
    Calls Tryz.prog 27 #[.pointer (some ⟨h, 0, none⟩), .string key, .int .i64 n] w fun e w' => e = .returned (.tuple #[.int .i64 0, .nilIface]) ∧ w' = w := by
  have HOF : Hid (Calls Tryz.prog 38 #[.pointer (some ⟨h, 0, none⟩), .string key] w fun e w' => e = .returned (row key) ∧ w' = w) := of_any hd key hk
  obtain ⟨p, c, hrow, _, _, _, _⟩ := hd.form key
  have hl : (getL L key).length ≤ 60 := Nat.le_trans (getL_le _ _) hd.few
  unfold goneN at hg
  rw [hrow] at HOF
  clear hd hrow
  generalize (getL L key).length = len at *
  have d0 : decide (n < 0) = false := decide_eq_false (by omega)
  have d1 : wrap64 ((len : Int) - n) = (len : Int) - n := by unfold wrap64; omega
  have d2 : IntKind.i64.wrap ((len : Int) - n) = (len : Int) - n := by rw [IntKind.wrap_i64]; omega
  have d3 : ¬ (0 : Int) < (len : Int) - n := by omega
  have d4 : decide ((0 : Int) < (len : Int) - n) = false := decide_eq_false d3
  have d5 : max (0 : Int) ((len : Int) - n) = 0 := by omega
  clear hg
  go_enter Tryz.func27, Tryz.ntmps27
  go_wp2_with fail
  refine HOF.out.mono ?_
  rintro e w1 ⟨rfl, hw1⟩
  rw [hw1]
  clear hw1 w1 HOF
  go_wp2
  go_ret2
  exact ⟨rfl, rfl⟩
theorem vclone_any (gb off c : Nat) (l : List Ver) (w : World) (hl : l.length ≤ 1000) (hc : ∀ j u, (recVals verE l)[j]? = some u → w.cell? ⟨gb, off + j, none⟩ = some u) :
    Calls Tryz.prog 58 #[.slice (some ⟨gb, off, none⟩) l.length c] w fun e w' => ∃ v', e = .returned v' ∧ OwnR verE 49 w' w.heap.size v' l ∧ Below w.heap.size w w' := by
  obtain ⟨i0, hi0, hz0, hz1, hzb⟩ := info_parts verinfo
  refine (Tryz.slices_Clone i0 _ 5 48 hi0 hz0 hz1 hzb rfl (by decide) (fun w => by kernel_rfl) gb off l.length c (recVals verE l) w (len5 l) (by unfold maxLen; omega) (by omega) hc (recVals_one' verE l)).mono fun e w' hp => ?_
  obtain ⟨v', he, ho, _, hb⟩ := hp
  exact ⟨v', he, ho, hb⟩
set_option maxRecDepth 10000 in
set_option maxHeartbeats 1600000 in
theorem trim_some {w : World} (hd : HdAt w h S L s m D row blk) (key : ByteArray) (n : Int) (hk : key.size ≤ maxLen) (h0 : 0 ≤ n) (hg : 0 < goneN L key n) :
    Calls Tryz.prog 27 #[.pointer (some ⟨h, 0, none⟩), .string key, .int .i64 n] w fun e w' => e = .returned (.tuple #[.int .i64 ((goneN L key n : Nat) : Int), .nilIface]) ∧ HdOf w' h (grownS S w w') (trimL L key n) s ∧ Upd S (grownS S w w') w w' := by
  have HOF : Hid (Calls Tryz.prog 38 #[.pointer (some ⟨h, 0, none⟩), .string key] w fun e w' => e = .returned (row key) ∧ w' = w) := of_any hd key hk
  have hl : (getL L key).length ≤ 60 := Nat.le_trans (getL_le _ _) hd.few
  have hgn : ((goneN L key n : Nat) : Int) = ((getL L key).length : Int) - n := by unfold goneN at hg ⊢; omega
  have hgl : goneN L key n ≤ (getL L key).length := by omega
  have hne : getL L key ≠ [] := fun e => by rw [e] at hgl; simp at hgl; omega
  cases hm : m with
  | none =>
    exact absurd (by rw [hd.nothing hm]; rfl) hne
  | some b =>
  subst hm
  unfold trimL
  generalize hgg : goneN L key n = g at *
  clear hgg
  have HST : Hid (∀ w2 v', Below w.heap.size w w2 → OwnR verE 49 w2 w.heap.size v' ((getL L key).drop g) → Calls Tryz.prog 40 #[.pointer (some ⟨h, 0, none⟩), .string key, v'] w2 fun e w' => e = .returned (.tuple #[]) ∧ HdOf w' h (grownS S w w') (trimGo key g L) s ∧ Upd S (grownS S w w') w w') := fun w2 v' h1 h2 => set_trim hd key hk hne g h1 h2
  have hO := hd.own key
  rcases hO.2 with ⟨_, h2⟩ | ⟨gb, c, cur, hrow, _, hgb, hnc, _, _, _⟩
  · exact absurd (List.length_eq_zero_iff.1 h2) hne
  rw [hrow] at HOF hO
  have hcell : ∀ j u, (recVals verE (getL L key))[j]? = some u → w.cell? ⟨gb, j, none⟩ = some u := fun j u hj => by
    have := World.ownsRow.cells (g := gb) hO rfl j u hj
    rw [Addr.add_lit, Nat.zero_add] at this
    exact this
  have hld : ((getL L key).drop g).length = (getL L key).length - g := List.length_drop
  have HC1 : Hid (Calls Tryz.prog 58 #[.slice (some ⟨gb, g * 5, none⟩) ((getL L key).length - g) (c - g)] w fun e w' => ∃ v', e = .returned v' ∧ OwnR verE 49 w' w.heap.size v' ((getL L key).drop g) ∧ Below w.heap.size w w') := by
    have := vclone_any gb (g * 5) (c - g) ((getL L key).drop g) w (by rw [hld]; omega) (fun j u hj => hcell (g * 5 + j) u (by
      have hA : (recVals verE ((getL L key).take g)).length = g * 5 := by rw [len5, List.length_take]; congr 1; omega
      rw [← List.take_append_drop g (getL L key), recVals_append, List.getElem?_append_right (by rw [hA]; omega), hA, Nat.add_sub_cancel_left]
      exact hj))
    rw [hld] at this
    exact this
  have HC2 : Hid (c = g → Calls Tryz.prog 58 #[.slice (some ⟨gb, 0, none⟩) ((getL L key).length - g) (c - g)] w fun e w' => ∃ v', e = .returned v' ∧ OwnR verE 49 w' w.heap.size v' ((getL L key).drop g) ∧ Below w.heap.size w w') := fun hcg => by
    have hz : (getL L key).drop g = [] := List.drop_eq_nil_of_le (by omega)
    have := vclone_any gb 0 (c - g) ((getL L key).drop g) w (by rw [hld]; omega) (fun j u hj => by rw [hz] at hj; simp [recVals] at hj)
    rw [hld] at this
    exact this
  clear hd hO hrow hgb hcell hld hne
  generalize (getL L key).length = len at *
  have d0 : decide (n < 0) = false := decide_eq_false (by omega)
  have d1 : wrap64 ((len : Int) - n) = (g : Int) := by unfold wrap64; omega
  have d2 : IntKind.i64.wrap ((len : Int) - n) = (g : Int) := by rw [IntKind.wrap_i64]; omega
  have d3 : (0 : Int) < (g : Int) := by omega
  have d5 : max (0 : Int) (g : Int) = (g : Int) := by omega
  have d6 : (0 : Int) ≤ (g : Int) := by omega
  have d7 : (g : Int) ≤ (len : Int) := by omega
  have d8 : (len : Int) - n = (g : Int) := by omega
  clear hgn
  by_cases hcg : c = g
  · have HC := HC2.out hcg
    have hlc : len = c := by omega
    rw [hlc, hcg, Nat.sub_self] at HC
    have HC3 : Hid (Calls Tryz.prog 58 #[.slice (some ⟨gb, 0, none⟩) 0 0] w fun e w' => ∃ v', e = .returned v' ∧ OwnR verE 49 w' w.heap.size v' ((getL L key).drop g) ∧ Below w.heap.size w w') := HC
    subst hcg
    subst hlc
    clear HC HC1 HC2
    go_enter Tryz.func27, Tryz.ntmps27
    go_wp2_with fail
    refine HOF.out.mono ?_
    rintro e w1 ⟨rfl, hw1⟩
    rw [hw1]
    clear hw1 w1 HOF
    go_wp2_with fail
    refine HC3.out.mono ?_
    rintro e w2 ⟨v', rfl, hO2, hb2⟩
    have HS2 := HST.out w2 v' hb2 hO2
    clear hO2 hb2 HST
    go_wp2_with fail
    refine HS2.mono ?_
    rintro e w3 ⟨rfl, hH⟩
    have HH : Hid (HdOf w3 h (grownS S w w3) (trimGo key len L) s ∧ Upd S (grownS S w w3) w w3) := hH
    clear hH HS2
    go_wp2
    go_ret2
    exact ⟨rfl, HH.out⟩
  · clear HC2
    go_enter Tryz.func27, Tryz.ntmps27
    go_wp2_with fail
    refine HOF.out.mono ?_
    rintro e w1 ⟨rfl, hw1⟩
    rw [hw1]
    clear hw1 w1 HOF
    go_wp2_with fail
    refine HC1.out.mono ?_
    rintro e w2 ⟨v', rfl, hO2, hb2⟩
    have HS2 := HST.out w2 v' hb2 hO2
    clear hO2 hb2 HST
    go_wp2_with fail
    refine HS2.mono ?_
    rintro e w3 ⟨rfl, hH⟩
    have HH : Hid (HdOf w3 h (grownS S w w3) (trimGo key g L) s ∧ Upd S (grownS S w w3) w w3) := hH
    clear hH HS2
    go_wp2
    go_ret2
    exact ⟨rfl, HH.out⟩
theorem trim_any {w : World} (hd : HdOf w h S L s) (key : ByteArray) (n : Int) (hk : key.size ≤ maxLen) (h0 : 0 ≤ n) (h1 : n ≤ 9223372036854775807) :
    Calls Tryz.prog 27 #[.pointer (some ⟨h, 0, none⟩), .string key, .int .i64 n] w fun e w' => e = .returned (.tuple #[.int .i64 ((goneN L key n : Nat) : Int), .nilIface]) ∧ ∃ S', HdOf w' h S' (trimL L key n) s ∧ Upd S S' w w' := by
  obtain ⟨m, D, row, blk, hda⟩ := hd
  by_cases hg : goneN L key n = 0
  · refine (trim_none hda key n hk h0 h1 hg).mono fun e w' hp => ?_
    obtain ⟨he, hw⟩ := hp
    refine ⟨by rw [he, hg]; rfl, S, ?_, ?_⟩
    · rw [hw]
      unfold trimL
      rw [hg, trimGo_zero]
      exact ⟨m, D, row, blk, hda⟩
    · rw [hw]
      exact Upd.of_below (Below.refl _ _)
  · refine (trim_some hda key n hk h0 (by omega)).mono fun e w' hp => ?_
    exact ⟨hp.1, _, hp.2⟩
set_option maxRecDepth 10000 in
set_option maxHeartbeats 1600000 in
theorem trim_bad {ad : Nat → Addr} {w : World} (h : Nat) (key : ByteArray) (n : Int) (h0 : n < 0) (hE : HErrs w ad) :
    Calls Tryz.prog 27 #[.pointer (some ⟨h, 0, none⟩), .string key, .int .i64 n] w fun e w' => (∃ ev, e = .returned (.tuple #[.int .i64 0, ev]) ∧ BareIs ad ev 2) ∧ Below w.heap.size w w' := by
  have q1 := hE.c1
  have d0 : decide (n < 0) = true := decide_eq_true h0
  clear hE
  go_enter Tryz.func27, Tryz.ntmps27
  go_wp2
  go_quiet (fail)
  go_wp2
  go_ret2
  exact ⟨⟨_, rfl, bare_sent ad 1 (by decide)⟩, ⟨rfl, rfl, rfl, Nat.le_refl _, fun _ _ => rfl⟩⟩
set_option maxRecDepth 10000 in
theorem wipe_set {w : World} (hd : HdAt w h S L s m D row blk) : Calls Tryz.prog 30 #[.pointer (some ⟨h, 0, none⟩)] w fun e w' => e = .returned (.tuple #[]) ∧ w' = (w.setCell ⟨h, 0, none⟩ (.map none)).setCell ⟨h, 1, none⟩ (.bool false) := by
  have q0 := hd.ptr
  have q1 := hd.shut
  have f0 := hd.free0
  have f1 := hd.free1
  clear hd
  go_enter Tryz.func30, Tryz.ntmps30
  go_wp2
  go_end0
  exact ⟨rfl, rfl⟩
theorem wipe_any {w : World} (hd : HdOf w h S L s) : Calls Tryz.prog 30 #[.pointer (some ⟨h, 0, none⟩)] w fun e w' => e = .returned (.tuple #[]) ∧ ∃ S', HdOf w' h S' [] false ∧ Upd S S' w w' := by
  obtain ⟨m, D, row, blk, hd⟩ := hd
  refine (wipe_set hd).mono fun e w' hp => ?_
  obtain ⟨he, rfl⟩ := hp
  have ne01 : (⟨h, 0, none⟩ : Addr) ≠ ⟨h, 1, none⟩ := fun e => by have h2 : (0 : Nat) = 1 := congrArg Addr.off e; omega
  refine ⟨he, S, ⟨none, .nil, fun _ => .slice none 0 0, fun _ => 0, List.Pairwise.nil, by simp, (fun _ hx => by cases hx), fun k hk => by simpa using hd.inS k hk, hd.self, ?_, ?_, ?_, ?_, fun _ => rfl, (fun b hm => by cases hm), fun x => OwnR.nil _ _ _, fun _ _ => rfl, fun x hx => absurd rfl hx, fun x _ hx _ _ => absurd rfl hx⟩, ⟨rfl, rfl, rfl, by simp, fun k _ hn => ?_, fun k hk => Or.inl hk⟩⟩
  · rw [World.cell?_setCell_other _ _ _ _ (Ne.symm ne01)]
    exact World.cell?_setCell_same _ _ _ hd.ptr
  · refine World.cell?_setCell_same _ _ _ (u := .bool s) ?_
    rw [World.cell?_setCell_other _ _ _ _ ne01]
    exact hd.shut
  · rw [World.frozen?_setCell, World.frozen?_setCell]; exact hd.free0
  · rw [World.frozen?_setCell, World.frozen?_setCell]; exact hd.free1
  · have hk : k ≠ h := fun e => hn (e ▸ hd.self)
    rw [Deep.blk_setCell_other _ _ _ _ hk, Deep.blk_setCell_other _ _ _ _ hk]
end
section
open Go.Sort
set_option maxRecDepth 10000 in
set_option maxHeartbeats 1000000 in
theorem less_any (a b : Int × Int) (w : World) : Calls Tryz.prog 19 #[.agg #[.int .i64 a.1, .int .i64 a.2], .agg #[.int .i64 b.1, .int .i64 b.2]] w fun e w' => e = .returned (.bool (lessB a b)) ∧ ∃ q os, w' = grow (w.drewN q) os := by
  have HC : Hid (∀ W, Calls Tryz.prog 43 #[.agg #[.int .i64 a.1, .int .i64 a.2], .agg #[.int .i64 b.1, .int .i64 b.2]] W fun e w' => e = .returned (.int .i64 (tagC a b)) ∧ ∃ n os, w' = grow (W.drewN n) os) := fun W => compare_any a b W
  have HR : Hid (decide (tagC a b < 0) = lessB a b) := tagC_lt
  generalize tagC a b = c at *
  generalize lessB a b = r at *
  obtain ⟨a1, a2⟩ := a
  obtain ⟨b1, b2⟩ := b
  have HG : Hid (∃ os, (w.alloc (.cells #[.int .i64 a1, .int .i64 a2] 45)).alloc (.cells #[.int .i64 b1, .int .i64 b2] 45) = grow w os) := ⟨_, by rw [alloc_eq_grow, alloc_eq_grow, grow_grow]⟩
  go_enter Tryz.func19, Tryz.ntmps19
  go_wp2_with fail
  refine (HC.out _).mono ?_
  rintro e w2 ⟨rfl, n, os, hw2⟩
  have HE : Hid (∃ q os, w2 = grow (w.drewN q) os) := by
    obtain ⟨os0, h0⟩ := HG.out
    exact ⟨n, os0 ++ os, by rw [hw2, h0, grow_drewN, grow_grow]⟩
  clear hw2 HG
  go_wp2
  go_ret
  exact ⟨by rw [← HR.out]; rfl, HE.out⟩
end
theorem bless_lt : ∀ (x y : List UInt8), Op.bytesLess x y = true → x < y
  | _, [], h => by simp [Op.bytesLess] at h
  | [], _ :: _, _ => List.nil_lt_cons _ _
  | a :: x, b :: y, h => by
    simp only [Op.bytesLess, Bool.or_eq_true, decide_eq_true_eq, Bool.and_eq_true, beq_iff_eq] at h
    rw [List.cons_lt_cons_iff]
    rcases h with h | ⟨e, h⟩
    · exact Or.inl h
    · exact Or.inr ⟨e, bless_lt x y h⟩
theorem filter_strike {K : List ByteArray} (hn : K.Nodup) (p : ByteArray → Bool) {x : ByteArray} (hx : x ∈ K) (hp : p x = true) : (x :: K.filter fun z => p z && !decide (z = x)).Perm (K.filter p) := by
  induction K with
  | nil => cases hx
  | cons a K ih =>
    obtain ⟨h1, h2⟩ := List.nodup_cons.1 hn
    by_cases e : a = x
    · subst e
      have hK : K.filter (fun z => p z && !decide (z = a)) = K.filter p := by
        apply List.filter_congr
        intro z hz
        have : z ≠ a := fun e => h1 (e ▸ hz)
        simp [this]
      rw [List.filter_cons_of_pos hp, List.filter_cons_of_neg (by simp), hK]
    · have hxK : x ∈ K := by
        rcases List.mem_cons.1 hx with h3 | h3
        · exact absurd h3.symm e
        · exact h3
      have := ih h2 hxK
      cases hpa : p a with
      | true =>
        rw [List.filter_cons_of_pos hpa, List.filter_cons_of_pos (by simp [hpa, e])]
        exact (List.Perm.swap _ _ _).trans (this.cons _)
      | false =>
        rw [List.filter_cons_of_neg (by simp [hpa]), List.filter_cons_of_neg (by simp [hpa])]
        exact this
/-- Keys that have come, and those that are left. -/
def KeysLeft (L : List Kep) (left : Lit → Bool) (acc : List ByteArray) : Prop := (acc ++ (keysL L).filter fun x => left (litK x)).Perm (keysL L)
theorem keysLeft_start {L : List Kep} {left : Lit → Bool} (hl : ∀ x ∈ keysL L, left (litK x) = true) : KeysLeft L left [] := by
  unfold KeysLeft
  rw [List.nil_append, List.filter_eq_self.2 hl]
theorem keysLeft_step {L : List Kep} (hs : SortedK L) {left : Lit → Bool} {acc : List ByteArray} {x : ByteArray} (hx : x ∈ keysL L) (hl : left (litK x) = true) (h : KeysLeft L left acc) : KeysLeft L (fun z => left z && !z.sameKey (litK x)) (acc ++ [x]) := by
  unfold KeysLeft at *
  simp only [sameKey_decide]
  rw [List.append_assoc]
  exact (List.Perm.append_left acc (filter_strike (keysL_nodup hs) (fun x => left (litK x)) hx hl)).trans h
theorem keysLeft_end {L : List Kep} {left : Lit → Bool} {acc : List ByteArray} (hl : ∀ k, left k = false) (h : KeysLeft L left acc) : acc.Perm (keysL L) := by
  unfold KeysLeft at h
  rw [List.filter_eq_nil_iff.2 (fun x _ => by rw [hl]; decide), List.append_nil] at h
  exact h
/-- What is sorted of the keys is the keys. -/
theorem sort_keys {L : List Kep} (hs : SortedK L) {acc : List ByteArray} (hp : acc.Perm (keysL L)) : (acc.map fun x => x.data.toList).mergeSort (fun x y => decide (x ≤ y)) = (keysL L).map fun x => x.data.toList := by
  have h1 : ((acc.map fun x => x.data.toList).mergeSort fun x y => decide (x ≤ y)).Perm ((keysL L).map fun x => x.data.toList) := (List.mergeSort_perm _ _).trans (hp.map _)
  have hk : ((keysL L).map fun x => x.data.toList).Pairwise fun x y => decide (x ≤ y) = true := by
    rw [List.pairwise_map]
    refine (keysOk L hs).rising.imp ?_
    intro a b hab
    unfold kl at hab
    rw [ByteArray.toList_eq, ByteArray.toList_eq] at hab
    have h3 : a.data.toList < b.data.toList := bless_lt _ _ hab
    exact decide_eq_true (List.le_of_lt h3)
  have h2 : ((acc.map fun x => x.data.toList).mergeSort fun x y => decide (x ≤ y)).Pairwise fun x y => decide (x ≤ y) = true := List.pairwise_mergeSort (fun a b c h3 h4 => by simp only [decide_eq_true_eq] at *; exact List.le_trans h3 h4) (fun a b => by simp only [Bool.or_eq_true, decide_eq_true_eq]; exact List.le_total a b) _
  exact h1.eq_of_pairwise (fun a b _ _ h3 h4 => by simp only [decide_eq_true_eq] at *; exact List.le_antisymm h3 h4) h2 hk
section
variable {h : Nat} {S : Nat → Prop} {L : List Kep} {s : Bool} {m : Option Nat} {D : DataW Value} {row : ByteArray → Value} {blk : ByteArray → Nat}
theorem enc_data (x : ByteArray) : encStr x.data.toList = .string x := by
  unfold encStr
  rw [Array.toArray_toList]
theorem enc_datas (l : List ByteArray) : (l.map fun x => x.data.toList).map encStr = l.map Value.string := by
  rw [List.map_map]
  exact List.map_congr_left fun x _ => enc_data x
/-- A row of texts that the call made is sorted. -/
theorem sort_row {w : World} {B : Nat} {v : Value} {acc K : List ByteArray} (hO : OwnT w B v acc) (hB : B ≤ w.heap.size) (hl : acc.length ≤ 1000) (hlK : K.length = acc.length) (hK : (acc.map fun x => x.data.toList).mergeSort (fun x y => decide (x ≤ y)) = K.map fun x => x.data.toList) :
    Calls Tryz.prog 59 #[v] w fun e w' => e = .returned (.tuple #[]) ∧ OwnT w' B v K ∧ Below B w w' := by
  have h0 : w.ownsRow B 9 1 v (acc.map Value.string).length (acc.map Value.string) := hO
  rw [← enc_datas, List.length_map] at h0
  rcases h0.2 with ⟨rfl, hz⟩ | ⟨g, cap, cur, rfl, hbg, hgb, hnc, hcm, hcs, htake⟩
  · have hac : acc = [] := by simpa using hz
    subst hac
    have hKn : K = [] := List.length_eq_zero_iff.1 hlK
    subst hKn
    exact (Tryz.slices_Sort_none none 0 w).mono fun e w' ⟨he, hw⟩ => ⟨he, by rw [hw]; exact hO, by rw [hw]; exact Below.refl _ _⟩
  · rw [Nat.mul_one] at htake
    have hgl : g < w.heap.size := (Array.getElem?_eq_some_iff.1 hgb).1
    have hc := Tryz.slices_Sort g 0 cap (acc.map fun x => x.data.toList) w (holds_of_block hgb (by simpa using htake)) hgl (by simp; omega)
    refine hc.mono fun e w' hp => ?_
    obtain ⟨he, n, os, hw⟩ := hp
    refine ⟨he, ?_, ?_⟩
    · rw [hw, hK]
      have := ownsRow_sorted (w := w) (base := B) (n := n) (os := os) (ss := acc.map fun x => x.data.toList) (ts := K.map fun x => x.data.toList) (by simp [hlK]) hbg hgb hnc hcm hcs
      rw [enc_datas] at this
      show World.ownsRow _ _ _ _ _ _ _
      simp only [List.length_map] at this ⊢
      rw [hlK]
      exact this
    · rw [hw]
      exact (Below.refl _ _).grown (grownBy_sorted _) hB (fun k hk => by injection hk with hk; omega)
theorem ranges_same {w w' : World} {b r n cnt : Nat} {D : DataW Value} {left : Lit → Bool} (h : w.ranges Tryz.prog 9 anyR b r n D left cnt) (h1 : w'.heap[b]? = w.heap[b]?) (h2 : w'.heap[r]? = w.heap[r]?) : w'.ranges Tryz.prog 9 anyR b r n D left cnt := by
  obtain ⟨es, clock, since, seen, c0, hb, F, hs, hD, hr, rest⟩ := h
  exact ⟨es, clock, since, seen, c0, h1.trans hb, F, hs, hD, h2.trans hr, rest⟩
set_option maxRecDepth 10000 in
set_option maxHeartbeats 1600000 in
theorem keys_nil {w : World} (hd : HdAt w h S L s none D row blk) : Calls Tryz.prog 34 #[.pointer (some ⟨h, 0, none⟩)] w fun e w' => (∃ v, e = .returned v ∧ OwnT w' (w.heap.size + 1) v (keysL L)) ∧ Below w.heap.size w w' := by
  have HA : Hid (Calls Tryz.prog 25 #[.pointer (some ⟨h, 0, none⟩)] w fun e w' => e = .returned (.map none) ∧ w' = w) := all_any hd
  have HSO : Hid (∀ W, Calls Tryz.prog 59 #[.slice none 0 0] W fun e w' => e = .returned (.tuple #[]) ∧ w' = W) := fun W => Tryz.slices_Sort_none none 0 W
  rw [hd.nothing rfl]
  clear hd
  have hrg := run_range_nilMap (P := Tryz.prog) w 37 9 57 Tryz.underlying37
  have hnx : ∀ ty, (Instr.next (.pointer (some ⟨w.heap.size, 0, none⟩)) false ty).run Tryz.prog (w.alloc (.mapIter none 0 #[] 0)) = _ := fun ty => run_next_nilMap w ty 0 0 #[]
  go_enter Tryz.func34, Tryz.ntmps34
  go_wp2_with fail
  refine HA.out.mono ?_
  rintro e w1 ⟨rfl, hw1⟩
  rw [hw1]
  clear hw1 w1 HA
  go_wp2
  refine wp_loop_rounds 1 ?_
  rw [rounds_succ]
  go_wp2_with fail
  refine (HSO.out _).mono ?_
  rintro e w1 ⟨rfl, hw1⟩
  rw [hw1]
  clear hw1 w1 HSO
  go_wp2
  go_ret
  exact ⟨⟨_, rfl, OwnT.nil _ _⟩, (Below.refl _ _).alloc (Nat.le_refl _) _⟩
set_option maxRecDepth 10000 in
set_option maxHeartbeats 1600000 in
theorem keys_some {w : World} {b : Nat} (hd : HdAt w h S L s (some b) D row blk) : Calls Tryz.prog 34 #[.pointer (some ⟨h, 0, none⟩)] w fun e w' => (∃ v, e = .returned v ∧ OwnT w' (w.heap.size + 1) v (keysL L)) ∧ Below w.heap.size w w' := by
  have HA : Hid (Calls Tryz.prog 25 #[.pointer (some ⟨h, 0, none⟩)] w fun e w' => e = .returned (.map (some b)) ∧ w' = w) := all_any hd
  obtain ⟨hSb, hbh, ⟨n, hown⟩, h4, h5⟩ := hd.mapS b rfl
  have HD : Hid (HdAt w h S L s (some b) D row blk) := hd
  have H0 : Hid (KeysLeft L (Maps.has D) []) := keysLeft_start (fun x hx => by
    rw [h4 x (by have := keysL_size hd.sorted hd.fits hx; unfold maxLen; omega)]
    simpa using ((keysOk L hd.sorted).mem x).1 hx)
  have hkl : (keysL L).length ≤ 60 := Nat.le_trans (keysL_le L) hd.few
  have HKL : Hid ((keysL L).length ≤ 60) := hkl
  have HKS : Hid (∀ x ∈ keysL L, x.size ≤ 16) := fun x hx => keysL_size hd.sorted hd.fits hx
  have hblt : b < w.heap.size := hd.inS b hSb
  clear h4 h5 hd hSb hbh hkl
  go_enter Tryz.func34, Tryz.ntmps34
  go_wp2_with fail
  refine HA.out.mono ?_
  rintro e w1 ⟨rfl, hw1⟩
  rw [hw1]
  clear hw1 w1 HA
  go_wp2_with (first
    | (at_range; refine wpList_range_own _ rfl _ 37 rfl 9 57 keyedK Tryz.underlying37 anyR b n D rfl hown ?_; intro w0 hrg0 hg0 hs0)
    | go_in)
  go_frame
  go_loopw [3] (fun v wr => ∃ (left : Lit → Bool) (cnt : Nat) (acc : List ByteArray), wr.ranges Tryz.prog 9 anyR b w.heap.size n D left cnt ∧ OwnT wr (w.heap.size + 1) v acc ∧ KeysLeft L left acc ∧ (∀ z, left z = true → Maps.has D z = true) ∧ Below w.heap.size w wr ∧ w.heap.size + 1 ≤ wr.heap.size) (fun _ wr => wr.rangeLeft b w.heap.size)
  case atStart => exact ⟨Maps.has D, Maps.size D, [], hrg0, OwnT.nil _ _, H0.out, fun z hz => hz, ⟨hg0.os, hg0.tape, hg0.output, hg0.size, fun k hk => hg0.block k hk (by simp)⟩, by omega⟩
  case round =>
    clear hg0 hs0 hrg0 hown H0
    obtain ⟨left, cnt, acc, hrg, hO, hkl, hsub, hbw, hsz⟩ := hrel
    obtain ⟨w1, rfl⟩ : ∃ w1, w1 = wr := ⟨_, rfl⟩
    obtain ⟨v, rfl⟩ : ∃ v, v = u3 := ⟨_, rfl⟩
    have HO : Hid (OwnT w1 (w.heap.size + 1) v acc) := hO
    have HLF : Hid (KeysLeft L left acc) := hkl
    have HSUB : Hid (∀ z, left z = true → Maps.has D z = true) := hsub
    have HBW : Hid (Below w.heap.size w w1) := hbw
    have HSZ : Hid (w.heap.size + 1 ≤ w1.heap.size) := hsz
    have HAL : Hid (acc.length ≤ 60) := by
      show _ ≤ _
      have := hkl.length_eq
      rw [List.length_append] at this
      have := HKL.out
      omega
    clear hO hkl hsub hbw hsz
    go_wp2_with (first
      | (at_next; refine wpList_next_ranges (α := ByteArray) (β := Value) _ rfl _ rfl 9 keyedK anyR Value.string id (fun key kl hk => by obtain ⟨x, hx, _⟩ := keyOfK_inv hk; exact ⟨x, hx⟩) (fun v y _ => ⟨v, rfl⟩) b w.heap.size n D left cnt rfl hrg ?_ ?_)
      | go_in)
    · intro _ hl0
      have HP : Hid (acc.Perm (keysL L)) := keysLeft_end hl0 HLF.out
      have HSO : Hid (Calls Tryz.prog 59 #[v] w1 fun e w' => e = .returned (.tuple #[]) ∧ OwnT w' (w.heap.size + 1) v (keysL L) ∧ Below (w.heap.size + 1) w1 w') := sort_row HO.out HSZ.out (by have := HAL.out; omega) HP.out.length_eq.symm (sort_keys HD.out.sorted HP.out)
      clear hl0 hrg
      go_wp2_with fail
      refine HSO.out.mono ?_
      rintro e w5 ⟨rfl, hO5, hb5⟩
      have HE : Hid ((∃ v0, (Ending.returned v) = .returned v0 ∧ OwnT w5 (w.heap.size + 1) v0 (keysL L)) ∧ Below w.heap.size w w5) := ⟨⟨v, rfl, hO5⟩, HBW.out.trans (hb5.mono (by omega))⟩
      clear hO5 hb5 HSO
      go_wp2
      go_ret
      exact HE.out
    · intro x c kl yd yp w2 cnt2 hkey hlk hv hat hrg2 hlt2 hg2 hs2 hen
      obtain ⟨rfl, hxk, rfl⟩ := HD.out.entry rfl HSUB.out hkey hlk hv hat
      have HNX : Hid (KeysLeft L (fun z => left z && !z.sameKey (litK x)) (acc ++ [x])) := keysLeft_step HD.out.sorted hxk hlk HLF.out
      have HRG : Hid (w2.ranges Tryz.prog 9 anyR b w.heap.size n D (fun z => left z && !z.sameKey (litK x)) cnt2) := hrg2
      have HLT : Hid (cnt2 < cnt) := hlt2
      have HRG0 : Hid (w1.ranges Tryz.prog 9 anyR b w.heap.size n D left cnt) := hrg
      have HB2 : Hid (Below w.heap.size w w2) := HBW.out.trans ⟨hg2.os, hg2.tape, hg2.output, hg2.size, fun k hk => hg2.block k (by have := HBW.out.size; omega) (fun e => by injection e with e; omega)⟩
      have HO2 : Hid (OwnT w2 (w.heap.size + 1) v acc) := OwnV.kept HO.out hg2 (by
        cases hvb : v.ownBlock with
        | none => exact Or.inl rfl
        | some k =>
          refine Or.inr fun e => ?_
          injection e with e
          have := (HO.out.block hvb).1
          omega)
      have HS2 : Hid (∀ z, (left z && !z.sameKey (litK x)) = true → Maps.has D z = true) := fun z hz => HSUB.out z (by simp only [Bool.and_eq_true] at hz; exact hz.1)
      have HSZ2 : Hid (w.heap.size + 1 ≤ w2.heap.size) := by show _ ≤ _; rw [hs2]; exact HSZ.out
      have HCL : Hid (∀ W, Calls Tryz.prog 44 #[.string x] W fun e w' => e = .returned (.string x) ∧ Below W.heap.size W w') := fun W => sclone_any x W (by have := HKS.out x hxk; omega)
      generalize row x = rx at *
      clear hv hat hrg2 hlt2 hg2 hs2 hkey hlk hxk hrg HLF HO HSUB HBW HSZ
      go_wp2_with fail
      refine (HCL.out _).mono ?_
      rintro e w3 ⟨rfl, hb3⟩
      have HO3 : Hid (OwnT w3 (w.heap.size + 1) v acc) := HO2.out.kept hb3
      have HR3 : Hid (w3.ranges Tryz.prog 9 anyR b w.heap.size n D (fun z => left z && !z.sameKey (litK x)) cnt2) := ranges_same HRG.out (hb3.block b (by have := HSZ2.out; omega)) (hb3.block w.heap.size (by have := HSZ2.out; omega))
      have HB3 : Hid (Below w.heap.size w w3) := HB2.out.trans (hb3.mono HB2.out.size)
      have HSZ3 : Hid (w.heap.size + 1 ≤ w3.heap.size) := Nat.le_trans HSZ2.out hb3.size
      have hac := HAL.out
      clear hb3 HCL HO2 HRG HB2 HSZ2 hen
      go_wp2_with (first | (at_builtin; refine wpList_append_str rfl (.tmp 12) (.tmp 15) rfl (w.heap.size + 1) v acc rfl (HO3.out.kept ((Below.refl _ _).alloc (Nat.le_refl _) _)) ⟨w3.heap.size, 0, none⟩ x 1 rfl (by rw [World.cell?_alloc_at _ _ _ _ rfl]; rfl) (by omega) (by have := HSZ3.out; simp; omega) ?_; intro v4 w4 hO4 hb4))
      have HO4 : Hid (OwnT w4 (w.heap.size + 1) v4 (acc ++ [x])) := hO4
      have hb34 : Below (w.heap.size + 1) w3 w4 := (((Below.refl w3.heap.size w3).alloc (Nat.le_refl _) _).mono HSZ3.out).trans hb4
      have HR4 : Hid (w4.ranges Tryz.prog 9 anyR b w.heap.size n D (fun z => left z && !z.sameKey (litK x)) cnt2) := ranges_same HR3.out (hb34.block b (by omega)) (hb34.block w.heap.size (by omega))
      have HB4 : Hid (Below w.heap.size w w4) := HB3.out.trans (hb34.mono (by omega))
      have HSZ4 : Hid (w.heap.size + 1 ≤ w4.heap.size) := Nat.le_trans HSZ3.out hb34.size
      clear hO4 hb4 hb34 HO3 HR3 HB3
      go_wp2
      go_roundw
      case rel => exact ⟨_, cnt2, acc ++ [x], HR4.out, HO4.out, HNX.out, HS2.out, HB4.out, HSZ4.out⟩
      case measure => rw [HR4.out.left_eq, HRG0.out.left_eq]; exact HLT.out
theorem keysO_any {w : World} (hd : HdAt w h S L s m D row blk) : Calls Tryz.prog 34 #[.pointer (some ⟨h, 0, none⟩)] w fun e w' => (∃ v, e = .returned v ∧ OwnT w' (w.heap.size + 1) v (keysL L)) ∧ Below w.heap.size w w' := by
  cases m with
  | none => exact keys_nil hd
  | some b => exact keys_some hd
theorem keys_any {w : World} (hd : HdAt w h S L s m D row blk) : Calls Tryz.prog 34 #[.pointer (some ⟨h, 0, none⟩)] w fun e w' => (∃ p c, e = .returned (.slice p (keysL L).length c) ∧ Strs w' p (keysL L)) ∧ Below w.heap.size w w' :=
  (keysO_any hd).mono fun e w' hp => by
    obtain ⟨⟨v, he, hO⟩, hb⟩ := hp
    obtain ⟨p, c, hv, hs, _, _, _⟩ := hO.form
    exact ⟨⟨p, c, by rw [he, hv], hs⟩, hb⟩
end
section
variable {h : Nat} {S : Nat → Prop} {L : List Kep} {s : Bool} {m : Option Nat} {D : DataW Value} {row : ByteArray → Value} {blk : ByteArray → Nat}
set_option maxRecDepth 10000 in
set_option maxHeartbeats 2000000 in
theorem last_any {w : World} (hd : HdAt w h S L s m D row blk) (key : ByteArray) (hk : key.size ≤ maxLen) :
    Calls Tryz.prog 18 #[.pointer (some ⟨h, 0, none⟩), .string key] w fun e w' => e = .returned (.tuple #[.agg #[.int .i64 (lastT (getL L key)).1, .int .i64 (lastT (getL L key)).2], .bool (decide (0 < (getL L key).length))]) ∧ Below w.heap.size w w' := by
  have hb2 : Below w.heap.size w (w.alloc (.cells #[.int .i64 0, .int .i64 0] 45)) := (Below.refl _ _).alloc (Nat.le_refl _) _
  have HOF : Hid (Calls Tryz.prog 38 #[.pointer (some ⟨h, 0, none⟩), .string key] (w.alloc (.cells #[.int .i64 0, .int .i64 0] 45)) fun e w' => e = .returned (row key) ∧ w' = w.alloc (.cells #[.int .i64 0, .int .i64 0] 45)) := of_any (hd.below hb2) key hk
  obtain ⟨p, c, hrow, hrec, hlc, hpn, hpb⟩ := hd.form key
  have HREC : Hid (Rec verE (w.alloc (.cells #[.int .i64 0, .int .i64 0] 45)) p (getL L key)) := hrec.below hb2
  have hl : (getL L key).length ≤ 60 := Nat.le_trans (getL_le _ _) hd.few
  have HB : Hid (Below w.heap.size w (w.alloc (.cells #[.int .i64 0, .int .i64 0] 45))) := hb2
  rw [hrow] at HOF
  clear hd hrow hrec hpn hpb hb2
  generalize getL L key = l at *
  by_cases h0 : l.length = 0
  · have HE : Hid ((.tuple #[.agg #[.int .i64 (lastT l).1, .int .i64 (lastT l).2], .bool (decide (0 < l.length))] : Value) = .tuple #[.agg #[.int .i64 0, .int .i64 0], .bool false]) := by
      show _ = _
      rw [List.length_eq_zero_iff.1 h0]
      rfl
    rw [HE.out]
    rw [h0] at HOF
    go_enter Tryz.func18, Tryz.ntmps18
    go_wp2_with fail
    refine HOF.out.mono ?_
    rintro e w1 ⟨rfl, hw1⟩
    rw [hw1]
    clear hw1 w1 HOF
    go_wp2
    exact bodyPost_ret (v := .tuple #[.agg #[.int .i64 0, .int .i64 0], .bool false]) (by simp [results, Tryz.results18, go_sem]) rfl ⟨rfl, (Below.refl _ _).alloc (Nat.le_refl _) _⟩
  · have hil : l.length - 1 < l.length := by omega
    obtain ⟨b, o, hpp, hblt, c0, c1, c2, c3, c4⟩ := ver_cells HREC.out hil
    have HE : Hid ((.tuple #[.agg #[.int .i64 (lastT l).1, .int .i64 (lastT l).2], .bool (decide (0 < l.length))] : Value) = .tuple #[.agg #[.int .i64 (verAt l (l.length - 1)).n, .int .i64 (verAt l (l.length - 1)).who], .bool true]) := by
      show _ = _
      rw [decide_eq_true (by omega)]
      rfl
    subst hpp
    rw [HE.out]
    generalize verAt l (l.length - 1) = y at *
    obtain ⟨k, hk2⟩ : ∃ k, l.length = k + 1 := ⟨l.length - 1, by omega⟩
    rw [hk2] at HOF c0 c1 c2 c3 c4 hl
    have ek : k + 1 - 1 = k := by omega
    rw [ek] at c0 c1 c2 c3 c4
    have hi0 : (0 : Int) ≤ (k : Int) := by omega
    have hi1 : (k : Int) < (k : Int) + 1 := by omega
    clear hk2 HE hil h0 ek hlc HREC c2 c3 c4
    have hne : ¬ ((k : Int) + 1 = 0) := by omega
    go_enter Tryz.func18, Tryz.ntmps18
    go_wp2_with fail
    refine HOF.out.mono ?_
    rintro e w1 ⟨rfl, hw1⟩
    rw [hw1]
    clear hw1 w1 HOF
    go_wp2
    exact bodyPost_ret (v := .tuple #[.agg #[.int .i64 y.n, .int .i64 y.who], .bool true]) (by simp [results, Tryz.results18, go_sem]) rfl ⟨rfl, (Below.refl _ _).alloc (Nat.le_refl _) _⟩
end
theorem Sent.herrs {w : World} {ad : Nat → Addr} (h : Sent w ad) : HErrs w ad := ⟨h.c1, h.c3, h.c5, h.c6, h.c9⟩
theorem holdOk (ad : Nat → Addr) : HoldOk ad HdOf where
  lt := fun ⟨_, _, _, _, hd⟩ k hk => hd.inS k hk
  keep := fun hd hs hb => hd.keep hs hb
  zero := fun w => hd_zero w
  less := fun a b w => less_any a b w
  count := fun ⟨_, _, _, _, hd⟩ => count_any hd
  get := fun key hk ⟨_, _, _, _, hd⟩ => get_any hd key hk
  last := fun key hk ⟨_, _, _, _, hd⟩ => last_any hd key hk
  put := fun key v hk ht hd hE => put_any hd key v hk ht hE.herrs
  sealed_ := fun ⟨_, _, _, _, hd⟩ => (sealed_any hd).mono fun e w' ⟨he, hw⟩ => ⟨he, by rw [hw]; exact Below.refl _ _⟩
  keys := fun ⟨_, _, _, _, hd⟩ => keys_any hd
  trim := fun key n hk h0 h1 hd => trim_any hd key n hk h0 h1
  trimBad := fun {w h S L s} key n _ h0 _ _ hE => trim_bad h key n h0 hE.herrs
  seals := fun hd => seals_any hd
  wipe := fun hd => wipe_any hd
end Go.Proofs.YtmbpfbhpmafheaaGreatDoor
