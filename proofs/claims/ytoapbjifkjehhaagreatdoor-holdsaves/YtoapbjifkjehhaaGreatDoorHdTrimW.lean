/- Package hold: Trim, Seal, Wipe. -/
import Derived.Test.YtoapbjifkjehhaaGreatDoorHdPutW
import Derived.Test.YtoapbjifkjehhaaGreatDoorHzShW
import Derived.Test.YtoapbjifkjehhaaGreatDoorG3
namespace Go.Proofs.YtoapbjifkjehhaaGreatDoor
open Go.RowKit
variable {h : Nat} {S : Nat → Prop} {L : List Kep} {s : Bool} {m : Option Nat} {D : DataW Value} {row : ByteArray → Value} {blk : ByteArray → Nat}
set_option maxRecDepth 10000 in
set_option maxHeartbeats 1600000 in
/-- A key without versions goes out of the map. -/
theorem set_del (h b n : Nat) (D : DataW Value) (key : ByteArray) (p : Option Addr) (c : Nat) (w : World) (hk : key.size ≤ maxLen) (q0 : w.cell? ⟨h, 0, none⟩ = some (.map (some b))) (hown : OwnM w b n D) :
    Calls Tryz.prog 40 #[.pointer (some ⟨h, 0, none⟩), .string key, .slice p 0 c] w fun e w' => e = .returned (.tuple #[]) ∧ (∃ n, OwnM w' b n (D.del (litK key))) ∧ w.grownBy w' (some b) := by
  go_enter Tryz.func40, Tryz.ntmps40
  go_wp2_with (at_delete; refine wpList_delete_own _ rfl _ _ 37 9 rfl 57 keyedK Tryz.underlying37 anyR b n D rfl hown (.string key) (litK key) rfl (keyOfK hk) ?_; intro w2 hown2 hturn2; go_frame)
  try simp only [Exit.inBlock, Exit.then]
  refine bodyPost_ret (results_none rfl _ _ _) rfl ?_
  exact ⟨rfl, ⟨_, hown2⟩, hturn2.grown⟩
/-- A key's versions are gone: the hold holds L'. -/
theorem HdAt.del {w w2 w3 : World} {b : Nat} (hd : HdAt w h S L s (some b) D row blk) (key : ByteArray) {L' : List Kep} (hG : GoodL L') (hnk : getL L' key = []) (hot : ∀ x, x ≠ key → getL L' x = getL L x) (hb : Below w.heap.size w w2) (hown : ∃ n, OwnM w3 b n (D.del (litK key))) (hg : w2.grownBy w3 (some b)) :
    HdOf w3 h (grownS S w w3) L' s ∧ Upd S (grownS S w w3) w w3 := by
  have hsz1 := hb.size
  have hsz2 := hg.size
  have hS1 : ∀ k, S k → k < w.heap.size := hd.inS
  obtain ⟨hSb, hbh, _, h4, h5⟩ := hd.mapS b rfl
  have hhlt := hS1 h hd.self
  have hblk : ∀ k, k < w.heap.size → k ≠ b → w3.heap[k]? = w.heap[k]? := fun k hk hne => by
    rw [hg.block k (by omega) (fun e => hne (Option.some.inj e))]
    exact hb.block k hk
  have hh := hblk h hhlt (Ne.symm hbh)
  refine ⟨⟨some b, D.del (litK key), fun x => if x = key then .slice none 0 0 else row x, blk, ?_⟩, ⟨hg.os.trans hb.os, hg.tape.trans hb.tape, hg.output.trans hb.output, by omega, fun k hk hn => hblk k hk (fun e => hn (e ▸ hSb)), fun k hk => hk.2⟩⟩
  have hne : ∀ x, getL L' x ≠ [] → x ≠ key := fun x hx e => hx (e ▸ hnk)
  refine ⟨hG.sorted, hG.few, hG.fits, fun k hk => hk.1, ⟨by omega, Or.inl hd.self⟩, (cell_same hh 0).1.trans hd.ptr, (cell_same hh 1).1.trans hd.shut, (cell_same hh 0).2.trans hd.free0, (cell_same hh 1).2.trans hd.free1, (fun e => by cases e), fun b0 hb0 => ?_, fun x => ?_, fun x hx => ?_, fun x hx => ?_, fun x y hx hy hxy => ?_⟩
  · injection hb0 with hb0
    subst hb0
    have := hS1 b hSb
    refine ⟨⟨by omega, Or.inl hSb⟩, hbh, hown, fun x hx => ?_, fun x hx z => ?_⟩
    · by_cases e : x = key
      · subst e
        rw [Maps.has_del_same]
        simp [hnk]
      · rw [Maps.has_del_other (fun e2 => e (litK_inj e2)), h4 x hx, hot x e]
    · have e := hne x hx
      rw [Maps.atKey_del_other (fun e2 => e (litK_inj e2)), if_neg e]
      exact h5 x (by rw [← hot x e]; exact hx) z
  · show OwnR verE _ w3 0 (if x = key then .slice none 0 0 else row x) _
    by_cases e : x = key
    · subst e
      rw [if_pos rfl, hnk]
      exact OwnR.nil _ _ _
    · rw [if_neg e, hot x e]
      refine (hd.own x).same fun k hk => ?_
      obtain ⟨h1, h2, h3⟩ := hd.rowS hk
      exact hblk k (hS1 k h1) (by rw [h3]; exact (hd.inB x h2).2.2.2 b rfl)
  · show (if x = key then _ else row x) = _
    by_cases e : x = key
    · rw [if_pos e]
    · rw [if_neg e]
      exact hd.nilrow x (by rw [← hot x e]; exact hx)
  · have e := hne x hx
    show (if x = key then _ else row x).ownBlock = _ ∧ _
    rw [if_neg e]
    rw [hot x e] at hx
    obtain ⟨h1, h2, h3, h4⟩ := hd.inB x hx
    have := hS1 _ h2
    exact ⟨h1, ⟨by omega, Or.inl h2⟩, h3, h4⟩
  · have ex := hne x hx
    have ey := hne y hy
    exact hd.apart x y (by rw [← hot x ex]; exact hx) (by rw [← hot y ey]; exact hy) hxy
/-- Behind Clone, set lays what is left. -/
theorem set_trim {w w2 : World} {b : Nat} (hd : HdAt w h S L s (some b) D row blk) (key : ByteArray) (hk : key.size ≤ maxLen) (hk2 : getL L key ≠ []) (g : Nat) (hb : Below w.heap.size w w2) {v' : Value} (hO : OwnR verE 49 w2 w.heap.size v' ((getL L key).drop g)) :
    Calls Tryz.prog 40 #[.pointer (some ⟨h, 0, none⟩), .string key, v'] w2 fun e w' => e = .returned (.tuple #[]) ∧ HdOf w' h (grownS S w w') (trimGo key g L) s ∧ Upd S (grownS S w w') w w' := by
  have hd2 := hd.below hb
  obtain ⟨hSb, hbh, ⟨n, hown⟩, h4, h5⟩ := hd2.mapS b rfl
  have hG : GoodL (trimGo key g L) := GoodL.trim ⟨hd.sorted, hd.few, hd.fits⟩ key g
  have hgk := getL_trim key L g
  have hot : ∀ x, x ≠ key → getL (trimGo key g L) x = getL L x := fun x hx => getL_trim_other hx L g
  have hks : key.size ≤ 16 := by
    obtain ⟨x, hx⟩ := List.exists_mem_of_ne_nil _ hk2
    exact (isN_size (hd.fits _ (mem_getL.1 hx)).1).2
  obtain ⟨p', c', hv', _, _, hpn, hpb⟩ := hO.form
  have hgl := getL_le L key
  have hfew := hd.few
  by_cases hz : ((getL L key).drop g).length = 0
  · have hc := set_del h b n D key p' c' w2 hk hd2.ptr hown
    rw [hz] at hv'
    rw [← hv'] at hc
    refine hc.mono fun e w' hpost => ?_
    obtain ⟨he, hdel, hgr⟩ := hpost
    exact ⟨he, hd.del key hG (by rw [hgk]; exact List.length_eq_zero_iff.1 hz) hot hb hdel hgr⟩
  · have hsd := hd.size rfl
    have hc := set_some h b (Maps.size D) D key p' ((getL L key).drop g).length c' w2 (by omega) (by omega) (by rw [List.length_drop]; omega) hd2.ptr (OwnM.tight hown) (by unfold maxLen; omega)
    rw [← hv'] at hc
    refine hc.mono fun e w' hpost => ?_
    obtain ⟨he, hset⟩ := hpost
    refine ⟨he, hd.repl key hG (by rw [hgk]; exact fun e => hz (by rw [e]; rfl)) hot (Below.refl _ _) (w2 := w2) (by rw [hgk]; exact hO.base (Nat.zero_le _)) ⟨hb.os, hb.tape, hb.output, hb.size, fun k hk _ => hb.block k hk⟩ (Or.inr ?_) (setAt_some hbh hd2.ptr hd2.shut hd2.free0 hd2.free1 hset) (Or.inl rfl) (World.ownsMap.isMap hown) h4 h5⟩
    cases hvb : v'.ownBlock with
    | some k => exact ⟨k, rfl, (hO.block hvb).1⟩
    | none =>
      exfalso
      rw [hv'] at hvb
      cases p' with
      | none => exact hz (by rw [(hpn rfl).1]; rfl)
      | some a => simp [Value.ownBlock] at hvb
set_option maxRecDepth 10000 in
set_option maxHeartbeats 1600000 in
theorem trim_none {w : World} (hd : HdAt w h S L s m D row blk) (key : ByteArray) (n : Int) (hk : key.size ≤ maxLen) (h0 : 0 ≤ n) (h1 : n ≤ 9223372036854775807) (hg : goneN L key n = 0) :
    Calls Tryz.prog 27 #[.pointer (some ⟨h, 0, none⟩), .string key, .int .i64 n] w fun e w' => e = .returned (.tuple #[.int .i64 0, .nilIface]) ∧ w' = w := by
  have HOF : Hid (Calls Tryz.prog 38 #[.pointer (some ⟨h, 0, none⟩), .string key] w fun e w' => e = .returned (row key) ∧ w' = w) := of_any hd key hk
  obtain ⟨p, c, hrow, _, _, _, _⟩ := hd.form key
  have hl : (getL L key).length ≤ 60 := Nat.le_trans (getL_le _ _) hd.few
  unfold goneN at hg
  rw [hrow] at HOF
  clear hd hrow
  generalize (getL L key).length = len at *
  have d0 : decide (n < 0) = false := decide_eq_false (by omega)
  have d1 : wrap64 ((len : Int) - n) = (len : Int) - n := by unfold wrap64; omega
  have d2 : IntKind.i64.wrap ((len : Int) - n) = (len : Int) - n := by rw [IntKind.wrap_i64]; omega
  have d3 : ¬ (0 : Int) < (len : Int) - n := by omega
  have d4 : decide ((0 : Int) < (len : Int) - n) = false := decide_eq_false d3
  have d5 : max (0 : Int) ((len : Int) - n) = 0 := by omega
  clear hg
  go_enter Tryz.func27, Tryz.ntmps27
  go_wp2_with fail
  refine HOF.out.mono ?_
  rintro e w1 ⟨rfl, hw1⟩
  rw [hw1]
  clear hw1 w1 HOF
  go_wp2
  go_ret2
  exact ⟨rfl, rfl⟩
theorem vclone_any (gb off c : Nat) (l : List Ver) (w : World) (hl : l.length ≤ 1000) (hc : ∀ j u, (recVals verE l)[j]? = some u → w.cell? ⟨gb, off + j, none⟩ = some u) :
    Calls Tryz.prog 58 #[.slice (some ⟨gb, off, none⟩) l.length c] w fun e w' => ∃ v', e = .returned v' ∧ OwnR verE 49 w' w.heap.size v' l ∧ Below w.heap.size w w' := by
  obtain ⟨i0, hi0, hz0, hz1, hzb⟩ := info_parts verinfo
  refine (Tryz.slices_Clone i0 _ 5 48 hi0 hz0 hz1 hzb rfl (by decide) (fun w => by kernel_rfl) gb off l.length c (recVals verE l) w (len5 l) (by unfold maxLen; omega) (by omega) hc (recVals_one' verE l)).mono fun e w' hp => ?_
  obtain ⟨v', he, ho, _, hb⟩ := hp
  exact ⟨v', he, ho, hb⟩
set_option maxRecDepth 10000 in
set_option maxHeartbeats 1600000 in
theorem trim_some {w : World} (hd : HdAt w h S L s m D row blk) (key : ByteArray) (n : Int) (hk : key.size ≤ maxLen) (h0 : 0 ≤ n) (hg : 0 < goneN L key n) :
    Calls Tryz.prog 27 #[.pointer (some ⟨h, 0, none⟩), .string key, .int .i64 n] w fun e w' => e = .returned (.tuple #[.int .i64 ((goneN L key n : Nat) : Int), .nilIface]) ∧ HdOf w' h (grownS S w w') (trimL L key n) s ∧ Upd S (grownS S w w') w w' := by
  have HOF : Hid (Calls Tryz.prog 38 #[.pointer (some ⟨h, 0, none⟩), .string key] w fun e w' => e = .returned (row key) ∧ w' = w) := of_any hd key hk
  have hl : (getL L key).length ≤ 60 := Nat.le_trans (getL_le _ _) hd.few
  have hgn : ((goneN L key n : Nat) : Int) = ((getL L key).length : Int) - n := by unfold goneN at hg ⊢; omega
  have hgl : goneN L key n ≤ (getL L key).length := by omega
  have hne : getL L key ≠ [] := fun e => by rw [e] at hgl; simp at hgl; omega
  cases hm : m with
  | none =>
    exact absurd (by rw [hd.nothing hm]; rfl) hne
  | some b =>
  subst hm
  unfold trimL
  generalize hgg : goneN L key n = g at *
  clear hgg
  have HST : Hid (∀ w2 v', Below w.heap.size w w2 → OwnR verE 49 w2 w.heap.size v' ((getL L key).drop g) → Calls Tryz.prog 40 #[.pointer (some ⟨h, 0, none⟩), .string key, v'] w2 fun e w' => e = .returned (.tuple #[]) ∧ HdOf w' h (grownS S w w') (trimGo key g L) s ∧ Upd S (grownS S w w') w w') := fun w2 v' h1 h2 => set_trim hd key hk hne g h1 h2
  have hO := hd.own key
  rcases hO.2 with ⟨_, h2⟩ | ⟨gb, c, cur, hrow, _, hgb, hnc, _, _, _⟩
  · exact absurd (List.length_eq_zero_iff.1 h2) hne
  rw [hrow] at HOF hO
  have hcell : ∀ j u, (recVals verE (getL L key))[j]? = some u → w.cell? ⟨gb, j, none⟩ = some u := fun j u hj => by
    have := World.ownsRow.cells (g := gb) hO rfl j u hj
    rw [Addr.add_lit, Nat.zero_add] at this
    exact this
  have hld : ((getL L key).drop g).length = (getL L key).length - g := List.length_drop
  have HC1 : Hid (Calls Tryz.prog 58 #[.slice (some ⟨gb, g * 5, none⟩) ((getL L key).length - g) (c - g)] w fun e w' => ∃ v', e = .returned v' ∧ OwnR verE 49 w' w.heap.size v' ((getL L key).drop g) ∧ Below w.heap.size w w') := by
    have := vclone_any gb (g * 5) (c - g) ((getL L key).drop g) w (by rw [hld]; omega) (fun j u hj => hcell (g * 5 + j) u (by
      have hA : (recVals verE ((getL L key).take g)).length = g * 5 := by rw [len5, List.length_take]; congr 1; omega
      rw [← List.take_append_drop g (getL L key), recVals_append, List.getElem?_append_right (by rw [hA]; omega), hA, Nat.add_sub_cancel_left]
      exact hj))
    rw [hld] at this
    exact this
  have HC2 : Hid (c = g → Calls Tryz.prog 58 #[.slice (some ⟨gb, 0, none⟩) ((getL L key).length - g) (c - g)] w fun e w' => ∃ v', e = .returned v' ∧ OwnR verE 49 w' w.heap.size v' ((getL L key).drop g) ∧ Below w.heap.size w w') := fun hcg => by
    have hz : (getL L key).drop g = [] := List.drop_eq_nil_of_le (by omega)
    have := vclone_any gb 0 (c - g) ((getL L key).drop g) w (by rw [hld]; omega) (fun j u hj => by rw [hz] at hj; simp [recVals] at hj)
    rw [hld] at this
    exact this
  clear hd hO hrow hgb hcell hld hne
  generalize (getL L key).length = len at *
  have d0 : decide (n < 0) = false := decide_eq_false (by omega)
  have d1 : wrap64 ((len : Int) - n) = (g : Int) := by unfold wrap64; omega
  have d2 : IntKind.i64.wrap ((len : Int) - n) = (g : Int) := by rw [IntKind.wrap_i64]; omega
  have d3 : (0 : Int) < (g : Int) := by omega
  have d5 : max (0 : Int) (g : Int) = (g : Int) := by omega
  have d6 : (0 : Int) ≤ (g : Int) := by omega
  have d7 : (g : Int) ≤ (len : Int) := by omega
  have d8 : (len : Int) - n = (g : Int) := by omega
  clear hgn
  by_cases hcg : c = g
  · have HC := HC2.out hcg
    have hlc : len = c := by omega
    rw [hlc, hcg, Nat.sub_self] at HC
    have HC3 : Hid (Calls Tryz.prog 58 #[.slice (some ⟨gb, 0, none⟩) 0 0] w fun e w' => ∃ v', e = .returned v' ∧ OwnR verE 49 w' w.heap.size v' ((getL L key).drop g) ∧ Below w.heap.size w w') := HC
    subst hcg
    subst hlc
    clear HC HC1 HC2
    go_enter Tryz.func27, Tryz.ntmps27
    go_wp2_with fail
    refine HOF.out.mono ?_
    rintro e w1 ⟨rfl, hw1⟩
    rw [hw1]
    clear hw1 w1 HOF
    go_wp2_with fail
    refine HC3.out.mono ?_
    rintro e w2 ⟨v', rfl, hO2, hb2⟩
    have HS2 := HST.out w2 v' hb2 hO2
    clear hO2 hb2 HST
    go_wp2_with fail
    refine HS2.mono ?_
    rintro e w3 ⟨rfl, hH⟩
    have HH : Hid (HdOf w3 h (grownS S w w3) (trimGo key len L) s ∧ Upd S (grownS S w w3) w w3) := hH
    clear hH HS2
    go_wp2
    go_ret2
    exact ⟨rfl, HH.out⟩
  · clear HC2
    go_enter Tryz.func27, Tryz.ntmps27
    go_wp2_with fail
    refine HOF.out.mono ?_
    rintro e w1 ⟨rfl, hw1⟩
    rw [hw1]
    clear hw1 w1 HOF
    go_wp2_with fail
    refine HC1.out.mono ?_
    rintro e w2 ⟨v', rfl, hO2, hb2⟩
    have HS2 := HST.out w2 v' hb2 hO2
    clear hO2 hb2 HST
    go_wp2_with fail
    refine HS2.mono ?_
    rintro e w3 ⟨rfl, hH⟩
    have HH : Hid (HdOf w3 h (grownS S w w3) (trimGo key g L) s ∧ Upd S (grownS S w w3) w w3) := hH
    clear hH HS2
    go_wp2
    go_ret2
    exact ⟨rfl, HH.out⟩
theorem trim_any {w : World} (hd : HdOf w h S L s) (key : ByteArray) (n : Int) (hk : key.size ≤ maxLen) (h0 : 0 ≤ n) (h1 : n ≤ 9223372036854775807) :
    Calls Tryz.prog 27 #[.pointer (some ⟨h, 0, none⟩), .string key, .int .i64 n] w fun e w' => e = .returned (.tuple #[.int .i64 ((goneN L key n : Nat) : Int), .nilIface]) ∧ ∃ S', HdOf w' h S' (trimL L key n) s ∧ Upd S S' w w' := by
  obtain ⟨m, D, row, blk, hda⟩ := hd
  by_cases hg : goneN L key n = 0
  · refine (trim_none hda key n hk h0 h1 hg).mono fun e w' hp => ?_
    obtain ⟨he, hw⟩ := hp
    refine ⟨by rw [he, hg]; rfl, S, ?_, ?_⟩
    · rw [hw]
      unfold trimL
      rw [hg, trimGo_zero]
      exact ⟨m, D, row, blk, hda⟩
    · rw [hw]
      exact Upd.of_below (Below.refl _ _)
  · refine (trim_some hda key n hk h0 (by omega)).mono fun e w' hp => ?_
    exact ⟨hp.1, _, hp.2⟩
set_option maxRecDepth 10000 in
set_option maxHeartbeats 1600000 in
theorem trim_bad {ad : Nat → Addr} {w : World} (h : Nat) (key : ByteArray) (n : Int) (h0 : n < 0) (hE : HErrs w ad) :
    Calls Tryz.prog 27 #[.pointer (some ⟨h, 0, none⟩), .string key, .int .i64 n] w fun e w' => (∃ ev, e = .returned (.tuple #[.int .i64 0, ev]) ∧ BareIs ad ev 2) ∧ Below w.heap.size w w' := by
  have q1 := hE.c1
  have d0 : decide (n < 0) = true := decide_eq_true h0
  clear hE
  go_enter Tryz.func27, Tryz.ntmps27
  go_wp2
  go_quiet (fail)
  go_wp2
  go_ret2
  exact ⟨⟨_, rfl, bare_sent ad 1 (by decide)⟩, ⟨rfl, rfl, rfl, Nat.le_refl _, fun _ _ => rfl⟩⟩
set_option maxRecDepth 10000 in
theorem seal_set {w : World} (hd : HdAt w h S L s m D row blk) : Calls Tryz.prog 29 #[.pointer (some ⟨h, 0, none⟩)] w fun e w' => e = .returned (.tuple #[]) ∧ w' = w.setCell ⟨h, 1, none⟩ (.bool true) := by
  have q1 := hd.shut
  have f1 := hd.free1
  clear hd
  go_enter Tryz.func29, Tryz.ntmps29
  go_wp2
  go_end0
  exact ⟨rfl, rfl⟩
theorem seals_any {w : World} (hd : HdOf w h S L s) : Calls Tryz.prog 29 #[.pointer (some ⟨h, 0, none⟩)] w fun e w' => e = .returned (.tuple #[]) ∧ ∃ S', HdOf w' h S' L true ∧ Upd S S' w w' := by
  obtain ⟨m, D, row, blk, hd⟩ := hd
  refine (seal_set hd).mono fun e w' hp => ?_
  obtain ⟨he, rfl⟩ := hp
  have hblk : ∀ k, k ≠ h → (w.setCell ⟨h, 1, none⟩ (.bool true)).heap[k]? = w.heap[k]? := fun k hk => Deep.blk_setCell_other _ _ _ _ hk
  refine ⟨he, S, ⟨m, D, row, blk, hd.sorted, hd.few, hd.fits, fun k hk => by simpa using hd.inS k hk, hd.self, ?_, World.cell?_setCell_same _ _ _ hd.shut, by rw [World.frozen?_setCell]; exact hd.free0, by rw [World.frozen?_setCell]; exact hd.free1, hd.nothing, fun b hm => ?_, fun x => (hd.own x).same (fun k hk => hblk k ?_), hd.nilrow, hd.inB, hd.apart⟩, ⟨rfl, rfl, rfl, by simp, fun k _ hn => hblk k (fun e => hn (e ▸ hd.self)), fun k hk => Or.inl hk⟩⟩
  · rw [World.cell?_setCell_other _ _ _ _ (fun e => by have h2 : (1 : Nat) = 0 := congrArg Addr.off e; omega)]
    exact hd.ptr
  · obtain ⟨h1, h2, ⟨n, h3⟩, h4⟩ := hd.mapS b hm
    exact ⟨h1, h2, ⟨n, h3.same (hblk b h2)⟩, h4⟩
  · obtain ⟨_, h2, h3⟩ := hd.rowS hk
    rw [h3]
    exact (hd.inB x h2).2.2.1
set_option maxRecDepth 10000 in
theorem wipe_set {w : World} (hd : HdAt w h S L s m D row blk) : Calls Tryz.prog 30 #[.pointer (some ⟨h, 0, none⟩)] w fun e w' => e = .returned (.tuple #[]) ∧ w' = (w.setCell ⟨h, 0, none⟩ (.map none)).setCell ⟨h, 1, none⟩ (.bool false) := by
  have q0 := hd.ptr
  have q1 := hd.shut
  have f0 := hd.free0
  have f1 := hd.free1
  clear hd
  go_enter Tryz.func30, Tryz.ntmps30
  go_wp2
  go_end0
  exact ⟨rfl, rfl⟩
theorem wipe_any {w : World} (hd : HdOf w h S L s) : Calls Tryz.prog 30 #[.pointer (some ⟨h, 0, none⟩)] w fun e w' => e = .returned (.tuple #[]) ∧ ∃ S', HdOf w' h S' [] false ∧ Upd S S' w w' := by
  obtain ⟨m, D, row, blk, hd⟩ := hd
  refine (wipe_set hd).mono fun e w' hp => ?_
  obtain ⟨he, rfl⟩ := hp
  have ne01 : (⟨h, 0, none⟩ : Addr) ≠ ⟨h, 1, none⟩ := fun e => by have h2 : (0 : Nat) = 1 := congrArg Addr.off e; omega
  refine ⟨he, S, ⟨none, .nil, fun _ => .slice none 0 0, fun _ => 0, List.Pairwise.nil, by simp, (fun _ hx => by cases hx), fun k hk => by simpa using hd.inS k hk, hd.self, ?_, ?_, ?_, ?_, fun _ => rfl, (fun b hm => by cases hm), fun x => OwnR.nil _ _ _, fun _ _ => rfl, fun x hx => absurd rfl hx, fun x _ hx _ _ => absurd rfl hx⟩, ⟨rfl, rfl, rfl, by simp, fun k _ hn => ?_, fun k hk => Or.inl hk⟩⟩
  · rw [World.cell?_setCell_other _ _ _ _ (Ne.symm ne01)]
    exact World.cell?_setCell_same _ _ _ hd.ptr
  · refine World.cell?_setCell_same _ _ _ (u := .bool s) ?_
    rw [World.cell?_setCell_other _ _ _ _ ne01]
    exact hd.shut
  · rw [World.frozen?_setCell, World.frozen?_setCell]; exact hd.free0
  · rw [World.frozen?_setCell, World.frozen?_setCell]; exact hd.free1
  · have hk : k ≠ h := fun e => hn (e ▸ hd.self)
    rw [Deep.blk_setCell_other _ _ _ _ hk, Deep.blk_setCell_other _ _ _ _ hk]
end Go.Proofs.YtoapbjifkjehhaaGreatDoor
