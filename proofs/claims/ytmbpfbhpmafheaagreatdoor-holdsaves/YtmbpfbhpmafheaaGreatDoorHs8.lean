/- Texts laid together. -/
import Derived.Test.YtmbpfbhpmafheaaGreatDoorHs6
import Derived.Test.YtmbpfbhpmafheaaGreatDoorHs7
namespace Go.Proofs.YtmbpfbhpmafheaaGreatDoor
open Go.RowKit
section
variable {h : Nat} {S : Nat → Prop} {L : List Kep} {s : Bool} {m : Option Nat} {D : DataW Value} {row : ByteArray → Value} {blk : ByteArray → Nat}
theorem bare_sent (ad : Nat → Addr) (i : Nat) (hi : i < 12) : BareIs ad (.iface 206 (.pointer (some (ad i)))) ((i + 1 : Nat) : Int) := Or.inr ⟨i, hi, rfl, rfl⟩
/-- What a call of Put that changes nothing leaves. -/
def PutNot (w : World) (ad : Nat → Addr) (c : Int) (e : Ending) (w' : World) : Prop := (∃ ev, e = .returned ev ∧ BareIs ad ev c) ∧ Below w.heap.size w w'
theorem found_at {L : List Kep} (hs : SortedK L) {key : ByteArray} {x v : Ver} (hx : x ∈ getL L key) (hxt : tagOf x = tagOf v) : placeV (getL L key) (tagOf v) < (getL L key).length ∧ verAt (getL L key) (placeV (getL L key) (tagOf v)) = x := by
  obtain ⟨j, hj, rfl⟩ := List.getElem_of_mem hx
  have e : ∀ k (hk : k < (getL L key).length), (getL L key)[k] = verAt (getL L key) k := fun k hk => by
    have := verAt_get hk
    rw [List.getElem?_eq_getElem hk] at this
    exact Option.some.inj this
  have hss := getL_sorted hs key
  have hp : placeV (getL L key) (tagOf v) = j := by
    refine placeV_at (by omega) (fun i hi => ?_) (fun i hi1 hi2 => ?_)
    · have := verAt_lt hss hi hj
      rw [← e j hj, hxt] at this
      exact this
    · cases hl : lessB (tagOf (verAt (getL L key) i)) (tagOf v)
      · rfl
      · rcases Nat.lt_or_ge j i with h1 | h1
        · have := verAt_lt hss h1 hi2
          rw [← e j hj, hxt] at this
          have h2 := lessB_trans this hl
          rw [lessB_irrefl] at h2
          cases h2
        · obtain rfl : i = j := by omega
          rw [← e i hj, hxt, lessB_irrefl] at hl
          cases hl
  rw [hp]
  exact ⟨hj, (e j hj).symm⟩
theorem foundV_true {l : List Ver} {x : Ver} {t : Int × Int} (hx : x ∈ l) (hxt : tagOf x = t) : foundV l t = true := List.any_eq_true.2 ⟨x, hx, decide_eq_true hxt⟩
theorem foundV_false {l : List Ver} {t : Int × Int} (hn : ∀ x ∈ l, tagOf x ≠ t) : foundV l t = false := by
  unfold foundV
  rw [List.any_eq_false]
  intro x hx
  simpa using hn x hx
/-- Behind Insert, set lays the row into the map. -/
theorem set_after {w w8 w9 : World} (hd : HdAt w h S L false m D row blk) (key : ByteArray) (v : Ver) (hk : isN key = true) (hG : GoodL (putL L key v)) (hb : Below w.heap.size w w8) {v' : Value} (hO : OwnR verE 49 w9 0 v' (insV (getL L key) (placeV (getL L key) (tagOf v)) v)) (hg : w8.grownBy w9 (row key).ownBlock) (hwh : (v'.ownBlock = (row key).ownBlock ∧ (row key).ownBlock ≠ none) ∨ ∃ k, v'.ownBlock = some k ∧ w8.heap.size ≤ k) :
    Calls Tryz.prog 40 #[.pointer (some ⟨h, 0, none⟩), .string key, v'] w9 fun e w' => e = .returned (.tuple #[]) ∧ HdOf w' h (grownS S w w') (putL L key v) false ∧ Upd S (grownS S w w') w w' := by
  have hd8 := hd.below hb
  have hhlt : h < w.heap.size := hd.inS h hd.self
  have hsz := hb.size
  have hrh : some h ≠ (row key).ownBlock := fun e => by
    obtain ⟨_, h2, h3⟩ := hd.rowS e.symm
    exact (hd.inB key h2).2.2.1 h3.symm
  have hblk : w9.heap[h]? = w8.heap[h]? := hg.block h (by omega) hrh
  have q0 := (cell_same hblk 0).1.trans hd8.ptr
  have q1 := (cell_same hblk 1).1.trans hd8.shut
  have f0 := (cell_same hblk 0).2.trans hd8.free0
  have f1 := (cell_same hblk 1).2.trans hd8.free1
  have hksz := isN_size hk
  obtain ⟨p', c', hv', _, _, _, _⟩ := hO.form
  have hpl : placeV (getL L key) (tagOf v) ≤ (getL L key).length := List.findIdx_le_length
  have hlen := insV_length hpl v
  have hgl := getL_le L key
  have hfew := hd.few
  cases hm : m with
  | some b =>
    subst hm
    obtain ⟨hSb, hbh, ⟨n, hown⟩, h4, h5⟩ := hd8.mapS b rfl
    have hrb : some b ≠ (row key).ownBlock := fun e => by
      obtain ⟨_, h2, h3⟩ := hd.rowS e.symm
      exact (hd.inB key h2).2.2.2 b rfl h3.symm
    have hblt : b < w.heap.size := hd.inS b hSb
    have hown9 : OwnM w9 b (Maps.size D) D := (OwnM.tight hown).same (hg.block b (by omega) hrb)
    have hsd := hd.size rfl
    have hc := set_some h b (Maps.size D) D key p' (insV (getL L key) (placeV (getL L key) (tagOf v)) v).length c' w9 (by omega) (by omega) (by omega) q0 hown9 (by unfold maxLen; omega)
    rw [← hv'] at hc
    refine hc.mono fun e w' hpost => ?_
    obtain ⟨he, hset⟩ := hpost
    exact ⟨he, hd.put key v hG hb hO hg hwh (setAt_some hbh q0 q1 f0 f1 hset) (Or.inl rfl) (World.ownsMap.isMap hown) h4 h5⟩
  | none =>
    subst hm
    have hL := hd.nothing rfl
    have hc := set_none h key p' (insV (getL L key) (placeV (getL L key) (tagOf v)) v).length c' w9 (by omega) (by omega) (by omega) q0 f0
    rw [← hv'] at hc
    refine hc.mono fun e w' hpost => ?_
    obtain ⟨he, hset⟩ := hpost
    refine ⟨he, hd.put key v hG hb hO hg hwh (setAt_none q0 q1 f0 f1 hset) (Or.inr ⟨rfl, Nat.le_refl _⟩) Maps.isMap_empty (fun x _ => ?_) (fun x hx => ?_)⟩
    · rw [hL]
      rfl
    · rw [hL] at hx
      exact absurd rfl hx
theorem putR_not {s : Bool} {L : List Kep} {key : ByteArray} {v : Ver} {c : Int} (hc : 0 < c) (he : putErr L s key v = c) : putR L s key v = (c, L) := by unfold putR; rw [he, if_neg (by omega), if_neg (by omega)]
set_option maxRecDepth 10000 in
set_option maxHeartbeats 8000000 in
theorem put_all {s : Bool} {ad : Nat → Addr} {w : World} (hd : HdAt w h S L s m D row blk) (key : ByteArray) (v : Ver) (hk : key.size ≤ maxLen) (ht : v.text.size ≤ maxLen) (hE : HErrs w ad) {Q : Ending → World → Prop} (HN : ∀ c, putR L s key v = (c, L) → ∀ e w', PutNot w ad c e w' → Q e w') (H1 : putR L s key v = (0, putL L key v) → ∀ e w', e = .returned .nilIface ∧ HdOf w' h (grownS S w w') (putL L key v) s ∧ Upd S (grownS S w w') w w' → Q e w') :
    Calls Tryz.prog 16 #[.pointer (some ⟨h, 0, none⟩), .string key, verA v] w Q := by
  obtain ⟨w1, hw1⟩ : ∃ w1, w1 = w.alloc (.cells #[.int .i64 v.n, .int .i64 v.who, .int .i64 v.size, .int .i64 v.at_, .string v.text] 49) := ⟨_, rfl⟩
  have HW1 : Hid (w1 = w.alloc (.cells #[.int .i64 v.n, .int .i64 v.who, .int .i64 v.size, .int .i64 v.at_, .string v.text] 49)) := hw1
  have hb1 : Below w.heap.size w w1 := by rw [hw1]; exact (Below.refl _ _).alloc (Nat.le_refl _) _
  have hs1 : w.heap.size < w1.heap.size := by rw [hw1]; simp
  have b0 : w1.cell? ⟨w.heap.size, 0, none⟩ = some (.int .i64 v.n) := by rw [hw1]; simp
  have b1 : w1.cell? ⟨w.heap.size, 1, none⟩ = some (.int .i64 v.who) := by rw [hw1]; simp
  have b2 : w1.cell? ⟨w.heap.size, 2, none⟩ = some (.int .i64 v.size) := by rw [hw1]; simp
  have b3 : w1.cell? ⟨w.heap.size, 3, none⟩ = some (.int .i64 v.at_) := by rw [hw1]; simp
  have b4 : w1.cell? ⟨w.heap.size, 4, none⟩ = some (.string v.text) := by rw [hw1]; simp
  have HSE : Hid (Calls Tryz.prog 12 #[.pointer (some ⟨h, 0, none⟩)] w1 fun e w' => e = .returned (.bool s) ∧ w' = w1) := sealed_any (hd.below hb1)
  have HALL : Hid (∀ W, Below w1.heap.size w1 W → (W.cell? ⟨w.heap.size, 0, none⟩ = some (.int .i64 v.n) ∧ W.cell? ⟨w.heap.size, 1, none⟩ = some (.int .i64 v.who) ∧ W.cell? ⟨w.heap.size, 2, none⟩ = some (.int .i64 v.size) ∧ W.cell? ⟨w.heap.size, 3, none⟩ = some (.int .i64 v.at_) ∧ W.cell? ⟨w.heap.size, 4, none⟩ = some (.string v.text)) ∧ HErrs W ad ∧ HdAt W h S L s m D row blk ∧ Below w.heap.size w W) := fun W hW => ⟨⟨(hW.cell (p := ⟨w.heap.size, 0, none⟩) hs1).trans b0, (hW.cell (p := ⟨w.heap.size, 1, none⟩) hs1).trans b1, (hW.cell (p := ⟨w.heap.size, 2, none⟩) hs1).trans b2, (hW.cell (p := ⟨w.heap.size, 3, none⟩) hs1).trans b3, (hW.cell (p := ⟨w.heap.size, 4, none⟩) hs1).trans b4⟩, (hE.below hb1).below hW, (hd.below hb1).below hW, hb1.trans (hW.mono hb1.size)⟩
  have HCK : Hid (∀ W, Calls Tryz.prog 36 #[.string key] W fun e w' => e = .returned (.bool (isN key)) ∧ Below W.heap.size W w') := fun W => pname_any key W
  have HIB : Hid (∀ W, Calls Tryz.prog 37 #[.agg #[.int .i64 v.n, .int .i64 v.who, .int .i64 v.size, .int .i64 v.at_, .string v.text]] W fun e w' => e = .returned (.bool (verOk v)) ∧ Below W.heap.size W w') := fun W => inBounds_any v W ht
  have HB0 : Hid (Below w.heap.size w w1) := hb1
  have HNH : Hid (∀ c, putR L s key v = (c, L) → ∀ e w', PutNot w ad c e w' → Q e w') := HN
  have HHI : Hid (putR L s key v = (0, putL L key v) → ∀ e w', e = .returned .nilIface ∧ HdOf w' h (grownS S w w') (putL L key v) s ∧ Upd S (grownS S w w') w w' → Q e w') := H1
  clear hw1 hb1 b0 b1 b2 b3 b4 HN H1
  show Calls Tryz.prog 16 #[.pointer (some ⟨h, 0, none⟩), .string key, .agg #[.int .i64 v.n, .int .i64 v.who, .int .i64 v.size, .int .i64 v.at_, .string v.text]] w _
  go_enter Tryz.func16, Tryz.ntmps16
  go_wp2_with fail
  rw [← HW1.out]
  refine HSE.out.mono ?_
  rintro e w0 ⟨rfl, hw0⟩
  rw [hw0]
  clear hw0 w0 HSE HW1
  cases s with
  | true =>
    have q9 := (HALL.out w1 (Below.refl _ _)).2.1.c9
    have HQ : Hid (∀ e w', PutNot w ad 10 e w' → Q e w') := HNH.out 10 (putR_not (by decide) (if_pos rfl))
    clear HIB HCK HNH HHI HALL
    go_wp2
    exact HQ.out _ _ ⟨⟨_, rfl, bare_sent ad 9 (by decide)⟩, HB0.out⟩
  | false =>
    go_wp2_with fail
    refine (HCK.out _).mono ?_
    rintro e w3 ⟨rfl, hb3⟩
    have hb13 : Below w1.heap.size w1 w3 := hb3
    obtain ⟨⟨c0, c1, c2, c3, c4⟩, he3, hd3, hbw3⟩ := HALL.out w3 hb13
    clear hb3
    cases hN : isN key with
    | false =>
      have q3 := he3.c3
      have HBW3 : Hid (Below w.heap.size w w3) := hbw3
      have HQ : Hid (∀ e w', PutNot w ad 4 e w' → Q e w') := HNH.out 4 (putR_not (by decide) (by unfold putErr; rw [if_neg (by decide), if_neg (by rw [hN]; decide)]))
      clear hb13 he3 hd3 hbw3 c0 c1 c2 c3 c4 HIB HCK HNH HHI HALL
      go_wp2
      exact HQ.out _ _ ⟨⟨_, rfl, bare_sent ad 3 (by decide)⟩, HBW3.out⟩
    | true =>
      go_wp2_with fail
      refine (HIB.out _).mono ?_
      rintro e w4 ⟨rfl, hb4⟩
      have hb14 : Below w1.heap.size w1 w4 := hb13.trans (hb4.mono hb13.size)
      obtain ⟨⟨d0, d1, d2, d3, d4⟩, he4, hd4, hbw4⟩ := HALL.out w4 hb14
      clear hb4 hb13 c0 c1 c2 c3 c4 he3 hd3 hbw3 HIB
      cases hV : verOk v with
      | false =>
        have q1 := he4.c1
        have HBW4 : Hid (Below w.heap.size w w4) := hbw4
        have HQ : Hid (∀ e w', PutNot w ad 2 e w' → Q e w') := HNH.out 2 (putR_not (by decide) (by unfold putErr; rw [if_neg (by decide), if_pos hN, if_neg (by rw [hV]; decide)]))
        clear hb14 d0 d1 d2 d3 d4 he4 hd4 hbw4 HCK HNH HHI HALL
        go_wp2
        exact HQ.out _ _ ⟨⟨_, rfl, bare_sent ad 1 (by decide)⟩, HBW4.out⟩
      | true =>
        have hpe : putErr L false key v = putScan L key v 0 L.length := by unfold putErr; rw [if_neg (by decide), if_pos hN, if_pos hV]
        have HOF : Hid (Calls Tryz.prog 38 #[.pointer (some ⟨h, 0, none⟩), .string key] w4 fun e w' => e = .returned (row key) ∧ w' = w4) := of_any hd4 key hk
        obtain ⟨p, c, hrow, hrec, hlc, hpn, hpb⟩ := hd4.form key
        have HPL : Hid (Calls Tryz.prog 39 #[.slice p (getL L key).length c, .agg #[.int .i64 v.n, .int .i64 v.who]] w4 fun e w' => e = .returned (.tuple #[.int .i64 ((placeV (getL L key) (tagOf v) : Nat) : Int), .bool (foundV (getL L key) (tagOf v))]) ∧ Below w4.heap.size w4 w') := place_any p (getL L key) c (tagOf v) w4 (by have := getL_le L key; have := hd.few; omega) (getL_sorted hd.sorted key) hrec
        have HROW : Hid (row key = .slice p (getL L key).length c) := hrow
        rw [hrow] at HOF
        go_wp2_with fail
        refine HOF.out.mono ?_
        rintro e w0 ⟨rfl, hw0⟩
        rw [hw0]
        clear hw0 w0 HOF
        go_wp2_with fail
        refine HPL.out.mono ?_
        rintro e w5 ⟨rfl, hb5⟩
        have hb15 : Below w1.heap.size w1 w5 := hb14.trans (hb5.mono hb14.size)
        have HREC5 : Hid (Rec verE w5 p (getL L key)) := hrec.below hb5
        obtain ⟨⟨f0, f1, f2, f3, f4⟩, he5, hd5, hbw5⟩ := HALL.out w5 hb15
        have HD5 : Hid (HdAt w5 h S L false m D row blk) := hd5
        have HB15 : Hid (Below w1.heap.size w1 w5) := hb15
        have HBW5 : Hid (Below w.heap.size w w5) := hbw5
        clear hb5 hb14 hb15 d0 d1 d2 d3 d4 he4 hd4 hbw4 HPL hrow hrec hpn hpb hd5 hbw5 hlc
        have hfew : (getL L key).length ≤ 60 := Nat.le_trans (getL_le _ _) hd.few
        by_cases hx : ∃ x ∈ getL L key, tagOf x = tagOf v
        · obtain ⟨x, hx, hxt⟩ := hx
          have hsc := putScan_there hd.sorted hx hxt
          have hlt2 : placeV (getL L key) (tagOf v) < (getL L key).length := (found_at hd.sorted hx hxt).1
          obtain ⟨bb, oo, hpp, hblt, g0, g1, g2, g3, g4⟩ := ver_cells HREC5.out hlt2
          rw [(found_at hd.sorted hx hxt).2] at g0 g1 g2 g3 g4
          rw [foundV_true hx hxt]
          subst hpp
          by_cases hxv : x = v
          · have HQ : Hid (∀ e w', PutNot w ad 0 e w' → Q e w') := HNH.out 0 (by unfold putR; rw [hpe, hsc, if_pos hxv, if_neg (by decide), if_pos (by decide)])
            clear HNH HHI hsc hpe
            generalize placeV (getL L key) (tagOf v) = K at *
            generalize (getL L key).length = n at *
            have hi0 : (0 : Int) ≤ (K : Int) := by omega
            have hi1 : (K : Int) < (n : Int) := by omega
            clear he5 HREC5 HROW HD5 hd HALL HB15
            subst hxv
            clear hx hxt
            obtain ⟨xn, xw, xs, xa, xt⟩ := x
            go_wp2
            go_quiet (fail)
            go_wp2
            exact HQ.out _ _ ⟨⟨_, rfl, Or.inl ⟨rfl, rfl⟩⟩, HBW5.out.trans ⟨rfl, rfl, rfl, Nat.le_refl _, fun _ _ => rfl⟩⟩
          · have HQ : Hid (∀ e w', PutNot w ad 6 e w' → Q e w') := HNH.out 6 (putR_not (by decide) (by rw [hpe, hsc, if_neg hxv]))
            clear HNH HHI hsc hpe
            generalize placeV (getL L key) (tagOf v) = K at *
            generalize (getL L key).length = n at *
            have hi0 : (0 : Int) ≤ (K : Int) := by omega
            have hi1 : (K : Int) < (n : Int) := by omega
            have q5 := he5.c5
            clear he5 HREC5 HROW HD5 hd HALL HB15
            obtain ⟨xn, xw, xs, xa, xt⟩ := x
            obtain ⟨yn, yw, ys, ya, yt⟩ := v
            have hnw : xn = yn ∧ xw = yw := by simpa [tagOf] using hxt
            obtain ⟨rfl, rfl⟩ := hnw
            have walk : ((xs == ys) = false) ∨ xs = ys ∧ (((xa == ya) = false) ∨ xa = ya ∧ xt ≠ yt) := by
              by_cases h3 : xs = ys
              · refine Or.inr ⟨h3, ?_⟩
                by_cases h4 : xa = ya
                · refine Or.inr ⟨h4, fun h5 => hxv (by rw [h3, h4, h5])⟩
                · exact Or.inl (beq_eq_false_iff_ne.2 h4)
              · exact Or.inl (beq_eq_false_iff_ne.2 h3)
            clear hxv hx hxt
            rcases walk with g | ⟨rfl, g | ⟨rfl, g⟩⟩
            rotate_right
            · have d1 := toList_ne g
              have d2 := toList_beq g
              have d3 := bytes_beq g
              clear g
              go_wp2
              go_quiet (fail)
              go_wp2
              exact HQ.out _ _ ⟨⟨_, rfl, bare_sent ad 5 (by decide)⟩, HBW5.out.trans ⟨rfl, rfl, rfl, Nat.le_refl _, fun _ _ => rfl⟩⟩
            all_goals
              go_wp2
              go_quiet (fail)
              go_wp2
              exact HQ.out _ _ ⟨⟨_, rfl, bare_sent ad 5 (by decide)⟩, HBW5.out.trans ⟨rfl, rfl, rfl, Nat.le_refl _, fun _ _ => rfl⟩⟩
        · have hn : ∀ x ∈ getL L key, tagOf x ≠ tagOf v := fun x h1 h2 => hx ⟨x, h1, h2⟩
          have hsc := putScan_none hn L.length 0 (by omega)
          clear hx
          rw [foundV_false hn]
          by_cases hF : 60 ≤ L.length
          · have HQ : Hid (∀ e w', PutNot w ad 7 e w' → Q e w') := HNH.out 7 (putR_not (by decide) (by rw [hpe, hsc, if_pos hF]))
            clear HNH HHI hsc hpe
            have HCN : Hid (∀ W, Below w5.heap.size w5 W → Calls Tryz.prog 11 #[.pointer (some ⟨h, 0, none⟩)] W fun e w' => e = .returned (.int .i64 (L.length : Int)) ∧ Below W.heap.size W w') := fun W hW => count_any (HD5.out.below hW)
            have HE5 : Hid (HErrs w5 ad) := he5
            generalize placeV (getL L key) (tagOf v) = K at *
            generalize (getL L key).length = n at *
            have hc60 : (60 : Int) ≤ (L.length : Int) := by omega
            clear he5 HREC5 HROW HD5 hd HALL HB15 hF hn
            generalize L.length = N at *
            go_wp2
            go_quiet (fail)
            go_wp2_with fail
            refine (HCN.out (w5.drewN nq) ⟨rfl, rfl, rfl, Nat.le_refl _, fun _ _ => rfl⟩).mono ?_
            rintro e w6 ⟨rfl, hb6⟩
            have hb56 : Below w5.heap.size w5 w6 := ⟨hb6.os, hb6.tape, hb6.output, hb6.size, hb6.block⟩
            have q6 := (HE5.out.below hb56).c6
            have HB6 : Hid (Below w.heap.size w w6) := HBW5.out.trans (hb56.mono HBW5.out.size)
            clear hb6 hb56
            go_wp2
            exact HQ.out _ _ ⟨⟨_, rfl, bare_sent ad 6 (by decide)⟩, HB6.out⟩
          · have h0 : putErr L false key v = 0 := by rw [hpe, hsc, if_neg hF]
            have HQ : Hid (∀ e w', e = .returned .nilIface ∧ HdOf w' h (grownS S w w') (putL L key v) false ∧ Upd S (grownS S w w') w w' → Q e w') := HHI.out (by unfold putR; rw [if_pos h0])
            have hG : GoodL (putL L key v) := (GoodL.put (⟨hd.sorted, hd.few, hd.fits⟩ : GoodL L) h0).1
            replace hF : L.length < 60 := by omega
            clear HNH HHI hsc hpe h0
            have HCN : Hid (∀ W, Below w5.heap.size w5 W → Calls Tryz.prog 11 #[.pointer (some ⟨h, 0, none⟩)] W fun e w' => e = .returned (.int .i64 (L.length : Int)) ∧ Below W.heap.size W w') := fun W hW => count_any (HD5.out.below hW)
            have hlt60 : ¬ (60 : Int) ≤ (L.length : Int) := by omega
            have hpl : placeV (getL L key) (tagOf v) ≤ (getL L key).length := List.findIdx_le_length
            have HIN : Hid (∀ w7, Below w5.heap.size w5 w7 → Calls Tryz.prog 41 #[.slice p (getL L key).length c, .int .i64 ((placeV (getL L key) (tagOf v) : Nat) : Int), .slice (some ⟨w7.heap.size, 0, none⟩) 1 1] (w7.alloc (.cells #[.int .i64 v.n, .int .i64 v.who, .int .i64 v.size, .int .i64 v.at_, .string v.text] 49)) fun e w' => InsOk (w7.alloc (.cells #[.int .i64 v.n, .int .i64 v.who, .int .i64 v.size, .int .i64 v.at_, .string v.text] 49)) w' (.slice p (getL L key).length c) (getL L key) (placeV (getL L key) (tagOf v)) v e) := fun w7 hb7 => by
              have hd8 := (HD5.out.below hb7).below ((Below.refl _ _).alloc (Nat.le_refl _) (.cells #[.int .i64 v.n, .int .i64 v.who, .int .i64 v.size, .int .i64 v.at_, .string v.text] 49))
              have hO := hd8.own key
              rw [HROW.out] at hO
              refine insert_any _ (getL L key) _ v w7.heap.size 1 #[.int .i64 v.n, .int .i64 v.who, .int .i64 v.size, .int .i64 v.at_, .string v.text] 49 _ (by omega) hpl hO (fun j u hj => ?_) (fun k hk e => ?_) (heap_alloc_new _ _)
              · rw [World.cell?_alloc_at _ _ _ _ rfl]
                match j, hj with
                | 0, hj => exact hj
                | 1, hj => exact hj
                | 2, hj => exact hj
                | 3, hj => exact hj
                | 4, hj => exact hj
              · rw [← HROW.out] at hk
                have h1 := HD5.out.inS k (HD5.out.rowS hk).1
                have h2 := hb7.size
                omega
            have HSA : Hid (∀ w8 w9 v', Below w5.heap.size w5 w8 → OwnR verE 49 w9 0 v' (insV (getL L key) (placeV (getL L key) (tagOf v)) v) → w8.grownBy w9 (Value.slice p (getL L key).length c).ownBlock → ((v'.ownBlock = (Value.slice p (getL L key).length c).ownBlock ∧ (Value.slice p (getL L key).length c).ownBlock ≠ none) ∨ ∃ k, v'.ownBlock = some k ∧ w8.heap.size ≤ k) → Calls Tryz.prog 40 #[.pointer (some ⟨h, 0, none⟩), .string key, v'] w9 fun e w' => e = .returned (.tuple #[]) ∧ HdOf w' h (grownS S w w') (putL L key v) false ∧ Upd S (grownS S w w') w w') := fun w8 w9 v' h1 h2 h3 h4 => set_after hd key v hN hG (HBW5.out.trans (h1.mono HBW5.out.size)) h2 (by rw [HROW.out]; exact h3) (by rw [HROW.out]; exact h4)
            have HCP : Hid (∀ W, Calls Tryz.prog 42 #[.agg #[.int .i64 v.n, .int .i64 v.who, .int .i64 v.size, .int .i64 v.at_, .string v.text]] W fun e w' => e = .returned (.agg #[.int .i64 v.n, .int .i64 v.who, .int .i64 v.size, .int .i64 v.at_, .string v.text]) ∧ Below W.heap.size W w') := fun W => copied_any v W (by have := verOk_text hV; omega)
            have HC5 : Hid (∀ W, Below w5.heap.size w5 W → W.cell? ⟨w.heap.size, 0, none⟩ = some (.int .i64 v.n) ∧ W.cell? ⟨w.heap.size, 1, none⟩ = some (.int .i64 v.who) ∧ W.cell? ⟨w.heap.size, 2, none⟩ = some (.int .i64 v.size) ∧ W.cell? ⟨w.heap.size, 3, none⟩ = some (.int .i64 v.at_) ∧ W.cell? ⟨w.heap.size, 4, none⟩ = some (.string v.text)) := fun W hW => (HALL.out W (HB15.out.trans (hW.mono HB15.out.size))).1
            generalize placeV (getL L key) (tagOf v) = K at *
            clear hG he5 HREC5 HROW HD5 hd HALL HB15 hn hpl hF
            generalize L.length = N at *
            go_wp2
            go_quiet (fail)
            go_wp2_with fail
            refine (HCN.out (w5.drewN nq) ⟨rfl, rfl, rfl, Nat.le_refl _, fun _ _ => rfl⟩).mono ?_
            rintro e w6 ⟨rfl, hb6⟩
            have hb56 : Below w5.heap.size w5 w6 := ⟨hb6.os, hb6.tape, hb6.output, hb6.size, hb6.block⟩
            obtain ⟨k0, k1, k2, k3, k4⟩ := HC5.out w6 hb56
            have HB56 : Hid (Below w5.heap.size w5 w6) := hb56
            clear hb6 hb56 f0 f1 f2 f3 f4 HCN
            go_wp2_with fail
            refine (HCP.out _).mono ?_
            rintro e w7 ⟨rfl, hb7⟩
            have HB57 : Hid (Below w5.heap.size w5 w7) := HB56.out.trans (hb7.mono HB56.out.size)
            clear hb7 k0 k1 k2 k3 k4 HCP
            go_wp2_with fail
            refine (HIN.out w7 HB57.out).mono ?_
            rintro e w9 ⟨v', rfl, hO9, hg9, hwh9⟩
            have HO9 := HSA.out (w7.alloc (.cells #[.int .i64 v.n, .int .i64 v.who, .int .i64 v.size, .int .i64 v.at_, .string v.text] 49)) w9 v' (HB57.out.alloc HB57.out.size _) hO9 hg9 hwh9
            have HO10 : Hid (Calls Tryz.prog 40 #[.pointer (some ⟨h, 0, none⟩), .string key, v'] w9 fun e w' => e = .returned (.tuple #[]) ∧ HdOf w' h (grownS S w w') (putL L key v) false ∧ Upd S (grownS S w w') w w') := HO9
            clear HO9 hO9 hg9 hwh9 HSA HIN
            go_wp2_with fail
            refine HO10.out.mono ?_
            rintro e w10 ⟨rfl, hH⟩
            have HH : Hid (HdOf w10 h (grownS S w w10) (putL L key v) false ∧ Upd S (grownS S w w10) w w10) := hH
            clear hH
            go_wp2
            exact HQ.out _ _ ⟨rfl, HH.out⟩
/-- Put, whatever it is given. -/
theorem put_any {ad : Nat → Addr} {w : World} (hd : HdOf w h S L s) (key : ByteArray) (v : Ver) (hk : key.size ≤ maxLen) (ht : v.text.size ≤ maxLen) (hE : HErrs w ad) :
    Calls Tryz.prog 16 #[.pointer (some ⟨h, 0, none⟩), .string key, verA v] w fun e w' => (∃ ev, e = .returned ev ∧ BareIs ad ev (putR L s key v).1) ∧ ∃ S', HdOf w' h S' (putR L s key v).2 s ∧ Upd S S' w w' := by
  obtain ⟨m, D, row, blk, hda⟩ := id hd
  exact put_all hda key v hk ht hE (fun c e1 e w' hp => by rw [e1]; exact ⟨hp.1, S, hd.below hp.2, Upd.of_below hp.2⟩) (fun e1 e w' hp => by rw [e1]; exact ⟨⟨_, hp.1, Or.inl ⟨rfl, rfl⟩⟩, _, hp.2⟩)
end
section
variable {h : Nat} {S : Nat → Prop} {L : List Kep} {s : Bool} {m : Option Nat} {D : DataW Value} {row : ByteArray → Value} {blk : ByteArray → Nat}
set_option maxRecDepth 10000 in
set_option maxHeartbeats 1600000 in
/-- A key without versions goes out of the map. -/
theorem set_del (h b n : Nat) (D : DataW Value) (key : ByteArray) (p : Option Addr) (c : Nat) (w : World) (hk : key.size ≤ maxLen) (q0 : w.cell? ⟨h, 0, none⟩ = some (.map (some b))) (hown : OwnM w b n D) :
    Calls Tryz.prog 40 #[.pointer (some ⟨h, 0, none⟩), .string key, .slice p 0 c] w fun e w' => e = .returned (.tuple #[]) ∧ (∃ n, OwnM w' b n (D.del (litK key))) ∧ w.grownBy w' (some b) := by
  go_enter Tryz.func40, Tryz.ntmps40
  go_wp2_with (at_delete; refine wpList_delete_own _ rfl _ _ 37 9 rfl 57 keyedK Tryz.underlying37 anyR b n D rfl hown (.string key) (litK key) rfl (keyOfK hk) ?_; intro w2 hown2 hturn2; go_frame)
  try simp only [Exit.inBlock, Exit.then]
  refine bodyPost_ret (results_none rfl _ _ _) rfl ?_
  exact ⟨rfl, ⟨_, hown2⟩, hturn2.grown⟩
/-- A key's versions are gone: the hold holds L'. -/
theorem HdAt.del {w w2 w3 : World} {b : Nat} (hd : HdAt w h S L s (some b) D row blk) (key : ByteArray) {L' : List Kep} (hG : GoodL L') (hnk : getL L' key = []) (hot : ∀ x, x ≠ key → getL L' x = getL L x) (hb : Below w.heap.size w w2) (hown : ∃ n, OwnM w3 b n (D.del (litK key))) (hg : w2.grownBy w3 (some b)) :
    HdOf w3 h (grownS S w w3) L' s ∧ Upd S (grownS S w w3) w w3 := by
  have hsz1 := hb.size
  have hsz2 := hg.size
  have hS1 : ∀ k, S k → k < w.heap.size := hd.inS
  obtain ⟨hSb, hbh, _, h4, h5⟩ := hd.mapS b rfl
  have hhlt := hS1 h hd.self
  have hblk : ∀ k, k < w.heap.size → k ≠ b → w3.heap[k]? = w.heap[k]? := fun k hk hne => by
    rw [hg.block k (by omega) (fun e => hne (Option.some.inj e))]
    exact hb.block k hk
  have hh := hblk h hhlt (Ne.symm hbh)
  refine ⟨⟨some b, D.del (litK key), fun x => if x = key then .slice none 0 0 else row x, blk, ?_⟩, ⟨hg.os.trans hb.os, hg.tape.trans hb.tape, hg.output.trans hb.output, by omega, fun k hk hn => hblk k hk (fun e => hn (e ▸ hSb)), fun k hk => hk.2⟩⟩
  have hne : ∀ x, getL L' x ≠ [] → x ≠ key := fun x hx e => hx (e ▸ hnk)
  refine ⟨hG.sorted, hG.few, hG.fits, fun k hk => hk.1, ⟨by omega, Or.inl hd.self⟩, (cell_same hh 0).1.trans hd.ptr, (cell_same hh 1).1.trans hd.shut, (cell_same hh 0).2.trans hd.free0, (cell_same hh 1).2.trans hd.free1, (fun e => by cases e), fun b0 hb0 => ?_, fun x => ?_, fun x hx => ?_, fun x hx => ?_, fun x y hx hy hxy => ?_⟩
  · injection hb0 with hb0
    subst hb0
    have := hS1 b hSb
    refine ⟨⟨by omega, Or.inl hSb⟩, hbh, hown, fun x hx => ?_, fun x hx z => ?_⟩
    · by_cases e : x = key
      · subst e
        rw [Maps.has_del_same]
        simp [hnk]
      · rw [Maps.has_del_other (fun e2 => e (litK_inj e2)), h4 x hx, hot x e]
    · have e := hne x hx
      rw [Maps.atKey_del_other (fun e2 => e (litK_inj e2)), if_neg e]
      exact h5 x (by rw [← hot x e]; exact hx) z
  · show OwnR verE _ w3 0 (if x = key then .slice none 0 0 else row x) _
    by_cases e : x = key
    · subst e
      rw [if_pos rfl, hnk]
      exact OwnR.nil _ _ _
    · rw [if_neg e, hot x e]
      refine (hd.own x).same fun k hk => ?_
      obtain ⟨h1, h2, h3⟩ := hd.rowS hk
      exact hblk k (hS1 k h1) (by rw [h3]; exact (hd.inB x h2).2.2.2 b rfl)
  · show (if x = key then _ else row x) = _
    by_cases e : x = key
    · rw [if_pos e]
    · rw [if_neg e]
      exact hd.nilrow x (by rw [← hot x e]; exact hx)
  · have e := hne x hx
    show (if x = key then _ else row x).ownBlock = _ ∧ _
    rw [if_neg e]
    rw [hot x e] at hx
    obtain ⟨h1, h2, h3, h4⟩ := hd.inB x hx
    have := hS1 _ h2
    exact ⟨h1, ⟨by omega, Or.inl h2⟩, h3, h4⟩
  · have ex := hne x hx
    have ey := hne y hy
    exact hd.apart x y (by rw [← hot x ex]; exact hx) (by rw [← hot y ey]; exact hy) hxy
/-- Behind Clone, set lays what is left. -/
theorem set_trim {w w2 : World} {b : Nat} (hd : HdAt w h S L s (some b) D row blk) (key : ByteArray) (hk : key.size ≤ maxLen) (hk2 : getL L key ≠ []) (g : Nat) (hb : Below w.heap.size w w2) {v' : Value} (hO : OwnR verE 49 w2 w.heap.size v' ((getL L key).drop g)) :
    Calls Tryz.prog 40 #[.pointer (some ⟨h, 0, none⟩), .string key, v'] w2 fun e w' => e = .returned (.tuple #[]) ∧ HdOf w' h (grownS S w w') (trimGo key g L) s ∧ Upd S (grownS S w w') w w' := by
  have hd2 := hd.below hb
  obtain ⟨hSb, hbh, ⟨n, hown⟩, h4, h5⟩ := hd2.mapS b rfl
  have hG : GoodL (trimGo key g L) := GoodL.trim ⟨hd.sorted, hd.few, hd.fits⟩ key g
  have hgk := getL_trim key L g
  have hot : ∀ x, x ≠ key → getL (trimGo key g L) x = getL L x := fun x hx => getL_trim_other hx L g
  have hks : key.size ≤ 16 := by
    obtain ⟨x, hx⟩ := List.exists_mem_of_ne_nil _ hk2
    exact (isN_size (hd.fits _ (mem_getL.1 hx)).1).2
  obtain ⟨p', c', hv', _, _, hpn, hpb⟩ := hO.form
  have hgl := getL_le L key
  have hfew := hd.few
  by_cases hz : ((getL L key).drop g).length = 0
  · have hc := set_del h b n D key p' c' w2 hk hd2.ptr hown
    rw [hz] at hv'
    rw [← hv'] at hc
    refine hc.mono fun e w' hpost => ?_
    obtain ⟨he, hdel, hgr⟩ := hpost
    exact ⟨he, hd.del key hG (by rw [hgk]; exact List.length_eq_zero_iff.1 hz) hot hb hdel hgr⟩
  · have hsd := hd.size rfl
    have hc := set_some h b (Maps.size D) D key p' ((getL L key).drop g).length c' w2 (by omega) (by omega) (by rw [List.length_drop]; omega) hd2.ptr (OwnM.tight hown) (by unfold maxLen; omega)
    rw [← hv'] at hc
    refine hc.mono fun e w' hpost => ?_
    obtain ⟨he, hset⟩ := hpost
    refine ⟨he, hd.repl key hG (by rw [hgk]; exact fun e => hz (by rw [e]; rfl)) hot (Below.refl _ _) (w2 := w2) (by rw [hgk]; exact hO.base (Nat.zero_le _)) ⟨hb.os, hb.tape, hb.output, hb.size, fun k hk _ => hb.block k hk⟩ (Or.inr ?_) (setAt_some hbh hd2.ptr hd2.shut hd2.free0 hd2.free1 hset) (Or.inl rfl) (World.ownsMap.isMap hown) h4 h5⟩
    cases hvb : v'.ownBlock with
    | some k => exact ⟨k, rfl, (hO.block hvb).1⟩
    | none =>
      exfalso
      rw [hv'] at hvb
      cases p' with
      | none => exact hz (by rw [(hpn rfl).1]; rfl)
      | some a => simp [Value.ownBlock] at hvb
set_option maxRecDepth 10000 in
set_option maxHeartbeats 1600000 in
theorem trim_none {w : World} (hd : HdAt w h S L s m D row blk) (key : ByteArray) (n : Int) (hk : key.size ≤ maxLen) (h0 : 0 ≤ n) (h1 : n ≤ 9223372036854775807) (hg : goneN L key n = 0) :
    Calls Tryz.prog 27 #[.pointer (some ⟨h, 0, none⟩), .string key, .int .i64 n] w fun e w' => e = .returned (.tuple #[.int .i64 0, .nilIface]) ∧ w' = w := by
  have HOF : Hid (Calls Tryz.prog 38 #[.pointer (some ⟨h, 0, none⟩), .string key] w fun e w' => e = .returned (row key) ∧ w' = w) := of_any hd key hk
  obtain ⟨p, c, hrow, _, _, _, _⟩ := hd.form key
  have hl : (getL L key).length ≤ 60 := Nat.le_trans (getL_le _ _) hd.few
  unfold goneN at hg
  rw [hrow] at HOF
  clear hd hrow
  generalize (getL L key).length = len at *
  have d0 : decide (n < 0) = false := decide_eq_false (by omega)
  have d1 : wrap64 ((len : Int) - n) = (len : Int) - n := by unfold wrap64; omega
  have d2 : IntKind.i64.wrap ((len : Int) - n) = (len : Int) - n := by rw [IntKind.wrap_i64]; omega
  have d3 : ¬ (0 : Int) < (len : Int) - n := by omega
  have d4 : decide ((0 : Int) < (len : Int) - n) = false := decide_eq_false d3
  have d5 : max (0 : Int) ((len : Int) - n) = 0 := by omega
  clear hg
  go_enter Tryz.func27, Tryz.ntmps27
  go_wp2_with fail
  refine HOF.out.mono ?_
  rintro e w1 ⟨rfl, hw1⟩
  rw [hw1]
  clear hw1 w1 HOF
  go_wp2
  go_ret2
  exact ⟨rfl, rfl⟩
theorem vclone_any (gb off c : Nat) (l : List Ver) (w : World) (hl : l.length ≤ 1000) (hc : ∀ j u, (recVals verE l)[j]? = some u → w.cell? ⟨gb, off + j, none⟩ = some u) :
    Calls Tryz.prog 58 #[.slice (some ⟨gb, off, none⟩) l.length c] w fun e w' => ∃ v', e = .returned v' ∧ OwnR verE 49 w' w.heap.size v' l ∧ Below w.heap.size w w' := by
  obtain ⟨i0, hi0, hz0, hz1, hzb⟩ := info_parts verinfo
  refine (Tryz.slices_Clone i0 _ 5 48 hi0 hz0 hz1 hzb rfl (by decide) (fun w => by kernel_rfl) gb off l.length c (recVals verE l) w (len5 l) (by unfold maxLen; omega) (by omega) hc (recVals_one' verE l)).mono fun e w' hp => ?_
  obtain ⟨v', he, ho, _, hb⟩ := hp
  exact ⟨v', he, ho, hb⟩
set_option maxRecDepth 10000 in
set_option maxHeartbeats 1600000 in
theorem trim_some {w : World} (hd : HdAt w h S L s m D row blk) (key : ByteArray) (n : Int) (hk : key.size ≤ maxLen) (h0 : 0 ≤ n) (hg : 0 < goneN L key n) :
    Calls Tryz.prog 27 #[.pointer (some ⟨h, 0, none⟩), .string key, .int .i64 n] w fun e w' => e = .returned (.tuple #[.int .i64 ((goneN L key n : Nat) : Int), .nilIface]) ∧ HdOf w' h (grownS S w w') (trimL L key n) s ∧ Upd S (grownS S w w') w w' := by
  have HOF : Hid (Calls Tryz.prog 38 #[.pointer (some ⟨h, 0, none⟩), .string key] w fun e w' => e = .returned (row key) ∧ w' = w) := of_any hd key hk
  have hl : (getL L key).length ≤ 60 := Nat.le_trans (getL_le _ _) hd.few
  have hgn : ((goneN L key n : Nat) : Int) = ((getL L key).length : Int) - n := by unfold goneN at hg ⊢; omega
  have hgl : goneN L key n ≤ (getL L key).length := by omega
  have hne : getL L key ≠ [] := fun e => by rw [e] at hgl; simp at hgl; omega
  cases hm : m with
  | none =>
    exact absurd (by rw [hd.nothing hm]; rfl) hne
  | some b =>
  subst hm
  unfold trimL
  generalize hgg : goneN L key n = g at *
  clear hgg
  have HST : Hid (∀ w2 v', Below w.heap.size w w2 → OwnR verE 49 w2 w.heap.size v' ((getL L key).drop g) → Calls Tryz.prog 40 #[.pointer (some ⟨h, 0, none⟩), .string key, v'] w2 fun e w' => e = .returned (.tuple #[]) ∧ HdOf w' h (grownS S w w') (trimGo key g L) s ∧ Upd S (grownS S w w') w w') := fun w2 v' h1 h2 => set_trim hd key hk hne g h1 h2
  have hO := hd.own key
  rcases hO.2 with ⟨_, h2⟩ | ⟨gb, c, cur, hrow, _, hgb, hnc, _, _, _⟩
  · exact absurd (List.length_eq_zero_iff.1 h2) hne
  rw [hrow] at HOF hO
  have hcell : ∀ j u, (recVals verE (getL L key))[j]? = some u → w.cell? ⟨gb, j, none⟩ = some u := fun j u hj => by
    have := World.ownsRow.cells (g := gb) hO rfl j u hj
    rw [Addr.add_lit, Nat.zero_add] at this
    exact this
  have hld : ((getL L key).drop g).length = (getL L key).length - g := List.length_drop
  have HC1 : Hid (Calls Tryz.prog 58 #[.slice (some ⟨gb, g * 5, none⟩) ((getL L key).length - g) (c - g)] w fun e w' => ∃ v', e = .returned v' ∧ OwnR verE 49 w' w.heap.size v' ((getL L key).drop g) ∧ Below w.heap.size w w') := by
    have := vclone_any gb (g * 5) (c - g) ((getL L key).drop g) w (by rw [hld]; omega) (fun j u hj => hcell (g * 5 + j) u (by
      have hA : (recVals verE ((getL L key).take g)).length = g * 5 := by rw [len5, List.length_take]; congr 1; omega
      rw [← List.take_append_drop g (getL L key), recVals_append, List.getElem?_append_right (by rw [hA]; omega), hA, Nat.add_sub_cancel_left]
      exact hj))
    rw [hld] at this
    exact this
  have HC2 : Hid (c = g → Calls Tryz.prog 58 #[.slice (some ⟨gb, 0, none⟩) ((getL L key).length - g) (c - g)] w fun e w' => ∃ v', e = .returned v' ∧ OwnR verE 49 w' w.heap.size v' ((getL L key).drop g) ∧ Below w.heap.size w w') := fun hcg => by
    have hz : (getL L key).drop g = [] := List.drop_eq_nil_of_le (by omega)
    have := vclone_any gb 0 (c - g) ((getL L key).drop g) w (by rw [hld]; omega) (fun j u hj => by rw [hz] at hj; simp [recVals] at hj)
    rw [hld] at this
    exact this
  clear hd hO hrow hgb hcell hld hne
  generalize (getL L key).length = len at *
  have d0 : decide (n < 0) = false := decide_eq_false (by omega)
  have d1 : wrap64 ((len : Int) - n) = (g : Int) := by unfold wrap64; omega
  have d2 : IntKind.i64.wrap ((len : Int) - n) = (g : Int) := by rw [IntKind.wrap_i64]; omega
  have d3 : (0 : Int) < (g : Int) := by omega
  have d5 : max (0 : Int) (g : Int) = (g : Int) := by omega
  have d6 : (0 : Int) ≤ (g : Int) := by omega
  have d7 : (g : Int) ≤ (len : Int) := by omega
  have d8 : (len : Int) - n = (g : Int) := by omega
  clear hgn
  by_cases hcg : c = g
  · have HC := HC2.out hcg
    have hlc : len = c := by omega
    rw [hlc, hcg, Nat.sub_self] at HC
    have HC3 : Hid (Calls Tryz.prog 58 #[.slice (some ⟨gb, 0, none⟩) 0 0] w fun e w' => ∃ v', e = .returned v' ∧ OwnR verE 49 w' w.heap.size v' ((getL L key).drop g) ∧ Below w.heap.size w w') := HC
    subst hcg
    subst hlc
    clear HC HC1 HC2
    go_enter Tryz.func27, Tryz.ntmps27
    go_wp2_with fail
    refine HOF.out.mono ?_
    rintro e w1 ⟨rfl, hw1⟩
    rw [hw1]
    clear hw1 w1 HOF
    go_wp2_with fail
    refine HC3.out.mono ?_
    rintro e w2 ⟨v', rfl, hO2, hb2⟩
    have HS2 := HST.out w2 v' hb2 hO2
    clear hO2 hb2 HST
    go_wp2_with fail
    refine HS2.mono ?_
    rintro e w3 ⟨rfl, hH⟩
    have HH : Hid (HdOf w3 h (grownS S w w3) (trimGo key len L) s ∧ Upd S (grownS S w w3) w w3) := hH
    clear hH HS2
    go_wp2
    go_ret2
    exact ⟨rfl, HH.out⟩
  · clear HC2
    go_enter Tryz.func27, Tryz.ntmps27
    go_wp2_with fail
    refine HOF.out.mono ?_
    rintro e w1 ⟨rfl, hw1⟩
    rw [hw1]
    clear hw1 w1 HOF
    go_wp2_with fail
    refine HC1.out.mono ?_
    rintro e w2 ⟨v', rfl, hO2, hb2⟩
    have HS2 := HST.out w2 v' hb2 hO2
    clear hO2 hb2 HST
    go_wp2_with fail
    refine HS2.mono ?_
    rintro e w3 ⟨rfl, hH⟩
    have HH : Hid (HdOf w3 h (grownS S w w3) (trimGo key g L) s ∧ Upd S (grownS S w w3) w w3) := hH
    clear hH HS2
    go_wp2
    go_ret2
    exact ⟨rfl, HH.out⟩
theorem trim_any {w : World} (hd : HdOf w h S L s) (key : ByteArray) (n : Int) (hk : key.size ≤ maxLen) (h0 : 0 ≤ n) (h1 : n ≤ 9223372036854775807) :
    Calls Tryz.prog 27 #[.pointer (some ⟨h, 0, none⟩), .string key, .int .i64 n] w fun e w' => e = .returned (.tuple #[.int .i64 ((goneN L key n : Nat) : Int), .nilIface]) ∧ ∃ S', HdOf w' h S' (trimL L key n) s ∧ Upd S S' w w' := by
  obtain ⟨m, D, row, blk, hda⟩ := hd
  by_cases hg : goneN L key n = 0
  · refine (trim_none hda key n hk h0 h1 hg).mono fun e w' hp => ?_
    obtain ⟨he, hw⟩ := hp
    refine ⟨by rw [he, hg]; rfl, S, ?_, ?_⟩
    · rw [hw]
      unfold trimL
      rw [hg, trimGo_zero]
      exact ⟨m, D, row, blk, hda⟩
    · rw [hw]
      exact Upd.of_below (Below.refl _ _)
  · refine (trim_some hda key n hk h0 (by omega)).mono fun e w' hp => ?_
    exact ⟨hp.1, _, hp.2⟩
set_option maxRecDepth 10000 in
set_option maxHeartbeats 1600000 in
theorem trim_bad {ad : Nat → Addr} {w : World} (h : Nat) (key : ByteArray) (n : Int) (h0 : n < 0) (hE : HErrs w ad) :
    Calls Tryz.prog 27 #[.pointer (some ⟨h, 0, none⟩), .string key, .int .i64 n] w fun e w' => (∃ ev, e = .returned (.tuple #[.int .i64 0, ev]) ∧ BareIs ad ev 2) ∧ Below w.heap.size w w' := by
  have q1 := hE.c1
  have d0 : decide (n < 0) = true := decide_eq_true h0
  clear hE
  go_enter Tryz.func27, Tryz.ntmps27
  go_wp2
  go_quiet (fail)
  go_wp2
  go_ret2
  exact ⟨⟨_, rfl, bare_sent ad 1 (by decide)⟩, ⟨rfl, rfl, rfl, Nat.le_refl _, fun _ _ => rfl⟩⟩
set_option maxRecDepth 10000 in
theorem wipe_set {w : World} (hd : HdAt w h S L s m D row blk) : Calls Tryz.prog 30 #[.pointer (some ⟨h, 0, none⟩)] w fun e w' => e = .returned (.tuple #[]) ∧ w' = (w.setCell ⟨h, 0, none⟩ (.map none)).setCell ⟨h, 1, none⟩ (.bool false) := by
  have q0 := hd.ptr
  have q1 := hd.shut
  have f0 := hd.free0
  have f1 := hd.free1
  clear hd
  go_enter Tryz.func30, Tryz.ntmps30
  go_wp2
  go_end0
  exact ⟨rfl, rfl⟩
theorem wipe_any {w : World} (hd : HdOf w h S L s) : Calls Tryz.prog 30 #[.pointer (some ⟨h, 0, none⟩)] w fun e w' => e = .returned (.tuple #[]) ∧ ∃ S', HdOf w' h S' [] false ∧ Upd S S' w w' := by
  obtain ⟨m, D, row, blk, hd⟩ := hd
  refine (wipe_set hd).mono fun e w' hp => ?_
  obtain ⟨he, rfl⟩ := hp
  have ne01 : (⟨h, 0, none⟩ : Addr) ≠ ⟨h, 1, none⟩ := fun e => by have h2 : (0 : Nat) = 1 := congrArg Addr.off e; omega
  refine ⟨he, S, ⟨none, .nil, fun _ => .slice none 0 0, fun _ => 0, List.Pairwise.nil, by simp, (fun _ hx => by cases hx), fun k hk => by simpa using hd.inS k hk, hd.self, ?_, ?_, ?_, ?_, fun _ => rfl, (fun b hm => by cases hm), fun x => OwnR.nil _ _ _, fun _ _ => rfl, fun x hx => absurd rfl hx, fun x _ hx _ _ => absurd rfl hx⟩, ⟨rfl, rfl, rfl, by simp, fun k _ hn => ?_, fun k hk => Or.inl hk⟩⟩
  · rw [World.cell?_setCell_other _ _ _ _ (Ne.symm ne01)]
    exact World.cell?_setCell_same _ _ _ hd.ptr
  · refine World.cell?_setCell_same _ _ _ (u := .bool s) ?_
    rw [World.cell?_setCell_other _ _ _ _ ne01]
    exact hd.shut
  · rw [World.frozen?_setCell, World.frozen?_setCell]; exact hd.free0
  · rw [World.frozen?_setCell, World.frozen?_setCell]; exact hd.free1
  · have hk : k ≠ h := fun e => hn (e ▸ hd.self)
    rw [Deep.blk_setCell_other _ _ _ _ hk, Deep.blk_setCell_other _ _ _ _ hk]
end
section
open Go.Sort
set_option maxRecDepth 10000 in
set_option maxHeartbeats 1000000 in
theorem less_any (a b : Int × Int) (w : World) : Calls Tryz.prog 19 #[.agg #[.int .i64 a.1, .int .i64 a.2], .agg #[.int .i64 b.1, .int .i64 b.2]] w fun e w' => e = .returned (.bool (lessB a b)) ∧ ∃ q os, w' = grow (w.drewN q) os := by
  have HC : Hid (∀ W, Calls Tryz.prog 43 #[.agg #[.int .i64 a.1, .int .i64 a.2], .agg #[.int .i64 b.1, .int .i64 b.2]] W fun e w' => e = .returned (.int .i64 (tagC a b)) ∧ ∃ n os, w' = grow (W.drewN n) os) := fun W => compare_any a b W
  have HR : Hid (decide (tagC a b < 0) = lessB a b) := tagC_lt
  generalize tagC a b = c at *
  generalize lessB a b = r at *
  obtain ⟨a1, a2⟩ := a
  obtain ⟨b1, b2⟩ := b
  have HG : Hid (∃ os, (w.alloc (.cells #[.int .i64 a1, .int .i64 a2] 45)).alloc (.cells #[.int .i64 b1, .int .i64 b2] 45) = grow w os) := ⟨_, by rw [alloc_eq_grow, alloc_eq_grow, grow_grow]⟩
  go_enter Tryz.func19, Tryz.ntmps19
  go_wp2_with fail
  refine (HC.out _).mono ?_
  rintro e w2 ⟨rfl, n, os, hw2⟩
  have HE : Hid (∃ q os, w2 = grow (w.drewN q) os) := by
    obtain ⟨os0, h0⟩ := HG.out
    exact ⟨n, os0 ++ os, by rw [hw2, h0, grow_drewN, grow_grow]⟩
  clear hw2 HG
  go_wp2
  go_ret
  exact ⟨by rw [← HR.out]; rfl, HE.out⟩
end
section
variable {h : Nat} {S : Nat → Prop} {L : List Kep} {s : Bool} {m : Option Nat} {D : DataW Value} {row : ByteArray → Value} {blk : ByteArray → Nat}
set_option maxRecDepth 10000 in
set_option maxHeartbeats 2000000 in
theorem last_any {w : World} (hd : HdAt w h S L s m D row blk) (key : ByteArray) (hk : key.size ≤ maxLen) :
    Calls Tryz.prog 18 #[.pointer (some ⟨h, 0, none⟩), .string key] w fun e w' => e = .returned (.tuple #[.agg #[.int .i64 (lastT (getL L key)).1, .int .i64 (lastT (getL L key)).2], .bool (decide (0 < (getL L key).length))]) ∧ Below w.heap.size w w' := by
  have hb2 : Below w.heap.size w (w.alloc (.cells #[.int .i64 0, .int .i64 0] 45)) := (Below.refl _ _).alloc (Nat.le_refl _) _
  have HOF : Hid (Calls Tryz.prog 38 #[.pointer (some ⟨h, 0, none⟩), .string key] (w.alloc (.cells #[.int .i64 0, .int .i64 0] 45)) fun e w' => e = .returned (row key) ∧ w' = w.alloc (.cells #[.int .i64 0, .int .i64 0] 45)) := of_any (hd.below hb2) key hk
  obtain ⟨p, c, hrow, hrec, hlc, hpn, hpb⟩ := hd.form key
  have HREC : Hid (Rec verE (w.alloc (.cells #[.int .i64 0, .int .i64 0] 45)) p (getL L key)) := hrec.below hb2
  have hl : (getL L key).length ≤ 60 := Nat.le_trans (getL_le _ _) hd.few
  have HB : Hid (Below w.heap.size w (w.alloc (.cells #[.int .i64 0, .int .i64 0] 45))) := hb2
  rw [hrow] at HOF
  clear hd hrow hrec hpn hpb hb2
  generalize getL L key = l at *
  by_cases h0 : l.length = 0
  · have HE : Hid ((.tuple #[.agg #[.int .i64 (lastT l).1, .int .i64 (lastT l).2], .bool (decide (0 < l.length))] : Value) = .tuple #[.agg #[.int .i64 0, .int .i64 0], .bool false]) := by
      show _ = _
      rw [List.length_eq_zero_iff.1 h0]
      rfl
    rw [HE.out]
    rw [h0] at HOF
    go_enter Tryz.func18, Tryz.ntmps18
    go_wp2_with fail
    refine HOF.out.mono ?_
    rintro e w1 ⟨rfl, hw1⟩
    rw [hw1]
    clear hw1 w1 HOF
    go_wp2
    exact bodyPost_ret (v := .tuple #[.agg #[.int .i64 0, .int .i64 0], .bool false]) (by simp [results, Tryz.results18, go_sem]) rfl ⟨rfl, (Below.refl _ _).alloc (Nat.le_refl _) _⟩
  · have hil : l.length - 1 < l.length := by omega
    obtain ⟨b, o, hpp, hblt, c0, c1, c2, c3, c4⟩ := ver_cells HREC.out hil
    have HE : Hid ((.tuple #[.agg #[.int .i64 (lastT l).1, .int .i64 (lastT l).2], .bool (decide (0 < l.length))] : Value) = .tuple #[.agg #[.int .i64 (verAt l (l.length - 1)).n, .int .i64 (verAt l (l.length - 1)).who], .bool true]) := by
      show _ = _
      rw [decide_eq_true (by omega)]
      rfl
    subst hpp
    rw [HE.out]
    generalize verAt l (l.length - 1) = y at *
    obtain ⟨k, hk2⟩ : ∃ k, l.length = k + 1 := ⟨l.length - 1, by omega⟩
    rw [hk2] at HOF c0 c1 c2 c3 c4 hl
    have ek : k + 1 - 1 = k := by omega
    rw [ek] at c0 c1 c2 c3 c4
    have hi0 : (0 : Int) ≤ (k : Int) := by omega
    have hi1 : (k : Int) < (k : Int) + 1 := by omega
    clear hk2 HE hil h0 ek hlc HREC c2 c3 c4
    have hne : ¬ ((k : Int) + 1 = 0) := by omega
    go_enter Tryz.func18, Tryz.ntmps18
    go_wp2_with fail
    refine HOF.out.mono ?_
    rintro e w1 ⟨rfl, hw1⟩
    rw [hw1]
    clear hw1 w1 HOF
    go_wp2
    exact bodyPost_ret (v := .tuple #[.agg #[.int .i64 y.n, .int .i64 y.who], .bool true]) (by simp [results, Tryz.results18, go_sem]) rfl ⟨rfl, (Below.refl _ _).alloc (Nat.le_refl _) _⟩
end
theorem Sent.herrs {w : World} {ad : Nat → Addr} (h : Sent w ad) : HErrs w ad := ⟨h.c1, h.c3, h.c5, h.c6, h.c9⟩
theorem holdOk (ad : Nat → Addr) : HoldOk ad HdOf where
  lt := fun ⟨_, _, _, _, hd⟩ k hk => hd.inS k hk
  keep := fun hd hs hb => hd.keep hs hb
  zero := fun w => hd_zero w
  less := fun a b w => less_any a b w
  count := fun ⟨_, _, _, _, hd⟩ => count_any hd
  get := fun key hk ⟨_, _, _, _, hd⟩ => get_any hd key hk
  last := fun key hk ⟨_, _, _, _, hd⟩ => last_any hd key hk
  put := fun key v hk ht hd hE => put_any hd key v hk ht hE.herrs
  sealed_ := fun ⟨_, _, _, _, hd⟩ => (sealed_any hd).mono fun e w' ⟨he, hw⟩ => ⟨he, by rw [hw]; exact Below.refl _ _⟩
  keys := fun ⟨_, _, _, _, hd⟩ => keys_any hd
  trim := fun key n hk h0 h1 hd => trim_any hd key n hk h0 h1
  trimBad := fun {w h S L s} key n _ h0 _ _ hE => trim_bad h key n h0 hE.herrs
  seals := fun hd => seals_any hd
  wipe := fun hd => wipe_any hd
end Go.Proofs.YtmbpfbhpmafheaaGreatDoor
