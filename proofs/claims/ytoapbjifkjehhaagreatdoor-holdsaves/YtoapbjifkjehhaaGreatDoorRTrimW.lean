/- The document's own hold: Trim. -/
import Derived.Test.YtoapbjifkjehhaaGreatDoorRHoldW
import Derived.Deep.OwnRows
namespace Go.Proofs.YtoapbjifkjehhaaGreatDoor
open Go.RowKit
/-- From w to w' nothing that was there is written but block h. -/
structure Turn (h : Nat) (w w' : World) : Prop where
  os : w'.os = w.os
  tape : w'.tape = w.tape
  output : w'.output = w.output
  size : w.heap.size ≤ w'.heap.size
  block : ∀ k, k < w.heap.size → k ≠ h → w'.heap[k]? = w.heap[k]?
  row : w'.cell? ⟨h, 0, none⟩ = w.cell? ⟨h, 0, none⟩ ∨ ∀ b o n c, w'.cell? ⟨h, 0, none⟩ = some (.slice (some ⟨b, o, none⟩) n c) → w.heap.size ≤ b
theorem Turn.of_below {h : Nat} {w w' : World} (hlt : h < w.heap.size) (hb : Below w.heap.size w w') : Turn h w w' := ⟨hb.os, hb.tape, hb.output, hb.size, fun k hk _ => hb.block k hk, Or.inl (hb.cell (p := ⟨h, 0, none⟩) hlt)⟩
theorem Turn.trans {h : Nat} {w w' w'' : World} (h1 : Turn h w w') (h2 : Turn h w' w'') : Turn h w w'' := ⟨h2.os.trans h1.os, h2.tape.trans h1.tape, h2.output.trans h1.output, Nat.le_trans h1.size h2.size, fun k hk hne => (h2.block k (Nat.lt_of_lt_of_le hk h1.size) hne).trans (h1.block k hk hne), by
  rcases h2.row with h3 | h3
  · rcases h1.row with h4 | h4
    · exact Or.inl (h3.trans h4)
    · exact Or.inr fun b o n c e => h4 b o n c (by rw [← h3]; exact e)
  · exact Or.inr fun b o n c e => Nat.le_trans h1.size (h3 b o n c e)⟩
theorem Turn.cell {h : Nat} {w w' : World} (h1 : Turn h w w') {p : Addr} (hp : p.block < w.heap.size) (hne : p.block ≠ h) : w'.cell? p = w.cell? p := by
  have := h1.block p.block hp hne
  unfold World.cell?
  rw [this]
theorem kepinfo : (Tryz.prog.info? 51).map (fun i => (i.zero, i.size, i.bytes)) = some (some (.agg #[.string ⟨#[]⟩, .int .i64 0, .int .i64 0, .int .i64 0, .int .i64 0, .string ⟨#[]⟩]), 6, 64) := by kernel_rfl
theorem MHold.store {w w' : World} {h : Nat} {L M : List Kep} {s : Bool} (hm : MHold w h L s) (hb : Below w.heap.size w w') {v : Value} (hO : OwnR kepE 51 w' w.heap.size v M) : MHold (w'.setCell ⟨h, 0, none⟩ v) h M s ∧ Turn h w (w'.setCell ⟨h, 0, none⟩ v) := by
  have hm' := hm.below hb
  obtain ⟨p0, c0, q0, _, _, _, _⟩ := hm'.row
  have hlt0 : h < w.heap.size := by
    obtain ⟨p1, c1, q1, _⟩ := hm.row
    exact lt_of_cellH q1
  obtain ⟨p, c, rfl, hr, hc, hn, hblk⟩ := hO.form
  refine ⟨⟨⟨p, c, World.cell?_setCell_same _ _ _ q0, ?_, hc, hn, fun b o e => ?_⟩, ?_, by rw [World.frozen?_setCell]; exact hm'.free0, by rw [World.frozen?_setCell]; exact hm'.free1⟩, ⟨hb.os, hb.tape, hb.output, by simpa using hb.size, fun k hk hne => (Deep.blk_setCell_other _ _ _ _ hne).trans (hb.block k hk), Or.inr fun b o n c' e => ?_⟩⟩
  · rcases hr with hr | ⟨b, o, hp, hlt, hcell⟩
    · exact Or.inl hr
    · refine Or.inr ⟨b, o, hp, by simpa using hlt, fun i x hx j u hu => ?_⟩
      have hbb := (hblk b o hp).1
      rw [World.cell?_setCell_other _ _ _ _ (fun e => by have h2 : h = b := congrArg Addr.block e; omega)]
      exact hcell i x hx j u hu
  · have := (hblk b o e).1
    omega
  · rw [World.cell?_setCell_other _ _ _ _ (fun e => by have h2 : (0 : Nat) = 1 := congrArg Addr.off e; omega)]
    exact hm'.sealed_
  · rw [World.cell?_setCell_same _ _ _ q0] at e
    obtain ⟨h1, _, _⟩ := Value.slice.inj (Option.some.inj e)
    exact (hblk b o h1).1
set_option maxRecDepth 10000 in
set_option maxHeartbeats 8000000 in
theorem rtrim_any (h : Nat) (L : List Kep) (s : Bool) (key : ByteArray) (keep : Int) (w : World) (hl : L.length ≤ 900000) (hk0 : 0 ≤ keep) (hk1 : keep ≤ 9223372036854775807) (hm : MHold w h L s) :
    Calls Tryz.prog 28 #[.pointer (some ⟨h, 0, none⟩), .string key, .int .i64 keep] w fun e w' => e = .returned (.int .i64 ((goneN L key keep : Nat) : Int)) ∧ MHold w' h (trimL L key keep) s ∧ Turn h w w' := by
  have HM : Hid (MHold w h L s) := hm
  have HG := rget_any h L s key w (by omega) hm
  obtain ⟨p, c, q0, hrec, hc, hn, hne⟩ := hm.row
  have HREC : Hid (Rec kepE w p L) := hrec
  have hlt := lt_of_cellH q0
  have HQ0 : Hid (w.cell? ⟨h, 0, none⟩ = some (.slice p L.length c)) := q0
  have hgl : (getL L key).length ≤ 900000 := Nat.le_trans (getL_le _ _) hl
  have HGN : Hid (goneN L key keep = ((getL L key).length - keep).toNat) := by show _ = _; rfl
  have HTL : Hid (trimL L key keep = trimGo key (goneN L key keep) L) := by show _ = _; rfl
  clear hrec q0 hne hn hm
  generalize getL L key = gs at *
  generalize trimL L key keep = TL at *
  generalize goneN L key keep = g at *
  go_enter Tryz.func28, Tryz.ntmps28
  go_wp2_with fail
  refine HG.mono ?_
  rintro e w1 ⟨⟨v1, rfl, hO1⟩, hb1⟩
  obtain ⟨p1, c1, rfl, _, _, _, _⟩ := hO1.form
  have HB1 : Hid (Below w.heap.size w w1) := hb1
  clear HG hO1 hb1
  have HCASE : Hid ((gs.length : Int) < keep ∧ g = 0 ∨ ¬ (gs.length : Int) < keep ∧ ((g : Nat) : Int) = gs.length - keep) := by
    show _ ∨ _
    have := HGN.out
    omega
  have HLOOP : Hid (trimGo key g (L.drop 0) = TL) := by show _ = _; rw [HTL.out]; rfl
  rcases HCASE.out with ⟨hneg, hg0⟩ | ⟨hpos, hgd⟩
  · subst hg0
    have hd1 : decide ((gs.length : Int) < keep) = true := decide_eq_true hneg
    have hd2 : decide ((gs.length : Int) - keep < 0) = true := decide_eq_true (by omega)
    clear HCASE HGN
    go_wp2
    go_loopw [8, 9, 10] (fun lf v x wq => ∃ (i left : Nat) (out : List Kep), i ≤ L.length ∧ x = .int .i64 i ∧ lf = .int .i64 (left : Int) ∧ out.length ≤ i ∧ left ≤ 900000 ∧ out ++ trimGo key left (L.drop i) = TL ∧ OwnR kepE 51 wq w.heap.size v out ∧ Below w.heap.size w wq) (fun _ _ x _ => L.length - (intOf x).toNat)
    case atStart => exact ⟨0, 0, [], Nat.zero_le _, rfl, rfl, Nat.zero_le _, by omega, HLOOP.out, OwnR.nil _ _ _, HB1.out⟩
    case round =>
      obtain ⟨i, left, out, hi, rfl, rfl, hol, hll, hTL, hO, hB⟩ := hrel
      obtain ⟨w2, rfl⟩ : ∃ w2, w2 = wr := ⟨_, rfl⟩
      obtain ⟨v, rfl⟩ : ∃ v, v = u9 := ⟨_, rfl⟩
      have HO : Hid (OwnR kepE 51 w2 w.heap.size v out) := hO
      have HB : Hid (Below w.heap.size w w2) := hB
      have HTI : Hid (out ++ trimGo key left (L.drop i) = TL) := hTL
      have q0 : w2.cell? ⟨h, 0, none⟩ = some (.slice p L.length c) := (hB.cell (p := ⟨h, 0, none⟩) hlt).trans HQ0.out
      have hz2 : w.heap.size ≤ w2.heap.size := hB.size
      clear hO hB hTL HLOOP
      by_cases hil : i < L.length
      · obtain ⟨b, o, hpp, hblt, c0, c1, c2, c3, c4, c5⟩ := kep_cells (HREC.out.below HB.out) hil
        subst hpp
        have hst := @trimGo_at L key left i hil
        have hTI := HTI.out
        rw [hst] at hTI
        clear hst HTI
        by_cases he : (kepAt L i).1 = key
        · by_cases hlf : 0 < left
          · rw [if_pos ⟨he, hlf⟩] at hTI
            have HNX : Hid (out ++ trimGo key (left - 1) (L.drop (i + 1)) = TL) := hTI
            rw [he] at c0
            clear hTI he c1 c2 c3 c4 c5
            have gl : decide ((0 : Int) < (left : Int)) = true := decide_eq_true (by omega)
            have hl1 : (left : Int) - 1 = ((left - 1 : Nat) : Int) := by omega
            have HL1 : Hid ((left : Int) - 1 = ((left - 1 : Nat) : Int)) := hl1
            clear hl1
            go_wp2
            go_roundw
            case rel => exact ⟨i + 1, left - 1, out, by omega, by go_num, by rw [← HL1.out], by omega, by omega, HNX.out, HO.out, HB.out⟩
            case measure => simp [intOf]; omega
          · rw [if_neg (fun hx => hlf hx.2)] at hTI
            have gl : decide ((0 : Int) < (left : Int)) = false := decide_eq_false (by omega)
            rw [he] at c0
            have hke : kepAt L i = (key, (kepAt L i).2) := by rw [← he]
            rw [hke] at hTI
            clear he hke
            generalize (kepAt L i).2 = x at *
            obtain ⟨xn, xw, xs, xa, xt⟩ := x
            have HNX : Hid ((out ++ [(key, ⟨xn, xw, xs, xa, xt⟩)]) ++ trimGo key left (L.drop (i + 1)) = TL) := by
              show _ = _
              rw [List.append_assoc]
              exact hTI
            clear hTI
            have HO2 : Hid (OwnR kepE 51 (w2.alloc (.cells #[.string key, .int .i64 xn, .int .i64 xw, .int .i64 xs, .int .i64 xa, .string xt] 51)) w.heap.size v out) := HO.out.kept ((Below.refl _ _).alloc (Nat.le_refl _) _)
            have HNW : Hid (∀ j u, (kepE.enc (key, ⟨xn, xw, xs, xa, xt⟩))[j]? = some u → (w2.alloc (.cells #[.string key, .int .i64 xn, .int .i64 xw, .int .i64 xs, .int .i64 xa, .string xt] 51)).cell? ⟨w2.heap.size, 0 + j, none⟩ = some u) := fun j u hj => by
              rw [Nat.zero_add, World.cell?_alloc_at _ _ _ _ rfl]
              match j, hj with
              | 0, hj => exact hj
              | 1, hj => exact hj
              | 2, hj => exact hj
              | 3, hj => exact hj
              | 4, hj => exact hj
              | 5, hj => exact hj
            have HB2 : Hid (Below w.heap.size w (w2.alloc (.cells #[.string key, .int .i64 xn, .int .i64 xw, .int .i64 xs, .int .i64 xa, .string xt] 51))) := HB.out.alloc hz2 _
            go_wp2_with (first | (at_builtin; refine wpList_append_rec rfl (.tmp 45) (.tmp 53) 41 51 rfl (.agg #[.string ⟨#[]⟩, .int .i64 0, .int .i64 0, .int .i64 0, .int .i64 0, .string ⟨#[]⟩]) 64 Tryz.underlying41 kepinfo rfl w.heap.size v out rfl HO2.out w2.heap.size 0 1 (key, ⟨xn, xw, xs, xa, xt⟩) rfl HNW.out (by unfold maxLen; omega) (by omega) HB2.out.size (by simp) ?_; intro v3 w3 hO3 hb3))
            have HO3 : Hid (OwnR kepE 51 w3 w.heap.size v3 (out ++ [(key, ⟨xn, xw, xs, xa, xt⟩)])) := hO3
            have HB3 : Hid (Below w.heap.size w w3) := HB2.out.trans hb3
            clear hO3 hb3
            go_wp2
            go_roundw
            case rel => exact ⟨i + 1, left, out ++ [(key, ⟨xn, xw, xs, xa, xt⟩)], by omega, by go_num, rfl, by rw [List.length_append]; show _ + 1 ≤ _; omega, hll, HNX.out, HO3.out, HB3.out⟩
            case measure => simp [intOf]; omega
        · rw [if_neg (fun hx => he hx.1)] at hTI
          have d1 := toList_ne he
          have d2 := toList_beq he
          have d3 := bytes_beq he
          clear he
          generalize kepAt L i = y at *
          obtain ⟨key', x⟩ := y
          obtain ⟨xn, xw, xs, xa, xt⟩ := x
          have HNX : Hid ((out ++ [(key', ⟨xn, xw, xs, xa, xt⟩)]) ++ trimGo key left (L.drop (i + 1)) = TL) := by
            show _ = _
            rw [List.append_assoc]
            exact hTI
          clear hTI
          have HO2 : Hid (OwnR kepE 51 (w2.alloc (.cells #[.string key', .int .i64 xn, .int .i64 xw, .int .i64 xs, .int .i64 xa, .string xt] 51)) w.heap.size v out) := HO.out.kept ((Below.refl _ _).alloc (Nat.le_refl _) _)
          have HNW : Hid (∀ j u, (kepE.enc (key', ⟨xn, xw, xs, xa, xt⟩))[j]? = some u → (w2.alloc (.cells #[.string key', .int .i64 xn, .int .i64 xw, .int .i64 xs, .int .i64 xa, .string xt] 51)).cell? ⟨w2.heap.size, 0 + j, none⟩ = some u) := fun j u hj => by
            rw [Nat.zero_add, World.cell?_alloc_at _ _ _ _ rfl]
            match j, hj with
            | 0, hj => exact hj
            | 1, hj => exact hj
            | 2, hj => exact hj
            | 3, hj => exact hj
            | 4, hj => exact hj
            | 5, hj => exact hj
          have HB2 : Hid (Below w.heap.size w (w2.alloc (.cells #[.string key', .int .i64 xn, .int .i64 xw, .int .i64 xs, .int .i64 xa, .string xt] 51))) := HB.out.alloc hz2 _
          go_wp2_with (first | (at_builtin; refine wpList_append_rec rfl (.tmp 45) (.tmp 53) 41 51 rfl (.agg #[.string ⟨#[]⟩, .int .i64 0, .int .i64 0, .int .i64 0, .int .i64 0, .string ⟨#[]⟩]) 64 Tryz.underlying41 kepinfo rfl w.heap.size v out rfl HO2.out w2.heap.size 0 1 (key', ⟨xn, xw, xs, xa, xt⟩) rfl HNW.out (by unfold maxLen; omega) (by omega) HB2.out.size (by simp) ?_; intro v3 w3 hO3 hb3))
          have HO3 : Hid (OwnR kepE 51 w3 w.heap.size v3 (out ++ [(key', ⟨xn, xw, xs, xa, xt⟩)])) := hO3
          have HB3 : Hid (Below w.heap.size w w3) := HB2.out.trans hb3
          clear hO3 hb3
          go_wp2
          go_roundw
          case rel => exact ⟨i + 1, left, out ++ [(key', ⟨xn, xw, xs, xa, xt⟩)], by omega, by go_num, rfl, by rw [List.length_append]; show _ + 1 ≤ _; omega, hll, HNX.out, HO3.out, HB3.out⟩
          case measure => simp [intOf]; omega
      · have hie : i = L.length := by omega
        subst hie
        have hTI := HTI.out
        rw [List.drop_length] at hTI
        have hout : out = TL := by
          have e : trimGo key left ([] : List Kep) = [] := rfl
          rw [e, List.append_nil] at hTI
          exact hTI
        subst hout
        obtain ⟨hst1, hst2⟩ := HM.out.store HB.out HO.out
        have HST : Hid (MHold (w2.setCell ⟨h, 0, none⟩ v) h out s ∧ Turn h w (w2.setCell ⟨h, 0, none⟩ v)) := ⟨hst1, hst2⟩
        have hfz : w2.frozen? ⟨h, 0, none⟩ = false := (HM.out.below HB.out).free0
        clear hst1 hst2 hTI HTI
        obtain ⟨pv, cv, hvf, _, _, _, _⟩ := HO.out.form
        subst hvf
        go_wp2
        go_ret
        exact ⟨rfl, HST.out⟩
  · have hgd' : (gs.length : Int) - keep = (g : Int) := hgd.symm
    have hgd2 : ¬ (gs.length : Int) - keep < 0 := by omega
    clear HCASE HGN hgd
    go_wp2
    go_loopw [8, 9, 10] (fun lf v x wq => ∃ (i left : Nat) (out : List Kep), i ≤ L.length ∧ x = .int .i64 i ∧ lf = .int .i64 (left : Int) ∧ out.length ≤ i ∧ left ≤ 900000 ∧ out ++ trimGo key left (L.drop i) = TL ∧ OwnR kepE 51 wq w.heap.size v out ∧ Below w.heap.size w wq) (fun _ _ x _ => L.length - (intOf x).toNat)
    case atStart => exact ⟨0, g, [], Nat.zero_le _, rfl, by first | rfl | rw [hgd'], Nat.zero_le _, by omega, HLOOP.out, OwnR.nil _ _ _, HB1.out⟩
    case round =>
      obtain ⟨i, left, out, hi, rfl, rfl, hol, hll, hTL, hO, hB⟩ := hrel
      obtain ⟨w2, rfl⟩ : ∃ w2, w2 = wr := ⟨_, rfl⟩
      obtain ⟨v, rfl⟩ : ∃ v, v = u9 := ⟨_, rfl⟩
      have HO : Hid (OwnR kepE 51 w2 w.heap.size v out) := hO
      have HB : Hid (Below w.heap.size w w2) := hB
      have HTI : Hid (out ++ trimGo key left (L.drop i) = TL) := hTL
      have q0 : w2.cell? ⟨h, 0, none⟩ = some (.slice p L.length c) := (hB.cell (p := ⟨h, 0, none⟩) hlt).trans HQ0.out
      have hz2 : w.heap.size ≤ w2.heap.size := hB.size
      clear hO hB hTL HLOOP
      by_cases hil : i < L.length
      · obtain ⟨b, o, hpp, hblt, c0, c1, c2, c3, c4, c5⟩ := kep_cells (HREC.out.below HB.out) hil
        subst hpp
        have hst := @trimGo_at L key left i hil
        have hTI := HTI.out
        rw [hst] at hTI
        clear hst HTI
        by_cases he : (kepAt L i).1 = key
        · by_cases hlf : 0 < left
          · rw [if_pos ⟨he, hlf⟩] at hTI
            have HNX : Hid (out ++ trimGo key (left - 1) (L.drop (i + 1)) = TL) := hTI
            rw [he] at c0
            clear hTI he c1 c2 c3 c4 c5
            have gl : decide ((0 : Int) < (left : Int)) = true := decide_eq_true (by omega)
            have hl1 : (left : Int) - 1 = ((left - 1 : Nat) : Int) := by omega
            have HL1 : Hid ((left : Int) - 1 = ((left - 1 : Nat) : Int)) := hl1
            clear hl1
            go_wp2
            go_roundw
            case rel => exact ⟨i + 1, left - 1, out, by omega, by go_num, by rw [← HL1.out], by omega, by omega, HNX.out, HO.out, HB.out⟩
            case measure => simp [intOf]; omega
          · rw [if_neg (fun hx => hlf hx.2)] at hTI
            have gl : decide ((0 : Int) < (left : Int)) = false := decide_eq_false (by omega)
            rw [he] at c0
            have hke : kepAt L i = (key, (kepAt L i).2) := by rw [← he]
            rw [hke] at hTI
            clear he hke
            generalize (kepAt L i).2 = x at *
            obtain ⟨xn, xw, xs, xa, xt⟩ := x
            have HNX : Hid ((out ++ [(key, ⟨xn, xw, xs, xa, xt⟩)]) ++ trimGo key left (L.drop (i + 1)) = TL) := by
              show _ = _
              rw [List.append_assoc]
              exact hTI
            clear hTI
            have HO2 : Hid (OwnR kepE 51 (w2.alloc (.cells #[.string key, .int .i64 xn, .int .i64 xw, .int .i64 xs, .int .i64 xa, .string xt] 51)) w.heap.size v out) := HO.out.kept ((Below.refl _ _).alloc (Nat.le_refl _) _)
            have HNW : Hid (∀ j u, (kepE.enc (key, ⟨xn, xw, xs, xa, xt⟩))[j]? = some u → (w2.alloc (.cells #[.string key, .int .i64 xn, .int .i64 xw, .int .i64 xs, .int .i64 xa, .string xt] 51)).cell? ⟨w2.heap.size, 0 + j, none⟩ = some u) := fun j u hj => by
              rw [Nat.zero_add, World.cell?_alloc_at _ _ _ _ rfl]
              match j, hj with
              | 0, hj => exact hj
              | 1, hj => exact hj
              | 2, hj => exact hj
              | 3, hj => exact hj
              | 4, hj => exact hj
              | 5, hj => exact hj
            have HB2 : Hid (Below w.heap.size w (w2.alloc (.cells #[.string key, .int .i64 xn, .int .i64 xw, .int .i64 xs, .int .i64 xa, .string xt] 51))) := HB.out.alloc hz2 _
            go_wp2_with (first | (at_builtin; refine wpList_append_rec rfl (.tmp 45) (.tmp 53) 41 51 rfl (.agg #[.string ⟨#[]⟩, .int .i64 0, .int .i64 0, .int .i64 0, .int .i64 0, .string ⟨#[]⟩]) 64 Tryz.underlying41 kepinfo rfl w.heap.size v out rfl HO2.out w2.heap.size 0 1 (key, ⟨xn, xw, xs, xa, xt⟩) rfl HNW.out (by unfold maxLen; omega) (by omega) HB2.out.size (by simp) ?_; intro v3 w3 hO3 hb3))
            have HO3 : Hid (OwnR kepE 51 w3 w.heap.size v3 (out ++ [(key, ⟨xn, xw, xs, xa, xt⟩)])) := hO3
            have HB3 : Hid (Below w.heap.size w w3) := HB2.out.trans hb3
            clear hO3 hb3
            go_wp2
            go_roundw
            case rel => exact ⟨i + 1, left, out ++ [(key, ⟨xn, xw, xs, xa, xt⟩)], by omega, by go_num, rfl, by rw [List.length_append]; show _ + 1 ≤ _; omega, hll, HNX.out, HO3.out, HB3.out⟩
            case measure => simp [intOf]; omega
        · rw [if_neg (fun hx => he hx.1)] at hTI
          have d1 := toList_ne he
          have d2 := toList_beq he
          have d3 := bytes_beq he
          clear he
          generalize kepAt L i = y at *
          obtain ⟨key', x⟩ := y
          obtain ⟨xn, xw, xs, xa, xt⟩ := x
          have HNX : Hid ((out ++ [(key', ⟨xn, xw, xs, xa, xt⟩)]) ++ trimGo key left (L.drop (i + 1)) = TL) := by
            show _ = _
            rw [List.append_assoc]
            exact hTI
          clear hTI
          have HO2 : Hid (OwnR kepE 51 (w2.alloc (.cells #[.string key', .int .i64 xn, .int .i64 xw, .int .i64 xs, .int .i64 xa, .string xt] 51)) w.heap.size v out) := HO.out.kept ((Below.refl _ _).alloc (Nat.le_refl _) _)
          have HNW : Hid (∀ j u, (kepE.enc (key', ⟨xn, xw, xs, xa, xt⟩))[j]? = some u → (w2.alloc (.cells #[.string key', .int .i64 xn, .int .i64 xw, .int .i64 xs, .int .i64 xa, .string xt] 51)).cell? ⟨w2.heap.size, 0 + j, none⟩ = some u) := fun j u hj => by
            rw [Nat.zero_add, World.cell?_alloc_at _ _ _ _ rfl]
            match j, hj with
            | 0, hj => exact hj
            | 1, hj => exact hj
            | 2, hj => exact hj
            | 3, hj => exact hj
            | 4, hj => exact hj
            | 5, hj => exact hj
          have HB2 : Hid (Below w.heap.size w (w2.alloc (.cells #[.string key', .int .i64 xn, .int .i64 xw, .int .i64 xs, .int .i64 xa, .string xt] 51))) := HB.out.alloc hz2 _
          go_wp2_with (first | (at_builtin; refine wpList_append_rec rfl (.tmp 45) (.tmp 53) 41 51 rfl (.agg #[.string ⟨#[]⟩, .int .i64 0, .int .i64 0, .int .i64 0, .int .i64 0, .string ⟨#[]⟩]) 64 Tryz.underlying41 kepinfo rfl w.heap.size v out rfl HO2.out w2.heap.size 0 1 (key', ⟨xn, xw, xs, xa, xt⟩) rfl HNW.out (by unfold maxLen; omega) (by omega) HB2.out.size (by simp) ?_; intro v3 w3 hO3 hb3))
          have HO3 : Hid (OwnR kepE 51 w3 w.heap.size v3 (out ++ [(key', ⟨xn, xw, xs, xa, xt⟩)])) := hO3
          have HB3 : Hid (Below w.heap.size w w3) := HB2.out.trans hb3
          clear hO3 hb3
          go_wp2
          go_roundw
          case rel => exact ⟨i + 1, left, out ++ [(key', ⟨xn, xw, xs, xa, xt⟩)], by omega, by go_num, rfl, by rw [List.length_append]; show _ + 1 ≤ _; omega, hll, HNX.out, HO3.out, HB3.out⟩
          case measure => simp [intOf]; omega
      · have hie : i = L.length := by omega
        subst hie
        have hTI := HTI.out
        rw [List.drop_length] at hTI
        have hout : out = TL := by
          have e : trimGo key left ([] : List Kep) = [] := rfl
          rw [e, List.append_nil] at hTI
          exact hTI
        subst hout
        obtain ⟨hst1, hst2⟩ := HM.out.store HB.out HO.out
        have HST : Hid (MHold (w2.setCell ⟨h, 0, none⟩ v) h out s ∧ Turn h w (w2.setCell ⟨h, 0, none⟩ v)) := ⟨hst1, hst2⟩
        have hfz : w2.frozen? ⟨h, 0, none⟩ = false := (HM.out.below HB.out).free0
        clear hst1 hst2 hTI HTI
        obtain ⟨pv, cv, hvf, _, _, _, _⟩ := HO.out.form
        subst hvf
        go_wp2
        go_ret
        exact ⟨by first | rfl | rw [hgd'], HST.out⟩
end Go.Proofs.YtoapbjifkjehhaaGreatDoor
