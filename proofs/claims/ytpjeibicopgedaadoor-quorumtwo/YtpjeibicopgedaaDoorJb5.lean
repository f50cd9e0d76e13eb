/- Texts laid together. -/
import Derived.Test.YtpjeibicopgedaaDoorJb4
import Derived.Shelf.Abstract
namespace Go.Proofs.YtpjeibicopgedaaDoor
open Go.RowKit
set_option maxRecDepth 10000 in
set_option maxHeartbeats 2000000 in
theorem enough_any {ad : Nat → Addr} {X : World → Prop} (hO : EnoughOk ad X) (w : World) (hS : ∀ W, Below w.heap.size w W → ErrsQ W ad) (hX : ∀ W, Below w.heap.size w W → X W) :
    Calls Tryd.prog 5 #[] w fun e w' => e = .returned (.bool true) ∧ Below w.heap.size w w' := by
  obtain ⟨w1, hw1⟩ : ∃ w1, w1 = w.alloc (.cells #[.string ⟨#[97]⟩] 9) := ⟨_, rfl⟩
  have HW1 : Hid (w1 = w.alloc (.cells #[.string ⟨#[97]⟩] 9)) := hw1
  have hb1 : Below w.heap.size w w1 := by rw [hw1]; exact (Below.refl _ _).alloc (Nat.le_refl _) _
  have hc1 : w1.cell? ⟨w.heap.size, 0, none⟩ = some (.string ⟨#[97]⟩) := by rw [hw1, World.cell?_alloc_at _ _ _ _ rfl]; rfl
  have hat : CfgAt w1 ⟨1, 1, [⟨#[97]⟩]⟩ (some ⟨w.heap.size, 0, none⟩) 1 := ⟨Or.inr ⟨w.heap.size, 0, rfl, by rw [hw1]; simp, fun i hi => by
    obtain rfl : i = 0 := by simpa using hi
    exact hc1⟩, Nat.le_refl _, (fun e => by cases e), by decide, (fun x hx => by simp at hx; subst hx; decide), ⟨by decide, by decide⟩, by decide, by decide⟩
  have he := hO.enough ⟨1, 1, [⟨#[97]⟩]⟩ (some ⟨w.heap.size, 0, none⟩) 1 w1 hat (hS w1 hb1) (hX w1 hb1)
  rw [one_cfg] at he
  have HE : Hid (Calls Tryd.prog 11 #[.agg #[.int .i64 1, .int .i64 1, .slice (some ⟨w.heap.size, 0, none⟩) 1 1]] w1 fun e w' => e = .returned (.tuple #[.int .i64 1, .nilIface]) ∧ Below w1.heap.size w1 w') := he.mono fun e w' hp => by
    obtain ⟨⟨ev, h1, h2⟩, h3⟩ := hp
    obtain rfl := h2.isNil
    exact ⟨h1, h3⟩
  have HB1 : Hid (Below w.heap.size w w1) := hb1
  clear he hat hc1 hb1 hw1 hO hS hX
  go_enter Tryd.func5, Tryd.ntmps5
  go_wp2_with fail
  rw [← HW1.out]
  refine HE.out.mono ?_
  rintro e w2 ⟨rfl, hb2⟩
  have HB2 : Hid (Below w.heap.size w w2) := HB1.out.trans (hb2.mono HB1.out.size)
  clear hb2 HE HB1
  go_wp2
  go_ret
  exact ⟨rfl, HB2.out⟩
theorem OwnE.keptB {w w' : World} {E : TypeId} {B g r : Nat} {vf : Nat → Value} {K : Nat} (h : OwnE w E B g r vf) (hb : Below K w w') (hg : g < K) : OwnE w' E B g r vf := by
  obtain ⟨h1, h2⟩ := h
  refine ⟨h1, ?_⟩
  rcases h2 with h2 | ⟨g', cap, cur, hv, hbg, hgg, hrest⟩
  · exact Or.inl h2
  · refine Or.inr ⟨g', cap, cur, hv, hbg, ?_, hrest⟩
    have e : g' = g := by injection hv with e1; injection e1 with e2; injection e2 with e3; exact e3.symm
    subst e
    exact (hb.block _ hg).trans hgg
/-- Texts by their places. -/
def pickT (l : List ByteArray) (X : List Nat) : List ByteArray := X.map (txt l)
/-- What 'some' answers: so many unlike ones of the list. -/
def SomeIs (l : List ByteArray) (n : Nat) (out : List ByteArray) : Prop := ∃ X : List Nat, X.Nodup ∧ (∀ x ∈ X, x < l.length) ∧ out = pickT l X ∧ X.length = n
theorem SomeIs.mem {l out : List ByteArray} {n : Nat} (h : SomeIs l n out) : ∀ x ∈ out, x ∈ l := by
  obtain ⟨X, _, h2, rfl, _⟩ := h
  intro x hx
  obtain ⟨i, hi, rfl⟩ := List.mem_map.1 hx
  exact txt_mem (h2 i hi)
theorem SomeIs.len {l out : List ByteArray} {n : Nat} (h : SomeIs l n out) : out.length = n := by
  obtain ⟨X, _, _, rfl, h4⟩ := h
  unfold pickT
  rw [List.length_map, h4]
theorem SomeIs.nodup {l out : List ByteArray} {n : Nat} (h : SomeIs l n out) (hl : l.Nodup) : out.Nodup := by
  obtain ⟨X, h1, h2, rfl, _⟩ := h
  unfold pickT
  rw [List.nodup_iff_pairwise_ne] at *
  rw [List.pairwise_map]
  refine List.Pairwise.imp_of_mem (fun {a b} ha hb hab => ?_) h1
  intro e
  rw [txt_getElem l a (h2 a ha), txt_getElem l b (h2 b hb)] at e
  rcases Nat.lt_trichotomy a b with h | h | h
  · exact List.pairwise_iff_getElem.1 hl a b (h2 a ha) (h2 b hb) h e
  · exact hab h
  · exact List.pairwise_iff_getElem.1 hl b a (h2 b hb) (h2 a ha) h e.symm
/-- While members are picked: the marks of X in block ub, and the texts. -/
structure PickAt (w0 W : World) (l : List ByteArray) (M X : List Nat) (v : Value) : Prop where
  marks : OwnE W 4 w0.heap.size w0.heap.size l.length (fun i => .bool (decide (i ∈ M)))
  own : OwnT W (w0.heap.size + 1) v (pickT l X)
  low : Below w0.heap.size w0 W
  nodup : X.Nodup
  lt : ∀ x ∈ X, x < l.length
theorem bool_make (r : Nat) (hr : r ≤ 1000000) (W : World) : Sem.run Tryd.prog (Instr.makeSlice 60 (.int .i64 (r : Int)) (.int .i64 (r : Int))) W = .ok (.slice (some ⟨W.heap.size, 0, none⟩) r r) (W.alloc (.cells (madeCells #[.bool false] r) 4)) := by
  obtain ⟨i0, hi0, hz0, hz1, hzb⟩ := info_parts boolinfo
  exact run_make_row (P := Tryd.prog) 60 4 i0 (.bool false) Tryd.underlying60 hi0 hz0 hz1 rfl .i64 .i64 r (by rw [hzb]; omega) (by omega) W
theorem PickAt.snoc {w0 W W' : World} {l : List ByteArray} {M M' X : List Nat} {v v' : Value} {x : Nat} (h : PickAt w0 W l M X v) (hm : OwnE W' 4 w0.heap.size w0.heap.size l.length (fun i => .bool (decide (i ∈ M')))) (hO : OwnT W' (w0.heap.size + 1) v' (pickT l X ++ [txt l x])) (hb : Below w0.heap.size w0 W') (hx : x < l.length) (hnx : x ∉ X) : PickAt w0 W' l M' (X ++ [x]) v' :=
  ⟨hm, by unfold pickT; rw [List.map_append]; exact hO, hb, by
    rw [List.nodup_append]
    exact ⟨h.nodup, by simp, fun a ha b hb e => by simp at hb; subst hb; exact hnx (by rw [← e]; exact ha)⟩, fun y hy => by
    rcases List.mem_append.1 hy with h1 | h1
    · exact h.lt y h1
    · simp at h1; subst h1; exact hx⟩
set_option maxRecDepth 10000 in
set_option maxHeartbeats 8000000 in
theorem some_any (l : List ByteArray) (p : Option Addr) (cl : Nat) (pick : List Int) (pp : Option Addr) (cp n : Nat) (w : World) (hl : l.length ≤ 1000) (hs : Strs w p l) (hpk : pick.length ≤ 1000) (hi : Ints w pp pick) (hn : n ≤ l.length) :
    Calls Tryd.prog 16 #[.slice p l.length cl, .slice pp pick.length cp, .int .i64 (n : Int)] w fun e w' => (∃ q d out, e = .returned (.slice q out.length d) ∧ SomeIs l n out ∧ Strs w' q out ∧ out.length ≤ d ∧ (q = none → out = [] ∧ d = 0)) ∧ Below w.heap.size w w' := by
  have hmk := bool_make l.length (by omega)
  obtain ⟨w1, hw1⟩ : ∃ w1, w1 = w.alloc (.cells (madeCells #[.bool false] l.length) 4) := ⟨_, rfl⟩
  have HW1 : Hid (w1 = w.alloc (.cells (madeCells #[.bool false] l.length) 4)) := hw1
  have hp1 : PickAt w w1 l [] [] (.slice none 0 0) := by
    refine ⟨?_, OwnT.nil _ _, ?_, List.nodup_nil, (fun x hx => by cases hx)⟩
    · rw [hw1]
      exact (OwnE.made w 4 (.bool false) w.heap.size l.length (Nat.le_refl _) (by omega)).congr (fun i _ => by simp)
    · rw [hw1]; exact (Below.refl _ _).alloc (Nat.le_refl _) _
  have HP1 : Hid (PickAt w w1 l [] [] (.slice none 0 0)) := hp1
  have HST : Hid (∀ W, Below w.heap.size w W → Strs W p l) := fun W hW => hs.below hW
  have HIT : Hid (∀ W, Below w.heap.size w W → Ints W pp pick) := fun W hW => hi.below hW
  clear hw1 hp1 hs hi
  go_enter Tryd.func16, Tryd.ntmps16
  go_wp2
  rw [show w.alloc (.cells (madeCells #[.bool false] l.length) 4) = w1 from HW1.out.symm]
  clear HW1 hmk
  go_loopw [8, 9] (fun v x wr => ∃ (i : Nat) (X : List Nat), i ≤ pick.length ∧ x = .int .i64 i ∧ PickAt w wr l X X v ∧ X.length ≤ n) (fun _ x _ => pick.length - (intOf x).toNat)
  case atStart => exact ⟨0, [], Nat.zero_le _, rfl, HP1.out, Nat.zero_le _⟩
  case round =>
    obtain ⟨i, X, hi, rfl, hP, hXn⟩ := hrel
    obtain ⟨w4, rfl⟩ : ∃ w4, w4 = wr := ⟨_, rfl⟩
    obtain ⟨pX, cX, hv, hSX, hcX, hnX, _⟩ := hP.own.form
    have hlx : (pickT l X).length = X.length := by unfold pickT; rw [List.length_map]
    rw [hlx] at hv
    subst hv
    have HP : Hid (PickAt w w4 l X X (.slice pX X.length cX)) := hP
    have hub := hP.marks.lt
    have hXl : X.length ≤ 1000 := by omega
    clear hP hSX hcX hnX hlx HP1
    by_cases hil : i < pick.length
    · by_cases hlt : X.length < n
      · rcases HIT.out w (Below.refl _ _) with h0 | ⟨bp, op, hpp, hbp, hcp⟩
        · rw [h0] at hil; simp at hil
        subst hpp
        have cpi0 := hcp i hil
        have HPK : Hid (∀ W, Below w.heap.size w W → W.cell? ⟨bp, op + i, none⟩ = some (.int .i64 (pick.getD i 0))) := fun W hW => (hW.cell (p := ⟨bp, op + i, none⟩) hbp).trans cpi0
        have cpi := HPK.out w4 HP.out.low
        clear hcp cpi0
        generalize pick.getD i 0 = y at cpi HPK
        by_cases hin : 0 ≤ y ∧ y < l.length
        · obtain ⟨x, rfl⟩ := Int.eq_ofNat_of_zero_le hin.1
          have hxn : x < l.length := by omega
          have cu := HP.out.marks.cell x hxn
          have fu : w4.frozen? ⟨w.heap.size, x, none⟩ = false := HP.out.marks.free x
          clear hin
          by_cases hxX : x ∈ X
          · rw [decide_eq_true hxX] at cu
            clear hxX
            go_wp2
            go_roundw
            case rel => exact ⟨i + 1, X, by omega, by go_num, HP.out, hXn⟩
            case measure => simp [intOf]; omega
          · rw [decide_eq_false hxX] at cu
            have HX : Hid (x ∉ X) := hxX
            clear hxX
            obtain ⟨b, o, hpp, hbl, hcl⟩ : ∃ b o, p = some ⟨b, o, none⟩ ∧ b < w.heap.size ∧ ∀ W, Below w.heap.size w W → W.cell? ⟨b, o + x, none⟩ = some (.string (txt l x)) := by
              rcases HST.out w (Below.refl _ _) with h0 | ⟨b, o, hp, hlt2, hc⟩
              · rw [h0] at hxn; simp at hxn
              · exact ⟨b, o, hp, hlt2, fun W hW => (hW.cell (p := ⟨b, o + x, none⟩) hlt2).trans (hc x hxn)⟩
            subst hpp
            have hlow := HP.out.low
            have hus : w.heap.size + 1 ≤ w4.heap.size := by omega
            have hb5 : Below w.heap.size w (w4.setCell ⟨w.heap.size, x, none⟩ (.bool true)) := hlow.setCell (p := ⟨w.heap.size, x, none⟩) (Nat.le_refl _) _
            have c5 := hcl _ hb5
            have cpi5 := HPK.out _ hb5
            have HM5 : Hid (OwnE (w4.setCell ⟨w.heap.size, x, none⟩ (.bool true)) 4 w.heap.size w.heap.size l.length (fun i => .bool (decide (i ∈ X ++ [x])))) := (HP.out.marks.set x (.bool true)).congr (fun y _ => by
              by_cases e : y = x
              · subst e; simp
              · simp [e])
            have HO5 : Hid (OwnT ((w4.setCell ⟨w.heap.size, x, none⟩ (.bool true)).alloc (.cells #[.string (txt l x)] 9)) (w.heap.size + 1) (.slice pX X.length cX) (pickT l X)) := (HP.out.own.setC (b := w.heap.size) (by omega) x (.bool true)).kept ((Below.refl _ _).alloc (Nat.le_refl _) _)
            have c6 : ((w4.setCell ⟨w.heap.size, x, none⟩ (.bool true)).alloc (.cells #[.string (txt l x)] 9)).cell? ⟨w4.heap.size, 0, none⟩ = some (.string (txt l x)) := by
              have e : (w4.setCell ⟨w.heap.size, x, none⟩ (.bool true)).heap.size = w4.heap.size := by simp
              rw [← e, World.cell?_alloc_at _ _ _ _ rfl]
              rfl
            have hs6 : w.heap.size + 1 ≤ ((w4.setCell ⟨w.heap.size, x, none⟩ (.bool true)).alloc (.cells #[.string (txt l x)] 9)).heap.size := by simp; omega
            have HB6 : Hid (Below (w.heap.size + 1) (w4.setCell ⟨w.heap.size, x, none⟩ (.bool true)) ((w4.setCell ⟨w.heap.size, x, none⟩ (.bool true)).alloc (.cells #[.string (txt l x)] 9)) ∧ Below w.heap.size w (w4.setCell ⟨w.heap.size, x, none⟩ (.bool true))) := ⟨(Below.refl _ _).alloc (by simpa using hus) _, hb5⟩
            have hpl : (pickT l X).length + 1 ≤ 1000000 := by unfold pickT; rw [List.length_map]; omega
            clear hb5 hcl
            generalize htx : txt l x = tx at *
            go_wp2_with (first | (at_builtin; refine wpList_append_str rfl (.tmp 56) (.tmp 64) rfl (w.heap.size + 1) (.slice pX X.length cX) (pickT l X) rfl HO5.out ⟨w4.heap.size, 0, none⟩ tx 1 rfl c6 hpl hs6 ?_; intro v7 w7 hO7 hb7; obtain ⟨p7, d7, hv7, _⟩ := hO7.form; have hv8 : v7 = .slice p7 (X.length + 1) d7 := (by rw [hv7, List.length_append]; unfold pickT; rw [List.length_map]; rfl); clear hv7; subst hv8; have HO7 : Hid (OwnT w7 (w.heap.size + 1) (.slice p7 (X.length + 1) d7) (pickT l X ++ [tx])) := hO7; have HB7 : Hid (Below (w.heap.size + 1) (w4.setCell ⟨w.heap.size, x, none⟩ (.bool true)) w7) := HB6.out.1.trans hb7; clear hO7 hb7))
            have HP7 : Hid (PickAt w w7 l (X ++ [x]) (X ++ [x]) (.slice p7 (X.length + 1) d7)) := by
              refine HP.out.snoc ?_ (by rw [htx]; exact HO7.out) (HB6.out.2.trans (HB7.out.mono (by omega))) hxn HX.out
              exact OwnE.keptB HM5.out HB7.out (by omega)
            go_roundw
            case rel => exact ⟨i + 1, X ++ [x], by omega, by go_num, HP7.out, by rw [List.length_append]; simp; omega⟩
            case measure => simp [intOf]; omega
        · have hne : ¬ (0 ≤ y ∧ y < (l.length : Int)) := hin
          by_cases hy0 : 0 ≤ y
          · have hy1 : ¬ y < (l.length : Int) := fun h => hin ⟨hy0, h⟩
            clear hin hne
            go_wp2
            go_roundw
            case rel => exact ⟨i + 1, X, by omega, by go_num, HP.out, hXn⟩
            case measure => simp [intOf]; omega
          · clear hin hne
            go_wp2
            go_roundw
            case rel => exact ⟨i + 1, X, by omega, by go_num, HP.out, hXn⟩
            case measure => simp [intOf]; omega
      · go_wp2
        go_loopw [8, 10] (fun v x wr => ∃ (j : Nat) (Y : List Nat), j ≤ l.length ∧ x = .int .i64 j ∧ PickAt w wr l X Y v ∧ Y.length ≤ n ∧ (∀ y ∈ X, y ∈ Y) ∧ (∀ y ∈ Y, y ∈ X ∨ y < j) ∧ ∀ y, y < j → y ∈ Y) (fun _ x _ => l.length - (intOf x).toNat)
        case atStart => exact ⟨0, X, Nat.zero_le _, rfl, HP.out, hXn, (fun _ h => h), (fun _ h => Or.inl h), fun y hy => absurd hy (Nat.not_lt_zero _)⟩
        case round =>
          obtain ⟨j, Y, hj, rfl, hP, hYn, hXY, hYX, hall⟩ := hrel
          obtain ⟨w5, rfl⟩ : ∃ w5, w5 = wr := ⟨_, rfl⟩
          obtain ⟨pY, cY, hv, hSY, hcY, hnY, _⟩ := hP.own.form
          have HPF : Hid (Strs w5 pY (pickT l Y) ∧ (pickT l Y).length ≤ cY ∧ (pY = none → cY = 0)) := ⟨hSY, hcY, hnY⟩
          have hly : (pickT l Y).length = Y.length := by unfold pickT; rw [List.length_map]
          rw [hly] at hv
          subst hv
          have HPY : Hid (PickAt w w5 l X Y (.slice pY Y.length cY)) := hP
          have HXY : Hid (∀ y ∈ X, y ∈ Y) := hXY
          have HYX : Hid (∀ y ∈ Y, y ∈ X ∨ y < j) := hYX
          have HALL : Hid (∀ y, y < j → y ∈ Y) := hall
          have HLY : Hid ((pickT l Y).length = Y.length) := hly
          have hub5 := hP.marks.lt
          have hYl : Y.length ≤ 1000 := by omega
          clear hP hSY hcY hnY hXY hYX hall hly HP
          by_cases hjl : j < l.length
          · by_cases hlt2 : Y.length < n
            · have cu := HPY.out.marks.cell j hjl
              by_cases hjX : j ∈ X
              · rw [decide_eq_true hjX] at cu
                have HJ : Hid (j ∈ X) := hjX
                clear hjX
                go_wp2
                go_roundw
                case rel => exact ⟨j + 1, Y, by omega, by go_num, HPY.out, hYn, HXY.out, (fun y hy => by rcases HYX.out y hy with h | h; exact Or.inl h; exact Or.inr (by omega)), fun y hy => by
                  by_cases e : y = j
                  · rw [e]; exact HXY.out j HJ.out
                  · exact HALL.out y (by omega)⟩
                case measure => simp [intOf]; omega
              · rw [decide_eq_false hjX] at cu
                have HJ : Hid (j ∉ Y) := fun h => by
                  rcases HYX.out j h with h1 | h1
                  · exact hjX h1
                  · omega
                clear hjX
                obtain ⟨b, o, hpp, hbl, hcl⟩ : ∃ b o, p = some ⟨b, o, none⟩ ∧ b < w.heap.size ∧ ∀ W, Below w.heap.size w W → W.cell? ⟨b, o + j, none⟩ = some (.string (txt l j)) := by
                  rcases HST.out w (Below.refl _ _) with h0 | ⟨b, o, hp, hlt3, hc⟩
                  · rw [h0] at hjl; simp at hjl
                  · exact ⟨b, o, hp, hlt3, fun W hW => (hW.cell (p := ⟨b, o + j, none⟩) hlt3).trans (hc j hjl)⟩
                subst hpp
                have c5 := hcl w5 HPY.out.low
                have HO5 : Hid (OwnT (w5.alloc (.cells #[.string (txt l j)] 9)) (w.heap.size + 1) (.slice pY Y.length cY) (pickT l Y)) := HPY.out.own.kept ((Below.refl _ _).alloc (Nat.le_refl _) _)
                have c6 : (w5.alloc (.cells #[.string (txt l j)] 9)).cell? ⟨w5.heap.size, 0, none⟩ = some (.string (txt l j)) := by rw [World.cell?_alloc_at _ _ _ _ rfl]; rfl
                have hs6 : w.heap.size + 1 ≤ (w5.alloc (.cells #[.string (txt l j)] 9)).heap.size := by simp; omega
                have HB6 : Hid (Below (w.heap.size + 1) w5 (w5.alloc (.cells #[.string (txt l j)] 9))) := (Below.refl _ _).alloc (by omega) _
                have hpl : (pickT l Y).length + 1 ≤ 1000000 := by rw [HLY.out]; omega
                clear hcl
                generalize htx : txt l j = tx at *
                go_wp2_with (first | (at_builtin; refine wpList_append_str rfl (.tmp 83) (.tmp 88) rfl (w.heap.size + 1) (.slice pY Y.length cY) (pickT l Y) rfl HO5.out ⟨w5.heap.size, 0, none⟩ tx 1 rfl c6 hpl hs6 ?_; intro v7 w7 hO7 hb7; obtain ⟨p7, d7, hv7, _⟩ := hO7.form; have hv8 : v7 = .slice p7 (Y.length + 1) d7 := (by rw [hv7, List.length_append, HLY.out]; rfl); clear hv7; subst hv8; have HO7 : Hid (OwnT w7 (w.heap.size + 1) (.slice p7 (Y.length + 1) d7) (pickT l Y ++ [tx])) := hO7; have HB7 : Hid (Below (w.heap.size + 1) w5 w7) := HB6.out.trans hb7; clear hO7 hb7))
                have HP7 : Hid (PickAt w w7 l X (Y ++ [j]) (.slice p7 (Y.length + 1) d7)) := HPY.out.snoc (HPY.out.marks.keptB HB7.out (by omega)) (by rw [htx]; exact HO7.out) (HPY.out.low.trans (HB7.out.mono (by omega))) hjl HJ.out
                go_roundw
                case rel => exact ⟨j + 1, Y ++ [j], by omega, by go_num, HP7.out, by rw [List.length_append]; simp; omega, (fun y hy => List.mem_append_left _ (HXY.out y hy)), (fun y hy => by
                  rcases List.mem_append.1 hy with h | h
                  · rcases HYX.out y h with h1 | h1
                    · exact Or.inl h1
                    · exact Or.inr (by omega)
                  · simp at h; exact Or.inr (by omega)), fun y hy => by
                  by_cases e : y = j
                  · rw [e]; simp
                  · exact List.mem_append_left _ (HALL.out y (by omega))⟩
                case measure => simp [intOf]; omega
            · have HYE : Hid (Y.length = n) := by show _ = _; omega
              go_wp2
              go_ret
              exact ⟨⟨pY, cY, pickT l Y, by rw [HLY.out]; rfl, ⟨Y, HPY.out.nodup, HPY.out.lt, rfl, HYE.out⟩, HPF.out.1, HPF.out.2.1, fun e => ⟨(by rcases HPF.out.1 with h | ⟨b, o, hq, _⟩; exact h; rw [e] at hq; cases hq), HPF.out.2.2 e⟩⟩, HPY.out.low⟩
          · have HYE : Hid (Y.length = n) := by
              show _ = _
              have h1 := length_le_of_subset (List.range l.length) Y List.nodup_range (fun x hx => HALL.out x (by have := List.mem_range.1 hx; omega))
              rw [List.length_range] at h1
              omega
            go_wp2
            go_ret
            exact ⟨⟨pY, cY, pickT l Y, by rw [HLY.out]; rfl, ⟨Y, HPY.out.nodup, HPY.out.lt, rfl, HYE.out⟩, HPF.out.1, HPF.out.2.1, fun e => ⟨(by rcases HPF.out.1 with h | ⟨b, o, hq, _⟩; exact h; rw [e] at hq; cases hq), HPF.out.2.2 e⟩⟩, HPY.out.low⟩
    · go_wp2
      go_loopw [8, 10] (fun v x wr => ∃ (j : Nat) (Y : List Nat), j ≤ l.length ∧ x = .int .i64 j ∧ PickAt w wr l X Y v ∧ Y.length ≤ n ∧ (∀ y ∈ X, y ∈ Y) ∧ (∀ y ∈ Y, y ∈ X ∨ y < j) ∧ ∀ y, y < j → y ∈ Y) (fun _ x _ => l.length - (intOf x).toNat)
      case atStart => exact ⟨0, X, Nat.zero_le _, rfl, HP.out, hXn, (fun _ h => h), (fun _ h => Or.inl h), fun y hy => absurd hy (Nat.not_lt_zero _)⟩
      case round =>
        obtain ⟨j, Y, hj, rfl, hP, hYn, hXY, hYX, hall⟩ := hrel
        obtain ⟨w5, rfl⟩ : ∃ w5, w5 = wr := ⟨_, rfl⟩
        obtain ⟨pY, cY, hv, hSY, hcY, hnY, _⟩ := hP.own.form
        have HPF : Hid (Strs w5 pY (pickT l Y) ∧ (pickT l Y).length ≤ cY ∧ (pY = none → cY = 0)) := ⟨hSY, hcY, hnY⟩
        have hly : (pickT l Y).length = Y.length := by unfold pickT; rw [List.length_map]
        rw [hly] at hv
        subst hv
        have HPY : Hid (PickAt w w5 l X Y (.slice pY Y.length cY)) := hP
        have HXY : Hid (∀ y ∈ X, y ∈ Y) := hXY
        have HYX : Hid (∀ y ∈ Y, y ∈ X ∨ y < j) := hYX
        have HALL : Hid (∀ y, y < j → y ∈ Y) := hall
        have HLY : Hid ((pickT l Y).length = Y.length) := hly
        have hub5 := hP.marks.lt
        have hYl : Y.length ≤ 1000 := by omega
        clear hP hSY hcY hnY hXY hYX hall hly HP
        by_cases hjl : j < l.length
        · by_cases hlt2 : Y.length < n
          · have cu := HPY.out.marks.cell j hjl
            by_cases hjX : j ∈ X
            · rw [decide_eq_true hjX] at cu
              have HJ : Hid (j ∈ X) := hjX
              clear hjX
              go_wp2
              go_roundw
              case rel => exact ⟨j + 1, Y, by omega, by go_num, HPY.out, hYn, HXY.out, (fun y hy => by rcases HYX.out y hy with h | h; exact Or.inl h; exact Or.inr (by omega)), fun y hy => by
                by_cases e : y = j
                · rw [e]; exact HXY.out j HJ.out
                · exact HALL.out y (by omega)⟩
              case measure => simp [intOf]; omega
            · rw [decide_eq_false hjX] at cu
              have HJ : Hid (j ∉ Y) := fun h => by
                rcases HYX.out j h with h1 | h1
                · exact hjX h1
                · omega
              clear hjX
              obtain ⟨b, o, hpp, hbl, hcl⟩ : ∃ b o, p = some ⟨b, o, none⟩ ∧ b < w.heap.size ∧ ∀ W, Below w.heap.size w W → W.cell? ⟨b, o + j, none⟩ = some (.string (txt l j)) := by
                rcases HST.out w (Below.refl _ _) with h0 | ⟨b, o, hp, hlt3, hc⟩
                · rw [h0] at hjl; simp at hjl
                · exact ⟨b, o, hp, hlt3, fun W hW => (hW.cell (p := ⟨b, o + j, none⟩) hlt3).trans (hc j hjl)⟩
              subst hpp
              have c5 := hcl w5 HPY.out.low
              have HO5 : Hid (OwnT (w5.alloc (.cells #[.string (txt l j)] 9)) (w.heap.size + 1) (.slice pY Y.length cY) (pickT l Y)) := HPY.out.own.kept ((Below.refl _ _).alloc (Nat.le_refl _) _)
              have c6 : (w5.alloc (.cells #[.string (txt l j)] 9)).cell? ⟨w5.heap.size, 0, none⟩ = some (.string (txt l j)) := by rw [World.cell?_alloc_at _ _ _ _ rfl]; rfl
              have hs6 : w.heap.size + 1 ≤ (w5.alloc (.cells #[.string (txt l j)] 9)).heap.size := by simp; omega
              have HB6 : Hid (Below (w.heap.size + 1) w5 (w5.alloc (.cells #[.string (txt l j)] 9))) := (Below.refl _ _).alloc (by omega) _
              have hpl : (pickT l Y).length + 1 ≤ 1000000 := by rw [HLY.out]; omega
              clear hcl
              generalize htx : txt l j = tx at *
              go_wp2_with (first | (at_builtin; refine wpList_append_str rfl (.tmp 83) (.tmp 88) rfl (w.heap.size + 1) (.slice pY Y.length cY) (pickT l Y) rfl HO5.out ⟨w5.heap.size, 0, none⟩ tx 1 rfl c6 hpl hs6 ?_; intro v7 w7 hO7 hb7; obtain ⟨p7, d7, hv7, _⟩ := hO7.form; have hv8 : v7 = .slice p7 (Y.length + 1) d7 := (by rw [hv7, List.length_append, HLY.out]; rfl); clear hv7; subst hv8; have HO7 : Hid (OwnT w7 (w.heap.size + 1) (.slice p7 (Y.length + 1) d7) (pickT l Y ++ [tx])) := hO7; have HB7 : Hid (Below (w.heap.size + 1) w5 w7) := HB6.out.trans hb7; clear hO7 hb7))
              have HP7 : Hid (PickAt w w7 l X (Y ++ [j]) (.slice p7 (Y.length + 1) d7)) := HPY.out.snoc (HPY.out.marks.keptB HB7.out (by omega)) (by rw [htx]; exact HO7.out) (HPY.out.low.trans (HB7.out.mono (by omega))) hjl HJ.out
              go_roundw
              case rel => exact ⟨j + 1, Y ++ [j], by omega, by go_num, HP7.out, by rw [List.length_append]; simp; omega, (fun y hy => List.mem_append_left _ (HXY.out y hy)), (fun y hy => by
                rcases List.mem_append.1 hy with h | h
                · rcases HYX.out y h with h1 | h1
                  · exact Or.inl h1
                  · exact Or.inr (by omega)
                · simp at h; exact Or.inr (by omega)), fun y hy => by
                by_cases e : y = j
                · rw [e]; simp
                · exact List.mem_append_left _ (HALL.out y (by omega))⟩
              case measure => simp [intOf]; omega
          · have HYE : Hid (Y.length = n) := by show _ = _; omega
            go_wp2
            go_ret
            exact ⟨⟨pY, cY, pickT l Y, by rw [HLY.out]; rfl, ⟨Y, HPY.out.nodup, HPY.out.lt, rfl, HYE.out⟩, HPF.out.1, HPF.out.2.1, fun e => ⟨(by rcases HPF.out.1 with h | ⟨b, o, hq, _⟩; exact h; rw [e] at hq; cases hq), HPF.out.2.2 e⟩⟩, HPY.out.low⟩
        · have HYE : Hid (Y.length = n) := by
            show _ = _
            have h1 := length_le_of_subset (List.range l.length) Y List.nodup_range (fun x hx => HALL.out x (by have := List.mem_range.1 hx; omega))
            rw [List.length_range] at h1
            omega
          go_wp2
          go_ret
          exact ⟨⟨pY, cY, pickT l Y, by rw [HLY.out]; rfl, ⟨Y, HPY.out.nodup, HPY.out.lt, rfl, HYE.out⟩, HPF.out.1, HPF.out.2.1, fun e => ⟨(by rcases HPF.out.1 with h | ⟨b, o, hq, _⟩; exact h; rw [e] at hq; cases hq), HPF.out.2.2 e⟩⟩, HPY.out.low⟩
theorem meetE_fine {c : Cfg} {a b : List ByteArray} (h : ¬ 0 < (cfgF c).1) (ha : ∀ x ∈ a, x ∈ c.L) (hb : ∀ x ∈ b, x ∈ c.L) : meetE c a b = (0, -1) := by unfold meetE; rw [if_neg h, meetF_fine ha hb]
theorem meetT_fine {c : Cfg} {a b : List ByteArray} (h : ¬ 0 < (cfgF c).1) (ha : ∀ x ∈ a, x ∈ c.L) (hb : ∀ x ∈ b, x ∈ c.L) : meetT c a b = meetL c.L a b := by unfold meetT; rw [meetE_fine h ha hb]; rfl
set_option maxRecDepth 10000 in
set_option maxHeartbeats 8000000 in
theorem quorumTwo_any {ad : Nat → Addr} {X : World → Prop} (hO : QuorumOk ad X) (c : Cfg) (p : Option Addr) (cap : Nat) (a : List Int) (pa : Option Addr) (ca : Nat) (b : List Int) (pb : Option Addr) (cb : Nat) (w : World)
    (hl : c.L.length ≤ maxLen) (hx : ∀ x ∈ c.L, x.size ≤ maxLen) (hs : Strs w p c.L) (hn : p = none → c.L = [] ∧ cap = 0) (hin : CfgIn c) (hal : a.length ≤ maxLen) (hbl : b.length ≤ maxLen) (ha : Ints w pa a) (hb : Ints w pb b)
    (hS : ∀ W, Below w.heap.size w W → ErrsQ W ad) (hX : ∀ W, Below w.heap.size w W → X W) :
    Calls Tryd.prog 4 #[cfgA c (.slice p c.L.length cap), .slice pa a.length ca, .slice pb b.length cb] w fun e w' => e = .returned (.bool true) ∧ Below w.heap.size w w' := by
  obtain ⟨w1, hw1⟩ : ∃ w1, w1 = w.alloc (.cells #[.int .i64 c.n, .int .i64 c.k, .slice p c.L.length cap] 24) := ⟨_, rfl⟩
  have HW1 : Hid (w1 = w.alloc (.cells #[.int .i64 c.n, .int .i64 c.k, .slice p c.L.length cap] 24)) := hw1
  have hb1 : Below w.heap.size w w1 := by rw [hw1]; exact (Below.refl _ _).alloc (Nat.le_refl _) _
  have hx1 : w1.heap[w.heap.size]? = some (.cells #[.int .i64 c.n, .int .i64 c.k, .slice p c.L.length cap] 24 (0, 0)) := by rw [hw1]; exact heap_alloc_new _ _
  have hlt1 : w.heap.size < w1.heap.size := (Array.getElem?_eq_some_iff.1 hx1).1
  have HBX : Hid (∀ W, Below w1.heap.size w1 W → W.heap[w.heap.size]? = some (.cells #[.int .i64 c.n, .int .i64 c.k, .slice p c.L.length cap] 24 (0, 0))) := fun W hW => (hW.block _ hlt1).trans hx1
  have HLO : Hid (∀ W, Below w1.heap.size w1 W → Below w.heap.size w W) := fun W hW => hb1.trans (hW.mono hb1.size)
  have HEN := enough_any hO.en w1 (fun W hW => hS W (HLO.out W hW)) (fun W hW => hX W (HLO.out W hW))
  have HLC : Hid (∀ W, Below w1.heap.size w1 W → Calls Tryd.prog 6 #[cfgA c (.slice p c.L.length cap)] W fun e w' => e = .returned (.bool (longC c)) ∧ Below W.heap.size W w') := fun W hW => longConfig_any c p cap W hl hx (hs.below (HLO.out W hW))
  have HOC : Hid (∀ W, Below w1.heap.size w1 W → longC c = false → Calls Tryd.prog 10 #[cfgA c (.slice p c.L.length cap)] W fun e w' => (∃ q d, e = .returned (cfgA c (.slice q c.L.length d)) ∧ CfgAt w' c q d) ∧ Below W.heap.size W w') := fun W hW hlc => (ownConfig_any c p cap W (by have := (longC_fine hlc).1; omega) (hs.below (HLO.out W hW)) hn).mono fun e w' hp => by
    obtain ⟨⟨q, d, h1, h2, h3, h4⟩, h5⟩ := hp
    exact ⟨⟨q, d, h1, cfgAt_of h2 h3 h4 hlc hin⟩, h5⟩
  have HQE : Hid (∀ W q d, Below w1.heap.size w1 W → CfgAt W c q d → Calls Tryd.prog 11 #[cfgA c (.slice q c.L.length d)] W fun e w' => (∃ ev, e = .returned (.tuple #[.int .i64 ((if 0 < (cfgF c).1 then 0 else enoughN c : Nat) : Int), ev]) ∧ ErrIs w' ad ev (cfgF c).1 (cfgF c).2) ∧ Below W.heap.size W w') := fun W q d hW hc => hO.enough c q d W hc (hS W (HLO.out W hW)) (hX W (HLO.out W hW))
  have HSA : Hid (∀ W, Below w1.heap.size w1 W → longC c = false → a.length ≤ 40 → (enoughN c : Int) ≤ c.L.length → Calls Tryd.prog 16 #[.slice p c.L.length cap, .slice pa a.length ca, .int .i64 ((enoughN c : Nat) : Int)] W fun e w' => (∃ q d out, e = .returned (.slice q out.length d) ∧ SomeIs c.L (enoughN c) out ∧ Strs w' q out ∧ out.length ≤ d ∧ (q = none → out = [] ∧ d = 0)) ∧ Below W.heap.size W w') := fun W hW hlc h1 h2 => some_any c.L p cap a pa ca (enoughN c) W (by have := (longC_fine hlc).1; omega) (hs.below (HLO.out W hW)) (by omega) (ha.below (HLO.out W hW)) (by omega)
  have HSB : Hid (∀ W, Below w1.heap.size w1 W → longC c = false → b.length ≤ 40 → (enoughN c : Int) ≤ c.L.length → Calls Tryd.prog 16 #[.slice p c.L.length cap, .slice pb b.length cb, .int .i64 ((enoughN c : Nat) : Int)] W fun e w' => (∃ q d out, e = .returned (.slice q out.length d) ∧ SomeIs c.L (enoughN c) out ∧ Strs w' q out ∧ out.length ≤ d ∧ (q = none → out = [] ∧ d = 0)) ∧ Below W.heap.size W w') := fun W hW hlc h1 h2 => some_any c.L p cap b pb cb (enoughN c) W (by have := (longC_fine hlc).1; omega) (hs.below (HLO.out W hW)) (by omega) (hb.below (HLO.out W hW)) (by omega)
  have HME : Hid (∀ W q d x px cx y py cy, Below w1.heap.size w1 W → CfgAt W c q d → TxsAt W x px cx → TxsAt W y py cy → Calls Tryd.prog 12 #[cfgA c (.slice q c.L.length d), .slice px x.length cx, .slice py y.length cy] W fun e w' => (∃ ev lp lc, e = .returned (.tuple #[.slice lp (meetT c x y).length lc, ev]) ∧ Strs w' lp (meetT c x y) ∧ ErrIs w' ad ev (meetE c x y).1 (meetE c x y).2) ∧ Below W.heap.size W w') := fun W q d x px cx y py cy hW hc h1 h2 => hO.meet c q d x px cx y py cy W hc h1 h2 (hS W (HLO.out W hW)) (hX W (HLO.out W hW))
  have HFI : Hid (¬ 0 < (cfgF c).1 → (1 ≤ c.k ∧ c.k ≤ c.n ∧ c.n ≤ 12) ∧ (c.L.length : Int) = c.n ∧ cfgF c = (0, -1) ∧ c.L.Nodup) := fun h => ⟨(cfgF_fine h).1, (cfgF_fine h).2.1, (cfgF_fine h).2.2.1, (cfgF_fine h).2.2.2.2⟩
  have HMF : Hid (¬ 0 < (cfgF c).1 → ∀ x y, SomeIs c.L (enoughN c) x → SomeIs c.L (enoughN c) y → meetE c x y = (0, -1) ∧ c.k ≤ ((meetT c x y).length : Int)) := fun h x y h1 h2 => by
    refine ⟨meetE_fine h h1.mem h2.mem, ?_⟩
    rw [meetT_fine h h1.mem h2.mem]
    have hf := cfgF_fine h
    exact two_meet hf.1 hf.2.1 hf.2.2.2.2 (h1.nodup hf.2.2.2.2) (h2.nodup hf.2.2.2.2) h1.mem h2.mem h1.len h2.len
  have HLF : Hid (longC c = false → c.L.length ≤ 30 ∧ ∀ x ∈ c.L, x.size ≤ 60) := fun h => longC_fine h
  have HEL : Hid ((1 ≤ c.k ∧ c.k ≤ c.n ∧ c.n ≤ 12) → (enoughN c : Int) ≤ c.n ∧ 1 ≤ enoughN c ∧ enoughN c ≤ 12) := fun h => enoughN_le h
  have hcn := hin.1
  have hck := hin.2
  have hal' : a.length ≤ 9223372036854775807 := by unfold maxLen at hal; omega
  have hbl' : b.length ≤ 9223372036854775807 := by unfold maxLen at hbl; omega
  clear hw1 hb1 hx1 hO hl hx hs hn hin hal hbl ha hb hS hX
  obtain ⟨cn, ck, L⟩ := c
  unfold cfgA at *
  simp only [] at *
  go_enter Tryd.func4, Tryd.ntmps4
  go_wp2_with fail
  rw [← HW1.out]
  refine HEN.mono ?_
  rintro e w2 ⟨rfl, hb2⟩
  have HB2 : Hid (Below w1.heap.size w1 w2) := hb2
  have hx2 := HBX.out w2 hb2
  have q0 : w2.cell? ⟨w.heap.size, 0, none⟩ = some (.int .i64 cn) := by simp [World.cell?, hx2]
  have q1 : w2.cell? ⟨w.heap.size, 1, none⟩ = some (.int .i64 ck) := by simp [World.cell?, hx2]
  have q2 : w2.cell? ⟨w.heap.size, 2, none⟩ = some (.slice p L.length cap) := by simp [World.cell?, hx2]
  clear hb2 hx2 HEN HW1
  go_wp2_with fail
  refine (HLC.out w2 HB2.out).mono ?_
  rintro e w3 ⟨rfl, hb3⟩
  have HB3 : Hid (Below w1.heap.size w1 w3) := HB2.out.trans (hb3.mono HB2.out.size)
  clear hb3 HB2 HLC q0 q1 q2
  generalize hlc : longC ⟨cn, ck, L⟩ = LC at *
  cases LC with
  | true =>
    go_wp2
    go_ret
    exact ⟨rfl, HLO.out w3 HB3.out⟩
  | false =>
    by_cases h40 : 40 < a.length
    · have d1 : decide (40 < (a.length : Int)) = true := decide_eq_true (by omega)
      go_wp2
      go_ret
      exact ⟨rfl, HLO.out w3 HB3.out⟩
    have d1 : decide (40 < (a.length : Int)) = false := decide_eq_false (by omega)
    by_cases h41 : 40 < b.length
    · have d2 : decide (40 < (b.length : Int)) = true := decide_eq_true (by omega)
      go_wp2
      go_ret
      exact ⟨rfl, HLO.out w3 HB3.out⟩
    have d2 : decide (40 < (b.length : Int)) = false := decide_eq_false (by omega)
    have hx3 := HBX.out w3 HB3.out
    have q0 : w3.cell? ⟨w.heap.size, 0, none⟩ = some (.int .i64 cn) := by simp [World.cell?, hx3]
    have q1 : w3.cell? ⟨w.heap.size, 1, none⟩ = some (.int .i64 ck) := by simp [World.cell?, hx3]
    have q2 : w3.cell? ⟨w.heap.size, 2, none⟩ = some (.slice p L.length cap) := by simp [World.cell?, hx3]
    clear hx3
    go_wp2_with fail
    refine (HOC.out w3 HB3.out trivial).mono ?_
    rintro e w4 ⟨⟨q4, d4, rfl, hc4⟩, hb4⟩
    have HB4 : Hid (Below w1.heap.size w1 w4) := HB3.out.trans (hb4.mono HB3.out.size)
    have HC4 : Hid (CfgAt w4 ⟨cn, ck, L⟩ q4 d4) := hc4
    clear hb4 hc4 HB3 q0 q1 q2 d1 d2
    go_wp2_with fail
    refine (HQE.out w4 q4 d4 HB4.out HC4.out).mono ?_
    rintro e w5 ⟨⟨ev5, rfl, hev5⟩, hb5⟩
    have HB5 : Hid (Below w1.heap.size w1 w5) := HB4.out.trans (hb5.mono HB4.out.size)
    clear hb5 HB4 HC4 HQE
    by_cases hf : 0 < (cfgF ⟨cn, ck, L⟩).1
    · rw [if_pos hf]
      obtain ⟨t5, v5, rfl⟩ := hev5.some hf
      clear hev5
      go_wp2
      go_ret
      exact ⟨rfl, HLO.out w5 HB5.out⟩
    · rw [if_neg hf]
      obtain ⟨hb1, hb2, hb3, hb4⟩ := HFI.out (by omega)
      have hmf := HMF.out (by omega)
      have hel := HEL.out hb1
      rw [hb3] at hev5
      obtain rfl := hev5.isNil
      have HMF2 : Hid (∀ x y, SomeIs L (enoughN ⟨cn, ck, L⟩) x → SomeIs L (enoughN ⟨cn, ck, L⟩) y → meetE ⟨cn, ck, L⟩ x y = (0, -1) ∧ ck ≤ ((meetT ⟨cn, ck, L⟩ x y).length : Int)) := hmf
      have HLE : Hid ((enoughN ⟨cn, ck, L⟩ : Int) ≤ L.length) := by show _ ≤ _; omega
      have HMEM : Hid (∀ x, SomeIs L (enoughN ⟨cn, ck, L⟩) x → x.length = enoughN ⟨cn, ck, L⟩ ∧ x.length ≤ 1000 ∧ ∀ y ∈ x, y.size ≤ 1000) := fun x hx => ⟨hx.len, by rw [hx.len]; omega, fun y hy => by have := (HLF.out trivial).2 y (hx.mem y hy); omega⟩
      have HS40 : Hid (a.length ≤ 40 ∧ b.length ≤ 40) := ⟨by omega, by omega⟩
      generalize enoughN ⟨cn, ck, L⟩ = n at *
      have hx5 := HBX.out w5 HB5.out
      have q0 : w5.cell? ⟨w.heap.size, 0, none⟩ = some (.int .i64 cn) := by simp [World.cell?, hx5]
      have q1 : w5.cell? ⟨w.heap.size, 1, none⟩ = some (.int .i64 ck) := by simp [World.cell?, hx5]
      have q2 : w5.cell? ⟨w.heap.size, 2, none⟩ = some (.slice p L.length cap) := by simp [World.cell?, hx5]
      clear hev5 hb3 hb4 hmf HMF HFI HEL hx5 hf HLF
      go_wp2_with fail
      refine (HSA.out w5 HB5.out trivial HS40.out.1 HLE.out).mono ?_
      rintro e w6 ⟨⟨qa, da, oa, rfl, hsa, hta, hca, hna⟩, hb6⟩
      have HB6 : Hid (Below w1.heap.size w1 w6) := HB5.out.trans (hb6.mono HB5.out.size)
      have HTA : Hid (∀ W, Below w6.heap.size w6 W → TxsAt W oa qa da) := fun W hW => ⟨hta.below hW, hca, hna, (HMEM.out oa hsa).2.1, (HMEM.out oa hsa).2.2⟩
      have HSAI : Hid (SomeIs L n oa) := hsa
      have hla : oa.length = n := hsa.len
      have hx6 := HBX.out w6 HB6.out
      have r2 : w6.cell? ⟨w.heap.size, 2, none⟩ = some (.slice p L.length cap) := by simp [World.cell?, hx6]
      clear hb6 hsa hta hca hna hx6 HB5 q0 q1 q2 HSA
      rw [hla]
      go_wp2_with fail
      refine (HSB.out w6 HB6.out trivial HS40.out.2 HLE.out).mono ?_
      rintro e w7 ⟨⟨qb, db, ob, rfl, hsb, htb, hcb, hnb⟩, hb7⟩
      have HB7 : Hid (Below w1.heap.size w1 w7) := HB6.out.trans (hb7.mono HB6.out.size)
      have HTB : Hid (∀ W, Below w7.heap.size w7 W → TxsAt W ob qb db) := fun W hW => ⟨htb.below hW, hcb, hnb, (HMEM.out ob hsb).2.1, (HMEM.out ob hsb).2.2⟩
      have H67 : Hid (Below w6.heap.size w6 w7) := hb7
      have HSBI : Hid (SomeIs L n ob) := hsb
      have hlb : ob.length = n := hsb.len
      have hx7 := HBX.out w7 HB7.out
      have q0 : w7.cell? ⟨w.heap.size, 0, none⟩ = some (.int .i64 cn) := by simp [World.cell?, hx7]
      have q1 : w7.cell? ⟨w.heap.size, 1, none⟩ = some (.int .i64 ck) := by simp [World.cell?, hx7]
      have q2 : w7.cell? ⟨w.heap.size, 2, none⟩ = some (.slice p L.length cap) := by simp [World.cell?, hx7]
      clear hb7 hsb htb hcb hnb hx7 HB6 r2 HSB
      rw [hlb]
      go_wp2_with fail
      refine (HOC.out w7 HB7.out trivial).mono ?_
      rintro e w8 ⟨⟨q8, d8, rfl, hc8⟩, hb8⟩
      have HB8 : Hid (Below w1.heap.size w1 w8) := HB7.out.trans (hb8.mono HB7.out.size)
      have hme := HME.out w8 q8 d8 oa qa da ob qb db HB8.out hc8 (HTA.out w8 (H67.out.trans (hb8.mono H67.out.size))) (HTB.out w8 hb8)
      obtain ⟨hm1, hm2⟩ := HMF2.out oa ob HSAI.out HSBI.out
      rw [hm1, hla, hlb] at hme
      have HMC : Hid (Calls Tryd.prog 12 #[.agg #[.int .i64 cn, .int .i64 ck, .slice q8 L.length d8], .slice qa n da, .slice qb n db] w8 fun e w' => (∃ lp lc, e = .returned (.tuple #[.slice lp (meetT ⟨cn, ck, L⟩ oa ob).length lc, .nilIface])) ∧ Below w8.heap.size w8 w') := hme.mono fun e w' hp => by
        obtain ⟨⟨ev, lp, lc, h1, _, h3⟩, h4⟩ := hp
        obtain rfl := h3.isNil
        exact ⟨⟨lp, lc, h1⟩, h4⟩
      clear hme hm1 hc8 hb8 HB7 HTA HTB H67 q0 q1 q2 HME HOC HMF2 HSAI HSBI hla hlb
      generalize (meetT ⟨cn, ck, L⟩ oa ob).length = nm at *
      have dn : decide (ck ≤ (nm : Int)) = true := decide_eq_true hm2
      have dm : decide ((n : Int) ≤ cn) = true := decide_eq_true hel.1
      go_wp2_with fail
      refine HMC.out.mono ?_
      rintro e w9 ⟨⟨lp, lc, rfl⟩, hb9⟩
      have HB9 : Hid (Below w1.heap.size w1 w9) := HB8.out.trans (hb9.mono HB8.out.size)
      have hx9 := HBX.out w9 HB9.out
      have q0 : w9.cell? ⟨w.heap.size, 0, none⟩ = some (.int .i64 cn) := by simp [World.cell?, hx9]
      have q1 : w9.cell? ⟨w.heap.size, 1, none⟩ = some (.int .i64 ck) := by simp [World.cell?, hx9]
      clear hb9 hx9 HMC HB8
      go_wp2
      go_ret
      exact ⟨rfl, HLO.out w9 HB9.out⟩
theorem check_any (ad : Nat → Addr) (p : Option Addr) (l : List ByteArray) (c : Nat) (w : World) (hl : l.length ≤ 1000) (hc : l.length ≤ c) (hs : Strs w p l) (hE : ErrsQ w ad) :
    Calls Tryd.prog 22 #[.slice p l.length c] w fun e w' => (∃ ev, e = .returned ev ∧ ErrIs w' ad ev (nodesF l).1 (nodesF l).2) ∧ Below w.heap.size w w' := by
  exact check3_any ad p l c w hl hc hs ⟨hE.c1, hE.c3, hE.c5⟩
/-- A configuration in a block of its own. -/
structure CfgBox (w : World) (b : Nat) (c : Cfg) (lv : Value) : Prop where
  f0 : w.cell? ⟨b, 0, none⟩ = some (.int .i64 c.n)
  f1 : w.cell? ⟨b, 1, none⟩ = some (.int .i64 c.k)
  f2 : w.cell? ⟨b, 2, none⟩ = some lv
theorem CfgBox.below {w w' : World} {b : Nat} {c : Cfg} {lv : Value} (h : CfgBox w b c lv) (hb : Below w.heap.size w w') : CfgBox w' b c lv :=
  ⟨(hb.cell (lt_of_cellE h.f0)).trans h.f0, (hb.cell (lt_of_cellE h.f0)).trans h.f1, (hb.cell (lt_of_cellE h.f0)).trans h.f2⟩
theorem cfgBox_made (w : World) (c : Cfg) (lv : Value) (t : TypeId) : CfgBox (w.alloc (.cells #[.int .i64 c.n, .int .i64 c.k, lv] t)) w.heap.size c lv :=
  ⟨by rw [World.cell?_alloc_at _ _ _ _ rfl]; rfl, by rw [World.cell?_alloc_at _ _ _ _ rfl]; rfl, by rw [World.cell?_alloc_at _ _ _ _ rfl]; rfl⟩
set_option maxRecDepth 10000 in
set_option maxHeartbeats 4000000 in
theorem qcheck_any (ad : Nat → Addr) (c : Cfg) (p : Option Addr) (cap : Nat) (w : World) (hc : CfgAt w c p cap) (hE : ErrsQ w ad) :
    Calls Tryd.prog 9 #[cfgA c (.slice p c.L.length cap)] w fun e w' => (∃ ev, e = .returned ev ∧ ErrIs w' ad ev (cfgF c).1 (cfgF c).2) ∧ Below w.heap.size w w' := by
  obtain ⟨w1, hw1⟩ : ∃ w1, w1 = w.alloc (.cells #[.int .i64 c.n, .int .i64 c.k, .slice p c.L.length cap] 24) := ⟨_, rfl⟩
  have hb1 : Below w.heap.size w w1 := by rw [hw1]; exact (Below.refl _ _).alloc (Nat.le_refl _) _
  have hx1 : CfgBox w1 w.heap.size c (.slice p c.L.length cap) := by rw [hw1]; exact cfgBox_made w c _ _
  have hE1 := hE.below hb1
  have HCK : Hid (Calls Tryd.prog 22 #[.slice p c.L.length cap] w1 fun e w' => (∃ ev, e = .returned ev ∧ ErrIs w' ad ev (nodesF c.L).1 (nodesF c.L).2) ∧ Below w1.heap.size w1 w') := check_any ad p c.L cap w1 hc.len hc.room (hc.strs.below hb1) hE1
  have HW1 : Hid (w1 = w.alloc (.cells #[.int .i64 c.n, .int .i64 c.k, .slice p c.L.length cap] 24)) := hw1
  have HB1 : Hid (Below w.heap.size w w1) := hb1
  have HMF : Hid (∀ W, Calls Tryd.prog 21 #[.int .i64 c.n, .int .i64 c.k] W fun e w' => e = .returned (.bool (decide (1 ≤ c.k ∧ c.k ≤ c.n ∧ c.n ≤ 12))) ∧ w' = W) := fun W => mfits_any c.n c.k W
  have q1 := hE1.c1
  have q2 := hE1.c2
  have f0 := hx1.f0
  have f1 := hx1.f1
  have f2 := hx1.f2
  have HI1 : Hid (∀ W, ErrIs W ad (.iface 101 (.pointer (some (ad 1)))) 2 (-1)) := fun W => ErrIs.sent 1 (by decide)
  have HI2 : Hid (∀ W, ErrIs W ad (.iface 101 (.pointer (some (ad 2)))) 3 (-1)) := fun W => ErrIs.sent 2 (by decide)
  have hl1 := hc.len
  unfold cfgA
  clear hw1 hb1 hx1 hE1 hE hc
  by_cases hf : 1 ≤ c.k ∧ c.k ≤ c.n ∧ c.n ≤ 12
  · have HMF1 : Hid (∀ W, Calls Tryd.prog 21 #[.int .i64 c.n, .int .i64 c.k] W fun e w' => e = .returned (.bool true) ∧ w' = W) := fun W => by have := HMF.out W; rw [decide_eq_true hf] at this; exact this
    by_cases hn : (c.L.length : Int) = c.n
    · have HF : Hid (cfgF c = nodesF c.L) := cfgF_nodes hf hn
      rw [HF.out]
      obtain ⟨n, k, L⟩ := c
      dsimp only at *
      subst hn
      clear HMF HF hf
      generalize nodesF L = R at *
      go_enter Tryd.func9, Tryd.ntmps9
      go_wp2_with fail
      rw [← HW1.out]
      refine (HMF1.out _).mono ?_
      rintro e w2 ⟨rfl, hw2⟩
      rw [hw2]
      clear hw2 w2 HMF1
      go_wp2_with fail
      refine HCK.out.mono ?_
      rintro e w3 ⟨⟨ev, rfl, hev⟩, hb3⟩
      have HB3 : Hid (Below w.heap.size w w3) := HB1.out.trans (hb3.mono HB1.out.size)
      have HEV : Hid (ErrIs w3 ad ev R.1 R.2) := hev
      clear hev hb3 HCK
      go_wp2
      go_ret
      exact ⟨⟨_, rfl, HEV.out⟩, HB3.out⟩
    · have HF : Hid (cfgF c = (3, -1)) := cfgF_shape hf hn
      rw [HF.out]
      obtain ⟨n, k, L⟩ := c
      dsimp only at *
      clear HMF HF hf HCK
      go_enter Tryd.func9, Tryd.ntmps9
      go_wp2_with fail
      rw [← HW1.out]
      refine (HMF1.out _).mono ?_
      rintro e w2 ⟨rfl, hw2⟩
      rw [hw2]
      clear hw2 w2 HMF1
      go_wp2
      go_ret
      exact ⟨⟨_, rfl, HI2.out _⟩, HB1.out⟩
  · have HF : Hid (cfgF c = (2, -1)) := cfgF_bound hf
    have HMF1 : Hid (∀ W, Calls Tryd.prog 21 #[.int .i64 c.n, .int .i64 c.k] W fun e w' => e = .returned (.bool false) ∧ w' = W) := fun W => by have := HMF.out W; rw [decide_eq_false hf] at this; exact this
    rw [HF.out]
    obtain ⟨n, k, L⟩ := c
    dsimp only at *
    clear HMF HF hf HCK
    go_enter Tryd.func9, Tryd.ntmps9
    go_wp2_with fail
    rw [← HW1.out]
    refine (HMF1.out _).mono ?_
    rintro e w2 ⟨rfl, hw2⟩
    rw [hw2]
    clear hw2 w2 HMF1
    go_wp2
    go_ret
    exact ⟨⟨_, rfl, HI1.out _⟩, HB1.out⟩
set_option maxRecDepth 10000 in
set_option maxHeartbeats 4000000 in
theorem qenough_any (ad : Nat → Addr) (c : Cfg) (p : Option Addr) (cap : Nat) (w : World) (hc : CfgAt w c p cap) (hE : ErrsQ w ad) :
    Calls Tryd.prog 11 #[cfgA c (.slice p c.L.length cap)] w fun e w' => (∃ ev, e = .returned (.tuple #[.int .i64 ((if 0 < (cfgF c).1 then 0 else enoughN c : Nat) : Int), ev]) ∧ ErrIs w' ad ev (cfgF c).1 (cfgF c).2) ∧ Below w.heap.size w w' := by
  obtain ⟨w1, hw1⟩ : ∃ w1, w1 = w.alloc (.cells #[.int .i64 c.n, .int .i64 c.k, .slice p c.L.length cap] 24) := ⟨_, rfl⟩
  have hb1 : Below w.heap.size w w1 := by rw [hw1]; exact (Below.refl _ _).alloc (Nat.le_refl _) _
  have hx1 : CfgBox w1 w.heap.size c (.slice p c.L.length cap) := by rw [hw1]; exact cfgBox_made w c _ _
  have HCK := qcheck_any ad c p cap w1 (hc.below hb1) (hE.below hb1)
  have HW1 : Hid (w1 = w.alloc (.cells #[.int .i64 c.n, .int .i64 c.k, .slice p c.L.length cap] 24)) := hw1
  have HB1 : Hid (Below w.heap.size w w1) := hb1
  have HX1 : Hid (CfgBox w1 w.heap.size c (.slice p c.L.length cap)) := hx1
  have f0 := hx1.f0
  have f1 := hx1.f1
  have f2 := hx1.f2
  unfold cfgA at HCK ⊢
  clear hw1 hb1 hx1 hE hc
  by_cases hp : 0 < (cfgF c).1
  · rw [if_pos hp]
    have HP : Hid (0 < (cfgF c).1) := hp
    clear hp
    generalize cfgF c = R at *
    obtain ⟨n, k, L⟩ := c
    dsimp only at *
    go_enter Tryd.func11, Tryd.ntmps11
    go_wp2_with fail
    rw [← HW1.out]
    refine HCK.mono ?_
    rintro e w3 ⟨⟨ev, rfl, hev⟩, hb3⟩
    have HB3 : Hid (Below w.heap.size w w3) := HB1.out.trans (hb3.mono HB1.out.size)
    have HEV : Hid (ErrIs w3 ad ev R.1 R.2) := hev
    obtain ⟨et, eu, rfl⟩ := hev.some HP.out
    clear hev hb3 HCK
    go_wp2
    go_ret2
    exact ⟨⟨_, rfl, HEV.out⟩, HB3.out⟩
  · obtain ⟨hf, hn, h0, _, _⟩ := cfgF_fine hp
    rw [if_neg hp, h0]
    rw [h0] at HCK
    have HEN : Hid ((c.n + c.k + 1) / 2 = ((enoughN c : Nat) : Int)) := by
      show _ = _
      unfold enoughN
      omega
    have hf1 : 1 ≤ c.k := hf.1
    have hf2 : c.k ≤ c.n := hf.2.1
    have hf3 : c.n ≤ 12 := hf.2.2
    clear hp hn h0 hf
    generalize enoughN c = en at *
    obtain ⟨n, k, L⟩ := c
    dsimp only at *
    go_enter Tryd.func11, Tryd.ntmps11
    go_wp2_with fail
    rw [← HW1.out]
    refine HCK.mono ?_
    rintro e w3 ⟨⟨ev, rfl, hev⟩, hb3⟩
    have HB3 : Hid (Below w.heap.size w w3) := HB1.out.trans (hb3.mono HB1.out.size)
    have hx3 := HX1.out.below hb3
    have g0 := hx3.f0
    have g1 := hx3.f1
    dsimp only at g0 g1
    obtain rfl := ErrIs.isNil hev
    clear hev hb3 HCK hx3 f0 f1 f2
    go_wp2
    go_ret2
    exact ⟨⟨_, by rw [HEN.out]; rfl, ErrIs.nil _ _⟩, HB3.out⟩
/-- What a function that is handed in tells of each text, whatever was made since w. -/
def AsksT (w : World) (fn : FuncId) (caps : Array Value) (l : List ByteArray) (P : ByteArray → Bool) : Prop :=
  ∀ i, i < l.length → ∀ w1, Below w.heap.size w w1 → Calls Tryd.prog fn (#[.string (txt l i)] ++ caps) w1 fun e w2 => e = .returned (.bool (P (txt l i))) ∧ Below w1.heap.size w1 w2
set_option maxRecDepth 10000 in
set_option maxHeartbeats 1000000 in
theorem tindex_any (p : Option Addr) (l : List ByteArray) (cap : Nat) (fn : FuncId) (caps : Array Value) (P : ByteArray → Bool) (w : World) (hl : l.length ≤ 100000) (hs : Strs w p l)
    (hent : ∀ args W, Sem.run Tryd.prog (callFunc fn args) W = .ok (.enter fn args) W) (hc : AsksT w fn caps l P) :
    Calls Tryd.prog 25 #[.slice p l.length cap, .func (.func fn) #[] caps] w fun e w' => (∃ r : Int, e = .returned (.int .i64 r) ∧ ((∃ i : Nat, i < l.length ∧ r = (i : Int) ∧ P (txt l i) = true ∧ ∀ j, j < i → P (txt l j) = false) ∨ r = -1 ∧ ∀ j, j < l.length → P (txt l j) = false)) ∧ Below w.heap.size w w' := by
  have HS : Hid (Strs w p l) := hs
  have HC : Hid (AsksT w fn caps l P) := hc
  clear hs hc
  go_enter Tryd.func25, Tryd.ntmps25
  go_wp2
  go_loopw [8] (fun x wr => ∃ i : Nat, i ≤ l.length ∧ x = .int .i64 i ∧ (∀ j, j < i → P (txt l j) = false) ∧ Below w.heap.size w wr) (fun x _ => l.length - (intOf x).toNat)
  case atStart => exact ⟨0, by omega, rfl, fun j hj => absurd hj (Nat.not_lt_zero _), Below.refl _ _⟩
  case round =>
    obtain ⟨i, hi, rfl, hall, hB⟩ := hrel
    have HALL : Hid (∀ j, j < i → P (txt l j) = false) := hall
    have HB : Hid (Below w.heap.size w wr) := hB
    clear hall hB
    by_cases hil : i < l.length
    · rcases (HS.out.below HB.out) with h0 | ⟨b1, o1, rfl, _, hc1⟩
      · rw [h0] at hil; simp at hil
      have q1 := hc1 i hil
      have HX := HC.out i hil wr HB.out
      clear hc1
      cases hp : P (txt l i) with
      | true =>
        have HA : Hid (P (txt l i) = true) := hp
        rw [hp] at HX
        clear hp
        generalize txt l i = t at q1 HX
        go_wp2_with fail
        refine HX.mono ?_
        rintro e w2 ⟨rfl, hb2⟩
        clear HX
        go_wp2
        go_ret
        exact ⟨⟨(i : Int), rfl, Or.inl ⟨i, hil, rfl, HA.out, HALL.out⟩⟩, HB.out.trans (hb2.mono HB.out.size)⟩
      | false =>
        have HPF : Hid (P (txt l i) = false) := hp
        rw [hp] at HX
        clear hp
        generalize txt l i = t at q1 HX
        go_wp2_with fail
        refine HX.mono ?_
        rintro e w2 ⟨rfl, hb2⟩
        have HB2 : Hid (Below w.heap.size w w2) := HB.out.trans (hb2.mono HB.out.size)
        clear HX hb2 q1
        go_wp2
        go_roundw
        case rel =>
          refine ⟨i + 1, by omega, by go_num, fun j hj => ?_, HB2.out⟩
          by_cases e : j = i
          · rw [e]; exact HPF.out
          · exact HALL.out j (by omega)
        case measure => simp [intOf]; omega
    · have HN : Hid (∀ j, j < l.length → P (txt l j) = false) := fun j hj => HALL.out j (by omega)
      go_wp2
      go_ret
      exact ⟨⟨-1, rfl, Or.inr ⟨rfl, HN.out⟩⟩, HB.out⟩
set_option maxRecDepth 10000 in
theorem stranger_any (g : Nat) (p : Option Addr) (L : List ByteArray) (cap : Nat) (x : ByteArray) (w : World) (hl : L.length ≤ 1000000) (h2 : w.cell? ⟨g, 2, none⟩ = some (.slice p L.length cap)) (hs : Strs w p L) :
    Calls Tryd.prog 23 (#[.string x] ++ #[.pointer (some ⟨g, 0, none⟩)]) w fun e w2 => e = .returned (.bool (!inL L x)) ∧ Below w.heap.size w w2 := by
  have HC := scont_any p L cap x w hl hs
  clear hs
  generalize inL L x = b at *
  go_enter Tryd.func23, Tryd.ntmps23
  go_wp2_with fail
  refine HC.mono ?_
  rintro e w1 ⟨rfl, hw1⟩
  rw [hw1]
  clear hw1 w1 HC
  go_wp2
  go_ret
  exact ⟨rfl, Below.refl _ _⟩
/-- The list that is looked at: a, then b. -/
def abL (a b : List ByteArray) (i : Nat) : List ByteArray := if i = 0 then a else b
theorem abL_fault {c : Cfg} {a b : List ByteArray} {i j : Nat} (hi : i < 2) (ha : 0 < i → ∀ x ∈ a, x ∈ c.L) (hj : j < (abL a b i).length) (hall : ∀ q, q < j → txt (abL a b i) q ∈ c.L) (hn : txt (abL a b i) j ∉ c.L) : meetF c.L a b = (5, (j : Int)) := by
  unfold abL at *
  by_cases h : i = 0
  · rw [if_pos h] at *
    exact meetF_a hj hall hn
  · rw [if_neg h] at *
    exact meetF_b (ha (by omega)) hj hall hn
theorem all_txt {l L : List ByteArray} (h : ∀ j, j < l.length → txt l j ∈ L) : ∀ x ∈ l, x ∈ L := fun x hx => by
  obtain ⟨j, hj, rfl⟩ := List.getElem_of_mem hx
  have := h j hj
  rw [txt_getElem l j hj] at this
  exact this
theorem away_in {L : List ByteArray} {x : ByteArray} (h : (!inL L x) = false) : x ∈ L := by
  cases hh : inL L x with
  | true => exact inL_iff.1 hh
  | false => rw [hh] at h; cases h
theorem away_out {L : List ByteArray} {x : ByteArray} (h : (!inL L x) = true) : x ∉ L := fun hx => by rw [inL_iff.2 hx] at h; cases h
theorem meet_bad {c : Cfg} {a b : List ByteArray} (h : 0 < (cfgF c).1) : meetE c a b = cfgF c ∧ meetT c a b = [] := by
  have e : meetE c a b = cfgF c := if_pos h
  exact ⟨e, by unfold meetT; rw [e, if_pos h]⟩
theorem meet_away {c : Cfg} {a b : List ByteArray} {i : Nat} (h : ¬ 0 < (cfgF c).1) (h2 : meetF c.L a b = (5, (i : Int))) : meetE c a b = (5, (i : Int)) ∧ meetT c a b = [] := by
  have e : meetE c a b = (5, (i : Int)) := by unfold meetE; rw [if_neg h, h2]
  exact ⟨e, by unfold meetT; rw [e, if_pos (by show (0 : Int) < 5; decide)]⟩
theorem meet_fine {c : Cfg} {a b : List ByteArray} (h : ¬ 0 < (cfgF c).1) (ha : ∀ x ∈ a, x ∈ c.L) (hb : ∀ x ∈ b, x ∈ c.L) : meetE c a b = (0, -1) ∧ meetT c a b = meetL c.L a b := by
  have e : meetE c a b = (0, -1) := by unfold meetE; rw [if_neg h, meetF_fine ha hb]
  exact ⟨e, by unfold meetT; rw [e, if_neg (by show ¬ (0 : Int) < 0; decide)]⟩
theorem meetL_take {L a b : List ByteArray} {i : Nat} (h : i < L.length) : meetL (L.take (i + 1)) a b = meetL (L.take i) a b ++ (if inL a (txt L i) && inL b (txt L i) then [txt L i] else []) := filter_takeM h
theorem meetL_len {L a b : List ByteArray} : (meetL L a b).length ≤ L.length := List.length_filter_le _ _
set_option maxRecDepth 10000 in
set_option maxHeartbeats 8000000 in
theorem qmeet_any (ad : Nat → Addr) (c : Cfg) (p : Option Addr) (cap : Nat) (a : List ByteArray) (pa : Option Addr) (ca : Nat) (b : List ByteArray) (pb : Option Addr) (cb : Nat) (w : World) (hc : CfgAt w c p cap) (ha : TxsAt w a pa ca) (hb : TxsAt w b pb cb) (hE : ErrsQ w ad) :
    Calls Tryd.prog 12 #[cfgA c (.slice p c.L.length cap), .slice pa a.length ca, .slice pb b.length cb] w fun e w' => (∃ ev lp lc, e = .returned (.tuple #[.slice lp (meetT c a b).length lc, ev]) ∧ Strs w' lp (meetT c a b) ∧ ErrIs w' ad ev (meetE c a b).1 (meetE c a b).2) ∧ Below w.heap.size w w' := by
  obtain ⟨w1, hw1⟩ : ∃ w1, w1 = w.alloc (.cells #[.int .i64 c.n, .int .i64 c.k, .slice p c.L.length cap] 24) := ⟨_, rfl⟩
  have hb1 : Below w.heap.size w w1 := by rw [hw1]; exact (Below.refl _ _).alloc (Nat.le_refl _) _
  have hx1 : CfgBox w1 w.heap.size c (.slice p c.L.length cap) := by rw [hw1]; exact cfgBox_made w c _ _
  have HCK := qcheck_any ad c p cap w1 (hc.below hb1) (hE.below hb1)
  have HW1 : Hid (w1 = w.alloc (.cells #[.int .i64 c.n, .int .i64 c.k, .slice p c.L.length cap] 24)) := hw1
  have HB1 : Hid (Below w.heap.size w w1) := hb1
  have HX1 : Hid (CfgBox w1 w.heap.size c (.slice p c.L.length cap)) := hx1
  have HC1 : Hid (CfgAt w1 c p cap) := hc.below hb1
  have HA1 : Hid (TxsAt w1 a pa ca) := ha.below hb1
  have HBB1 : Hid (TxsAt w1 b pb cb) := hb.below hb1
  have HE1 : Hid (ErrsQ w1 ad) := hE.below hb1
  have hla := ha.len
  have hlb := hb.len
  have hll := hc.len
  have f0 := hx1.f0
  have f1 := hx1.f1
  have f2 := hx1.f2
  obtain ⟨M, hM⟩ : ∃ M, M = meetE c a b := ⟨_, rfl⟩
  obtain ⟨T, hT⟩ : ∃ T, T = meetT c a b := ⟨_, rfl⟩
  rw [← hM, ← hT]
  have HM : Hid (M = meetE c a b) := hM
  have HT : Hid (T = meetT c a b) := hT
  unfold cfgA at HCK ⊢
  clear hw1 hb1 hx1 hE hc ha hb hM hT
  by_cases hp : 0 < (cfgF c).1
  · have HP : Hid (0 < (cfgF c).1) := hp
    have HME : Hid (M = cfgF c ∧ T = []) := ⟨HM.out.trans (meet_bad hp).1, HT.out.trans (meet_bad hp).2⟩
    clear hp HM HT
    generalize cfgF c = R at *
    obtain ⟨n, k, L⟩ := c
    dsimp only at *
    go_enter Tryd.func12, Tryd.ntmps12
    go_wp2_with fail
    rw [← HW1.out]
    refine HCK.mono ?_
    rintro e w3 ⟨⟨ev, rfl, hev⟩, hb3⟩
    have HB3 : Hid (Below w.heap.size w w3) := HB1.out.trans (hb3.mono HB1.out.size)
    have HEV : Hid (ErrIs w3 ad ev R.1 R.2) := hev
    obtain ⟨et, eu, rfl⟩ := hev.some HP.out
    clear hev hb3 HCK
    go_wp2
    go_ret2
    exact ⟨⟨_, none, 0, by rw [HME.out.2]; rfl, by rw [HME.out.2]; exact Strs.nil _ _, by rw [HME.out.1]; exact HEV.out⟩, HB3.out⟩
  · obtain ⟨hf, hn, h0, _, _⟩ := cfgF_fine hp
    rw [h0] at HCK
    have HMA : Hid (∀ j : Nat, meetF c.L a b = (5, (j : Int)) → M = (5, (j : Int)) ∧ T = []) := fun j h5 => ⟨HM.out.trans (meet_away hp h5).1, HT.out.trans (meet_away hp h5).2⟩
    have HMF : Hid ((∀ x ∈ a, x ∈ c.L) → (∀ x ∈ b, x ∈ c.L) → M = (0, -1) ∧ T = meetL c.L a b) := fun h1 h2 => ⟨HM.out.trans (meet_fine hp h1 h2).1, HT.out.trans (meet_fine hp h1 h2).2⟩
    clear hp hn h0 hf HM HT
    go_enter Tryd.func12, Tryd.ntmps12
    go_wp2_with fail
    rw [← HW1.out]
    refine HCK.mono ?_
    rintro e w3 ⟨⟨ev, rfl, hev⟩, hb3⟩
    obtain rfl := ErrIs.isNil hev
    have hs13 := hb3.size
    obtain ⟨w4, hw4⟩ : ∃ w4, w4 = w3.alloc (.cells #[.slice pa a.length ca, .slice pb b.length cb] 22) := ⟨_, rfl⟩
    have hb4 : Below w3.heap.size w3 w4 := by rw [hw4]; exact (Below.refl _ _).alloc (Nat.le_refl _) _
    have hb14 : Below w1.heap.size w1 w4 := hb3.trans (hb4.mono hs13)
    have HW4 : Hid (w4 = w3.alloc (.cells #[.slice pa a.length ca, .slice pb b.length cb] 22)) := hw4
    have HB4 : Hid (Below w.heap.size w w4) := HB1.out.trans (hb14.mono HB1.out.size)
    have HX4 : Hid (CfgBox w4 w.heap.size c (.slice p c.L.length cap)) := HX1.out.below hb14
    have HC4 : Hid (CfgAt w4 c p cap) := HC1.out.below hb14
    have HA4 : Hid (TxsAt w4 a pa ca) := HA1.out.below hb14
    have HBB4 : Hid (TxsAt w4 b pb cb) := HBB1.out.below hb14
    have HE4 : Hid (ErrsQ w4 ad) := HE1.out.below hb14
    have HR4 : Hid (w4.cell? ⟨w3.heap.size, 0, none⟩ = some (.slice pa a.length ca) ∧ w4.cell? ⟨w3.heap.size, 1, none⟩ = some (.slice pb b.length cb)) := by
      rw [hw4]
      exact ⟨by rw [World.cell?_alloc_at _ _ _ _ rfl]; rfl, by rw [World.cell?_alloc_at _ _ _ _ rfl]; rfl⟩
    clear hev hb3 hb4 hb14 hw4 HCK HX1 HC1 HA1 HBB1 HE1 f0 f1 f2 hs13 HW1
    go_wp2_with (rw [← HW4.out])
    go_loopw [26] (fun x wr => ∃ i : Nat, i ≤ 2 ∧ x = .int .i64 i ∧ (0 < i → ∀ x ∈ a, x ∈ c.L) ∧ (1 < i → ∀ x ∈ b, x ∈ c.L) ∧ Below w4.heap.size w4 wr) (fun x _ => 2 - (intOf x).toNat)
    case atStart => exact ⟨0, by omega, rfl, fun h => absurd h (by omega), fun h => absurd h (by omega), Below.refl _ _⟩
    case round =>
      obtain ⟨i, hi, rfl, hia, hib, hB⟩ := hrel
      obtain ⟨w5, rfl⟩ : ∃ w5, w5 = wr := ⟨_, rfl⟩
      have HIA : Hid (0 < i → ∀ x ∈ a, x ∈ c.L) := hia
      have HIB : Hid (1 < i → ∀ x ∈ b, x ∈ c.L) := hib
      have HB5 : Hid (Below w4.heap.size w4 w5) := hB
      have hx5 := HX4.out.below hB
      have hc5 := HC4.out.below hB
      clear hia hib
      by_cases hi2 : i < 2
      · obtain ⟨l, pl, cl, hab, hcl, htl⟩ : ∃ l pl cl, abL a b i = l ∧ w5.cell? ⟨w3.heap.size, i, none⟩ = some (.slice pl l.length cl) ∧ TxsAt w5 l pl cl := by
          have hlt := lt_of_cellE HR4.out.1
          rcases (by omega : i = 0 ∨ i = 1) with rfl | rfl
          · exact ⟨a, pa, ca, rfl, (hB.cell (p := ⟨w3.heap.size, 0, none⟩) hlt).trans HR4.out.1, HA4.out.below hB⟩
          · exact ⟨b, pb, cb, rfl, (hB.cell (p := ⟨w3.heap.size, 1, none⟩) hlt).trans HR4.out.2, HBB4.out.below hB⟩
        have HAB : Hid (abL a b i = l) := hab
        have HASK : AsksT w5 23 #[.pointer (some ⟨w.heap.size, 0, none⟩)] l (fun x => !inL c.L x) := fun j hj w6 h6 => stranger_any w.heap.size p c.L cap (txt l j) w6 (by omega) ((h6.cell (p := ⟨w.heap.size, 2, none⟩) (lt_of_cellE hx5.f2)).trans hx5.f2) (hc5.strs.below h6)
        have HIX := tindex_any pl l cl 23 #[.pointer (some ⟨w.heap.size, 0, none⟩)] (fun x => !inL c.L x) w5 (by have := htl.len; omega) htl.strs (enters_of Tryd.func23 (by kernel_rfl) rfl) HASK
        have hll5 := htl.len
        clear hab htl HASK hx5 hc5 hB
        go_wp2_with fail
        refine HIX.mono ?_
        rintro e w6 ⟨⟨r, rfl, hr⟩, hb6⟩
        have hb46 : Below w4.heap.size w4 w6 := HB5.out.trans (hb6.mono HB5.out.size)
        have HB6 : Hid (Below w4.heap.size w4 w6) := hb46
        have hE6 := HE4.out.below hb46
        have q4 := hE6.c4
        clear hE6 hb46 hb6 HIX hcl
        rcases hr with ⟨j, hj, rfl, hpj, hall⟩ | ⟨rfl, hall⟩
        · have HF : Hid (M = (5, (j : Int)) ∧ T = []) := by
            have h5 : meetF c.L a b = (5, (j : Int)) := abL_fault hi2 HIA.out (by rw [HAB.out]; exact hj) (fun q hq => by rw [HAB.out]; exact away_in (hall q hq)) (by rw [HAB.out]; exact away_out hpj)
            exact HMA.out j h5
          have hj0 : decide ((0 : Int) ≤ (j : Int)) = true := decide_eq_true (by omega)
          clear hpj hall HMA HMF
          go_wp2
          go_region
          go_wp2
          go_ret2
         
          exact ⟨⟨_, none, 0, by rw [HF.out.2]; rfl, by rw [HF.out.2]; exact Strs.nil _ _, by rw [HF.out.1]; exact (errIs_fault (w := w6) 4 (by decide) (j : Int) rfl : ErrIs (w6.alloc (.cells #[.int .i64 (j : Int), .iface 101 (.pointer (some (ad 4)))] 58)) ad _ ((4 + 1 : Nat) : Int) (j : Int))⟩, below_drewN (HB4.out.trans ((HB6.out.mono HB4.out.size).alloc (Nat.le_trans HB4.out.size HB6.out.size) _)) 1⟩
        · have HN : Hid (∀ x ∈ l, x ∈ c.L) := all_txt fun j hj => away_in (hall j hj)
          clear hall
          go_wp2
          go_roundw
          case rel =>
            refine ⟨i + 1, by omega, by go_num, fun _ => ?_, fun h1 => ?_, HB6.out⟩
            · rcases (by omega : i = 0 ∨ i = 1) with h | h
              · have : a = l := by rw [← HAB.out, h]; rfl
                rw [this]
                exact HN.out
              · exact HIA.out (by omega)
            · have : b = l := by rw [← HAB.out, show i = 1 by omega]; rfl
              rw [this]
              exact HN.out
          case measure => simp [intOf]; omega
      · have HF : Hid (M = (0, -1) ∧ T = meetL c.L a b) := by
          have h1 := HIA.out (by omega)
          have h2 := HIB.out (by omega)
          exact HMF.out h1 h2
        have g2 := hx5.f2
        have HC5 : Hid (CfgAt w5 c p cap) := hc5
        have HA5 : Hid (TxsAt w5 a pa ca) := HA4.out.below hB
        have HBB5 : Hid (TxsAt w5 b pb cb) := HBB4.out.below hB
        have HBW5 : Hid (Below w.heap.size w w5) := HB4.out.trans (hB.mono HB4.out.size)
        clear hx5 hc5 hB HMA HMF HIA HIB
        go_wp2
        go_loopw [13, 44] (fun v x wr => ∃ j : Nat, j ≤ c.L.length ∧ x = .int .i64 j ∧ OwnT wr w5.heap.size v (meetL (c.L.take j) a b) ∧ Below w5.heap.size w5 wr) (fun _ x _ => c.L.length - (intOf x).toNat)
        case atStart => exact ⟨0, Nat.zero_le _, rfl, OwnT.nil _ _, Below.refl _ _⟩
        case round =>
          obtain ⟨j, hj, rfl, hO, hB⟩ := hrel
          obtain ⟨w6, rfl⟩ : ∃ w6, w6 = wr := ⟨_, rfl⟩
          obtain ⟨pv, cv, rfl, hsv, _⟩ := hO.form
          have HO6 : Hid (OwnT w6 w5.heap.size (.slice pv (meetL (c.L.take j) a b).length cv) (meetL (c.L.take j) a b)) := hO
          have HB6 : Hid (Below w5.heap.size w5 w6) := hB
          have HSV : Hid (Strs w6 pv (meetL (c.L.take j) a b)) := hsv
          have hml : (meetL (c.L.take j) a b).length ≤ 1000 := Nat.le_trans meetL_len (by rw [List.length_take]; omega)
          clear hO hsv
          by_cases hjl : j < c.L.length
          · rcases (HC5.out.strs.below hB) with h0 | ⟨bl, ol, rfl, hbl, hcs⟩
            · rw [h0] at hjl; simp at hjl
            have q1 := hcs j hjl
            have HSTEP : Hid (meetL (c.L.take (j + 1)) a b = meetL (c.L.take j) a b ++ (if inL a (txt c.L j) && inL b (txt c.L j) then [txt c.L j] else [])) := meetL_take hjl
            have hsz : (txt c.L j).size ≤ 1000 := HC5.out.size _ (txt_mem hjl)
            have HCA : Hid (Calls Tryd.prog 24 #[.slice pa a.length ca, .string (txt c.L j)] w6 fun e w' => e = .returned (.bool (inL a (txt c.L j))) ∧ w' = w6) := scont_any pa a ca (txt c.L j) w6 (by omega) (HA5.out.strs.below hB)
            have HCB : Hid (Calls Tryd.prog 24 #[.slice pb b.length cb, .string (txt c.L j)] w6 fun e w' => e = .returned (.bool (inL b (txt c.L j))) ∧ w' = w6) := scont_any pb b cb (txt c.L j) w6 (by omega) (HBB5.out.strs.below hB)
            have HCL : Hid (Calls Tryd.prog 26 #[.string (txt c.L j)] w6 fun e w' => e = .returned (.string (txt c.L j)) ∧ Below w6.heap.size w6 w') := sclone_any _ w6 (by omega)
            clear hcs hB hsz
            generalize txt c.L j = t at *
            generalize meetL (c.L.take j) a b = ML at *
            cases hia : inL a t with
            | false =>
              rw [hia] at HCA HSTEP
              have HST : Hid (meetL (c.L.take (j + 1)) a b = ML) := HSTEP.out.trans (List.append_nil _)
              clear HSTEP
              go_wp2_with fail
              refine HCA.out.mono ?_
              rintro e w7 ⟨rfl, hw7⟩
              rw [hw7]
              clear hw7 w7 HCA HCB HCL hia
              go_wp2
              go_roundw
              case rel => exact ⟨j + 1, by omega, by go_num, by rw [HST.out]; exact HO6.out, HB6.out⟩
              case measure => simp [intOf]; omega
            | true =>
              rw [hia] at HCA HSTEP
              cases hib : inL b t with
              | false =>
                rw [hib] at HCB HSTEP
                have HST : Hid (meetL (c.L.take (j + 1)) a b = ML) := HSTEP.out.trans (List.append_nil _)
                clear HSTEP
                go_wp2_with fail
                refine HCA.out.mono ?_
                rintro e w7 ⟨rfl, hw7⟩
                rw [hw7]
                clear hw7 w7 HCA HCL hia hib
                go_wp2_with fail
                refine HCB.out.mono ?_
                rintro e w7 ⟨rfl, hw7⟩
                rw [hw7]
                clear hw7 w7 HCB
                go_wp2
                go_roundw
                case rel => exact ⟨j + 1, by omega, by go_num, by rw [HST.out]; exact HO6.out, HB6.out⟩
                case measure => simp [intOf]; omega
              | true =>
                rw [hib] at HCB HSTEP
                have HST : Hid (meetL (c.L.take (j + 1)) a b = ML ++ [t]) := HSTEP.out
                clear HSTEP
                go_wp2_with fail
                refine HCA.out.mono ?_
                rintro e w7 ⟨rfl, hw7⟩
                rw [hw7]
                clear hw7 w7 HCA hia hib
                go_wp2_with fail
                refine HCB.out.mono ?_
                rintro e w7 ⟨rfl, hw7⟩
                rw [hw7]
                clear hw7 w7 HCB
                go_wp2_with fail
                refine HCL.out.mono ?_
                rintro e w7 ⟨rfl, hb7⟩
                have HO7 : Hid (OwnT w7 w5.heap.size (.slice pv ML.length cv) ML) := HO6.out.kept hb7
                have HB7 : Hid (Below w5.heap.size w5 w7) := HB6.out.trans (hb7.mono HB6.out.size)
                have hs7 : w5.heap.size ≤ w7.heap.size := HB7.out.size
                clear hb7 HCL HO6 q1 HSV
                go_wp2_with (first | (at_builtin; refine wpList_append_str rfl (.tmp 56) (.tmp 59) rfl w5.heap.size (.slice pv ML.length cv) ML rfl (HO7.out.kept ((Below.refl _ _).alloc (Nat.le_refl _) _)) ⟨w7.heap.size, 0, none⟩ t 1 rfl (by rw [World.cell?_alloc_at _ _ _ _ rfl]; rfl) (by omega) (by simp; omega) ?_; intro v8 w8 hO8 hb8))
                have HO8 : Hid (OwnT w8 w5.heap.size v8 (ML ++ [t])) := hO8
                have HB8 : Hid (Below w5.heap.size w5 w8) := HB7.out.trans ((((Below.refl w7.heap.size w7).alloc (Nat.le_refl _) _).mono hs7).trans hb8)
                clear hO8 hb8 HO7 HB7
                go_wp2
                go_roundw
                case rel => exact ⟨j + 1, by omega, by go_num, by rw [HST.out]; exact HO8.out, HB8.out⟩
                case measure => simp [intOf]; omega
          · have HE6 : Hid (meetL (c.L.take j) a b = T) := by show _ = _; rw [HF.out.2, List.take_of_length_le (by omega)]
            rw [HE6.out] at HSV hml
            rw [HE6.out]
            clear hB
            go_wp2
            go_ret2
            exact ⟨⟨_, pv, cv, rfl, HSV.out, by rw [HF.out.1]; exact ErrIs.nil _ _⟩, HBW5.out.trans (HB6.out.mono HBW5.out.size)⟩
theorem quorumOk (ad : Nat → Addr) : QuorumOk ad fun _ => True where
  check := fun c p cap w hc hE _ => qcheck_any ad c p cap w hc hE
  enough := fun c p cap w hc hE _ => qenough_any ad c p cap w hc hE
  meet := fun c p cap a pa ca b pb cb w hc ha hb hE _ => qmeet_any ad c p cap a pa ca b pb cb w hc ha hb hE
end Go.Proofs.YtpjeibicopgedaaDoor
