/- The statements' own 'some': members that are picked, then filled up in their order. -/
import Derived.Test.YtgjehnahkbddgaaDoorQuLB
import Derived.Test.YtgjehnahkbddgaaDoorOwnEB
namespace Go.Proofs.YtgjehnahkbddgaaDoor
open Go.RowKit
theorem OwnE.keptB {w w' : World} {E : TypeId} {B g r : Nat} {vf : Nat → Value} {K : Nat} (h : OwnE w E B g r vf) (hb : Below K w w') (hg : g < K) : OwnE w' E B g r vf := by
  obtain ⟨h1, h2⟩ := h
  refine ⟨h1, ?_⟩
  rcases h2 with h2 | ⟨g', cap, cur, hv, hbg, hgg, hrest⟩
  · exact Or.inl h2
  · refine Or.inr ⟨g', cap, cur, hv, hbg, ?_, hrest⟩
    have e : g' = g := by injection hv with e1; injection e1 with e2; injection e2 with e3; exact e3.symm
    subst e
    exact (hb.block _ hg).trans hgg
/-- Texts by their places. -/
def pickT (l : List ByteArray) (X : List Nat) : List ByteArray := X.map (txt l)
/-- What 'some' answers: so many unlike ones of the list. -/
def SomeIs (l : List ByteArray) (n : Nat) (out : List ByteArray) : Prop := ∃ X : List Nat, X.Nodup ∧ (∀ x ∈ X, x < l.length) ∧ out = pickT l X ∧ X.length = n
theorem SomeIs.mem {l out : List ByteArray} {n : Nat} (h : SomeIs l n out) : ∀ x ∈ out, x ∈ l := by
  obtain ⟨X, _, h2, rfl, _⟩ := h
  intro x hx
  obtain ⟨i, hi, rfl⟩ := List.mem_map.1 hx
  exact txt_mem (h2 i hi)
theorem SomeIs.len {l out : List ByteArray} {n : Nat} (h : SomeIs l n out) : out.length = n := by
  obtain ⟨X, _, _, rfl, h4⟩ := h
  unfold pickT
  rw [List.length_map, h4]
theorem SomeIs.nodup {l out : List ByteArray} {n : Nat} (h : SomeIs l n out) (hl : l.Nodup) : out.Nodup := by
  obtain ⟨X, h1, h2, rfl, _⟩ := h
  unfold pickT
  rw [List.nodup_iff_pairwise_ne] at *
  rw [List.pairwise_map]
  refine List.Pairwise.imp_of_mem (fun {a b} ha hb hab => ?_) h1
  intro e
  rw [txt_getElem l a (h2 a ha), txt_getElem l b (h2 b hb)] at e
  rcases Nat.lt_trichotomy a b with h | h | h
  · exact List.pairwise_iff_getElem.1 hl a b (h2 a ha) (h2 b hb) h e
  · exact hab h
  · exact List.pairwise_iff_getElem.1 hl b a (h2 b hb) (h2 a ha) h e.symm
/-- While members are picked: the marks of X in block ub, and the texts. -/
structure PickAt (w0 W : World) (l : List ByteArray) (M X : List Nat) (v : Value) : Prop where
  marks : OwnE W 4 w0.heap.size w0.heap.size l.length (fun i => .bool (decide (i ∈ M)))
  own : OwnT W (w0.heap.size + 1) v (pickT l X)
  low : Below w0.heap.size w0 W
  nodup : X.Nodup
  lt : ∀ x ∈ X, x < l.length
theorem bool_make (r : Nat) (hr : r ≤ 1000000) (W : World) : Sem.run Tryd.prog (Instr.makeSlice 60 (.int .i64 (r : Int)) (.int .i64 (r : Int))) W = .ok (.slice (some ⟨W.heap.size, 0, none⟩) r r) (W.alloc (.cells (madeCells #[.bool false] r) 4)) := by
  obtain ⟨i0, hi0, hz0, hz1, hzb⟩ := info_parts boolinfo
  exact run_make_row (P := Tryd.prog) 60 4 i0 (.bool false) Tryd.underlying60 hi0 hz0 hz1 rfl .i64 .i64 r (by rw [hzb]; omega) (by omega) W
theorem PickAt.snoc {w0 W W' : World} {l : List ByteArray} {M M' X : List Nat} {v v' : Value} {x : Nat} (h : PickAt w0 W l M X v) (hm : OwnE W' 4 w0.heap.size w0.heap.size l.length (fun i => .bool (decide (i ∈ M')))) (hO : OwnT W' (w0.heap.size + 1) v' (pickT l X ++ [txt l x])) (hb : Below w0.heap.size w0 W') (hx : x < l.length) (hnx : x ∉ X) : PickAt w0 W' l M' (X ++ [x]) v' :=
  ⟨hm, by unfold pickT; rw [List.map_append]; exact hO, hb, by
    rw [List.nodup_append]
    exact ⟨h.nodup, by simp, fun a ha b hb e => by simp at hb; subst hb; exact hnx (by rw [← e]; exact ha)⟩, fun y hy => by
    rcases List.mem_append.1 hy with h1 | h1
    · exact h.lt y h1
    · simp at h1; subst h1; exact hx⟩
set_option maxRecDepth 10000 in
set_option maxHeartbeats 8000000 in
theorem some_any (l : List ByteArray) (p : Option Addr) (cl : Nat) (pick : List Int) (pp : Option Addr) (cp n : Nat) (w : World) (hl : l.length ≤ 1000) (hs : Strs w p l) (hpk : pick.length ≤ 1000) (hi : Ints w pp pick) (hn : n ≤ l.length) :
    Calls Tryd.prog 16 #[.slice p l.length cl, .slice pp pick.length cp, .int .i64 (n : Int)] w fun e w' => (∃ q d out, e = .returned (.slice q out.length d) ∧ SomeIs l n out ∧ Strs w' q out ∧ out.length ≤ d ∧ (q = none → out = [] ∧ d = 0)) ∧ Below w.heap.size w w' := by
  have hmk := bool_make l.length (by omega)
  obtain ⟨w1, hw1⟩ : ∃ w1, w1 = w.alloc (.cells (madeCells #[.bool false] l.length) 4) := ⟨_, rfl⟩
  have HW1 : Hid (w1 = w.alloc (.cells (madeCells #[.bool false] l.length) 4)) := hw1
  have hp1 : PickAt w w1 l [] [] (.slice none 0 0) := by
    refine ⟨?_, OwnT.nil _ _, ?_, List.nodup_nil, (fun x hx => by cases hx)⟩
    · rw [hw1]
      exact (OwnE.made w 4 (.bool false) w.heap.size l.length (Nat.le_refl _) (by omega)).congr (fun i _ => by simp)
    · rw [hw1]; exact (Below.refl _ _).alloc (Nat.le_refl _) _
  have HP1 : Hid (PickAt w w1 l [] [] (.slice none 0 0)) := hp1
  have HST : Hid (∀ W, Below w.heap.size w W → Strs W p l) := fun W hW => hs.below hW
  have HIT : Hid (∀ W, Below w.heap.size w W → Ints W pp pick) := fun W hW => hi.below hW
  clear hw1 hp1 hs hi
  go_enter Tryd.func16, Tryd.ntmps16
  go_wp2
  rw [show w.alloc (.cells (madeCells #[.bool false] l.length) 4) = w1 from HW1.out.symm]
  clear HW1 hmk
  go_loopw [8, 9] (fun v x wr => ∃ (i : Nat) (X : List Nat), i ≤ pick.length ∧ x = .int .i64 i ∧ PickAt w wr l X X v ∧ X.length ≤ n) (fun _ x _ => pick.length - (intOf x).toNat)
  case atStart => exact ⟨0, [], Nat.zero_le _, rfl, HP1.out, Nat.zero_le _⟩
  case round =>
    obtain ⟨i, X, hi, rfl, hP, hXn⟩ := hrel
    obtain ⟨w4, rfl⟩ : ∃ w4, w4 = wr := ⟨_, rfl⟩
    obtain ⟨pX, cX, hv, hSX, hcX, hnX, _⟩ := hP.own.form
    have hlx : (pickT l X).length = X.length := by unfold pickT; rw [List.length_map]
    rw [hlx] at hv
    subst hv
    have HP : Hid (PickAt w w4 l X X (.slice pX X.length cX)) := hP
    have hub := hP.marks.lt
    have hXl : X.length ≤ 1000 := by omega
    clear hP hSX hcX hnX hlx HP1
    by_cases hil : i < pick.length
    · by_cases hlt : X.length < n
      · rcases HIT.out w (Below.refl _ _) with h0 | ⟨bp, op, hpp, hbp, hcp⟩
        · rw [h0] at hil; simp at hil
        subst hpp
        have cpi0 := hcp i hil
        have HPK : Hid (∀ W, Below w.heap.size w W → W.cell? ⟨bp, op + i, none⟩ = some (.int .i64 (pick.getD i 0))) := fun W hW => (hW.cell (p := ⟨bp, op + i, none⟩) hbp).trans cpi0
        have cpi := HPK.out w4 HP.out.low
        clear hcp cpi0
        generalize pick.getD i 0 = y at cpi HPK
        by_cases hin : 0 ≤ y ∧ y < l.length
        · obtain ⟨x, rfl⟩ := Int.eq_ofNat_of_zero_le hin.1
          have hxn : x < l.length := by omega
          have cu := HP.out.marks.cell x hxn
          have fu : w4.frozen? ⟨w.heap.size, x, none⟩ = false := HP.out.marks.free x
          clear hin
          by_cases hxX : x ∈ X
          · rw [decide_eq_true hxX] at cu
            clear hxX
            go_wp2
            go_roundw
            case rel => exact ⟨i + 1, X, by omega, by go_num, HP.out, hXn⟩
            case measure => simp [intOf]; omega
          · rw [decide_eq_false hxX] at cu
            have HX : Hid (x ∉ X) := hxX
            clear hxX
            obtain ⟨b, o, hpp, hbl, hcl⟩ : ∃ b o, p = some ⟨b, o, none⟩ ∧ b < w.heap.size ∧ ∀ W, Below w.heap.size w W → W.cell? ⟨b, o + x, none⟩ = some (.string (txt l x)) := by
              rcases HST.out w (Below.refl _ _) with h0 | ⟨b, o, hp, hlt2, hc⟩
              · rw [h0] at hxn; simp at hxn
              · exact ⟨b, o, hp, hlt2, fun W hW => (hW.cell (p := ⟨b, o + x, none⟩) hlt2).trans (hc x hxn)⟩
            subst hpp
            have hlow := HP.out.low
            have hus : w.heap.size + 1 ≤ w4.heap.size := by omega
            have hb5 : Below w.heap.size w (w4.setCell ⟨w.heap.size, x, none⟩ (.bool true)) := hlow.setCell (p := ⟨w.heap.size, x, none⟩) (Nat.le_refl _) _
            have c5 := hcl _ hb5
            have cpi5 := HPK.out _ hb5
            have HM5 : Hid (OwnE (w4.setCell ⟨w.heap.size, x, none⟩ (.bool true)) 4 w.heap.size w.heap.size l.length (fun i => .bool (decide (i ∈ X ++ [x])))) := (HP.out.marks.set x (.bool true)).congr (fun y _ => by
              by_cases e : y = x
              · subst e; simp
              · simp [e])
            have HO5 : Hid (OwnT ((w4.setCell ⟨w.heap.size, x, none⟩ (.bool true)).alloc (.cells #[.string (txt l x)] 9)) (w.heap.size + 1) (.slice pX X.length cX) (pickT l X)) := (HP.out.own.setC (b := w.heap.size) (by omega) x (.bool true)).kept ((Below.refl _ _).alloc (Nat.le_refl _) _)
            have c6 : ((w4.setCell ⟨w.heap.size, x, none⟩ (.bool true)).alloc (.cells #[.string (txt l x)] 9)).cell? ⟨w4.heap.size, 0, none⟩ = some (.string (txt l x)) := by
              have e : (w4.setCell ⟨w.heap.size, x, none⟩ (.bool true)).heap.size = w4.heap.size := by simp
              rw [← e, World.cell?_alloc_at _ _ _ _ rfl]
              rfl
            have hs6 : w.heap.size + 1 ≤ ((w4.setCell ⟨w.heap.size, x, none⟩ (.bool true)).alloc (.cells #[.string (txt l x)] 9)).heap.size := by simp; omega
            have HB6 : Hid (Below (w.heap.size + 1) (w4.setCell ⟨w.heap.size, x, none⟩ (.bool true)) ((w4.setCell ⟨w.heap.size, x, none⟩ (.bool true)).alloc (.cells #[.string (txt l x)] 9)) ∧ Below w.heap.size w (w4.setCell ⟨w.heap.size, x, none⟩ (.bool true))) := ⟨(Below.refl _ _).alloc (by simpa using hus) _, hb5⟩
            have hpl : (pickT l X).length + 1 ≤ 1000000 := by unfold pickT; rw [List.length_map]; omega
            clear hb5 hcl
            generalize htx : txt l x = tx at *
            go_wp2_with (first | (at_builtin; refine wpList_append_str rfl (.tmp 56) (.tmp 64) rfl (w.heap.size + 1) (.slice pX X.length cX) (pickT l X) rfl HO5.out ⟨w4.heap.size, 0, none⟩ tx 1 rfl c6 hpl hs6 ?_; intro v7 w7 hO7 hb7; obtain ⟨p7, d7, hv7, _⟩ := hO7.form; have hv8 : v7 = .slice p7 (X.length + 1) d7 := (by rw [hv7, List.length_append]; unfold pickT; rw [List.length_map]; rfl); clear hv7; subst hv8; have HO7 : Hid (OwnT w7 (w.heap.size + 1) (.slice p7 (X.length + 1) d7) (pickT l X ++ [tx])) := hO7; have HB7 : Hid (Below (w.heap.size + 1) (w4.setCell ⟨w.heap.size, x, none⟩ (.bool true)) w7) := HB6.out.1.trans hb7; clear hO7 hb7))
            have HP7 : Hid (PickAt w w7 l (X ++ [x]) (X ++ [x]) (.slice p7 (X.length + 1) d7)) := by
              refine HP.out.snoc ?_ (by rw [htx]; exact HO7.out) (HB6.out.2.trans (HB7.out.mono (by omega))) hxn HX.out
              exact OwnE.keptB HM5.out HB7.out (by omega)
            go_roundw
            case rel => exact ⟨i + 1, X ++ [x], by omega, by go_num, HP7.out, by rw [List.length_append]; simp; omega⟩
            case measure => simp [intOf]; omega
        · have hne : ¬ (0 ≤ y ∧ y < (l.length : Int)) := hin
          by_cases hy0 : 0 ≤ y
          · have hy1 : ¬ y < (l.length : Int) := fun h => hin ⟨hy0, h⟩
            clear hin hne
            go_wp2
            go_roundw
            case rel => exact ⟨i + 1, X, by omega, by go_num, HP.out, hXn⟩
            case measure => simp [intOf]; omega
          · clear hin hne
            go_wp2
            go_roundw
            case rel => exact ⟨i + 1, X, by omega, by go_num, HP.out, hXn⟩
            case measure => simp [intOf]; omega
      · go_wp2
        go_loopw [8, 10] (fun v x wr => ∃ (j : Nat) (Y : List Nat), j ≤ l.length ∧ x = .int .i64 j ∧ PickAt w wr l X Y v ∧ Y.length ≤ n ∧ (∀ y ∈ X, y ∈ Y) ∧ (∀ y ∈ Y, y ∈ X ∨ y < j) ∧ ∀ y, y < j → y ∈ Y) (fun _ x _ => l.length - (intOf x).toNat)
        case atStart => exact ⟨0, X, Nat.zero_le _, rfl, HP.out, hXn, (fun _ h => h), (fun _ h => Or.inl h), fun y hy => absurd hy (Nat.not_lt_zero _)⟩
        case round =>
          obtain ⟨j, Y, hj, rfl, hP, hYn, hXY, hYX, hall⟩ := hrel
          obtain ⟨w5, rfl⟩ : ∃ w5, w5 = wr := ⟨_, rfl⟩
          obtain ⟨pY, cY, hv, hSY, hcY, hnY, _⟩ := hP.own.form
          have HPF : Hid (Strs w5 pY (pickT l Y) ∧ (pickT l Y).length ≤ cY ∧ (pY = none → cY = 0)) := ⟨hSY, hcY, hnY⟩
          have hly : (pickT l Y).length = Y.length := by unfold pickT; rw [List.length_map]
          rw [hly] at hv
          subst hv
          have HPY : Hid (PickAt w w5 l X Y (.slice pY Y.length cY)) := hP
          have HXY : Hid (∀ y ∈ X, y ∈ Y) := hXY
          have HYX : Hid (∀ y ∈ Y, y ∈ X ∨ y < j) := hYX
          have HALL : Hid (∀ y, y < j → y ∈ Y) := hall
          have HLY : Hid ((pickT l Y).length = Y.length) := hly
          have hub5 := hP.marks.lt
          have hYl : Y.length ≤ 1000 := by omega
          clear hP hSY hcY hnY hXY hYX hall hly HP
          by_cases hjl : j < l.length
          · by_cases hlt2 : Y.length < n
            · have cu := HPY.out.marks.cell j hjl
              by_cases hjX : j ∈ X
              · rw [decide_eq_true hjX] at cu
                have HJ : Hid (j ∈ X) := hjX
                clear hjX
                go_wp2
                go_roundw
                case rel => exact ⟨j + 1, Y, by omega, by go_num, HPY.out, hYn, HXY.out, (fun y hy => by rcases HYX.out y hy with h | h; exact Or.inl h; exact Or.inr (by omega)), fun y hy => by
                  by_cases e : y = j
                  · rw [e]; exact HXY.out j HJ.out
                  · exact HALL.out y (by omega)⟩
                case measure => simp [intOf]; omega
              · rw [decide_eq_false hjX] at cu
                have HJ : Hid (j ∉ Y) := fun h => by
                  rcases HYX.out j h with h1 | h1
                  · exact hjX h1
                  · omega
                clear hjX
                obtain ⟨b, o, hpp, hbl, hcl⟩ : ∃ b o, p = some ⟨b, o, none⟩ ∧ b < w.heap.size ∧ ∀ W, Below w.heap.size w W → W.cell? ⟨b, o + j, none⟩ = some (.string (txt l j)) := by
                  rcases HST.out w (Below.refl _ _) with h0 | ⟨b, o, hp, hlt3, hc⟩
                  · rw [h0] at hjl; simp at hjl
                  · exact ⟨b, o, hp, hlt3, fun W hW => (hW.cell (p := ⟨b, o + j, none⟩) hlt3).trans (hc j hjl)⟩
                subst hpp
                have c5 := hcl w5 HPY.out.low
                have HO5 : Hid (OwnT (w5.alloc (.cells #[.string (txt l j)] 9)) (w.heap.size + 1) (.slice pY Y.length cY) (pickT l Y)) := HPY.out.own.kept ((Below.refl _ _).alloc (Nat.le_refl _) _)
                have c6 : (w5.alloc (.cells #[.string (txt l j)] 9)).cell? ⟨w5.heap.size, 0, none⟩ = some (.string (txt l j)) := by rw [World.cell?_alloc_at _ _ _ _ rfl]; rfl
                have hs6 : w.heap.size + 1 ≤ (w5.alloc (.cells #[.string (txt l j)] 9)).heap.size := by simp; omega
                have HB6 : Hid (Below (w.heap.size + 1) w5 (w5.alloc (.cells #[.string (txt l j)] 9))) := (Below.refl _ _).alloc (by omega) _
                have hpl : (pickT l Y).length + 1 ≤ 1000000 := by rw [HLY.out]; omega
                clear hcl
                generalize htx : txt l j = tx at *
                go_wp2_with (first | (at_builtin; refine wpList_append_str rfl (.tmp 83) (.tmp 88) rfl (w.heap.size + 1) (.slice pY Y.length cY) (pickT l Y) rfl HO5.out ⟨w5.heap.size, 0, none⟩ tx 1 rfl c6 hpl hs6 ?_; intro v7 w7 hO7 hb7; obtain ⟨p7, d7, hv7, _⟩ := hO7.form; have hv8 : v7 = .slice p7 (Y.length + 1) d7 := (by rw [hv7, List.length_append, HLY.out]; rfl); clear hv7; subst hv8; have HO7 : Hid (OwnT w7 (w.heap.size + 1) (.slice p7 (Y.length + 1) d7) (pickT l Y ++ [tx])) := hO7; have HB7 : Hid (Below (w.heap.size + 1) w5 w7) := HB6.out.trans hb7; clear hO7 hb7))
                have HP7 : Hid (PickAt w w7 l X (Y ++ [j]) (.slice p7 (Y.length + 1) d7)) := HPY.out.snoc (HPY.out.marks.keptB HB7.out (by omega)) (by rw [htx]; exact HO7.out) (HPY.out.low.trans (HB7.out.mono (by omega))) hjl HJ.out
                go_roundw
                case rel => exact ⟨j + 1, Y ++ [j], by omega, by go_num, HP7.out, by rw [List.length_append]; simp; omega, (fun y hy => List.mem_append_left _ (HXY.out y hy)), (fun y hy => by
                  rcases List.mem_append.1 hy with h | h
                  · rcases HYX.out y h with h1 | h1
                    · exact Or.inl h1
                    · exact Or.inr (by omega)
                  · simp at h; exact Or.inr (by omega)), fun y hy => by
                  by_cases e : y = j
                  · rw [e]; simp
                  · exact List.mem_append_left _ (HALL.out y (by omega))⟩
                case measure => simp [intOf]; omega
            · have HYE : Hid (Y.length = n) := by show _ = _; omega
              go_wp2
              go_ret
              exact ⟨⟨pY, cY, pickT l Y, by rw [HLY.out]; rfl, ⟨Y, HPY.out.nodup, HPY.out.lt, rfl, HYE.out⟩, HPF.out.1, HPF.out.2.1, fun e => ⟨(by rcases HPF.out.1 with h | ⟨b, o, hq, _⟩; exact h; rw [e] at hq; cases hq), HPF.out.2.2 e⟩⟩, HPY.out.low⟩
          · have HYE : Hid (Y.length = n) := by
              show _ = _
              have h1 := length_le_of_subset (List.range l.length) Y List.nodup_range (fun x hx => HALL.out x (by have := List.mem_range.1 hx; omega))
              rw [List.length_range] at h1
              omega
            go_wp2
            go_ret
            exact ⟨⟨pY, cY, pickT l Y, by rw [HLY.out]; rfl, ⟨Y, HPY.out.nodup, HPY.out.lt, rfl, HYE.out⟩, HPF.out.1, HPF.out.2.1, fun e => ⟨(by rcases HPF.out.1 with h | ⟨b, o, hq, _⟩; exact h; rw [e] at hq; cases hq), HPF.out.2.2 e⟩⟩, HPY.out.low⟩
    · go_wp2
      go_loopw [8, 10] (fun v x wr => ∃ (j : Nat) (Y : List Nat), j ≤ l.length ∧ x = .int .i64 j ∧ PickAt w wr l X Y v ∧ Y.length ≤ n ∧ (∀ y ∈ X, y ∈ Y) ∧ (∀ y ∈ Y, y ∈ X ∨ y < j) ∧ ∀ y, y < j → y ∈ Y) (fun _ x _ => l.length - (intOf x).toNat)
      case atStart => exact ⟨0, X, Nat.zero_le _, rfl, HP.out, hXn, (fun _ h => h), (fun _ h => Or.inl h), fun y hy => absurd hy (Nat.not_lt_zero _)⟩
      case round =>
        obtain ⟨j, Y, hj, rfl, hP, hYn, hXY, hYX, hall⟩ := hrel
        obtain ⟨w5, rfl⟩ : ∃ w5, w5 = wr := ⟨_, rfl⟩
        obtain ⟨pY, cY, hv, hSY, hcY, hnY, _⟩ := hP.own.form
        have HPF : Hid (Strs w5 pY (pickT l Y) ∧ (pickT l Y).length ≤ cY ∧ (pY = none → cY = 0)) := ⟨hSY, hcY, hnY⟩
        have hly : (pickT l Y).length = Y.length := by unfold pickT; rw [List.length_map]
        rw [hly] at hv
        subst hv
        have HPY : Hid (PickAt w w5 l X Y (.slice pY Y.length cY)) := hP
        have HXY : Hid (∀ y ∈ X, y ∈ Y) := hXY
        have HYX : Hid (∀ y ∈ Y, y ∈ X ∨ y < j) := hYX
        have HALL : Hid (∀ y, y < j → y ∈ Y) := hall
        have HLY : Hid ((pickT l Y).length = Y.length) := hly
        have hub5 := hP.marks.lt
        have hYl : Y.length ≤ 1000 := by omega
        clear hP hSY hcY hnY hXY hYX hall hly HP
        by_cases hjl : j < l.length
        · by_cases hlt2 : Y.length < n
          · have cu := HPY.out.marks.cell j hjl
            by_cases hjX : j ∈ X
            · rw [decide_eq_true hjX] at cu
              have HJ : Hid (j ∈ X) := hjX
              clear hjX
              go_wp2
              go_roundw
              case rel => exact ⟨j + 1, Y, by omega, by go_num, HPY.out, hYn, HXY.out, (fun y hy => by rcases HYX.out y hy with h | h; exact Or.inl h; exact Or.inr (by omega)), fun y hy => by
                by_cases e : y = j
                · rw [e]; exact HXY.out j HJ.out
                · exact HALL.out y (by omega)⟩
              case measure => simp [intOf]; omega
            · rw [decide_eq_false hjX] at cu
              have HJ : Hid (j ∉ Y) := fun h => by
                rcases HYX.out j h with h1 | h1
                · exact hjX h1
                · omega
              clear hjX
              obtain ⟨b, o, hpp, hbl, hcl⟩ : ∃ b o, p = some ⟨b, o, none⟩ ∧ b < w.heap.size ∧ ∀ W, Below w.heap.size w W → W.cell? ⟨b, o + j, none⟩ = some (.string (txt l j)) := by
                rcases HST.out w (Below.refl _ _) with h0 | ⟨b, o, hp, hlt3, hc⟩
                · rw [h0] at hjl; simp at hjl
                · exact ⟨b, o, hp, hlt3, fun W hW => (hW.cell (p := ⟨b, o + j, none⟩) hlt3).trans (hc j hjl)⟩
              subst hpp
              have c5 := hcl w5 HPY.out.low
              have HO5 : Hid (OwnT (w5.alloc (.cells #[.string (txt l j)] 9)) (w.heap.size + 1) (.slice pY Y.length cY) (pickT l Y)) := HPY.out.own.kept ((Below.refl _ _).alloc (Nat.le_refl _) _)
              have c6 : (w5.alloc (.cells #[.string (txt l j)] 9)).cell? ⟨w5.heap.size, 0, none⟩ = some (.string (txt l j)) := by rw [World.cell?_alloc_at _ _ _ _ rfl]; rfl
              have hs6 : w.heap.size + 1 ≤ (w5.alloc (.cells #[.string (txt l j)] 9)).heap.size := by simp; omega
              have HB6 : Hid (Below (w.heap.size + 1) w5 (w5.alloc (.cells #[.string (txt l j)] 9))) := (Below.refl _ _).alloc (by omega) _
              have hpl : (pickT l Y).length + 1 ≤ 1000000 := by rw [HLY.out]; omega
              clear hcl
              generalize htx : txt l j = tx at *
              go_wp2_with (first | (at_builtin; refine wpList_append_str rfl (.tmp 83) (.tmp 88) rfl (w.heap.size + 1) (.slice pY Y.length cY) (pickT l Y) rfl HO5.out ⟨w5.heap.size, 0, none⟩ tx 1 rfl c6 hpl hs6 ?_; intro v7 w7 hO7 hb7; obtain ⟨p7, d7, hv7, _⟩ := hO7.form; have hv8 : v7 = .slice p7 (Y.length + 1) d7 := (by rw [hv7, List.length_append, HLY.out]; rfl); clear hv7; subst hv8; have HO7 : Hid (OwnT w7 (w.heap.size + 1) (.slice p7 (Y.length + 1) d7) (pickT l Y ++ [tx])) := hO7; have HB7 : Hid (Below (w.heap.size + 1) w5 w7) := HB6.out.trans hb7; clear hO7 hb7))
              have HP7 : Hid (PickAt w w7 l X (Y ++ [j]) (.slice p7 (Y.length + 1) d7)) := HPY.out.snoc (HPY.out.marks.keptB HB7.out (by omega)) (by rw [htx]; exact HO7.out) (HPY.out.low.trans (HB7.out.mono (by omega))) hjl HJ.out
              go_roundw
              case rel => exact ⟨j + 1, Y ++ [j], by omega, by go_num, HP7.out, by rw [List.length_append]; simp; omega, (fun y hy => List.mem_append_left _ (HXY.out y hy)), (fun y hy => by
                rcases List.mem_append.1 hy with h | h
                · rcases HYX.out y h with h1 | h1
                  · exact Or.inl h1
                  · exact Or.inr (by omega)
                · simp at h; exact Or.inr (by omega)), fun y hy => by
                by_cases e : y = j
                · rw [e]; simp
                · exact List.mem_append_left _ (HALL.out y (by omega))⟩
              case measure => simp [intOf]; omega
          · have HYE : Hid (Y.length = n) := by show _ = _; omega
            go_wp2
            go_ret
            exact ⟨⟨pY, cY, pickT l Y, by rw [HLY.out]; rfl, ⟨Y, HPY.out.nodup, HPY.out.lt, rfl, HYE.out⟩, HPF.out.1, HPF.out.2.1, fun e => ⟨(by rcases HPF.out.1 with h | ⟨b, o, hq, _⟩; exact h; rw [e] at hq; cases hq), HPF.out.2.2 e⟩⟩, HPY.out.low⟩
        · have HYE : Hid (Y.length = n) := by
            show _ = _
            have h1 := length_le_of_subset (List.range l.length) Y List.nodup_range (fun x hx => HALL.out x (by have := List.mem_range.1 hx; omega))
            rw [List.length_range] at h1
            omega
          go_wp2
          go_ret
          exact ⟨⟨pY, cY, pickT l Y, by rw [HLY.out]; rfl, ⟨Y, HPY.out.nodup, HPY.out.lt, rfl, HYE.out⟩, HPF.out.1, HPF.out.2.1, fun e => ⟨(by rcases HPF.out.1 with h | ⟨b, o, hq, _⟩; exact h; rw [e] at hq; cases hq), HPF.out.2.2 e⟩⟩, HPY.out.low⟩
end Go.Proofs.YtgjehnahkbddgaaDoor
