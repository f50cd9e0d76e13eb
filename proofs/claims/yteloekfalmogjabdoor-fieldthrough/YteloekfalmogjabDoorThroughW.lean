/- The walk of the law FieldThrough: whatever the polynomial and the bytes, the call returns true; nothing that was there is written. -/
import Derived.Test.YteloekfalmogjabDoorApp
import Derived.Test.YteloekfalmogjabDoorGfLagr
namespace Go.Proofs.YteloekfalmogjabDoor
open Go.RowKit
/-- The places, and the values at them, of the first k. -/
def places (a k : Nat) : List Nat := (List.range k).map fun i => (a + i) % 256
def valuesAt (p : List Nat) (a k : Nat) : List Nat := (List.range k).map fun i => Gf.horner ((a + i) % 256) p
theorem places_succ (a k : Nat) : places a (k + 1) = places a k ++ [(a + k) % 256] := by simp [places, List.range_succ]
theorem valuesAt_succ (p : List Nat) (a k : Nat) : valuesAt p a (k + 1) = valuesAt p a k ++ [Gf.horner ((a + k) % 256) p] := by simp [valuesAt, List.range_succ]
theorem places_length (a k : Nat) : (places a k).length = k := by simp [places]
theorem valuesAt_length (p : List Nat) (a k : Nat) : (valuesAt p a k).length = k := by simp [valuesAt]
theorem nth_places (a k i : Nat) (h : i < k) : Gf.nth (places a k) i = (a + i) % 256 := by
  rw [Gf.nth_getElem _ _ (by rw [places_length]; exact h)]; simp [places]
theorem nth_valuesAt (p : List Nat) (a k i : Nat) (h : i < k) : Gf.nth (valuesAt p a k) i = Gf.horner ((a + i) % 256) p := by
  rw [Gf.nth_getElem _ _ (by rw [valuesAt_length]; exact h)]; simp [valuesAt]
theorem nth_past (l : List Nat) (i : Nat) (h : l.length ≤ i) : Gf.nth l i = 0 := by
  unfold Gf.nth; rw [List.getD_eq_getElem?_getD, List.getElem?_eq_none h]; rfl
theorem places_bytes (a k : Nat) : Gf.Bytes (places a k) := fun i => by
  by_cases h : i < k
  · rw [nth_places a k i h]; omega
  · rw [nth_past _ _ (by rw [places_length]; omega)]; decide
theorem valuesAt_bytes (p : List Nat) (hp : Gf.Bytes p) (a k : Nat) : Gf.Bytes (valuesAt p a k) := fun i => by
  by_cases h : i < k
  · rw [nth_valuesAt p a k i h]; exact Gf.horner_lt _ p hp
  · rw [nth_past _ _ (by rw [valuesAt_length]; omega)]; decide
theorem places_nodup (a k : Nat) (hk : k ≤ 256) : (places a k).Nodup := by
  unfold places
  rw [List.Nodup, List.pairwise_map]
  refine List.Pairwise.imp_of_mem ?_ (List.nodup_range (n := k))
  intro x y hx hy hxy h
  have := List.mem_range.1 hx
  have := List.mem_range.1 hy
  omega
theorem told (p : List Nat) (hp : Gf.Bytes p) (a x : Nat) (hx : x < 256) (hl : p.length ≤ 256) : Gf.lagr (places a p.length) (valuesAt p a p.length) x (places a p.length).length = Gf.horner x p :=
  Gf.through p _ _ hp (places_bytes a _) (valuesAt_bytes p hp a _) (places_nodup a _ hl) (by rw [places_length]; exact Nat.le_refl _) (fun j hj => by rw [places_length] at hj; rw [nth_places a _ j hj, nth_valuesAt p a _ j hj]) x hx
theorem u8info : (Tryd.prog.info? 5).map (fun i => (i.zero, i.size, i.bytes)) = some (some (byteV 0), 1, 1) := by kernel_rfl
set_option maxRecDepth 10000 in
theorem through_out (p : Option Addr) (l : List Nat) (cap a x : Nat) (w : World) (h : l.length < 1 ∨ 20 < l.length) (hl : l.length < 2 ^ 63) :
    Calls Tryd.prog 3 #[.slice p l.length cap, .int .u8 (a : Int), .int .u8 (x : Int)] w fun e w' => e = .returned (.bool true) ∧ w' = w := by
  rcases h with h | h
  · go_enter Tryd.func3, Tryd.ntmps3
    go_wp2_with (go_at_call 4; refine (double_any _).mono ?_; rintro e w' ⟨rfl, rfl⟩)
    go_ret
    exact ⟨rfl, rfl⟩
  · have h' : ¬ l.length < 1 := by omega
    go_enter Tryd.func3, Tryd.ntmps3
    go_wp2_with (go_at_call 4; refine (double_any _).mono ?_; rintro e w' ⟨rfl, rfl⟩)
    go_ret
    exact ⟨rfl, rfl⟩
/-- No row is both's. -/
def Apart (v1 v2 : Value) : Prop := ∀ k, v1.ownBlock = some k → v2.ownBlock ≠ some k
theorem Apart.symm {v1 v2 : Value} (h : Apart v1 v2) : Apart v2 v1 := fun k h2 h1 => h k h1 h2
/-- What an append to one of two rows leaves of the other. -/
theorem append_step {w wA w3 : World} {E : TypeId} {v1 v2 v1' : Value} {l1 l2 : List Nat} {o : Obj} (hb : Below w.heap.size w wA) (h1 : Own wA w.heap.size E v1 l1) (h2 : Own wA w.heap.size E v2 l2) (hap : Apart v1 v2)
    (hg : (wA.alloc o).grownBy w3 v1.ownBlock) (hw : v1'.ownBlock = v1.ownBlock ∨ v1'.ownBlock = some (wA.alloc o).heap.size) : Below w.heap.size w w3 ∧ Own w3 w.heap.size E v2 l2 ∧ Apart v1' v2 := by
  have hz := hb.size
  refine ⟨(hb.alloc hz o).grown hg (by simp; omega) (fun k hk => (h1.block hk).1), ?_, ?_⟩
  · have h2' : Own (wA.alloc o) w.heap.size E v2 l2 := h2.kept (World.grownBy_alloc wA o none) (by cases hv : v2.ownBlock <;> simp)
    refine h2'.kept hg ?_
    cases hv : v2.ownBlock with
    | none => exact Or.inl rfl
    | some k => exact Or.inr fun e => hap k e.symm hv
  · intro k hk
    rcases hw with hw | hw
    · exact hap k (hw.symm.trans hk)
    · intro h
      have h3 := (h2.block h).2
      rw [hw] at hk
      have h4 : (wA.alloc o).heap.size = k := Option.some.inj hk
      simp at h4
      omega
/-- Behind k rounds. -/
structure Gone (w wr : World) (p : List Nat) (a k : Nat) (vx vy : Value) : Prop where
  below : Below w.heap.size w wr
  xs : Own wr w.heap.size 5 vx (places a k)
  ys : Own wr w.heap.size 5 vy (valuesAt p a k)
  apart : Apart vx vy
theorem between_told (px py : Option Addr) (xs ys : List Nat) (n cx cy x v : Nat) (w : World) (hx : x < 256) (hl : n < 2 ^ 40) (h1 : xs.length = n) (h2 : ys.length = n) (hn : xs.Nodup) (hs : Seg w px xs) (ht : Seg w py ys) (hv : Gf.lagr xs ys x xs.length = v) :
    Calls Tryd.prog 6 #[.slice px n cx, .slice py n cy, .int .u8 (x : Int)] w fun e w' => e = .returned (.tuple #[.int .u8 ((v : Nat) : Int), .nilIface]) ∧ Below w.heap.size w w' := by
  have h := between_any px py xs ys cx cy x w hx (by omega) (by omega) hn hs ht
  rw [hv] at h
  rw [h2] at h
  subst h1
  exact h
set_option maxRecDepth 10000 in
set_option maxHeartbeats 1000000 in
theorem through_in (p : Option Addr) (l : List Nat) (cap a x : Nat) (w : World) (h1 : 1 ≤ l.length) (h2 : l.length ≤ 20) (hx : x < 256) (hs : Seg w p l) :
    Calls Tryd.prog 3 #[.slice p l.length cap, .int .u8 (a : Int), .int .u8 (x : Int)] w fun e w' => e = .returned (.bool true) ∧ Below w.heap.size w w' := by
  obtain ⟨i0, hi0, hz0, hz1, hz2⟩ := info_parts u8info
  go_enter Tryd.func3, Tryd.ntmps3
  go_wp2_with (go_at_call 4; refine (double_any _).mono ?_; rintro e w1 ⟨rfl, hw1⟩; rw [hw1]; clear hw1 w1)
  go_loopw [8, 9, 10] (fun vx vy j wr => ∃ k : Nat, k ≤ l.length ∧ j = .int .i64 k ∧ Gone w wr l a k vx vy) (fun _ _ j _ => l.length - (intOf j).toNat)
  case atStart => exact ⟨0, by omega, rfl, Below.refl _ _, Own.nil _ _ _, Own.nil _ _ _, fun k h => by simp [Value.ownBlock] at h⟩
  case round =>
    obtain ⟨k, hk, rfl, hG⟩ := hrel
    by_cases hlt2 : k < l.length
    · obtain ⟨c, hc⟩ : ∃ c : Nat, c = (a + k) % 256 := ⟨_, rfl⟩
      have hcI : ((a : Int) + (k : Int)) % 256 = (c : Int) := by omega
      have hc256 : c < 256 := by omega
      have HC : Hid (c = (a + k) % 256) := hc
      have HG : Hid (Gone w wr l a k u8 u9) := hG
      have hxl := places_length a k
      have hyl := valuesAt_length l a k
      have hbz : w.heap.size ≤ wr.heap.size := hG.below.size
      clear hc hG
      go_wp2_with (first | (at_builtin; refine wpList_append_byte rfl (.tmp 38) (.tmp 40) 22 rfl w.heap.size 5 i0 Tryd.underlying22 hi0 hz0 hz1 hz2 u8 (places a k) rfl (HG.out.xs.kept (World.grownBy_alloc wr _ none) (by cases hv : u8.ownBlock <;> simp)) ⟨wr.heap.size, 0, none⟩ 1 c rfl (by simp [byteV]) (by omega) (by simp; omega) ?_; intro vx w1 hX hgX hwX))
      obtain ⟨hb1, hy1, hap1⟩ := append_step HG.out.below HG.out.xs HG.out.ys HG.out.apart hgX hwX
      clear hgX hwX HG
      have hs1 := hs.below hb1
      refine (eval_any p l cap c _ hc256 (by omega) hs1).mono ?_
      rintro e w2 ⟨rfl, hw2⟩
      have hh := Gf.horner_lt c l hs.lt
      have HB1 : Hid (Below w.heap.size w w2) := by obtain ⟨n, hn⟩ := hw2; rw [hn]; exact below_drewN hb1 n
      have HX2 : Hid (Own w2 w.heap.size 5 vx (places a k ++ [c])) := by obtain ⟨n, hn⟩ := hw2; rw [hn]; exact hX.kept (grownBy_drewN w1 n none) (by cases hv : vx.ownBlock <;> simp)
      have HY2 : Hid (Own w2 w.heap.size 5 u9 (valuesAt l a k)) := by obtain ⟨n, hn⟩ := hw2; rw [hn]; exact hy1.kept (grownBy_drewN w1 n none) (by cases hv : u9.ownBlock <;> simp)
      have HA2 : Hid (Apart vx u9) := hap1
      have hbz2 : w.heap.size ≤ w2.heap.size := HB1.out.size
      have HH : Hid (valuesAt l a (k + 1) = valuesAt l a k ++ [Gf.horner c l]) := by show _ = _; rw [valuesAt_succ, ← HC.out]
      have HQ : Hid (places a (k + 1) = places a k ++ [c]) := by show _ = _; rw [places_succ, ← HC.out]
      clear hw2 hb1 hy1 hap1 hX hs1 HC
      generalize Gf.horner c l = y at hh HH ⊢
      go_wp2_with (first | (at_builtin; refine wpList_append_byte rfl (.tmp 42) (.tmp 46) 22 rfl w.heap.size 5 i0 Tryd.underlying22 hi0 hz0 hz1 hz2 u9 (valuesAt l a k) rfl (HY2.out.kept (World.grownBy_alloc w2 _ none) (by cases hv : u9.ownBlock <;> simp)) ⟨w2.heap.size, 0, none⟩ 1 y rfl (by simp [byteV]) (by omega) (by simp; omega) ?_; intro vy w3 hY hgY hwY))
      obtain ⟨hb3, hx3, hap3⟩ := append_step HB1.out HY2.out HX2.out HA2.out.symm hgY hwY
      go_roundw
      case rel => exact ⟨k + 1, by omega, by go_num, hb3, by rw [HQ.out]; exact hx3, by rw [HH.out]; exact hY, hap3.symm⟩
      case measure => simp [intOf]; omega
    · have hke : k = l.length := by omega
      subst hke
      obtain ⟨px, cx, hvx, hsx⟩ := hG.xs.seg (places_bytes a _)
      obtain ⟨py, cy, hvy, hsy⟩ := hG.ys.seg (valuesAt_bytes l hs.lt a _)
      have hl1 := places_length a l.length
      have hl2 := valuesAt_length l a l.length
      have HT : Hid (Gf.lagr (places a l.length) (valuesAt l a l.length) x (places a l.length).length = Gf.horner x l) := told l hs.lt a x hx (by omega)
      have HB : Hid (Below w.heap.size w wr) := hG.below
      have HS : Hid (Seg wr px (places a l.length)) := hsx
      have HU : Hid (Seg wr py (valuesAt l a l.length)) := hsy
      have HN : Hid (places a l.length).Nodup := places_nodup a _ (by omega)
      subst hvx hvy
      clear hG hsx hsy
      go_wp2_with fail
      refine (between_told px py (places a l.length) (valuesAt l a l.length) l.length cx cy x (Gf.horner x l) _ hx (by omega) (places_length a _) (valuesAt_length l a _) HN.out HS.out HU.out HT.out).mono ?_
      rintro e w2 ⟨rfl, hb2⟩
      have hbw : Below w.heap.size w w2 := HB.out.trans (hb2.mono HB.out.size)
      have hs2 := hs.below hbw
      have HW : Hid (Below w.heap.size w w2) := hbw
      clear hb2 hbw
      go_wp2_with fail
      refine (eval_any p l cap x _ hx (by omega) hs2).mono ?_
      rintro e w3 ⟨rfl, n, rfl⟩
      go_wp2
      go_ret
      exact ⟨rfl, below_drewN HW.out n⟩
end Go.Proofs.YteloekfalmogjabDoor
