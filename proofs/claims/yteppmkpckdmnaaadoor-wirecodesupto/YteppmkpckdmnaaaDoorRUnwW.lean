/- The document's own Unwire: a message is read. -/
import Derived.Test.YteppmkpckdmnaaaDoorRUnwB
import Derived.BigQuiet
namespace Go.Proofs.YteppmkpckdmnaaaDoor
open Go.RowKit
/-- What Unwire answers of a text that was opened. -/
def UnwOut (r : List UInt8) (B : Nat) (e : Ending) (w' : World) : Prop := (unF r = none ∧ e = .returned (.tuple #[msgA noMsg (.slice none 0 0), .int .i64 1])) ∨ ∃ m lv, unF r = some m ∧ e = .returned (.tuple #[msgA m lv, .int .i64 0]) ∧ OwnR verE 50 w' B lv m.L
set_option maxRecDepth 10000 in
set_option maxHeartbeats 8000000 in
theorem runw_main (s t : ByteArray) (w : World) (hs : s.size ≤ 4000) (ht : t.size ≤ 4000) (hO : ∀ W, Calls Tryd.prog 27 #[.string s] W fun e w' => e = .returned (.tuple #[.string t, .int .i64 0]) ∧ Below W.heap.size W w') :
    Calls Tryd.prog 15 #[.string s] w fun e w' => UnwOut t.data.toList w.heap.size e w' ∧ Below w.heap.size w w' := by
  obtain ⟨B, hB⟩ : ∃ B, B = w.heap.size := ⟨_, rfl⟩
  obtain ⟨r0, hr0⟩ : ∃ r0, r0 = t.data.toList := ⟨_, rfl⟩
  have htr : t = ofL r0 := by rw [hr0, ofL_self]
  have hl0 : r0.length ≤ 4000 := by rw [hr0]; simpa using ht
  rw [← hr0]
  obtain ⟨w1, hw1⟩ : ∃ w1, w1 = w.alloc (.cells #[.string ⟨#[]⟩, .string ⟨#[]⟩, .string ⟨#[]⟩, .string ⟨#[]⟩, .int .i64 0, .int .i64 0, .bool false, .slice none 0 0] 24) := ⟨_, rfl⟩
  have HW1 : Hid (w1 = w.alloc (.cells #[.string ⟨#[]⟩, .string ⟨#[]⟩, .string ⟨#[]⟩, .string ⟨#[]⟩, .int .i64 0, .int .i64 0, .bool false, .slice none 0 0] 24)) := hw1
  have hb1 : Below w.heap.size w w1 := by rw [hw1]; exact (Below.refl _ _).alloc (Nat.le_refl _) _
  have he1 : w1.heap[w.heap.size]? = some (.cells #[.string ⟨#[]⟩, .string ⟨#[]⟩, .string ⟨#[]⟩, .string ⟨#[]⟩, .int .i64 0, .int .i64 0, .bool false, .slice none 0 0] 24 (0, 0)) := by rw [hw1]; exact heap_alloc_new _ _
  have hz1 : w1.heap.size = w.heap.size + 1 := by rw [hw1]; simp
  have HOC : Hid (Calls Tryd.prog 27 #[.string s] w1 fun e w' => e = .returned (.tuple #[.string t, .int .i64 0]) ∧ Below w1.heap.size w1 w') := hO w1
  have HE1 : Hid (w1.heap[w.heap.size]? = some (.cells #[.string ⟨#[]⟩, .string ⟨#[]⟩, .string ⟨#[]⟩, .string ⟨#[]⟩, .int .i64 0, .int .i64 0, .bool false, .slice none 0 0] 24 (0, 0)) ∧ Below w.heap.size w w1 ∧ w1.heap.size = w.heap.size + 1) := ⟨he1, hb1, hz1⟩
  have d0 : decide (4000 < (s.size : Int)) = false := decide_eq_false (by omega)
  clear hO hw1 hb1 he1 hz1 hr0 ht
  go_enter Tryd.func15, Tryd.ntmps15
  go_wp2_with fail
  rw [← HW1.out]
  refine HOC.out.mono ?_
  rintro e w2 ⟨rfl, hb2⟩
  rw [htr]
  obtain ⟨w3, hw3⟩ : ∃ w3, w3 = (w2.alloc (.cells #[.string (ofL r0), .bool false] 71)).alloc (.cells #[.string ⟨#[]⟩, .string ⟨#[]⟩, .string ⟨#[]⟩, .string ⟨#[]⟩, .int .i64 0, .int .i64 0, .bool false, .slice none 0 0] 24) := ⟨_, rfl⟩
  have HW3 : Hid (w3 = (w2.alloc (.cells #[.string (ofL r0), .bool false] 71)).alloc (.cells #[.string ⟨#[]⟩, .string ⟨#[]⟩, .string ⟨#[]⟩, .string ⟨#[]⟩, .int .i64 0, .int .i64 0, .bool false, .slice none 0 0] 24)) := hw3
  have hlt2 : w.heap.size < w2.heap.size := by have := HE1.out.2.2; have := hb2.size; omega
  have hst3 : UwSt w w.heap.size w2.heap.size (w2.heap.size + 1) w3 r0 false #[.string ⟨#[]⟩, .string ⟨#[]⟩, .string ⟨#[]⟩, .string ⟨#[]⟩, .int .i64 0, .int .i64 0, .bool false, .slice none 0 0] := by
    have e2 : (w2.alloc (.cells #[.string (ofL r0), .bool false] 71)).heap.size = w2.heap.size + 1 := by simp
    have hb23 : Below w2.heap.size w2 w3 := by rw [hw3]; exact ((Below.refl _ _).alloc (Nat.le_refl _) _).alloc (by simp) _
    have hbw2 : Below w.heap.size w w2 := HE1.out.2.1.trans (hb2.mono (by have := HE1.out.2.2; omega))
    refine ⟨?_, hbw2.trans (hb23.mono hbw2.size), ?_, ?_⟩
    · rw [hw3]
      unfold UnAt
      rw [heap_alloc_old _ _ (by rw [e2]; omega)]
      exact heap_alloc_new _ _
    · rw [hb23.block _ hlt2, hb2.block _ (by have := HE1.out.2.2; omega)]
      exact HE1.out.1
    · rw [hw3, ← e2]
      exact heap_alloc_new _ _
  obtain ⟨rb, hrb⟩ : ∃ rb, rb = w2.heap.size := ⟨_, rfl⟩
  rw [← hrb] at hst3 hlt2
  have HT : Hid (∀ W r b cs, UwSt w w.heap.size rb (rb + 1) W r b cs → r.length ≤ 4000 → Calls Tryd.prog 28 #[.pointer (some ⟨rb, 0, none⟩)] W fun e w' => e = .returned (.string (rdT r b).1) ∧ UwSt w w.heap.size rb (rb + 1) w' (rdT r b).2.1 (rdT r b).2.2 cs) := fun W r b cs hW hr => (utext_any rb r b W hW.at_ (by omega)).mono fun e w' hp => ⟨hp.1, hW.rd hp.2 hlt2 (by omega)⟩
  have HN : Hid (∀ W r b cs, UwSt w w.heap.size rb (rb + 1) W r b cs → r.length ≤ 4000 → Calls Tryd.prog 29 #[.pointer (some ⟨rb, 0, none⟩)] W fun e w' => e = .returned (.int .i64 ((rdN r b).1 : Int)) ∧ UwSt w w.heap.size rb (rb + 1) w' (rdN r b).2.1 (rdN r b).2.2 cs) := fun W r b cs hW hr => (unum_any rb r b W hW.at_ (by omega)).mono fun e w' hp => ⟨hp.1, hW.rd hp.2 hlt2 (by omega)⟩
  have HSET : Hid (∀ W r b cs, UwSt w w.heap.size rb (rb + 1) W r b cs → ∀ i v, UwSt w w.heap.size rb (rb + 1) (W.setCell ⟨rb + 1, i, none⟩ v) r b (cs.setIfInBounds i v)) := fun W r b cs hW i v => hW.set hlt2 (by omega) i v
  have HST3 : Hid (UwSt w w.heap.size rb (rb + 1) w3 r0 false #[.string ⟨#[]⟩, .string ⟨#[]⟩, .string ⟨#[]⟩, .string ⟨#[]⟩, .int .i64 0, .int .i64 0, .bool false, .slice none 0 0]) := hst3
  have HLT : Hid (w.heap.size < rb) := hlt2
  have HUN : Hid (∀ f t k y o c s n l, rdT r0 false = f → rdT f.2.1 f.2.2 = t → rdT t.2.1 t.2.2 = k → rdT k.2.1 k.2.2 = y → rdN y.2.1 y.2.2 = o → rdN o.2.1 o.2.2 = c → rdN c.2.1 c.2.2 = s → rdN s.2.1 s.2.2 = n → rdM n.1 n.2.1 n.2.2 = l → unF r0 = if l.2.2 = true ∨ l.2.1 ≠ [] ∨ 1 < s.1 then none else some ⟨f.1, t.1, k.1, y.1, o.1, c.1, decide (s.1 = 1), l.1⟩) := fun f t k y o c s n l h1 h2 h3 h4 h5 h6 h7 h8 h9 => by
    subst h1 h2 h3 h4 h5 h6 h7 h8 h9
    rfl
  have HC1 := fun W cs hW => HT.out W r0 false cs hW hl0
  have hq1 := (rdT_len r0 false).1
  obtain ⟨X1, hX1⟩ : ∃ X, rdT r0 false = X := ⟨_, rfl⟩
  rw [hX1] at HC1 hq1
  obtain ⟨x1, r1, b1⟩ := X1
  simp only [] at HC1 hq1
  have hl1 : r1.length ≤ 4000 := by omega
  have HH1 : Hid (∀ (W : World) (cs : Array Value), UwSt w w.heap.size rb (rb + 1) W r0 false cs → Calls Tryd.prog 28 #[.pointer (some ⟨rb, 0, none⟩)] W fun e w' => e = .returned (.string x1) ∧ UwSt w w.heap.size rb (rb + 1) w' r1 b1 cs) := HC1
  clear HC1
  have HC2 := fun W cs hW => HT.out W r1 b1 cs hW hl1
  have hq2 := (rdT_len r1 b1).1
  obtain ⟨X2, hX2⟩ : ∃ X, rdT r1 b1 = X := ⟨_, rfl⟩
  rw [hX2] at HC2 hq2
  obtain ⟨x2, r2, b2⟩ := X2
  simp only [] at HC2 hq2
  have hl2 : r2.length ≤ 4000 := by omega
  have HH2 : Hid (∀ (W : World) (cs : Array Value), UwSt w w.heap.size rb (rb + 1) W r1 b1 cs → Calls Tryd.prog 28 #[.pointer (some ⟨rb, 0, none⟩)] W fun e w' => e = .returned (.string x2) ∧ UwSt w w.heap.size rb (rb + 1) w' r2 b2 cs) := HC2
  clear HC2
  have HC3 := fun W cs hW => HT.out W r2 b2 cs hW hl2
  have hq3 := (rdT_len r2 b2).1
  obtain ⟨X3, hX3⟩ : ∃ X, rdT r2 b2 = X := ⟨_, rfl⟩
  rw [hX3] at HC3 hq3
  obtain ⟨x3, r3, b3⟩ := X3
  simp only [] at HC3 hq3
  have hl3 : r3.length ≤ 4000 := by omega
  have HH3 : Hid (∀ (W : World) (cs : Array Value), UwSt w w.heap.size rb (rb + 1) W r2 b2 cs → Calls Tryd.prog 28 #[.pointer (some ⟨rb, 0, none⟩)] W fun e w' => e = .returned (.string x3) ∧ UwSt w w.heap.size rb (rb + 1) w' r3 b3 cs) := HC3
  clear HC3
  have HC4 := fun W cs hW => HT.out W r3 b3 cs hW hl3
  have hq4 := (rdT_len r3 b3).1
  obtain ⟨X4, hX4⟩ : ∃ X, rdT r3 b3 = X := ⟨_, rfl⟩
  rw [hX4] at HC4 hq4
  obtain ⟨x4, r4, b4⟩ := X4
  simp only [] at HC4 hq4
  have hl4 : r4.length ≤ 4000 := by omega
  have HH4 : Hid (∀ (W : World) (cs : Array Value), UwSt w w.heap.size rb (rb + 1) W r3 b3 cs → Calls Tryd.prog 28 #[.pointer (some ⟨rb, 0, none⟩)] W fun e w' => e = .returned (.string x4) ∧ UwSt w w.heap.size rb (rb + 1) w' r4 b4 cs) := HC4
  clear HC4
  have HC5 := fun W cs hW => HN.out W r4 b4 cs hW hl4
  have hq5 := rdN_len r4 b4
  have hm5 := rdN_max r4 b4
  obtain ⟨X5, hX5⟩ : ∃ X, rdN r4 b4 = X := ⟨_, rfl⟩
  rw [hX5] at HC5 hq5 hm5
  obtain ⟨x5, r5, b5⟩ := X5
  simp only [] at HC5 hq5 hm5
  have hl5 : r5.length ≤ 4000 := by omega
  have HH5 : Hid (∀ (W : World) (cs : Array Value), UwSt w w.heap.size rb (rb + 1) W r4 b4 cs → Calls Tryd.prog 29 #[.pointer (some ⟨rb, 0, none⟩)] W fun e w' => e = .returned (.int .i64 (x5 : Int)) ∧ UwSt w w.heap.size rb (rb + 1) w' r5 b5 cs) := HC5
  clear HC5
  have HC6 := fun W cs hW => HN.out W r5 b5 cs hW hl5
  have hq6 := rdN_len r5 b5
  have hm6 := rdN_max r5 b5
  obtain ⟨X6, hX6⟩ : ∃ X, rdN r5 b5 = X := ⟨_, rfl⟩
  rw [hX6] at HC6 hq6 hm6
  obtain ⟨x6, r6, b6⟩ := X6
  simp only [] at HC6 hq6 hm6
  have hl6 : r6.length ≤ 4000 := by omega
  have HH6 : Hid (∀ (W : World) (cs : Array Value), UwSt w w.heap.size rb (rb + 1) W r5 b5 cs → Calls Tryd.prog 29 #[.pointer (some ⟨rb, 0, none⟩)] W fun e w' => e = .returned (.int .i64 (x6 : Int)) ∧ UwSt w w.heap.size rb (rb + 1) w' r6 b6 cs) := HC6
  clear HC6
  have HC7 := fun W cs hW => HN.out W r6 b6 cs hW hl6
  have hq7 := rdN_len r6 b6
  have hm7 := rdN_max r6 b6
  obtain ⟨X7, hX7⟩ : ∃ X, rdN r6 b6 = X := ⟨_, rfl⟩
  rw [hX7] at HC7 hq7 hm7
  obtain ⟨x7, r7, b7⟩ := X7
  simp only [] at HC7 hq7 hm7
  have hl7 : r7.length ≤ 4000 := by omega
  have HH7 : Hid (∀ (W : World) (cs : Array Value), UwSt w w.heap.size rb (rb + 1) W r6 b6 cs → Calls Tryd.prog 29 #[.pointer (some ⟨rb, 0, none⟩)] W fun e w' => e = .returned (.int .i64 (x7 : Int)) ∧ UwSt w w.heap.size rb (rb + 1) w' r7 b7 cs) := HC7
  clear HC7
  have HC8 := fun W cs hW => HN.out W r7 b7 cs hW hl7
  have hq8 := rdN_len r7 b7
  have hm8 := rdN_max r7 b7
  obtain ⟨X8, hX8⟩ : ∃ X, rdN r7 b7 = X := ⟨_, rfl⟩
  rw [hX8] at HC8 hq8 hm8
  obtain ⟨x8, r8, b8⟩ := X8
  simp only [] at HC8 hq8 hm8
  have hl8 : r8.length ≤ 4000 := by omega
  have HH8 : Hid (∀ (W : World) (cs : Array Value), UwSt w w.heap.size rb (rb + 1) W r7 b7 cs → Calls Tryd.prog 29 #[.pointer (some ⟨rb, 0, none⟩)] W fun e w' => e = .returned (.int .i64 (x8 : Int)) ∧ UwSt w w.heap.size rb (rb + 1) w' r8 b8 cs) := HC8
  clear HC8
  have HU := fun l hl => HUN.out _ _ _ _ _ _ _ _ l hX1 hX2 hX3 hX4 hX5 hX6 hX7 hX8 hl
  simp only [] at HU
  have HUF : Hid (∀ l, rdM x8 r8 b8 = l → unF r0 = if l.2.2 = true ∨ l.2.1 ≠ [] ∨ 1 < x7 then none else some ⟨x1, x2, x3, x4, x5, x6, decide (x7 = 1), l.1⟩) := HU
  clear HU HUN hX1 hX2 hX3 hX4 hX5 hX6 hX7 hX8 hst3 hlt2 hw3 hB B HE1 HOC HW1 hb2 hq1 hq2 hq3 hq4 hq5 hq6 hq7 hq8
  go_wp2_with fail
  rw [← hrb, ← HW3.out]
  clear HW3 hrb
  refine (HH1.out _ _ HST3.out).mono ?_
  rintro e w4 ⟨rfl, hs1⟩
  have q1 : w4.cell? ⟨rb + 1, 0, none⟩ = some (.string ⟨#[]⟩) := (hs1.cell 0).trans rfl
  have g1 := hs1.frozen 0
  have HS1 : Hid (UwSt w w.heap.size rb (rb + 1) (w4.setCell ⟨rb + 1, 0, none⟩ (.string x1)) r1 b1 #[.string x1, .string ⟨#[]⟩, .string ⟨#[]⟩, .string ⟨#[]⟩, .int .i64 0, .int .i64 0, .bool false, .slice none 0 0]) := HSET.out _ _ _ _ hs1 0 _
  clear hs1 HST3 HH1
  go_wp2_with fail
  clear q1 g1
  refine (HH2.out _ _ HS1.out).mono ?_
  rintro e w5 ⟨rfl, hs2⟩
  have q2 : w5.cell? ⟨rb + 1, 1, none⟩ = some (.string ⟨#[]⟩) := (hs2.cell 1).trans rfl
  have g2 := hs2.frozen 1
  have HS2 : Hid (UwSt w w.heap.size rb (rb + 1) (w5.setCell ⟨rb + 1, 1, none⟩ (.string x2)) r2 b2 #[.string x1, .string x2, .string ⟨#[]⟩, .string ⟨#[]⟩, .int .i64 0, .int .i64 0, .bool false, .slice none 0 0]) := HSET.out _ _ _ _ hs2 1 _
  clear hs2 HS1 HH2
  go_wp2_with fail
  clear q2 g2
  refine (HH3.out _ _ HS2.out).mono ?_
  rintro e w6 ⟨rfl, hs3⟩
  have q3 : w6.cell? ⟨rb + 1, 2, none⟩ = some (.string ⟨#[]⟩) := (hs3.cell 2).trans rfl
  have g3 := hs3.frozen 2
  have HS3 : Hid (UwSt w w.heap.size rb (rb + 1) (w6.setCell ⟨rb + 1, 2, none⟩ (.string x3)) r3 b3 #[.string x1, .string x2, .string x3, .string ⟨#[]⟩, .int .i64 0, .int .i64 0, .bool false, .slice none 0 0]) := HSET.out _ _ _ _ hs3 2 _
  clear hs3 HS2 HH3
  go_wp2_with fail
  clear q3 g3
  refine (HH4.out _ _ HS3.out).mono ?_
  rintro e w7 ⟨rfl, hs4⟩
  have q4 : w7.cell? ⟨rb + 1, 3, none⟩ = some (.string ⟨#[]⟩) := (hs4.cell 3).trans rfl
  have g4 := hs4.frozen 3
  have HS4 : Hid (UwSt w w.heap.size rb (rb + 1) (w7.setCell ⟨rb + 1, 3, none⟩ (.string x4)) r4 b4 #[.string x1, .string x2, .string x3, .string x4, .int .i64 0, .int .i64 0, .bool false, .slice none 0 0]) := HSET.out _ _ _ _ hs4 3 _
  clear hs4 HS3 HH4
  go_wp2_with fail
  clear q4 g4
  refine (HH5.out _ _ HS4.out).mono ?_
  rintro e w8 ⟨rfl, hs5⟩
  have q5 : w8.cell? ⟨rb + 1, 4, none⟩ = some (.int .i64 0) := (hs5.cell 4).trans rfl
  have g5 := hs5.frozen 4
  have HS5 : Hid (UwSt w w.heap.size rb (rb + 1) (w8.setCell ⟨rb + 1, 4, none⟩ (.int .i64 (x5 : Int))) r5 b5 #[.string x1, .string x2, .string x3, .string x4, .int .i64 (x5 : Int), .int .i64 0, .bool false, .slice none 0 0]) := HSET.out _ _ _ _ hs5 4 _
  clear hs5 HS4 HH5
  go_wp2_with fail
  clear q5 g5
  refine (HH6.out _ _ HS5.out).mono ?_
  rintro e w9 ⟨rfl, hs6⟩
  have q6 : w9.cell? ⟨rb + 1, 5, none⟩ = some (.int .i64 0) := (hs6.cell 5).trans rfl
  have g6 := hs6.frozen 5
  have HS6 : Hid (UwSt w w.heap.size rb (rb + 1) (w9.setCell ⟨rb + 1, 5, none⟩ (.int .i64 (x6 : Int))) r6 b6 #[.string x1, .string x2, .string x3, .string x4, .int .i64 (x5 : Int), .int .i64 (x6 : Int), .bool false, .slice none 0 0]) := HSET.out _ _ _ _ hs6 5 _
  clear hs6 HS5 HH6
  go_wp2_with fail
  clear q6 g6
  refine (HH7.out _ _ HS6.out).mono ?_
  rintro e w10 ⟨rfl, hs7⟩
  have HS7 : Hid (UwSt w w.heap.size rb (rb + 1) w10 r7 b7 #[.string x1, .string x2, .string x3, .string x4, .int .i64 (x5 : Int), .int .i64 (x6 : Int), .bool false, .slice none 0 0]) := hs7
  clear hs7 HS6 HH7
  go_wp2_with fail
  refine (HH8.out _ _ HS7.out).mono ?_
  rintro e w11 ⟨rfl, hs8⟩
  have HS8 : Hid (UwSt w w.heap.size rb (rb + 1) w11 r8 b8 #[.string x1, .string x2, .string x3, .string x4, .int .i64 (x5 : Int), .int .i64 (x6 : Int), .bool false, .slice none 0 0]) := hs8
  clear hs8 HS7 HH8
  have HMX : Hid (x8 ≤ 9223372036854775807 ∧ x7 ≤ 9223372036854775807 ∧ x5 ≤ 9223372036854775807 ∧ x6 ≤ 9223372036854775807) := ⟨hm8, hm7, hm5, hm6⟩
  have hm8' : x8 ≤ 9223372036854775807 := hm8
  go_wp2
  clear HT HN HSET
  go_loopw [10] (fun i wr => ∃ (k : Nat) (V : List Ver) (r : List UInt8) (b : Bool) (lv : Value), i = .int .i64 k ∧ V.length = k ∧ k ≤ x8 ∧ UwSt w w.heap.size rb (rb + 1) wr r b #[.string x1, .string x2, .string x3, .string x4, .int .i64 (x5 : Int), .int .i64 (x6 : Int), .bool false, lv] ∧ OwnR verE 50 wr (rb + 2) lv V ∧ r.length ≤ 4000 ∧ (b = false → 40 * k + r.length ≤ 4000) ∧ k ≤ 4001 ∧ rdM x8 r8 b8 = (V ++ (rdM (x8 - k) r b).1, (rdM (x8 - k) r b).2)) (fun i _ => x8 - (intOf i).toNat)
  case atStart => exact ⟨0, [], r8, b8, .slice none 0 0, rfl, rfl, Nat.zero_le _, HS8.out, OwnR.nil _ _ _, hl8, fun _ => by omega, by decide, rfl⟩
  case round =>
    obtain ⟨k, V, r, b, lv, rfl, hVl, hk, hst, hO, hrl, hrb, hk4, hrd⟩ := hrel
    obtain ⟨w12, rfl⟩ : ∃ w12, w12 = wr := ⟨_, rfl⟩
    have HVl : Hid (V.length = k) := hVl
    clear hVl
    have HS : Hid (UwSt w w.heap.size rb (rb + 1) w12 r b #[.string x1, .string x2, .string x3, .string x4, .int .i64 (x5 : Int), .int .i64 (x6 : Int), .bool false, lv]) := hst
    have HO : Hid (OwnR verE 50 w12 (rb + 2) lv V) := hO
    have HRD : Hid (rdM x8 r8 b8 = (V ++ (rdM (x8 - k) r b).1, (rdM (x8 - k) r b).2)) := hrd
    obtain ⟨c0, c1, f0, f1⟩ := hst.at_.cells
    clear hst hO hrd HS8
    by_cases hgo : k < x8 ∧ b = false
    · obtain ⟨hkx, rfl⟩ := hgo
      have hszw : rb + 1 < w12.heap.size := (Array.getElem?_eq_some_iff.1 HS.out.box).1
      have hrb0 : rb < w12.heap.size := by omega
      have hk40 := hrb rfl
      have HTv : Hid (∀ W r b vs, UvSt w12 W rb r b vs → r.length ≤ 4000 → Calls Tryd.prog 28 #[.pointer (some ⟨rb, 0, none⟩)] W fun e w' => e = .returned (.string (rdT r b).1) ∧ UvSt w12 w' rb (rdT r b).2.1 (rdT r b).2.2 vs) := fun W r b vs hW hr => (utext_any rb r b W hW.at_ (by omega)).mono fun e w' hp => ⟨hp.1, hW.rd hp.2 hrb0⟩
      have HNv : Hid (∀ W r b vs, UvSt w12 W rb r b vs → r.length ≤ 4000 → Calls Tryd.prog 29 #[.pointer (some ⟨rb, 0, none⟩)] W fun e w' => e = .returned (.int .i64 ((rdN r b).1 : Int)) ∧ UvSt w12 w' rb (rdN r b).2.1 (rdN r b).2.2 vs) := fun W r b vs hW hr => (unum_any rb r b W hW.at_ (by omega)).mono fun e w' hp => ⟨hp.1, hW.rd hp.2 hrb0⟩
      have HSv : Hid (∀ W r b vs, UvSt w12 W rb r b vs → ∀ i v, UvSt w12 (W.setCell ⟨w12.heap.size, i, none⟩ v) rb r b (vs.setIfInBounds i v)) := fun W r b vs hW i v => hW.set hrb0 i v
      have hsv0 : UvSt w12 (w12.alloc (.cells #[.int .i64 0, .int .i64 0, .int .i64 0, .int .i64 0, .string ⟨#[]⟩] 50)) rb r false #[.int .i64 0, .int .i64 0, .int .i64 0, .int .i64 0, .string ⟨#[]⟩] := UvSt.start HS.out.at_
      have HV0 : Hid (UvSt w12 (w12.alloc (.cells #[.int .i64 0, .int .i64 0, .int .i64 0, .int .i64 0, .string ⟨#[]⟩] 50)) rb r false #[.int .i64 0, .int .i64 0, .int .i64 0, .int .i64 0, .string ⟨#[]⟩]) := hsv0
      have hvlen : (rdV r false).2.2 = false → (rdV r false).2.1.length + 40 ≤ r.length := rdV_len
      have hvle := rdV_le r false
      have HVE : Hid (∀ n w s a t, rdN r false = n → rdN n.2.1 n.2.2 = w → rdN w.2.1 w.2.2 = s → rdN s.2.1 s.2.2 = a → rdT a.2.1 a.2.2 = t → rdV r false = (⟨n.1, w.1, s.1, a.1, t.1⟩, t.2.1, t.2.2)) := fun n w s a t h1 h2 h3 h4 h5 => by subst h1 h2 h3 h4 h5; rfl
      have KC1 := fun W vs hW => HNv.out W r false vs hW hrl
      have kq1 := rdN_len r false
      obtain ⟨Y1, hY1⟩ : ∃ X, rdN r false = X := ⟨_, rfl⟩
      rw [hY1] at KC1 kq1
      obtain ⟨y1, s1, e1⟩ := Y1
      simp only [] at KC1 kq1
      have kl1 : s1.length ≤ 4000 := by omega
      have KK1 : Hid (∀ (W : World) (vs : Array Value), UvSt w12 W rb r false vs → Calls Tryd.prog 29 #[.pointer (some ⟨rb, 0, none⟩)] W fun e w' => e = .returned (.int .i64 (y1 : Int)) ∧ UvSt w12 w' rb s1 e1 vs) := KC1
      clear KC1
      have KC2 := fun W vs hW => HNv.out W s1 e1 vs hW kl1
      have kq2 := rdN_len s1 e1
      obtain ⟨Y2, hY2⟩ : ∃ X, rdN s1 e1 = X := ⟨_, rfl⟩
      rw [hY2] at KC2 kq2
      obtain ⟨y2, s2, e2⟩ := Y2
      simp only [] at KC2 kq2
      have kl2 : s2.length ≤ 4000 := by omega
      have KK2 : Hid (∀ (W : World) (vs : Array Value), UvSt w12 W rb s1 e1 vs → Calls Tryd.prog 29 #[.pointer (some ⟨rb, 0, none⟩)] W fun e w' => e = .returned (.int .i64 (y2 : Int)) ∧ UvSt w12 w' rb s2 e2 vs) := KC2
      clear KC2
      have KC3 := fun W vs hW => HNv.out W s2 e2 vs hW kl2
      have kq3 := rdN_len s2 e2
      obtain ⟨Y3, hY3⟩ : ∃ X, rdN s2 e2 = X := ⟨_, rfl⟩
      rw [hY3] at KC3 kq3
      obtain ⟨y3, s3, e3⟩ := Y3
      simp only [] at KC3 kq3
      have kl3 : s3.length ≤ 4000 := by omega
      have KK3 : Hid (∀ (W : World) (vs : Array Value), UvSt w12 W rb s2 e2 vs → Calls Tryd.prog 29 #[.pointer (some ⟨rb, 0, none⟩)] W fun e w' => e = .returned (.int .i64 (y3 : Int)) ∧ UvSt w12 w' rb s3 e3 vs) := KC3
      clear KC3
      have KC4 := fun W vs hW => HNv.out W s3 e3 vs hW kl3
      have kq4 := rdN_len s3 e3
      obtain ⟨Y4, hY4⟩ : ∃ X, rdN s3 e3 = X := ⟨_, rfl⟩
      rw [hY4] at KC4 kq4
      obtain ⟨y4, s4, e4⟩ := Y4
      simp only [] at KC4 kq4
      have kl4 : s4.length ≤ 4000 := by omega
      have KK4 : Hid (∀ (W : World) (vs : Array Value), UvSt w12 W rb s3 e3 vs → Calls Tryd.prog 29 #[.pointer (some ⟨rb, 0, none⟩)] W fun e w' => e = .returned (.int .i64 (y4 : Int)) ∧ UvSt w12 w' rb s4 e4 vs) := KC4
      clear KC4
      have KC5 := fun W vs hW => HTv.out W s4 e4 vs hW kl4
      have kq5 := (rdT_len s4 e4).1
      obtain ⟨Y5, hY5⟩ : ∃ X, rdT s4 e4 = X := ⟨_, rfl⟩
      rw [hY5] at KC5 kq5
      obtain ⟨y5, s5, e5⟩ := Y5
      simp only [] at KC5 kq5
      have kl5 : s5.length ≤ 4000 := by omega
      have KK5 : Hid (∀ (W : World) (vs : Array Value), UvSt w12 W rb s4 e4 vs → Calls Tryd.prog 28 #[.pointer (some ⟨rb, 0, none⟩)] W fun e w' => e = .returned (.string y5) ∧ UvSt w12 w' rb s5 e5 vs) := KC5
      clear KC5
      have hve := HVE.out _ _ _ _ _ hY1 hY2 hY3 hY4 hY5
      simp only [] at hve
      rw [hve] at hvlen hvle
      simp only [] at hvlen hvle
      have HRN : Hid (rdM x8 r8 b8 = (V ++ [⟨(y1 : Int), (y2 : Int), (y3 : Int), (y4 : Int), y5⟩] ++ (rdM (x8 - (k + 1)) s5 e5).1, (rdM (x8 - (k + 1)) s5 e5).2)) := by
        show _ = _
        rw [HRD.out, show x8 - k = (x8 - (k + 1)) + 1 by omega, rdM_go, hve]
        simp
      have HLEN : Hid ((e5 = false → 40 * (k + 1) + s5.length ≤ 4000) ∧ s5.length ≤ 4000 ∧ k + 1 ≤ 4001) := ⟨fun h => by have := hvlen h; omega, by omega, by omega⟩
      have dk : decide (k < x8) = true := decide_eq_true hkx
      have hV4 : V.length ≤ 4000 := by have := HVl.out; omega
      clear hve hY1 hY2 hY3 hY4 hY5 HVE hvlen hvle HRD HUF hsv0 HTv HNv kq1 kq2 kq3 kq4 kq5
      go_wp2_with fail
      refine (KK1.out _ _ HV0.out).mono ?_
      rintro e w13 ⟨rfl, vs1⟩
      have vq1 : w13.cell? ⟨w12.heap.size, 0, none⟩ = some (.int .i64 0) := (vs1.cell 0).trans rfl
      have vg1 := vs1.frozen 0
      have HV1 : Hid (UvSt w12 (w13.setCell ⟨w12.heap.size, 0, none⟩ (.int .i64 (y1 : Int))) rb s1 e1 #[.int .i64 (y1 : Int), .int .i64 0, .int .i64 0, .int .i64 0, .string ⟨#[]⟩]) := HSv.out _ _ _ _ vs1 0 _
      clear vs1 HV0 KK1
      go_wp2_with fail
      clear vq1 vg1
      refine (KK2.out _ _ HV1.out).mono ?_
      rintro e w14 ⟨rfl, vs2⟩
      have vq2 : w14.cell? ⟨w12.heap.size, 1, none⟩ = some (.int .i64 0) := (vs2.cell 1).trans rfl
      have vg2 := vs2.frozen 1
      have HV2 : Hid (UvSt w12 (w14.setCell ⟨w12.heap.size, 1, none⟩ (.int .i64 (y2 : Int))) rb s2 e2 #[.int .i64 (y1 : Int), .int .i64 (y2 : Int), .int .i64 0, .int .i64 0, .string ⟨#[]⟩]) := HSv.out _ _ _ _ vs2 1 _
      clear vs2 HV1 KK2
      go_wp2_with fail
      clear vq2 vg2
      refine (KK3.out _ _ HV2.out).mono ?_
      rintro e w15 ⟨rfl, vs3⟩
      have vq3 : w15.cell? ⟨w12.heap.size, 2, none⟩ = some (.int .i64 0) := (vs3.cell 2).trans rfl
      have vg3 := vs3.frozen 2
      have HV3 : Hid (UvSt w12 (w15.setCell ⟨w12.heap.size, 2, none⟩ (.int .i64 (y3 : Int))) rb s3 e3 #[.int .i64 (y1 : Int), .int .i64 (y2 : Int), .int .i64 (y3 : Int), .int .i64 0, .string ⟨#[]⟩]) := HSv.out _ _ _ _ vs3 2 _
      clear vs3 HV2 KK3
      go_wp2_with fail
      clear vq3 vg3
      refine (KK4.out _ _ HV3.out).mono ?_
      rintro e w16 ⟨rfl, vs4⟩
      have vq4 : w16.cell? ⟨w12.heap.size, 3, none⟩ = some (.int .i64 0) := (vs4.cell 3).trans rfl
      have vg4 := vs4.frozen 3
      have HV4 : Hid (UvSt w12 (w16.setCell ⟨w12.heap.size, 3, none⟩ (.int .i64 (y4 : Int))) rb s4 e4 #[.int .i64 (y1 : Int), .int .i64 (y2 : Int), .int .i64 (y3 : Int), .int .i64 (y4 : Int), .string ⟨#[]⟩]) := HSv.out _ _ _ _ vs4 3 _
      clear vs4 HV3 KK4
      go_wp2_with fail
      clear vq4 vg4
      refine (KK5.out _ _ HV4.out).mono ?_
      rintro e w17 ⟨rfl, vs5⟩
      have vq5 : w17.cell? ⟨w12.heap.size, 4, none⟩ = some (.string ⟨#[]⟩) := (vs5.cell 4).trans rfl
      have vg5 := vs5.frozen 4
      have HV5 : Hid (UvSt w12 (w17.setCell ⟨w12.heap.size, 4, none⟩ (.string y5)) rb s5 e5 #[.int .i64 (y1 : Int), .int .i64 (y2 : Int), .int .i64 (y3 : Int), .int .i64 (y4 : Int), .string y5]) := HSv.out _ _ _ _ vs5 4 _
      clear vs5 HV4 KK5
      have p0 : (w17.setCell ⟨w12.heap.size, 4, none⟩ (.string y5)).cell? ⟨w12.heap.size, 0, none⟩ = some (.int .i64 (y1 : Int)) := (HV5.out.cell 0).trans rfl
      have p1 : (w17.setCell ⟨w12.heap.size, 4, none⟩ (.string y5)).cell? ⟨w12.heap.size, 1, none⟩ = some (.int .i64 (y2 : Int)) := (HV5.out.cell 1).trans rfl
      have p2 : (w17.setCell ⟨w12.heap.size, 4, none⟩ (.string y5)).cell? ⟨w12.heap.size, 2, none⟩ = some (.int .i64 (y3 : Int)) := (HV5.out.cell 2).trans rfl
      have p3 : (w17.setCell ⟨w12.heap.size, 4, none⟩ (.string y5)).cell? ⟨w12.heap.size, 3, none⟩ = some (.int .i64 (y4 : Int)) := (HV5.out.cell 3).trans rfl
      have p4 : (w17.setCell ⟨w12.heap.size, 4, none⟩ (.string y5)).cell? ⟨w12.heap.size, 4, none⟩ = some (.string y5) := (HV5.out.cell 4).trans rfl
      have hblk : ∀ j, j < w12.heap.size → j ≠ rb → (w17.setCell ⟨w12.heap.size, 4, none⟩ (.string y5)).heap[j]? = w12.heap[j]? := fun j hj hne => HV5.out.grown.block j hj (fun e => by injection e with e; omega)
      have p7 : (w17.setCell ⟨w12.heap.size, 4, none⟩ (.string y5)).cell? ⟨rb + 1, 7, none⟩ = some lv := (World.cell?_of_block (a := ⟨rb + 1, 7, none⟩) (hblk (rb + 1) hszw (by omega))).trans ((HS.out.cell 7).trans rfl)
      have HST : Hid (UwSt w w.heap.size rb (rb + 1) (w17.setCell ⟨w12.heap.size, 4, none⟩ (.string y5)) s5 e5 #[.string x1, .string x2, .string x3, .string x4, .int .i64 (x5 : Int), .int .i64 (x6 : Int), .bool false, lv]) := HS.out.rd ⟨HV5.out.at_, HV5.out.grown⟩ HLT.out (by omega)
      have hszT : w12.heap.size + 1 ≤ w17.heap.size := by have := (Array.getElem?_eq_some_iff.1 HV5.out.box).1; simp at this; omega
      have hbA : Below (rb + 2) (w17.setCell ⟨w12.heap.size, 4, none⟩ (.string y5)) ((w17.setCell ⟨w12.heap.size, 4, none⟩ (.string y5)).alloc (.cells #[.int .i64 (y1 : Int), .int .i64 (y2 : Int), .int .i64 (y3 : Int), .int .i64 (y4 : Int), .string y5] 50)) := (Below.refl _ _).alloc (by simp; omega) _
      have HO2 : Hid (OwnR verE 50 ((w17.setCell ⟨w12.heap.size, 4, none⟩ (.string y5)).alloc (.cells #[.int .i64 (y1 : Int), .int .i64 (y2 : Int), .int .i64 (y3 : Int), .int .i64 (y4 : Int), .string y5] 50)) (rb + 2) lv V) := (HO.out.same' (fun j hj => hblk j (HO.out.block hj).2 (by have := (HO.out.block hj).1; omega))).kept ((Below.refl _ _).alloc (Nat.le_refl _) _)
      have HNW : Hid (∀ j u, (verE.enc ⟨(y1 : Int), (y2 : Int), (y3 : Int), (y4 : Int), y5⟩)[j]? = some u → ((w17.setCell ⟨w12.heap.size, 4, none⟩ (.string y5)).alloc (.cells #[.int .i64 (y1 : Int), .int .i64 (y2 : Int), .int .i64 (y3 : Int), .int .i64 (y4 : Int), .string y5] 50)).cell? ⟨w17.heap.size, 0 + j, none⟩ = some u) := fun j u hj => by
        rw [Nat.zero_add, World.cell?_alloc_at _ _ _ _ (by simp)]
        match j, hj with
        | 0, hj => exact hj
        | 1, hj => exact hj
        | 2, hj => exact hj
        | 3, hj => exact hj
        | 4, hj => exact hj
      have HBA : Hid (Below (rb + 2) (w17.setCell ⟨w12.heap.size, 4, none⟩ (.string y5)) ((w17.setCell ⟨w12.heap.size, 4, none⟩ (.string y5)).alloc (.cells #[.int .i64 (y1 : Int), .int .i64 (y2 : Int), .int .i64 (y3 : Int), .int .i64 (y4 : Int), .string y5] 50))) := hbA
      have hszA : rb + 2 ≤ ((w17.setCell ⟨w12.heap.size, 4, none⟩ (.string y5)).alloc (.cells #[.int .i64 (y1 : Int), .int .i64 (y2 : Int), .int .i64 (y3 : Int), .int .i64 (y4 : Int), .string y5] 50)).heap.size := by simp; omega
      have hltA : w17.heap.size < ((w17.setCell ⟨w12.heap.size, 4, none⟩ (.string y5)).alloc (.cells #[.int .i64 (y1 : Int), .int .i64 (y2 : Int), .int .i64 (y3 : Int), .int .i64 (y4 : Int), .string y5] 50)).heap.size := by simp
      clear hbA hblk HV5
      go_wp2_with (first | (at_builtin; refine wpList_append_rec rfl (.tmp 84) (.tmp 86) 22 50 rfl (.agg #[.int .i64 0, .int .i64 0, .int .i64 0, .int .i64 0, .string ⟨#[]⟩]) 48 Tryd.underlying22 verinfo rfl (rb + 2) lv V rfl HO2.out w17.heap.size 0 1 ⟨(y1 : Int), (y2 : Int), (y3 : Int), (y4 : Int), y5⟩ rfl HNW.out (by unfold maxLen; omega) (by omega) hszA hltA ?_; intro v3 w19 hO3 hb3; obtain ⟨p3, c3, hv3, _⟩ := hO3.form; have hv4 : v3 = .slice p3 (V.length + 1) c3 := (by rw [hv3, List.length_append]; rfl); clear hv3; subst hv4; have hst9 := HST.out.below HLT.out (by omega) (HBA.out.trans hb3); have q7 : w19.cell? ⟨rb + 1, 7, none⟩ = some lv := (hst9.cell 7).trans rfl; have g7 := hst9.frozen 7; have HS9 : Hid (UwSt w w.heap.size rb (rb + 1) w19 s5 e5 #[.string x1, .string x2, .string x3, .string x4, .int .i64 (x5 : Int), .int .i64 (x6 : Int), .bool false, lv]) := hst9; clear hst9))
      have HEND : Hid (UwSt w w.heap.size rb (rb + 1) (w19.setCell ⟨rb + 1, 7, none⟩ (.slice p3 (V.length + 1) c3)) s5 e5 #[.string x1, .string x2, .string x3, .string x4, .int .i64 (x5 : Int), .int .i64 (x6 : Int), .bool false, .slice p3 (V.length + 1) c3]) := HS9.out.set HLT.out (by omega) 7 _
      have HOE : Hid (OwnR verE 50 (w19.setCell ⟨rb + 1, 7, none⟩ (.slice p3 (V.length + 1) c3)) (rb + 2) (.slice p3 (V.length + 1) c3) (V ++ [⟨(y1 : Int), (y2 : Int), (y3 : Int), (y4 : Int), y5⟩])) := hO3.setC (b := rb + 1) (by omega) 7 _
      have HLV : Hid ((V ++ [(⟨(y1 : Int), (y2 : Int), (y3 : Int), (y4 : Int), y5⟩ : Ver)]).length = k + 1) := by show _ = _; rw [List.length_append, HVl.out]; rfl
      clear hO3 hb3 HO2 HNW HBA HST
      go_wp2
      go_roundw
      case rel => exact ⟨k + 1, V ++ [⟨(y1 : Int), (y2 : Int), (y3 : Int), (y4 : Int), y5⟩], s5, e5, _, by go_num, HLV.out, hkx, HEND.out, HOE.out, HLEN.out.2.1, HLEN.out.1, HLEN.out.2.2, HRN.out⟩
      case measure => simp [intOf]; omega
    · have hfin : rdM x8 r8 b8 = (V, r, b) := by
        rw [HRD.out]
        cases b with
        | true => rw [rdM_stop, List.append_nil]
        | false =>
          have : x8 - k = 0 := by
            rcases Nat.lt_or_ge k x8 with h | h
            · exact absurd ⟨h, rfl⟩ hgo
            · omega
          rw [this]
          simp [rdM]
      have hun := HUF.out _ hfin
      simp only [] at hun
      have HUNF : Hid (unF r0 = if b = true ∨ r ≠ [] ∨ 1 < x7 then none else some ⟨x1, x2, x3, x4, x5, x6, decide (x7 = 1), V⟩) := hun
      have HLW : Hid (Below w.heap.size w w12) := HS.out.low
      have z0 : w12.cell? ⟨w.heap.size, 0, none⟩ = some (.string ⟨#[]⟩) := (HS.out.rcell 0).trans rfl
      have z1 : w12.cell? ⟨w.heap.size, 1, none⟩ = some (.string ⟨#[]⟩) := (HS.out.rcell 1).trans rfl
      have z2 : w12.cell? ⟨w.heap.size, 2, none⟩ = some (.string ⟨#[]⟩) := (HS.out.rcell 2).trans rfl
      have z3 : w12.cell? ⟨w.heap.size, 3, none⟩ = some (.string ⟨#[]⟩) := (HS.out.rcell 3).trans rfl
      have z4 : w12.cell? ⟨w.heap.size, 4, none⟩ = some (.int .i64 0) := (HS.out.rcell 4).trans rfl
      have z5 : w12.cell? ⟨w.heap.size, 5, none⟩ = some (.int .i64 0) := (HS.out.rcell 5).trans rfl
      have z6 : w12.cell? ⟨w.heap.size, 6, none⟩ = some (.bool false) := (HS.out.rcell 6).trans rfl
      have z7 : w12.cell? ⟨w.heap.size, 7, none⟩ = some (.slice none 0 0) := (HS.out.rcell 7).trans rfl
      have y0 : w12.cell? ⟨rb + 1, 0, none⟩ = some (.string x1) := (HS.out.cell 0).trans rfl
      have y1 : w12.cell? ⟨rb + 1, 1, none⟩ = some (.string x2) := (HS.out.cell 1).trans rfl
      have y2 : w12.cell? ⟨rb + 1, 2, none⟩ = some (.string x3) := (HS.out.cell 2).trans rfl
      have y3 : w12.cell? ⟨rb + 1, 3, none⟩ = some (.string x4) := (HS.out.cell 3).trans rfl
      have y4 : w12.cell? ⟨rb + 1, 4, none⟩ = some (.int .i64 (x5 : Int)) := (HS.out.cell 4).trans rfl
      have y5 : w12.cell? ⟨rb + 1, 5, none⟩ = some (.int .i64 (x6 : Int)) := (HS.out.cell 5).trans rfl
      have y6 : w12.cell? ⟨rb + 1, 6, none⟩ = some (.bool false) := (HS.out.cell 6).trans rfl
      have y7 : w12.cell? ⟨rb + 1, 7, none⟩ = some (lv) := (HS.out.cell 7).trans rfl
      have z8 : ∀ o, w12.frozen? ⟨w.heap.size, o, none⟩ = false := fun o => HS.out.rfrozen o
      have y8 : ∀ o, w12.frozen? ⟨rb + 1, o, none⟩ = false := fun o => HS.out.frozen o
      have hne : w.heap.size < rb := HLT.out
      have hmx := HMX.out
      clear hfin hun HRD HUF HS hrb hrl
      cases b with
      | true =>
        by_cases hkx : k < x8
        · have dk : decide (k < x8) = true := decide_eq_true hkx
          clear hgo
          go_wp2
          refine bodyPost_ret (v := .tuple #[.agg #[.string ⟨#[]⟩, .string ⟨#[]⟩, .string ⟨#[]⟩, .string ⟨#[]⟩, .int .i64 0, .int .i64 0, .bool false, .slice none 0 0], .int .i64 1]) (by simp [results, Tryd.results15, go_sem, z0, z1, z2, z3, z4, z5, z6, z7]) rfl ⟨Or.inl ⟨by rw [HUNF.out, if_pos (Or.inl trivial)], rfl⟩, ?_⟩
          exact ((((((((HLW.out.setCell (p := ⟨w.heap.size, 0, none⟩) (Nat.le_refl _) _).setCell (p := ⟨w.heap.size, 1, none⟩) (Nat.le_refl _) _).setCell (p := ⟨w.heap.size, 2, none⟩) (Nat.le_refl _) _).setCell (p := ⟨w.heap.size, 3, none⟩) (Nat.le_refl _) _).setCell (p := ⟨w.heap.size, 4, none⟩) (Nat.le_refl _) _).setCell (p := ⟨w.heap.size, 5, none⟩) (Nat.le_refl _) _).setCell (p := ⟨w.heap.size, 6, none⟩) (Nat.le_refl _) _).setCell (p := ⟨w.heap.size, 7, none⟩) (Nat.le_refl _) _)
        · have dk : decide (k < x8) = false := decide_eq_false hkx
          clear hgo
          go_wp2
          refine bodyPost_ret (v := .tuple #[.agg #[.string ⟨#[]⟩, .string ⟨#[]⟩, .string ⟨#[]⟩, .string ⟨#[]⟩, .int .i64 0, .int .i64 0, .bool false, .slice none 0 0], .int .i64 1]) (by simp [results, Tryd.results15, go_sem, z0, z1, z2, z3, z4, z5, z6, z7]) rfl ⟨Or.inl ⟨by rw [HUNF.out, if_pos (Or.inl trivial)], rfl⟩, ?_⟩
          exact ((((((((HLW.out.setCell (p := ⟨w.heap.size, 0, none⟩) (Nat.le_refl _) _).setCell (p := ⟨w.heap.size, 1, none⟩) (Nat.le_refl _) _).setCell (p := ⟨w.heap.size, 2, none⟩) (Nat.le_refl _) _).setCell (p := ⟨w.heap.size, 3, none⟩) (Nat.le_refl _) _).setCell (p := ⟨w.heap.size, 4, none⟩) (Nat.le_refl _) _).setCell (p := ⟨w.heap.size, 5, none⟩) (Nat.le_refl _) _).setCell (p := ⟨w.heap.size, 6, none⟩) (Nat.le_refl _) _).setCell (p := ⟨w.heap.size, 7, none⟩) (Nat.le_refl _) _)
      | false =>
        have hkx : ¬ k < x8 := fun h => hgo ⟨h, rfl⟩
        have dk : decide (k < x8) = false := decide_eq_false hkx
        clear hgo
        by_cases hr0 : r = []
        · subst hr0
          have hez : ofL ([] : List UInt8) = ⟨#[]⟩ := rfl
          rw [hez] at c0
          by_cases h1 : 1 < x7
          · have d1 : decide (1 < x7) = true := decide_eq_true h1
            go_wp2
            refine bodyPost_ret (v := .tuple #[.agg #[.string ⟨#[]⟩, .string ⟨#[]⟩, .string ⟨#[]⟩, .string ⟨#[]⟩, .int .i64 0, .int .i64 0, .bool false, .slice none 0 0], .int .i64 1]) (by simp [results, Tryd.results15, go_sem, z0, z1, z2, z3, z4, z5, z6, z7]) rfl ⟨Or.inl ⟨by rw [HUNF.out, if_pos (Or.inr (Or.inr h1))], rfl⟩, ?_⟩
            exact ((((((((HLW.out.setCell (p := ⟨w.heap.size, 0, none⟩) (Nat.le_refl _) _).setCell (p := ⟨w.heap.size, 1, none⟩) (Nat.le_refl _) _).setCell (p := ⟨w.heap.size, 2, none⟩) (Nat.le_refl _) _).setCell (p := ⟨w.heap.size, 3, none⟩) (Nat.le_refl _) _).setCell (p := ⟨w.heap.size, 4, none⟩) (Nat.le_refl _) _).setCell (p := ⟨w.heap.size, 5, none⟩) (Nat.le_refl _) _).setCell (p := ⟨w.heap.size, 6, none⟩) (Nat.le_refl _) _).setCell (p := ⟨w.heap.size, 7, none⟩) (Nat.le_refl _) _)
          · have d1 : decide (1 < x7) = false := decide_eq_false h1
            obtain ⟨lp, lc, hlv, _⟩ := HO.out.form
            subst hlv
            have HBQ : Hid (((x7 : Int) == 1) = decide (x7 = 1)) := by show _ = _; rw [Bool.eq_iff_iff]; simp; omega
            go_wp2
            refine bodyPost_ret (v := .tuple #[.agg #[.string x1, .string x2, .string x3, .string x4, .int .i64 (x5 : Int), .int .i64 (x6 : Int), .bool ((x7 : Int) == 1), .slice lp V.length lc], .int .i64 0]) (by simp [results, Tryd.results15, go_sem, z0, z1, z2, z3, z4, z5, z6, z7]) rfl ⟨Or.inr ⟨⟨x1, x2, x3, x4, x5, x6, decide (x7 = 1), V⟩, _, by rw [HUNF.out, if_neg (by simp; omega)], by rw [HBQ.out]; rfl, ?_⟩, ?_⟩
            · exact OwnR.base (((((((((HO.out.setC (b := rb + 1) (by omega) 6 _).setC (b := w.heap.size) (by omega) 0 _).setC (b := w.heap.size) (by omega) 1 _).setC (b := w.heap.size) (by omega) 2 _).setC (b := w.heap.size) (by omega) 3 _).setC (b := w.heap.size) (by omega) 4 _).setC (b := w.heap.size) (by omega) 5 _).setC (b := w.heap.size) (by omega) 6 _).setC (b := w.heap.size) (by omega) 7 _) (by omega)
            · exact (((((((((HLW.out.setCell (p := ⟨rb + 1, 6, none⟩) (by show w.heap.size ≤ rb + 1; omega) _).setCell (p := ⟨w.heap.size, 0, none⟩) (Nat.le_refl _) _).setCell (p := ⟨w.heap.size, 1, none⟩) (Nat.le_refl _) _).setCell (p := ⟨w.heap.size, 2, none⟩) (Nat.le_refl _) _).setCell (p := ⟨w.heap.size, 3, none⟩) (Nat.le_refl _) _).setCell (p := ⟨w.heap.size, 4, none⟩) (Nat.le_refl _) _).setCell (p := ⟨w.heap.size, 5, none⟩) (Nat.le_refl _) _).setCell (p := ⟨w.heap.size, 6, none⟩) (Nat.le_refl _) _).setCell (p := ⟨w.heap.size, 7, none⟩) (Nat.le_refl _) _)
        · have hne1 : ¬ ofL r = ⟨#[]⟩ := fun e => hr0 (by have := congrArg (fun x => x.data.toList) e; simpa [ofL] using this)
          have t0 : (⟨#[]⟩ : ByteArray).toList = [] := by rw [ByteArray.toList_eq]
          have t1 : ¬ (ofL r).toList = [] := fun e => hne1 (by rw [← t0] at e; rw [ByteArray.toList_eq, ByteArray.toList_eq] at e; exact ByteArray.ext (Array.toList_inj.1 e))
          have t2 : ((ofL r).toList == []) = false := by simpa using t1
          have hne2 : (ofL r == (⟨#[]⟩ : ByteArray)) = false := by rw [beq_toListBytes, t0]; exact t2
          generalize ofL r = rs at *
          go_wp2
          refine bodyPost_ret (v := .tuple #[.agg #[.string ⟨#[]⟩, .string ⟨#[]⟩, .string ⟨#[]⟩, .string ⟨#[]⟩, .int .i64 0, .int .i64 0, .bool false, .slice none 0 0], .int .i64 1]) (by simp [results, Tryd.results15, go_sem, z0, z1, z2, z3, z4, z5, z6, z7]) rfl ⟨Or.inl ⟨by rw [HUNF.out, if_pos (Or.inr (Or.inl hr0))], rfl⟩, ?_⟩
          exact ((((((((HLW.out.setCell (p := ⟨w.heap.size, 0, none⟩) (Nat.le_refl _) _).setCell (p := ⟨w.heap.size, 1, none⟩) (Nat.le_refl _) _).setCell (p := ⟨w.heap.size, 2, none⟩) (Nat.le_refl _) _).setCell (p := ⟨w.heap.size, 3, none⟩) (Nat.le_refl _) _).setCell (p := ⟨w.heap.size, 4, none⟩) (Nat.le_refl _) _).setCell (p := ⟨w.heap.size, 5, none⟩) (Nat.le_refl _) _).setCell (p := ⟨w.heap.size, 6, none⟩) (Nat.le_refl _) _).setCell (p := ⟨w.heap.size, 7, none⟩) (Nat.le_refl _) _)
end Go.Proofs.YteppmkpckdmnaaaDoor
