/- QuorumTwo, walked over what package quorum is asked. -/
import Derived.Test.YtgjehnahkbddgaaDoorQuCW
import Derived.Test.YtgjehnahkbddgaaDoorQuSomeW
namespace Go.Proofs.YtgjehnahkbddgaaDoor
open Go.RowKit
theorem meetE_fine {c : Cfg} {a b : List ByteArray} (h : ¬ 0 < (cfgF c).1) (ha : ∀ x ∈ a, x ∈ c.L) (hb : ∀ x ∈ b, x ∈ c.L) : meetE c a b = (0, -1) := by unfold meetE; rw [if_neg h, meetF_fine ha hb]
theorem meetT_fine {c : Cfg} {a b : List ByteArray} (h : ¬ 0 < (cfgF c).1) (ha : ∀ x ∈ a, x ∈ c.L) (hb : ∀ x ∈ b, x ∈ c.L) : meetT c a b = meetL c.L a b := by unfold meetT; rw [meetE_fine h ha hb]; rfl
set_option maxRecDepth 10000 in
set_option maxHeartbeats 8000000 in
theorem quorumTwo_any {ad : Nat → Addr} {X : World → Prop} (hO : QuorumOk ad X) (c : Cfg) (p : Option Addr) (cap : Nat) (a : List Int) (pa : Option Addr) (ca : Nat) (b : List Int) (pb : Option Addr) (cb : Nat) (w : World)
    (hl : c.L.length ≤ maxLen) (hx : ∀ x ∈ c.L, x.size ≤ maxLen) (hs : Strs w p c.L) (hn : p = none → c.L = [] ∧ cap = 0) (hin : CfgIn c) (hal : a.length ≤ maxLen) (hbl : b.length ≤ maxLen) (ha : Ints w pa a) (hb : Ints w pb b)
    (hS : ∀ W, Below w.heap.size w W → ErrsQ W ad) (hX : ∀ W, Below w.heap.size w W → X W) :
    Calls Tryd.prog 4 #[cfgA c (.slice p c.L.length cap), .slice pa a.length ca, .slice pb b.length cb] w fun e w' => e = .returned (.bool true) ∧ Below w.heap.size w w' := by
  obtain ⟨w1, hw1⟩ : ∃ w1, w1 = w.alloc (.cells #[.int .i64 c.n, .int .i64 c.k, .slice p c.L.length cap] 24) := ⟨_, rfl⟩
  have HW1 : Hid (w1 = w.alloc (.cells #[.int .i64 c.n, .int .i64 c.k, .slice p c.L.length cap] 24)) := hw1
  have hb1 : Below w.heap.size w w1 := by rw [hw1]; exact (Below.refl _ _).alloc (Nat.le_refl _) _
  have hx1 : w1.heap[w.heap.size]? = some (.cells #[.int .i64 c.n, .int .i64 c.k, .slice p c.L.length cap] 24 (0, 0)) := by rw [hw1]; exact heap_alloc_new _ _
  have hlt1 : w.heap.size < w1.heap.size := (Array.getElem?_eq_some_iff.1 hx1).1
  have HBX : Hid (∀ W, Below w1.heap.size w1 W → W.heap[w.heap.size]? = some (.cells #[.int .i64 c.n, .int .i64 c.k, .slice p c.L.length cap] 24 (0, 0))) := fun W hW => (hW.block _ hlt1).trans hx1
  have HLO : Hid (∀ W, Below w1.heap.size w1 W → Below w.heap.size w W) := fun W hW => hb1.trans (hW.mono hb1.size)
  have HEN := enough_any hO.en w1 (fun W hW => hS W (HLO.out W hW)) (fun W hW => hX W (HLO.out W hW))
  have HLC : Hid (∀ W, Below w1.heap.size w1 W → Calls Tryd.prog 6 #[cfgA c (.slice p c.L.length cap)] W fun e w' => e = .returned (.bool (longC c)) ∧ Below W.heap.size W w') := fun W hW => longConfig_any c p cap W hl hx (hs.below (HLO.out W hW))
  have HOC : Hid (∀ W, Below w1.heap.size w1 W → longC c = false → Calls Tryd.prog 10 #[cfgA c (.slice p c.L.length cap)] W fun e w' => (∃ q d, e = .returned (cfgA c (.slice q c.L.length d)) ∧ CfgAt w' c q d) ∧ Below W.heap.size W w') := fun W hW hlc => (ownConfig_any c p cap W (by have := (longC_fine hlc).1; omega) (hs.below (HLO.out W hW)) hn).mono fun e w' hp => by
    obtain ⟨⟨q, d, h1, h2, h3, h4⟩, h5⟩ := hp
    exact ⟨⟨q, d, h1, cfgAt_of h2 h3 h4 hlc hin⟩, h5⟩
  have HQE : Hid (∀ W q d, Below w1.heap.size w1 W → CfgAt W c q d → Calls Tryd.prog 11 #[cfgA c (.slice q c.L.length d)] W fun e w' => (∃ ev, e = .returned (.tuple #[.int .i64 ((if 0 < (cfgF c).1 then 0 else enoughN c : Nat) : Int), ev]) ∧ ErrIs w' ad ev (cfgF c).1 (cfgF c).2) ∧ Below W.heap.size W w') := fun W q d hW hc => hO.enough c q d W hc (hS W (HLO.out W hW)) (hX W (HLO.out W hW))
  have HSA : Hid (∀ W, Below w1.heap.size w1 W → longC c = false → a.length ≤ 40 → (enoughN c : Int) ≤ c.L.length → Calls Tryd.prog 16 #[.slice p c.L.length cap, .slice pa a.length ca, .int .i64 ((enoughN c : Nat) : Int)] W fun e w' => (∃ q d out, e = .returned (.slice q out.length d) ∧ SomeIs c.L (enoughN c) out ∧ Strs w' q out ∧ out.length ≤ d ∧ (q = none → out = [] ∧ d = 0)) ∧ Below W.heap.size W w') := fun W hW hlc h1 h2 => some_any c.L p cap a pa ca (enoughN c) W (by have := (longC_fine hlc).1; omega) (hs.below (HLO.out W hW)) (by omega) (ha.below (HLO.out W hW)) (by omega)
  have HSB : Hid (∀ W, Below w1.heap.size w1 W → longC c = false → b.length ≤ 40 → (enoughN c : Int) ≤ c.L.length → Calls Tryd.prog 16 #[.slice p c.L.length cap, .slice pb b.length cb, .int .i64 ((enoughN c : Nat) : Int)] W fun e w' => (∃ q d out, e = .returned (.slice q out.length d) ∧ SomeIs c.L (enoughN c) out ∧ Strs w' q out ∧ out.length ≤ d ∧ (q = none → out = [] ∧ d = 0)) ∧ Below W.heap.size W w') := fun W hW hlc h1 h2 => some_any c.L p cap b pb cb (enoughN c) W (by have := (longC_fine hlc).1; omega) (hs.below (HLO.out W hW)) (by omega) (hb.below (HLO.out W hW)) (by omega)
  have HME : Hid (∀ W q d x px cx y py cy, Below w1.heap.size w1 W → CfgAt W c q d → TxsAt W x px cx → TxsAt W y py cy → Calls Tryd.prog 12 #[cfgA c (.slice q c.L.length d), .slice px x.length cx, .slice py y.length cy] W fun e w' => (∃ ev lp lc, e = .returned (.tuple #[.slice lp (meetT c x y).length lc, ev]) ∧ Strs w' lp (meetT c x y) ∧ ErrIs w' ad ev (meetE c x y).1 (meetE c x y).2) ∧ Below W.heap.size W w') := fun W q d x px cx y py cy hW hc h1 h2 => hO.meet c q d x px cx y py cy W hc h1 h2 (hS W (HLO.out W hW)) (hX W (HLO.out W hW))
  have HFI : Hid (¬ 0 < (cfgF c).1 → (1 ≤ c.k ∧ c.k ≤ c.n ∧ c.n ≤ 12) ∧ (c.L.length : Int) = c.n ∧ cfgF c = (0, -1) ∧ c.L.Nodup) := fun h => ⟨(cfgF_fine h).1, (cfgF_fine h).2.1, (cfgF_fine h).2.2.1, (cfgF_fine h).2.2.2.2⟩
  have HMF : Hid (¬ 0 < (cfgF c).1 → ∀ x y, SomeIs c.L (enoughN c) x → SomeIs c.L (enoughN c) y → meetE c x y = (0, -1) ∧ c.k ≤ ((meetT c x y).length : Int)) := fun h x y h1 h2 => by
    refine ⟨meetE_fine h h1.mem h2.mem, ?_⟩
    rw [meetT_fine h h1.mem h2.mem]
    have hf := cfgF_fine h
    exact two_meet hf.1 hf.2.1 hf.2.2.2.2 (h1.nodup hf.2.2.2.2) (h2.nodup hf.2.2.2.2) h1.mem h2.mem h1.len h2.len
  have HLF : Hid (longC c = false → c.L.length ≤ 30 ∧ ∀ x ∈ c.L, x.size ≤ 60) := fun h => longC_fine h
  have HEL : Hid ((1 ≤ c.k ∧ c.k ≤ c.n ∧ c.n ≤ 12) → (enoughN c : Int) ≤ c.n ∧ 1 ≤ enoughN c ∧ enoughN c ≤ 12) := fun h => enoughN_le h
  have hcn := hin.1
  have hck := hin.2
  have hal' : a.length ≤ 9223372036854775807 := by unfold maxLen at hal; omega
  have hbl' : b.length ≤ 9223372036854775807 := by unfold maxLen at hbl; omega
  clear hw1 hb1 hx1 hO hl hx hs hn hin hal hbl ha hb hS hX
  obtain ⟨cn, ck, L⟩ := c
  unfold cfgA at *
  simp only [] at *
  go_enter Tryd.func4, Tryd.ntmps4
  go_wp2_with fail
  rw [← HW1.out]
  refine HEN.mono ?_
  rintro e w2 ⟨rfl, hb2⟩
  have HB2 : Hid (Below w1.heap.size w1 w2) := hb2
  have hx2 := HBX.out w2 hb2
  have q0 : w2.cell? ⟨w.heap.size, 0, none⟩ = some (.int .i64 cn) := by simp [World.cell?, hx2]
  have q1 : w2.cell? ⟨w.heap.size, 1, none⟩ = some (.int .i64 ck) := by simp [World.cell?, hx2]
  have q2 : w2.cell? ⟨w.heap.size, 2, none⟩ = some (.slice p L.length cap) := by simp [World.cell?, hx2]
  clear hb2 hx2 HEN HW1
  go_wp2_with fail
  refine (HLC.out w2 HB2.out).mono ?_
  rintro e w3 ⟨rfl, hb3⟩
  have HB3 : Hid (Below w1.heap.size w1 w3) := HB2.out.trans (hb3.mono HB2.out.size)
  clear hb3 HB2 HLC q0 q1 q2
  generalize hlc : longC ⟨cn, ck, L⟩ = LC at *
  cases LC with
  | true =>
    go_wp2
    go_ret
    exact ⟨rfl, HLO.out w3 HB3.out⟩
  | false =>
    by_cases h40 : 40 < a.length
    · have d1 : decide (40 < (a.length : Int)) = true := decide_eq_true (by omega)
      go_wp2
      go_ret
      exact ⟨rfl, HLO.out w3 HB3.out⟩
    have d1 : decide (40 < (a.length : Int)) = false := decide_eq_false (by omega)
    by_cases h41 : 40 < b.length
    · have d2 : decide (40 < (b.length : Int)) = true := decide_eq_true (by omega)
      go_wp2
      go_ret
      exact ⟨rfl, HLO.out w3 HB3.out⟩
    have d2 : decide (40 < (b.length : Int)) = false := decide_eq_false (by omega)
    have hx3 := HBX.out w3 HB3.out
    have q0 : w3.cell? ⟨w.heap.size, 0, none⟩ = some (.int .i64 cn) := by simp [World.cell?, hx3]
    have q1 : w3.cell? ⟨w.heap.size, 1, none⟩ = some (.int .i64 ck) := by simp [World.cell?, hx3]
    have q2 : w3.cell? ⟨w.heap.size, 2, none⟩ = some (.slice p L.length cap) := by simp [World.cell?, hx3]
    clear hx3
    go_wp2_with fail
    refine (HOC.out w3 HB3.out trivial).mono ?_
    rintro e w4 ⟨⟨q4, d4, rfl, hc4⟩, hb4⟩
    have HB4 : Hid (Below w1.heap.size w1 w4) := HB3.out.trans (hb4.mono HB3.out.size)
    have HC4 : Hid (CfgAt w4 ⟨cn, ck, L⟩ q4 d4) := hc4
    clear hb4 hc4 HB3 q0 q1 q2 d1 d2
    go_wp2_with fail
    refine (HQE.out w4 q4 d4 HB4.out HC4.out).mono ?_
    rintro e w5 ⟨⟨ev5, rfl, hev5⟩, hb5⟩
    have HB5 : Hid (Below w1.heap.size w1 w5) := HB4.out.trans (hb5.mono HB4.out.size)
    clear hb5 HB4 HC4 HQE
    by_cases hf : 0 < (cfgF ⟨cn, ck, L⟩).1
    · rw [if_pos hf]
      obtain ⟨t5, v5, rfl⟩ := hev5.some hf
      clear hev5
      go_wp2
      go_ret
      exact ⟨rfl, HLO.out w5 HB5.out⟩
    · rw [if_neg hf]
      obtain ⟨hb1, hb2, hb3, hb4⟩ := HFI.out (by omega)
      have hmf := HMF.out (by omega)
      have hel := HEL.out hb1
      rw [hb3] at hev5
      obtain rfl := hev5.isNil
      have HMF2 : Hid (∀ x y, SomeIs L (enoughN ⟨cn, ck, L⟩) x → SomeIs L (enoughN ⟨cn, ck, L⟩) y → meetE ⟨cn, ck, L⟩ x y = (0, -1) ∧ ck ≤ ((meetT ⟨cn, ck, L⟩ x y).length : Int)) := hmf
      have HLE : Hid ((enoughN ⟨cn, ck, L⟩ : Int) ≤ L.length) := by show _ ≤ _; omega
      have HMEM : Hid (∀ x, SomeIs L (enoughN ⟨cn, ck, L⟩) x → x.length = enoughN ⟨cn, ck, L⟩ ∧ x.length ≤ 1000 ∧ ∀ y ∈ x, y.size ≤ 1000) := fun x hx => ⟨hx.len, by rw [hx.len]; omega, fun y hy => by have := (HLF.out trivial).2 y (hx.mem y hy); omega⟩
      have HS40 : Hid (a.length ≤ 40 ∧ b.length ≤ 40) := ⟨by omega, by omega⟩
      generalize enoughN ⟨cn, ck, L⟩ = n at *
      have hx5 := HBX.out w5 HB5.out
      have q0 : w5.cell? ⟨w.heap.size, 0, none⟩ = some (.int .i64 cn) := by simp [World.cell?, hx5]
      have q1 : w5.cell? ⟨w.heap.size, 1, none⟩ = some (.int .i64 ck) := by simp [World.cell?, hx5]
      have q2 : w5.cell? ⟨w.heap.size, 2, none⟩ = some (.slice p L.length cap) := by simp [World.cell?, hx5]
      clear hev5 hb3 hb4 hmf HMF HFI HEL hx5 hf HLF
      go_wp2_with fail
      refine (HSA.out w5 HB5.out trivial HS40.out.1 HLE.out).mono ?_
      rintro e w6 ⟨⟨qa, da, oa, rfl, hsa, hta, hca, hna⟩, hb6⟩
      have HB6 : Hid (Below w1.heap.size w1 w6) := HB5.out.trans (hb6.mono HB5.out.size)
      have HTA : Hid (∀ W, Below w6.heap.size w6 W → TxsAt W oa qa da) := fun W hW => ⟨hta.below hW, hca, hna, (HMEM.out oa hsa).2.1, (HMEM.out oa hsa).2.2⟩
      have HSAI : Hid (SomeIs L n oa) := hsa
      have hla : oa.length = n := hsa.len
      have hx6 := HBX.out w6 HB6.out
      have r2 : w6.cell? ⟨w.heap.size, 2, none⟩ = some (.slice p L.length cap) := by simp [World.cell?, hx6]
      clear hb6 hsa hta hca hna hx6 HB5 q0 q1 q2 HSA
      rw [hla]
      go_wp2_with fail
      refine (HSB.out w6 HB6.out trivial HS40.out.2 HLE.out).mono ?_
      rintro e w7 ⟨⟨qb, db, ob, rfl, hsb, htb, hcb, hnb⟩, hb7⟩
      have HB7 : Hid (Below w1.heap.size w1 w7) := HB6.out.trans (hb7.mono HB6.out.size)
      have HTB : Hid (∀ W, Below w7.heap.size w7 W → TxsAt W ob qb db) := fun W hW => ⟨htb.below hW, hcb, hnb, (HMEM.out ob hsb).2.1, (HMEM.out ob hsb).2.2⟩
      have H67 : Hid (Below w6.heap.size w6 w7) := hb7
      have HSBI : Hid (SomeIs L n ob) := hsb
      have hlb : ob.length = n := hsb.len
      have hx7 := HBX.out w7 HB7.out
      have q0 : w7.cell? ⟨w.heap.size, 0, none⟩ = some (.int .i64 cn) := by simp [World.cell?, hx7]
      have q1 : w7.cell? ⟨w.heap.size, 1, none⟩ = some (.int .i64 ck) := by simp [World.cell?, hx7]
      have q2 : w7.cell? ⟨w.heap.size, 2, none⟩ = some (.slice p L.length cap) := by simp [World.cell?, hx7]
      clear hb7 hsb htb hcb hnb hx7 HB6 r2 HSB
      rw [hlb]
      go_wp2_with fail
      refine (HOC.out w7 HB7.out trivial).mono ?_
      rintro e w8 ⟨⟨q8, d8, rfl, hc8⟩, hb8⟩
      have HB8 : Hid (Below w1.heap.size w1 w8) := HB7.out.trans (hb8.mono HB7.out.size)
      have hme := HME.out w8 q8 d8 oa qa da ob qb db HB8.out hc8 (HTA.out w8 (H67.out.trans (hb8.mono H67.out.size))) (HTB.out w8 hb8)
      obtain ⟨hm1, hm2⟩ := HMF2.out oa ob HSAI.out HSBI.out
      rw [hm1, hla, hlb] at hme
      have HMC : Hid (Calls Tryd.prog 12 #[.agg #[.int .i64 cn, .int .i64 ck, .slice q8 L.length d8], .slice qa n da, .slice qb n db] w8 fun e w' => (∃ lp lc, e = .returned (.tuple #[.slice lp (meetT ⟨cn, ck, L⟩ oa ob).length lc, .nilIface])) ∧ Below w8.heap.size w8 w') := hme.mono fun e w' hp => by
        obtain ⟨⟨ev, lp, lc, h1, _, h3⟩, h4⟩ := hp
        obtain rfl := h3.isNil
        exact ⟨⟨lp, lc, h1⟩, h4⟩
      clear hme hm1 hc8 hb8 HB7 HTA HTB H67 q0 q1 q2 HME HOC HMF2 HSAI HSBI hla hlb
      generalize (meetT ⟨cn, ck, L⟩ oa ob).length = nm at *
      have dn : decide (ck ≤ (nm : Int)) = true := decide_eq_true hm2
      have dm : decide ((n : Int) ≤ cn) = true := decide_eq_true hel.1
      go_wp2_with fail
      refine HMC.out.mono ?_
      rintro e w9 ⟨⟨lp, lc, rfl⟩, hb9⟩
      have HB9 : Hid (Below w1.heap.size w1 w9) := HB8.out.trans (hb9.mono HB8.out.size)
      have hx9 := HBX.out w9 HB9.out
      have q0 : w9.cell? ⟨w.heap.size, 0, none⟩ = some (.int .i64 cn) := by simp [World.cell?, hx9]
      have q1 : w9.cell? ⟨w.heap.size, 1, none⟩ = some (.int .i64 ck) := by simp [World.cell?, hx9]
      clear hb9 hx9 HMC HB8
      go_wp2
      go_ret
      exact ⟨rfl, HLO.out w9 HB9.out⟩
end Go.Proofs.YtgjehnahkbddgaaDoor
