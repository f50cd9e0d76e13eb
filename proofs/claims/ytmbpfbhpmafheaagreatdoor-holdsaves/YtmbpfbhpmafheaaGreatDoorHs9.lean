/- Texts laid together. -/
import Derived.Test.YtmbpfbhpmafheaaGreatDoorHs8
import Derived.Lib.ConvBytes
namespace Go.Proofs.YtmbpfbhpmafheaaGreatDoor
open Go.RowKit
theorem verF_le (r : ByteArray) (f : Bool) : (verF r f).1.1.size ≤ r.size ∧ (verF r f).1.2.text.size ≤ r.size ∧ (verF r f).2.1.size ≤ r.size := by
  unfold verF
  simp only []
  have h1 := textF_le r f
  have h2 := numF_le (textF r f).2.1 (textF r f).2.2
  generalize numF (textF r f).2.1 (textF r f).2.2 = a at *
  have h3 := numF_le a.2.1 a.2.2
  generalize numF a.2.1 a.2.2 = b at *
  have h4 := numF_le b.2.1 b.2.2
  generalize numF b.2.1 b.2.2 = c at *
  have h5 := numF_le c.2.1 c.2.2
  generalize numF c.2.1 c.2.2 = d at *
  have h6 := textF_le d.2.1 d.2.2
  generalize textF d.2.1 d.2.2 = t at *
  exact ⟨h1.1, by omega, by omega⟩
theorem HdOf.shut {w : World} {h : Nat} {S : Nat → Prop} {L : List Kep} {s : Bool} (hd : HdOf w h S L s) (b : Bool) : HdOf (w.setCell ⟨h, 1, none⟩ (.bool b)) h S L b := by
  obtain ⟨m, D, row, blk, hd⟩ := hd
  have hblk : ∀ k, k ≠ h → (w.setCell ⟨h, 1, none⟩ (.bool b)).heap[k]? = w.heap[k]? := fun k hk => Deep.blk_setCell_other _ _ _ _ hk
  refine ⟨m, D, row, blk, hd.sorted, hd.few, hd.fits, fun k hk => by simpa using hd.inS k hk, hd.self, ?_, World.cell?_setCell_same _ _ _ hd.shut, by rw [World.frozen?_setCell]; exact hd.free0, by rw [World.frozen?_setCell]; exact hd.free1, hd.nothing, fun b hm => ?_, fun x => (hd.own x).same (fun k hk => hblk k ?_), hd.nilrow, hd.inB, hd.apart⟩
  · rw [World.cell?_setCell_other _ _ _ _ (fun e => by have h2 : (1 : Nat) = 0 := congrArg Addr.off e; omega)]
    exact hd.ptr
  · obtain ⟨h1, h2, ⟨n, h3⟩, h4⟩ := hd.mapS b hm
    exact ⟨h1, h2, ⟨n, h3.same (hblk b h2)⟩, h4⟩
  · obtain ⟨_, h2, h3⟩ := hd.rowS hk
    rw [h3]
    exact (hd.inB x h2).2.2.1
theorem HdOf.good {w : World} {h : Nat} {S : Nat → Prop} {L : List Kep} {s : Bool} (hd : HdOf w h S L s) : GoodL L := by
  obtain ⟨_, _, _, _, hd⟩ := hd
  exact ⟨hd.sorted, hd.few, hd.fits⟩
/-- How much is left to read. -/
def restN (B : Nat) (W : World) : Nat := match W.cell? ⟨B, 0, none⟩ with
  | some (.string s) => s.size
  | _ => 0
theorem RdAt.rest {W : World} {B : Nat} {r : ByteArray} {f : Bool} (h : RdAt W B r f) : restN B W = r.size := by
  unfold restN
  rw [h.cells.1]
/-- While it is read: the reader at block B, the hold at block hh, behind it. -/
structure RlSt (w : World) (B hh : Nat) (W : World) (r : ByteArray) (f : Bool) (M : List Kep) : Prop where
  at_ : RdAt W B r f
  low : Below B w W
  hold : ∃ S, HdOf W hh S M false ∧ ∀ k, S k → B < k
theorem RlSt.rd {w W W' : World} {B hh : Nat} {r r' : ByteArray} {f f' : Bool} {M : List Kep} (h : RlSt w B hh W r f M) (hs : RdSt W W' B r' f') : RlSt w B hh W' r' f' M := by
  obtain ⟨S, hd, hS⟩ := h.hold
  have hlt : ∀ k, S k → k < W.heap.size := by
    obtain ⟨_, _, _, _, hd⟩ := hd
    exact hd.inS
  refine ⟨hs.at_, hs.low h.low ?_ (Nat.le_refl _), S, hd.keep hs.grown.size (fun k hk => hs.grown.block k (hlt k hk) (fun e => by injection e with e; have := hS k hk; omega)), hS⟩
  exact Nat.le_of_lt (Array.getElem?_eq_some_iff.1 h.at_).1
theorem RlSt.upd {w W W' : World} {B hh : Nat} {r : ByteArray} {f : Bool} {M M' : List Kep} {S S' : Nat → Prop} (h : RlSt w B hh W r f M) (hS : ∀ k, S k → B < k) (hu : Upd S S' W W') (hd : HdOf W' hh S' M' false) : RlSt w B hh W' r f M' := by
  have hlt : B < W.heap.size := (Array.getElem?_eq_some_iff.1 h.at_).1
  refine ⟨(hu.block B hlt (fun hk => by have := hS B hk; omega)).trans h.at_, h.low.trans ⟨hu.os, hu.tape, hu.output, hu.size, fun k hk => hu.block k (by omega) (fun hk' => by have := hS k hk'; omega)⟩, S', hd, fun k hk => ?_⟩
  rcases hu.new k hk with h1 | h1
  · exact hS k h1
  · omega
/-- Where it has gone wrong. -/
def Bad (r : ByteArray) (M : List Kep) : Prop := (verF r false).2.2 = true ∨ (putR M false (verF r false).1.1 (verF r false).1.2).1 ≠ 0
set_option maxRecDepth 10000 in
set_option maxHeartbeats 4000000 in
theorem read_gen {ad : Nat → Addr} (x : ByteArray) (I : ByteArray → List Kep → Prop) {w0 w : World} (hX : LibX w0) (hw0 : Below w0.heap.size w0 w) (hE : ∀ W, Below w0.heap.size w0 W → HErrs W ad) (hx : x.size ≤ 1000000) (hI0 : I (numF x false).2.1 [])
    (hI : ∀ r M, GoodL M → I r M → r.size ≠ 0 → (verF r false).2.2 = false → (putR M false (verF r false).1.1 (verF r false).1.2).1 = 0 → I (verF r false).2.1 (putR M false (verF r false).1.1 (verF r false).1.2).2) :
    Calls Tryz.prog 21 #[.string x] w fun e w' => ((e = .returned (.tuple #[.pointer none, .bool false]) ∧ ∃ r M, GoodL M ∧ I r M ∧ r.size ≠ 0 ∧ Bad r M) ∨ ∃ h S M, e = .returned (.tuple #[.pointer (some ⟨h, 0, none⟩), .bool (!(numF x false).2.2)]) ∧ HdOf w' h S M (decide ((numF x false).1 = 1)) ∧ (∃ r, r.size = 0 ∧ I r M) ∧ ∀ k, S k → w.heap.size ≤ k) ∧ Below w.heap.size w w' := by
  obtain ⟨w1, hw1⟩ : ∃ w1, w1 = w.alloc (.cells #[.string x, .bool false] 87) := ⟨_, rfl⟩
  have HW1 : Hid (w1 = w.alloc (.cells #[.string x, .bool false] 87)) := hw1
  have hat1 : RdAt w1 w.heap.size x false := by rw [hw1]; exact heap_alloc_new _ _
  have hb1 : Below w.heap.size w w1 := by rw [hw1]; exact (Below.refl _ _).alloc (Nat.le_refl _) _
  have hnl := numF_le x false
  have hni := numF_i64 x false
  have hnf : (numF x false).2.2 = true → (numF x false).2.1.size = 0 := fun h => by
    unfold numF at h ⊢
    split
    · rename_i n hn
      rw [hn] at h
      simp only [] at h
      split at h
      · cases h
      · rename_i hc
        rw [if_neg hc]
        rfl
    · rfl
  have HN : Hid (Calls Tryz.prog 45 #[.pointer (some ⟨w.heap.size, 0, none⟩)] w1 fun e w' => e = .returned (.int .i64 (numF x false).1) ∧ RdSt w1 w' w.heap.size (numF x false).2.1 (numF x false).2.2) := rnum_any w.heap.size x false w1 (hX.below (hw0.trans (hb1.mono hw0.size))) hat1 hx
  have HV : Hid (∀ W r, RdAt W w.heap.size r false → Below w.heap.size w W → r.size ≤ 1000000 → Calls Tryz.prog 46 #[.pointer (some ⟨w.heap.size, 0, none⟩)] W fun e w' => e = .returned (.tuple #[.string (verF r false).1.1, verA (verF r false).1.2]) ∧ RdSt W w' w.heap.size (verF r false).2.1 (verF r false).2.2) := fun W r hW hb hr => rver_any w.heap.size r false hX (hw0.trans (hb.mono hw0.size)) hW hw0.size hr
  have HP : Hid (∀ W h S M (key : ByteArray) (v : Ver), HdOf W h S M false → Below w.heap.size w W → key.size ≤ maxLen → v.text.size ≤ maxLen → Calls Tryz.prog 16 #[.pointer (some ⟨h, 0, none⟩), .string key, verA v] W fun e w' => (∃ ev, e = .returned ev ∧ BareIs ad ev (putR M false key v).1) ∧ ∃ S', HdOf w' h S' (putR M false key v).2 false ∧ Upd S S' W w') := fun W h S M key v hd hb hk ht => put_any hd key v hk ht (hE W (hw0.trans (hb.mono hw0.size)))
  have HI : Hid (∀ r M, GoodL M → I r M → r.size ≠ 0 → (verF r false).2.2 = false → (putR M false (verF r false).1.1 (verF r false).1.2).1 = 0 → I (verF r false).2.1 (putR M false (verF r false).1.1 (verF r false).1.2).2) := hI
  generalize numF x false = q at *
  obtain ⟨n, r0, f0⟩ := q
  simp only [] at *
  have HI0 : Hid (I r0 [] ∧ r0.size ≤ 1000000 ∧ (f0 = true → r0.size = 0)) := ⟨hI0, by omega, hnf⟩
  have HB1 : Hid (Below w.heap.size w w1) := hb1
  have hsz1 : w.heap.size ≤ w1.heap.size := hb1.size
  clear hw1 hat1 hb1 hI0 hI hE hX hw0 hnl hnf hx
  go_enter Tryz.func21, Tryz.ntmps21
  go_wp2_with fail
  rw [← HW1.out]
  refine HN.out.mono ?_
  rintro e w2 ⟨rfl, hS2⟩
  have hlow2 : Below w.heap.size w w2 := hS2.low HB1.out hsz1 (Nat.le_refl _)
  obtain ⟨w3, hw3⟩ : ∃ w3, w3 = w2.alloc (.cells #[.map none, .bool false] 39) := ⟨_, rfl⟩
  have HW3 : Hid (w3 = w2.alloc (.cells #[.map none, .bool false] 39)) := hw3
  have hb3 : Below w2.heap.size w2 w3 := by rw [hw3]; exact (Below.refl _ _).alloc (Nat.le_refl _) _
  have hst3 : RlSt w w.heap.size w2.heap.size w3 r0 f0 [] := ⟨(RdSt.below hS2.at_ hb3).at_, hlow2.trans (hb3.mono hlow2.size), _, (by rw [hw3]; exact hd_zero w2), fun k hk => by rw [hk]; exact (Array.getElem?_eq_some_iff.1 hS2.at_).1⟩
  have HST3 : Hid (RlSt w w.heap.size w2.heap.size w3 r0 f0 []) := hst3
  clear HN HW1 HB1 hsz1 hS2 hlow2 hw3 hb3 hst3
  generalize hhh : w2.heap.size = hh at *
  go_wp2
  rw [show w2.alloc (.cells #[.map none, .bool false] 39) = w3 from HW3.out.symm]
  clear HW3 hhh
  go_loopw [] (fun wr => ∃ r M, RlSt w w.heap.size hh wr r f0 M ∧ I r M ∧ r.size ≤ 1000000 ∧ (f0 = true → r.size = 0)) (fun wr => restN w.heap.size wr)
  case atStart => exact ⟨r0, [], HST3.out, HI0.out⟩
  case round =>
    obtain ⟨r, M, hst, hIr, hrl, hrf⟩ := hrel
    obtain ⟨w4, rfl⟩ : ∃ w4, w4 = wr := ⟨_, rfl⟩
    have HST4 : Hid (RlSt w w.heap.size hh w4 r f0 M) := hst
    obtain ⟨q0, q1, g0, g1⟩ := hst.at_.cells
    have HIR : Hid (I r M) := hIr
    clear hst HST3 HI0 hIr
    by_cases hz : r.size = 0
    · obtain rfl : r = ⟨#[]⟩ := ByteArray.ext (Array.eq_empty_of_size_eq_zero hz)
      obtain ⟨S, hd, hS⟩ := HST4.out.hold
      have hds := hd.shut (n == 1)
      obtain ⟨m, D, row, blk, hda⟩ := hd
      have s1 := hda.shut
      have s2 := hda.free1
      have hlt := hS hh hda.self
      have HDS : Hid (HdOf (w4.setCell ⟨hh, 1, none⟩ (.bool (n == 1))) hh S M (n == 1)) := hds
      have HLOW : Hid (Below w.heap.size w (w4.setCell ⟨hh, 1, none⟩ (.bool (n == 1)))) := HST4.out.low.setCell (p := ⟨hh, 1, none⟩) (Nat.le_of_lt hlt) _
      have q3 : (w4.setCell ⟨hh, 1, none⟩ (.bool (n == 1))).cell? ⟨w.heap.size, 1, none⟩ = some (.bool f0) := by
        rw [World.cell?_setCell_other _ _ _ _ (fun e => by have h1 : hh = w.heap.size := congrArg Addr.block e; omega)]
        exact q1
      have HS : Hid (∀ k, S k → w.heap.size < k) := hS
      have HBQ : Hid ((n == 1) = decide (n = 1)) := by show _ = _; by_cases h1 : n = 1 <;> simp [h1]
      clear hda hds hS HP HI HV HST4 hrf hz hni
      go_wp2
      go_quiet (fail)
      go_wp2
      go_ret2
      refine ⟨Or.inr ⟨hh, S, M, rfl, ?_, ⟨⟨#[]⟩, rfl, HIR.out⟩, fun k hk => Nat.le_of_lt (HS.out k hk)⟩, below_drewN HLOW.out _⟩
      rw [← HBQ.out]
      exact HDS.out.below (below_drewN (Below.refl _ _) _)
    · obtain rfl : f0 = false := by cases f0 with
        | false => rfl
        | true => exact absurd (hrf rfl) hz
      have hne : ¬ r = ⟨#[]⟩ := fun e => hz (by rw [e]; rfl)
      have t0 : (⟨#[]⟩ : ByteArray).toList = [] := by rw [ByteArray.toList_eq]
      have t1 : ¬ r.toList = [] := fun e => hne (by rw [← t0] at e; rw [ByteArray.toList_eq, ByteArray.toList_eq] at e; exact ByteArray.ext (Array.toList_inj.1 e))
      have t2 : (r.toList == []) = false := by simpa using t1
      have hne1 : (r == (⟨#[]⟩ : ByteArray)) = false := by rw [beq_toListBytes, t0]; exact t2
      have HZ : Hid (r.size ≠ 0) := hz
      have HVC : Hid (Calls Tryz.prog 46 #[.pointer (some ⟨w.heap.size, 0, none⟩)] w4 fun e w' => e = .returned (.tuple #[.string (verF r false).1.1, verA (verF r false).1.2]) ∧ RdSt w4 w' w.heap.size (verF r false).2.1 (verF r false).2.2) := HV.out w4 r HST4.out.at_ HST4.out.low hrl
      have hvl := verF_le r false
      have HVS : Hid ((verF r false).2.2 = false → (verF r false).2.1.size < r.size) := fun h => verF_shorter h
      have HIN : Hid (GoodL M → (verF r false).2.2 = false → (putR M false (verF r false).1.1 (verF r false).1.2).1 = 0 → I (verF r false).2.1 (putR M false (verF r false).1.1 (verF r false).1.2).2) := fun h1 h2 h3 => HI.out r M h1 HIR.out hz h2 h3
      have HBD : Hid (Bad r M = ((verF r false).2.2 = true ∨ (putR M false (verF r false).1.1 (verF r false).1.2).1 ≠ 0)) := rfl
      generalize verF r false = q at *
      obtain ⟨⟨key, ⟨vn, vw, vs, va, vt⟩⟩, r', f'⟩ := q
      simp only [] at *
      unfold verA at HVC
      simp only [] at HVC
      clear HV HI hz hrf
      go_wp2_with fail
      refine HVC.out.mono ?_
      rintro e w5 ⟨rfl, hS5⟩
      have hst5 := HST4.out.rd hS5
      obtain ⟨w6, hw6⟩ : ∃ w6, w6 = w5.alloc (.cells #[.int .i64 vn, .int .i64 vw, .int .i64 vs, .int .i64 va, .string vt] 49) := ⟨_, rfl⟩
      have HW6 : Hid (w6 = w5.alloc (.cells #[.int .i64 vn, .int .i64 vw, .int .i64 vs, .int .i64 va, .string vt] 49)) := hw6
      have hb6 : Below w5.heap.size w5 w6 := by rw [hw6]; exact (Below.refl _ _).alloc (Nat.le_refl _) _
      have hst6 := hst5.rd (RdSt.below hst5.at_ hb6)
      have HST6 : Hid (RlSt w w.heap.size hh w6 r' f' M) := hst6
      obtain ⟨k0, k1, _, _⟩ := hst5.at_.cells
      have hlt5 : w.heap.size < w5.heap.size := (Array.getElem?_eq_some_iff.1 hst5.at_).1
      have HR4 : Hid (restN w.heap.size w4 = r.size) := HST4.out.at_.rest
      have HGM : Hid (GoodL M) := by obtain ⟨_, hd, _⟩ := hst6.hold; exact hd.good
      clear HVC hS5 hst5 hw6 hb6 hst6 HST4 q0 q1 g0 g1
      cases f' with
      | true =>
        go_wp2_with fail
        rw [show w5.alloc (.cells #[.int .i64 vn, .int .i64 vw, .int .i64 vs, .int .i64 va, .string vt] 49) = w6 from HW6.out.symm]
        go_ret2
        exact ⟨Or.inl ⟨rfl, r, M, HGM.out, HIR.out, HZ.out, by rw [HBD.out]; exact Or.inl trivial⟩, HST6.out.low⟩
      | false =>
        obtain ⟨S, hd6, hS6⟩ := HST6.out.hold
        have hpc := HP.out w6 hh S M key ⟨vn, vw, vs, va, vt⟩ hd6 HST6.out.low (by unfold maxLen; omega) (by unfold maxLen; show vt.size ≤ _; omega)
        unfold verA at hpc
        have HPC : Hid (Calls Tryz.prog 16 #[.pointer (some ⟨hh, 0, none⟩), .string key, .agg #[.int .i64 vn, .int .i64 vw, .int .i64 vs, .int .i64 va, .string vt]] w6 fun e w' => (∃ ev, e = .returned ev ∧ BareIs ad ev (putR M false key ⟨vn, vw, vs, va, vt⟩).1) ∧ ∃ S', HdOf w' hh S' (putR M false key ⟨vn, vw, vs, va, vt⟩).2 false ∧ Upd S S' w6 w') := hpc
        have HS6 : Hid (∀ k, S k → w.heap.size < k) := hS6
        have hrl' : r'.size ≤ 1000000 := by omega
        clear hpc hd6 hS6 HP
        go_wp2_with fail
        rw [show w5.alloc (.cells #[.int .i64 vn, .int .i64 vw, .int .i64 vs, .int .i64 va, .string vt] 49) = w6 from HW6.out.symm]
        refine HPC.out.mono ?_
        rintro e w7 ⟨⟨ev, rfl, hev⟩, S', hd7, hu⟩
        have HST7 : Hid (RlSt w w.heap.size hh w7 r' false (putR M false key ⟨vn, vw, vs, va, vt⟩).2) := HST6.out.upd HS6.out hu hd7
        clear HPC HW6 hd7 hu HST6 k0 k1
        rcases hev with ⟨rfl, hc⟩ | ⟨i, hi, rfl, hc⟩
        · have HIX : Hid (I r' (putR M false key ⟨vn, vw, vs, va, vt⟩).2) := HIN.out HGM.out trivial hc
          go_wp2
          go_roundw
          case rel => exact ⟨r', _, HST7.out, HIX.out, hrl', fun h => by cases h⟩
          case measure =>
            have e1 := HST7.out.at_.rest
            have e2 := HR4.out
            have e3 := HVS.out trivial
            show restN w.heap.size w7 < restN w.heap.size w4
            omega
        · go_wp2
          go_ret2
          exact ⟨Or.inl ⟨rfl, r, M, HGM.out, HIR.out, HZ.out, by rw [HBD.out]; exact Or.inr (by rw [hc]; omega)⟩, HST7.out.low⟩
section
variable {h : Nat} {S : Nat → Prop} {L : List Kep} {m : Option Nat} {D : DataW Value} {row : ByteArray → Value} {blk : ByteArray → Nat}
/-- While it is written: the builder at block B, behind it the closure's own cell. -/
structure WSt (w : World) (B : Nat) (W : World) (l : List UInt8) : Prop where
  bld : Bld W B B l
  low : Below B w W
  box : W.heap[B + 1]? = some (.cells #[numV B] 96 (0, 0))
  size : B + 2 ≤ W.heap.size
theorem Wrote.keep {w w' : World} {B b : Nat} {l : List UInt8} (hw : Wrote w w' B b l) {k : Nat} {cs : Array Value} {t : TypeId} (hk : w.heap[k]? = some (.cells cs t (0, 0))) (hkb : k ≠ b) (ht : t ≠ 5) : w'.heap[k]? = some (.cells cs t (0, 0)) :=
  hw.rest k _ hk (fun e => hkb (Option.some.inj e)) (fun c fz e => by injection e with _ e2 _; exact ht e2)
theorem WSt.wrote {w W W' : World} {B : Nat} {l l' : List UInt8} (h : WSt w B W l) (hw : Wrote W W' B B l') : WSt w B W' l' := ⟨hw.bld, h.low.trans hw.low, hw.keep h.box (by omega) (by decide), Nat.le_trans h.size hw.low.size⟩
theorem WSt.below {w W W' : World} {B : Nat} {l : List UInt8} (h : WSt w B W l) (hb : Below W.heap.size W W') : WSt w B W' l := h.wrote (wrote_below h.bld (by have := h.size; omega) hb)
theorem WSt.cell {w W : World} {B : Nat} {l : List UInt8} (h : WSt w B W l) : W.cell? ⟨B + 1, 0, none⟩ = some (numV B) := by simp [World.cell?, h.box]
theorem OwnT.wrote {w w' : World} {B b Bk : Nat} {l : List UInt8} {v : Value} {K : List ByteArray} (h : OwnT w Bk v K) (hw : Wrote w w' B b l) (hb : b < Bk) : OwnT w' Bk v K := by
  obtain ⟨h1, h2⟩ := h
  refine ⟨h1, ?_⟩
  rcases h2 with h2 | ⟨g, cap, cur, hv, hbg, hg, hrest⟩
  · exact Or.inl h2
  · exact Or.inr ⟨g, cap, cur, hv, hbg, hw.keep hg (by omega) (by decide), hrest⟩
theorem ver_block {W : World} {vb : Nat} {a b c d : Int} {t : ByteArray} (h : W.heap[vb]? = some (.cells #[.int .i64 a, .int .i64 b, .int .i64 c, .int .i64 d, .string t] 49 (0, 0))) : W.cell? ⟨vb, 0, none⟩ = some (.int .i64 a) ∧ W.cell? ⟨vb, 1, none⟩ = some (.int .i64 b) ∧ W.cell? ⟨vb, 2, none⟩ = some (.int .i64 c) ∧ W.cell? ⟨vb, 3, none⟩ = some (.int .i64 d) ∧ W.cell? ⟨vb, 4, none⟩ = some (.string t) := ⟨by simp [World.cell?, h], by simp [World.cell?, h], by simp [World.cell?, h], by simp [World.cell?, h], by simp [World.cell?, h]⟩
/-- The closure's own cell is written. -/
theorem run_box (w : World) : Sem.run Tryz.prog (store ⟨w.heap.size + 1, 0, none⟩ (.func (.func 47) #[] #[.pointer (some ⟨w.heap.size, 0, none⟩)])) ((w.alloc (.cells #[.pointer none, .slice none 0 0] 92)).alloc (.cells #[.nilFunc] 96)) = .ok () ((w.alloc (.cells #[.pointer none, .slice none 0 0] 92)).alloc (.cells #[.func (.func 47) #[] #[.pointer (some ⟨w.heap.size, 0, none⟩)]] 96)) := by
  have e2 : w.heap.size + 1 = (w.alloc (.cells #[.pointer none, .slice none 0 0] 92)).heap.size := by simp
  have hn := heap_alloc_new (w.alloc (.cells #[.pointer none, .slice none 0 0] 92)) (.cells #[.nilFunc] 96)
  rw [e2, run_store _ _ _ _ _ rfl]
  have hc : ((w.alloc (.cells #[.pointer none, .slice none 0 0] 92)).alloc (.cells #[.nilFunc] 96)).cell? ⟨(w.alloc (.cells #[.pointer none, .slice none 0 0] 92)).heap.size, 0, none⟩ = some .nilFunc := by rw [World.cell?_alloc_at _ _ _ _ rfl]; rfl
  have hf : ((w.alloc (.cells #[.pointer none, .slice none 0 0] 92)).alloc (.cells #[.nilFunc] 96)).frozen? ⟨(w.alloc (.cells #[.pointer none, .slice none 0 0] 92)).heap.size, 0, none⟩ = false := by unfold World.frozen?; rw [hn]; rfl
  rw [hc]
  simp only [hf, Bool.false_eq_true, if_false]
  rw [World.setCell_alloc_new]
  rfl
set_option maxRecDepth 10000 in
set_option maxHeartbeats 4000000 in
theorem written_open {w0 w : World} (hX : LibX w0) (hw0 : Below w0.heap.size w0 w) (hd : HdAt w h S L false m D row blk) :
    Calls Tryz.prog 22 #[.pointer (some ⟨h, 0, none⟩)] w fun e w' => e = .returned (.string (ofL (wrote L false))) ∧ Below w.heap.size w w' := by
  have hG : GoodL L := ⟨hd.sorted, hd.few, hd.fits⟩
  obtain ⟨B, hB⟩ : ∃ B, B = w.heap.size := ⟨_, rfl⟩
  obtain ⟨w2, hw2⟩ : ∃ w2, w2 = (w.alloc (.cells #[.pointer none, .slice none 0 0] 92)).alloc (.cells #[numV w.heap.size] 96) := ⟨_, rfl⟩
  have HW2 : Hid (w2 = (w.alloc (.cells #[.pointer none, .slice none 0 0] 92)).alloc (.cells #[numV w.heap.size] 96)) := hw2
  have hb2 : Below w.heap.size w w2 := by rw [hw2]; exact ((Below.refl _ _).alloc (Nat.le_refl _) _).alloc (by simp) _
  have hst2 : WSt w w.heap.size w2 [] := by
    rw [hw2]
    have e1 : (w.alloc (.cells #[.pointer none, .slice none 0 0] 92)).heap[w.heap.size]? = some (.cells #[.pointer none, .slice none 0 0] 92 (0, 0)) := heap_alloc_new w _
    have e2 : (w.alloc (.cells #[.pointer none, .slice none 0 0] 92)).heap.size = w.heap.size + 1 := by simp
    refine ⟨Or.inl ⟨Nat.le_refl _, .slice none 0 0, ?_, World.ownsRowF_nil _ _ _ _, by simp [Value.ownBlock]⟩, ((Below.refl _ _).alloc (Nat.le_refl _) _).alloc (by simp) _, ?_, by simp⟩
    · rw [heap_alloc_old _ _ (by rw [e2]; omega)]
      exact e1
    · rw [← e2]
      exact heap_alloc_new _ _
  have HLX : Hid (∀ W l, WSt w w.heap.size W l → LibX W) := fun W l hW => hX.below (hw0.trans (hW.low.mono hw0.size))
  have HD : Hid (∀ W l, WSt w w.heap.size W l → HdAt W h S L false m D row blk) := fun W l hW => hd.below hW.low
  have HSE : Hid (Calls Tryz.prog 12 #[.pointer (some ⟨h, 0, none⟩)] w2 fun e w' => e = .returned (.bool false) ∧ w' = w2) := sealed_any (hd.below hb2)
  have HST : Hid (WSt w w.heap.size w2 []) := hst2
  have HNM : Hid (∀ W l n, WSt w w.heap.size W l → 0 ≤ n → n ≤ 1099511627776 → l.length ≤ 900000 → Calls Tryz.prog 47 #[.int .i64 n, .pointer (some ⟨w.heap.size, 0, none⟩)] W fun e w' => e = .returned (.tuple #[]) ∧ Wrote W w' w.heap.size w.heap.size (l ++ wrN n)) := fun W l n hW h0 h1 hl => num_any _ _ l n W (HLX.out W l hW) hW.bld h0 h1 hl (by have := hW.size; omega)
  have HTX : Hid (∀ W l (s : ByteArray), WSt w w.heap.size W l → s.size ≤ 1000 → l.length ≤ 800000 → Calls Tryz.prog 51 #[.string s, .pointer (some ⟨w.heap.size + 1, 0, none⟩), .pointer (some ⟨w.heap.size, 0, none⟩)] W fun e w' => e = .returned (.tuple #[]) ∧ Wrote W w' w.heap.size w.heap.size (l ++ wrT s)) := fun W l s hW hs hl => text_any _ _ _ l s W (HLX.out W l hW) hW.bld hW.cell hs hl (by have := hW.size; omega)
  have HKY : Hid (∀ W l, WSt w w.heap.size W l → Calls Tryz.prog 34 #[.pointer (some ⟨h, 0, none⟩)] W fun e w' => (∃ v, e = .returned v ∧ OwnT w' (W.heap.size + 1) v (keysL L)) ∧ Below W.heap.size W w') := fun W l hW => keysO_any (HD.out W l hW)
  have HG : Hid (GoodL L) := hG
  have HKL : Hid ((keysL L).length ≤ 60) := Nat.le_trans (keysL_le L) hd.few
  have hq2 := hst2.cell
  have hr2 := HNM.out w2 [] 0 hst2 (by decide) (by decide) (by simp)
  rw [List.nil_append] at hr2
  have HN0 : Hid (Calls Tryz.prog 47 #[.int .i64 0, .pointer (some ⟨w.heap.size, 0, none⟩)] w2 fun e w' => e = .returned (.tuple #[]) ∧ Wrote w2 w' w.heap.size w.heap.size (wrN 0)) := hr2
  unfold numV at hq2
  clear hd hw2 hb2 hst2 hX hw0 hG hr2 hB B
  have hrs := run_box w
  go_enter Tryz.func22, Tryz.ntmps22
  go_wp2_with fail
  rw [show (w.alloc (.cells #[.pointer none, .slice none 0 0] 92)).alloc (.cells #[.func (.func 47) #[] #[.pointer (some ⟨w.heap.size, 0, none⟩)]] 96) = w2 from HW2.out.symm]
  refine HSE.out.mono ?_
  rintro e w1 ⟨rfl, hw1⟩
  rw [hw1]
  clear hw1 w1 HSE HW2 hrs
  go_wp2_with fail
  refine HN0.out.mono ?_
  rintro e w3 ⟨rfl, hW3⟩
  have hst3 := HST.out.wrote hW3
  have HST3 : Hid (WSt w w.heap.size w3 (wrN 0)) := hst3
  clear hW3 HN0 HST hst3 hq2
  go_wp2_with fail
  refine (HKY.out w3 _ HST3.out).mono ?_
  rintro e w4 ⟨⟨kv, rfl, hO4⟩, hb4⟩
  obtain ⟨Bk, hBk⟩ : ∃ Bk, Bk = w3.heap.size + 1 := ⟨_, rfl⟩
  rw [← hBk] at hO4
  have HBk : Hid (w.heap.size < Bk) := by show _ < _; have := HST3.out.size; omega
  have HST4 : Hid (WSt w w.heap.size w4 (wrN 0)) := HST3.out.below hb4
  have HO4 : Hid (OwnT w4 Bk kv (keysL L)) := hO4
  obtain ⟨kp, kc, hkv, _, _, _, _⟩ := hO4.form
  clear hb4 hO4 HKY HST3 hBk
  subst hkv
  have HEMP : Hid (wrN 0 = wrN 0 ++ wrL (byKey ((keysL L).take 0) L)) := by show _ = _; simp [byKey, wrL]
  have HEND : Hid (wrN 0 ++ wrL (byKey ((keysL L).take (keysL L).length) L) = wrote L false) := by show _ = _; rw [List.take_length, (keysOk L HG.out.sorted).all]; rfl
  have HSG : Hid (∀ W l, WSt w w.heap.size W l → Calls Tryz.prog 52 #[.pointer (some ⟨w.heap.size, 0, none⟩)] W fun e w' => e = .returned (.string (ofL l)) ∧ Below w.heap.size W w') := fun W l hW => (Tryz.Builder_String _ _ l W hW.bld (by have := hW.size; omega)).mono fun e w' hp => ⟨hp.1, hp.2.2.1⟩
  generalize hKK : keysL L = K at *
  go_wp2
  go_loopw [21] (fun x wr => ∃ i : Nat, i ≤ K.length ∧ x = .int .i64 i ∧ WSt w w.heap.size wr (wrN 0 ++ wrL (byKey (K.take i) L)) ∧ OwnT wr Bk (.slice kp K.length kc) K) (fun x _ => K.length - (intOf x).toNat)
  case atStart => exact ⟨0, Nat.zero_le _, rfl, by rw [← HEMP.out]; exact HST4.out, HO4.out⟩
  case round =>
    obtain ⟨i, hi, rfl, hst, hO⟩ := hrel
    obtain ⟨w5, rfl⟩ : ∃ w5, w5 = wr := ⟨_, rfl⟩
    have HST5 : Hid (WSt w w.heap.size w5 (wrN 0 ++ wrL (byKey (K.take i) L))) := hst
    have HO5 : Hid (OwnT w5 Bk (.slice kp K.length kc) K) := hO
    have hkl := HKL.out
    clear hst hO HST4 HO4 HEMP
    by_cases hil : i < K.length
    · obtain ⟨p', c', hv', hs', _, _, _⟩ := HO5.out.form
      obtain ⟨rfl, _, rfl⟩ := Value.slice.inj hv'
      have q0 : ∃ kb ko, kp = some ⟨kb, ko, none⟩ ∧ w5.cell? ⟨kb, ko + i, none⟩ = some (.string (txt K i)) := by
        rcases hs' with h0 | ⟨kb, ko, hp, _, hc⟩
        · rw [h0] at hil; exact absurd hil (Nat.not_lt_zero _)
        · exact ⟨kb, ko, hp, hc i hil⟩
      obtain ⟨kb, ko, rfl, q0⟩ := q0
      clear hv' hs'
      have hkm : txt K i ∈ keysL L := by rw [hKK]; exact List.mem_of_getElem? (by rw [List.getElem?_eq_getElem hil, txt_getElem K i hil])
      have hks : (txt K i).size ≤ 16 := keysL_size HG.out.sorted HG.out.fits hkm
      have HOF : Hid (Calls Tryz.prog 38 #[.pointer (some ⟨h, 0, none⟩), .string (txt K i)] w5 fun e w' => e = .returned (row (txt K i)) ∧ w' = w5) := of_any (HD.out w5 _ HST5.out) (txt K i) (by unfold maxLen; omega)
      obtain ⟨p, c, hrow, hrec, _, _, hpb⟩ := (HD.out w5 _ HST5.out).form (txt K i)
      have HROW : Hid (∀ W l, WSt w w.heap.size W l → Rec verE W p (getL L (txt K i))) := fun W l hW => by
        obtain ⟨p2, c2, hrow2, hrec2, _, _, _⟩ := (HD.out W l hW).form (txt K i)
        rw [hrow] at hrow2
        obtain ⟨rfl, _, _⟩ := Value.slice.inj hrow2
        exact hrec2
      rw [hrow] at HOF
      have hgl : (getL L (txt K i)).length ≤ 60 := Nat.le_trans (getL_le _ _) HG.out.few
      have HFT : Hid (∀ j, j < (getL L (txt K i)).length → verOk (verAt (getL L (txt K i)) j) = true) := fun j hj => getL_fits HG.out.fits hj
      have HU0 : Hid (byKey (K.take i) L = upTo L i 0) := by show _ = _; rw [upTo_zero, hKK]
      have HUN : Hid (upTo L i (getL L (txt K i)).length = byKey (K.take (i + 1)) L) := by show _ = _; rw [← hKK]; exact upTo_next (by rw [hKK]; exact hil)
      have HUS : Hid (∀ j, j < (getL L (txt K i)).length → upTo L i (j + 1) = upTo L i j ++ [(txt K i, verAt (getL L (txt K i)) j)]) := fun j hj => by
        have := upTo_succ (L := L) (i := i) (j := j) (by rw [hKK]; exact hj)
        rw [hKK] at this
        exact this
      have HUL : Hid (∀ j, (wrN 0 ++ wrL (upTo L i j)).length ≤ 130000) := fun j => upTo_len HG.out (by rw [hKK]; exact hil) false
      have HKS : Hid (txt K i ∈ keysL L) := hkm
      clear hrow hrec hpb hkm
      generalize hkey : txt K i = key at *
      generalize hlv : getL L key = lv at *
      go_wp2_with fail
      refine HOF.out.mono ?_
      rintro e w6 ⟨rfl, hw6⟩
      rw [hw6]
      clear hw6 w6 HOF q0
      go_wp2
      go_loopw [29] (fun x wr => ∃ j : Nat, j ≤ lv.length ∧ x = .int .i64 j ∧ WSt w w.heap.size wr (wrN 0 ++ wrL (upTo L i j)) ∧ OwnT wr Bk (.slice (some ⟨kb, ko, none⟩) K.length kc) K) (fun x _ => lv.length - (intOf x).toNat)
      case atStart => exact ⟨0, Nat.zero_le _, rfl, by rw [← HU0.out]; exact HST5.out, HO5.out⟩
      case round =>
        obtain ⟨j, hj, rfl, hst, hO⟩ := hrel
        obtain ⟨w7, rfl⟩ : ∃ w7, w7 = wr := ⟨_, rfl⟩
        have HST7 : Hid (WSt w w.heap.size w7 (wrN 0 ++ wrL (upTo L i j))) := hst
        have HO7 : Hid (OwnT w7 Bk (.slice (some ⟨kb, ko, none⟩) K.length kc) K) := hO
        clear hst hO HST5 HO5 HU0
        by_cases hjl : j < lv.length
        · obtain ⟨b, o, hpp, hblt, c0, c1, c2, c3, c4⟩ := ver_cells (HROW.out w7 _ HST7.out) hjl
          subst hpp
          have hok := HFT.out j hjl
          have hsu := HUS.out j hjl
          have hll := HUL.out j
          have hll2 := HUL.out (j + 1)
          rw [hsu, wrL_append, wrL_one] at hll2
          have HSU : Hid (wrN 0 ++ wrL (upTo L i (j + 1)) = (wrN 0 ++ wrL (upTo L i j)) ++ wrK (key, verAt lv j)) := by show _ = _; rw [hsu, wrL_append, wrL_one, List.append_assoc]
          generalize verAt lv j = x at *
          obtain ⟨xn, xw, xs, xa, xt⟩ := x
          have hok2 := hok
          unfold verOk tagB at hok2
          simp only [Bool.and_eq_true, decide_eq_true_eq] at hok2
          generalize hT : wrN 0 ++ wrL (upTo L i j) = T at *
          have HWK : Hid (T ++ wrK (key, ⟨xn, xw, xs, xa, xt⟩) = T ++ wrT key ++ wrN xn ++ wrN xw ++ wrN xs ++ wrN xa ++ wrT xt) := by show _ = _; simp [wrK, List.append_assoc]
          have hlk : (T ++ wrT key ++ wrN xn ++ wrN xw ++ wrN xs ++ wrN xa ++ wrT xt).length ≤ 130000 := by
            rw [← HWK.out, ← hT, ← List.append_assoc] at *
            exact hll2
          simp only [List.length_append] at hlk
          obtain ⟨w8, hw8⟩ : ∃ w8, w8 = w7.alloc (.cells #[.int .i64 xn, .int .i64 xw, .int .i64 xs, .int .i64 xa, .string xt] 49) := ⟨_, rfl⟩
          have HW8 : Hid (w8 = w7.alloc (.cells #[.int .i64 xn, .int .i64 xw, .int .i64 xs, .int .i64 xa, .string xt] 49)) := hw8
          have HV8 : Hid (w8.heap[w7.heap.size]? = some (.cells #[.int .i64 xn, .int .i64 xw, .int .i64 xs, .int .i64 xa, .string xt] 49 (0, 0))) := by rw [hw8]; exact heap_alloc_new _ _
          have hal : Below w7.heap.size w7 w8 := by rw [hw8]; exact (Below.refl _ w7).alloc (Nat.le_refl _) _
          have HST8 : Hid (WSt w w.heap.size w8 T) := HST7.out.below hal
          have HO8 : Hid (OwnT w8 Bk (.slice (some ⟨kb, ko, none⟩) K.length kc) K) := HO7.out.kept hal
          have hvb : w7.heap.size ≠ w.heap.size := by have := HST7.out.size; omega
          have HC8 : Hid (Calls Tryz.prog 51 #[.string key, .pointer (some ⟨w.heap.size + 1, 0, none⟩), .pointer (some ⟨w.heap.size, 0, none⟩)] w8 fun e w' => e = .returned (.tuple #[]) ∧ Wrote w8 w' w.heap.size w.heap.size (T ++ wrT key)) := HTX.out w8 T key HST8.out (by omega) (by omega)
          have HLK : Hid (T.length + (wrT key).length + (wrN xn).length + (wrN xw).length + (wrN xs).length + (wrN xa).length + (wrT xt).length ≤ 130000) := hlk
          have HOK : Hid (((0 ≤ xn ∧ xn ≤ 1099511627776) ∧ 0 ≤ xw ∧ xw ≤ 1099511627776) ∧ 0 ≤ xs ∧ xs ≤ 1000 ∧ 0 ≤ xa ∧ xa < 12 ∧ xt.size ≤ 1000) := by
            refine ⟨⟨⟨by omega, by omega⟩, by omega, by omega⟩, by omega, by omega, by omega, by omega, by omega⟩
          clear hw8 hal HST7 HO7 hlk hok hok2 hll hll2 hsu hT
          go_wp2_with fail
          rw [← HW8.out]
          clear HW8 c0 c1 c2 c3 c4
          refine HC8.out.mono ?_
          rintro e w9 ⟨rfl, hW9⟩
          have hst9 := HST8.out.wrote hW9
          have HST9 : Hid (WSt w w.heap.size w9 (T ++ wrT key)) := hst9
          have HV9 : Hid (w9.heap[w7.heap.size]? = some (.cells #[.int .i64 xn, .int .i64 xw, .int .i64 xs, .int .i64 xa, .string xt] 49 (0, 0))) := hW9.keep HV8.out hvb (by decide)
          have HO9 : Hid (OwnT w9 Bk (.slice (some ⟨kb, ko, none⟩) K.length kc) K) := HO8.out.wrote hW9 HBk.out
          have q9 := hst9.cell
          unfold numV at q9
          obtain ⟨r0, r1, r2, r3, r4⟩ := ver_block HV9.out
          have HC9 : Hid (Calls Tryz.prog 47 #[.int .i64 xn, .pointer (some ⟨w.heap.size, 0, none⟩)] w9 fun e w' => e = .returned (.tuple #[]) ∧ Wrote w9 w' w.heap.size w.heap.size (T ++ wrT key ++ wrN xn)) := HNM.out w9 _ xn hst9 (by have := HOK.out; omega) (by have := HOK.out; omega) (by have := HLK.out; simp only [List.length_append]; omega)
          clear hst9 hW9 HC8 HV8 HO8 HST8
          go_wp2_with fail
          clear q9 r0 r1 r2 r3 r4
          refine HC9.out.mono ?_
          rintro e w10 ⟨rfl, hW10⟩
          have hst10 := HST9.out.wrote hW10
          have HST10 : Hid (WSt w w.heap.size w10 (T ++ wrT key ++ wrN xn)) := hst10
          have HV10 : Hid (w10.heap[w7.heap.size]? = some (.cells #[.int .i64 xn, .int .i64 xw, .int .i64 xs, .int .i64 xa, .string xt] 49 (0, 0))) := hW10.keep HV9.out hvb (by decide)
          have HO10 : Hid (OwnT w10 Bk (.slice (some ⟨kb, ko, none⟩) K.length kc) K) := HO9.out.wrote hW10 HBk.out
          have q9 := hst10.cell
          unfold numV at q9
          obtain ⟨r0, r1, r2, r3, r4⟩ := ver_block HV10.out
          have HC10 : Hid (Calls Tryz.prog 47 #[.int .i64 xw, .pointer (some ⟨w.heap.size, 0, none⟩)] w10 fun e w' => e = .returned (.tuple #[]) ∧ Wrote w10 w' w.heap.size w.heap.size (T ++ wrT key ++ wrN xn ++ wrN xw)) := HNM.out w10 _ xw hst10 (by have := HOK.out; omega) (by have := HOK.out; omega) (by have := HLK.out; simp only [List.length_append]; omega)
          clear hst10 hW10 HC9 HV9 HO9 HST9
          go_wp2_with fail
          clear q9 r0 r1 r2 r3 r4
          refine HC10.out.mono ?_
          rintro e w11 ⟨rfl, hW11⟩
          have hst11 := HST10.out.wrote hW11
          have HST11 : Hid (WSt w w.heap.size w11 (T ++ wrT key ++ wrN xn ++ wrN xw)) := hst11
          have HV11 : Hid (w11.heap[w7.heap.size]? = some (.cells #[.int .i64 xn, .int .i64 xw, .int .i64 xs, .int .i64 xa, .string xt] 49 (0, 0))) := hW11.keep HV10.out hvb (by decide)
          have HO11 : Hid (OwnT w11 Bk (.slice (some ⟨kb, ko, none⟩) K.length kc) K) := HO10.out.wrote hW11 HBk.out
          have q9 := hst11.cell
          unfold numV at q9
          obtain ⟨r0, r1, r2, r3, r4⟩ := ver_block HV11.out
          have HC11 : Hid (Calls Tryz.prog 47 #[.int .i64 xs, .pointer (some ⟨w.heap.size, 0, none⟩)] w11 fun e w' => e = .returned (.tuple #[]) ∧ Wrote w11 w' w.heap.size w.heap.size (T ++ wrT key ++ wrN xn ++ wrN xw ++ wrN xs)) := HNM.out w11 _ xs hst11 (by have := HOK.out; omega) (by have := HOK.out; omega) (by have := HLK.out; simp only [List.length_append]; omega)
          clear hst11 hW11 HC10 HV10 HO10 HST10
          go_wp2_with fail
          clear q9 r0 r1 r2 r3 r4
          refine HC11.out.mono ?_
          rintro e w12 ⟨rfl, hW12⟩
          have hst12 := HST11.out.wrote hW12
          have HST12 : Hid (WSt w w.heap.size w12 (T ++ wrT key ++ wrN xn ++ wrN xw ++ wrN xs)) := hst12
          have HV12 : Hid (w12.heap[w7.heap.size]? = some (.cells #[.int .i64 xn, .int .i64 xw, .int .i64 xs, .int .i64 xa, .string xt] 49 (0, 0))) := hW12.keep HV11.out hvb (by decide)
          have HO12 : Hid (OwnT w12 Bk (.slice (some ⟨kb, ko, none⟩) K.length kc) K) := HO11.out.wrote hW12 HBk.out
          have q9 := hst12.cell
          unfold numV at q9
          obtain ⟨r0, r1, r2, r3, r4⟩ := ver_block HV12.out
          have HC12 : Hid (Calls Tryz.prog 47 #[.int .i64 xa, .pointer (some ⟨w.heap.size, 0, none⟩)] w12 fun e w' => e = .returned (.tuple #[]) ∧ Wrote w12 w' w.heap.size w.heap.size (T ++ wrT key ++ wrN xn ++ wrN xw ++ wrN xs ++ wrN xa)) := HNM.out w12 _ xa hst12 (by have := HOK.out; omega) (by have := HOK.out; omega) (by have := HLK.out; simp only [List.length_append]; omega)
          clear hst12 hW12 HC11 HV11 HO11 HST11
          go_wp2_with fail
          clear q9 r0 r1 r2 r3 r4
          refine HC12.out.mono ?_
          rintro e w13 ⟨rfl, hW13⟩
          have hst13 := HST12.out.wrote hW13
          have HST13 : Hid (WSt w w.heap.size w13 (T ++ wrT key ++ wrN xn ++ wrN xw ++ wrN xs ++ wrN xa)) := hst13
          have HV13 : Hid (w13.heap[w7.heap.size]? = some (.cells #[.int .i64 xn, .int .i64 xw, .int .i64 xs, .int .i64 xa, .string xt] 49 (0, 0))) := hW13.keep HV12.out hvb (by decide)
          have HO13 : Hid (OwnT w13 Bk (.slice (some ⟨kb, ko, none⟩) K.length kc) K) := HO12.out.wrote hW13 HBk.out
          have q9 := hst13.cell
          unfold numV at q9
          obtain ⟨r0, r1, r2, r3, r4⟩ := ver_block HV13.out
          have HC13 : Hid (Calls Tryz.prog 51 #[.string xt, .pointer (some ⟨w.heap.size + 1, 0, none⟩), .pointer (some ⟨w.heap.size, 0, none⟩)] w13 fun e w' => e = .returned (.tuple #[]) ∧ Wrote w13 w' w.heap.size w.heap.size (T ++ wrT key ++ wrN xn ++ wrN xw ++ wrN xs ++ wrN xa ++ wrT xt)) := HTX.out w13 _ xt hst13 (by have := HOK.out; omega) (by have := HLK.out; simp only [List.length_append]; omega)
          clear hst13 hW13 HC12 HV12 HO12 HST12
          go_wp2_with fail
          clear q9 r0 r1 r2 r3 r4
          refine HC13.out.mono ?_
          rintro e w14 ⟨rfl, hW14⟩
          have HST14 : Hid (WSt w w.heap.size w14 (T ++ wrT key ++ wrN xn ++ wrN xw ++ wrN xs ++ wrN xa ++ wrT xt)) := HST13.out.wrote hW14
          have HO14 : Hid (OwnT w14 Bk (.slice (some ⟨kb, ko, none⟩) K.length kc) K) := HO13.out.wrote hW14 HBk.out
          clear hW14 HC13 HV13 HO13 HST13
          go_wp2
          go_roundw
          case rel => exact ⟨j + 1, by omega, by go_num, by rw [HSU.out, HWK.out]; exact HST14.out, HO14.out⟩
          case measure => simp [intOf]; omega
        · have hje : j = lv.length := by omega
          subst hje
          go_wp2
          go_roundw
          case rel => exact ⟨i + 1, by omega, by go_num, by rw [← HUN.out]; exact HST7.out, HO7.out⟩
          case measure => simp [intOf]; omega
    · have hie : i = K.length := by omega
      subst hie
      have HSS : Hid (Calls Tryz.prog 52 #[.pointer (some ⟨w.heap.size, 0, none⟩)] w5 fun e w' => e = .returned (.string (ofL (wrN 0 ++ wrL (byKey (K.take K.length) L)))) ∧ Below w.heap.size w5 w') := HSG.out w5 _ HST5.out
      rw [HEND.out] at HSS
      have HLW : Hid (Below w.heap.size w w5) := HST5.out.low
      clear HST5 HO5 HSG
      obtain ⟨R, hR⟩ : ∃ R, R = ofL (wrote L false) := ⟨_, rfl⟩
      rw [← hR] at HSS
      have HR : Hid (R = ofL (wrote L false)) := hR
      clear hR
      go_wp2_with fail
      refine HSS.out.mono ?_
      rintro e w6 ⟨rfl, hb6⟩
      have HB6 : Hid (Below w.heap.size w w6) := HLW.out.trans hb6
      clear hb6 HSS
      go_wp2
      go_ret
      exact ⟨by rw [← HR.out]; rfl, HB6.out⟩
set_option maxRecDepth 10000 in
set_option maxHeartbeats 4000000 in
theorem written_shut {w0 w : World} (hX : LibX w0) (hw0 : Below w0.heap.size w0 w) (hd : HdAt w h S L true m D row blk) :
    Calls Tryz.prog 22 #[.pointer (some ⟨h, 0, none⟩)] w fun e w' => e = .returned (.string (ofL (wrote L true))) ∧ Below w.heap.size w w' := by
  have hG : GoodL L := ⟨hd.sorted, hd.few, hd.fits⟩
  obtain ⟨B, hB⟩ : ∃ B, B = w.heap.size := ⟨_, rfl⟩
  obtain ⟨w2, hw2⟩ : ∃ w2, w2 = (w.alloc (.cells #[.pointer none, .slice none 0 0] 92)).alloc (.cells #[numV w.heap.size] 96) := ⟨_, rfl⟩
  have HW2 : Hid (w2 = (w.alloc (.cells #[.pointer none, .slice none 0 0] 92)).alloc (.cells #[numV w.heap.size] 96)) := hw2
  have hb2 : Below w.heap.size w w2 := by rw [hw2]; exact ((Below.refl _ _).alloc (Nat.le_refl _) _).alloc (by simp) _
  have hst2 : WSt w w.heap.size w2 [] := by
    rw [hw2]
    have e1 : (w.alloc (.cells #[.pointer none, .slice none 0 0] 92)).heap[w.heap.size]? = some (.cells #[.pointer none, .slice none 0 0] 92 (0, 0)) := heap_alloc_new w _
    have e2 : (w.alloc (.cells #[.pointer none, .slice none 0 0] 92)).heap.size = w.heap.size + 1 := by simp
    refine ⟨Or.inl ⟨Nat.le_refl _, .slice none 0 0, ?_, World.ownsRowF_nil _ _ _ _, by simp [Value.ownBlock]⟩, ((Below.refl _ _).alloc (Nat.le_refl _) _).alloc (by simp) _, ?_, by simp⟩
    · rw [heap_alloc_old _ _ (by rw [e2]; omega)]
      exact e1
    · rw [← e2]
      exact heap_alloc_new _ _
  have HLX : Hid (∀ W l, WSt w w.heap.size W l → LibX W) := fun W l hW => hX.below (hw0.trans (hW.low.mono hw0.size))
  have HD : Hid (∀ W l, WSt w w.heap.size W l → HdAt W h S L true m D row blk) := fun W l hW => hd.below hW.low
  have HSE : Hid (Calls Tryz.prog 12 #[.pointer (some ⟨h, 0, none⟩)] w2 fun e w' => e = .returned (.bool true) ∧ w' = w2) := sealed_any (hd.below hb2)
  have HST : Hid (WSt w w.heap.size w2 []) := hst2
  have HNM : Hid (∀ W l n, WSt w w.heap.size W l → 0 ≤ n → n ≤ 1099511627776 → l.length ≤ 900000 → Calls Tryz.prog 47 #[.int .i64 n, .pointer (some ⟨w.heap.size, 0, none⟩)] W fun e w' => e = .returned (.tuple #[]) ∧ Wrote W w' w.heap.size w.heap.size (l ++ wrN n)) := fun W l n hW h0 h1 hl => num_any _ _ l n W (HLX.out W l hW) hW.bld h0 h1 hl (by have := hW.size; omega)
  have HTX : Hid (∀ W l (s : ByteArray), WSt w w.heap.size W l → s.size ≤ 1000 → l.length ≤ 800000 → Calls Tryz.prog 51 #[.string s, .pointer (some ⟨w.heap.size + 1, 0, none⟩), .pointer (some ⟨w.heap.size, 0, none⟩)] W fun e w' => e = .returned (.tuple #[]) ∧ Wrote W w' w.heap.size w.heap.size (l ++ wrT s)) := fun W l s hW hs hl => text_any _ _ _ l s W (HLX.out W l hW) hW.bld hW.cell hs hl (by have := hW.size; omega)
  have HKY : Hid (∀ W l, WSt w w.heap.size W l → Calls Tryz.prog 34 #[.pointer (some ⟨h, 0, none⟩)] W fun e w' => (∃ v, e = .returned v ∧ OwnT w' (W.heap.size + 1) v (keysL L)) ∧ Below W.heap.size W w') := fun W l hW => keysO_any (HD.out W l hW)
  have HG : Hid (GoodL L) := hG
  have HKL : Hid ((keysL L).length ≤ 60) := Nat.le_trans (keysL_le L) hd.few
  have hq2 := hst2.cell
  have hr2 := HNM.out w2 [] 1 hst2 (by decide) (by decide) (by simp)
  rw [List.nil_append] at hr2
  have HN0 : Hid (Calls Tryz.prog 47 #[.int .i64 1, .pointer (some ⟨w.heap.size, 0, none⟩)] w2 fun e w' => e = .returned (.tuple #[]) ∧ Wrote w2 w' w.heap.size w.heap.size (wrN 1)) := hr2
  unfold numV at hq2
  clear hd hw2 hb2 hst2 hX hw0 hG hr2 hB B
  have hrs := run_box w
  go_enter Tryz.func22, Tryz.ntmps22
  go_wp2_with fail
  rw [show (w.alloc (.cells #[.pointer none, .slice none 0 0] 92)).alloc (.cells #[.func (.func 47) #[] #[.pointer (some ⟨w.heap.size, 0, none⟩)]] 96) = w2 from HW2.out.symm]
  refine HSE.out.mono ?_
  rintro e w1 ⟨rfl, hw1⟩
  rw [hw1]
  clear hw1 w1 HSE HW2 hrs
  go_wp2_with fail
  refine HN0.out.mono ?_
  rintro e w3 ⟨rfl, hW3⟩
  have hst3 := HST.out.wrote hW3
  have HST3 : Hid (WSt w w.heap.size w3 (wrN 1)) := hst3
  clear hW3 HN0 HST hst3 hq2
  go_wp2_with fail
  refine (HKY.out w3 _ HST3.out).mono ?_
  rintro e w4 ⟨⟨kv, rfl, hO4⟩, hb4⟩
  obtain ⟨Bk, hBk⟩ : ∃ Bk, Bk = w3.heap.size + 1 := ⟨_, rfl⟩
  rw [← hBk] at hO4
  have HBk : Hid (w.heap.size < Bk) := by show _ < _; have := HST3.out.size; omega
  have HST4 : Hid (WSt w w.heap.size w4 (wrN 1)) := HST3.out.below hb4
  have HO4 : Hid (OwnT w4 Bk kv (keysL L)) := hO4
  obtain ⟨kp, kc, hkv, _, _, _, _⟩ := hO4.form
  clear hb4 hO4 HKY HST3 hBk
  subst hkv
  have HEMP : Hid (wrN 1 = wrN 1 ++ wrL (byKey ((keysL L).take 0) L)) := by show _ = _; simp [byKey, wrL]
  have HEND : Hid (wrN 1 ++ wrL (byKey ((keysL L).take (keysL L).length) L) = wrote L true) := by show _ = _; rw [List.take_length, (keysOk L HG.out.sorted).all]; rfl
  have HSG : Hid (∀ W l, WSt w w.heap.size W l → Calls Tryz.prog 52 #[.pointer (some ⟨w.heap.size, 0, none⟩)] W fun e w' => e = .returned (.string (ofL l)) ∧ Below w.heap.size W w') := fun W l hW => (Tryz.Builder_String _ _ l W hW.bld (by have := hW.size; omega)).mono fun e w' hp => ⟨hp.1, hp.2.2.1⟩
  generalize hKK : keysL L = K at *
  go_wp2
  go_loopw [21] (fun x wr => ∃ i : Nat, i ≤ K.length ∧ x = .int .i64 i ∧ WSt w w.heap.size wr (wrN 1 ++ wrL (byKey (K.take i) L)) ∧ OwnT wr Bk (.slice kp K.length kc) K) (fun x _ => K.length - (intOf x).toNat)
  case atStart => exact ⟨0, Nat.zero_le _, rfl, by rw [← HEMP.out]; exact HST4.out, HO4.out⟩
  case round =>
    obtain ⟨i, hi, rfl, hst, hO⟩ := hrel
    obtain ⟨w5, rfl⟩ : ∃ w5, w5 = wr := ⟨_, rfl⟩
    have HST5 : Hid (WSt w w.heap.size w5 (wrN 1 ++ wrL (byKey (K.take i) L))) := hst
    have HO5 : Hid (OwnT w5 Bk (.slice kp K.length kc) K) := hO
    have hkl := HKL.out
    clear hst hO HST4 HO4 HEMP
    by_cases hil : i < K.length
    · obtain ⟨p', c', hv', hs', _, _, _⟩ := HO5.out.form
      obtain ⟨rfl, _, rfl⟩ := Value.slice.inj hv'
      have q0 : ∃ kb ko, kp = some ⟨kb, ko, none⟩ ∧ w5.cell? ⟨kb, ko + i, none⟩ = some (.string (txt K i)) := by
        rcases hs' with h0 | ⟨kb, ko, hp, _, hc⟩
        · rw [h0] at hil; exact absurd hil (Nat.not_lt_zero _)
        · exact ⟨kb, ko, hp, hc i hil⟩
      obtain ⟨kb, ko, rfl, q0⟩ := q0
      clear hv' hs'
      have hkm : txt K i ∈ keysL L := by rw [hKK]; exact List.mem_of_getElem? (by rw [List.getElem?_eq_getElem hil, txt_getElem K i hil])
      have hks : (txt K i).size ≤ 16 := keysL_size HG.out.sorted HG.out.fits hkm
      have HOF : Hid (Calls Tryz.prog 38 #[.pointer (some ⟨h, 0, none⟩), .string (txt K i)] w5 fun e w' => e = .returned (row (txt K i)) ∧ w' = w5) := of_any (HD.out w5 _ HST5.out) (txt K i) (by unfold maxLen; omega)
      obtain ⟨p, c, hrow, hrec, _, _, hpb⟩ := (HD.out w5 _ HST5.out).form (txt K i)
      have HROW : Hid (∀ W l, WSt w w.heap.size W l → Rec verE W p (getL L (txt K i))) := fun W l hW => by
        obtain ⟨p2, c2, hrow2, hrec2, _, _, _⟩ := (HD.out W l hW).form (txt K i)
        rw [hrow] at hrow2
        obtain ⟨rfl, _, _⟩ := Value.slice.inj hrow2
        exact hrec2
      rw [hrow] at HOF
      have hgl : (getL L (txt K i)).length ≤ 60 := Nat.le_trans (getL_le _ _) HG.out.few
      have HFT : Hid (∀ j, j < (getL L (txt K i)).length → verOk (verAt (getL L (txt K i)) j) = true) := fun j hj => getL_fits HG.out.fits hj
      have HU0 : Hid (byKey (K.take i) L = upTo L i 0) := by show _ = _; rw [upTo_zero, hKK]
      have HUN : Hid (upTo L i (getL L (txt K i)).length = byKey (K.take (i + 1)) L) := by show _ = _; rw [← hKK]; exact upTo_next (by rw [hKK]; exact hil)
      have HUS : Hid (∀ j, j < (getL L (txt K i)).length → upTo L i (j + 1) = upTo L i j ++ [(txt K i, verAt (getL L (txt K i)) j)]) := fun j hj => by
        have := upTo_succ (L := L) (i := i) (j := j) (by rw [hKK]; exact hj)
        rw [hKK] at this
        exact this
      have HUL : Hid (∀ j, (wrN 1 ++ wrL (upTo L i j)).length ≤ 130000) := fun j => upTo_len HG.out (by rw [hKK]; exact hil) true
      have HKS : Hid (txt K i ∈ keysL L) := hkm
      clear hrow hrec hpb hkm
      generalize hkey : txt K i = key at *
      generalize hlv : getL L key = lv at *
      go_wp2_with fail
      refine HOF.out.mono ?_
      rintro e w6 ⟨rfl, hw6⟩
      rw [hw6]
      clear hw6 w6 HOF q0
      go_wp2
      go_loopw [29] (fun x wr => ∃ j : Nat, j ≤ lv.length ∧ x = .int .i64 j ∧ WSt w w.heap.size wr (wrN 1 ++ wrL (upTo L i j)) ∧ OwnT wr Bk (.slice (some ⟨kb, ko, none⟩) K.length kc) K) (fun x _ => lv.length - (intOf x).toNat)
      case atStart => exact ⟨0, Nat.zero_le _, rfl, by rw [← HU0.out]; exact HST5.out, HO5.out⟩
      case round =>
        obtain ⟨j, hj, rfl, hst, hO⟩ := hrel
        obtain ⟨w7, rfl⟩ : ∃ w7, w7 = wr := ⟨_, rfl⟩
        have HST7 : Hid (WSt w w.heap.size w7 (wrN 1 ++ wrL (upTo L i j))) := hst
        have HO7 : Hid (OwnT w7 Bk (.slice (some ⟨kb, ko, none⟩) K.length kc) K) := hO
        clear hst hO HST5 HO5 HU0
        by_cases hjl : j < lv.length
        · obtain ⟨b, o, hpp, hblt, c0, c1, c2, c3, c4⟩ := ver_cells (HROW.out w7 _ HST7.out) hjl
          subst hpp
          have hok := HFT.out j hjl
          have hsu := HUS.out j hjl
          have hll := HUL.out j
          have hll2 := HUL.out (j + 1)
          rw [hsu, wrL_append, wrL_one] at hll2
          have HSU : Hid (wrN 1 ++ wrL (upTo L i (j + 1)) = (wrN 1 ++ wrL (upTo L i j)) ++ wrK (key, verAt lv j)) := by show _ = _; rw [hsu, wrL_append, wrL_one, List.append_assoc]
          generalize verAt lv j = x at *
          obtain ⟨xn, xw, xs, xa, xt⟩ := x
          have hok2 := hok
          unfold verOk tagB at hok2
          simp only [Bool.and_eq_true, decide_eq_true_eq] at hok2
          generalize hT : wrN 1 ++ wrL (upTo L i j) = T at *
          have HWK : Hid (T ++ wrK (key, ⟨xn, xw, xs, xa, xt⟩) = T ++ wrT key ++ wrN xn ++ wrN xw ++ wrN xs ++ wrN xa ++ wrT xt) := by show _ = _; simp [wrK, List.append_assoc]
          have hlk : (T ++ wrT key ++ wrN xn ++ wrN xw ++ wrN xs ++ wrN xa ++ wrT xt).length ≤ 130000 := by
            rw [← HWK.out, ← hT, ← List.append_assoc] at *
            exact hll2
          simp only [List.length_append] at hlk
          obtain ⟨w8, hw8⟩ : ∃ w8, w8 = w7.alloc (.cells #[.int .i64 xn, .int .i64 xw, .int .i64 xs, .int .i64 xa, .string xt] 49) := ⟨_, rfl⟩
          have HW8 : Hid (w8 = w7.alloc (.cells #[.int .i64 xn, .int .i64 xw, .int .i64 xs, .int .i64 xa, .string xt] 49)) := hw8
          have HV8 : Hid (w8.heap[w7.heap.size]? = some (.cells #[.int .i64 xn, .int .i64 xw, .int .i64 xs, .int .i64 xa, .string xt] 49 (0, 0))) := by rw [hw8]; exact heap_alloc_new _ _
          have hal : Below w7.heap.size w7 w8 := by rw [hw8]; exact (Below.refl _ w7).alloc (Nat.le_refl _) _
          have HST8 : Hid (WSt w w.heap.size w8 T) := HST7.out.below hal
          have HO8 : Hid (OwnT w8 Bk (.slice (some ⟨kb, ko, none⟩) K.length kc) K) := HO7.out.kept hal
          have hvb : w7.heap.size ≠ w.heap.size := by have := HST7.out.size; omega
          have HC8 : Hid (Calls Tryz.prog 51 #[.string key, .pointer (some ⟨w.heap.size + 1, 0, none⟩), .pointer (some ⟨w.heap.size, 0, none⟩)] w8 fun e w' => e = .returned (.tuple #[]) ∧ Wrote w8 w' w.heap.size w.heap.size (T ++ wrT key)) := HTX.out w8 T key HST8.out (by omega) (by omega)
          have HLK : Hid (T.length + (wrT key).length + (wrN xn).length + (wrN xw).length + (wrN xs).length + (wrN xa).length + (wrT xt).length ≤ 130000) := hlk
          have HOK : Hid (((0 ≤ xn ∧ xn ≤ 1099511627776) ∧ 0 ≤ xw ∧ xw ≤ 1099511627776) ∧ 0 ≤ xs ∧ xs ≤ 1000 ∧ 0 ≤ xa ∧ xa < 12 ∧ xt.size ≤ 1000) := by
            refine ⟨⟨⟨by omega, by omega⟩, by omega, by omega⟩, by omega, by omega, by omega, by omega, by omega⟩
          clear hw8 hal HST7 HO7 hlk hok hok2 hll hll2 hsu hT
          go_wp2_with fail
          rw [← HW8.out]
          clear HW8 c0 c1 c2 c3 c4
          refine HC8.out.mono ?_
          rintro e w9 ⟨rfl, hW9⟩
          have hst9 := HST8.out.wrote hW9
          have HST9 : Hid (WSt w w.heap.size w9 (T ++ wrT key)) := hst9
          have HV9 : Hid (w9.heap[w7.heap.size]? = some (.cells #[.int .i64 xn, .int .i64 xw, .int .i64 xs, .int .i64 xa, .string xt] 49 (0, 0))) := hW9.keep HV8.out hvb (by decide)
          have HO9 : Hid (OwnT w9 Bk (.slice (some ⟨kb, ko, none⟩) K.length kc) K) := HO8.out.wrote hW9 HBk.out
          have q9 := hst9.cell
          unfold numV at q9
          obtain ⟨r0, r1, r2, r3, r4⟩ := ver_block HV9.out
          have HC9 : Hid (Calls Tryz.prog 47 #[.int .i64 xn, .pointer (some ⟨w.heap.size, 0, none⟩)] w9 fun e w' => e = .returned (.tuple #[]) ∧ Wrote w9 w' w.heap.size w.heap.size (T ++ wrT key ++ wrN xn)) := HNM.out w9 _ xn hst9 (by have := HOK.out; omega) (by have := HOK.out; omega) (by have := HLK.out; simp only [List.length_append]; omega)
          clear hst9 hW9 HC8 HV8 HO8 HST8
          go_wp2_with fail
          clear q9 r0 r1 r2 r3 r4
          refine HC9.out.mono ?_
          rintro e w10 ⟨rfl, hW10⟩
          have hst10 := HST9.out.wrote hW10
          have HST10 : Hid (WSt w w.heap.size w10 (T ++ wrT key ++ wrN xn)) := hst10
          have HV10 : Hid (w10.heap[w7.heap.size]? = some (.cells #[.int .i64 xn, .int .i64 xw, .int .i64 xs, .int .i64 xa, .string xt] 49 (0, 0))) := hW10.keep HV9.out hvb (by decide)
          have HO10 : Hid (OwnT w10 Bk (.slice (some ⟨kb, ko, none⟩) K.length kc) K) := HO9.out.wrote hW10 HBk.out
          have q9 := hst10.cell
          unfold numV at q9
          obtain ⟨r0, r1, r2, r3, r4⟩ := ver_block HV10.out
          have HC10 : Hid (Calls Tryz.prog 47 #[.int .i64 xw, .pointer (some ⟨w.heap.size, 0, none⟩)] w10 fun e w' => e = .returned (.tuple #[]) ∧ Wrote w10 w' w.heap.size w.heap.size (T ++ wrT key ++ wrN xn ++ wrN xw)) := HNM.out w10 _ xw hst10 (by have := HOK.out; omega) (by have := HOK.out; omega) (by have := HLK.out; simp only [List.length_append]; omega)
          clear hst10 hW10 HC9 HV9 HO9 HST9
          go_wp2_with fail
          clear q9 r0 r1 r2 r3 r4
          refine HC10.out.mono ?_
          rintro e w11 ⟨rfl, hW11⟩
          have hst11 := HST10.out.wrote hW11
          have HST11 : Hid (WSt w w.heap.size w11 (T ++ wrT key ++ wrN xn ++ wrN xw)) := hst11
          have HV11 : Hid (w11.heap[w7.heap.size]? = some (.cells #[.int .i64 xn, .int .i64 xw, .int .i64 xs, .int .i64 xa, .string xt] 49 (0, 0))) := hW11.keep HV10.out hvb (by decide)
          have HO11 : Hid (OwnT w11 Bk (.slice (some ⟨kb, ko, none⟩) K.length kc) K) := HO10.out.wrote hW11 HBk.out
          have q9 := hst11.cell
          unfold numV at q9
          obtain ⟨r0, r1, r2, r3, r4⟩ := ver_block HV11.out
          have HC11 : Hid (Calls Tryz.prog 47 #[.int .i64 xs, .pointer (some ⟨w.heap.size, 0, none⟩)] w11 fun e w' => e = .returned (.tuple #[]) ∧ Wrote w11 w' w.heap.size w.heap.size (T ++ wrT key ++ wrN xn ++ wrN xw ++ wrN xs)) := HNM.out w11 _ xs hst11 (by have := HOK.out; omega) (by have := HOK.out; omega) (by have := HLK.out; simp only [List.length_append]; omega)
          clear hst11 hW11 HC10 HV10 HO10 HST10
          go_wp2_with fail
          clear q9 r0 r1 r2 r3 r4
          refine HC11.out.mono ?_
          rintro e w12 ⟨rfl, hW12⟩
          have hst12 := HST11.out.wrote hW12
          have HST12 : Hid (WSt w w.heap.size w12 (T ++ wrT key ++ wrN xn ++ wrN xw ++ wrN xs)) := hst12
          have HV12 : Hid (w12.heap[w7.heap.size]? = some (.cells #[.int .i64 xn, .int .i64 xw, .int .i64 xs, .int .i64 xa, .string xt] 49 (0, 0))) := hW12.keep HV11.out hvb (by decide)
          have HO12 : Hid (OwnT w12 Bk (.slice (some ⟨kb, ko, none⟩) K.length kc) K) := HO11.out.wrote hW12 HBk.out
          have q9 := hst12.cell
          unfold numV at q9
          obtain ⟨r0, r1, r2, r3, r4⟩ := ver_block HV12.out
          have HC12 : Hid (Calls Tryz.prog 47 #[.int .i64 xa, .pointer (some ⟨w.heap.size, 0, none⟩)] w12 fun e w' => e = .returned (.tuple #[]) ∧ Wrote w12 w' w.heap.size w.heap.size (T ++ wrT key ++ wrN xn ++ wrN xw ++ wrN xs ++ wrN xa)) := HNM.out w12 _ xa hst12 (by have := HOK.out; omega) (by have := HOK.out; omega) (by have := HLK.out; simp only [List.length_append]; omega)
          clear hst12 hW12 HC11 HV11 HO11 HST11
          go_wp2_with fail
          clear q9 r0 r1 r2 r3 r4
          refine HC12.out.mono ?_
          rintro e w13 ⟨rfl, hW13⟩
          have hst13 := HST12.out.wrote hW13
          have HST13 : Hid (WSt w w.heap.size w13 (T ++ wrT key ++ wrN xn ++ wrN xw ++ wrN xs ++ wrN xa)) := hst13
          have HV13 : Hid (w13.heap[w7.heap.size]? = some (.cells #[.int .i64 xn, .int .i64 xw, .int .i64 xs, .int .i64 xa, .string xt] 49 (0, 0))) := hW13.keep HV12.out hvb (by decide)
          have HO13 : Hid (OwnT w13 Bk (.slice (some ⟨kb, ko, none⟩) K.length kc) K) := HO12.out.wrote hW13 HBk.out
          have q9 := hst13.cell
          unfold numV at q9
          obtain ⟨r0, r1, r2, r3, r4⟩ := ver_block HV13.out
          have HC13 : Hid (Calls Tryz.prog 51 #[.string xt, .pointer (some ⟨w.heap.size + 1, 0, none⟩), .pointer (some ⟨w.heap.size, 0, none⟩)] w13 fun e w' => e = .returned (.tuple #[]) ∧ Wrote w13 w' w.heap.size w.heap.size (T ++ wrT key ++ wrN xn ++ wrN xw ++ wrN xs ++ wrN xa ++ wrT xt)) := HTX.out w13 _ xt hst13 (by have := HOK.out; omega) (by have := HLK.out; simp only [List.length_append]; omega)
          clear hst13 hW13 HC12 HV12 HO12 HST12
          go_wp2_with fail
          clear q9 r0 r1 r2 r3 r4
          refine HC13.out.mono ?_
          rintro e w14 ⟨rfl, hW14⟩
          have HST14 : Hid (WSt w w.heap.size w14 (T ++ wrT key ++ wrN xn ++ wrN xw ++ wrN xs ++ wrN xa ++ wrT xt)) := HST13.out.wrote hW14
          have HO14 : Hid (OwnT w14 Bk (.slice (some ⟨kb, ko, none⟩) K.length kc) K) := HO13.out.wrote hW14 HBk.out
          clear hW14 HC13 HV13 HO13 HST13
          go_wp2
          go_roundw
          case rel => exact ⟨j + 1, by omega, by go_num, by rw [HSU.out, HWK.out]; exact HST14.out, HO14.out⟩
          case measure => simp [intOf]; omega
        · have hje : j = lv.length := by omega
          subst hje
          go_wp2
          go_roundw
          case rel => exact ⟨i + 1, by omega, by go_num, by rw [← HUN.out]; exact HST7.out, HO7.out⟩
          case measure => simp [intOf]; omega
    · have hie : i = K.length := by omega
      subst hie
      have HSS : Hid (Calls Tryz.prog 52 #[.pointer (some ⟨w.heap.size, 0, none⟩)] w5 fun e w' => e = .returned (.string (ofL (wrN 1 ++ wrL (byKey (K.take K.length) L)))) ∧ Below w.heap.size w5 w') := HSG.out w5 _ HST5.out
      rw [HEND.out] at HSS
      have HLW : Hid (Below w.heap.size w w5) := HST5.out.low
      clear HST5 HO5 HSG
      obtain ⟨R, hR⟩ : ∃ R, R = ofL (wrote L true) := ⟨_, rfl⟩
      rw [← hR] at HSS
      have HR : Hid (R = ofL (wrote L true)) := hR
      clear hR
      go_wp2_with fail
      refine HSS.out.mono ?_
      rintro e w6 ⟨rfl, hb6⟩
      have HB6 : Hid (Below w.heap.size w w6) := HLW.out.trans hb6
      clear hb6 HSS
      go_wp2
      go_ret
      exact ⟨by rw [← HR.out]; rfl, HB6.out⟩
theorem written_any {w0 w : World} {s : Bool} (hX : LibX w0) (hw0 : Below w0.heap.size w0 w) (hd : HdOf w h S L s) :
    Calls Tryz.prog 22 #[.pointer (some ⟨h, 0, none⟩)] w fun e w' => e = .returned (.string (ofL (wrote L s))) ∧ Below w.heap.size w w' := by
  obtain ⟨m, D, row, blk, hd⟩ := hd
  cases s with
  | false => exact written_open hX hw0 hd
  | true => exact written_shut hX hw0 hd
end
/-- Bit p of a text, the lowest of each byte first. -/
def tbit (s : ByteArray) (p : Nat) : Nat := Gf.bitOf (Gf.nth (bytesOf s) (p / 8)) (p % 8)
theorem tbit_lt (s : ByteArray) (p : Nat) : tbit s p < 2 := Nat.mod_lt _ (by decide)
/-- The remainder of a text, ahead of the last turn. -/
def crcS (s : ByteArray) : Nat := Crc.crcTo (tbit s) 4294967295 (8 * s.size)
theorem crcS_lt (s : ByteArray) : crcS s < 2 ^ 32 := Crc.crcTo_lt (by decide) _
def crcOf (s : ByteArray) : Nat := crcS s ^^^ 4294967295
theorem crcOf_lt (s : ByteArray) : crcOf s < 2 ^ 32 := Nat.xor_lt_two_pow (crcS_lt s) (by decide)
theorem step_one {c q b : Nat} (h : (c ^^^ q) % 2 = 1) (hb : b = q % 2) : Crc.step c b = c / 2 ^^^ 3988292384 := by
  unfold Crc.step Crc.back
  rw [Crc.xor_mod2] at h ⊢
  rw [if_pos (by rw [hb]; omega)]
  rfl
theorem step_none {c q b : Nat} (h : (c ^^^ q) % 2 = 0) (hb : b = q % 2) : Crc.step c b = c / 2 := by
  unfold Crc.step Crc.back
  rw [Crc.xor_mod2] at h ⊢
  rw [if_neg (by rw [hb]; omega), Nat.xor_zero]
/-- Four bytes of a number, the highest first. -/
def fourL (n : Nat) : List Nat := [n / 16777216 % 256, n / 65536 % 256, n / 256 % 256, n % 256]
def fourT (n : Nat) : ByteArray := strOf (fourL n)
/-- All but the last four bytes; those. -/
def cutT (s : ByteArray) : ByteArray := s.extract 0 (s.size - 4)
def endT (s : ByteArray) : ByteArray := s.extract (s.size - 4) s.size
theorem cutT_size (s : ByteArray) : (cutT s).size = s.size - 4 := by unfold cutT; simp
theorem toListInj {a b : ByteArray} (h : a.toList = b.toList) : a = b := by
  rw [ByteArray.toList_eq, ByteArray.toList_eq] at h
  exact ByteArray.ext (Array.toList_inj.1 h)
theorem u32_xor_nat (a b : Nat) (ha : a < 4294967296) (hb : b < 4294967296) : bits .xor .u32 (a : Int) (b : Int) = ((a ^^^ b : Nat) : Int) := by
  have hx : a ^^^ b < 2 ^ 32 := Nat.xor_lt_two_pow (by omega) (by omega)
  show IntKind.u32.wrap ((BitVec.ofInt 32 (a : Int) ^^^ BitVec.ofInt 32 (b : Int)).toNat : Int) = _
  rw [BitVec.toNat_xor, BitVec.ofInt_natCast, BitVec.ofInt_natCast, BitVec.toNat_ofNat, BitVec.toNat_ofNat, Nat.mod_eq_of_lt (by omega), Nat.mod_eq_of_lt (by omega)]
  show ((a ^^^ b : Nat) : Int) % 4294967296 = _
  omega
theorem bytesOf_append (a b : ByteArray) : bytesOf (a ++ b) = bytesOf a ++ bytesOf b := by
  unfold bytesOf
  simp [ByteArray.data_append]
theorem bytesOf_inj {a b : ByteArray} (h : bytesOf a = bytesOf b) : a = b := by rw [← strOf_bytesOf a, h, strOf_bytesOf]
theorem bytesOf_extract (s : ByteArray) (a b : Nat) : bytesOf (s.extract a b) = ((bytesOf s).take b).drop a := by
  unfold bytesOf
  rw [ByteArray.data_extract]
  simp [List.map_take, List.map_drop, List.drop_take]
theorem bytesOf_cut (s : ByteArray) : bytesOf (cutT s) = (bytesOf s).take (s.size - 4) := by
  unfold cutT
  rw [bytesOf_extract, List.drop_zero]
theorem bytesOf_end (s : ByteArray) : bytesOf (endT s) = (bytesOf s).drop (s.size - 4) := by
  unfold endT
  rw [bytesOf_extract, ← bytesOf_length, List.take_length]
theorem fourL_bytes (n : Nat) : Gf.Bytes (fourL n) := fun i => by
  match i with
  | 0 => show n / 16777216 % 256 < 256; omega
  | 1 => show n / 65536 % 256 < 256; omega
  | 2 => show n / 256 % 256 < 256; omega
  | 3 => show n % 256 < 256; omega
  | i + 4 => rw [nth_past (by show 4 ≤ i + 4; omega)]; decide
theorem bytesOf_four (n : Nat) : bytesOf (fourT n) = fourL n := bytesOf_strOf (fourL_bytes n)
theorem fourT_size (n : Nat) : (fourT n).size = 4 := by unfold fourT; rw [strOf_size]; rfl
theorem fourT_inj {n m : Nat} (hn : n < 2 ^ 32) (hm : m < 2 ^ 32) (h : fourT n = fourT m) : n = m := by
  have h1 : fourL n = fourL m := by rw [← bytesOf_four, ← bytesOf_four, h]
  unfold fourL at h1
  simp only [List.cons.injEq, and_true] at h1
  omega
/-- A text and its sum. -/
def sealT (s : ByteArray) : ByteArray := s ++ fourT (crcOf s)
theorem sealT_size (s : ByteArray) : (sealT s).size = s.size + 4 := by
  unfold sealT
  rw [← bytesOf_length, bytesOf_append, List.length_append, bytesOf_length, bytesOf_length, fourT_size]
theorem seal_cut (s : ByteArray) : cutT (sealT s) = s := by
  refine bytesOf_inj ?_
  rw [bytesOf_cut, sealT_size]
  unfold sealT
  rw [bytesOf_append, Nat.add_sub_cancel, ← bytesOf_length, List.take_left']
  rfl
theorem seal_end (s : ByteArray) : endT (sealT s) = fourT (crcOf s) := by
  refine bytesOf_inj ?_
  rw [bytesOf_end, sealT_size]
  unfold sealT
  rw [bytesOf_append, Nat.add_sub_cancel, ← bytesOf_length, List.drop_left']
  rfl
/-- Bit p of bytes. -/
def lbit (l : List Nat) (p : Nat) : Nat := Gf.bitOf (Gf.nth l (p / 8)) (p % 8)
theorem lbit_lt (l : List Nat) (p : Nat) : lbit l p < 2 := Nat.mod_lt _ (by decide)
theorem bitOf_pow (j k : Nat) : Gf.bitOf (2 ^ j) k = if j = k then 1 else 0 := by
  have h : Gf.bitOf (2 ^ j) k = ((2 ^ j).testBit k).toNat := by
    unfold Gf.bitOf
    rw [Nat.testBit_eq_decide_div_mod_eq]
    rcases Nat.mod_two_eq_zero_or_one (2 ^ j / 2 ^ k) with e | e <;> simp [e]
  rw [h, Nat.testBit_two_pow]
  by_cases e : j = k
  · rw [if_pos e]; simp [e]
  · rw [if_neg e]; simp [e]
theorem byte_ext {x y : Nat} (hx : x < 256) (hy : y < 256) (h : ∀ j, j < 8 → Gf.bitOf x j = Gf.bitOf y j) : x = y := by
  refine Nat.eq_of_testBit_eq fun j => ?_
  by_cases hj : j < 8
  · have := h j hj
    unfold Gf.bitOf at this
    rw [Nat.testBit_eq_decide_div_mod_eq, Nat.testBit_eq_decide_div_mod_eq, this]
  · have hp : 256 ≤ 2 ^ j := by
      have := Nat.pow_le_pow_right (n := 2) (by decide) (show 8 ≤ j by omega)
      exact this
    rw [Nat.testBit_lt_two_pow (by omega), Nat.testBit_lt_two_pow (by omega)]
/-- One bit turned. -/
def flip1 (l : List Nat) (p : Nat) : List Nat := l.set (p / 8) (Gf.nth l (p / 8) ^^^ 2 ^ (p % 8))
theorem flip1_length (l : List Nat) (p : Nat) : (flip1 l p).length = l.length := by simp [flip1]
theorem nth_set {l : List Nat} {i j v : Nat} (hi : i < l.length) : Gf.nth (l.set i v) j = if j = i then v else Gf.nth l j := by
  show (l.set i v).getD j 0 = if j = i then v else l.getD j 0
  rw [List.getD_eq_getElem?_getD, List.getElem?_set]
  by_cases e : i = j
  · rw [if_pos e, if_pos hi, if_pos e.symm]; rfl
  · rw [if_neg e, if_neg (fun h => e h.symm), List.getD_eq_getElem?_getD]
theorem flip1_bytes {l : List Nat} (h : Gf.Bytes l) {p : Nat} (hp : p / 8 < l.length) : Gf.Bytes (flip1 l p) := fun i => by
  unfold flip1
  rw [nth_set hp]
  have h2 : 2 ^ (p % 8) < 256 := Nat.lt_of_lt_of_le (Nat.pow_lt_pow_right (by decide) (Nat.mod_lt p (by decide : 0 < 8))) (by decide)
  split
  · exact Gf.xlt (h _) h2
  · exact h i
theorem lbit_flip1 {l : List Nat} {p : Nat} (hp : p / 8 < l.length) (q : Nat) : lbit (flip1 l p) q = if q = p then (lbit l q + 1) % 2 else lbit l q := by
  unfold lbit flip1
  rw [nth_set hp]
  by_cases e : q / 8 = p / 8
  · rw [if_pos e, Gf.bit_xor, bitOf_pow, ← e]
    by_cases e2 : q = p
    · rw [if_pos e2, if_pos (by rw [e2])]
    · rw [if_neg e2, if_neg (by omega), Nat.add_zero]
      exact Nat.mod_eq_of_lt (lbit_lt l q)
  · rw [if_neg e, if_neg (fun h => e (by rw [h]))]
/-- The bits of a burst from a on that lie in the first m bits, turned one by one. -/
def flipTo (l : List Nat) (m a burst : Nat) : Nat → List Nat
  | 0 => l
  | i + 1 => if burst / 2 ^ i % 2 = 1 ∧ a + i < m then flip1 (flipTo l m a burst i) (a + i) else flipTo l m a burst i
theorem flipTo_length (l : List Nat) (m a burst : Nat) : ∀ i, (flipTo l m a burst i).length = l.length
  | 0 => rfl
  | i + 1 => by
    show (if _ then _ else _ : List Nat).length = _
    split
    · rw [flip1_length, flipTo_length l m a burst i]
    · exact flipTo_length l m a burst i
theorem flipTo_bytes {l : List Nat} (h : Gf.Bytes l) {m : Nat} (hm : m ≤ 8 * l.length) (a burst : Nat) : ∀ i, Gf.Bytes (flipTo l m a burst i)
  | 0 => h
  | i + 1 => by
    show Gf.Bytes (if _ then _ else _ : List Nat)
    split
    · exact flip1_bytes (flipTo_bytes h hm a burst i) (by rw [flipTo_length]; omega)
    · exact flipTo_bytes h hm a burst i
theorem lbit_flipTo {l : List Nat} {m : Nat} (hm : m ≤ 8 * l.length) (a burst q : Nat) : ∀ i, (¬ (a ≤ q ∧ q < a + i ∧ q < m)) → lbit (flipTo l m a burst i) q = lbit l q
  | 0, _ => rfl
  | i + 1, h => by
    show lbit (if _ then _ else _ : List Nat) q = _
    split
    · rename_i hc
      rw [lbit_flip1 (by rw [flipTo_length]; omega), if_neg (by omega)]
      exact lbit_flipTo hm a burst q i (by omega)
    · exact lbit_flipTo hm a burst q i (by omega)
theorem ext_of_bits {l m : List Nat} (hl : Gf.Bytes l) (hm : Gf.Bytes m) (hlen : l.length = m.length) (h : ∀ q, q < 8 * l.length → lbit l q = lbit m q) : l = m := by
  refine nth_ext hlen fun i hi => byte_ext (hl i) (hm i) fun j hj => ?_
  have := h (8 * i + j) (by omega)
  unfold lbit at this
  rw [show (8 * i + j) / 8 = i by omega, show (8 * i + j) % 8 = j by omega] at this
  exact this
theorem tbit_lbit (s : ByteArray) : tbit s = lbit (bytesOf s) := rfl
/-- A burst in the text alone is seen: the sum that stands behind it is not its own. -/
theorem burst_open (s : ByteArray) (a burst i : Nat) (hi : i ≤ 32) (hne : strOf (flipTo (bytesOf (sealT s)) (8 * s.size) a burst i) ≠ sealT s) :
    fourT (crcOf (cutT (strOf (flipTo (bytesOf (sealT s)) (8 * s.size) a burst i)))) ≠ endT (strOf (flipTo (bytesOf (sealT s)) (8 * s.size) a burst i)) := by
  have hll : (bytesOf (sealT s)).length = s.size + 4 := by rw [bytesOf_length, sealT_size]
  have hm : 8 * s.size ≤ 8 * (bytesOf (sealT s)).length := by omega
  have hB := flipTo_bytes (bytesOf_lt (sealT s)) hm a burst i
  have hL : (flipTo (bytesOf (sealT s)) (8 * s.size) a burst i).length = s.size + 4 := by rw [flipTo_length, hll]
  have hbits := fun q => lbit_flipTo hm a burst q i
  generalize flipTo (bytesOf (sealT s)) (8 * s.size) a burst i = l at *
  have hts : (strOf l).size = s.size + 4 := by rw [strOf_size, hL]
  have hcb : bytesOf (cutT (strOf l)) = l.take s.size := by rw [bytesOf_cut, bytesOf_strOf hB, hts, Nat.add_sub_cancel]
  have hcs : (cutT (strOf l)).size = s.size := by rw [cutT_size, hts, Nat.add_sub_cancel]
  have htk : ∀ q, q < 8 * s.size → lbit (l.take s.size) q = lbit l q := fun q hq => by
    unfold lbit
    congr 1
    show (l.take s.size).getD (q / 8) 0 = l.getD (q / 8) 0
    rw [List.getD_eq_getElem?_getD, List.getD_eq_getElem?_getD, List.getElem?_take_of_lt (by omega)]
  have hsb : ∀ q, q < 8 * s.size → lbit (bytesOf s) q = lbit (bytesOf (sealT s)) q := fun q hq => by
    unfold lbit
    congr 1
    unfold sealT
    rw [bytesOf_append]
    show (bytesOf s).getD (q / 8) 0 = (bytesOf s ++ bytesOf (fourT (crcOf s))).getD (q / 8) 0
    rw [List.getD_eq_getElem?_getD, List.getD_eq_getElem?_getD, List.getElem?_append_left (by rw [bytesOf_length]; omega)]
  -- what stands behind the text is as it was
  have hend : endT (strOf l) = fourT (crcOf s) := by
    rw [← seal_end s]
    refine bytesOf_inj ?_
    rw [bytesOf_end, bytesOf_end, bytesOf_strOf hB, hts, sealT_size, Nat.add_sub_cancel]
    refine nth_ext (by rw [List.length_drop, List.length_drop, hL, hll]) fun p hp => ?_
    rw [List.length_drop, hL] at hp
    have hg : Gf.nth l (s.size + p) = Gf.nth (bytesOf (sealT s)) (s.size + p) := byte_ext (hB _) (bytesOf_lt _ _) fun j hj => by
      have := hbits (8 * (s.size + p) + j) (by omega)
      unfold lbit at this
      rw [show (8 * (s.size + p) + j) / 8 = s.size + p by omega, show (8 * (s.size + p) + j) % 8 = j by omega] at this
      exact this
    show (l.drop s.size).getD p 0 = ((bytesOf (sealT s)).drop s.size).getD p 0
    rw [List.getD_eq_getElem?_getD, List.getD_eq_getElem?_getD, List.getElem?_drop, List.getElem?_drop]
    have hg' : l.getD (s.size + p) 0 = (bytesOf (sealT s)).getD (s.size + p) 0 := hg
    rw [List.getD_eq_getElem?_getD, List.getD_eq_getElem?_getD] at hg'
    exact hg'
  -- some bit of the text is another one
  have hdiff : ∃ q, q < 8 * s.size ∧ lbit (l.take s.size) q ≠ lbit (bytesOf s) q := Classical.byContradiction fun hno => hne (by
    have hall : ∀ q, q < 8 * (s.size + 4) → lbit l q = lbit (bytesOf (sealT s)) q := fun q hq => by
      by_cases h1 : q < 8 * s.size
      · rw [← htk q h1, ← hsb q h1]
        exact Classical.byContradiction fun h2 => hno ⟨q, h1, h2⟩
      · exact hbits q (by omega)
    have := ext_of_bits hB (bytesOf_lt (sealT s)) (by rw [hL, hll]) (fun q hq => hall q (by rw [hL] at hq; exact hq))
    rw [this, strOf_bytesOf])
  rw [hend]
  intro he
  have hc := fourT_inj (crcOf_lt _) (crcOf_lt _) he
  unfold crcOf at hc
  have hc2 : crcS (cutT (strOf l)) = crcS s := by
    have := congrArg (fun x => x ^^^ 4294967295) hc
    simp only [Nat.xor_assoc, Nat.xor_self, Nat.xor_zero] at this
    exact this
  unfold crcS at hc2
  rw [tbit_lbit, tbit_lbit, hcb, hcs] at hc2
  refine Crc.burst_seen (lbit_lt _) (lbit_lt _) 4294967295 (8 * s.size) a (fun q hq hx => ?_) hdiff hc2
  have h1 : ¬ ¬ (a ≤ q ∧ q < a + i ∧ q < 8 * s.size) := fun h2 => hx (by rw [htk q hq, hbits q h2, hsb q hq])
  have h3 := Classical.byContradiction h1
  omega
theorem u32_and_one (a : Nat) (ha : a < 4294967296) : bits .and .u32 (a : Int) 1 = ((a % 2 : Nat) : Int) := by
  show IntKind.u32.wrap ((BitVec.ofInt 32 (a : Int) &&& BitVec.ofInt 32 ((1 : Nat) : Int)).toNat : Int) = _
  rw [BitVec.toNat_and, BitVec.ofInt_natCast, BitVec.ofInt_natCast, BitVec.toNat_ofNat, BitVec.toNat_ofNat, Nat.mod_eq_of_lt (by omega), Nat.mod_eq_of_lt (by omega), Nat.and_one_is_mod]
  show ((a % 2 : Nat) : Int) % 4294967296 = _
  omega
theorem zs_succ (k c : Nat) : Crc.zs (k + 1) c = Crc.step (Crc.zs k c) 0 := rfl
theorem zs_lt {c : Nat} (h : c < 4294967296) (k : Nat) : Crc.zs k c < 4294967296 := Crc.crcTo_lt (by omega) k
set_option maxRecDepth 10000 in
set_option maxHeartbeats 1000000 in
theorem divided_any (c : Nat) (w : World) (hc : c < 4294967296) :
    Calls Tryz.prog 77 #[.int .u32 (c : Int)] w fun e w' => e = .returned (.int .u32 ((Crc.zs 8 c : Nat) : Int)) ∧ w' = w := by
  go_enter Tryz.func77, Tryz.ntmps77
  go_wp2
  go_loop [0, 4] (fun x i => ∃ k : Nat, k ≤ 8 ∧ i = .int .i64 k ∧ x = .int .u32 ((Crc.zs k c : Nat) : Int)) (fun _ i => 8 - (intOf i).toNat)
  case atStart => exact ⟨0, by omega, rfl, rfl⟩
  case round =>
    obtain ⟨k, hk, rfl, rfl⟩ := hrel
    have hlt := zs_lt hc k
    have HNX : Hid (Crc.zs (k + 1) c = Crc.step (Crc.zs k c) 0) := by show _ = _; rfl
    by_cases hkl : k < 8
    · have ha := u32_and_one (Crc.zs k c) hlt
      generalize Crc.zs k c = d at *
      rcases Nat.mod_two_eq_zero_or_one d with hp | hp
      · have HE : Hid (((d / 2 : Nat) : Int) = ((Crc.zs (k + 1) c : Nat) : Int)) := by show _ = _; rw [HNX.out, step_none (q := 0) (by rw [Nat.xor_zero]; exact hp) rfl]
        rw [hp] at ha
        clear hp
        go_wp2
        go_round
        case rel => exact ⟨k + 1, by omega, by go_num, by rw [← HE.out]; simp⟩
        case measure => simp [intOf]; omega
      · have HE : Hid (bits .xor .u32 ((d : Int) / 2) 3988292384 = ((Crc.zs (k + 1) c : Nat) : Int)) := by
          show _ = _
          rw [HNX.out, step_one (q := 0) (by rw [Nat.xor_zero]; exact hp) rfl, show ((d : Int) / 2) = ((d / 2 : Nat) : Int) by omega]
          exact u32_xor_nat (d / 2) 3988292384 (by omega) (by decide)
        rw [hp] at ha
        clear hp
        go_wp2
        go_round
        case rel => exact ⟨k + 1, by omega, by go_num, by rw [← HE.out]⟩
        case measure => simp [intOf]; omega
    · have hke : k = 8 := by omega
      subst hke
      go_wp2
      go_ret
      exact ⟨rfl, rfl⟩
theorem num_byte {y : Nat} (hy : y < 256) : Crc.num (fun k => Gf.bitOf y k) 8 = y := by
  revert y
  have h : ∀ y : Fin 256, Crc.num (fun k => Gf.bitOf y.1 k) 8 = y.1 := by decide +kernel
  intro y hy
  exact h ⟨y, hy⟩
theorem num_congr {f g : Nat → Nat} : ∀ m, (∀ i, i < m → f i = g i) → Crc.num f m = Crc.num g m
  | 0, _ => rfl
  | m + 1, h => by
    show Crc.num f m ^^^ 2 ^ m * f m = Crc.num g m ^^^ 2 ^ m * g m
    rw [num_congr m (fun i hi => h i (by omega)), h m (by omega)]
/-- The remainder byte by byte. -/
theorem crc_byte (s : ByteArray) (i : Nat) : Crc.crcTo (tbit s) 4294967295 (8 * (i + 1)) = Crc.zs 8 (Crc.crcTo (tbit s) 4294967295 (8 * i) ^^^ Gf.nth (bytesOf s) i) := by
  rw [show 8 * (i + 1) = 8 * i + 8 by omega, Crc.crcTo_add, Crc.crcTo_num (fun k => tbit_lt s _)]
  congr 2
  rw [← num_byte (bytesOf_lt s i)]
  refine num_congr 8 fun k hk => ?_
  show Gf.bitOf (Gf.nth (bytesOf s) ((8 * i + k) / 8)) ((8 * i + k) % 8) = _
  rw [show (8 * i + k) / 8 = i by omega, show (8 * i + k) % 8 = k by omega]
set_option maxRecDepth 10000 in
set_option maxHeartbeats 1000000 in
theorem crc_any (s : ByteArray) (w : World) (hs : s.size ≤ 1000000) :
    Calls Tryz.prog 53 #[.string s] w fun e w' => e = .returned (.int .u32 ((crcOf s : Nat) : Int)) ∧ w' = w := by
  go_enter Tryz.func53, Tryz.ntmps53
  go_wp2
  go_loop [3, 7] (fun c x => ∃ i : Nat, i ≤ s.size ∧ x = .int .i64 i ∧ c = .int .u32 ((Crc.crcTo (tbit s) 4294967295 (8 * i) : Nat) : Int)) (fun _ x => s.size - (intOf x).toNat)
  case atStart => exact ⟨0, Nat.zero_le _, rfl, rfl⟩
  case round =>
    obtain ⟨i, hi, rfl, rfl⟩ := hrel
    have hcl : Crc.crcTo (tbit s) 4294967295 (8 * i) < 4294967296 := Crc.crcTo_lt (by decide) _
    by_cases hil : i < s.size
    · have hix := run_idx s i hil
      have hy := bytesOf_lt s i
      have HNX : Hid (Crc.crcTo (tbit s) 4294967295 (8 * (i + 1)) = Crc.zs 8 (Crc.crcTo (tbit s) 4294967295 (8 * i) ^^^ Gf.nth (bytesOf s) i)) := crc_byte s i
      have hxl : Crc.crcTo (tbit s) 4294967295 (8 * i) ^^^ Gf.nth (bytesOf s) i < 4294967296 := Nat.xor_lt_two_pow (n := 32) hcl (by omega)
      have hx := u32_xor_nat (Crc.crcTo (tbit s) 4294967295 (8 * i)) (Gf.nth (bytesOf s) i) hcl (by omega)
      generalize Crc.crcTo (tbit s) 4294967295 (8 * i) = c at *
      generalize Gf.nth (bytesOf s) i = y at *
      generalize c ^^^ y = q at *
      have HD := fun W => divided_any q W hxl
      rw [← HNX.out] at HD
      clear hxl HNX
      go_wp2_with (go_at_call 77; refine (HD _).mono ?_; rintro e w' ⟨rfl, rfl⟩)
      go_round
      case rel => exact ⟨i + 1, by omega, by go_num, rfl⟩
      case measure => simp [intOf]; omega
    · have hie : i = s.size := by omega
      subst hie
      have HC : Hid (crcS s = Crc.crcTo (tbit s) 4294967295 (8 * s.size)) := by show _ = _; rfl
      have HX : Hid (bits .xor .u32 IntKind.u32.max ((Crc.crcTo (tbit s) 4294967295 (8 * s.size) : Nat) : Int) = ((crcOf s : Nat) : Int)) := by
        show _ = _
        have h := u32_xor_nat 4294967295 (Crc.crcTo (tbit s) 4294967295 (8 * s.size)) (by decide) hcl
        unfold crcOf
        rw [HC.out, Nat.xor_comm]
        exact h
      go_wp2
      go_ret
      exact ⟨ret_int HX.out, rfl⟩
theorem conv_seg {w : World} {q : Option Addr} {l : List Nat} (h : Seg w q l) (c : Nat) : (convert 53 9 (.slice q l.length c)).run Tryz.prog w = .ok (.string (strOf l)) w := by
  rcases h.cells with hl | ⟨b, o, rfl, hb, hc⟩
  · subst hl
    cases q with
    | none => exact run_convert_bytes_nil w 53 5 Tryz.underlying53 Tryz.underlying5 0 c 9 Tryz.underlying9
    | some ad =>
      have hl : (loadCells ad 0).run Tryz.prog w = .ok (([] : List Int).map (Value.int .u8)).toArray w := by simp [loadCells, loadCellsFrom]
      rw [List.length_nil, run_convert_bytes_string w 53 9 5 _ 0 c Tryz.underlying53 Tryz.underlying5 Tryz.underlying9, run_bytesToString w ad 0 c [] hl]
      rfl
  · refine run_convert_bytes_arg w 53 5 Tryz.underlying53 Tryz.underlying5 b o l.length c (l.map Int.ofNat) (by simp) (fun i hi => ?_) 9 Tryz.underlying9
    rw [hc i hi, Gf.nth_getElem l i hi, List.getD_eq_getElem?_getD, List.getElem?_map, List.getElem?_eq_getElem hi]
    rfl
/-- In block g lie the bytes l, none frozen. -/
def BRow (w : World) (g : Nat) (l : List Nat) : Prop := g < w.heap.size ∧ Gf.Bytes l ∧ ∀ j, j < l.length → w.cell? ⟨g, j, none⟩ = some (.int .u8 ((Gf.nth l j : Nat) : Int)) ∧ w.frozen? ⟨g, j, none⟩ = false
theorem BRow.cell {w : World} {g : Nat} {l : List Nat} (h : BRow w g l) {j : Nat} (hj : j < l.length) : w.cell? ⟨g, j, none⟩ = some (.int .u8 ((Gf.nth l j : Nat) : Int)) := (h.2.2 j hj).1
theorem BRow.free {w : World} {g : Nat} {l : List Nat} (h : BRow w g l) {j : Nat} (hj : j < l.length) : w.frozen? ⟨g, j, none⟩ = false := (h.2.2 j hj).2
theorem brow_nth_set {l : List Nat} {i j v : Nat} (hi : i < l.length) : Gf.nth (l.set i v) j = if j = i then v else Gf.nth l j := by
  show (l.set i v).getD j 0 = if j = i then v else l.getD j 0
  rw [List.getD_eq_getElem?_getD, List.getElem?_set]
  by_cases e : i = j
  · rw [if_pos e, if_pos hi, if_pos e.symm]; rfl
  · rw [if_neg e, if_neg (fun h => e h.symm), List.getD_eq_getElem?_getD]
theorem BRow.set {w : World} {g : Nat} {l : List Nat} (h : BRow w g l) {i : Nat} (hi : i < l.length) {v : Nat} (hv : v < 256) : BRow (w.setCell ⟨g, i, none⟩ (.int .u8 (v : Int))) g (l.set i v) := by
  refine ⟨by simpa using h.1, fun j => ?_, fun j hj => ?_⟩
  · rw [brow_nth_set hi]
    split
    · exact hv
    · exact h.2.1 j
  · rw [List.length_set] at hj
    rw [brow_nth_set hi, World.frozen?_setCell]
    refine ⟨?_, h.free hj⟩
    by_cases e : j = i
    · subst e
      rw [if_pos rfl]
      exact World.cell?_setCell_same _ _ _ (h.cell hj)
    · rw [if_neg e, World.cell?_setCell_other _ _ _ _ (fun h2 => e (by have h3 := congrArg Addr.off h2; exact h3.symm))]
      exact h.cell hj
theorem BRow.seg {w : World} {g : Nat} {l : List Nat} (h : BRow w g l) : Seg w (some ⟨g, 0, none⟩) l := ⟨h.2.1, Or.inr ⟨g, 0, rfl, h.1, fun i hi => by rw [Nat.zero_add]; exact h.cell hi⟩⟩
theorem BRow.drewN {w : World} {g : Nat} {l : List Nat} (h : BRow w g l) (n : Nat) : BRow (w.drewN n) g l := h
theorem BRow.made (w : World) (n : Nat) (t : TypeId) : BRow (w.alloc (.cells (madeCells #[.int .u8 0] n) t)) w.heap.size (List.replicate n 0) := by
  have h := World.rowIs_made w (.int .u8 0) n t
  have hn : ∀ j, Gf.nth (List.replicate n 0) j = 0 := fun j => by
    show (List.replicate n 0).getD j 0 = 0
    rw [List.getD_eq_getElem?_getD, List.getElem?_replicate]
    split <;> rfl
  refine ⟨World.rowIs.lt h, fun j => by rw [hn]; decide, fun j hj => ?_⟩
  rw [List.length_replicate] at hj
  rw [hn]
  exact ⟨World.rowIs.cell h hj, World.rowIs.frozen h j⟩
theorem brow_bytesWorld (w : World) (e : TypeId) (s : ByteArray) : BRow (Lib.bytesWorld w e s) w.heap.size (bytesOf s) := by
  refine ⟨by rw [Lib.bytesWorld_size]; omega, bytesOf_lt s, fun j hj => ?_⟩
  rw [bytesOf_length] at hj
  constructor
  · rw [Lib.bytesWorld_cell w e s j hj, bytesOf_nth s j hj, List.getD_eq_getElem?_getD, List.getElem?_eq_getElem (by simpa using hj)]
    rfl
  · have hs : s.size ≤ (Lib.bytesCells w e s).size := by
      unfold Lib.bytesCells
      rw [Array.size_append, Array.size_map]
      show s.size ≤ s.size + _
      omega
    simp [World.frozen?, Lib.bytesWorld_at_new]
    omega
theorem below_bytesWorld (w : World) (e : TypeId) (s : ByteArray) : Below w.heap.size w (Lib.bytesWorld w e s) :=
  ⟨rfl, rfl, rfl, by rw [Lib.bytesWorld_size]; omega, fun k hk => Lib.bytesWorld_at_old w e s k hk⟩
end Go.Proofs.YtmbpfbhpmafheaaGreatDoor
