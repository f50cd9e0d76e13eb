/- Texts laid together. -/
import Derived.Test.YtmbpfbhpmafheaaGreatDoorHs9
namespace Go.Proofs.YtmbpfbhpmafheaaGreatDoor
open Go.RowKit
/-- The seal's four bytes, of which the last i stand. -/
def sealL (n : Nat) : Nat → List Nat
  | 0 => List.replicate 4 0
  | i + 1 => (sealL n i).set (3 - i) (n / 2 ^ (8 * i) % 256)
theorem sealL_length (n : Nat) : ∀ i, (sealL n i).length = 4
  | 0 => rfl
  | i + 1 => by
    show ((sealL n i).set _ _).length = 4
    rw [List.length_set, sealL_length n i]
theorem sealL_four (n : Nat) : sealL n 4 = fourL n := by
  show [n / 2 ^ (8 * 3) % 256, n / 2 ^ (8 * 2) % 256, n / 2 ^ (8 * 1) % 256, n / 2 ^ (8 * 0) % 256] = [n / 16777216 % 256, n / 65536 % 256, n / 256 % 256, n % 256]
  simp
theorem sealU8 : (Tryz.prog.info? 5).map (fun i => (i.zero, i.size, i.bytes)) = some (some (.int .u8 0), 1, 1) := by kernel_rfl
theorem run_make_four (W : World) : Sem.run Tryz.prog (Instr.makeSlice 53 (.int .i64 4) (.int .i64 4)) W = .ok (.slice (some ⟨W.heap.size, 0, none⟩) 4 4) (W.alloc (.cells (madeCells #[.int .u8 0] 4) 5)) := by
  obtain ⟨i0, hi0, hz0, hz1, hzb⟩ := info_parts sealU8
  exact run_make_row (P := Tryz.prog) 53 5 i0 (.int .u8 0) Tryz.underlying53 hi0 hz0 hz1 rfl .i64 .i64 4 (by rw [hzb]; omega) (by omega) W
set_option maxRecDepth 10000 in
set_option maxHeartbeats 2000000 in
theorem sealOf_any (s : ByteArray) (w : World) (hs : s.size ≤ 1000000) :
    Calls Tryz.prog 23 #[.string s] w fun e w' => e = .returned (.string (fourT (crcOf s))) ∧ Below w.heap.size w w' := by
  have HR := crc_any s w hs
  have hlt := crcOf_lt s
  have hmk := run_make_four
  have HF : Hid (fourT (crcOf s) = strOf (sealL (crcOf s) 4)) := by show _ = _; rw [sealL_four]; rfl
  generalize crcOf s = n at *
  go_enter Tryz.func23, Tryz.ntmps23
  go_wp2_with fail
  refine HR.mono ?_
  rintro e w1 ⟨rfl, h1⟩
  rw [h1]
  clear h1 w1 HR
  go_wp2
  have hR := BRow.made w 4 5
  have hB : Below w.heap.size w (w.alloc (.cells (madeCells #[.int .u8 0] 4) 5)) := (Below.refl _ _).alloc (Nat.le_refl _) _
  generalize w.alloc (.cells (madeCells #[.int .u8 0] 4) 5) = w2 at hR hB ⊢
  have HR : Hid (BRow w2 w.heap.size (List.replicate 4 0)) := hR
  have HB : Hid (Below w.heap.size w w2) := hB
  clear hR hB hmk
  go_loopw [9] (fun x wq => ∃ i : Nat, i ≤ 4 ∧ x = .int .i64 i ∧ BRow wq w.heap.size (sealL n i) ∧ Below w.heap.size w wq) (fun x _ => 4 - (intOf x).toNat)
  case atStart => exact ⟨0, by omega, rfl, HR.out, HB.out⟩
  case round =>
    obtain ⟨i, hi, rfl, hRq, hBq⟩ := hrel
    obtain ⟨w3, rfl⟩ : ∃ w3, w3 = wr := ⟨_, rfl⟩
    have HRq : Hid (BRow w3 w.heap.size (sealL n i)) := hRq
    have HBq : Hid (Below w.heap.size w w3) := hBq
    clear hRq hBq HR HB
    by_cases hil : i < 4
    · have q1 := HRq.out.cell (j := 3 - i) (by rw [sealL_length]; omega)
      have q2 := HRq.out.free (j := 3 - i) (by rw [sealL_length]; omega)
      have HN : Hid (BRow (w3.setCell ⟨w.heap.size, 3 - i, none⟩ (.int .u8 ((n / 2 ^ (8 * i) % 256 : Nat) : Int))) w.heap.size (sealL n (i + 1))) := HRq.out.set (by rw [sealL_length]; omega) (Nat.mod_lt _ (by decide))
      have HN2 : Hid (Below w.heap.size w (w3.setCell ⟨w.heap.size, 3 - i, none⟩ (.int .u8 ((n / 2 ^ (8 * i) % 256 : Nat) : Int)))) := HBq.out.setCell (Nat.le_refl _) _
      generalize Gf.nth (sealL n i) (3 - i) = v at q1
      clear HRq HBq
      rcases (show i = 0 ∨ i = 1 ∨ i = 2 ∨ i = 3 by omega) with rfl | rfl | rfl | rfl
      · go_wp2
        go_roundw
        case rel =>
          have h1 := HN.out
          have h2 := HN2.out
          rw [show ((n / 2 ^ (8 * 0) % 256 : Nat) : Int) = (n : Int) % 256 by simp] at h1 h2
          exact ⟨1, by omega, by go_num, h1, h2⟩
        case measure => simp [intOf]
      · go_wp2
        go_roundw
        case rel =>
          exact ⟨2, by omega, by go_num, HN.out, HN2.out⟩
        case measure => simp [intOf]
      · go_wp2
        go_roundw
        case rel =>
          exact ⟨3, by omega, by go_num, HN.out, HN2.out⟩
        case measure => simp [intOf]
      · go_wp2
        go_roundw
        case rel =>
          have h1 := HN.out
          have h2 := HN2.out
          rw [show ((n / 2 ^ (8 * 3) % 256 : Nat) : Int) = (n : Int) / 16777216 by omega] at h1 h2
          exact ⟨4, by omega, by go_num, h1, h2⟩
        case measure => simp [intOf]
    · have hie : i = 4 := by omega
      subst hie
      have hcv : Sem.run Tryz.prog (convert 53 9 (.slice (some ⟨w.heap.size, 0, none⟩) 4 4)) w3 = .ok (.string (strOf (sealL n 4))) w3 := by
        have h := conv_seg HRq.out.seg 4
        rw [sealL_length] at h
        exact h
      rw [← HF.out] at hcv
      clear HRq
      go_wp2
      go_ret
      exact ⟨rfl, HBq.out⟩
set_option maxRecDepth 10000 in
theorem seal_any (s : ByteArray) (w : World) (hs : s.size ≤ 1000000) :
    Calls Tryz.prog 8 #[.string s] w fun e w' => e = .returned (.string (sealT s)) ∧ Below w.heap.size w w' := by
  have HR := sealOf_any s w hs
  have hz : (fourT (crcOf s)).size = 4 := fourT_size _
  have HE : Hid (sealT s = s ++ fourT (crcOf s)) := by show _ = _; rfl
  generalize fourT (crcOf s) = q at *
  go_enter Tryz.func8, Tryz.ntmps8
  go_wp2_with fail
  refine HR.mono ?_
  rintro e w1 ⟨rfl, hb1⟩
  clear HR
  go_wp2
  go_ret
  exact ⟨by rw [HE.out]; rfl, hb1⟩
theorem clone_any (s : ByteArray) (w : World) (hs : s.size ≤ 1000000) :
    Calls Tryz.prog 44 #[.string s] w fun e w' => e = .returned (.string s) ∧ Below w.heap.size w w' := by
  have HR := Tryz.stringslite_Clone s w (by omega)
  go_enter Tryz.func44, Tryz.ntmps44
  go_wp2_with fail
  refine HR.mono ?_
  rintro e w1 ⟨rfl, hb1⟩
  clear HR
  go_wp2
  go_ret
  exact ⟨rfl, hb1⟩
set_option maxRecDepth 10000 in
theorem open_short (s : ByteArray) (ad : Nat → Addr) (w : World) (hs : s.size < 4) (hS : Sent w ad) :
    Calls Tryz.prog 20 #[.string s] w fun e w' => e = .returned (.tuple #[.string ⟨#[]⟩, .iface 206 (.pointer (some (ad 0)))]) ∧ Below w.heap.size w w' := by
  have c0 := hS.c0
  clear hS
  go_enter Tryz.func20, Tryz.ntmps20
  go_wp2
  go_quiet (fail)
  go_wp2
  go_ret2
  exact ⟨rfl, below_drewN (Below.refl _ _) _⟩
set_option maxRecDepth 10000 in
set_option maxHeartbeats 2000000 in
theorem open_ok (s : ByteArray) (w : World) (hs : 4 ≤ s.size) (hl : s.size ≤ 1000000) (h : fourT (crcOf (cutT s)) = endT s) :
    Calls Tryz.prog 20 #[.string s] w fun e w' => e = .returned (.tuple #[.string (cutT s), .nilIface]) ∧ Below w.heap.size w w' := by
  have hc1 : ∀ W, Sem.run Tryz.prog (Instr.slice 9 (.string s) none (some (.int .i64 ((s.size : Int) - 4))) none) W = .ok (.string (cutT s)) W := fun W => by
    rw [run_slice_string_h W 9 s Tryz.underlying9 .i64 _ (by omega) (by omega)]
    unfold cutT
    rw [show ((s.size : Int) - 4).toNat = s.size - 4 by omega]
  have hc2 : ∀ W, Sem.run Tryz.prog (Instr.slice 9 (.string s) (some (.int .i64 ((s.size : Int) - 4))) none none) W = .ok (.string (endT s)) W := fun W => by
    rw [run_slice_string_l W 9 s Tryz.underlying9 .i64 _ (by omega) (by omega)]
    unfold endT
    rw [show ((s.size : Int) - 4).toNat = s.size - 4 by omega]
  have HF : Hid (∀ W, Calls Tryz.prog 23 #[.string (cutT s)] W fun e w' => e = .returned (.string (fourT (crcOf (cutT s)))) ∧ Below W.heap.size W w') := fun W => sealOf_any _ W (by rw [cutT_size]; omega)
  have HC : Hid (∀ W, Calls Tryz.prog 44 #[.string (cutT s)] W fun e w' => e = .returned (.string (cutT s)) ∧ Below W.heap.size W w') := fun W => clone_any _ W (by rw [cutT_size]; omega)
  rw [h] at HF
  clear h
  generalize cutT s = t at *
  generalize endT s = u at *
  have l0 : (0 : Int) ≤ (s.size : Int) - 4 := by omega
  have l1 : (s.size : Int) - 4 ≤ (s.size : Int) := by omega
  have l2 : (4 : Int) ≤ (s.size : Int) := by omega
  have l3 : IntKind.i64.wrap ((s.size : Int) - 4) = (s.size : Int) - 4 := by rw [IntKind.wrap_i64]; omega
  have l4 : wrap64 ((s.size : Int) - 4) = (s.size : Int) - 4 := by unfold wrap64; omega
  go_enter Tryz.func20, Tryz.ntmps20
  go_wp2
  go_region_held3 (fun _ => True) (trivial)
    (first | (go_at_call 23; refine (HF.out _).mono ?_; rintro e w1 ⟨rfl, hb1⟩))
  have HB1 : Hid (Below w.heap.size w w1) := ((Below.refl w.heap.size w).drew).trans hb1
  clear hb1
  go_wp2_with fail
  refine (HC.out _).mono ?_
  rintro e w2 ⟨rfl, hb2⟩
  go_wp2
  go_ret2
  exact ⟨rfl, HB1.out.trans (hb2.mono HB1.out.size)⟩
set_option maxRecDepth 10000 in
set_option maxHeartbeats 2000000 in
theorem open_bad (s : ByteArray) (ad : Nat → Addr) (w : World) (hs : 4 ≤ s.size) (hl : s.size ≤ 1000000) (h : fourT (crcOf (cutT s)) ≠ endT s) (hS : Sent w ad) :
    Calls Tryz.prog 20 #[.string s] w fun e w' => e = .returned (.tuple #[.string ⟨#[]⟩, .iface 206 (.pointer (some (ad 8)))]) ∧ Below w.heap.size w w' := by
  have hc1 : ∀ W, Sem.run Tryz.prog (Instr.slice 9 (.string s) none (some (.int .i64 ((s.size : Int) - 4))) none) W = .ok (.string (cutT s)) W := fun W => by
    rw [run_slice_string_h W 9 s Tryz.underlying9 .i64 _ (by omega) (by omega)]
    unfold cutT
    rw [show ((s.size : Int) - 4).toNat = s.size - 4 by omega]
  have hc2 : ∀ W, Sem.run Tryz.prog (Instr.slice 9 (.string s) (some (.int .i64 ((s.size : Int) - 4))) none none) W = .ok (.string (endT s)) W := fun W => by
    rw [run_slice_string_l W 9 s Tryz.underlying9 .i64 _ (by omega) (by omega)]
    unfold endT
    rw [show ((s.size : Int) - 4).toNat = s.size - 4 by omega]
  have HF : Hid (∀ W, Calls Tryz.prog 23 #[.string (cutT s)] W fun e w' => e = .returned (.string (fourT (crcOf (cutT s)))) ∧ Below W.heap.size W w') := fun W => sealOf_any _ W (by rw [cutT_size]; omega)
  have HS : Hid (Sent w ad) := hS
  have h1 : ¬ (endT s).toList = (fourT (crcOf (cutT s))).toList := fun e => h (toListInj e.symm)
  have h2 : ((endT s).toList == (fourT (crcOf (cutT s))).toList) = false := by simpa using h1
  have h3 : (endT s == fourT (crcOf (cutT s))) = false := by rw [beq_toListBytes]; exact h2
  clear h hS
  generalize fourT (crcOf (cutT s)) = v at *
  generalize cutT s = t at *
  generalize endT s = u at *
  have l0 : (0 : Int) ≤ (s.size : Int) - 4 := by omega
  have l1 : (s.size : Int) - 4 ≤ (s.size : Int) := by omega
  have l2 : (4 : Int) ≤ (s.size : Int) := by omega
  have l3 : IntKind.i64.wrap ((s.size : Int) - 4) = (s.size : Int) - 4 := by rw [IntKind.wrap_i64]; omega
  have l4 : wrap64 ((s.size : Int) - 4) = (s.size : Int) - 4 := by unfold wrap64; omega
  go_enter Tryz.func20, Tryz.ntmps20
  go_wp2
  go_region_held3 (fun _ => True) (trivial)
    (first | (go_at_call 23; refine (HF.out _).mono ?_; rintro e w1 ⟨rfl, hb1⟩))
  have hB1 : Below w.heap.size w w1 := ((Below.refl w.heap.size w).drew).trans hb1
  have c8 := (HS.out.below hB1).c8
  have HB1 : Hid (Below w.heap.size w w1) := hB1
  clear hb1 hB1
  go_wp2
  go_quiet (fail)
  go_wp2
  go_ret2
  exact ⟨rfl, below_drewN HB1.out _⟩
theorem flip_ne {l : List Nat} {p : Nat} (hp : p / 8 < l.length) : flip1 l p ≠ l := fun e => by
  have h := lbit_flip1 hp p
  rw [e, if_pos rfl] at h
  have := lbit_lt l p
  omega
theorem flip_open (x : ByteArray) (p : Nat) (hp : p < 8 * (x.size + 4)) :
    fourT (crcOf (cutT (strOf (flip1 (bytesOf (sealT x)) p)))) ≠ endT (strOf (flip1 (bytesOf (sealT x)) p)) := by
  have hll : (bytesOf (sealT x)).length = x.size + 4 := by rw [bytesOf_length, sealT_size]
  have hk : p / 8 < (bytesOf (sealT x)).length := by omega
  have hB := flip1_bytes (bytesOf_lt (sealT x)) hk
  have hne : strOf (flip1 (bytesOf (sealT x)) p) ≠ sealT x := fun e => by
    have h := congrArg bytesOf e
    rw [bytesOf_strOf hB] at h
    exact flip_ne hk h
  by_cases hin : p < 8 * x.size
  · have h1 : flip1 (bytesOf (sealT x)) p = flipTo (bytesOf (sealT x)) (8 * x.size) p 1 1 := by
      show _ = (if 1 / 2 ^ 0 % 2 = 1 ∧ p + 0 < 8 * x.size then flip1 (bytesOf (sealT x)) (p + 0) else bytesOf (sealT x))
      rw [if_pos ⟨by decide, by omega⟩]
      rfl
    rw [h1] at hne ⊢
    exact burst_open x p 1 1 (by decide) hne
  · have hL : (flip1 (bytesOf (sealT x)) p).length = x.size + 4 := by rw [flip1_length, hll]
    have hts : (strOf (flip1 (bytesOf (sealT x)) p)).size = x.size + 4 := by rw [strOf_size, hL]
    have hcut : cutT (strOf (flip1 (bytesOf (sealT x)) p)) = x := by
      refine bytesOf_inj ?_
      rw [bytesOf_cut, bytesOf_strOf hB, hts, Nat.add_sub_cancel]
      unfold flip1
      rw [List.take_set_of_le (by omega)]
      unfold sealT
      rw [bytesOf_append, List.take_append_of_le_length (by rw [bytesOf_length]; omega), List.take_of_length_le (by rw [bytesOf_length]; omega)]
    intro e
    rw [hcut] at e
    refine hne (bytesOf_inj ?_)
    have h2 := congrArg bytesOf e
    have h3 := congrArg bytesOf hcut
    rw [bytesOf_end, hts, Nat.add_sub_cancel] at h2
    rw [bytesOf_cut, hts, Nat.add_sub_cancel] at h3
    rw [← List.take_append_drop x.size (bytesOf (strOf (flip1 (bytesOf (sealT x)) p))), h3, ← h2]
    unfold sealT
    rw [bytesOf_append]
/-- How many bytes keys and shards have. -/
def bytesK (L : List Kep) : Nat := (L.map fun x => x.1.size + x.2.text.size).sum
theorem bytesK_succ {L : List Kep} {i : Nat} (hi : i < L.length) : bytesK (L.take (i + 1)) = bytesK (L.take i) + ((kepAt L i).1.size + (kepAt L i).2.text.size) := by
  unfold bytesK
  rw [take_succ_kep hi, List.map_append, List.sum_append]
  simp
theorem bytesK_le {L : List Kep} (hf : ∀ x ∈ L, x.1.size ≤ 16 ∧ x.2.text.size ≤ 1000) : ∀ i, i ≤ L.length → bytesK (L.take i) ≤ i * 1016
  | 0, _ => by simp [bytesK]
  | i + 1, hi => by
    have h1 := bytesK_le hf i (by omega)
    have h2 := hf (kepAt L i) (List.mem_of_getElem? (kepAt_get (show i < L.length by omega)))
    rw [bytesK_succ (by omega)]
    omega
/-- Saved t L s: the text t is L, sealed or not, saved. -/
structure SaveOk (ad : Nat → Addr) (Hd : World → Nat → (Nat → Prop) → List Kep → Bool → Prop) (Saved : ByteArray → List Kep → Bool → Prop) (X : World → Prop) : Prop where
  fits : ∀ {w h S L s}, Hd w h S L s → L.length ≤ 60 ∧ ∀ x ∈ L, x.1.size ≤ 16 ∧ x.2.text.size ≤ 1000
  save : ∀ {w h S L s}, Hd w h S L s → Sent w ad → X w → Calls Tryz.prog 10 #[.pointer (some ⟨h, 0, none⟩)] w fun e w' => ((∃ t, e = .returned (.tuple #[.string t, .nilIface]) ∧ Saved t L s) ∨ ∃ ev, e = .returned (.tuple #[.string ⟨#[]⟩, ev]) ∧ BareIs ad ev 7 ∧ 4000 < bytesK L) ∧ Below w.heap.size w w'
  sealed_ : ∀ {t L s}, Saved t L s → ∃ x, t = sealT x ∧ x.size ≤ 900000
  load : ∀ {t L s}, Saved t L s → ∀ w, Sent w ad → X w → Calls Tryz.prog 7 #[.string t] w fun e w' => (∃ h S, e = .returned (.tuple #[.pointer (some ⟨h, 0, none⟩), .nilIface]) ∧ Hd w' h S L s ∧ ∀ k, S k → w.heap.size ≤ k) ∧ Below w.heap.size w w'
  loadBad : ∀ (t : ByteArray) (w : World), 4 ≤ t.size → t.size ≤ 1000000 → fourT (crcOf (cutT t)) ≠ endT t → Sent w ad → X w → Calls Tryz.prog 7 #[.string t] w fun e w' => (∃ ev, e = .returned (.tuple #[.pointer none, ev]) ∧ BareIs ad ev 9) ∧ Below w.heap.size w w'
  loadAny : ∀ (x : ByteArray) (w : World), x.size ≤ 2000 → Sent w ad → X w → Calls Tryz.prog 7 #[.string (sealT x)] w fun e w' => ((∃ ev, e = .returned (.tuple #[.pointer none, ev]) ∧ BareIs ad ev 1) ∨ ∃ h S L s, e = .returned (.tuple #[.pointer (some ⟨h, 0, none⟩), .nilIface]) ∧ Hd w' h S L s) ∧ Below w.heap.size w w'
/-- What is an error of a number that is not 0 is that sentinel. -/
theorem bare_at {ad : Nat → Addr} {ev : Value} {i : Nat} (h : BareIs ad ev ((i + 1 : Nat) : Int)) : i < 12 ∧ ev = .iface 206 (.pointer (some (ad i))) := by
  rcases h with ⟨_, h⟩ | ⟨j, hj, rfl, h⟩
  · omega
  · obtain rfl : i = j := by omega
    exact ⟨hj, rfl⟩
/-- Another hold, made since, that has the same: it lies beside the model too. -/
theorem Two.other {ad : Nat → Addr} {Hd : World → Nat → (Nat → Prop) → List Kep → Bool → Prop} {B : Nat} {w w' : World} {hp hm : Nat} {L : List Kep} {s : Bool} {S : Nat → Prop} (h : Two Hd B w hp hm L s S) (hb : Below w.heap.size w w') (hB : B ≤ w.heap.size) {h2 : Nat} {S2 : Nat → Prop} (h' : Hd w' h2 S2 L s) (hn : ∀ k, S2 k → w.heap.size ≤ k) (hO : HoldOk ad Hd) : Two Hd B w' h2 hm L s S2 := by
  have ht := h.below hO.see hb
  obtain ⟨p, c, q0, hr, _, _, _⟩ := h.model.row
  have hlt := lt_of_cellH q0
  refine ⟨h', fun k hk => Nat.le_trans hB (hn k hk), fun hk => by have := hn _ hk; omega, fun hL b o c' e hk => ?_, ht.model, h.bm, h.len, h.names⟩
  have hk' := hn _ hk
  rw [hb.cell (p := ⟨hm, 0, none⟩) hlt, q0] at e
  obtain ⟨h1, _, _⟩ := Value.slice.inj (Option.some.inj e)
  rcases hr with h0 | ⟨b', o', hp', hlt', _⟩
  · exact absurd h0 hL
  · rw [h1] at hp'
    have hbb : b = b' := congrArg Addr.block (Option.some.inj hp')
    omega
def keyK : ByteArray := ⟨#[107]⟩
def verK : Ver := ⟨1, 0, 1, 0, ⟨#[120]⟩⟩
theorem putK : putR [] false keyK verK = (0, [(keyK, verK)]) := by decide
theorem getK : getL [(keyK, verK)] keyK = [verK] := by decide
set_option maxRecDepth 10000 in
set_option maxHeartbeats 1600000 in
theorem holds_any {ad : Nat → Addr} {X : World → Prop} {Hd : World → Nat → (Nat → Prop) → List Kep → Bool → Prop} (hO : HoldOk0 ad X Hd) (w : World) (hS : ∀ W, Below w.heap.size w W → X W) :
    Calls Tryz.prog 6 #[] w fun e w' => e = .returned (.bool true) ∧ Below w.heap.size w w' := by
  obtain ⟨w2, hw2⟩ : ∃ w2, w2 = (w.alloc (.cells #[.map none, .bool false] 39)).alloc (.cells #[.int .i64 1, .int .i64 0, .int .i64 1, .int .i64 0, .string ⟨#[120]⟩] 49) := ⟨_, rfl⟩
  have HB2 : Hid (Below w.heap.size w w2) := by rw [hw2]; exact ((Below.refl _ _).alloc (Nat.le_refl _) _).alloc (by simp) _
  have hs2 : w2.heap.size = w.heap.size + 2 := by rw [hw2]; simp
  have HS2 : Hid (w2.heap.size = w.heap.size + 2) := hs2
  have HD2 : Hid (Hd w2 w.heap.size (fun k => k = w.heap.size) [] false) := by
    refine hO.keep (hO.zero w) (by rw [hw2]; simp) (fun k hk => ?_)
    subst hk
    rw [hw2]
    exact ((Below.refl (w.alloc (.cells #[.map none, .bool false] 39)).heap.size _).alloc (Nat.le_refl _) _).block w.heap.size (by simp)
  have HC2 : Hid (w2.cell? ⟨w.heap.size + 1, 0, none⟩ = some (.int .i64 1) ∧ w2.cell? ⟨w.heap.size + 1, 1, none⟩ = some (.int .i64 0) ∧ w2.cell? ⟨w.heap.size + 1, 2, none⟩ = some (.int .i64 1) ∧ w2.cell? ⟨w.heap.size + 1, 3, none⟩ = some (.int .i64 0) ∧ w2.cell? ⟨w.heap.size + 1, 4, none⟩ = some (.string ⟨#[120]⟩)) := by
    rw [hw2]; exact ⟨by simp, by simp, by simp, by simp, by simp⟩
  have HP := hO.put keyK verK (by decide) (by decide) HD2.out (hS w2 HB2.out)
  rw [putK] at HP
  have HP2 : Calls Tryz.prog 16 #[.pointer (some ⟨w.heap.size, 0, none⟩), .string ⟨#[107]⟩, .agg #[.int .i64 1, .int .i64 0, .int .i64 1, .int .i64 0, .string ⟨#[120]⟩]] w2 _ := HP
  have HW2 : Hid (w2 = (w.alloc (.cells #[.map none, .bool false] 39)).alloc (.cells #[.int .i64 1, .int .i64 0, .int .i64 1, .int .i64 0, .string ⟨#[120]⟩] 49)) := hw2
  clear hw2 hs2 hS HP
  have HO : Hid (HoldOk0 ad X Hd) := hO
  clear hO
  go_enter Tryz.func6, Tryz.ntmps6
  go_wp2_with fail
  rw [← HW2.out]
  refine HP2.mono ?_
  rintro e w3 ⟨⟨ev, rfl, hev⟩, S', hD3, hU⟩
  obtain rfl : ev = .nilIface := by
    rcases hev with ⟨h, _⟩ | ⟨i, _, _, h⟩
    · exact h
    · exact absurd h (by simp; omega)
  have HB3 : Hid (Below w.heap.size w w3) := HB2.out.trans ⟨hU.os, hU.tape, hU.output, hU.size, fun k hk => hU.block k (by have := HS2.out; omega) (by show ¬ (k = w.heap.size); omega)⟩
  have HC3 : Hid (w3.cell? ⟨w.heap.size + 1, 0, none⟩ = some (.int .i64 1) ∧ w3.cell? ⟨w.heap.size + 1, 1, none⟩ = some (.int .i64 0) ∧ w3.cell? ⟨w.heap.size + 1, 2, none⟩ = some (.int .i64 1) ∧ w3.cell? ⟨w.heap.size + 1, 3, none⟩ = some (.int .i64 0) ∧ w3.cell? ⟨w.heap.size + 1, 4, none⟩ = some (.string ⟨#[120]⟩)) := by
    have hb := hU.block (w.heap.size + 1) (by have := HS2.out; omega) (by show ¬ (_ = _); omega)
    have hc : ∀ o, w3.cell? ⟨w.heap.size + 1, o, none⟩ = w2.cell? ⟨w.heap.size + 1, o, none⟩ := fun o => by unfold World.cell?; rw [hb]
    obtain ⟨h0, h1, h2, h3, h4⟩ := HC2.out
    exact ⟨(hc 0).trans h0, (hc 1).trans h1, (hc 2).trans h2, (hc 3).trans h3, (hc 4).trans h4⟩
  have HD3 : Hid (Hd w3 w.heap.size S' [(keyK, verK)] false) := hD3
  have HX : Hid (w.heap.size + 1 < w3.heap.size) := by have := HS2.out; have := hU.size; show _ < _; omega
  clear hev hD3 hU HP2 HC2 HD2 HW2
  have HG := HO.out.get keyK (by decide) HD3.out
  rw [getK] at HG
  have HG2 : Calls Tryz.prog 17 #[.pointer (some ⟨w.heap.size, 0, none⟩), .string ⟨#[107]⟩] w3 _ := HG
  clear HG
  go_wp2_with fail
  refine HG2.mono ?_
  rintro e w4 ⟨⟨p, c, rfl, hr⟩, hb4⟩
  clear HG2
  have HB4 : Hid (Below w3.heap.size w3 w4) := hb4
  have HR4 : Hid (Rec verE w4 p [verK]) := hr
  have HD4 : Hid (Hd w4 w.heap.size S' [(keyK, verK)] false) := HO.out.keep HD3.out hb4.size (fun k hk => hb4.block k (HO.out.lt HD3.out k hk))
  have HL := HO.out.last keyK (by decide) HD4.out
  rw [getK] at HL
  have HL2 : Calls Tryz.prog 18 #[.pointer (some ⟨w.heap.size, 0, none⟩), .string ⟨#[107]⟩] w4 fun e w' => e = .returned (.tuple #[.agg #[.int .i64 1, .int .i64 0], .bool true]) ∧ Below w4.heap.size w4 w' := HL
  clear HL hr hb4
  go_wp2_with fail
  refine HL2.mono ?_
  rintro e w5 ⟨rfl, hb5⟩
  clear HL2
  have HB5 : Hid (Below w3.heap.size w3 w5) := HB4.out.trans (hb5.mono HB4.out.size)
  obtain ⟨b, o, hpp, hblt, hrc⟩ : ∃ b o, p = some ⟨b, o, none⟩ ∧ b < w4.heap.size ∧ ∀ j u, (verC verK)[j]? = some u → w4.cell? ⟨b, o + j, none⟩ = some u := by
    rcases HR4.out with h | ⟨b, o, hp, hlt, hc⟩
    · cases h
    · refine ⟨b, o, hp, hlt, fun j u hj => ?_⟩
      have := hc 0 verK rfl j u hj
      simpa using this
  subst hpp
  obtain ⟨w6, hw6⟩ : ∃ w6, w6 = w5.alloc (.cells #[.int .i64 1, .int .i64 0] 45) := ⟨_, rfl⟩
  have HB6 : Hid (Below w5.heap.size w5 w6) := by rw [hw6]; exact (Below.refl _ _).alloc (Nat.le_refl _) _
  have HS6 : Hid (w5.heap.size < w6.heap.size) := by rw [hw6]; show _ < _; simp
  have HD6 : Hid (Hd w6 w.heap.size S' [(keyK, verK)] false) := by
    have hb := (hb5.trans (HB6.out.mono hb5.size))
    exact HO.out.keep HD4.out hb.size (fun k hk => hb.block k (HO.out.lt HD4.out k hk))
  have HC6 : Hid (w6.cell? ⟨w5.heap.size, 0, none⟩ = some (.int .i64 1) ∧ w6.cell? ⟨w5.heap.size, 1, none⟩ = some (.int .i64 0)) := by rw [hw6]; exact ⟨by simp, by simp⟩
  have HALL : Hid (∀ W, Below w6.heap.size w6 W → (W.cell? ⟨w.heap.size + 1, 0, none⟩ = some (.int .i64 1) ∧ W.cell? ⟨w.heap.size + 1, 1, none⟩ = some (.int .i64 0) ∧ W.cell? ⟨w.heap.size + 1, 2, none⟩ = some (.int .i64 1) ∧ W.cell? ⟨w.heap.size + 1, 3, none⟩ = some (.int .i64 0) ∧ W.cell? ⟨w.heap.size + 1, 4, none⟩ = some (.string ⟨#[120]⟩) ∧ W.cell? ⟨b, o, none⟩ = some (.int .i64 1) ∧ W.cell? ⟨b, o + 1, none⟩ = some (.int .i64 0) ∧ W.cell? ⟨b, o + 2, none⟩ = some (.int .i64 1) ∧ W.cell? ⟨b, o + 3, none⟩ = some (.int .i64 0) ∧ W.cell? ⟨b, o + 4, none⟩ = some (.string ⟨#[120]⟩) ∧ W.cell? ⟨w5.heap.size, 0, none⟩ = some (.int .i64 1) ∧ W.cell? ⟨w5.heap.size, 1, none⟩ = some (.int .i64 0) ∧ Below w6.heap.size w6 W)) := fun W hW => by
    have hx := HX.out
    have h36 : Below w3.heap.size w3 w6 := HB5.out.trans (HB6.out.mono HB5.out.size)
    have h46 : Below w4.heap.size w4 w6 := hb5.trans (HB6.out.mono hb5.size)
    have t3 : ∀ o', W.cell? ⟨w.heap.size + 1, o', none⟩ = w3.cell? ⟨w.heap.size + 1, o', none⟩ := fun o' => ((h36.trans (hW.mono h36.size))).cell (p := ⟨w.heap.size + 1, o', none⟩) hx
    have t4 : ∀ o', W.cell? ⟨b, o', none⟩ = w4.cell? ⟨b, o', none⟩ := fun o' => ((h46.trans (hW.mono h46.size))).cell (p := ⟨b, o', none⟩) hblt
    have t6 : ∀ o', W.cell? ⟨w5.heap.size, o', none⟩ = w6.cell? ⟨w5.heap.size, o', none⟩ := fun o' => hW.cell (p := ⟨w5.heap.size, o', none⟩) HS6.out
    obtain ⟨h0, h1, h2, h3, h4⟩ := HC3.out
    exact ⟨(t3 0).trans h0, (t3 1).trans h1, (t3 2).trans h2, (t3 3).trans h3, (t3 4).trans h4, (t4 _).trans (hrc 0 _ rfl), (t4 _).trans (hrc 1 _ rfl), (t4 _).trans (hrc 2 _ rfl), (t4 _).trans (hrc 3 _ rfl), (t4 _).trans (hrc 4 _ rfl), (t6 0).trans HC6.out.1, (t6 1).trans HC6.out.2, hW⟩
  have HW6 : Hid (w6 = w5.alloc (.cells #[.int .i64 1, .int .i64 0] 45)) := hw6
  have HCN : Hid (∀ W, Below w6.heap.size w6 W → Calls Tryz.prog 11 #[.pointer (some ⟨w.heap.size, 0, none⟩)] W fun e w' => e = .returned (.int .i64 1) ∧ Below w6.heap.size w6 w') := fun W hW => (HO.out.count (HO.out.keep HD6.out hW.size (fun k hk => hW.block k (HO.out.lt HD6.out k hk)))).mono fun e w' ⟨h1, h2⟩ => ⟨h1, hW.trans (h2.mono hW.size)⟩
  have HLS : Hid (∀ W, Below w6.heap.size w6 W → Calls Tryz.prog 19 #[.agg #[.int .i64 0, .int .i64 0], .agg #[.int .i64 1, .int .i64 0]] W fun e w' => e = .returned (.bool true) ∧ Below w6.heap.size w6 w') := fun W hW => (HO.out.less (0, 0) (1, 0) W).mono fun e w' ⟨h1, q, os, h2⟩ => ⟨h1, by rw [h2]; exact hW.trans ((below_grow W q os).mono hW.size)⟩
  have HB : Hid (Below w.heap.size w w6) := HB3.out.trans ((HB5.out.trans (HB6.out.mono HB5.out.size)).mono HB3.out.size)
  have hS0 := HALL.out w6.drew (Below.refl _ _).drew
  clear hw6 HB5 HB6 HS6 HC6 HD6 HD4 HD3 HC3 HB4 hrc hblt HR4 hb5 HX HB2 HS2 HB3
  go_wp2_with fail
  rw [← HW6.out]
  go_region_held3 (fun W => (W.cell? ⟨w.heap.size + 1, 0, none⟩ = some (.int .i64 1) ∧ W.cell? ⟨w.heap.size + 1, 1, none⟩ = some (.int .i64 0) ∧ W.cell? ⟨w.heap.size + 1, 2, none⟩ = some (.int .i64 1) ∧ W.cell? ⟨w.heap.size + 1, 3, none⟩ = some (.int .i64 0) ∧ W.cell? ⟨w.heap.size + 1, 4, none⟩ = some (.string ⟨#[120]⟩) ∧ W.cell? ⟨b, o, none⟩ = some (.int .i64 1) ∧ W.cell? ⟨b, o + 1, none⟩ = some (.int .i64 0) ∧ W.cell? ⟨b, o + 2, none⟩ = some (.int .i64 1) ∧ W.cell? ⟨b, o + 3, none⟩ = some (.int .i64 0) ∧ W.cell? ⟨b, o + 4, none⟩ = some (.string ⟨#[120]⟩) ∧ W.cell? ⟨w5.heap.size, 0, none⟩ = some (.int .i64 1) ∧ W.cell? ⟨w5.heap.size, 1, none⟩ = some (.int .i64 0) ∧ Below w6.heap.size w6 W)) (first | assumption | exact hS0) (first | (go_at_call 11; refine (HCN.out _ (by have := hS0.2.2.2.2.2.2.2.2.2.2.2.2; first | assumption | exact (And.right (by assumption)))).mono ?_; rintro e w7 ⟨rfl, hb7⟩; have hS7 := HALL.out _ hb7) | (go_at_call 19; refine (HLS.out _ hb7).mono ?_; rintro e w8 ⟨rfl, hb8⟩; have hS8 := HALL.out _ hb8))
  go_wp2
  go_ret
  exact ⟨rfl, HB.out.trans (hb8.mono HB.out.size)⟩
set_option maxRecDepth 10000 in
set_option maxHeartbeats 8000000 in
theorem rtrim_any (h : Nat) (L : List Kep) (s : Bool) (key : ByteArray) (keep : Int) (w : World) (hl : L.length ≤ 900000) (hk0 : 0 ≤ keep) (hk1 : keep ≤ 9223372036854775807) (hm : MHold w h L s) :
    Calls Tryz.prog 28 #[.pointer (some ⟨h, 0, none⟩), .string key, .int .i64 keep] w fun e w' => e = .returned (.int .i64 ((goneN L key keep : Nat) : Int)) ∧ MHold w' h (trimL L key keep) s ∧ Turn h w w' := by
  have HM : Hid (MHold w h L s) := hm
  have HG := rget_any h L s key w (by omega) hm
  obtain ⟨p, c, q0, hrec, hc, hn, hne⟩ := hm.row
  have HREC : Hid (Rec kepE w p L) := hrec
  have hlt := lt_of_cellH q0
  have HQ0 : Hid (w.cell? ⟨h, 0, none⟩ = some (.slice p L.length c)) := q0
  have hgl : (getL L key).length ≤ 900000 := Nat.le_trans (getL_le _ _) hl
  have HGN : Hid (goneN L key keep = ((getL L key).length - keep).toNat) := by show _ = _; rfl
  have HTL : Hid (trimL L key keep = trimGo key (goneN L key keep) L) := by show _ = _; rfl
  clear hrec q0 hne hn hm
  generalize getL L key = gs at *
  generalize trimL L key keep = TL at *
  generalize goneN L key keep = g at *
  go_enter Tryz.func28, Tryz.ntmps28
  go_wp2_with fail
  refine HG.mono ?_
  rintro e w1 ⟨⟨v1, rfl, hO1⟩, hb1⟩
  obtain ⟨p1, c1, rfl, _, _, _, _⟩ := hO1.form
  have HB1 : Hid (Below w.heap.size w w1) := hb1
  clear HG hO1 hb1
  have HCASE : Hid ((gs.length : Int) < keep ∧ g = 0 ∨ ¬ (gs.length : Int) < keep ∧ ((g : Nat) : Int) = gs.length - keep) := by
    show _ ∨ _
    have := HGN.out
    omega
  have HLOOP : Hid (trimGo key g (L.drop 0) = TL) := by show _ = _; rw [HTL.out]; rfl
  rcases HCASE.out with ⟨hneg, hg0⟩ | ⟨hpos, hgd⟩
  · subst hg0
    have hd1 : decide ((gs.length : Int) < keep) = true := decide_eq_true hneg
    have hd2 : decide ((gs.length : Int) - keep < 0) = true := decide_eq_true (by omega)
    clear HCASE HGN
    go_wp2
    go_loopw [8, 9, 10] (fun lf v x wq => ∃ (i left : Nat) (out : List Kep), i ≤ L.length ∧ x = .int .i64 i ∧ lf = .int .i64 (left : Int) ∧ out.length ≤ i ∧ left ≤ 900000 ∧ out ++ trimGo key left (L.drop i) = TL ∧ OwnR kepE 51 wq w.heap.size v out ∧ Below w.heap.size w wq) (fun _ _ x _ => L.length - (intOf x).toNat)
    case atStart => exact ⟨0, 0, [], Nat.zero_le _, rfl, rfl, Nat.zero_le _, by omega, HLOOP.out, OwnR.nil _ _ _, HB1.out⟩
    case round =>
      obtain ⟨i, left, out, hi, rfl, rfl, hol, hll, hTL, hO, hB⟩ := hrel
      obtain ⟨w2, rfl⟩ : ∃ w2, w2 = wr := ⟨_, rfl⟩
      obtain ⟨v, rfl⟩ : ∃ v, v = u9 := ⟨_, rfl⟩
      have HO : Hid (OwnR kepE 51 w2 w.heap.size v out) := hO
      have HB : Hid (Below w.heap.size w w2) := hB
      have HTI : Hid (out ++ trimGo key left (L.drop i) = TL) := hTL
      have q0 : w2.cell? ⟨h, 0, none⟩ = some (.slice p L.length c) := (hB.cell (p := ⟨h, 0, none⟩) hlt).trans HQ0.out
      have hz2 : w.heap.size ≤ w2.heap.size := hB.size
      clear hO hB hTL HLOOP
      by_cases hil : i < L.length
      · obtain ⟨b, o, hpp, hblt, c0, c1, c2, c3, c4, c5⟩ := kep_cells (HREC.out.below HB.out) hil
        subst hpp
        have hst := @trimGo_at L key left i hil
        have hTI := HTI.out
        rw [hst] at hTI
        clear hst HTI
        by_cases he : (kepAt L i).1 = key
        · by_cases hlf : 0 < left
          · rw [if_pos ⟨he, hlf⟩] at hTI
            have HNX : Hid (out ++ trimGo key (left - 1) (L.drop (i + 1)) = TL) := hTI
            rw [he] at c0
            clear hTI he c1 c2 c3 c4 c5
            have gl : decide ((0 : Int) < (left : Int)) = true := decide_eq_true (by omega)
            have hl1 : (left : Int) - 1 = ((left - 1 : Nat) : Int) := by omega
            have HL1 : Hid ((left : Int) - 1 = ((left - 1 : Nat) : Int)) := hl1
            clear hl1
            go_wp2
            go_roundw
            case rel => exact ⟨i + 1, left - 1, out, by omega, by go_num, by rw [← HL1.out], by omega, by omega, HNX.out, HO.out, HB.out⟩
            case measure => simp [intOf]; omega
          · rw [if_neg (fun hx => hlf hx.2)] at hTI
            have gl : decide ((0 : Int) < (left : Int)) = false := decide_eq_false (by omega)
            rw [he] at c0
            have hke : kepAt L i = (key, (kepAt L i).2) := by rw [← he]
            rw [hke] at hTI
            clear he hke
            generalize (kepAt L i).2 = x at *
            obtain ⟨xn, xw, xs, xa, xt⟩ := x
            have HNX : Hid ((out ++ [(key, ⟨xn, xw, xs, xa, xt⟩)]) ++ trimGo key left (L.drop (i + 1)) = TL) := by
              show _ = _
              rw [List.append_assoc]
              exact hTI
            clear hTI
            have HO2 : Hid (OwnR kepE 51 (w2.alloc (.cells #[.string key, .int .i64 xn, .int .i64 xw, .int .i64 xs, .int .i64 xa, .string xt] 51)) w.heap.size v out) := HO.out.kept ((Below.refl _ _).alloc (Nat.le_refl _) _)
            have HNW : Hid (∀ j u, (kepE.enc (key, ⟨xn, xw, xs, xa, xt⟩))[j]? = some u → (w2.alloc (.cells #[.string key, .int .i64 xn, .int .i64 xw, .int .i64 xs, .int .i64 xa, .string xt] 51)).cell? ⟨w2.heap.size, 0 + j, none⟩ = some u) := fun j u hj => by
              rw [Nat.zero_add, World.cell?_alloc_at _ _ _ _ rfl]
              match j, hj with
              | 0, hj => exact hj
              | 1, hj => exact hj
              | 2, hj => exact hj
              | 3, hj => exact hj
              | 4, hj => exact hj
              | 5, hj => exact hj
            have HB2 : Hid (Below w.heap.size w (w2.alloc (.cells #[.string key, .int .i64 xn, .int .i64 xw, .int .i64 xs, .int .i64 xa, .string xt] 51))) := HB.out.alloc hz2 _
            go_wp2_with (first | (at_builtin; refine wpList_append_rec rfl (.tmp 45) (.tmp 53) 41 51 rfl (.agg #[.string ⟨#[]⟩, .int .i64 0, .int .i64 0, .int .i64 0, .int .i64 0, .string ⟨#[]⟩]) 64 Tryz.underlying41 kepinfo rfl w.heap.size v out rfl HO2.out w2.heap.size 0 1 (key, ⟨xn, xw, xs, xa, xt⟩) rfl HNW.out (by unfold maxLen; omega) (by omega) HB2.out.size (by simp) ?_; intro v3 w3 hO3 hb3))
            have HO3 : Hid (OwnR kepE 51 w3 w.heap.size v3 (out ++ [(key, ⟨xn, xw, xs, xa, xt⟩)])) := hO3
            have HB3 : Hid (Below w.heap.size w w3) := HB2.out.trans hb3
            clear hO3 hb3
            go_wp2
            go_roundw
            case rel => exact ⟨i + 1, left, out ++ [(key, ⟨xn, xw, xs, xa, xt⟩)], by omega, by go_num, rfl, by rw [List.length_append]; show _ + 1 ≤ _; omega, hll, HNX.out, HO3.out, HB3.out⟩
            case measure => simp [intOf]; omega
        · rw [if_neg (fun hx => he hx.1)] at hTI
          have d1 := toList_ne he
          have d2 := toList_beq he
          have d3 := bytes_beq he
          clear he
          generalize kepAt L i = y at *
          obtain ⟨key', x⟩ := y
          obtain ⟨xn, xw, xs, xa, xt⟩ := x
          have HNX : Hid ((out ++ [(key', ⟨xn, xw, xs, xa, xt⟩)]) ++ trimGo key left (L.drop (i + 1)) = TL) := by
            show _ = _
            rw [List.append_assoc]
            exact hTI
          clear hTI
          have HO2 : Hid (OwnR kepE 51 (w2.alloc (.cells #[.string key', .int .i64 xn, .int .i64 xw, .int .i64 xs, .int .i64 xa, .string xt] 51)) w.heap.size v out) := HO.out.kept ((Below.refl _ _).alloc (Nat.le_refl _) _)
          have HNW : Hid (∀ j u, (kepE.enc (key', ⟨xn, xw, xs, xa, xt⟩))[j]? = some u → (w2.alloc (.cells #[.string key', .int .i64 xn, .int .i64 xw, .int .i64 xs, .int .i64 xa, .string xt] 51)).cell? ⟨w2.heap.size, 0 + j, none⟩ = some u) := fun j u hj => by
            rw [Nat.zero_add, World.cell?_alloc_at _ _ _ _ rfl]
            match j, hj with
            | 0, hj => exact hj
            | 1, hj => exact hj
            | 2, hj => exact hj
            | 3, hj => exact hj
            | 4, hj => exact hj
            | 5, hj => exact hj
          have HB2 : Hid (Below w.heap.size w (w2.alloc (.cells #[.string key', .int .i64 xn, .int .i64 xw, .int .i64 xs, .int .i64 xa, .string xt] 51))) := HB.out.alloc hz2 _
          go_wp2_with (first | (at_builtin; refine wpList_append_rec rfl (.tmp 45) (.tmp 53) 41 51 rfl (.agg #[.string ⟨#[]⟩, .int .i64 0, .int .i64 0, .int .i64 0, .int .i64 0, .string ⟨#[]⟩]) 64 Tryz.underlying41 kepinfo rfl w.heap.size v out rfl HO2.out w2.heap.size 0 1 (key', ⟨xn, xw, xs, xa, xt⟩) rfl HNW.out (by unfold maxLen; omega) (by omega) HB2.out.size (by simp) ?_; intro v3 w3 hO3 hb3))
          have HO3 : Hid (OwnR kepE 51 w3 w.heap.size v3 (out ++ [(key', ⟨xn, xw, xs, xa, xt⟩)])) := hO3
          have HB3 : Hid (Below w.heap.size w w3) := HB2.out.trans hb3
          clear hO3 hb3
          go_wp2
          go_roundw
          case rel => exact ⟨i + 1, left, out ++ [(key', ⟨xn, xw, xs, xa, xt⟩)], by omega, by go_num, rfl, by rw [List.length_append]; show _ + 1 ≤ _; omega, hll, HNX.out, HO3.out, HB3.out⟩
          case measure => simp [intOf]; omega
      · have hie : i = L.length := by omega
        subst hie
        have hTI := HTI.out
        rw [List.drop_length] at hTI
        have hout : out = TL := by
          have e : trimGo key left ([] : List Kep) = [] := rfl
          rw [e, List.append_nil] at hTI
          exact hTI
        subst hout
        obtain ⟨hst1, hst2⟩ := HM.out.store HB.out HO.out
        have HST : Hid (MHold (w2.setCell ⟨h, 0, none⟩ v) h out s ∧ Turn h w (w2.setCell ⟨h, 0, none⟩ v)) := ⟨hst1, hst2⟩
        have hfz : w2.frozen? ⟨h, 0, none⟩ = false := (HM.out.below HB.out).free0
        clear hst1 hst2 hTI HTI
        obtain ⟨pv, cv, hvf, _, _, _, _⟩ := HO.out.form
        subst hvf
        go_wp2
        go_ret
        exact ⟨rfl, HST.out⟩
  · have hgd' : (gs.length : Int) - keep = (g : Int) := hgd.symm
    have hgd2 : ¬ (gs.length : Int) - keep < 0 := by omega
    clear HCASE HGN hgd
    go_wp2
    go_loopw [8, 9, 10] (fun lf v x wq => ∃ (i left : Nat) (out : List Kep), i ≤ L.length ∧ x = .int .i64 i ∧ lf = .int .i64 (left : Int) ∧ out.length ≤ i ∧ left ≤ 900000 ∧ out ++ trimGo key left (L.drop i) = TL ∧ OwnR kepE 51 wq w.heap.size v out ∧ Below w.heap.size w wq) (fun _ _ x _ => L.length - (intOf x).toNat)
    case atStart => exact ⟨0, g, [], Nat.zero_le _, rfl, by first | rfl | rw [hgd'], Nat.zero_le _, by omega, HLOOP.out, OwnR.nil _ _ _, HB1.out⟩
    case round =>
      obtain ⟨i, left, out, hi, rfl, rfl, hol, hll, hTL, hO, hB⟩ := hrel
      obtain ⟨w2, rfl⟩ : ∃ w2, w2 = wr := ⟨_, rfl⟩
      obtain ⟨v, rfl⟩ : ∃ v, v = u9 := ⟨_, rfl⟩
      have HO : Hid (OwnR kepE 51 w2 w.heap.size v out) := hO
      have HB : Hid (Below w.heap.size w w2) := hB
      have HTI : Hid (out ++ trimGo key left (L.drop i) = TL) := hTL
      have q0 : w2.cell? ⟨h, 0, none⟩ = some (.slice p L.length c) := (hB.cell (p := ⟨h, 0, none⟩) hlt).trans HQ0.out
      have hz2 : w.heap.size ≤ w2.heap.size := hB.size
      clear hO hB hTL HLOOP
      by_cases hil : i < L.length
      · obtain ⟨b, o, hpp, hblt, c0, c1, c2, c3, c4, c5⟩ := kep_cells (HREC.out.below HB.out) hil
        subst hpp
        have hst := @trimGo_at L key left i hil
        have hTI := HTI.out
        rw [hst] at hTI
        clear hst HTI
        by_cases he : (kepAt L i).1 = key
        · by_cases hlf : 0 < left
          · rw [if_pos ⟨he, hlf⟩] at hTI
            have HNX : Hid (out ++ trimGo key (left - 1) (L.drop (i + 1)) = TL) := hTI
            rw [he] at c0
            clear hTI he c1 c2 c3 c4 c5
            have gl : decide ((0 : Int) < (left : Int)) = true := decide_eq_true (by omega)
            have hl1 : (left : Int) - 1 = ((left - 1 : Nat) : Int) := by omega
            have HL1 : Hid ((left : Int) - 1 = ((left - 1 : Nat) : Int)) := hl1
            clear hl1
            go_wp2
            go_roundw
            case rel => exact ⟨i + 1, left - 1, out, by omega, by go_num, by rw [← HL1.out], by omega, by omega, HNX.out, HO.out, HB.out⟩
            case measure => simp [intOf]; omega
          · rw [if_neg (fun hx => hlf hx.2)] at hTI
            have gl : decide ((0 : Int) < (left : Int)) = false := decide_eq_false (by omega)
            rw [he] at c0
            have hke : kepAt L i = (key, (kepAt L i).2) := by rw [← he]
            rw [hke] at hTI
            clear he hke
            generalize (kepAt L i).2 = x at *
            obtain ⟨xn, xw, xs, xa, xt⟩ := x
            have HNX : Hid ((out ++ [(key, ⟨xn, xw, xs, xa, xt⟩)]) ++ trimGo key left (L.drop (i + 1)) = TL) := by
              show _ = _
              rw [List.append_assoc]
              exact hTI
            clear hTI
            have HO2 : Hid (OwnR kepE 51 (w2.alloc (.cells #[.string key, .int .i64 xn, .int .i64 xw, .int .i64 xs, .int .i64 xa, .string xt] 51)) w.heap.size v out) := HO.out.kept ((Below.refl _ _).alloc (Nat.le_refl _) _)
            have HNW : Hid (∀ j u, (kepE.enc (key, ⟨xn, xw, xs, xa, xt⟩))[j]? = some u → (w2.alloc (.cells #[.string key, .int .i64 xn, .int .i64 xw, .int .i64 xs, .int .i64 xa, .string xt] 51)).cell? ⟨w2.heap.size, 0 + j, none⟩ = some u) := fun j u hj => by
              rw [Nat.zero_add, World.cell?_alloc_at _ _ _ _ rfl]
              match j, hj with
              | 0, hj => exact hj
              | 1, hj => exact hj
              | 2, hj => exact hj
              | 3, hj => exact hj
              | 4, hj => exact hj
              | 5, hj => exact hj
            have HB2 : Hid (Below w.heap.size w (w2.alloc (.cells #[.string key, .int .i64 xn, .int .i64 xw, .int .i64 xs, .int .i64 xa, .string xt] 51))) := HB.out.alloc hz2 _
            go_wp2_with (first | (at_builtin; refine wpList_append_rec rfl (.tmp 45) (.tmp 53) 41 51 rfl (.agg #[.string ⟨#[]⟩, .int .i64 0, .int .i64 0, .int .i64 0, .int .i64 0, .string ⟨#[]⟩]) 64 Tryz.underlying41 kepinfo rfl w.heap.size v out rfl HO2.out w2.heap.size 0 1 (key, ⟨xn, xw, xs, xa, xt⟩) rfl HNW.out (by unfold maxLen; omega) (by omega) HB2.out.size (by simp) ?_; intro v3 w3 hO3 hb3))
            have HO3 : Hid (OwnR kepE 51 w3 w.heap.size v3 (out ++ [(key, ⟨xn, xw, xs, xa, xt⟩)])) := hO3
            have HB3 : Hid (Below w.heap.size w w3) := HB2.out.trans hb3
            clear hO3 hb3
            go_wp2
            go_roundw
            case rel => exact ⟨i + 1, left, out ++ [(key, ⟨xn, xw, xs, xa, xt⟩)], by omega, by go_num, rfl, by rw [List.length_append]; show _ + 1 ≤ _; omega, hll, HNX.out, HO3.out, HB3.out⟩
            case measure => simp [intOf]; omega
        · rw [if_neg (fun hx => he hx.1)] at hTI
          have d1 := toList_ne he
          have d2 := toList_beq he
          have d3 := bytes_beq he
          clear he
          generalize kepAt L i = y at *
          obtain ⟨key', x⟩ := y
          obtain ⟨xn, xw, xs, xa, xt⟩ := x
          have HNX : Hid ((out ++ [(key', ⟨xn, xw, xs, xa, xt⟩)]) ++ trimGo key left (L.drop (i + 1)) = TL) := by
            show _ = _
            rw [List.append_assoc]
            exact hTI
          clear hTI
          have HO2 : Hid (OwnR kepE 51 (w2.alloc (.cells #[.string key', .int .i64 xn, .int .i64 xw, .int .i64 xs, .int .i64 xa, .string xt] 51)) w.heap.size v out) := HO.out.kept ((Below.refl _ _).alloc (Nat.le_refl _) _)
          have HNW : Hid (∀ j u, (kepE.enc (key', ⟨xn, xw, xs, xa, xt⟩))[j]? = some u → (w2.alloc (.cells #[.string key', .int .i64 xn, .int .i64 xw, .int .i64 xs, .int .i64 xa, .string xt] 51)).cell? ⟨w2.heap.size, 0 + j, none⟩ = some u) := fun j u hj => by
            rw [Nat.zero_add, World.cell?_alloc_at _ _ _ _ rfl]
            match j, hj with
            | 0, hj => exact hj
            | 1, hj => exact hj
            | 2, hj => exact hj
            | 3, hj => exact hj
            | 4, hj => exact hj
            | 5, hj => exact hj
          have HB2 : Hid (Below w.heap.size w (w2.alloc (.cells #[.string key', .int .i64 xn, .int .i64 xw, .int .i64 xs, .int .i64 xa, .string xt] 51))) := HB.out.alloc hz2 _
          go_wp2_with (first | (at_builtin; refine wpList_append_rec rfl (.tmp 45) (.tmp 53) 41 51 rfl (.agg #[.string ⟨#[]⟩, .int .i64 0, .int .i64 0, .int .i64 0, .int .i64 0, .string ⟨#[]⟩]) 64 Tryz.underlying41 kepinfo rfl w.heap.size v out rfl HO2.out w2.heap.size 0 1 (key', ⟨xn, xw, xs, xa, xt⟩) rfl HNW.out (by unfold maxLen; omega) (by omega) HB2.out.size (by simp) ?_; intro v3 w3 hO3 hb3))
          have HO3 : Hid (OwnR kepE 51 w3 w.heap.size v3 (out ++ [(key', ⟨xn, xw, xs, xa, xt⟩)])) := hO3
          have HB3 : Hid (Below w.heap.size w w3) := HB2.out.trans hb3
          clear hO3 hb3
          go_wp2
          go_roundw
          case rel => exact ⟨i + 1, left, out ++ [(key', ⟨xn, xw, xs, xa, xt⟩)], by omega, by go_num, rfl, by rw [List.length_append]; show _ + 1 ≤ _; omega, hll, HNX.out, HO3.out, HB3.out⟩
          case measure => simp [intOf]; omega
      · have hie : i = L.length := by omega
        subst hie
        have hTI := HTI.out
        rw [List.drop_length] at hTI
        have hout : out = TL := by
          have e : trimGo key left ([] : List Kep) = [] := rfl
          rw [e, List.append_nil] at hTI
          exact hTI
        subst hout
        obtain ⟨hst1, hst2⟩ := HM.out.store HB.out HO.out
        have HST : Hid (MHold (w2.setCell ⟨h, 0, none⟩ v) h out s ∧ Turn h w (w2.setCell ⟨h, 0, none⟩ v)) := ⟨hst1, hst2⟩
        have hfz : w2.frozen? ⟨h, 0, none⟩ = false := (HM.out.below HB.out).free0
        clear hst1 hst2 hTI HTI
        obtain ⟨pv, cv, hvf, _, _, _, _⟩ := HO.out.form
        subst hvf
        go_wp2
        go_ret
        exact ⟨by first | rfl | rw [hgd'], HST.out⟩
set_option maxRecDepth 10000 in
set_option maxHeartbeats 2000000 in
theorem sameTexts_any (pa pb : Option Addr) (l m : List ByteArray) (ca cb : Nat) (w : World) (hl : l.length ≤ 1000000) (_hm : m.length ≤ 1000000) (ha : Strs w pa l) (hb : Strs w pb m) :
    Calls Tryz.prog 33 #[.slice pa l.length ca, .slice pb m.length cb] w fun e w' => e = .returned (.bool (decide (l = m))) ∧ Below w.heap.size w w' := by
  by_cases hlen : l.length = m.length
  · have HT : Hid ((∀ i, i < l.length → txt l i = txt m i) → decide (l = m) = true) := fun h => decide_eq_true (txt_ext hlen h)
    have HF : Hid (∀ i, i < l.length → txt l i ≠ txt m i → decide (l = m) = false) := fun i _ h => decide_eq_false (fun e => h (by rw [e]))
    generalize decide (l = m) = r at *
    have HM : Hid (m.length = l.length) := hlen.symm
    rw [← hlen]
    clear hlen
    go_enter Tryz.func33, Tryz.ntmps33
    go_wp2
    go_loopw [5] (fun x wq => ∃ i : Nat, i ≤ l.length ∧ x = .int .i64 i ∧ (∀ j, j < i → txt l j = txt m j) ∧ ∃ n, wq = w.drewN n) (fun x _ => l.length - (intOf x).toNat)
    case atStart => exact ⟨0, Nat.zero_le _, rfl, fun j hj => absurd hj (Nat.not_lt_zero _), 0, rfl⟩
    case round =>
      obtain ⟨i, hi, rfl, hall, n, hw⟩ := hrel
      obtain ⟨w1, rfl⟩ : ∃ w1, w1 = wr := ⟨_, rfl⟩
      have HALL : Hid (∀ j, j < i → txt l j = txt m j) := hall
      have HW : Hid (∃ n, w1 = w.drewN n) := ⟨n, hw⟩
      have HA : Hid (Strs w1 pa l) := by show Strs w1 pa l; rw [hw]; exact ha.drewN n
      have HB : Hid (Strs w1 pb m) := by show Strs w1 pb m; rw [hw]; exact hb.drewN n
      clear hw hall
      by_cases hil : i < l.length
      · rcases HA.out with h0 | ⟨b1, o1, rfl, hlt1, hc1⟩
        · rw [h0] at hil; exact absurd hil (Nat.not_lt_zero _)
        rcases HB.out with h0 | ⟨b2, o2, rfl, hlt2, hc2⟩
        · have := HM.out; rw [h0] at this; have h3 : (0 : Nat) = l.length := this; omega
        have q1 := hc1 i hil
        have q2 := hc2 i (by have := HM.out; omega)
        clear hc1 hc2 HA HB
        by_cases he : txt l i = txt m i
        · have HE : Hid (txt l i = txt m i) := he
          rw [← he] at q2
          clear he
          generalize hti : txt l i = t at *
          have HTI : Hid (txt l i = t) := hti
          clear hti
          go_wp2
          go_quiet (fail)
          go_wp2
          go_roundw
          case rel => exact ⟨i + 1, by omega, by go_num, fun j hj => by
            rcases Nat.lt_or_ge j i with h | h
            · exact HALL.out j h
            · obtain rfl : j = i := by omega
              rw [HTI.out]; exact HE.out, by obtain ⟨n, hn⟩ := HW.out; exact ⟨_, by rw [hn, World.drewN_drewN]⟩⟩
          case measure => simp [intOf]; omega
        · have HR : Hid (r = false) := HF.out i hil he
          have d1 := toList_ne he
          have d2 := toList_beq he
          have d3 := bytes_beq he
          clear he HF HT HALL
          generalize txt l i = t at *
          generalize txt m i = u at *
          go_wp2
          go_quiet (fail)
          go_wp2
          go_ret
          exact ⟨by rw [HR.out]; rfl, by obtain ⟨n, hn⟩ := HW.out; rw [hn]; exact below_drewN (below_drewN (Below.refl _ _) n) _⟩
      · have HR : Hid (r = true) := HT.out (fun j hj => HALL.out j (by omega))
        go_wp2
        go_ret
        exact ⟨by rw [HR.out]; rfl, by obtain ⟨n, hn⟩ := HW.out; rw [hn]; exact below_drewN (Below.refl _ _) n⟩
  · have HR : Hid (decide (l = m) = false) := decide_eq_false (fun e => hlen (by rw [e]))
    rw [HR.out]
    have h6 : ((l.length : Int) != (m.length : Int)) = true := by rw [bne_iff_ne]; omega
    clear hlen
    go_enter Tryz.func33, Tryz.ntmps33
    go_wp2
    go_ret
    exact ⟨rfl, Below.refl _ _⟩
end Go.Proofs.YtmbpfbhpmafheaaGreatDoor
