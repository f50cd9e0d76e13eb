/- Package wire: the writer in memory, and how it takes a text. -/
import Derived.Test.YteppmkpckdmnaaaDoorWireM
import Derived.Lib.OthersKept
import Derived.Lib.FrozenHead
import Derived.Lib.SmallJoins
import Derived.OwnWalk
import Derived.Test.YteppmkpckdmnaaaDoorBRowB
import Derived.Test.YteppmkpckdmnaaaDoorRUnwB
import Derived.Test.YteppmkpckdmnaaaDoorWireCW
import Derived.Test.YteppmkpckdmnaaaDoorSealW
namespace Go.Proofs.YteppmkpckdmnaaaDoor
open Go.RowKit
/-- Block wb is a writer: its row v has the bytes l, and it is full or not. -/
structure WrAt (w : World) (B wb : Nat) (v : Value) (l : List UInt8) (f : Bool) : Prop where
  blk : w.heap[wb]? = some (.cells #[v, .bool f] 54 (0, 0))
  own : w.ownsRowF B 5 1 v l.length (Lib.byteCells l)
  ne : v.ownBlock ≠ some wb
  low : B ≤ wb
/-- All that was to be written is t: it stands there, or it is too much. -/
def WrSt (w : World) (B wb : Nat) (t : List UInt8) : Prop := ∃ v l f, WrAt w B wb v l f ∧ ((f = false ∧ l = t ∧ t.length ≤ 3996) ∨ (f = true ∧ 3996 < t.length ∧ l.length ≤ 3996))
/-- What a write leaves. -/
structure Wr (w w' : World) (B wb : Nat) (t : List UInt8) : Prop where
  st : WrSt w' B wb t
  low : Below B w w'
  rest : Lib.OthersKept 5 (some wb) w w'
theorem Wr.trans {w w' w'' : World} {B wb : Nat} {t t' : List UInt8} (h1 : Wr w w' B wb t) (h2 : Wr w' w'' B wb t') : Wr w w'' B wb t' := ⟨h2.st, h1.low.trans h2.low, h1.rest.trans h2.rest⟩
theorem WrAt.kept {w w' : World} {B wb : Nat} {v : Value} {l : List UInt8} {f : Bool} (h : WrAt w B wb v l f) (hb : Below w.heap.size w w') : WrAt w' B wb v l f :=
  ⟨(hb.block wb (Array.getElem?_eq_some_iff.1 h.blk).1).trans h.blk, World.ownsRowF.kept (row := none) h.own ⟨hb.os, hb.tape, hb.output, hb.size, fun k hk _ => hb.block k hk⟩ (by cases v.ownBlock <;> simp), h.ne, h.low⟩
theorem WrSt.kept {w w' : World} {B wb : Nat} {t : List UInt8} (h : WrSt w B wb t) (hb : Below w.heap.size w w') : WrSt w' B wb t := by
  obtain ⟨v, l, f, h1, h2⟩ := h
  exact ⟨v, l, f, h1.kept hb, h2⟩
theorem WrSt.lt {w : World} {B wb : Nat} {t : List UInt8} (h : WrSt w B wb t) : B ≤ wb ∧ wb < w.heap.size := by
  obtain ⟨v, l, f, h1, h2⟩ := h
  exact ⟨h1.low, (Array.getElem?_eq_some_iff.1 h1.blk).1⟩
/-- Where nothing that was there has turned, nothing was written. -/
theorem Wr.quiet {w w' : World} {B wb : Nat} {t : List UInt8} (h : WrSt w B wb t) (hb : Below w.heap.size w w') : Wr w w' B wb t :=
  ⟨h.kept hb, hb.mono (by have := h.lt; omega), fun k o hk _ _ => (hb.block k (Array.getElem?_eq_some_iff.1 hk).1).trans hk⟩
theorem grown_set {w : World} {wb i : Nat} (x : Value) : w.grownBy (w.setCell ⟨wb, i, none⟩ x) (some wb) := ⟨rfl, rfl, rfl, by simp, fun k _ hne => Deep.blk_setCell_other _ _ _ _ (fun e => hne (by rw [e]))⟩
theorem wByteInfo : (Tryd.prog.info? 5).map (fun i => (i.zero, i.size, i.bytes)) = some (some (.int .u8 0), 1, 1) := by kernel_rfl
set_option maxRecDepth 100000 in
set_option maxHeartbeats 1600000 in
theorem wadd_any (B wb : Nat) (t : List UInt8) (s : ByteArray) (w : World) (h : WrSt w B wb t) (hs : s.size ≤ 1000000) :
    Calls Tryd.prog 42 #[.pointer (some ⟨wb, 0, none⟩), .string s] w fun e w' => e = .returned (.tuple #[]) ∧ Wr w w' B wb (t ++ s.data.toList) := by
  obtain ⟨v, l, f, ⟨hblk, hown, hne, hlow⟩, hcase⟩ := h
  have hlt : wb < w.heap.size := (Array.getElem?_eq_some_iff.1 hblk).1
  have hsl : s.data.toList.length = s.size := by simp
  have hll : l.length ≤ 3996 := by rcases hcase with ⟨_, h1, h2⟩ | ⟨_, _, h2⟩; rw [h1]; exact h2; exact h2
  obtain ⟨p, n, c, rfl, hn⟩ : ∃ p n c, v = .slice p n c ∧ n = l.length := by
    rcases hown.2 with ⟨hv, h0⟩ | ⟨g, cap, cur, fz, hv, _⟩
    · exact ⟨_, _, _, hv, by simp at h0; simp [h0]⟩
    · exact ⟨_, _, _, hv, rfl⟩
  subst hn
  have c0 : w.cell? ⟨wb, 0, none⟩ = some (.slice p l.length c) := by simp [World.cell?, hblk]
  have c1 : w.cell? ⟨wb, 1, none⟩ = some (.bool f) := by simp [World.cell?, hblk]
  have f0 : w.frozen? ⟨wb, 0, none⟩ = false := by simp [World.frozen?, hblk]
  have f1 : w.frozen? ⟨wb, 1, none⟩ = false := by simp [World.frozen?, hblk]
  by_cases hf : 3996 - (l.length : Int) < (s.size : Int)
  · have d1 : decide (3996 - (l.length : Int) < (s.size : Int)) = true := decide_eq_true hf
    have HE : Hid (Wr w (w.setCell ⟨wb, 1, none⟩ (.bool true)) B wb (t ++ s.data.toList)) := by
      refine ⟨⟨.slice p l.length c, l, true, ⟨?_, ?_, hne, hlow⟩, Or.inr ⟨rfl, ?_, hll⟩⟩, (Below.refl _ _).setCell (p := ⟨wb, 1, none⟩) hlow _, (Lib.OthersKept.refl _ _ w).setCell ⟨wb, 1, none⟩ rfl _⟩
      · rw [Joins.block_setCell hblk]; rfl
      · exact World.ownsRowF.kept hown (grown_set _) (Or.inr hne)
      · rw [List.length_append, hsl]
        rcases hcase with ⟨_, h1, h2⟩ | ⟨_, h1, h2⟩
        · rw [← h1]; omega
        · omega
    clear hblk hown hne hcase
    go_enter Tryd.func42, Tryd.ntmps42
    go_wp2
    refine bodyPost_ret (results_none rfl _ _ _) rfl ?_
    exact ⟨rfl, HE.out⟩
  · have d1 : decide (3996 - (l.length : Int) < (s.size : Int)) = false := decide_eq_false hf
    obtain ⟨i0, hi, hz0, hz1, hz2⟩ := info_parts wByteInfo
    have HSN : Hid (Lib.byteCells l ++ Lib.strCells s = Lib.byteCells (l ++ s.data.toList)) := by show Lib.byteCells l ++ Lib.byteCells s.data.toList = _; rw [Lib.byteCells_append]
    have HCA : Hid ((f = false ∧ l ++ s.data.toList = t ++ s.data.toList ∧ (t ++ s.data.toList).length ≤ 3996) ∨ (f = true ∧ 3996 < (t ++ s.data.toList).length ∧ (l ++ s.data.toList).length ≤ 3996)) := by
      rcases hcase with ⟨h0, h1, h2⟩ | ⟨h0, h1, h2⟩
      · left
        refine ⟨h0, by rw [h1], ?_⟩
        rw [List.length_append, hsl, ← h1]; omega
      · right
        refine ⟨h0, ?_, ?_⟩
        · rw [List.length_append]; omega
        · rw [List.length_append, hsl]; omega
    have HLN : Hid ((l ++ s.data.toList).length = l.length + s.size) := by show _ = _; rw [List.length_append, hsl]
    have HOW : Hid (w.ownsRowF B 5 1 (.slice p l.length c) l.length (Lib.byteCells l)) := hown
    have HBK : Hid (w.heap[wb]? = some (.cells #[.slice p l.length c, .bool f] 54 (0, 0))) := hblk
    have HNE : Hid ((Value.slice p l.length c).ownBlock ≠ some wb) := hne
    clear hblk hown hne hcase hsl
    generalize Lib.byteCells l = bs at *
    go_enter Tryd.func42, Tryd.ntmps42
    go_wp2_with (at_builtin; refine Lib.wpList_append_own_stringF _ rfl _ _ 52 9 rfl B 5 i0 Tryd.underlying52 Tryd.underlying9 hi hz0 hz1 hz2 _ _ _ rfl HOW.out s rfl (by unfold maxLen; omega) (by omega) (by omega) ?_; intro v' w2 hown2 hg2 _; have HG2 : Hid (w.grownBy w2 (Value.slice p l.length c).ownBlock) := hg2; have hb2 := (hg2.block wb hlt (fun e => HNE.out e.symm)).trans HBK.out; have HB2 : Hid (w2.heap[wb]? = some (.cells #[.slice p l.length c, .bool f] 54 (0, 0))) := hb2; have k0 : w2.cell? ⟨wb, 0, none⟩ = some (.slice p l.length c) := (by simp [World.cell?, hb2]); have g0 : w2.frozen? ⟨wb, 0, none⟩ = false := (by simp [World.frozen?, hb2]); have HO2 : Hid (w2.ownsRowF B 5 1 v' (l.length + s.size) (bs ++ Lib.strCells s)) := hown2; obtain ⟨vp, vn, vc, hvv⟩ : ∃ p n c, v' = .slice p n c := (by rcases hown2.2 with ⟨hv, _⟩ | ⟨g, cap, cur, fz, hv, _⟩ <;> exact ⟨_, _, _, hv⟩); subst hvv; clear hown2 hg2 hb2)
    go_end0
    have hn2 : (Value.slice vp vn vc).ownBlock ≠ some wb := fun hk => by
      obtain ⟨cc, fz, hc⟩ := Lib.ownsRowF_kind HO2.out _ hk
      rw [HB2.out] at hc
      have e := Option.some.inj hc
      injection e with _ e2 _
      exact absurd e2 (by decide)
    refine ⟨rfl, ⟨⟨.slice vp vn vc, l ++ s.data.toList, f, ⟨?_, ?_, hn2, hlow⟩, HCA.out⟩, ?_, ?_⟩⟩
    · rw [Joins.block_setCell HB2.out]; rfl
    · refine World.ownsRowF.kept ?_ (grown_set _) (Or.inr hn2)
      rw [HLN.out, ← HSN.out]
      exact HO2.out
    · exact ((Below.refl _ _).grown HG2.out (by omega) (fun k hk => (HOW.out.lt k hk).1)).setCell (p := ⟨wb, 0, none⟩) hlow _
    · exact ((Lib.OthersKept.refl _ _ w).grown HG2.out (Lib.ownsRowF_kind HOW.out)).setCell ⟨wb, 0, none⟩ rfl _
end Go.Proofs.YteppmkpckdmnaaaDoor
/- Package wire: the writer's numbers and texts. -/
namespace Go.Proofs.YteppmkpckdmnaaaDoor
open Go.RowKit
/-- A number's eight bytes, of which the first i stand. -/
def eightR (n : Nat) : Nat → List Nat
  | 0 => List.replicate 8 0
  | i + 1 => (eightR n i).set i (n / 256 ^ (7 - i) % 256)
theorem eightR_length (n : Nat) : ∀ i, (eightR n i).length = 8
  | 0 => rfl
  | i + 1 => by
    show ((eightR n i).set _ _).length = 8
    rw [List.length_set, eightR_length n i]
theorem eightR_eight (n : Nat) : eightR n 8 = low n 8 := rfl
set_option maxRecDepth 100000 in
set_option maxHeartbeats 1600000 in
theorem wnum_any (B wb : Nat) (t : List UInt8) (n : Nat) (w : World) (h : WrSt w B wb t) (hn : n ≤ 9223372036854775807) :
    Calls Tryd.prog 31 #[.pointer (some ⟨wb, 0, none⟩), .int .i64 (n : Int)] w fun e w' => e = .returned (.tuple #[]) ∧ Wr w w' B wb (t ++ eightL n) := by
  have HADD : Hid (∀ (s : ByteArray) (W : World), WrSt W B wb t → s.size ≤ 1000000 → Calls Tryd.prog 42 #[.pointer (some ⟨wb, 0, none⟩), .string s] W fun e w' => e = .returned (.tuple #[]) ∧ Wr W w' B wb (t ++ s.data.toList)) := fun s W h1 h2 => wadd_any B wb t s W h1 h2
  have HST : Hid (WrSt w B wb t) := h
  have HEND : Hid ((strOf (eightR n 8)).data.toList = eightL n) := by show _ = _; rw [eightR_eight, ofL_str, ofL_data]; rfl
  clear h
  go_enter Tryd.func31, Tryd.ntmps31
  go_wp2
  have hR := BRow.made w 8 91
  have hB : Below w.heap.size w (w.alloc (.cells (madeCells #[.int .u8 0] 8) 91)) := (Below.refl _ _).alloc (Nat.le_refl _) _
  have e8 : (madeCells #[Value.int .u8 0] 8) = #[.int .u8 0, .int .u8 0, .int .u8 0, .int .u8 0, .int .u8 0, .int .u8 0, .int .u8 0, .int .u8 0] := Array.toList_inj.1 (by rw [toList_madeCells_one]; rfl)
  rw [e8] at hR hB
  have hst := HST.out.kept hB
  generalize w.alloc (.cells #[.int .u8 0, .int .u8 0, .int .u8 0, .int .u8 0, .int .u8 0, .int .u8 0, .int .u8 0, .int .u8 0] 91) = w2 at hR hB ⊢
  have HR : Hid (BRow w2 w.heap.size (List.replicate 8 0)) := hR
  have HB : Hid (Below w.heap.size w w2) := hB
  clear hR hB e8 hst
  go_loopw [6] (fun x wq => ∃ i : Nat, i ≤ 8 ∧ x = .int .i64 i ∧ BRow wq w.heap.size (eightR n i) ∧ Below w.heap.size w wq) (fun x _ => 8 - (intOf x).toNat)
  case atStart => exact ⟨0, by omega, rfl, HR.out, HB.out⟩
  case round =>
    obtain ⟨i, hi, rfl, hRq, hBq⟩ := hrel
    obtain ⟨w3, rfl⟩ : ∃ w3, w3 = wr := ⟨_, rfl⟩
    have HRq : Hid (BRow w3 w.heap.size (eightR n i)) := hRq
    have HBq : Hid (Below w.heap.size w w3) := hBq
    clear hRq hBq HR HB
    by_cases hil : i < 8
    · have q1 := HRq.out.cell (j := i) (by rw [eightR_length]; omega)
      have q2 := HRq.out.free (j := i) (by rw [eightR_length]; omega)
      have HN : Hid (BRow (w3.setCell ⟨w.heap.size, i, none⟩ (.int .u8 ((n / 256 ^ (7 - i) % 256 : Nat) : Int))) w.heap.size (eightR n (i + 1))) := HRq.out.set (by rw [eightR_length]; omega) (Nat.mod_lt _ (by decide))
      have HN2 : Hid (Below w.heap.size w (w3.setCell ⟨w.heap.size, i, none⟩ (.int .u8 ((n / 256 ^ (7 - i) % 256 : Nat) : Int)))) := HBq.out.setCell (Nat.le_refl _) _
      generalize Gf.nth (eightR n i) i = v at q1
      clear HRq HBq
      rcases (show i = 0 ∨ i = 1 ∨ i = 2 ∨ i = 3 ∨ i = 4 ∨ i = 5 ∨ i = 6 ∨ i = 7 by omega) with rfl | rfl | rfl | rfl | rfl | rfl | rfl | rfl
      · go_wp2
        have e : ((n / 256 ^ (7 - 0) % 256 : Nat) : Int) = (n : Int) / 72057594037927936 := by simp only [Nat.reduceSub, Nat.reducePow]; omega
        have h1 := HN.out
        have h2 := HN2.out
        rw [e] at h1 h2
        exact ⟨⟨1, by omega, by go_num, h1, h2⟩, by simp [intOf]⟩
      · go_wp2
        have e : ((n / 256 ^ (7 - 1) % 256 : Nat) : Int) = (n : Int) / 281474976710656 % 256 := by simp only [Nat.reduceSub, Nat.reducePow]; omega
        have h1 := HN.out
        have h2 := HN2.out
        rw [e] at h1 h2
        exact ⟨⟨2, by omega, by go_num, h1, h2⟩, by simp [intOf]⟩
      · go_wp2
        have e : ((n / 256 ^ (7 - 2) % 256 : Nat) : Int) = (n : Int) / 1099511627776 % 256 := by simp only [Nat.reduceSub, Nat.reducePow]; omega
        have h1 := HN.out
        have h2 := HN2.out
        rw [e] at h1 h2
        exact ⟨⟨3, by omega, by go_num, h1, h2⟩, by simp [intOf]⟩
      · go_wp2
        have e : ((n / 256 ^ (7 - 3) % 256 : Nat) : Int) = (n : Int) / 4294967296 % 256 := by simp only [Nat.reduceSub, Nat.reducePow]; omega
        have h1 := HN.out
        have h2 := HN2.out
        rw [e] at h1 h2
        exact ⟨⟨4, by omega, by go_num, h1, h2⟩, by simp [intOf]⟩
      · go_wp2
        have e : ((n / 256 ^ (7 - 4) % 256 : Nat) : Int) = (n : Int) / 16777216 % 256 := by simp only [Nat.reduceSub, Nat.reducePow]; omega
        have h1 := HN.out
        have h2 := HN2.out
        rw [e] at h1 h2
        exact ⟨⟨5, by omega, by go_num, h1, h2⟩, by simp [intOf]⟩
      · go_wp2
        have e : ((n / 256 ^ (7 - 5) % 256 : Nat) : Int) = (n : Int) / 65536 % 256 := by simp only [Nat.reduceSub, Nat.reducePow]; omega
        have h1 := HN.out
        have h2 := HN2.out
        rw [e] at h1 h2
        exact ⟨⟨6, by omega, by go_num, h1, h2⟩, by simp [intOf]⟩
      · go_wp2
        have e : ((n / 256 ^ (7 - 6) % 256 : Nat) : Int) = (n : Int) / 256 % 256 := by simp only [Nat.reduceSub, Nat.reducePow]; omega
        have h1 := HN.out
        have h2 := HN2.out
        rw [e] at h1 h2
        exact ⟨⟨7, by omega, by go_num, h1, h2⟩, by simp [intOf]⟩
      · go_wp2
        have e : ((n / 256 ^ (7 - 7) % 256 : Nat) : Int) = (n : Int) % 256 := by simp only [Nat.reduceSub, Nat.reducePow]; omega
        have h1 := HN.out
        have h2 := HN2.out
        rw [e] at h1 h2
        exact ⟨⟨8, by omega, by go_num, h1, h2⟩, by simp [intOf]⟩
    · have hie : i = 8 := by omega
      subst hie
      have hcv : Sem.run Tryd.prog (convert 52 9 (.slice (some ⟨w.heap.size, 0, none⟩) 8 8)) w3 = .ok (.string (strOf (eightR n 8))) w3 := by
        have h := conv_seg HRq.out.seg 8
        rw [eightR_length] at h
        exact h
      have hz : (strOf (eightR n 8)).size ≤ 1000000 := by rw [strOf_size, eightR_length]; decide
      have HAD := HADD.out (strOf (eightR n 8)) w3 (HST.out.kept HBq.out) hz
      rw [HEND.out] at HAD
      generalize strOf (eightR n 8) = q at *
      have HQ : Hid (Wr w w3 B wb t) := Wr.quiet HST.out HBq.out
      clear HRq HEND HBq
      go_wp2_with fail
      refine HAD.mono ?_
      rintro e w4 ⟨rfl, h4⟩
      have H4 : Hid (Wr w w4 B wb (t ++ eightL n)) := HQ.out.trans h4
      clear h4 HAD HQ
      go_wp2
      go_end0
      exact ⟨rfl, H4.out⟩
set_option maxRecDepth 100000 in
theorem wtext_any (B wb : Nat) (t : List UInt8) (s : ByteArray) (w : World) (h : WrSt w B wb t) (hs : s.size ≤ 1000000) :
    Calls Tryd.prog 30 #[.pointer (some ⟨wb, 0, none⟩), .string s] w fun e w' => e = .returned (.tuple #[]) ∧ Wr w w' B wb (t ++ txL s) := by
  have HN := wnum_any B wb t s.size w h (by omega)
  have HADD : Hid (∀ (W : World), WrSt W B wb (t ++ eightL s.size) → Calls Tryd.prog 42 #[.pointer (some ⟨wb, 0, none⟩), .string s] W fun e w' => e = .returned (.tuple #[]) ∧ Wr W w' B wb (t ++ eightL s.size ++ s.data.toList)) := fun W h1 => wadd_any B wb _ s W h1 hs
  have HE : Hid (t ++ eightL s.size ++ s.data.toList = t ++ txL s) := by show _ = _; unfold txL; rw [List.append_assoc]
  clear h
  go_enter Tryd.func30, Tryd.ntmps30
  go_wp2_with fail
  refine HN.mono ?_
  rintro e w1 ⟨rfl, h1⟩
  have H1 : Hid (Wr w w1 B wb (t ++ eightL s.size)) := h1
  clear h1 HN
  go_wp2_with fail
  refine (HADD.out w1 H1.out.st).mono ?_
  rintro e w2 ⟨rfl, h2⟩
  have H2 : Hid (Wr w w2 B wb (t ++ eightL s.size ++ s.data.toList)) := H1.out.trans h2
  clear h2
  go_wp2
  go_end0
  refine ⟨rfl, ?_⟩
  rw [← HE.out]
  exact H2.out
set_option maxRecDepth 100000 in
theorem wflag_any (B wb : Nat) (t : List UInt8) (is : Bool) (w : World) (h : WrSt w B wb t) :
    Calls Tryd.prog 32 #[.pointer (some ⟨wb, 0, none⟩), .bool is] w fun e w' => e = .returned (.tuple #[]) ∧ Wr w w' B wb (t ++ eightL (if is then 1 else 0)) := by
  cases is with
  | true =>
    have HN : Calls Tryd.prog 31 #[.pointer (some ⟨wb, 0, none⟩), .int .i64 1] w fun e w' => e = .returned (.tuple #[]) ∧ Wr w w' B wb (t ++ eightL 1) := wnum_any B wb t 1 w h (by omega)
    clear h
    go_enter Tryd.func32, Tryd.ntmps32
    go_wp2_with fail
    refine HN.mono ?_
    rintro e w1 ⟨rfl, h1⟩
    go_wp2
    go_end0
    exact ⟨rfl, h1⟩
  | false =>
    have HN : Calls Tryd.prog 31 #[.pointer (some ⟨wb, 0, none⟩), .int .i64 0] w fun e w' => e = .returned (.tuple #[]) ∧ Wr w w' B wb (t ++ eightL 0) := wnum_any B wb t 0 w h (by omega)
    clear h
    go_enter Tryd.func32, Tryd.ntmps32
    go_wp2_with fail
    refine HN.mono ?_
    rintro e w1 ⟨rfl, h1⟩
    go_wp2
    go_end0
    exact ⟨rfl, h1⟩
end Go.Proofs.YteppmkpckdmnaaaDoor
/- Package wire: all that is written of a message. -/
namespace Go.Proofs.YteppmkpckdmnaaaDoor
open Go.RowKit
theorem Wr.box {w w' : World} {B wb : Nat} {t : List UInt8} (h : Wr w w' B wb t) {k : Nat} {cs : Array Value} {T : TypeId} (hk : w.heap[k]? = some (.cells cs T (0, 0))) (hne : k ≠ wb) (hT : T ≠ 5) : w'.heap[k]? = some (.cells cs T (0, 0)) :=
  h.rest k _ hk (fun e => hne (Option.some.inj e)) (fun c fz e => by injection e with _ e2 _; exact hT e2)
theorem flat_take {l : List Ver} {i : Nat} (h : i < l.length) : (l.take (i + 1)).flatMap verL = (l.take i).flatMap verL ++ verL (verAt l i) := by
  rw [List.take_add_one, verAt_get h]
  simp
/-- A version whose numbers are none below 0. -/
def VerOk (v : Ver) : Prop := Fits64 v.n ∧ Fits64 v.who ∧ Fits64 v.size ∧ Fits64 v.at_ ∧ v.text.size ≤ 1000000
structure MsgOk (m : Msg) : Prop where
  op : Fits64 m.op
  config : Fits64 m.config
  vers : ∀ v ∈ m.L, VerOk v
  texts : m.from_.size ≤ 1000000 ∧ m.to_.size ≤ 1000000 ∧ m.kind.size ≤ 1000000 ∧ m.key.size ≤ 1000000
  few : m.L.length ≤ 1000000
/-- A number that is none below 0, written. -/
theorem wint_any (B wb : Nat) (t : List UInt8) (n : Int) (w : World) (h : WrSt w B wb t) (hn : Fits64 n) :
    Calls Tryd.prog 31 #[.pointer (some ⟨wb, 0, none⟩), .int .i64 n] w fun e w' => e = .returned (.tuple #[]) ∧ Wr w w' B wb (t ++ eightL n.toNat) := by
  have h1 := wnum_any B wb t n.toNat w h (by have := hn.1; have := hn.2; omega)
  rw [Int.toNat_of_nonneg hn.1] at h1
  exact h1
set_option maxRecDepth 100000 in
set_option maxHeartbeats 4000000 in
theorem wmsg_any (B wb : Nat) (m : Msg) (p : Option Addr) (c : Nat) (w : World) (h : WrSt w B wb []) (hm : MsgOk m) (hr : ∀ W, Below B w W → Rec verE W p m.L) :
    Calls Tryd.prog 17 #[.pointer (some ⟨wb, 0, none⟩), msgA m (.slice p m.L.length c)] w fun e w' => e = .returned (.tuple #[]) ∧ Wr w w' B wb (encL m) := by
  obtain ⟨m1, m2, m3, m4, m5, m6, m7, mL⟩ := m
  obtain ⟨hop, hcf, hvs, ⟨ht1, ht2, ht3, ht4⟩, hfew⟩ := hm
  unfold msgA
  simp only [] at *
  have HNUM : Hid (∀ (t : List UInt8) (n : Int) (W : World), WrSt W B wb t → Fits64 n → Calls Tryd.prog 31 #[.pointer (some ⟨wb, 0, none⟩), .int .i64 n] W fun e w' => e = .returned (.tuple #[]) ∧ Wr W w' B wb (t ++ eightL n.toNat)) := fun t n W h1 h2 => wint_any B wb t n W h1 h2
  have HNAT : Hid (∀ (t : List UInt8) (n : Nat) (W : World), WrSt W B wb t → n ≤ 1000000 → Calls Tryd.prog 31 #[.pointer (some ⟨wb, 0, none⟩), .int .i64 (n : Int)] W fun e w' => e = .returned (.tuple #[]) ∧ Wr W w' B wb (t ++ eightL n)) := fun t n W h1 h2 => wnum_any B wb t n W h1 (by omega)
  have HTXT : Hid (∀ (t : List UInt8) (s : ByteArray) (W : World), WrSt W B wb t → s.size ≤ 1000000 → Calls Tryd.prog 30 #[.pointer (some ⟨wb, 0, none⟩), .string s] W fun e w' => e = .returned (.tuple #[]) ∧ Wr W w' B wb (t ++ txL s)) := fun t s W h1 h2 => wtext_any B wb t s W h1 h2
  have HFLG : Hid (∀ (t : List UInt8) (b : Bool) (W : World), WrSt W B wb t → Calls Tryd.prog 32 #[.pointer (some ⟨wb, 0, none⟩), .bool b] W fun e w' => e = .returned (.tuple #[]) ∧ Wr W w' B wb (t ++ eightL (if b then 1 else 0))) := fun t b W h1 => wflag_any B wb t b W h1
  have hwb := h.lt
  have hne : w.heap.size ≠ wb := by omega
  obtain ⟨w0, hw0⟩ : ∃ w0, w0 = w.alloc (.cells #[.string m1, .string m2, .string m3, .string m4, .int .i64 m5, .int .i64 m6, .bool m7, .slice p mL.length c] 31) := ⟨_, rfl⟩
  have HW0 : Hid (w0 = w.alloc (.cells #[.string m1, .string m2, .string m3, .string m4, .int .i64 m5, .int .i64 m6, .bool m7, .slice p mL.length c] 31)) := hw0
  have hb0 : Below w.heap.size w w0 := by rw [hw0]; exact (Below.refl _ _).alloc (Nat.le_refl _) _
  have hx0 : w0.heap[w.heap.size]? = some (.cells #[.string m1, .string m2, .string m3, .string m4, .int .i64 m5, .int .i64 m6, .bool m7, .slice p mL.length c] 31 (0, 0)) := by rw [hw0]; exact heap_alloc_new _ _
  have HB0 : Hid (Wr w w0 B wb []) := Wr.quiet h hb0
  have HX0 : Hid (w0.heap[w.heap.size]? = some (.cells #[.string m1, .string m2, .string m3, .string m4, .int .i64 m5, .int .i64 m6, .bool m7, .slice p mL.length c] 31 (0, 0))) := hx0
  have HRC : Hid (∀ W, Below B w W → Rec verE W p mL) := hr
  have HVS : Hid (∀ v ∈ mL, VerOk v) := hvs
  clear hw0 hb0 h hr hvs
  have HFO : Hid (Fits64 m5 ∧ Fits64 m6) := ⟨hop, hcf⟩
  have HENC : Hid ((((((((([] ++ txL m1) ++ txL m2) ++ txL m3) ++ txL m4) ++ eightL m5.toNat) ++ eightL m6.toNat) ++ eightL (if m7 then 1 else 0)) ++ eightL mL.length) ++ mL.flatMap verL = encL ⟨m1, m2, m3, m4, m5, m6, m7, mL⟩) := by show _ = _; simp only [encL, headL, List.append_assoc, List.nil_append]
  generalize encL ⟨m1, m2, m3, m4, m5, m6, m7, mL⟩ = EN at *
  clear hop hcf
  have k0 : w0.cell? ⟨w.heap.size, 0, none⟩ = some (.string m1) := by simp [World.cell?, hx0]
  clear hx0
  go_enter Tryd.func17, Tryd.ntmps17
  go_wp2_with fail
  rw [← HW0.out]
  refine (HTXT.out [] m1 w0 HB0.out.st ht1).mono ?_
  rintro e w1 ⟨rfl, g1⟩
  have HB1 : Hid (Wr w w1 B wb ([] ++ txL m1)) := HB0.out.trans g1
  have hx1 := g1.box HX0.out hne (by decide)
  have HX1 : Hid (w1.heap[w.heap.size]? = some (.cells #[.string m1, .string m2, .string m3, .string m4, .int .i64 m5, .int .i64 m6, .bool m7, .slice p mL.length c] 31 (0, 0))) := hx1
  have k1 : w1.cell? ⟨w.heap.size, 1, none⟩ = some (.string m2) := by simp [World.cell?, hx1]
  clear g1 hx1 HX0 HB0 k0
  clear HW0
  go_wp2_with fail
  refine (HTXT.out ([] ++ txL m1) m2 w1 HB1.out.st ht2).mono ?_
  rintro e w2 ⟨rfl, g2⟩
  have HB2 : Hid (Wr w w2 B wb (([] ++ txL m1) ++ txL m2)) := HB1.out.trans g2
  have hx2 := g2.box HX1.out hne (by decide)
  have HX2 : Hid (w2.heap[w.heap.size]? = some (.cells #[.string m1, .string m2, .string m3, .string m4, .int .i64 m5, .int .i64 m6, .bool m7, .slice p mL.length c] 31 (0, 0))) := hx2
  have k2 : w2.cell? ⟨w.heap.size, 2, none⟩ = some (.string m3) := by simp [World.cell?, hx2]
  clear g2 hx2 HX1 HB1 k1
  go_wp2_with fail
  refine (HTXT.out (([] ++ txL m1) ++ txL m2) m3 w2 HB2.out.st ht3).mono ?_
  rintro e w3 ⟨rfl, g3⟩
  have HB3 : Hid (Wr w w3 B wb ((([] ++ txL m1) ++ txL m2) ++ txL m3)) := HB2.out.trans g3
  have hx3 := g3.box HX2.out hne (by decide)
  have HX3 : Hid (w3.heap[w.heap.size]? = some (.cells #[.string m1, .string m2, .string m3, .string m4, .int .i64 m5, .int .i64 m6, .bool m7, .slice p mL.length c] 31 (0, 0))) := hx3
  have k3 : w3.cell? ⟨w.heap.size, 3, none⟩ = some (.string m4) := by simp [World.cell?, hx3]
  clear g3 hx3 HX2 HB2 k2
  go_wp2_with fail
  refine (HTXT.out ((([] ++ txL m1) ++ txL m2) ++ txL m3) m4 w3 HB3.out.st ht4).mono ?_
  rintro e w4 ⟨rfl, g4⟩
  have HB4 : Hid (Wr w w4 B wb (((([] ++ txL m1) ++ txL m2) ++ txL m3) ++ txL m4)) := HB3.out.trans g4
  have hx4 := g4.box HX3.out hne (by decide)
  have HX4 : Hid (w4.heap[w.heap.size]? = some (.cells #[.string m1, .string m2, .string m3, .string m4, .int .i64 m5, .int .i64 m6, .bool m7, .slice p mL.length c] 31 (0, 0))) := hx4
  have k4 : w4.cell? ⟨w.heap.size, 4, none⟩ = some (.int .i64 m5) := by simp [World.cell?, hx4]
  clear g4 hx4 HX3 HB3 k3
  go_wp2_with fail
  refine (HNUM.out (((([] ++ txL m1) ++ txL m2) ++ txL m3) ++ txL m4) m5 w4 HB4.out.st HFO.out.1).mono ?_
  rintro e w5 ⟨rfl, g5⟩
  have HB5 : Hid (Wr w w5 B wb ((((([] ++ txL m1) ++ txL m2) ++ txL m3) ++ txL m4) ++ eightL m5.toNat)) := HB4.out.trans g5
  have hx5 := g5.box HX4.out hne (by decide)
  have HX5 : Hid (w5.heap[w.heap.size]? = some (.cells #[.string m1, .string m2, .string m3, .string m4, .int .i64 m5, .int .i64 m6, .bool m7, .slice p mL.length c] 31 (0, 0))) := hx5
  have k5 : w5.cell? ⟨w.heap.size, 5, none⟩ = some (.int .i64 m6) := by simp [World.cell?, hx5]
  clear g5 hx5 HX4 HB4 k4
  go_wp2_with fail
  refine (HNUM.out ((((([] ++ txL m1) ++ txL m2) ++ txL m3) ++ txL m4) ++ eightL m5.toNat) m6 w5 HB5.out.st HFO.out.2).mono ?_
  rintro e w6 ⟨rfl, g6⟩
  have HB6 : Hid (Wr w w6 B wb (((((([] ++ txL m1) ++ txL m2) ++ txL m3) ++ txL m4) ++ eightL m5.toNat) ++ eightL m6.toNat)) := HB5.out.trans g6
  have hx6 := g6.box HX5.out hne (by decide)
  have HX6 : Hid (w6.heap[w.heap.size]? = some (.cells #[.string m1, .string m2, .string m3, .string m4, .int .i64 m5, .int .i64 m6, .bool m7, .slice p mL.length c] 31 (0, 0))) := hx6
  have k6 : w6.cell? ⟨w.heap.size, 6, none⟩ = some (.bool m7) := by simp [World.cell?, hx6]
  clear g6 hx6 HX5 HB5 k5
  go_wp2_with fail
  refine (HFLG.out (((((([] ++ txL m1) ++ txL m2) ++ txL m3) ++ txL m4) ++ eightL m5.toNat) ++ eightL m6.toNat) m7 w6 HB6.out.st).mono ?_
  rintro e w7 ⟨rfl, g7⟩
  have HB7 : Hid (Wr w w7 B wb ((((((([] ++ txL m1) ++ txL m2) ++ txL m3) ++ txL m4) ++ eightL m5.toNat) ++ eightL m6.toNat) ++ eightL (if m7 then 1 else 0))) := HB6.out.trans g7
  have hx7 := g7.box HX6.out hne (by decide)
  have HX7 : Hid (w7.heap[w.heap.size]? = some (.cells #[.string m1, .string m2, .string m3, .string m4, .int .i64 m5, .int .i64 m6, .bool m7, .slice p mL.length c] 31 (0, 0))) := hx7
  have k7 : w7.cell? ⟨w.heap.size, 7, none⟩ = some (.slice p mL.length c) := by simp [World.cell?, hx7]
  clear g7 hx7 HX6 HB6 k6
  go_wp2_with fail
  refine (HNAT.out ((((((([] ++ txL m1) ++ txL m2) ++ txL m3) ++ txL m4) ++ eightL m5.toNat) ++ eightL m6.toNat) ++ eightL (if m7 then 1 else 0)) mL.length w7 HB7.out.st hfew).mono ?_
  rintro e w8 ⟨rfl, g8⟩
  have HB8 : Hid (Wr w w8 B wb (((((((([] ++ txL m1) ++ txL m2) ++ txL m3) ++ txL m4) ++ eightL m5.toNat) ++ eightL m6.toNat) ++ eightL (if m7 then 1 else 0)) ++ eightL mL.length)) := HB7.out.trans g8
  have hx8 := g8.box HX7.out hne (by decide)
  have HX8 : Hid (w8.heap[w.heap.size]? = some (.cells #[.string m1, .string m2, .string m3, .string m4, .int .i64 m5, .int .i64 m6, .bool m7, .slice p mL.length c] 31 (0, 0))) := hx8
  have k8 : w8.cell? ⟨w.heap.size, 7, none⟩ = some (.slice p mL.length c) := by simp [World.cell?, hx8]
  clear g8 hx8 HX7 HB7 k7
  have hw8 : wb < w8.heap.size := HB8.out.st.lt.2
  generalize hT8 : (((((((([] ++ txL m1) ++ txL m2) ++ txL m3) ++ txL m4) ++ eightL m5.toNat) ++ eightL m6.toNat) ++ eightL (if m7 then 1 else 0)) ++ eightL mL.length) = T8 at *
  have HZ : Hid (T8 ++ (mL.take 0).flatMap verL = T8) := by show _ = _; simp
  have HLE : Hid (w.heap.size ≤ w8.heap.size) := HB8.out.low.size
  go_wp2
  go_loopw [42] (fun x wr => ∃ k : Nat, k ≤ mL.length ∧ x = .int .i64 k ∧ Wr w wr B wb (T8 ++ (mL.take k).flatMap verL)) (fun x _ => mL.length - (intOf x).toNat)
  case atStart => exact ⟨0, Nat.zero_le _, rfl, by rw [HZ.out]; exact HB8.out⟩
  case round =>
    obtain ⟨k, hk, rfl, hw⟩ := hrel
    obtain ⟨v0, rfl⟩ : ∃ v0, v0 = wr := ⟨_, rfl⟩
    have HV0 : Hid (Wr w v0 B wb (T8 ++ (mL.take k).flatMap verL)) := hw
    clear hw HZ HB8 k8 hw8 HX8
    by_cases hkl : k < mL.length
    · obtain ⟨b, off, hpp, hblt, c0, c1, c2, c3, c4⟩ := ver_cells (HRC.out v0 HV0.out.low) hkl
      subst hpp
      have hvo := HVS.out (verAt mL k) (List.mem_of_getElem? (verAt_get hkl))
      have HNX : Hid ((mL.take (k + 1)).flatMap verL = (mL.take k).flatMap verL ++ verL (verAt mL k)) := flat_take hkl
      generalize verAt mL k = x at *
      obtain ⟨xn, xw, xs, xa, xt⟩ := x
      obtain ⟨o1, o2, o3, o4, o5⟩ := hvo
      simp only [] at *
      have HO : Hid (Fits64 xn ∧ Fits64 xw ∧ Fits64 xs ∧ Fits64 xa ∧ xt.size ≤ 1000000) := ⟨o1, o2, o3, o4, o5⟩
      generalize (mL.take k).flatMap verL = q at *
      have hz0 := HV0.out.st.lt
      have hnv : v0.heap.size ≠ wb := by omega
      obtain ⟨u0, hu0⟩ : ∃ u0, u0 = v0.alloc (.cells #[.int .i64 xn, .int .i64 xw, .int .i64 xs, .int .i64 xa, .string xt] 50) := ⟨_, rfl⟩
      have HU0 : Hid (u0 = v0.alloc (.cells #[.int .i64 xn, .int .i64 xw, .int .i64 xs, .int .i64 xa, .string xt] 50)) := hu0
      have hb0 : Below v0.heap.size v0 u0 := by rw [hu0]; exact (Below.refl _ _).alloc (Nat.le_refl _) _
      have hy0 : u0.heap[v0.heap.size]? = some (.cells #[.int .i64 xn, .int .i64 xw, .int .i64 xs, .int .i64 xa, .string xt] 50 (0, 0)) := by rw [hu0]; exact heap_alloc_new _ _
      have HG0 : Hid (Wr w u0 B wb (T8 ++ q)) := HV0.out.trans (Wr.quiet HV0.out.st hb0)
      have HY0 : Hid (u0.heap[v0.heap.size]? = some (.cells #[.int .i64 xn, .int .i64 xw, .int .i64 xs, .int .i64 xa, .string xt] 50 (0, 0))) := hy0
      have j0 : u0.cell? ⟨v0.heap.size, 0, none⟩ = some (.int .i64 xn) := by simp [World.cell?, hy0]
      clear hu0 hb0 hy0 hz0 o1 o2 o3 o4 HV0
      have HQE : Hid (((((((T8 ++ q) ++ eightL xn.toNat) ++ eightL xw.toNat) ++ eightL xs.toNat) ++ eightL xa.toNat) ++ txL xt) = T8 ++ (q ++ verL ⟨xn, xw, xs, xa, xt⟩)) := by show _ = _; simp only [verL, List.append_assoc]
      generalize verL ⟨xn, xw, xs, xa, xt⟩ = VL at *
      go_wp2_with fail
      rw [← HU0.out]
      refine (HNUM.out (T8 ++ q) xn u0 HG0.out.st HO.out.1).mono ?_
      rintro e u1 ⟨rfl, g1⟩
      have HG1 : Hid (Wr w u1 B wb ((T8 ++ q) ++ eightL xn.toNat)) := HG0.out.trans g1
      have hy1 := g1.box HY0.out hnv (by decide)
      have HY1 : Hid (u1.heap[v0.heap.size]? = some (.cells #[.int .i64 xn, .int .i64 xw, .int .i64 xs, .int .i64 xa, .string xt] 50 (0, 0))) := hy1
      have j1 : u1.cell? ⟨v0.heap.size, 1, none⟩ = some (.int .i64 xw) := by simp [World.cell?, hy1]
      clear g1 hy1 HY0 HG0 j0
      clear HU0 c0 c1 c2 c3 c4
      go_wp2_with fail
      refine (HNUM.out ((T8 ++ q) ++ eightL xn.toNat) xw u1 HG1.out.st HO.out.2.1).mono ?_
      rintro e u2 ⟨rfl, g2⟩
      have HG2 : Hid (Wr w u2 B wb (((T8 ++ q) ++ eightL xn.toNat) ++ eightL xw.toNat)) := HG1.out.trans g2
      have hy2 := g2.box HY1.out hnv (by decide)
      have HY2 : Hid (u2.heap[v0.heap.size]? = some (.cells #[.int .i64 xn, .int .i64 xw, .int .i64 xs, .int .i64 xa, .string xt] 50 (0, 0))) := hy2
      have j2 : u2.cell? ⟨v0.heap.size, 2, none⟩ = some (.int .i64 xs) := by simp [World.cell?, hy2]
      clear g2 hy2 HY1 HG1 j1
      go_wp2_with fail
      refine (HNUM.out (((T8 ++ q) ++ eightL xn.toNat) ++ eightL xw.toNat) xs u2 HG2.out.st HO.out.2.2.1).mono ?_
      rintro e u3 ⟨rfl, g3⟩
      have HG3 : Hid (Wr w u3 B wb ((((T8 ++ q) ++ eightL xn.toNat) ++ eightL xw.toNat) ++ eightL xs.toNat)) := HG2.out.trans g3
      have hy3 := g3.box HY2.out hnv (by decide)
      have HY3 : Hid (u3.heap[v0.heap.size]? = some (.cells #[.int .i64 xn, .int .i64 xw, .int .i64 xs, .int .i64 xa, .string xt] 50 (0, 0))) := hy3
      have j3 : u3.cell? ⟨v0.heap.size, 3, none⟩ = some (.int .i64 xa) := by simp [World.cell?, hy3]
      clear g3 hy3 HY2 HG2 j2
      go_wp2_with fail
      refine (HNUM.out ((((T8 ++ q) ++ eightL xn.toNat) ++ eightL xw.toNat) ++ eightL xs.toNat) xa u3 HG3.out.st HO.out.2.2.2.1).mono ?_
      rintro e u4 ⟨rfl, g4⟩
      have HG4 : Hid (Wr w u4 B wb (((((T8 ++ q) ++ eightL xn.toNat) ++ eightL xw.toNat) ++ eightL xs.toNat) ++ eightL xa.toNat)) := HG3.out.trans g4
      have hy4 := g4.box HY3.out hnv (by decide)
      have HY4 : Hid (u4.heap[v0.heap.size]? = some (.cells #[.int .i64 xn, .int .i64 xw, .int .i64 xs, .int .i64 xa, .string xt] 50 (0, 0))) := hy4
      have j4 : u4.cell? ⟨v0.heap.size, 4, none⟩ = some (.string xt) := by simp [World.cell?, hy4]
      clear g4 hy4 HY3 HG3 j3
      go_wp2_with fail
      refine (HTXT.out (((((T8 ++ q) ++ eightL xn.toNat) ++ eightL xw.toNat) ++ eightL xs.toNat) ++ eightL xa.toNat) xt u4 HG4.out.st HO.out.2.2.2.2).mono ?_
      rintro e u5 ⟨rfl, g5⟩
      have HG5 : Hid (Wr w u5 B wb ((((((T8 ++ q) ++ eightL xn.toNat) ++ eightL xw.toNat) ++ eightL xs.toNat) ++ eightL xa.toNat) ++ txL xt)) := HG4.out.trans g5
      clear g5 HY4 HG4 j4
      go_wp2
      go_roundw
      case rel => exact ⟨k + 1, by omega, by go_num, by rw [HNX.out, ← HQE.out]; exact HG5.out⟩
      case measure => simp [intOf]; omega
    · obtain rfl : k = mL.length := by omega
      have HFI : Hid (Wr w v0 B wb EN) := by
        have h1 := HV0.out
        rw [List.take_length, HENC.out] at h1
        exact h1
      clear HV0
      go_wp2
      go_end0
      exact ⟨rfl, HFI.out⟩
end Go.Proofs.YteppmkpckdmnaaaDoor
/- Package wire: Encode. -/
namespace Go.Proofs.YteppmkpckdmnaaaDoor
open Go.RowKit
def negV (v : Ver) : Bool := decide (v.n < 0) || decide (v.who < 0) || decide (v.size < 0) || decide (v.at_ < 0)
theorem any_take {l : List Ver} {i : Nat} (h : i < l.length) : (l.take (i + 1)).any negV = ((l.take i).any negV || negV (verAt l i)) := by
  rw [List.take_add_one, verAt_get h]
  simp
set_option maxRecDepth 100000 in
set_option maxHeartbeats 4000000 in
theorem inb_any (m : Msg) (p : Option Addr) (c : Nat) (w : World) (hl : m.L.length ≤ 1000000) (hr : Rec verE w p m.L) :
    Calls Tryd.prog 16 #[msgA m (.slice p m.L.length c)] w fun e w' => e = .returned (.bool (!negM m)) ∧ Below w.heap.size w w' := by
  have hneg : negM m = (decide (m.op < 0) || decide (m.config < 0) || m.L.any negV) := rfl
  rw [hneg]
  obtain ⟨m1, m2, m3, m4, m5, m6, m7, mL⟩ := m
  unfold msgA
  simp only [] at *
  clear hneg
  obtain ⟨w1, hw1⟩ : ∃ w1, w1 = w.alloc (.cells #[.string m1, .string m2, .string m3, .string m4, .int .i64 m5, .int .i64 m6, .bool m7, .slice p mL.length c] 31) := ⟨_, rfl⟩
  have HW1 : Hid (w1 = w.alloc (.cells #[.string m1, .string m2, .string m3, .string m4, .int .i64 m5, .int .i64 m6, .bool m7, .slice p mL.length c] 31)) := hw1
  have hb1 : Below w.heap.size w w1 := by rw [hw1]; exact (Below.refl _ _).alloc (Nat.le_refl _) _
  have HB1 : Hid (Below w.heap.size w w1) := hb1
  have hlt1 : w.heap.size < w1.heap.size := by rw [hw1]; simp
  have q7 : w1.cell? ⟨w.heap.size, 7, none⟩ = some (.slice p mL.length c) := by rw [hw1, World.cell?_alloc_at _ _ _ _ rfl]; rfl
  have HRC : Hid (∀ W, Below w.heap.size w W → Rec verE W p mL) := fun W hW => hr.below hW
  have HA0 : Hid ((mL.take 0).any negV = false) := by show _ = _; simp
  have HAN : Hid (∀ i, i < mL.length → (mL.take (i + 1)).any negV = ((mL.take i).any negV || negV (verAt mL i))) := fun i hi => any_take hi
  have HAT : Hid (∀ i, i < mL.length → negV (verAt mL i) = true → mL.any negV = true) := fun i hi h => List.any_eq_true.2 ⟨_, List.mem_of_getElem? (verAt_get hi), h⟩
  have HAE : Hid ((mL.take mL.length).any negV = mL.any negV) := by show _ = _; rw [List.take_length]
  clear hw1 hb1 hr
  by_cases h1 : m5 < 0
  · have d1 : decide (m5 < 0) = true := decide_eq_true h1
    rw [d1]
    go_enter Tryd.func16, Tryd.ntmps16
    go_wp2
    go_ret
    exact ⟨rfl, by rw [← HW1.out]; exact HB1.out⟩
  by_cases h2 : m6 < 0
  · have d1 : decide (m5 < 0) = false := decide_eq_false h1
    have d2 : decide (m6 < 0) = true := decide_eq_true h2
    rw [d1, d2]
    go_enter Tryd.func16, Tryd.ntmps16
    go_wp2
    go_ret
    exact ⟨rfl, by rw [← HW1.out]; exact HB1.out⟩
  have d1 : decide (m5 < 0) = false := decide_eq_false h1
  have d2 : decide (m6 < 0) = false := decide_eq_false h2
  rw [d1, d2]
  simp only [Bool.false_or]
  generalize mL.any negV = R at *
  go_enter Tryd.func16, Tryd.ntmps16
  go_wp2
  rw [show w.alloc (.cells #[.string m1, .string m2, .string m3, .string m4, .int .i64 m5, .int .i64 m6, .bool m7, .slice p mL.length c] 31) = w1 from HW1.out.symm]
  clear HW1
  go_loopw [16] (fun x wr => ∃ k : Nat, k ≤ mL.length ∧ x = .int .i64 k ∧ (mL.take k).any negV = false ∧ Below w.heap.size w wr) (fun x _ => mL.length - (intOf x).toNat)
  case atStart => exact ⟨0, Nat.zero_le _, rfl, HA0.out, HB1.out⟩
  case round =>
    obtain ⟨k, hk, rfl, ha, hw⟩ := hrel
    obtain ⟨v0, rfl⟩ : ∃ v0, v0 = wr := ⟨_, rfl⟩
    have HV0 : Hid (Below w.heap.size w v0) := hw
    have HA : Hid ((mL.take k).any negV = false) := ha
    clear hw ha HA0 HB1
    by_cases hkl : k < mL.length
    · obtain ⟨b, off, hpp, hblt, c0, c1, c2, c3, c4⟩ := ver_cells (HRC.out v0 HV0.out) hkl
      subst hpp
      have hz0 := HV0.out.size
      have HAN1 := HAN.out k hkl
      have HAT1 := HAT.out k hkl
      rw [HA.out, Bool.false_or] at HAN1
      have HNX : Hid ((mL.take (k + 1)).any negV = negV (verAt mL k)) := HAN1
      have HTR : Hid (negV (verAt mL k) = true → R = true) := HAT1
      clear HAN1 HAT1
      generalize verAt mL k = x at *
      obtain ⟨xn, xw, xs, xa, xt⟩ := x
      unfold negV at HTR
      simp only [] at *
      have HU : Hid (Below w.heap.size w (v0.alloc (.cells #[.int .i64 xn, .int .i64 xw, .int .i64 xs, .int .i64 xa, .string xt] 50))) := HV0.out.alloc hz0 _
      by_cases g1 : xn < 0
      · have e1 : decide (xn < 0) = true := decide_eq_true g1
        obtain rfl : R = true := HTR.out (by rw [e1]; rfl)
        go_wp2
        go_ret
        exact ⟨rfl, HU.out⟩
      have e1 : decide (xn < 0) = false := decide_eq_false g1
      by_cases g2 : xw < 0
      · have e2 : decide (xw < 0) = true := decide_eq_true g2
        obtain rfl : R = true := HTR.out (by rw [e2]; simp)
        go_wp2
        go_ret
        exact ⟨rfl, HU.out⟩
      have e2 : decide (xw < 0) = false := decide_eq_false g2
      by_cases g3 : xs < 0
      · have e3 : decide (xs < 0) = true := decide_eq_true g3
        obtain rfl : R = true := HTR.out (by rw [e3]; simp)
        go_wp2
        go_ret
        exact ⟨rfl, HU.out⟩
      have e3 : decide (xs < 0) = false := decide_eq_false g3
      by_cases g4 : xa < 0
      · have e4 : decide (xa < 0) = true := decide_eq_true g4
        obtain rfl : R = true := HTR.out (by rw [e4]; simp)
        go_wp2
        go_ret
        exact ⟨rfl, HU.out⟩
      have e4 : decide (xa < 0) = false := decide_eq_false g4
      have HNF : Hid ((mL.take (k + 1)).any negV = false) := by
        show _ = _
        rw [HNX.out]
        unfold negV
        simp only []
        rw [e1, e2, e3, e4]
        rfl
      go_wp2
      go_roundw
      case rel => exact ⟨k + 1, by omega, by go_num, HNF.out, HU.out⟩
      case measure => simp [intOf]; omega
    · obtain rfl : k = mL.length := by omega
      have hR : R = false := by rw [← HAE.out, HA.out]
      subst hR
      go_wp2
      go_ret
      exact ⟨rfl, HV0.out⟩
theorem msgOk_of {m : Msg} (h : negM m = false) (hb : bulkN m ≤ 9000) (hle : MsgLe m) : MsgOk m := by
  obtain ⟨h1, h2⟩ := hle
  unfold negM at h
  simp only [Bool.or_eq_false_iff, decide_eq_false_iff_not, List.any_eq_false] at h
  obtain ⟨⟨ho, hc⟩, hv⟩ := h
  have hl := bulkV_len m.L
  unfold bulkN at hb
  refine ⟨⟨by omega, h1.1⟩, ⟨by omega, h1.2⟩, fun v hx => ?_, ⟨by omega, by omega, by omega, by omega⟩, by omega⟩
  have a := hv v hx
  obtain ⟨b1, b2, b3, b4⟩ := h2 v hx
  have ht : v.text.size ≤ bulkV m.L := by
    unfold bulkV
    clear hv h2 a b1 b2 b3 b4 hl hb
    generalize m.L = l at *
    induction l with
    | nil => cases hx
    | cons x l ih =>
      rw [List.map_cons, List.sum_cons]
      rcases List.mem_cons.1 hx with h | h
      · rw [h]; omega
      · have := ih h; omega
  simp at a
  exact ⟨⟨by omega, b1⟩, ⟨by omega, b2⟩, ⟨by omega, b3⟩, ⟨by omega, b4⟩, by omega⟩
end Go.Proofs.YteppmkpckdmnaaaDoor
/- Package wire: Encode, as it is asked. -/
namespace Go.Proofs.YteppmkpckdmnaaaDoor
open Go.RowKit
theorem own_conv {w : World} {B : Nat} {v : Value} {l : List UInt8} (h : w.ownsRowF B 5 1 v l.length (Lib.byteCells l)) : Sem.run Tryd.prog (convert 52 9 v) w = .ok (.string (ofL l)) w := by
  have hl : strOf (l.map (·.toNat)) = ofL l := by
    rw [ofL_str, List.map_map]
    congr 1
    conv => rhs; rw [← List.map_id l]
    exact List.map_congr_left fun x _ => by simp
  have hB : Gf.Bytes (l.map (·.toNat)) := fun i => by
    show (l.map (·.toNat)).getD i 0 < 256
    rw [List.getD_eq_getElem?_getD, List.getElem?_map]
    cases l[i]? with
    | none => decide
    | some x => exact x.toNat_lt
  have hlen : (l.map (·.toNat)).length = l.length := List.length_map _
  rcases h.2 with ⟨hv, h0⟩ | ⟨g, cap, cur, fz, hv, hb, hg, _⟩
  · have hs : Seg w none (l.map (·.toNat)) := ⟨hB, Or.inl (List.length_eq_zero_iff.1 (by rw [hlen]; exact h0))⟩
    have h1 := conv_seg hs 0
    rw [hlen, h0, hl] at h1
    rw [hv]
    exact h1
  · have hcl := h.cells (g := g) (by rw [hv]; rfl)
    have hs : Seg w (some ⟨g, 0, none⟩) (l.map (·.toNat)) := ⟨hB, Or.inr ⟨g, 0, rfl, (Array.getElem?_eq_some_iff.1 hg).1, fun i hi => by
      rw [hlen] at hi
      have h1 := hcl i (.int .u8 ((l[i]'hi).toNat : Int)) (by unfold Lib.byteCells; rw [List.getElem?_map, List.getElem?_eq_getElem hi]; rfl)
      rw [Addr.add_lit] at h1
      rw [h1]
      show _ = some (Value.int .u8 (((l.map (·.toNat)).getD i 0 : Nat) : Int))
      rw [List.getD_eq_getElem?_getD, List.getElem?_map, List.getElem?_eq_getElem hi]
      rfl⟩⟩
    have h1 := conv_seg hs cap
    rw [hlen, hl] at h1
    rw [hv]
    exact h1
set_option maxRecDepth 100000 in
set_option maxHeartbeats 4000000 in
theorem encode_any (ad : Nat → Addr) (m : Msg) (p : Option Addr) (c : Nat) (w : World) (hr : Rec verE w p m.L) (hb : bulkN m ≤ 9000 ∧ MsgLe m) (hS : Sent w ad) :
    Calls Tryd.prog 7 #[msgA m (.slice p m.L.length c)] w fun e w' => EncIs ad (encE m) e ∧ Below w.heap.size w w' := by
  have hlen : m.L.length ≤ 1000000 := by have := bulkV_len m.L; have := hb.1; unfold bulkN at this; omega
  have HINB : Hid (∀ W, Below w.heap.size w W → Calls Tryd.prog 16 #[msgA m (.slice p m.L.length c)] W fun e w' => e = .returned (.bool (!negM m)) ∧ Below W.heap.size W w') := fun W hW => inb_any m p c W hlen (hr.below hW)
  have HSN : Hid (∀ W, Below w.heap.size w W → Sent W ad) := fun W hW => hS.below hW
  have HMSG : Hid (negM m = false → ∀ W wb, Below w.heap.size w W → WrSt W w.heap.size wb [] → Calls Tryd.prog 17 #[.pointer (some ⟨wb, 0, none⟩), msgA m (.slice p m.L.length c)] W fun e w' => e = .returned (.tuple #[]) ∧ Wr W w' w.heap.size wb (encL m)) := fun hn W wb hW hst => wmsg_any w.heap.size wb m p c W hst (msgOk_of hn hb.1 hb.2) (fun W' hW' => hr.below (hW.trans hW'))
  have HSEAL : Hid (∀ W, (encL m).length ≤ 3996 → Calls Tryd.prog 14 #[.string (ofL (encL m))] W fun e w' => e = .returned (.string (sealT (ofL (encL m)))) ∧ Below W.heap.size W w') := fun W h => seal_any _ W (by rw [ofL_size]; omega)
  have HE : Hid (encE m = if negM m = true then (2, ⟨#[]⟩) else if 3996 < (encL m).length then (7, ⟨#[]⟩) else (0, sealT (ofL (encL m)))) := by show _ = _; rfl
  obtain ⟨w1, hw1⟩ : ∃ w1, w1 = w.alloc (.cells #[.string m.from_, .string m.to_, .string m.kind, .string m.key, .int .i64 m.op, .int .i64 m.config, .bool m.shut, .slice p m.L.length c] 31) := ⟨_, rfl⟩
  have HW1 : Hid (w1 = w.alloc (.cells #[.string m.from_, .string m.to_, .string m.kind, .string m.key, .int .i64 m.op, .int .i64 m.config, .bool m.shut, .slice p m.L.length c] 31)) := hw1
  have hb1 : Below w.heap.size w w1 := by rw [hw1]; exact (Below.refl _ _).alloc (Nat.le_refl _) _
  have hx1 : w1.heap[w.heap.size]? = some (.cells #[.string m.from_, .string m.to_, .string m.kind, .string m.key, .int .i64 m.op, .int .i64 m.config, .bool m.shut, .slice p m.L.length c] 31 (0, 0)) := by rw [hw1]; exact heap_alloc_new _ _
  generalize encE m = EE at *
  generalize encL m = EL at *
  generalize negM m = NG at *
  obtain ⟨m1, m2, m3, m4, m5, m6, m7, mL⟩ := m
  unfold msgA at *
  simp only [] at *
  have HF1 : Hid (w1.heap[w.heap.size]? = some (.cells #[.string m1, .string m2, .string m3, .string m4, .int .i64 m5, .int .i64 m6, .bool m7, .slice p mL.length c] 31 (0, 0)) ∧ Below w.heap.size w w1) := ⟨hx1, hb1⟩
  clear hb1 hx1 hw1 hr hb hS
  go_enter Tryd.func7, Tryd.ntmps7
  go_wp2_with fail
  rw [← HW1.out]
  refine (HINB.out w1 HF1.out.2).mono ?_
  rintro e w2 ⟨rfl, hb2⟩
  have hB2 : Below w.heap.size w w2 := HF1.out.2.trans (hb2.mono HF1.out.2.size)
  have hx2 := (hb2.block _ (Array.getElem?_eq_some_iff.1 HF1.out.1).1).trans HF1.out.1
  have HB2 : Hid (Below w.heap.size w w2) := hB2
  cases NG with
  | true =>
    have c1 := (HSN.out w2 hB2).c1
    rw [if_pos rfl] at HE
    clear hb2 hB2 hx2 HMSG HSEAL HINB HF1 HW1 HSN
    go_wp2
    go_quiet (fail)
    go_wp2
    go_ret2
    exact ⟨⟨.iface 124 (.pointer (some (ad 1))), by rw [HE.out]; rfl, by rw [HE.out]; exact Or.inr ⟨1, by decide, rfl, rfl⟩⟩, below_drewN HB2.out _⟩
  | false =>
    rw [if_neg (by decide)] at HE
    have z0 : w2.cell? ⟨w.heap.size, 0, none⟩ = some (.string m1) := by simp [World.cell?, hx2]
    have z1 : w2.cell? ⟨w.heap.size, 1, none⟩ = some (.string m2) := by simp [World.cell?, hx2]
    have z2 : w2.cell? ⟨w.heap.size, 2, none⟩ = some (.string m3) := by simp [World.cell?, hx2]
    have z3 : w2.cell? ⟨w.heap.size, 3, none⟩ = some (.string m4) := by simp [World.cell?, hx2]
    have z4 : w2.cell? ⟨w.heap.size, 4, none⟩ = some (.int .i64 m5) := by simp [World.cell?, hx2]
    have z5 : w2.cell? ⟨w.heap.size, 5, none⟩ = some (.int .i64 m6) := by simp [World.cell?, hx2]
    have z6 : w2.cell? ⟨w.heap.size, 6, none⟩ = some (.bool m7) := by simp [World.cell?, hx2]
    have z7 : w2.cell? ⟨w.heap.size, 7, none⟩ = some (.slice p mL.length c) := by simp [World.cell?, hx2]
    obtain ⟨w3, hw3⟩ : ∃ w3, w3 = w2.alloc (.cells #[.slice none 0 0, .bool false] 54) := ⟨_, rfl⟩
    have HW3 : Hid (w3 = w2.alloc (.cells #[.slice none 0 0, .bool false] 54)) := hw3
    have hb3 : Below w.heap.size w w3 := by rw [hw3]; exact hB2.alloc hB2.size _
    have hx3 : w3.heap[w2.heap.size]? = some (.cells #[.slice none 0 0, .bool false] 54 (0, 0)) := by rw [hw3]; exact heap_alloc_new _ _
    have hst : WrSt w3 w.heap.size w2.heap.size [] := ⟨.slice none 0 0, [], false, ⟨hx3, World.ownsRowF_nil _ _ _ _, by simp [Value.ownBlock], hB2.size⟩, Or.inl ⟨rfl, rfl, by decide⟩⟩
    have HM3 : Hid (Calls Tryd.prog 17 #[.pointer (some ⟨w2.heap.size, 0, none⟩), .agg #[.string m1, .string m2, .string m3, .string m4, .int .i64 m5, .int .i64 m6, .bool m7, .slice p mL.length c]] w3 fun e w' => e = .returned (.tuple #[]) ∧ Wr w3 w' w.heap.size w2.heap.size EL) := HMSG.out rfl w3 w2.heap.size hb3 hst
    have HB3 : Hid (Below w.heap.size w w3) := hb3
    have hne2 : w.heap.size < w2.heap.size := (Array.getElem?_eq_some_iff.1 hx2).1
    clear hb2 hB2 hx2 HMSG HINB HF1 HW1 hw3 hb3 hx3 hst
    go_wp2_with fail
    rw [← HW3.out]
    refine HM3.out.mono ?_
    rintro e w4 ⟨rfl, h4⟩
    obtain ⟨v, l, f, hat, hcase⟩ := h4.st
    have hb4 : Below w.heap.size w w4 := HB3.out.trans h4.low
    have HB4 : Hid (Below w.heap.size w w4) := hb4
    have c0 : w4.cell? ⟨w2.heap.size, 0, none⟩ = some v := by simp [World.cell?, hat.blk]
    have c1 : w4.cell? ⟨w2.heap.size, 1, none⟩ = some (.bool f) := by simp [World.cell?, hat.blk]
    have hcv := own_conv hat.own
    have c6 := (HSN.out w4 hb4).c6
    rcases hcase with ⟨rfl, rfl, hle⟩ | ⟨rfl, hgt, _⟩
    · have HSE := HSEAL.out w4 hle
      rw [if_neg (by omega)] at HE
      obtain ⟨pv, nv, cv, rfl⟩ : ∃ p n c, v = .slice p n c := by
        rcases hat.own.2 with ⟨hv, _⟩ | ⟨g, cap, cur, fz, hv, _⟩ <;> exact ⟨_, _, _, hv⟩
      clear h4 hat hb4 HM3 HW3 HB3 HSN HSEAL z0 z1 z2 z3 z4 z5 z6 z7 c6
      go_wp2_with fail
      refine HSE.mono ?_
      rintro e w5 ⟨rfl, hb5⟩
      have HB5 : Hid (Below w.heap.size w w5) := HB4.out.trans (hb5.mono HB4.out.size)
      clear hb5 HSE
      go_wp2
      go_ret2
      exact ⟨⟨.nilIface, by rw [HE.out]; rfl, by rw [HE.out]; exact Or.inl ⟨rfl, rfl⟩⟩, HB5.out⟩
    · rw [if_pos hgt] at HE
      clear h4 hat hb4 HM3 HW3 HB3 HSN HSEAL z0 z1 z2 z3 z4 z5 z6 z7 hcv c0
      go_wp2
      go_quiet (fail)
      go_wp2
      go_ret2
      exact ⟨⟨.iface 124 (.pointer (some (ad 6))), by rw [HE.out]; rfl, by rw [HE.out]; exact Or.inr ⟨6, by decide, rfl, rfl⟩⟩, below_drewN HB4.out _⟩
end Go.Proofs.YteppmkpckdmnaaaDoor
