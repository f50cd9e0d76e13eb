/- Texts laid together. -/
import Derived.Test.YtpjeibicopgedaaGreatDoorQb10
import Derived.Deep.RegionHeld3
namespace Go.Proofs.YtpjeibicopgedaaGreatDoor
open Go.RowKit
theorem tagOk_eq (a b : Int) : tagOk a b = tagB a b := by
  unfold tagOk tagB
  by_cases h1 : 0 ≤ a <;> by_cases h2 : a ≤ 1099511627776 <;> by_cases h3 : 0 ≤ b <;> by_cases h4 : b ≤ 1099511627776 <;> simp [h1, h2, h3, h4]
theorem can_eq (n k : Nat) (v : Ver) : canB n k v = (tagOk v.n v.who && fitB n k v.size v.at_ v.text) := by
  rw [tagOk_eq]
  rfl
theorem getD_take_succ {L : List Ver} {j : Nat} (h : j < L.length) : L.take (j + 1) = L.take j ++ [verAt L j] := by rw [List.take_add_one, verAt_get h]; rfl
/-- The map tells what was told by L. -/
def TbOf (w : World) (B b n k : Nat) (L : List Ver) : Prop := ∃ D row blk, TbAt w B b n k L D row blk
theorem TbOf.below {w w' : World} {B b n k : Nat} {L : List Ver} (h : TbOf w B b n k L) (hb : Below w.heap.size w w') : TbOf w' B b n k L := by
  obtain ⟨D, row, blk, h⟩ := h
  exact ⟨D, row, blk, h.below hb⟩
theorem TbOf.pass {w : World} {B b n k : Nat} {L : List Ver} {v : Ver} (h : TbOf w B b n k L) (hv : canB n k v = false) : TbOf w B b n k (L ++ [v]) := by
  obtain ⟨D, row, blk, h⟩ := h
  exact ⟨D, row, blk, h.pass hv⟩
set_option maxRecDepth 100000 in
/-- One more version is put: what the map tells of its tag, what with is asked, and what is laid then. -/
theorem TbOf.step {w : World} {B b n k : Nat} {L : List Ver} {v : Ver} (h : TbOf w B b n k L) (hc : canB n k v = true) (ht : TagIn (v.n, v.who)) (hl : L.length ≤ 1000) :
    ∃ (rt : Value) (sz : Int), (∀ W, Below w.heap.size w W → (Instr.lookup 53 (.map (some b)) (.agg #[.int .i64 v.n, .int .i64 v.who]) false).run Tryz.prog W = .ok (.agg #[.int .i64 sz, rt]) W) ∧ (∀ g, rt.ownBlock = some g → g < w.heap.size) ∧
      ∀ W, Below w.heap.size w W → Calls Tryz.prog 29 #[.agg #[.int .i64 sz, rt], .agg #[.int .i64 v.n, .int .i64 v.who, .int .i64 v.size, .int .i64 v.at_, .string v.text]] W fun e w7 => ∃ rv w8, e = .returned rv ∧ W.grownBy w7 rt.ownBlock ∧ (Instr.mapUpdate 53 (.map (some b)) (.agg #[.int .i64 v.n, .int .i64 v.who]) rv).run Tryz.prog w7 = .ok () w8 ∧ Below B W w8 ∧ TbOf w8 B b n k (L ++ [v]) := by
  obtain ⟨D, row, blk, h⟩ := h
  have hle := shOf_le (n := n) (k := k) (t := (v.n, v.who)) L L.length
  rw [List.take_length] at hle
  have hstep := with_step (shOf_size (n := n) (k := k) (t := (v.n, v.who)) L) (v := v) (⟨rfl, rfl, hc⟩ : v.n = ((v.n, v.who) : Int × Int).1 ∧ v.who = ((v.n, v.who) : Int × Int).2 ∧ canB n k v = true)
  refine ⟨row (v.n, v.who), sizeT (shOf n k (v.n, v.who) L), fun W hW => (h.below hW).look ht, fun g hg => (World.ownsRow.lt (h.own _ ht) g hg).2, fun W hW => ?_⟩
  have hW' := h.below hW
  have hB : B ≤ W.heap.size := Nat.le_trans h.inB (Nat.le_of_lt hW'.lt)
  refine (with_any (sizeT (shOf n k (v.n, v.who) L)) (shOf n k (v.n, v.who) L).2 (row (v.n, v.who)) v B W (by omega) (hW'.own _ ht) hB).mono ?_
  rintro e w7 ⟨row', rfl, hO, hg, hloc, hf⟩
  obtain ⟨w8, hrun, hb8, D', r', b', hT⟩ := hW'.put hc ht hB hstep.symm hg hO hloc hf (by omega)
  exact ⟨_, w8, rfl, hg, hrun, hb8, D', r', b', hT⟩
set_option maxRecDepth 10000 in
set_option maxHeartbeats 8000000 in
theorem byTag_any (n k : Nat) (p0 : Option Addr) (l0 c0 : Nat) (p : Option Addr) (LL : List (List Ver)) (cap : Nat) (w : World) (hk1 : 1 ≤ k) (hkn : k ≤ n) (hn : n ≤ 12) (hl : LL.length ≤ 1000) (hl2 : LL.flatten.length ≤ 1000) (hL : Vss w p LL) (hin : ∀ v ∈ LL.flatten, TagIn (v.n, v.who)) :
    Calls Tryz.prog 16 #[.agg #[.int .i64 (n : Int), .int .i64 (k : Int), .slice p0 l0 c0], .slice p LL.length cap] w fun e w' => (∃ b, e = .returned (.map (some b)) ∧ TbOf w' (w.heap.size + 1) b n k LL.flatten) ∧ Below w.heap.size w w' := by
  obtain ⟨w0, hw0⟩ : ∃ w0, w0 = w.alloc (.cells #[.int .i64 (n : Int), .int .i64 (k : Int), .slice p0 l0 c0] 24) := ⟨_, rfl⟩
  have e0 : w0.heap.size = w.heap.size + 1 := by rw [hw0]; simp
  have hb0 : Below w.heap.size w w0 := by rw [hw0]; exact (Below.refl _ _).alloc (Nat.le_refl _) _
  have f0 : w0.cell? ⟨w.heap.size, 0, none⟩ = some (.int .i64 (n : Int)) := by rw [hw0, World.cell?_alloc_at _ _ _ _ rfl]; rfl
  have f1 : w0.cell? ⟨w.heap.size, 1, none⟩ = some (.int .i64 (k : Int)) := by rw [hw0, World.cell?_alloc_at _ _ _ _ rfl]; rfl
  obtain ⟨w1, hw1⟩ : ∃ w1, w1 = w0.alloc (.map #[] 0) := ⟨_, rfl⟩
  have HT1 : Hid (TbOf w1 w0.heap.size w0.heap.size n k []) := by show TbOf _ _ _ _ _ _; rw [hw1]; exact ⟨_, _, _, tb_made w0 n k⟩
  have hb1 : Below w0.heap.size w0 w1 := by rw [hw1]; exact (Below.refl _ _).alloc (Nat.le_refl _) _
  have HB1 : Hid (Below w0.heap.size w0 w1) := hb1
  have HW0 : Hid (w0 = w.alloc (.cells #[.int .i64 (n : Int), .int .i64 (k : Int), .slice p0 l0 c0] 24)) := hw0
  have HALL : Hid (∀ W, Below w0.heap.size w0 W → W.cell? ⟨w.heap.size, 0, none⟩ = some (.int .i64 (n : Int)) ∧ W.cell? ⟨w.heap.size, 1, none⟩ = some (.int .i64 (k : Int)) ∧ Vss W p LL ∧ Below w.heap.size w W) := fun W hW => by
    have hlt : w.heap.size < w0.heap.size := by omega
    exact ⟨(hW.cell (p := ⟨w.heap.size, 0, none⟩) hlt).trans f0, (hW.cell (p := ⟨w.heap.size, 1, none⟩) hlt).trans f1, (hL.below hb0).below hW, hb0.trans (hW.mono hb0.size)⟩
  have HE0 : Hid (w0.heap.size = w.heap.size + 1) := e0
  have HIN : Hid (∀ v ∈ LL.flatten, TagIn (v.n, v.who)) := hin
  have HFS : Hid (∀ i, i < LL.length → (LL.take (i + 1)).flatten = (LL.take i).flatten ++ LL.getD i []) := fun i hi => flatten_take_succ hi
  have HFL : Hid (∀ i, (LL.take i).flatten.length ≤ LL.flatten.length) := fun i => flatten_take_le LL i
  have HFA : Hid (LL.take LL.length = LL) := List.take_length
  rw [← e0]
  obtain ⟨b, hb⟩ : ∃ b, b = w0.heap.size := ⟨_, rfl⟩
  have HBB : Hid (b = w0.heap.size) := hb
  have hmk : (Instr.makeMap 53 none).run Tryz.prog w0 = .ok (.map (some b)) w1 := by rw [hb, hw1]; kernel_rfl
  rw [← hb] at HT1
  have HBB2 : Hid (w.heap.size + 1 = b) := by show _ = _; rw [hb, e0]
  clear hw0 hw1 hb0 hb1 f0 f1 e0 hL hin hb
  go_enter Tryz.func16, Tryz.ntmps16
  go_wp2_with (rw [← HW0.out])
  clear hmk
  go_loopw [13] (fun x wr => ∃ i : Nat, i ≤ LL.length ∧ x = .int .i64 i ∧ TbOf wr b b n k (LL.take i).flatten ∧ Below w0.heap.size w0 wr) (fun x _ => LL.length - (intOf x).toNat)
  case atStart => exact ⟨0, Nat.zero_le _, rfl, HT1.out, HB1.out⟩
  case round =>
    obtain ⟨i, hi, rfl, hT, hB⟩ := hrel
    obtain ⟨w2, rfl⟩ : ∃ w2, w2 = wr := ⟨_, rfl⟩
    have HT2 : Hid (TbOf w2 b b n k (LL.take i).flatten) := hT
    have HB2 : Hid (Below w0.heap.size w0 w2) := hB
    clear hT hB HT1 HB1
    by_cases hil : i < LL.length
    · have HFSI : Hid ((LL.take (i + 1)).flatten = (LL.take i).flatten ++ LL.getD i []) := HFS.out i hil
      have hfl : (LL.take i).flatten.length + (LL.getD i []).length ≤ 1000 := by
        have h1 := HFL.out (i + 1)
        rw [HFSI.out, List.length_append] at h1
        omega
      have HINI : Hid (∀ v ∈ LL.getD i [], TagIn (v.n, v.who)) := fun v hv => HIN.out v (by
        rw [← HFA.out]
        rw [List.getD_eq_getElem?_getD, List.getElem?_eq_getElem hil] at hv
        rw [List.take_length]
        exact List.mem_flatten.2 ⟨_, List.getElem_mem hil, hv⟩)
      rcases (HALL.out w0 (Below.refl _ _)).2.2.1 with h0 | ⟨bl, ol, hpp, hblt, hcs⟩
      · rw [h0] at hil; simp at hil
      obtain ⟨q, cq, hcell0, hrec, hlc, hqn⟩ := hcs i hil
      have HREC : Hid (∀ W, Below w0.heap.size w0 W → Rec verE W q (LL.getD i [])) := fun W hW => hrec.below hW
      have hcell : w2.cell? ⟨bl, ol + i, none⟩ = some (.slice q (LL.getD i []).length cq) := (HB2.out.cell (p := ⟨bl, ol + i, none⟩) hblt).trans hcell0
      subst hpp
      clear hcs hrec hqn hcell0 HFS HFL HIN
      generalize LL.getD i [] = rw_ at *
      generalize (LL.take i).flatten = pre at *
      go_wp2
      go_loopw [19] (fun x wr => ∃ j : Nat, j ≤ rw_.length ∧ x = .int .i64 j ∧ TbOf wr b b n k (pre ++ rw_.take j) ∧ Below w0.heap.size w0 wr) (fun x _ => rw_.length - (intOf x).toNat)
      case atStart => exact ⟨0, Nat.zero_le _, rfl, by rw [List.take_zero, List.append_nil]; exact HT2.out, HB2.out⟩
      case round =>
        obtain ⟨j, hj, rfl, hT, hB⟩ := hrel
        have hR := HREC.out wr hB
        obtain ⟨w3, rfl⟩ : ∃ w3, w3 = wr := ⟨_, rfl⟩
        have HT3 : Hid (TbOf w3 b b n k (pre ++ rw_.take j)) := hT
        have HB3 : Hid (Below w0.heap.size w0 w3) := hB
        have HR3 : Hid (Rec verE w3 q rw_) := hR
        clear hT hB hR HT2 hcell
        by_cases hjl : j < rw_.length
        · have HTS : Hid (rw_.take (j + 1) = rw_.take j ++ [verAt rw_ j]) := getD_take_succ hjl
          have hti : TagIn ((verAt rw_ j).n, (verAt rw_ j).who) := HINI.out _ (by have := verAt_get hjl; exact List.mem_of_getElem? this)
          obtain ⟨b', o', hpp, hblt', d0, d1, d2, d3, d4⟩ := ver_cells HR3.out hjl
          subst hpp
          have hpl : (pre ++ rw_.take j).length ≤ 1000 := by rw [List.length_append, List.length_take]; omega
          have HCE : Hid (canB n k (verAt rw_ j) = (tagOk (verAt rw_ j).n (verAt rw_ j).who && fitB n k (verAt rw_ j).size (verAt rw_ j).at_ (verAt rw_ j).text)) := can_eq n k _
          have HTI : Hid (TagIn ((verAt rw_ j).n, (verAt rw_ j).who)) := hti
          have HNX : Hid (∀ W, TbOf W b b n k ((pre ++ rw_.take j) ++ [verAt rw_ j]) → TbOf W b b n k (pre ++ rw_.take (j + 1))) := fun W h => by rw [HTS.out, ← List.append_assoc]; exact h
          clear hti HTS
          generalize verAt rw_ j = x at *
          generalize pre ++ rw_.take j = done at *
          obtain ⟨xn, xw, xs, xa, xt⟩ := x
          dsimp only at d0 d1 d2 d3 d4 HCE HTI
          obtain ⟨w4, hw4⟩ : ∃ w4, w4 = w3.alloc (.cells #[.int .i64 xn, .int .i64 xw, .int .i64 xs, .int .i64 xa, .string xt] 51) := ⟨_, rfl⟩
          have hb4 : Below w3.heap.size w3 w4 := by rw [hw4]; exact (Below.refl _ _).alloc (Nat.le_refl _) _
          have HV4 : Hid (w4.cell? ⟨w3.heap.size, 0, none⟩ = some (.int .i64 xn) ∧ w4.cell? ⟨w3.heap.size, 1, none⟩ = some (.int .i64 xw) ∧ w4.cell? ⟨w3.heap.size, 2, none⟩ = some (.int .i64 xs) ∧ w4.cell? ⟨w3.heap.size, 3, none⟩ = some (.int .i64 xa) ∧ w4.cell? ⟨w3.heap.size, 4, none⟩ = some (.string xt)) := by
            rw [hw4]
            exact ⟨by rw [World.cell?_alloc_at _ _ _ _ rfl]; rfl, by rw [World.cell?_alloc_at _ _ _ _ rfl]; rfl, by rw [World.cell?_alloc_at _ _ _ _ rfl]; rfl, by rw [World.cell?_alloc_at _ _ _ _ rfl]; rfl, by rw [World.cell?_alloc_at _ _ _ _ rfl]; rfl⟩
          have HW4 : Hid (w4 = w3.alloc (.cells #[.int .i64 xn, .int .i64 xw, .int .i64 xs, .int .i64 xa, .string xt] 51)) := hw4
          have HB4 : Hid (Below w0.heap.size w0 w4) := HB3.out.trans (hb4.mono HB3.out.size)
          have HT4 : Hid (TbOf w4 b b n k done) := HT3.out.below hb4
          have HST : Hid (canB n k ⟨xn, xw, xs, xa, xt⟩ = true → ∃ (rt : Value) (sz : Int), (∀ W, Below w4.heap.size w4 W → (Instr.lookup 53 (.map (some b)) (.agg #[.int .i64 xn, .int .i64 xw]) false).run Tryz.prog W = .ok (.agg #[.int .i64 sz, rt]) W) ∧ (∀ g, rt.ownBlock = some g → g < w3.heap.size) ∧ ∀ W, Below w4.heap.size w4 W → Calls Tryz.prog 29 #[.agg #[.int .i64 sz, rt], .agg #[.int .i64 xn, .int .i64 xw, .int .i64 xs, .int .i64 xa, .string xt]] W fun e w7 => ∃ rv w8, e = .returned rv ∧ W.grownBy w7 rt.ownBlock ∧ (Instr.mapUpdate 53 (.map (some b)) (.agg #[.int .i64 xn, .int .i64 xw]) rv).run Tryz.prog w7 = .ok () w8 ∧ Below b W w8 ∧ TbOf w8 b b n k (done ++ [⟨xn, xw, xs, xa, xt⟩])) := fun hc => by
            obtain ⟨rt, sz, h1, h2, h3⟩ := HT3.out.step hc HTI.out hpl
            exact ⟨rt, sz, fun W hW => h1 W (hb4.trans (hW.mono hb4.size)), h2, fun W hW => h3 W (hb4.trans (hW.mono hb4.size))⟩
          have HIS : Hid (∀ W, Calls Tryz.prog 27 #[.agg #[.int .i64 xn, .int .i64 xw]] W fun e w' => e = .returned (.bool (tagOk xn xw)) ∧ Below W.heap.size W w') := fun W => istag_any xn xw W
          have HFI : Hid (∀ W, Calls Tryz.prog 28 #[.int .i64 (n : Int), .int .i64 (k : Int), .int .i64 xs, .agg #[.int .i64 xa, .string xt]] W fun e w' => e = .returned (.bool (fitB n k xs xa xt)) ∧ Below W.heap.size W w') := fun W => cfits_any n k xs xa xt W hk1 hkn hn
          have HALL4 : Hid (∀ W, Below w4.heap.size w4 W → ((W.cell? ⟨w.heap.size, 0, none⟩ = some (.int .i64 (n : Int)) ∧ W.cell? ⟨w.heap.size, 1, none⟩ = some (.int .i64 (k : Int))) ∧ (W.cell? ⟨w3.heap.size, 0, none⟩ = some (.int .i64 xn) ∧ W.cell? ⟨w3.heap.size, 1, none⟩ = some (.int .i64 xw) ∧ W.cell? ⟨w3.heap.size, 2, none⟩ = some (.int .i64 xs) ∧ W.cell? ⟨w3.heap.size, 3, none⟩ = some (.int .i64 xa) ∧ W.cell? ⟨w3.heap.size, 4, none⟩ = some (.string xt))) ∧ TbOf W b b n k done ∧ Below w0.heap.size w0 W) := fun W hW => by
            have hlt := lt_of_cell HV4.out.1
            have h0 : Below w0.heap.size w0 W := HB4.out.trans (hW.mono HB4.out.size)
            exact ⟨⟨⟨(HALL.out W h0).1, (HALL.out W h0).2.1⟩, (hW.cell (p := ⟨w3.heap.size, 0, none⟩) hlt).trans HV4.out.1, (hW.cell (p := ⟨w3.heap.size, 1, none⟩) hlt).trans HV4.out.2.1, (hW.cell (p := ⟨w3.heap.size, 2, none⟩) hlt).trans HV4.out.2.2.1, (hW.cell (p := ⟨w3.heap.size, 3, none⟩) hlt).trans HV4.out.2.2.2.1, (hW.cell (p := ⟨w3.heap.size, 4, none⟩) hlt).trans HV4.out.2.2.2.2⟩, HT4.out.below hW, h0⟩
          obtain ⟨⟨⟨g0, g1⟩, k0, k1, k2, k3, k4⟩, _⟩ := HALL4.out w4 (Below.refl _ _)
          clear hw4 hb4 HB3 HT3 HR3 HV4 HT4 HTI
          generalize tagOk xn xw = tg at *
          generalize fitB n k xs xa xt = ft at *
          cases tg with
          | false =>
            have HC : Hid (canB n k ⟨xn, xw, xs, xa, xt⟩ = false) := HCE.out
            clear HCE HFI HST
            go_wp2_with (first | rw [← HW4.out] | fail)
            refine (HIS.out _).mono ?_
            rintro e w5 ⟨rfl, hb5⟩
            obtain ⟨_, hT5, hB5⟩ := HALL4.out w5 hb5
            have HT5 : Hid (TbOf w5 b b n k (pre ++ rw_.take (j + 1))) := HNX.out w5 (hT5.pass HC.out)
            have HB5 : Hid (Below w0.heap.size w0 w5) := hB5
            clear hT5 hB5 hb5 HIS HALL4
            go_wp2
            go_roundw
            case rel => exact ⟨j + 1, by omega, by go_num, HT5.out, HB5.out⟩
            case measure => simp [intOf]; omega
          | true =>
            go_wp2_with (first | rw [← HW4.out] | fail)
            refine (HIS.out _).mono ?_
            rintro e w5 ⟨rfl, hb5⟩
            have HB45 : Hid (Below w4.heap.size w4 w5) := hb5
            clear g0 g1 k0 k1 k2 k3 k4
            obtain ⟨⟨⟨g0, g1⟩, k0, k1, k2, k3, k4⟩, _⟩ := HALL4.out w5 hb5
            clear hb5 HIS d0 d1 d2 d3 d4
            cases ft with
            | false =>
              have HC : Hid (canB n k ⟨xn, xw, xs, xa, xt⟩ = false) := HCE.out
              clear HCE HST
              go_wp2_with fail
              refine (HFI.out _).mono ?_
              rintro e w6 ⟨rfl, hb6⟩
              obtain ⟨_, hT6, hB6⟩ := HALL4.out w6 (HB45.out.trans (hb6.mono HB45.out.size))
              have HT6 : Hid (TbOf w6 b b n k (pre ++ rw_.take (j + 1))) := HNX.out w6 (hT6.pass HC.out)
              have HB6 : Hid (Below w0.heap.size w0 w6) := hB6
              clear hT6 hB6 hb6 HFI HALL4
              go_wp2
              go_roundw
              case rel => exact ⟨j + 1, by omega, by go_num, HT6.out, HB6.out⟩
              case measure => simp [intOf]; omega
            | true =>
              have HC : Hid (canB n k ⟨xn, xw, xs, xa, xt⟩ = true) := HCE.out
              clear HCE
              go_wp2_with fail
              refine (HFI.out _).mono ?_
              rintro e w6 ⟨rfl, hb6⟩
              have hb46 : Below w4.heap.size w4 w6 := HB45.out.trans (hb6.mono HB45.out.size)
              clear g0 g1 k0 k1 k2 k3 k4
              obtain ⟨⟨⟨g0, g1⟩, k0, k1, k2, k3, k4⟩, hT6, hB6⟩ := HALL4.out w6 hb46
              obtain ⟨rt, sz, hlook, hrb, hwith⟩ := HST.out HC.out
              have HWC : Hid (∀ W, Below w6.heap.size w6 W → Calls Tryz.prog 29 #[.agg #[.int .i64 sz, rt], .agg #[.int .i64 xn, .int .i64 xw, .int .i64 xs, .int .i64 xa, .string xt]] W fun e w7 => ∃ rv w8, e = .returned rv ∧ (w7.cell? ⟨w3.heap.size, 0, none⟩ = some (.int .i64 xn) ∧ w7.cell? ⟨w3.heap.size, 1, none⟩ = some (.int .i64 xw)) ∧ (Instr.mapUpdate 53 (.map (some b)) (.agg #[.int .i64 xn, .int .i64 xw]) rv).run Tryz.prog w7 = .ok () w8 ∧ Below w0.heap.size w0 w8 ∧ TbOf w8 b b n k (pre ++ rw_.take (j + 1))) := fun W hW => by
                have h4 : Below w4.heap.size w4 W := hb46.trans (hW.mono hb46.size)
                refine (hwith W h4).mono ?_
                rintro e w7 ⟨rv, w8, rfl, hg, hrun, hb8, hT8⟩
                obtain ⟨⟨_, q0, q1, _⟩, _, hB0⟩ := HALL4.out W h4
                have hne : some w3.heap.size ≠ rt.ownBlock := fun e => by have := hrb _ e.symm; omega
                have hbk := hg.block w3.heap.size (lt_of_cell q0) hne
                refine ⟨rv, w8, rfl, ⟨(World.cell?_of_block (a := ⟨w3.heap.size, 0, none⟩) hbk).trans q0, (World.cell?_of_block (a := ⟨w3.heap.size, 1, none⟩) hbk).trans q1⟩, hrun, ?_, HNX.out w8 hT8⟩
                rw [HBB.out] at hb8
                exact hB0.trans hb8
              have l1 := hlook w6 hb46
              have l2 := hlook w6.drew hb46.drew
              clear hT6 hB6 hb6 hb46 HFI HALL4 hlook hwith hrb HST HB45
              go_wp2
              go_region_with (go_at_call 29; refine (HWC.out _ (by first | exact (Below.refl _ _).drew | exact Below.refl _ _)).mono ?_; rintro e w7 ⟨rv, w8, rfl, ⟨n0, n1⟩, hrun, HB8, HT8⟩)
              all_goals (go_wp2; go_roundw)
              all_goals (first | exact ⟨j + 1, by omega, by go_num, HT8, HB8⟩ | (simp [intOf]; omega))
        · have hje : rw_.take j = rw_ := List.take_of_length_le (by omega)
          have HE3 : Hid ((LL.take (i + 1)).flatten = pre ++ rw_.take j) := by show _ = _; rw [HFSI.out, hje]
          clear hje
          go_wp2
          go_roundw
          case rel => exact ⟨i + 1, by omega, by go_num, by rw [HE3.out]; exact HT3.out, HB3.out⟩
          case measure => simp [intOf]; omega
    · have hie : i = LL.length := by omega
      have HF : Hid ((LL.take i).flatten = LL.flatten) := by show _ = _; rw [hie, HFA.out]
      rw [HF.out] at HT2
      clear hie
      go_wp2
      go_ret
      exact ⟨⟨_, rfl, by rw [← HBB.out]; exact HT2.out⟩, (HALL.out w2 HB2.out).2.2.2⟩
/-- A configuration. -/
structure Cfg where
  n : Int
  k : Int
  L : List ByteArray
/-- What is wrong of a configuration: an error's number and place. -/
def cfgF (c : Cfg) : Int × Int := if 1 ≤ c.k ∧ c.k ≤ c.n ∧ c.n ≤ 12 then (if (c.L.length : Int) = c.n then nodesF c.L else (3, -1)) else (2, -1)
theorem cfgF_bound {c : Cfg} (h : ¬ (1 ≤ c.k ∧ c.k ≤ c.n ∧ c.n ≤ 12)) : cfgF c = (2, -1) := if_neg h
theorem cfgF_shape {c : Cfg} (h : 1 ≤ c.k ∧ c.k ≤ c.n ∧ c.n ≤ 12) (h2 : ¬ (c.L.length : Int) = c.n) : cfgF c = (3, -1) := by unfold cfgF; rw [if_pos h, if_neg h2]
theorem cfgF_nodes {c : Cfg} (h : 1 ≤ c.k ∧ c.k ≤ c.n ∧ c.n ≤ 12) (h2 : (c.L.length : Int) = c.n) : cfgF c = nodesF c.L := by unfold cfgF; rw [if_pos h, if_pos h2]
theorem cfgF_fine {c : Cfg} (h : ¬ 0 < (cfgF c).1) : (1 ≤ c.k ∧ c.k ≤ c.n ∧ c.n ≤ 12) ∧ (c.L.length : Int) = c.n ∧ cfgF c = (0, -1) ∧ (∀ x ∈ c.L, isN x = true) ∧ c.L.Nodup := by
  by_cases h1 : 1 ≤ c.k ∧ c.k ≤ c.n ∧ c.n ≤ 12
  · by_cases h2 : (c.L.length : Int) = c.n
    · rw [cfgF_nodes h1 h2] at h ⊢
      have h3 : (nodesF c.L).1 ≤ 0 := by omega
      exact ⟨h1, h2, (nodesF_zero h3).1, (nodesF_fine h3).1, (nodesF_fine h3).2⟩
    · rw [cfgF_shape h1 h2] at h
      exact absurd (by decide) h
  · rw [cfgF_bound h1] at h
    exact absurd (by decide) h
/-- How many are enough: N and K together, halved, up. -/
def enoughN (c : Cfg) : Nat := (c.n.toNat + c.k.toNat + 1) / 2
theorem enoughN_le {c : Cfg} (h : 1 ≤ c.k ∧ c.k ≤ c.n ∧ c.n ≤ 12) : (enoughN c : Int) ≤ c.n ∧ 1 ≤ enoughN c ∧ enoughN c ≤ 12 := by unfold enoughN; omega
/-- The first of a list that is no member, from place i on. -/
def awayAt (L : List ByteArray) : List ByteArray → Nat → Option Nat
  | [], _ => none
  | x :: l, i => if inL L x then awayAt L l (i + 1) else some i
/-- What is wrong of two lists: the first of a, then of b, that is no member. -/
def meetF (L a b : List ByteArray) : Int × Int := match awayAt L a 0 with | some i => (5, (i : Int)) | none => (match awayAt L b 0 with | some i => (5, (i : Int)) | none => (0, -1))
/-- Who is in both, in the order of members. -/
def meetL (L a b : List ByteArray) : List ByteArray := L.filter fun x => inL a x && inL b x
theorem awayAt_none {L : List ByteArray} : ∀ (l : List ByteArray) (i : Nat), (∀ x ∈ l, x ∈ L) → awayAt L l i = none
  | [], _, _ => rfl
  | x :: l, i, h => by
    unfold awayAt
    rw [if_pos (inL_iff.2 (h x (by simp)))]
    exact awayAt_none l (i + 1) (fun y hy => h y (by simp [hy]))
theorem meetF_fine {L a b : List ByteArray} (ha : ∀ x ∈ a, x ∈ L) (hb : ∀ x ∈ b, x ∈ L) : meetF L a b = (0, -1) := by
  unfold meetF
  rw [awayAt_none a 0 ha, awayAt_none b 0 hb]
theorem awayAt_first {L : List ByteArray} : ∀ (l : List ByteArray) (s i : Nat), i < l.length → (∀ j, j < i → txt l j ∈ L) → txt l i ∉ L → awayAt L l s = some (s + i)
  | x :: l, s, 0, _, _, hn => by
    unfold awayAt
    have e : inL L x = false := by
      cases h : inL L x with
      | false => rfl
      | true => exact absurd (inL_iff.1 h) hn
    rw [if_neg (by rw [e]; decide)]
    rfl
  | x :: l, s, i + 1, h, hall, hn => by
    unfold awayAt
    have hx : x ∈ L := hall 0 (by omega)
    rw [if_pos (inL_iff.2 hx), awayAt_first l (s + 1) i (by simpa using h) (fun j hj => hall (j + 1) (by omega)) hn]
    congr 1
    omega
/-- The first that is no member, among a and then b. -/
theorem meetF_a {L a b : List ByteArray} {i : Nat} (h : i < a.length) (hall : ∀ j, j < i → txt a j ∈ L) (hn : txt a i ∉ L) : meetF L a b = (5, (i : Int)) := by
  unfold meetF
  rw [awayAt_first a 0 i h hall hn, Nat.zero_add]
theorem meetF_b {L a b : List ByteArray} {i : Nat} (ha : ∀ x ∈ a, x ∈ L) (h : i < b.length) (hall : ∀ j, j < i → txt b j ∈ L) (hn : txt b i ∉ L) : meetF L a b = (5, (i : Int)) := by
  unfold meetF
  rw [awayAt_none a 0 ha, awayAt_first b 0 i h hall hn, Nat.zero_add]
theorem meetF_zero {L a b : List ByteArray} (h : ¬ 0 < (meetF L a b).1) : meetF L a b = (0, -1) := by
  unfold meetF at *
  cases h1 : awayAt L a 0 with
  | some i => rw [h1] at h; exact absurd (by show (0 : Int) < 5; decide) h
  | none =>
    rw [h1] at h
    simp only [] at h ⊢
    cases h2 : awayAt L b 0 with
    | some i => rw [h2] at h; exact absurd (by show (0 : Int) < 5; decide) h
    | none => rfl
theorem filter_takeM {L : List ByteArray} {P : ByteArray → Bool} {i : Nat} (h : i < L.length) : (L.take (i + 1)).filter P = (L.take i).filter P ++ (if P (txt L i) then [txt L i] else []) := by
  rw [List.take_add_one, List.filter_append, List.getElem?_eq_getElem h, txt_getElem L i h]
  congr 1
  show [L[i]].filter P = _
  rw [List.filter_cons]
  split <;> rfl
theorem filter_count {L : List ByteArray} {P Q : ByteArray → Bool} : (L.filter P).length + (L.filter Q).length ≤ (L.filter fun x => P x && Q x).length + L.length := by
  induction L with
  | nil => simp
  | cons x L ih =>
    simp only [List.filter_cons, List.length_cons]
    cases P x <;> cases Q x <;> simp <;> omega
/-- Unlike members: as many as of the members that are among them. -/
theorem filter_all {L a : List ByteArray} (hL : L.Nodup) (ha : a.Nodup) (hs : ∀ x ∈ a, x ∈ L) : (L.filter fun x => inL a x).length = a.length := by
  have h1 : (L.filter fun x => inL a x).Perm a := by
    rw [List.perm_ext_iff_of_nodup (hL.filter _) ha]
    intro x
    rw [List.mem_filter, inL_iff]
    exact ⟨fun h => h.2, fun h => ⟨hs x h, h⟩⟩
  exact h1.length_eq
/-- Two quorums have at least K in common. -/
theorem two_meet {c : Cfg} {a b : List ByteArray} (h : 1 ≤ c.k ∧ c.k ≤ c.n ∧ c.n ≤ 12) (hl : (c.L.length : Int) = c.n) (hL : c.L.Nodup) (ha : a.Nodup) (hb : b.Nodup) (hsa : ∀ x ∈ a, x ∈ c.L) (hsb : ∀ x ∈ b, x ∈ c.L) (hla : a.length = enoughN c) (hlb : b.length = enoughN c) :
    c.k ≤ ((meetL c.L a b).length : Int) := by
  have h1 := filter_count (L := c.L) (P := fun x => inL a x) (Q := fun x => inL b x)
  rw [filter_all hL ha hsa, filter_all hL hb hsb] at h1
  unfold meetL
  unfold enoughN at hla hlb
  omega
/-- A configuration as a value. -/
def cfgA (c : Cfg) (lv : Value) : Value := .agg #[.int .i64 c.n, .int .i64 c.k, lv]
/-- The five errors that a configuration and its members can have, in their variables. -/
structure ErrsQ (w : World) (ad : Nat → Addr) : Prop where
  c1 : w.cell? ⟨1, 0, none⟩ = some (.iface 165 (.pointer (some (ad 1))))
  c2 : w.cell? ⟨0, 0, none⟩ = some (.iface 165 (.pointer (some (ad 2))))
  c3 : w.cell? ⟨4, 0, none⟩ = some (.iface 165 (.pointer (some (ad 3))))
  c4 : w.cell? ⟨5, 0, none⟩ = some (.iface 165 (.pointer (some (ad 4))))
  c5 : w.cell? ⟨6, 0, none⟩ = some (.iface 165 (.pointer (some (ad 5))))
theorem ErrsQ.below {w w' : World} {ad : Nat → Addr} (h : ErrsQ w ad) (hb : Below w.heap.size w w') : ErrsQ w' ad where
  c1 := (hb.cell (lt_of_cellE h.c1)).trans h.c1
  c2 := (hb.cell (lt_of_cellE h.c2)).trans h.c2
  c3 := (hb.cell (lt_of_cellE h.c3)).trans h.c3
  c4 := (hb.cell (lt_of_cellE h.c4)).trans h.c4
  c5 := (hb.cell (lt_of_cellE h.c5)).trans h.c5
/-- Numbers that an int can be. -/
def CfgIn (c : Cfg) : Prop := (-9223372036854775808 ≤ c.n ∧ c.n ≤ 9223372036854775807) ∧ -9223372036854775808 ≤ c.k ∧ c.k ≤ 9223372036854775807
/-- A configuration of the call's, not too long. -/
structure CfgAt (w : World) (c : Cfg) (p : Option Addr) (cap : Nat) : Prop where
  strs : Strs w p c.L
  room : c.L.length ≤ cap
  empty : p = none → c.L = [] ∧ cap = 0
  len : c.L.length ≤ 1000
  size : ∀ x ∈ c.L, x.size ≤ 1000
  ints : CfgIn c
theorem CfgAt.below {w w' : World} {c : Cfg} {p : Option Addr} {cap : Nat} (h : CfgAt w c p cap) (hb : Below w.heap.size w w') : CfgAt w' c p cap := ⟨h.strs.below hb, h.room, h.empty, h.len, h.size, h.ints⟩
/-- A list of texts of the call's, not too long. -/
structure TxsAt (w : World) (l : List ByteArray) (p : Option Addr) (cap : Nat) : Prop where
  strs : Strs w p l
  room : l.length ≤ cap
  empty : p = none → l = [] ∧ cap = 0
  len : l.length ≤ 1000
  size : ∀ x ∈ l, x.size ≤ 1000
theorem TxsAt.below {w w' : World} {l : List ByteArray} {p : Option Addr} {cap : Nat} (h : TxsAt w l p cap) (hb : Below w.heap.size w w') : TxsAt w' l p cap := ⟨h.strs.below hb, h.room, h.empty, h.len, h.size⟩
/-- What Meet tells: an error's number and place. -/
def meetE (c : Cfg) (a b : List ByteArray) : Int × Int := if 0 < (cfgF c).1 then cfgF c else meetF c.L a b
def meetT (c : Cfg) (a b : List ByteArray) : List ByteArray := if 0 < (meetE c a b).1 then [] else meetL c.L a b
/-- X: what is asked of the world besides. -/
structure EnoughOk (ad : Nat → Addr) (X : World → Prop) : Prop where
  enough : ∀ (c : Cfg) (p : Option Addr) (cap : Nat) (w : World), CfgAt w c p cap → ErrsQ w ad → X w → Calls Tryz.prog 14 #[cfgA c (.slice p c.L.length cap)] w fun e w' => (∃ ev, e = .returned (.tuple #[.int .i64 ((if 0 < (cfgF c).1 then 0 else enoughN c : Nat) : Int), ev]) ∧ ErrIs w' ad ev (cfgF c).1 (cfgF c).2) ∧ Below w.heap.size w w'
theorem one_cfg : cfgF ⟨1, 1, [⟨#[97]⟩]⟩ = (0, -1) := by decide +kernel
theorem ErrIs.isNil {w : World} {ad : Nat → Addr} {ev : Value} {at_ : Int} (h : ErrIs w ad ev 0 at_) : ev = .nilIface := by
  rcases h with ⟨h, _⟩ | ⟨i, _, _, h, _⟩ | ⟨i, _, _, _, h, _⟩
  · exact h
  · omega
  · omega
theorem check_any (ad : Nat → Addr) (p : Option Addr) (l : List ByteArray) (c : Nat) (w : World) (hl : l.length ≤ 1000) (hc : l.length ≤ c) (hs : Strs w p l) (hE : ErrsQ w ad) :
    Calls Tryz.prog 26 #[.slice p l.length c] w fun e w' => (∃ ev, e = .returned ev ∧ ErrIs w' ad ev (nodesF l).1 (nodesF l).2) ∧ Below w.heap.size w w' := by
  exact check3_any ad p l c w hl hc hs ⟨hE.c1, hE.c3, hE.c5⟩
/-- A configuration in a block of its own. -/
structure CfgBox (w : World) (b : Nat) (c : Cfg) (lv : Value) : Prop where
  f0 : w.cell? ⟨b, 0, none⟩ = some (.int .i64 c.n)
  f1 : w.cell? ⟨b, 1, none⟩ = some (.int .i64 c.k)
  f2 : w.cell? ⟨b, 2, none⟩ = some lv
theorem CfgBox.below {w w' : World} {b : Nat} {c : Cfg} {lv : Value} (h : CfgBox w b c lv) (hb : Below w.heap.size w w') : CfgBox w' b c lv :=
  ⟨(hb.cell (lt_of_cellE h.f0)).trans h.f0, (hb.cell (lt_of_cellE h.f0)).trans h.f1, (hb.cell (lt_of_cellE h.f0)).trans h.f2⟩
theorem cfgBox_made (w : World) (c : Cfg) (lv : Value) (t : TypeId) : CfgBox (w.alloc (.cells #[.int .i64 c.n, .int .i64 c.k, lv] t)) w.heap.size c lv :=
  ⟨by rw [World.cell?_alloc_at _ _ _ _ rfl]; rfl, by rw [World.cell?_alloc_at _ _ _ _ rfl]; rfl, by rw [World.cell?_alloc_at _ _ _ _ rfl]; rfl⟩
set_option maxRecDepth 10000 in
set_option maxHeartbeats 4000000 in
theorem qcheck_any (ad : Nat → Addr) (c : Cfg) (p : Option Addr) (cap : Nat) (w : World) (hc : CfgAt w c p cap) (hE : ErrsQ w ad) :
    Calls Tryz.prog 15 #[cfgA c (.slice p c.L.length cap)] w fun e w' => (∃ ev, e = .returned ev ∧ ErrIs w' ad ev (cfgF c).1 (cfgF c).2) ∧ Below w.heap.size w w' := by
  obtain ⟨w1, hw1⟩ : ∃ w1, w1 = w.alloc (.cells #[.int .i64 c.n, .int .i64 c.k, .slice p c.L.length cap] 24) := ⟨_, rfl⟩
  have hb1 : Below w.heap.size w w1 := by rw [hw1]; exact (Below.refl _ _).alloc (Nat.le_refl _) _
  have hx1 : CfgBox w1 w.heap.size c (.slice p c.L.length cap) := by rw [hw1]; exact cfgBox_made w c _ _
  have hE1 := hE.below hb1
  have HCK : Hid (Calls Tryz.prog 26 #[.slice p c.L.length cap] w1 fun e w' => (∃ ev, e = .returned ev ∧ ErrIs w' ad ev (nodesF c.L).1 (nodesF c.L).2) ∧ Below w1.heap.size w1 w') := check_any ad p c.L cap w1 hc.len hc.room (hc.strs.below hb1) hE1
  have HW1 : Hid (w1 = w.alloc (.cells #[.int .i64 c.n, .int .i64 c.k, .slice p c.L.length cap] 24)) := hw1
  have HB1 : Hid (Below w.heap.size w w1) := hb1
  have HMF : Hid (∀ W, Calls Tryz.prog 25 #[.int .i64 c.n, .int .i64 c.k] W fun e w' => e = .returned (.bool (decide (1 ≤ c.k ∧ c.k ≤ c.n ∧ c.n ≤ 12))) ∧ w' = W) := fun W => mfits_any c.n c.k W
  have q1 := hE1.c1
  have q2 := hE1.c2
  have f0 := hx1.f0
  have f1 := hx1.f1
  have f2 := hx1.f2
  have HI1 : Hid (∀ W, ErrIs W ad (.iface 165 (.pointer (some (ad 1)))) 2 (-1)) := fun W => ErrIs.sent 1 (by decide)
  have HI2 : Hid (∀ W, ErrIs W ad (.iface 165 (.pointer (some (ad 2)))) 3 (-1)) := fun W => ErrIs.sent 2 (by decide)
  have hl1 := hc.len
  unfold cfgA
  clear hw1 hb1 hx1 hE1 hE hc
  by_cases hf : 1 ≤ c.k ∧ c.k ≤ c.n ∧ c.n ≤ 12
  · have HMF1 : Hid (∀ W, Calls Tryz.prog 25 #[.int .i64 c.n, .int .i64 c.k] W fun e w' => e = .returned (.bool true) ∧ w' = W) := fun W => by have := HMF.out W; rw [decide_eq_true hf] at this; exact this
    by_cases hn : (c.L.length : Int) = c.n
    · have HF : Hid (cfgF c = nodesF c.L) := cfgF_nodes hf hn
      rw [HF.out]
      obtain ⟨n, k, L⟩ := c
      dsimp only at *
      subst hn
      clear HMF HF hf
      generalize nodesF L = R at *
      go_enter Tryz.func15, Tryz.ntmps15
      go_wp2_with fail
      rw [← HW1.out]
      refine (HMF1.out _).mono ?_
      rintro e w2 ⟨rfl, hw2⟩
      rw [hw2]
      clear hw2 w2 HMF1
      go_wp2_with fail
      refine HCK.out.mono ?_
      rintro e w3 ⟨⟨ev, rfl, hev⟩, hb3⟩
      have HB3 : Hid (Below w.heap.size w w3) := HB1.out.trans (hb3.mono HB1.out.size)
      have HEV : Hid (ErrIs w3 ad ev R.1 R.2) := hev
      clear hev hb3 HCK
      go_wp2
      go_ret
      exact ⟨⟨_, rfl, HEV.out⟩, HB3.out⟩
    · have HF : Hid (cfgF c = (3, -1)) := cfgF_shape hf hn
      rw [HF.out]
      obtain ⟨n, k, L⟩ := c
      dsimp only at *
      clear HMF HF hf HCK
      go_enter Tryz.func15, Tryz.ntmps15
      go_wp2_with fail
      rw [← HW1.out]
      refine (HMF1.out _).mono ?_
      rintro e w2 ⟨rfl, hw2⟩
      rw [hw2]
      clear hw2 w2 HMF1
      go_wp2
      go_ret
      exact ⟨⟨_, rfl, HI2.out _⟩, HB1.out⟩
  · have HF : Hid (cfgF c = (2, -1)) := cfgF_bound hf
    have HMF1 : Hid (∀ W, Calls Tryz.prog 25 #[.int .i64 c.n, .int .i64 c.k] W fun e w' => e = .returned (.bool false) ∧ w' = W) := fun W => by have := HMF.out W; rw [decide_eq_false hf] at this; exact this
    rw [HF.out]
    obtain ⟨n, k, L⟩ := c
    dsimp only at *
    clear HMF HF hf HCK
    go_enter Tryz.func15, Tryz.ntmps15
    go_wp2_with fail
    rw [← HW1.out]
    refine (HMF1.out _).mono ?_
    rintro e w2 ⟨rfl, hw2⟩
    rw [hw2]
    clear hw2 w2 HMF1
    go_wp2
    go_ret
    exact ⟨⟨_, rfl, HI1.out _⟩, HB1.out⟩
set_option maxRecDepth 10000 in
set_option maxHeartbeats 4000000 in
theorem qenough_any (ad : Nat → Addr) (c : Cfg) (p : Option Addr) (cap : Nat) (w : World) (hc : CfgAt w c p cap) (hE : ErrsQ w ad) :
    Calls Tryz.prog 14 #[cfgA c (.slice p c.L.length cap)] w fun e w' => (∃ ev, e = .returned (.tuple #[.int .i64 ((if 0 < (cfgF c).1 then 0 else enoughN c : Nat) : Int), ev]) ∧ ErrIs w' ad ev (cfgF c).1 (cfgF c).2) ∧ Below w.heap.size w w' := by
  obtain ⟨w1, hw1⟩ : ∃ w1, w1 = w.alloc (.cells #[.int .i64 c.n, .int .i64 c.k, .slice p c.L.length cap] 24) := ⟨_, rfl⟩
  have hb1 : Below w.heap.size w w1 := by rw [hw1]; exact (Below.refl _ _).alloc (Nat.le_refl _) _
  have hx1 : CfgBox w1 w.heap.size c (.slice p c.L.length cap) := by rw [hw1]; exact cfgBox_made w c _ _
  have HCK := qcheck_any ad c p cap w1 (hc.below hb1) (hE.below hb1)
  have HW1 : Hid (w1 = w.alloc (.cells #[.int .i64 c.n, .int .i64 c.k, .slice p c.L.length cap] 24)) := hw1
  have HB1 : Hid (Below w.heap.size w w1) := hb1
  have HX1 : Hid (CfgBox w1 w.heap.size c (.slice p c.L.length cap)) := hx1
  have f0 := hx1.f0
  have f1 := hx1.f1
  have f2 := hx1.f2
  unfold cfgA at HCK ⊢
  clear hw1 hb1 hx1 hE hc
  by_cases hp : 0 < (cfgF c).1
  · rw [if_pos hp]
    have HP : Hid (0 < (cfgF c).1) := hp
    clear hp
    generalize cfgF c = R at *
    obtain ⟨n, k, L⟩ := c
    dsimp only at *
    go_enter Tryz.func14, Tryz.ntmps14
    go_wp2_with fail
    rw [← HW1.out]
    refine HCK.mono ?_
    rintro e w3 ⟨⟨ev, rfl, hev⟩, hb3⟩
    have HB3 : Hid (Below w.heap.size w w3) := HB1.out.trans (hb3.mono HB1.out.size)
    have HEV : Hid (ErrIs w3 ad ev R.1 R.2) := hev
    obtain ⟨et, eu, rfl⟩ := hev.some HP.out
    clear hev hb3 HCK
    go_wp2
    go_ret2
    exact ⟨⟨_, rfl, HEV.out⟩, HB3.out⟩
  · obtain ⟨hf, hn, h0, _, _⟩ := cfgF_fine hp
    rw [if_neg hp, h0]
    rw [h0] at HCK
    have HEN : Hid ((c.n + c.k + 1) / 2 = ((enoughN c : Nat) : Int)) := by
      show _ = _
      unfold enoughN
      omega
    have hf1 : 1 ≤ c.k := hf.1
    have hf2 : c.k ≤ c.n := hf.2.1
    have hf3 : c.n ≤ 12 := hf.2.2
    clear hp hn h0 hf
    generalize enoughN c = en at *
    obtain ⟨n, k, L⟩ := c
    dsimp only at *
    go_enter Tryz.func14, Tryz.ntmps14
    go_wp2_with fail
    rw [← HW1.out]
    refine HCK.mono ?_
    rintro e w3 ⟨⟨ev, rfl, hev⟩, hb3⟩
    have HB3 : Hid (Below w.heap.size w w3) := HB1.out.trans (hb3.mono HB1.out.size)
    have hx3 := HX1.out.below hb3
    have g0 := hx3.f0
    have g1 := hx3.f1
    dsimp only at g0 g1
    obtain rfl := ErrIs.isNil hev
    clear hev hb3 HCK hx3 f0 f1 f2
    go_wp2
    go_ret2
    exact ⟨⟨_, by rw [HEN.out]; rfl, ErrIs.nil _ _⟩, HB3.out⟩
/-- What Best tells: an error's number and place. -/
def bestE (c : Cfg) (LL : List (List Ver)) : Int × Int := if 0 < (cfgF c).1 then cfgF c else if c.n < (LL.length : Int) then (3, -1) else (0, -1)
/-- The tag, the object, and whether there is one. -/
def bestT (c : Cfg) (LL : List (List Ver)) : (Int × Int) × ByteArray × Bool := if 0 < (bestE c LL).1 then ((0, 0), ⟨#[]⟩, false) else bestF c.n.toNat c.k.toNat LL.flatten LL.flatten
structure BestOk (ad : Nat → Addr) (X : World → Prop) : Prop where
  best : ∀ (c : Cfg) (p : Option Addr) (cap : Nat) (LL : List (List Ver)) (pl : Option Addr) (cl : Nat) (w : World), CfgAt w c p cap → Vss w pl LL → muchT LL = false → (∀ v ∈ LL.flatten, VerI64 v) → ErrsQ w ad → X w → Calls Tryz.prog 7 #[cfgA c (.slice p c.L.length cap), .slice pl LL.length cl] w fun e w' => (∃ ev, e = .returned (.tuple #[.agg #[.int .i64 (bestT c LL).1.1, .int .i64 (bestT c LL).1.2], .string (bestT c LL).2.1, .bool (bestT c LL).2.2, ev]) ∧ ErrIs w' ad ev (bestE c LL).1 (bestE c LL).2) ∧ Below w.heap.size w w'
theorem bestE_bad {c : Cfg} {LL : List (List Ver)} (h : 0 < (cfgF c).1) : bestE c LL = cfgF c ∧ bestT c LL = ((0, 0), ⟨#[]⟩, false) := by
  have e : bestE c LL = cfgF c := if_pos h
  exact ⟨e, by unfold bestT; rw [e, if_pos h]⟩
theorem bestE_many {c : Cfg} {LL : List (List Ver)} (h : ¬ 0 < (cfgF c).1) (h2 : c.n < (LL.length : Int)) : bestE c LL = (3, -1) ∧ bestT c LL = ((0, 0), ⟨#[]⟩, false) := by
  have e : bestE c LL = (3, -1) := by unfold bestE; rw [if_neg h, if_pos h2]
  exact ⟨e, by unfold bestT; rw [e]; rfl⟩
theorem bestE_fine {c : Cfg} {LL : List (List Ver)} (h : ¬ 0 < (cfgF c).1) (h2 : ¬ c.n < (LL.length : Int)) : bestE c LL = (0, -1) ∧ bestT c LL = bestF c.n.toNat c.k.toNat LL.flatten LL.flatten := by
  have e : bestE c LL = (0, -1) := by unfold bestE; rw [if_neg h, if_neg h2]
  exact ⟨e, by unfold bestT; rw [e]; rfl⟩
theorem muchT_fine {LL : List (List Ver)} (h : muchT LL = false) : LL.length ≤ 200 ∧ LL.flatten.length ≤ 200 := by
  unfold muchT at h
  rw [Bool.or_eq_false_iff] at h
  have h2 := of_decide_eq_false h.2
  have := tolN_len LL.flatten
  omega
theorem Sent.errsQ {w : World} {ad : Nat → Addr} (h : Sent w ad) : ErrsQ w ad := ⟨h.c1, h.c2, h.c3, h.c4, h.c5⟩
theorem ErrIs.setInt {w : World} {ad : Nat → Addr} {ev : Value} {c at_ : Int} {b : Nat} {z : Int} (h : ErrIs w ad ev c at_) (hz : w.cell? ⟨b, 1, none⟩ = Option.some (Value.int .i64 z)) (i : Nat) (v : Value) : ErrIs (w.setCell ⟨b, i, none⟩ v) ad ev c at_ := by
  rcases h with h | h | ⟨k, fb, hk, he, hc, h0, h1⟩
  · exact Or.inl h
  · exact Or.inr (Or.inl h)
  · have hne : fb ≠ b := fun e => by
      subst e
      rw [hz] at h1
      cases h1
    exact Or.inr (Or.inr ⟨k, fb, hk, he, hc, (World.cell?_setCell_other _ _ _ _ (fun e => hne (congrArg Addr.block e).symm)).trans h0, (World.cell?_setCell_other _ _ _ _ (fun e => hne (congrArg Addr.block e).symm)).trans h1⟩)
/-- A list that came in. -/
structure TxsIn (w : World) (l : List ByteArray) (p : Option Addr) (cap : Nat) : Prop where
  strs : Strs w p l
  room : l.length ≤ cap
  empty : p = none → l = [] ∧ cap = 0
  len : l.length ≤ maxLen
  size : ∀ x ∈ l, x.size ≤ maxLen
section
open Go.Sort
theorem below_growB (w : World) (n : Nat) (os : Array Obj) : RowKit.Below w.heap.size w (grow (w.drewN n) os) := ⟨rfl, rfl, rfl, by show w.heap.size ≤ (w.heap ++ os).size; rw [Array.size_append]; omega, fun _ hj => heap_grow_old (w.drewN n) os hj⟩
theorem pless_any (a b : Int × Int) (w : World) : Calls Tryz.prog 17 #[.agg #[.int .i64 a.1, .int .i64 a.2], .agg #[.int .i64 b.1, .int .i64 b.2]] w fun e w' => e = .returned (.bool (lessB a b)) ∧ RowKit.Below w.heap.size w w' := (less_any a b w).mono fun e w' ⟨he, q, os, hw⟩ => ⟨he, by rw [hw]; exact below_growB w q os⟩
/-- What holds while the tags are gone through: t is the greatest of those that came, if one of them has shards enough. -/
structure MaxInv (n k : Nat) (L : List Ver) (left : Lit → Bool) (t : Int × Int) (found : Bool) : Prop where
  no : found = false → t = (0, 0) ∧ ∀ u, TagIn u → left (litT u) = false → ¬ GoodT n k L u
  yes : found = true → TagIn t ∧ GoodT n k L t ∧ ∀ u, TagIn u → left (litT u) = false → GoodT n k L u → lessB t u = false
theorem good_in {n k : Nat} {L : List Ver} {u : Int × Int} (hk : 1 ≤ k) (hin : ∀ v ∈ L, TagIn (v.n, v.who)) (h : GoodT n k L u) : TagIn u := by
  obtain ⟨v, hv, e⟩ := good_told hk h
  rw [← e]
  exact hin v hv
theorem good_some {n k : Nat} {L : List Ver} {u : Int × Int} (hk : 1 ≤ k) (h : GoodT n k L u) : (shOf n k u L).2 ≠ [] := fun e => by
  unfold GoodT at h
  rw [e] at h
  simp at h
  omega
/-- Ahead of the first: none of those that are no longer to come has shards. -/
theorem maxInv_start {w : World} {B b n k : Nat} {L : List Ver} {D : DataW Value} {row : Int × Int → Value} {blk : Int × Int → Nat} (hk : 1 ≤ k) (h : TbAt w B b n k L D row blk) : MaxInv n k L (Maps.has D) (0, 0) false :=
  ⟨fun _ => ⟨rfl, fun u hu hl hg => by
    rw [h.has u hu] at hl
    exact of_decide_eq_false hl (good_some hk hg)⟩, fun e => by cases e⟩
theorem left_split {left : Lit → Bool} {t u : Int × Int} (ht : TagIn t) (hu : TagIn u) (h : (left (litT u) && !(litT u).sameKey (litT t)) = false) : left (litT u) = false ∨ u = t := by
  cases hl : left (litT u) with
  | false => exact Or.inl rfl
  | true =>
    rw [hl] at h
    right
    have hs : (litT u).sameKey (litT t) = true := by
      cases hs : (litT u).sameKey (litT t) with
      | true => rfl
      | false => rw [hs] at h; cases h
    exact litT_inj hu ht (WideAt.sameKey_eq hs)
/-- The next tag is not taken: it has too few, or is no greater. -/
theorem maxInv_pass {n k : Nat} {L : List Ver} {left : Lit → Bool} {t u : Int × Int} {found : Bool} (h : MaxInv n k L left t found) (hu : TagIn u) (hp : ¬ GoodT n k L u ∨ found = true ∧ lessB t u = false) : MaxInv n k L (fun z => left z && !z.sameKey (litT u)) t found := by
  refine ⟨fun e => ⟨(h.no e).1, fun x hx hl hg => ?_⟩, fun e => ⟨(h.yes e).1, (h.yes e).2.1, fun x hx hl hg => ?_⟩⟩
  · rcases left_split hu hx hl with h1 | h1
    · exact (h.no e).2 x hx h1 hg
    · subst h1
      rcases hp with h2 | h2
      · exact h2 hg
      · rw [e] at h2; cases h2.1
  · rcases left_split hu hx hl with h1 | h1
    · exact (h.yes e).2.2 x hx h1 hg
    · subst h1
      rcases hp with h2 | h2
      · exact absurd hg h2
      · exact h2.2
theorem maxInv_take {n k : Nat} {L : List Ver} {left : Lit → Bool} {t u : Int × Int} {found : Bool} (h : MaxInv n k L left t found) (hu : TagIn u) (hg : GoodT n k L u) (hp : found = true → lessB t u = true) : MaxInv n k L (fun z => left z && !z.sameKey (litT u)) u true := by
  refine ⟨fun e => (by cases e), fun _ => ⟨hu, hg, fun x hx hl hgx => ?_⟩⟩
  rcases left_split hu hx hl with h1 | h1
  · cases hf : found with
    | false => exact absurd hgx ((h.no hf).2 x hx h1)
    | true =>
      have h2 := (h.yes hf).2.2 x hx h1 hgx
      cases hq : lessB u x with
      | false => rfl
      | true => rw [less_trans (hp hf) hq] at h2; cases h2
  · subst h1
    simp [lessB]
/-- All have come. -/
theorem maxInv_end {n k : Nat} {L : List Ver} {left : Lit → Bool} {t : Int × Int} {found : Bool} (hk : 1 ≤ k) (hin : ∀ v ∈ L, TagIn (v.n, v.who)) (h : MaxInv n k L left t found) (hl : ∀ z, left z = false) : bestF n k L L = (t, if found then decOf n k L t else ⟨#[]⟩, found) := by
  cases found with
  | false =>
    obtain ⟨rfl, h2⟩ := h.no rfl
    rw [best_none (fun v hv => h2 _ (hin v hv) (hl _))]
    rfl
  | true =>
    obtain ⟨_, h1, h2⟩ := h.yes rfl
    rw [best_is hk h1 (fun u hu => h2 u (good_in hk hin hu) (hl _) hu)]
    rfl
theorem TbAt.entry {w : World} {B b n k : Nat} {L : List Ver} {D : DataW Value} {row : Int × Int → Value} {blk : Int × Int → Nat} (h : TbAt w B b n k L D row blk) {left : Lit → Bool} (hsub : ∀ z, left z = true → Maps.has D z = true) {x : Int × Int} {c : Int × Option Addr × Nat × Nat} {kl : Lit} {y : DataW Value × List MemPlace} (hkey : keyOf Tryz.prog 30 (tagV x) = some kl) (hlk : left kl = true) (hv : toldR (toldV c) = some y) (hat : ∀ zd, D.atKey kl zd = y.1) :
    TagIn x ∧ kl = litT x ∧ c.2.2.1 = (shOf n k x L).2.length := by
  obtain ⟨t, ht, rfl, hin⟩ := keyOfT_inv hkey
  have hx : x = t := by
    unfold tagV at ht
    simp at ht
    exact Prod.ext ht.1 ht.2
  subst hx
  have hh := hsub _ hlk
  rw [h.has x hin] at hh
  have hne := of_decide_eq_true hh
  have e1 := h.at_ x hin hne (.held (toldV c))
  rw [hat] at e1
  have e2 : y = (.held (toldV c), []) := by rw [toldR_mk] at hv; exact (Option.some.inj hv).symm
  rw [e2] at e1
  have e3 : toldV c = .agg #[.int .i64 (shOf n k x L).1, row x] := by injection e1
  obtain ⟨p, cp, hr, _⟩ := shs_of_own (h.own x hin)
  rw [hr] at e3
  unfold toldV at e3
  simp at e3
  exact ⟨hin, rfl, e3.2.2.1⟩
theorem tab_ranges {w : World} {b r n cnt : Nat} {D : DataW Value} {left : Lit → Bool} (h : w.ranges Tryz.prog 30 toldR b r n D left cnt) : r < w.heap.size ∧ b < w.heap.size := ⟨World.ranges.lt h, World.ownsMap.lt (World.ranges.owns h)⟩
/-- What Best has on its way: its configuration, the tag that it found, the map. -/
structure BAt (W : World) (a : Nat) (n k : Nat) (lv : Value) (t : Int × Int) (B b : Nat) (L : List Ver) (D : DataW Value) (row : Int × Int → Value) (blk : Int × Int → Nat) : Prop where
  c0 : W.cell? ⟨a, 0, none⟩ = some (.int .i64 (n : Int))
  c1 : W.cell? ⟨a, 1, none⟩ = some (.int .i64 (k : Int))
  T : TwoC W (a + 1) (.int .i64 t.1) (.int .i64 t.2)
  tab : TbAt W B b n k L D row blk
  hB : a + 1 + 1 ≤ B
theorem BAt.below {W W' : World} {a n k : Nat} {lv : Value} {t : Int × Int} {B b : Nat} {L : List Ver} {D : DataW Value} {row : Int × Int → Value} {blk : Int × Int → Nat} (h : BAt W a n k lv t B b L D row blk) (hb : Below W.heap.size W W') : BAt W' a n k lv t B b L D row blk :=
  ⟨(hb.cell (p := ⟨a, 0, none⟩) (lt_of_cell h.c0)).trans h.c0, (hb.cell (p := ⟨a, 1, none⟩) (lt_of_cell h.c0)).trans h.c1, h.T.below hb, h.tab.below hb, h.hB⟩
/-- A tag is written. -/
theorem BAt.set {W : World} {a n k : Nat} {lv : Value} {t : Int × Int} {B b : Nat} {L : List Ver} {D : DataW Value} {row : Int × Int → Value} {blk : Int × Int → Nat} (h : BAt W a n k lv t B b L D row blk) (u : Int × Int) : BAt ((W.setCell ⟨a + 1, 0, none⟩ (.int .i64 u.1)).setCell ⟨a + 1, 1, none⟩ (.int .i64 u.2)) a n k lv u B b L D row blk := by
  have hg : W.grownBy ((W.setCell ⟨a + 1, 0, none⟩ (.int .i64 u.1)).setCell ⟨a + 1, 1, none⟩ (.int .i64 u.2)) (some (a + 1)) := ⟨rfl, rfl, rfl, by simp [World.setCell], fun j _ hne => by
    have hj : j ≠ a + 1 := fun e => hne (by rw [e])
    rw [Below.heap_setCell _ _ _ _ hj, Below.heap_setCell _ _ _ _ hj]⟩
  have hbk := hg.block a (lt_of_cell h.c0) (by simp)
  have hBB := h.hB
  refine ⟨(World.cell?_of_block (a := ⟨a, 0, none⟩) hbk).trans h.c0, (World.cell?_of_block (a := ⟨a, 1, none⟩) hbk).trans h.c1, (h.T.set0 _).set1 _, ?_, h.hB⟩
  obtain ⟨m, hm, h1⟩ := h.tab.map
  have hbb := h.tab.inB
  refine ⟨⟨m, hm, World.ownsMap.kept h1 hg (by simp; omega)⟩, h.tab.inB, h.tab.has, h.tab.at_, fun t ht => World.ownsRow.kept (h.tab.own t ht) hg ?_, h.tab.nil_, h.tab.blk_, h.tab.apart⟩
  cases hv : (row t).ownBlock with
  | none => exact Or.inl rfl
  | some g =>
    refine Or.inr fun e => ?_
    injection e with e
    have := (World.ownsRow.lt (h.tab.own t ht) g hv).1
    omega
theorem BAt.grown {W W' : World} {a n k : Nat} {lv : Value} {t : Int × Int} {B b r : Nat} {L : List Ver} {D : DataW Value} {row : Int × Int → Value} {blk : Int × Int → Nat} (h : BAt W a n k lv t B b L D row blk) (hg : W.grownBy W' (some r)) (h1 : a + 1 < r) (h2 : b < r) (h3 : ∀ t, TagIn t → ∀ g, (row t).ownBlock = some g → g < r) : BAt W' a n k lv t B b L D row blk := by
  have hbk := hg.block a (lt_of_cell h.c0) (by simp; omega)
  obtain ⟨m, hm, h4⟩ := h.tab.map
  refine ⟨(World.cell?_of_block (a := ⟨a, 0, none⟩) hbk).trans h.c0, (World.cell?_of_block (a := ⟨a, 1, none⟩) hbk).trans h.c1, h.T.grown hg (by simp; omega), ⟨⟨m, hm, World.ownsMap.kept h4 hg (by simp; omega)⟩, h.tab.inB, h.tab.has, h.tab.at_, fun t ht => World.ownsRow.kept (h.tab.own t ht) hg ?_, h.tab.nil_, h.tab.blk_, h.tab.apart⟩, h.hB⟩
  cases hv : (row t).ownBlock with
  | none => exact Or.inl rfl
  | some g =>
    refine Or.inr fun e => ?_
    injection e with e
    have := h3 t ht g hv
    omega
theorem vers_in {v : Ver} (h : VerI64 v) : TagIn (v.n, v.who) := ⟨h.1, h.2.1⟩
set_option maxRecDepth 10000 in
set_option maxHeartbeats 8000000 in
theorem best_any (ad : Nat → Addr) (c : Cfg) (p : Option Addr) (cap : Nat) (LL : List (List Ver)) (pl : Option Addr) (cl : Nat) (w : World) (hc : CfgAt w c p cap) (hL : Vss w pl LL) (hm1 : LL.length ≤ 1000) (hm2 : LL.flatten.length ≤ 1000) (hin : ∀ v ∈ LL.flatten, VerI64 v) (hE : ErrsQ w ad) (z : Addr) (hZ : w.cell? ⟨11, 0, none⟩ = some (.iface 165 (.pointer (some z)))) :
    Calls Tryz.prog 7 #[cfgA c (.slice p c.L.length cap), .slice pl LL.length cl] w fun e w' => (∃ ev, e = .returned (.tuple #[.agg #[.int .i64 (bestT c LL).1.1, .int .i64 (bestT c LL).1.2], .string (bestT c LL).2.1, .bool (bestT c LL).2.2, ev]) ∧ ErrIs w' ad ev (bestE c LL).1 (bestE c LL).2) ∧ Below w.heap.size w w' := by
  obtain ⟨w0, hw0⟩ : ∃ w0, w0 = w.alloc (.cells #[.int .i64 c.n, .int .i64 c.k, .slice p c.L.length cap] 24) := ⟨_, rfl⟩
  obtain ⟨w1, hw1⟩ : ∃ w1, w1 = w0.alloc (.cells #[.int .i64 0, .int .i64 0] 30) := ⟨_, rfl⟩
  have e0 : w0.heap.size = w.heap.size + 1 := by rw [hw0]; simp
  have e1 : w1.heap.size = w.heap.size + 1 + 1 := by rw [hw1, ← e0]; simp
  have hb0 : Below w.heap.size w w0 := by rw [hw0]; exact (Below.refl _ _).alloc (Nat.le_refl _) _
  have hb01 : Below w0.heap.size w0 w1 := by rw [hw1]; exact (Below.refl _ _).alloc (Nat.le_refl _) _
  have hb1 : Below w.heap.size w w1 := hb0.trans (hb01.mono hb0.size)
  have hx0 : CfgBox w0 w.heap.size c (.slice p c.L.length cap) := by rw [hw0]; exact cfgBox_made w c _ _
  have hx1 := hx0.below hb01
  have hT1 : TwoC w1 (w.heap.size + 1) (.int .i64 0) (.int .i64 0) := by
    rw [hw1]
    exact ⟨by rw [World.cell?_alloc_at _ _ _ _ e0.symm]; rfl, by rw [World.cell?_alloc_at _ _ _ _ e0.symm]; rfl, World.frozen?_alloc_at _ _ _ _ e0.symm, World.frozen?_alloc_at _ _ _ _ e0.symm⟩
  have HCK := qcheck_any ad c p cap w1 (hc.below hb1) (hE.below hb1)
  have HW1 : Hid (w1 = (w.alloc (.cells #[.int .i64 c.n, .int .i64 c.k, .slice p c.L.length cap] 24)).alloc (.cells #[.int .i64 0, .int .i64 0] 30)) := by show _ = _; rw [hw1, hw0]
  have HB1 : Hid (Below w.heap.size w w1) := hb1
  have HS1 : Hid (w1.heap.size = w.heap.size + 1 + 1) := e1
  have HX1 : Hid (CfgBox w1 w.heap.size c (.slice p c.L.length cap)) := hx1
  have HT1 : Hid (TwoC w1 (w.heap.size + 1) (.int .i64 0) (.int .i64 0)) := hT1
  have HE1 : Hid (ErrsQ w1 ad) := hE.below hb1
  have HL1 : Hid (Vss w1 pl LL) := hL.below hb1
  have HZ1 : Hid (w1.cell? ⟨11, 0, none⟩ = some (.iface 165 (.pointer (some z)))) := (hb1.cell (p := ⟨11, 0, none⟩) (lt_of_cell hZ)).trans hZ
  have HIN : Hid (∀ v ∈ LL.flatten, TagIn (v.n, v.who)) := fun v hv => vers_in (hin v hv)
  have HSG : Hid (0 < w.heap.size) := lt_of_cellE hE.c2
  have HZ0 : Hid (w.cell? ⟨11, 0, none⟩ = some (.iface 165 (.pointer (some z)))) := hZ
  have f0 := hx1.f0
  have f1 := hx1.f1
  have f2 := hx1.f2
  unfold cfgA at HCK ⊢
  clear hw0 hw1 hb0 hb01 hb1 hx0 hx1 hT1 hc hL hin hE hZ e0 e1
  by_cases hp : 0 < (cfgF c).1
  · obtain ⟨hbe, hbt⟩ := bestE_bad (LL := LL) hp
    rw [hbe, hbt]
    have HP : Hid (0 < (cfgF c).1) := hp
    clear hp hbe hbt HIN
    generalize cfgF c = R at *
    obtain ⟨n, k, L⟩ := c
    dsimp only at *
    go_enter Tryz.func7, Tryz.ntmps7
    go_wp2_with (rw [← HW1.out])
    refine HCK.mono ?_
    rintro e w3 ⟨⟨ev, rfl, hev⟩, hb3⟩
    have hT3 := HT1.out.below hb3
    have t0 := hT3.c0
    have t1 := hT3.c1
    have tf0 := hT3.f0
    have tf1 := hT3.f1
    have hT4 := (hT3.set0 (.int .i64 0)).set1 (.int .i64 0)
    have k0 := hT4.c0
    have k1 := hT4.c1
    have HEV : Hid (ErrIs ((w3.setCell ⟨w.heap.size + 1, 0, none⟩ (.int .i64 0)).setCell ⟨w.heap.size + 1, 1, none⟩ (.int .i64 0)) ad ev R.1 R.2) := (hev.setInt hT3.c1 0 _).setInt (hT3.set0 (.int .i64 0)).c1 1 _
    have HB4 : Hid (Below w.heap.size w ((w3.setCell ⟨w.heap.size + 1, 0, none⟩ (.int .i64 0)).setCell ⟨w.heap.size + 1, 1, none⟩ (.int .i64 0))) := ((HB1.out.trans (hb3.mono HB1.out.size)).setCell (by show w.heap.size ≤ w.heap.size + 1; omega) _).setCell (by show w.heap.size ≤ w.heap.size + 1; omega) _
    obtain ⟨et, eu, rfl⟩ := hev.some HP.out
    clear hev hb3 HCK f0 f1 f2 hT3 hT4
    go_wp2
    exact bodyPost_ret (v := .tuple #[.agg #[.int .i64 0, .int .i64 0], .string ⟨#[]⟩, .bool false, .iface et eu]) (by simp [results, Tryz.results7, go_sem, k0, k1]) rfl ⟨⟨_, rfl, HEV.out⟩, HB4.out⟩
  · obtain ⟨hf, hn, h0, _, _⟩ := cfgF_fine hp
    rw [h0] at HCK
    by_cases hmany : c.n < (LL.length : Int)
    · obtain ⟨hbe, hbt⟩ := bestE_many (LL := LL) hp hmany
      rw [hbe, hbt]
      clear hp hn h0 hf hbe hbt HIN
      obtain ⟨n, k, L⟩ := c
      dsimp only at *
      go_enter Tryz.func7, Tryz.ntmps7
      go_wp2_with (rw [← HW1.out])
      refine HCK.mono ?_
      rintro e w3 ⟨⟨ev, rfl, hev⟩, hb3⟩
      obtain rfl := ErrIs.isNil hev
      have hT3 := HT1.out.below hb3
      have t0 := hT3.c0
      have t1 := hT3.c1
      have tf0 := hT3.f0
      have tf1 := hT3.f1
      have hT4 := (hT3.set0 (.int .i64 0)).set1 (.int .i64 0)
      have k0 := hT4.c0
      have k1 := hT4.c1
      have q2 := (HE1.out.below hb3).c2
      have hgs : (⟨w.heap.size + 1, 0, none⟩ : Addr) ≠ ⟨0, 0, none⟩ := fun e => by have h1 : w.heap.size + 1 = 0 := congrArg Addr.block e; have := HSG.out; omega
      have hgt : (⟨w.heap.size + 1, 1, none⟩ : Addr) ≠ ⟨0, 0, none⟩ := fun e => by have h1 : w.heap.size + 1 = 0 := congrArg Addr.block e; have := HSG.out; omega
      have q3 : (w3.setCell ⟨w.heap.size + 1, 0, none⟩ (.int .i64 0)).cell? ⟨0, 0, none⟩ = some (.iface 165 (.pointer (some (ad 2)))) := (World.cell?_setCell_other _ _ _ _ hgs).trans q2
      have q4 : ((w3.setCell ⟨w.heap.size + 1, 0, none⟩ (.int .i64 0)).setCell ⟨w.heap.size + 1, 1, none⟩ (.int .i64 0)).cell? ⟨0, 0, none⟩ = some (.iface 165 (.pointer (some (ad 2)))) := (World.cell?_setCell_other _ _ _ _ hgt).trans q3
      have HB4 : Hid (Below w.heap.size w ((w3.setCell ⟨w.heap.size + 1, 0, none⟩ (.int .i64 0)).setCell ⟨w.heap.size + 1, 1, none⟩ (.int .i64 0))) := ((HB1.out.trans (hb3.mono HB1.out.size)).setCell (by show w.heap.size ≤ w.heap.size + 1; omega) _).setCell (by show w.heap.size ≤ w.heap.size + 1; omega) _
      have hx3 := HX1.out.below hb3
      have g0 := hx3.f0
      dsimp only at g0
      clear hev hb3 HCK f0 f1 f2 hT3 hT4 hx3
      go_wp2
      go_region
      go_wp2
      exact bodyPost_ret (v := .tuple #[.agg #[.int .i64 0, .int .i64 0], .string ⟨#[]⟩, .bool false, .iface 165 (.pointer (some (ad 2)))]) (by simp [results, Tryz.results7, go_sem, k0, k1]) rfl ⟨⟨_, rfl, ErrIs.sent 2 (by decide)⟩, by first | exact HB4.out | exact HB4.out.drew⟩
    · obtain ⟨hbe, hbt⟩ := bestE_fine (LL := LL) hp hmany
      obtain ⟨cn, ck, L⟩ := c
      dsimp only at *
      obtain ⟨n, rfl⟩ := Int.eq_ofNat_of_zero_le (show 0 ≤ cn by omega)
      obtain ⟨k, rfl⟩ := Int.eq_ofNat_of_zero_le (show 0 ≤ ck by omega)
      rw [Int.toNat_natCast, Int.toNat_natCast] at hbt
      rw [hbe]
      have hk1 : 1 ≤ k := by omega
      have hkn : k ≤ n := by omega
      have hn12 : n ≤ 12 := by omega
      obtain ⟨RR, hRR⟩ : ∃ RR, RR = bestT ⟨n, k, L⟩ LL := ⟨_, rfl⟩
      rw [← hRR]
      have HRR : Hid (RR = bestF n k LL.flatten LL.flatten) := hRR.trans hbt
      have dmany : ¬ (n : Int) < (LL.length : Int) := hmany
      have HBY : Hid (∀ W, Vss W pl LL → Calls Tryz.prog 16 #[.agg #[.int .i64 (n : Int), .int .i64 (k : Int), .slice p L.length cap], .slice pl LL.length cl] W fun e w' => (∃ b, e = .returned (.map (some b)) ∧ TbOf w' (W.heap.size + 1) b n k LL.flatten) ∧ Below W.heap.size W w') := fun W hW => byTag_any n k p L.length cap pl LL cl W hk1 hkn hn12 (by omega) (by omega) hW HIN.out
      have HEND : Hid (∀ left t found, MaxInv n k LL.flatten left t found → (∀ z, left z = false) → RR = (t, if found then decOf n k LL.flatten t else ⟨#[]⟩, found)) := fun left t found h hl => HRR.out.trans (maxInv_end hk1 HIN.out h hl)
      have HFIT : Hid (∀ t, GoodT n k LL.flatten t → (((shOf n k t LL.flatten).1.toNat : Nat) : Int) = (shOf n k t LL.flatten).1 ∧ (shOf n k t LL.flatten).1.toNat ≤ 1000 ∧ Fits n k (shOf n k t LL.flatten).1.toNat (shOf n k t LL.flatten).2 ∧ (shOf n k t LL.flatten).2.length ≤ 1000) := fun t hg => by
        obtain ⟨a1, a2, a3, _⟩ := shOf_fits (n := n) (k := k) (t := t) (L := LL.flatten) hk1 (by unfold GoodT at hg; omega)
        have := shOf_le (n := n) (k := k) (t := t) LL.flatten LL.flatten.length
        rw [List.take_length] at this
        exact ⟨a1, a2, a3, by omega⟩
      clear hp hn h0 hf hbe hbt hRR hmany HIN HRR
      generalize LL.flatten = VV at *
      go_enter Tryz.func7, Tryz.ntmps7
      go_wp2_with (rw [← HW1.out])
      refine HCK.mono ?_
      rintro e w2 ⟨⟨ev, rfl, hev⟩, hb2⟩
      obtain rfl := ErrIs.isNil hev
      have hx2 := HX1.out.below hb2
      have g0 := hx2.f0
      have g1 := hx2.f1
      have g2 := hx2.f2
      dsimp only at g0 g1 g2
      have HX2 : Hid (CfgBox w2 w.heap.size ⟨(n : Int), (k : Int), L⟩ (.slice p L.length cap)) := hx2
      have HT2 : Hid (TwoC w2 (w.heap.size + 1) (.int .i64 0) (.int .i64 0)) := HT1.out.below hb2
      have HB2 : Hid (Below w.heap.size w w2) := HB1.out.trans (hb2.mono HB1.out.size)
      have HS2 : Hid (w.heap.size + 1 + 1 ≤ w2.heap.size) := by show _ ≤ _; rw [← HS1.out]; exact hb2.size
      have HZ2 : Hid (w2.cell? ⟨11, 0, none⟩ = some (.iface 165 (.pointer (some z)))) := (hb2.cell (p := ⟨11, 0, none⟩) (lt_of_cell HZ1.out)).trans HZ1.out
      have HBY2 := HBY.out w2 (HL1.out.below hb2)
      clear hev hb2 HCK f0 f1 f2 hx2 HX1 HT1 HB1 HS1 HZ1 HE1 HL1 HBY HW1
      go_wp2_with fail
      refine HBY2.mono ?_
      rintro e w3 ⟨⟨b, rfl, D, row, blk, htb⟩, hb3⟩
      have HAT3 : Hid (BAt w3 w.heap.size n k (.slice p L.length cap) (0, 0) (w2.heap.size + 1) b VV D row blk) := ⟨(HX2.out.below hb3).f0, (HX2.out.below hb3).f1, HT2.out.below hb3, htb, by have := HS2.out; omega⟩
      have HB3 : Hid (Below w.heap.size w w3) := HB2.out.trans (hb3.mono HB2.out.size)
      have HZ3 : Hid (w3.cell? ⟨11, 0, none⟩ = some (.iface 165 (.pointer (some z)))) := (hb3.cell (p := ⟨11, 0, none⟩) (lt_of_cell HZ2.out)).trans HZ2.out
      have H0 : Hid (MaxInv n k VV (Maps.has D) (0, 0) false) := maxInv_start hk1 htb
      obtain ⟨m, hm, hown⟩ := htb.map
      have hblt : b < w3.heap.size := htb.lt
      clear hb3 HBY2 g0 g1 g2 HX2 HT2 HB2 HZ2 htb hm
      go_wp2_with (first
        | (at_range; refine wpList_range_own _ rfl _ 53 rfl 30 57 keyedT Tryz.underlying53 toldR b m D rfl hown ?_; intro w4 hrg0 hg0 hs0)
        | go_in)
      go_frame
      have HB34 : Hid (Below w3.heap.size w3 w4) := ⟨hg0.os, hg0.tape, hg0.output, hg0.size, fun k hk => hg0.block k hk (by simp)⟩
      have HRG4 : Hid (w4.ranges Tryz.prog 30 toldR b w3.heap.size m D (Maps.has D) (Maps.size D)) := hrg0
      have HAT4 : Hid (BAt w4 w.heap.size n k (.slice p L.length cap) (0, 0) (w2.heap.size + 1) b VV D row blk) := HAT3.out.below HB34.out
      have HZB : Hid (∀ W, Below (w.heap.size + 1) w4 W → Below w.heap.size w W ∧ W.cell? ⟨11, 0, none⟩ = some (.iface 165 (.pointer (some z)))) := fun W hW => by
        have h0 : Below w.heap.size w W := (HB3.out.trans (HB34.out.mono HB3.out.size)).trans (hW.mono (by omega))
        exact ⟨h0, (h0.cell (p := ⟨11, 0, none⟩) (lt_of_cell HZ0.out)).trans HZ0.out⟩
      have HROW : Hid (∀ t, TagIn t → ∀ g, (row t).ownBlock = some g → g < w3.heap.size) := fun t ht g hg => (World.ownsRow.lt (HAT3.out.tab.own t ht) g hg).2
      have HR3 : Hid (w.heap.size + 1 < w3.heap.size) := by
        show _ < _
        have h1 := HAT3.out.tab.lt
        have h2 := HAT3.out.tab.inB
        have h3 := HS2.out
        omega
      clear hrg0 hg0 hs0 hown
      go_loopw [6] (fun fo wr => ∃ (left : Lit → Bool) (cnt : Nat) (t : Int × Int) (found : Bool), fo = .bool found ∧ wr.ranges Tryz.prog 30 toldR b w3.heap.size m D left cnt ∧ MaxInv n k VV left t found ∧ (∀ z, left z = true → Maps.has D z = true) ∧ BAt wr w.heap.size n k (.slice p L.length cap) t (w2.heap.size + 1) b VV D row blk ∧ Below (w.heap.size + 1) w4 wr) (fun _ wr => wr.rangeLeft b w3.heap.size)
      case atStart => exact ⟨Maps.has D, Maps.size D, (0, 0), false, rfl, HRG4.out, H0.out, fun z hz => hz, HAT4.out, Below.refl _ _⟩
      case round =>
        obtain ⟨left, cnt, t, found, rfl, hrg, hinv, hsub, hat, hB⟩ := hrel
        obtain ⟨w5, rfl⟩ : ∃ w5, w5 = wr := ⟨_, rfl⟩
        have HINV : Hid (MaxInv n k VV left t found) := hinv
        have HSUB : Hid (∀ z, left z = true → Maps.has D z = true) := hsub
        have HAT : Hid (BAt w5 w.heap.size n k (.slice p L.length cap) t (w2.heap.size + 1) b VV D row blk) := hat
        have HB : Hid (Below (w.heap.size + 1) w4 w5) := hB
        clear hinv hsub hat hB HRG4 HAT4 H0 HAT3
        go_wp2_with (first
          | (at_next; refine wpList_next_ranges (α := Int × Int) (β := Int × Option Addr × Nat × Nat) _ rfl _ rfl 30 keyedT toldR tagV toldV (fun key kl hk => by obtain ⟨x, hx, _⟩ := keyOfT_inv hk; exact ⟨x, hx⟩) (fun v y hv => by obtain ⟨x, hx, _⟩ := toldR_inv hv; exact ⟨x, hx⟩) b w3.heap.size m D left cnt rfl hrg ?_ ?_)
          | go_in)
        · intro _ hl0
          have HRES : Hid (RR = (t, if found then decOf n k VV t else ⟨#[]⟩, found)) := HEND.out left t found HINV.out hl0
          have hT := HAT.out.T
          clear hl0 hrg HEND HSUB HROW
          cases found with
          | false =>
            have t0 := hT.c0
            have t1 := hT.c1
            have tf0 := hT.f0
            have tf1 := hT.f1
            have hT4 := (hT.set0 (.int .i64 t.1)).set1 (.int .i64 t.2)
            have k0 := hT4.c0
            have k1 := hT4.c1
            have HB9 : Hid (Below w.heap.size w ((w5.setCell ⟨w.heap.size + 1, 0, none⟩ (.int .i64 t.1)).setCell ⟨w.heap.size + 1, 1, none⟩ (.int .i64 t.2))) := ((HZB.out w5 HB.out).1.setCell (by show w.heap.size ≤ w.heap.size + 1; omega) _).setCell (by show w.heap.size ≤ w.heap.size + 1; omega) _
            clear hT hT4 HINV HAT HFIT HZB
            go_wp2
            exact bodyPost_ret (v := .tuple #[.agg #[.int .i64 t.1, .int .i64 t.2], .string ⟨#[]⟩, .bool false, .nilIface]) (by simp [results, Tryz.results7, go_sem, k0, k1]) rfl ⟨⟨_, by rw [HRES.out]; rfl, ErrIs.nil _ _⟩, HB9.out⟩
          | true =>
            obtain ⟨htin, hgood, _⟩ := HINV.out.yes rfl
            obtain ⟨q1, q2, q3, q4⟩ := HFIT.out t hgood
            have hne := good_some hk1 hgood
            have hlk := (HAT.out.tab.below (Below.refl _ _).drew).look htin
            obtain ⟨p6, c6, hrow, hshs⟩ := shs_of_own (HAT.out.tab.own t htin)
            unfold sizeT at hlk
            rw [if_neg hne, hrow, ← q1] at hlk
            have HRES2 : Hid (RR = (t, decT k (shOf n k t VV).1.toNat (pickN k (shOf n k t VV).2 (shOf n k t VV).2.length), true)) := HRES.out
            have HDC : Hid (∀ W, Below w5.heap.size w5 W → Calls Tryz.prog 18 #[.int .i64 (n : Int), .int .i64 (k : Int), .int .i64 (((shOf n k t VV).1.toNat : Nat) : Int), .slice p6 (shOf n k t VV).2.length c6] W fun e w' => e = .returned (.tuple #[.string (decT k (shOf n k t VV).1.toNat (pickN k (shOf n k t VV).2 (shOf n k t VV).2.length)), .nilIface]) ∧ Below W.heap.size W w') := fun W hW => decode_ok n k (shOf n k t VV).1.toNat p6 (shOf n k t VV).2 c6 z W hk1 hkn hn12 q2 q4 q3 (hshs.below hW) ((hW.cell (p := ⟨11, 0, none⟩) (lt_of_cell (HZB.out w5 HB.out).2)).trans (HZB.out w5 HB.out).2)
            have t0 := hT.c0
            have t1 := hT.c1
            have g0 := HAT.out.c0
            have g1 := HAT.out.c1
            have HSS : Hid (∀ W, Below w5.heap.size w5 W → (W.cell? ⟨w.heap.size, 0, none⟩ = some (.int .i64 (n : Int)) ∧ W.cell? ⟨w.heap.size, 1, none⟩ = some (.int .i64 (k : Int)) ∧ W.cell? ⟨w.heap.size + 1, 0, none⟩ = some (.int .i64 t.1) ∧ W.cell? ⟨w.heap.size + 1, 1, none⟩ = some (.int .i64 t.2) ∧ (Instr.lookup 53 (.map (some b)) (.agg #[.int .i64 t.1, .int .i64 t.2]) false).run Tryz.prog W = .ok (.agg #[.int .i64 (((shOf n k t VV).1.toNat : Nat) : Int), .slice p6 (shOf n k t VV).2.length c6]) W ∧ Below w5.heap.size w5 W)) := fun W hW => by
              have hat := HAT.out.below hW
              have hl := hat.tab.look htin
              unfold sizeT at hl
              rw [if_neg hne, hrow, ← q1] at hl
              exact ⟨hat.c0, hat.c1, hat.T.c0, hat.T.c1, hl, hW⟩
            have hf0 : ∀ W, (Instr.field 57 (.agg #[.int .i64 (((shOf n k t VV).1.toNat : Nat) : Int), .slice p6 (shOf n k t VV).2.length c6]) 0).run Tryz.prog W = .ok (.int .i64 (((shOf n k t VV).1.toNat : Nat) : Int)) W := fun W => by kernel_rfl
            have hf1 : ∀ W, (Instr.field 57 (.agg #[.int .i64 (((shOf n k t VV).1.toNat : Nat) : Int), .slice p6 (shOf n k t VV).2.length c6]) 1).run Tryz.prog W = .ok (.slice p6 (shOf n k t VV).2.length c6) W := fun W => by kernel_rfl
            clear hlk hrow hshs hne q1 q2 q3 q4 hgood htin hT HINV HRES HFIT t0 t1 g0 g1
            generalize decT k (shOf n k t VV).1.toNat (pickN k (shOf n k t VV).2 (shOf n k t VV).2.length) = dt at *
            generalize (shOf n k t VV).1.toNat = sz at *
            generalize (shOf n k t VV).2.length = ln at *
            have HDC2 : Hid (∀ W, (W.cell? ⟨w.heap.size, 0, none⟩ = some (.int .i64 (n : Int)) ∧ W.cell? ⟨w.heap.size, 1, none⟩ = some (.int .i64 (k : Int)) ∧ W.cell? ⟨w.heap.size + 1, 0, none⟩ = some (.int .i64 t.1) ∧ W.cell? ⟨w.heap.size + 1, 1, none⟩ = some (.int .i64 t.2) ∧ (Instr.lookup 53 (.map (some b)) (.agg #[.int .i64 t.1, .int .i64 t.2]) false).run Tryz.prog W = .ok (.agg #[.int .i64 (sz : Int), .slice p6 ln c6]) W ∧ Below w5.heap.size w5 W) → Calls Tryz.prog 18 #[.int .i64 (n : Int), .int .i64 (k : Int), .int .i64 (sz : Int), .slice p6 ln c6] W fun e w' => e = .returned (.tuple #[.string dt, .nilIface]) ∧ (w'.cell? ⟨w.heap.size, 0, none⟩ = some (.int .i64 (n : Int)) ∧ w'.cell? ⟨w.heap.size, 1, none⟩ = some (.int .i64 (k : Int)) ∧ w'.cell? ⟨w.heap.size + 1, 0, none⟩ = some (.int .i64 t.1) ∧ w'.cell? ⟨w.heap.size + 1, 1, none⟩ = some (.int .i64 t.2) ∧ (Instr.lookup 53 (.map (some b)) (.agg #[.int .i64 t.1, .int .i64 t.2]) false).run Tryz.prog w' = .ok (.agg #[.int .i64 (sz : Int), .slice p6 ln c6]) w' ∧ Below w5.heap.size w5 w')) := fun W hW => (HDC.out W hW.2.2.2.2.2).mono fun e w' ⟨he, hb⟩ => ⟨he, HSS.out w' (hW.2.2.2.2.2.trans (hb.mono hW.2.2.2.2.2.size))⟩
            have hS0 := HSS.out w5 (Below.refl _ _)
            clear HDC
            go_wp2
            go_region_held3 (fun W => (W.cell? ⟨w.heap.size, 0, none⟩ = some (.int .i64 (n : Int)) ∧ W.cell? ⟨w.heap.size, 1, none⟩ = some (.int .i64 (k : Int)) ∧ W.cell? ⟨w.heap.size + 1, 0, none⟩ = some (.int .i64 t.1) ∧ W.cell? ⟨w.heap.size + 1, 1, none⟩ = some (.int .i64 t.2) ∧ (Instr.lookup 53 (.map (some b)) (.agg #[.int .i64 t.1, .int .i64 t.2]) false).run Tryz.prog W = .ok (.agg #[.int .i64 (sz : Int), .slice p6 ln c6]) W ∧ Below w5.heap.size w5 W)) (first | assumption | exact HSS.out _ (Below.refl _ _).drew) (first | (go_at_call 18; refine (HDC2.out _ (by assumption)).mono ?_; rintro e w6 ⟨rfl, hS6⟩))
            all_goals
              have hB6 : Below w5.heap.size w5 w6 := hS6.2.2.2.2.2
              have hT6 := HAT.out.T.below hB6
              have t0 := hT6.c0
              have t1 := hT6.c1
              have tf0 := hT6.f0
              have tf1 := hT6.f1
              have hT4 := (hT6.set0 (.int .i64 t.1)).set1 (.int .i64 t.2)
              have k0 := hT4.c0
              have k1 := hT4.c1
              have HB9 : Hid (Below w.heap.size w ((w6.setCell ⟨w.heap.size + 1, 0, none⟩ (.int .i64 t.1)).setCell ⟨w.heap.size + 1, 1, none⟩ (.int .i64 t.2))) := ((HZB.out w6 (HB.out.trans (hB6.mono (by have := lt_of_cell HAT.out.T.c0; omega)))).1.setCell (by show w.heap.size ≤ w.heap.size + 1; omega) _).setCell (by show w.heap.size ≤ w.heap.size + 1; omega) _
              clear hB6 hT6 hT4 hS6 HSS HDC2 hS0 hf0 hf1
              go_wp2
              exact bodyPost_ret (v := .tuple #[.agg #[.int .i64 t.1, .int .i64 t.2], .string dt, .bool true, .nilIface]) (by simp [results, Tryz.results7, go_sem, k0, k1]) rfl ⟨⟨_, by rw [HRES2.out], ErrIs.nil _ _⟩, HB9.out⟩
        · intro x1 x2 cz cp cn cc4 kl yd yp w6 cnt2 hkey hlk hv hatk hrg2 hlt2 hg2 hs2 hen
          obtain ⟨hxin, rfl, hlen⟩ := HAT.out.tab.entry HSUB.out hkey hlk hv hatk
          dsimp only at hlen
          have hr3 : w.heap.size + 1 < w3.heap.size := HR3.out
          have hat6 := HAT.out.grown hg2 hr3 hblt HROW.out
          have hb6 : Below (w.heap.size + 1) w4 w6 := HB.out.trans ⟨hg2.os, hg2.tape, hg2.output, hg2.size, fun j hj => hg2.block j (by have := (tab_ranges hrg).1; omega) (fun e => by injection e with e; omega)⟩
          obtain ⟨w7, hw7⟩ : ∃ w7, w7 = (w6.alloc (.cells #[.int .i64 x1, .int .i64 x2] 30)).alloc (.cells #[.int .i64 cz, .slice cp cn cc4] 57) := ⟨_, rfl⟩
          have hb67 : Below w6.heap.size w6 w7 := by rw [hw7]; exact ((Below.refl _ _).alloc (Nat.le_refl _) _).alloc (by simp) _
          have x0 : w7.cell? ⟨w6.heap.size, 0, none⟩ = some (.int .i64 x1) := by rw [hw7]; simp
          have x1' : w7.cell? ⟨w6.heap.size, 1, none⟩ = some (.int .i64 x2) := by rw [hw7]; simp
          have y1 : w7.cell? ⟨w6.heap.size + 1, 1, none⟩ = some (.slice cp cn cc4) := by rw [hw7]; simp
          have HW7 : Hid (w7 = (w6.alloc (.cells #[.int .i64 x1, .int .i64 x2] 30)).alloc (.cells #[.int .i64 cz, .slice cp cn cc4] 57)) := hw7
          have hat7 := hat6.below hb67
          have HAT7 : Hid (BAt w7 w.heap.size n k (.slice p L.length cap) t (w2.heap.size + 1) b VV D row blk) := hat7
          have HB7 : Hid (Below (w.heap.size + 1) w4 w7) := hb6.trans (hb67.mono (by have := hb6.size; have := (tab_ranges hrg2).1; omega))
          have hrg7 := qbRanges_same hrg2 (hb67.block b (tab_ranges hrg2).2) (hb67.block w3.heap.size (tab_ranges hrg2).1)
          have HRG7 : Hid (w7.ranges Tryz.prog 30 toldR b w3.heap.size m D (fun z => left z && !z.sameKey (litT (x1, x2))) cnt2) := hrg7
          have HLT : Hid (cnt2 < cnt) := hlt2
          have HRG0 : Hid (w5.ranges Tryz.prog 30 toldR b w3.heap.size m D left cnt) := hrg
          have HS2 : Hid (∀ z, (left z && !z.sameKey (litT (x1, x2))) = true → Maps.has D z = true) := fun z hz => HSUB.out z (by simp only [Bool.and_eq_true] at hz; exact hz.1)
          have HXI : Hid (TagIn (x1, x2)) := hxin
          have HGD : Hid (GoodT n k VV (x1, x2) ↔ k ≤ cn) := by show _ ↔ _; unfold GoodT; rw [hlen]
          have HLS : Hid (∀ W, Calls Tryz.prog 17 #[.agg #[.int .i64 t.1, .int .i64 t.2], .agg #[.int .i64 x1, .int .i64 x2]] W fun e w' => e = .returned (.bool (lessB t (x1, x2))) ∧ RowKit.Below W.heap.size W w') := fun W => pless_any t (x1, x2) W
          have g1 := hat7.c1
          have t0 := hat7.T.c0
          have t1 := hat7.T.c1
          have tf0 := hat7.T.f0
          have tf1 := hat7.T.f1
          have HPASS : Hid (∀ W, Below w7.heap.size w7 W → (¬ k ≤ cn ∨ found = true ∧ lessB t (x1, x2) = false) → W.ranges Tryz.prog 30 toldR b w3.heap.size m D (fun z => left z && !z.sameKey (litT (x1, x2))) cnt2 ∧ MaxInv n k VV (fun z => left z && !z.sameKey (litT (x1, x2))) t found ∧ BAt W w.heap.size n k (.slice p L.length cap) t (w2.heap.size + 1) b VV D row blk ∧ Below (w.heap.size + 1) w4 W) := fun W hW hcond =>
            ⟨qbRanges_same HRG7.out (hW.block b (tab_ranges HRG7.out).2) (hW.block w3.heap.size (tab_ranges HRG7.out).1), maxInv_pass HINV.out HXI.out (by rcases hcond with h | h; exact Or.inl fun hg => h (HGD.out.1 hg); exact Or.inr h), HAT7.out.below hW, HB7.out.trans (hW.mono (by have := HB7.out.size; have := (tab_ranges HRG7.out).1; omega))⟩
          have HTAKE : Hid (∀ W, Below w7.heap.size w7 W → k ≤ cn → (found = true → lessB t (x1, x2) = true) → ((W.setCell ⟨w.heap.size + 1, 0, none⟩ (.int .i64 x1)).setCell ⟨w.heap.size + 1, 1, none⟩ (.int .i64 x2)).ranges Tryz.prog 30 toldR b w3.heap.size m D (fun z => left z && !z.sameKey (litT (x1, x2))) cnt2 ∧ MaxInv n k VV (fun z => left z && !z.sameKey (litT (x1, x2))) (x1, x2) true ∧ BAt ((W.setCell ⟨w.heap.size + 1, 0, none⟩ (.int .i64 x1)).setCell ⟨w.heap.size + 1, 1, none⟩ (.int .i64 x2)) w.heap.size n k (.slice p L.length cap) (x1, x2) (w2.heap.size + 1) b VV D row blk ∧ Below (w.heap.size + 1) w4 ((W.setCell ⟨w.heap.size + 1, 0, none⟩ (.int .i64 x1)).setCell ⟨w.heap.size + 1, 1, none⟩ (.int .i64 x2))) := fun W hW hk hp => by
            have hWr := qbRanges_same HRG7.out (hW.block b (tab_ranges HRG7.out).2) (hW.block w3.heap.size (tab_ranges HRG7.out).1)
            have hBW := HAT7.out.below hW
            have hbb := hBW.tab.inB
            have hBB := hBW.hB
            have hne1 : b ≠ w.heap.size + 1 := by omega
            have hne2 : w3.heap.size ≠ w.heap.size + 1 := by have := HR3.out; omega
            refine ⟨qbRanges_same hWr ?_ ?_, maxInv_take HINV.out HXI.out (HGD.out.2 hk) hp, hBW.set (x1, x2), ?_⟩
            · rw [Below.heap_setCell _ _ _ _ hne1, Below.heap_setCell _ _ _ _ hne1]
            · rw [Below.heap_setCell _ _ _ _ hne2, Below.heap_setCell _ _ _ _ hne2]
            · exact ((HB7.out.trans (hW.mono (by have := HB7.out.size; have := (tab_ranges HRG7.out).1; omega))).setCell (Nat.le_refl _) _).setCell (Nat.le_refl _) _
          clear hkey hlk hv hatk hrg2 hlt2 hg2 hs2 hlen hxin hat6 hb6 hw7 hb67 hat7 hrg7 hrg HSUB HINV HAT HB HAT7 HGD
          unfold tagV toldV at hen ⊢
          by_cases hkc : k ≤ cn
          · have d1 : decide (k ≤ cn) = true := decide_eq_true hkc
            cases found with
            | false =>
              have hps := HTAKE.out w7 (Below.refl _ _) hkc (fun h => by cases h)
              clear HPASS HTAKE HLS
              go_wp2_with (first | rw [← HW7.out] | fail)
              exact ⟨⟨_, cnt2, (x1, x2), true, rfl, hps.1, hps.2.1, HS2.out, hps.2.2.1, hps.2.2.2⟩, by rw [World.ranges.left_eq hps.1, World.ranges.left_eq HRG0.out]; exact HLT.out⟩
            | true =>
              cases hls : lessB t (x1, x2) with
              | false =>
                rw [hls] at HLS
                have HPS : Hid (∀ W, Below w7.heap.size w7 W → W.ranges Tryz.prog 30 toldR b w3.heap.size m D (fun z => left z && !z.sameKey (litT (x1, x2))) cnt2 ∧ MaxInv n k VV (fun z => left z && !z.sameKey (litT (x1, x2))) t true ∧ BAt W w.heap.size n k (.slice p L.length cap) t (w2.heap.size + 1) b VV D row blk ∧ Below (w.heap.size + 1) w4 W) := fun W hW => HPASS.out W hW (Or.inr ⟨rfl, hls⟩)
                clear HPASS HTAKE hls
                go_wp2_with (first | rw [← HW7.out] | fail)
                refine (HLS.out _).mono ?_
                rintro e w8 ⟨rfl, hb8⟩
                have hps := HPS.out w8 hb8
                clear HPS HLS hb8
                go_wp2
                exact ⟨⟨_, cnt2, t, true, rfl, hps.1, hps.2.1, HS2.out, hps.2.2.1, hps.2.2.2⟩, by rw [World.ranges.left_eq hps.1, World.ranges.left_eq HRG0.out]; exact HLT.out⟩
              | true =>
                rw [hls] at HLS
                have HPS : Hid (∀ W, Below w7.heap.size w7 W → ((W.cell? ⟨w6.heap.size, 0, none⟩ = some (.int .i64 x1) ∧ W.cell? ⟨w6.heap.size, 1, none⟩ = some (.int .i64 x2)) ∧ TwoC W (w.heap.size + 1) (.int .i64 t.1) (.int .i64 t.2)) ∧ ((W.setCell ⟨w.heap.size + 1, 0, none⟩ (.int .i64 x1)).setCell ⟨w.heap.size + 1, 1, none⟩ (.int .i64 x2)).ranges Tryz.prog 30 toldR b w3.heap.size m D (fun z => left z && !z.sameKey (litT (x1, x2))) cnt2 ∧ MaxInv n k VV (fun z => left z && !z.sameKey (litT (x1, x2))) (x1, x2) true ∧ BAt ((W.setCell ⟨w.heap.size + 1, 0, none⟩ (.int .i64 x1)).setCell ⟨w.heap.size + 1, 1, none⟩ (.int .i64 x2)) w.heap.size n k (.slice p L.length cap) (x1, x2) (w2.heap.size + 1) b VV D row blk ∧ Below (w.heap.size + 1) w4 ((W.setCell ⟨w.heap.size + 1, 0, none⟩ (.int .i64 x1)).setCell ⟨w.heap.size + 1, 1, none⟩ (.int .i64 x2))) := fun W hW => ⟨⟨⟨(hW.cell (p := ⟨w6.heap.size, 0, none⟩) (lt_of_cell x0)).trans x0, (hW.cell (p := ⟨w6.heap.size, 1, none⟩) (lt_of_cell x0)).trans x1'⟩, TwoC.below ⟨t0, t1, tf0, tf1⟩ hW⟩, HTAKE.out W hW hkc (fun _ => hls)⟩
                clear HPASS HTAKE hls
                go_wp2_with (first | rw [← HW7.out] | fail)
                refine (HLS.out _).mono ?_
                rintro e w8 ⟨rfl, hb8⟩
                obtain ⟨⟨⟨z0, z1⟩, hT8⟩, hps⟩ := HPS.out w8 hb8
                clear t0 t1 tf0 tf1
                have t0 := hT8.c0
                have t1 := hT8.c1
                have tf0 := hT8.f0
                have tf1 := hT8.f1
                clear HPS HLS hb8 hT8 x0 x1' y1
                go_wp2
                exact ⟨⟨_, cnt2, (x1, x2), true, rfl, hps.1, hps.2.1, HS2.out, hps.2.2.1, hps.2.2.2⟩, by rw [World.ranges.left_eq hps.1, World.ranges.left_eq HRG0.out]; exact HLT.out⟩
          · have d1 : decide (k ≤ cn) = false := decide_eq_false hkc
            have hps := HPASS.out w7 (Below.refl _ _) (Or.inl hkc)
            clear HPASS HTAKE HLS
            go_wp2_with (first | rw [← HW7.out] | fail)
            exact ⟨⟨_, cnt2, t, found, rfl, hps.1, hps.2.1, HS2.out, hps.2.2.1, hps.2.2.2⟩, by rw [World.ranges.left_eq hps.1, World.ranges.left_eq HRG0.out]; exact HLT.out⟩
theorem bestOk (ad : Nat → Addr) : BestOk ad fun w => ∃ z, w.cell? ⟨11, 0, none⟩ = some (.iface 165 (.pointer (some z))) where
  best := fun c p cap LL pl cl w hc hL hm hin hE hX => by
    obtain ⟨z, hz⟩ := hX
    obtain ⟨hm1, hm2⟩ := muchT_fine hm
    exact best_any ad c p cap LL pl cl w hc hL (by omega) (by omega) hin hE z hz
theorem enoughOk (ad : Nat → Addr) (X : World → Prop) : EnoughOk ad X where
  enough := fun c p cap w hc hE _ => qenough_any ad c p cap w hc hE
end
end Go.Proofs.YtpjeibicopgedaaGreatDoor
