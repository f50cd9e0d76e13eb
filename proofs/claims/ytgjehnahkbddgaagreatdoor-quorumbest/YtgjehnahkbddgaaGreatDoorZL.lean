/- The statements' own muchTold: lists of versions that are too much to be tried. -/
import Derived.Test.YtgjehnahkbddgaaGreatDoorZK
import Derived.Test.YtgjehnahkbddgaaGreatDoorZA
import Derived.Deep.Heap
namespace Go.Proofs.YtgjehnahkbddgaaGreatDoor
open Go.RowKit
/-- An object that is long, and can be. -/
def bigV (v : Ver) : Bool := decide (200 < v.size ∧ v.size ≤ 1000)
/-- How much is told. -/
def tolN (L : List Ver) : Nat := (L.map fun v => 1 + v.text.size / 20).sum
theorem tolN_append (a b : List Ver) : tolN (a ++ b) = tolN a + tolN b := by simp [tolN]
theorem tolN_succ {L : List Ver} {j : Nat} (hj : j < L.length) : tolN (L.take (j + 1)) = tolN (L.take j) + (1 + (verAt L j).text.size / 20) := by
  rw [List.take_add_one, verAt_get hj, tolN_append]
  simp [tolN]
theorem tolN_take (L : List Ver) (j : Nat) : tolN (L.take j) ≤ tolN L := by
  have h : tolN L = tolN (L.take j) + tolN (L.drop j) := by rw [← tolN_append, List.take_append_drop]
  omega
theorem tolN_len (L : List Ver) : L.length ≤ tolN L := by
  induction L with
  | nil => exact Nat.le_refl _
  | cons v L ih =>
    have e : tolN (v :: L) = 1 + v.text.size / 20 + tolN L := by simp [tolN]
    rw [e, List.length_cons]
    omega
theorem big_succ {L : List Ver} {j : Nat} (hj : j < L.length) : (L.take (j + 1)).any bigV = ((L.take j).any bigV || bigV (verAt L j)) := by
  rw [List.take_add_one, verAt_get hj, List.any_append]
  simp
theorem big_of_at {L : List Ver} {j : Nat} (hj : j < L.length) (h : bigV (verAt L j) = true) : L.any bigV = true := by
  refine List.any_eq_true.2 ⟨_, ?_, h⟩
  have := verAt_get hj
  exact List.mem_of_getElem? this
/-- Too much to be tried. -/
def muchT (LL : List (List Ver)) : Bool := LL.flatten.any bigV || decide (200 < LL.length + tolN LL.flatten)
theorem tolN_flat {LL : List (List Ver)} {i : Nat} (hi : i < LL.length) : tolN (LL.take i).flatten + tolN (LL.getD i []) ≤ tolN LL.flatten := by
  rw [← tolN_append, ← flatten_take_succ hi]
  have h : LL.flatten = (LL.take (i + 1)).flatten ++ (LL.drop (i + 1)).flatten := by rw [← List.flatten_append, List.take_append_drop]
  rw [h, tolN_append]
  omega
theorem big_flat {LL : List (List Ver)} {i : Nat} (hi : i < LL.length) (h : (LL.getD i []).any bigV = true) : LL.flatten.any bigV = true := by
  obtain ⟨v, hv, hb⟩ := List.any_eq_true.1 h
  refine List.any_eq_true.2 ⟨v, List.mem_flatten.2 ⟨LL.getD i [], ?_, hv⟩, hb⟩
  rw [List.getD_eq_getElem?_getD, List.getElem?_eq_getElem hi]
  exact List.getElem_mem hi
set_option maxRecDepth 10000 in
set_option maxHeartbeats 8000000 in
theorem muchTold_any (p : Option Addr) (LL : List (List Ver)) (cap : Nat) (w : World) (hb : LL.length + tolN LL.flatten ≤ 4611686018427387904) (hL : Vss w p LL) :
    Calls Tryz.prog 6 #[.slice p LL.length cap] w fun e w' => e = .returned (.bool (muchT LL)) ∧ Below w.heap.size w w' := by
  have HL : Hid (Vss w p LL) := hL
  have HTF : Hid (∀ i, i < LL.length → tolN (LL.take i).flatten + tolN (LL.getD i []) ≤ tolN LL.flatten) := fun i hi => tolN_flat hi
  have HBF : Hid (∀ i, i < LL.length → (LL.getD i []).any bigV = true → muchT LL = true) := fun i hi h => by unfold muchT; rw [big_flat hi h]; rfl
  have HFS : Hid (∀ i, i < LL.length → tolN (LL.take (i + 1)).flatten = tolN (LL.take i).flatten + tolN (LL.getD i [])) := fun i hi => by rw [flatten_take_succ hi, tolN_append]
  have HAS : Hid (∀ i, i < LL.length → (LL.take (i + 1)).flatten.any bigV = ((LL.take i).flatten.any bigV || (LL.getD i []).any bigV)) := fun i hi => by rw [flatten_take_succ hi, List.any_append]
  have HF0 : Hid (tolN (LL.take 0).flatten = 0 ∧ (LL.take 0).flatten.any bigV = false) := by exact ⟨rfl, rfl⟩
  have HFN : Hid ((LL.take LL.length).flatten.any bigV = false → muchT LL = decide (200 < LL.length + tolN (LL.take LL.length).flatten)) := fun h => by
    rw [List.take_length] at h ⊢
    unfold muchT
    rw [h, Bool.false_or]
  generalize muchT LL = R at *
  generalize tolN LL.flatten = TT at *
  clear hL
  go_enter Tryz.func6, Tryz.ntmps6
  go_wp2
  go_loopw [3, 4] (fun nv x wr => ∃ i : Nat, i ≤ LL.length ∧ x = .int .i64 i ∧ nv = .int .i64 ((LL.length + tolN (LL.take i).flatten : Nat) : Int) ∧ (LL.take i).flatten.any bigV = false ∧ Below w.heap.size w wr) (fun _ x _ => LL.length - (intOf x).toNat)
  case atStart => exact ⟨0, Nat.zero_le _, rfl, by rw [HF0.out.1]; rfl, HF0.out.2, Below.refl _ _⟩
  case round =>
    obtain ⟨i, hi, rfl, rfl, hany, hB⟩ := hrel
    obtain ⟨w1, rfl⟩ : ∃ w1, w1 = wr := ⟨_, rfl⟩
    have HB : Hid (Below w.heap.size w w1) := hB
    have HANY : Hid ((LL.take i).flatten.any bigV = false) := hany
    clear hB hany
    by_cases hil : i < LL.length
    · have htf := HTF.out i hil
      have HBI : Hid ((LL.getD i []).any bigV = true → R = true) := HBF.out i hil
      have HNX : Hid ((LL.getD i []).any bigV = false → ∀ W, Below w.heap.size w W → ∃ j : Nat, j ≤ LL.length ∧ (.int .i64 ((i : Int) + 1) : Value) = .int .i64 j ∧ (.int .i64 ((LL.length + tolN (LL.take i).flatten + tolN (LL.getD i []) : Nat) : Int) : Value) = .int .i64 ((LL.length + tolN (LL.take j).flatten : Nat) : Int) ∧ (LL.take j).flatten.any bigV = false ∧ Below w.heap.size w W) := fun h W hW => ⟨i + 1, hil, by rw [Int.natCast_add]; rfl, by rw [HFS.out i hil, Nat.add_assoc], by rw [HAS.out i hil, HANY.out, h]; rfl, hW⟩
      rcases HL.out with h0 | ⟨b, o, rfl, hblt, hc⟩
      · rw [h0] at hil; simp at hil
      obtain ⟨q, c, hcell, hrec, hlc, hqn⟩ := hc i hil
      have HR : Hid (Rec verE w q (LL.getD i [])) := hrec
      have HCE : Hid (∀ W, Below w.heap.size w W → W.cell? ⟨b, o + i, none⟩ = some (.slice q (LL.getD i []).length c)) := fun W hW => (hW.cell (p := ⟨b, o + i, none⟩) hblt).trans hcell
      clear hc hrec hqn hcell HTF HBF HFS HAS HF0 HFN HANY
      generalize LL.getD i [] = row at *
      generalize tolN (LL.take i).flatten = ni at *
      have hrl := tolN_len row
      have HTS : Hid (∀ j, j < row.length → tolN (row.take (j + 1)) = tolN (row.take j) + (1 + (verAt row j).text.size / 20)) := fun j hj => tolN_succ hj
      have HTT : Hid (∀ j, tolN (row.take j) ≤ tolN row) := fun j => tolN_take row j
      have HGS : Hid (∀ j, j < row.length → (row.take (j + 1)).any bigV = ((row.take j).any bigV || bigV (verAt row j))) := fun j hj => big_succ hj
      have HGA : Hid (∀ j, j < row.length → bigV (verAt row j) = true → R = true) := fun j hj h => HBI.out (big_of_at hj h)
      have HR0 : Hid (tolN (row.take 0) = 0 ∧ (row.take 0).any bigV = false) := by exact ⟨rfl, rfl⟩
      have HRN : Hid (row.take row.length = row) := List.take_length
      go_wp2
      go_loopw [3, 5] (fun nv x wr => ∃ j : Nat, j ≤ row.length ∧ x = .int .i64 j ∧ nv = .int .i64 ((LL.length + ni + tolN (row.take j) : Nat) : Int) ∧ (row.take j).any bigV = false ∧ Below w.heap.size w wr) (fun _ x _ => row.length - (intOf x).toNat)
      case atStart => exact ⟨0, Nat.zero_le _, rfl, by rw [HR0.out.1]; rfl, HR0.out.2, HB.out⟩
      case round =>
        obtain ⟨j, hj, rfl, rfl, hany, hB⟩ := hrel
        obtain ⟨w2, rfl⟩ : ∃ w2, w2 = wr := ⟨_, rfl⟩
        have HB2 : Hid (Below w.heap.size w w2) := hB
        have HANY : Hid ((row.take j).any bigV = false) := hany
        have hce := HCE.out w2 hB
        have HR2 : Hid (Rec verE w2 q row) := HR.out.below hB
        have hz2 : w.heap.size ≤ w2.heap.size := hB.size
        clear hB hany
        by_cases hjl : j < row.length
        · obtain ⟨b', o', hpp, hblt', d0, d1, d2, d3, d4⟩ := ver_cells HR2.out hjl
          subst hpp
          have hts := HTS.out j hjl
          have htt := HTT.out (j + 1)
          have hgs := HGS.out j hjl
          have hga := HGA.out j hjl
          rw [hts] at htt
          have HTSH : Hid (tolN (row.take (j + 1)) = tolN (row.take j) + (1 + (verAt row j).text.size / 20)) := hts
          have HGSH : Hid (bigV (verAt row j) = false → (row.take (j + 1)).any bigV = false) := fun h => by rw [hgs, HANY.out, h]; rfl
          have HGAH : Hid (bigV (verAt row j) = true → R = true) := hga
          have HBG : Hid (bigV (verAt row j) = decide (200 < (verAt row j).size ∧ (verAt row j).size ≤ 1000)) := by show _ = _; rfl
          clear hts hgs hga
          generalize bigV (verAt row j) = bg at *
          generalize verAt row j = x at *
          generalize tolN (row.take j) = nj at *
          generalize tolN row = nr at *
          obtain ⟨xn, xw, xs, xa, xt⟩ := x
          dsimp only at d0 d1 d2 d3 d4 htt
          have HTSX : Hid (tolN (row.take (j + 1)) = nj + (1 + xt.size / 20)) := HTSH.out
          have HBGX : Hid (bg = decide (200 < xs ∧ xs ≤ 1000)) := HBG.out
          have HBN : Hid (Below w.heap.size w (w2.alloc (.cells #[.int .i64 xn, .int .i64 xw, .int .i64 xs, .int .i64 xa, .string xt] 51))) := HB2.out.alloc hz2 _
          clear HTSH HBG HANY HR2
          by_cases h1 : 200 < xs
          · by_cases h2 : xs ≤ 1000
            · have HT : Hid (R = true) := HGAH.out (by rw [HBGX.out]; exact decide_eq_true ⟨h1, h2⟩)
              go_wp2
              go_ret
              exact ⟨by rw [HT.out]; rfl, HBN.out⟩
            · have HBF2 : Hid ((row.take (j + 1)).any bigV = false) := HGSH.out (by rw [HBGX.out]; exact decide_eq_false (fun h => h2 h.2))
              go_wp2
              go_roundw
              case rel => exact ⟨j + 1, by omega, by go_num, by rw [HTSX.out]; go_num, HBF2.out, HBN.out⟩
              case measure => simp [intOf]; omega
          · have HBF2 : Hid ((row.take (j + 1)).any bigV = false) := HGSH.out (by rw [HBGX.out]; exact decide_eq_false (fun h => h1 h.1))
            go_wp2
            go_roundw
            case rel => exact ⟨j + 1, by omega, by go_num, by rw [HTSX.out]; go_num, HBF2.out, HBN.out⟩
            case measure => simp [intOf]; omega
        · have hje : j = row.length := by omega
          have HE : Hid (row.take j = row) := by show _ = _; rw [hje]; exact HRN.out
          rw [HE.out]
          have HA2 : Hid (row.any bigV = false) := by have := HANY.out; rw [HE.out] at this; exact this
          have htt := HTT.out j
          rw [HE.out] at htt
          clear HANY HE
          go_wp2
          go_roundw
          case rel => exact HNX.out HA2.out _ HB2.out
          case measure => simp [intOf]; omega
    · have hie : i = LL.length := by omega
      have HE : Hid (R = decide (200 < LL.length + tolN (LL.take i).flatten)) := by
        show _ = _
        rw [hie]
        exact HFN.out (by rw [← hie]; exact HANY.out)
      clear HANY HTF HBF HFS HAS HF0 HFN
      generalize tolN (LL.take i).flatten = ni at *
      by_cases h200 : 200 < LL.length + ni
      · have HT : Hid (R = true) := by show _ = _; rw [HE.out]; exact decide_eq_true h200
        have hx : (200 : Int) < (LL.length : Int) + (ni : Int) := by omega
        clear h200 HE
        subst hie
        go_wp2
        go_ret
        exact ⟨by rw [HT.out]; first | rfl | simp [hx], HB.out⟩
      · have HT : Hid (R = false) := by show _ = _; rw [HE.out]; exact decide_eq_false h200
        have hx : ¬ (200 : Int) < (LL.length : Int) + (ni : Int) := by omega
        clear h200 HE
        subst hie
        go_wp2
        go_ret
        exact ⟨by rw [HT.out]; first | rfl | simp [hx], HB.out⟩
end Go.Proofs.YtgjehnahkbddgaaGreatDoor
/- What package quorum's Best is asked to answer. -/
namespace Go.Proofs.YtgjehnahkbddgaaGreatDoor
open Go.RowKit
/-- Numbers that an int can be. -/
def VerI64 (v : Ver) : Prop := (-9223372036854775808 ≤ v.n ∧ v.n ≤ 9223372036854775807) ∧ (-9223372036854775808 ≤ v.who ∧ v.who ≤ 9223372036854775807) ∧ (-9223372036854775808 ≤ v.size ∧ v.size ≤ 9223372036854775807) ∧ -9223372036854775808 ≤ v.at_ ∧ v.at_ ≤ 9223372036854775807
/-- What Best tells: an error's number and place. -/
def bestE (c : Cfg) (LL : List (List Ver)) : Int × Int := if 0 < (cfgF c).1 then cfgF c else if c.n < (LL.length : Int) then (3, -1) else (0, -1)
/-- The tag, the object, and whether there is one. -/
def bestT (c : Cfg) (LL : List (List Ver)) : (Int × Int) × ByteArray × Bool := if 0 < (bestE c LL).1 then ((0, 0), ⟨#[]⟩, false) else bestF c.n.toNat c.k.toNat LL.flatten LL.flatten
structure BestOk (ad : Nat → Addr) (X : World → Prop) : Prop where
  best : ∀ (c : Cfg) (p : Option Addr) (cap : Nat) (LL : List (List Ver)) (pl : Option Addr) (cl : Nat) (w : World), CfgAt w c p cap → Vss w pl LL → muchT LL = false → (∀ v ∈ LL.flatten, VerI64 v) → ErrsQ w ad → X w → Calls Tryz.prog 7 #[cfgA c (.slice p c.L.length cap), .slice pl LL.length cl] w fun e w' => (∃ ev, e = .returned (.tuple #[.agg #[.int .i64 (bestT c LL).1.1, .int .i64 (bestT c LL).1.2], .string (bestT c LL).2.1, .bool (bestT c LL).2.2, ev]) ∧ ErrIs w' ad ev (bestE c LL).1 (bestE c LL).2) ∧ Below w.heap.size w w'
theorem bestE_bad {c : Cfg} {LL : List (List Ver)} (h : 0 < (cfgF c).1) : bestE c LL = cfgF c ∧ bestT c LL = ((0, 0), ⟨#[]⟩, false) := by
  have e : bestE c LL = cfgF c := if_pos h
  exact ⟨e, by unfold bestT; rw [e, if_pos h]⟩
theorem bestE_many {c : Cfg} {LL : List (List Ver)} (h : ¬ 0 < (cfgF c).1) (h2 : c.n < (LL.length : Int)) : bestE c LL = (3, -1) ∧ bestT c LL = ((0, 0), ⟨#[]⟩, false) := by
  have e : bestE c LL = (3, -1) := by unfold bestE; rw [if_neg h, if_pos h2]
  exact ⟨e, by unfold bestT; rw [e]; rfl⟩
theorem bestE_fine {c : Cfg} {LL : List (List Ver)} (h : ¬ 0 < (cfgF c).1) (h2 : ¬ c.n < (LL.length : Int)) : bestE c LL = (0, -1) ∧ bestT c LL = bestF c.n.toNat c.k.toNat LL.flatten LL.flatten := by
  have e : bestE c LL = (0, -1) := by unfold bestE; rw [if_neg h, if_neg h2]
  exact ⟨e, by unfold bestT; rw [e]; rfl⟩
theorem muchT_fine {LL : List (List Ver)} (h : muchT LL = false) : LL.length ≤ 200 ∧ LL.flatten.length ≤ 200 := by
  unfold muchT at h
  rw [Bool.or_eq_false_iff] at h
  have h2 := of_decide_eq_false h.2
  have := tolN_len LL.flatten
  omega
end Go.Proofs.YtgjehnahkbddgaaGreatDoor
/- The statements' own: the closed fact; a configuration in memory of its own; is one too long? -/
namespace Go.Proofs.YtgjehnahkbddgaaGreatDoor
open Go.RowKit
set_option maxRecDepth 10000 in
set_option maxHeartbeats 2000000 in
theorem enough_any {ad : Nat → Addr} {X : World → Prop} (hO : EnoughOk ad X) (w : World) (hS : ∀ W, Below w.heap.size w W → ErrsQ W ad) (hX : ∀ W, Below w.heap.size w W → X W) :
    Calls Tryz.prog 4 #[] w fun e w' => e = .returned (.bool true) ∧ Below w.heap.size w w' := by
  obtain ⟨w1, hw1⟩ : ∃ w1, w1 = w.alloc (.cells #[.string ⟨#[97]⟩] 9) := ⟨_, rfl⟩
  have HW1 : Hid (w1 = w.alloc (.cells #[.string ⟨#[97]⟩] 9)) := hw1
  have hb1 : Below w.heap.size w w1 := by rw [hw1]; exact (Below.refl _ _).alloc (Nat.le_refl _) _
  have hc1 : w1.cell? ⟨w.heap.size, 0, none⟩ = some (.string ⟨#[97]⟩) := by rw [hw1, World.cell?_alloc_at _ _ _ _ rfl]; rfl
  have hat : CfgAt w1 ⟨1, 1, [⟨#[97]⟩]⟩ (some ⟨w.heap.size, 0, none⟩) 1 := ⟨Or.inr ⟨w.heap.size, 0, rfl, by rw [hw1]; simp, fun i hi => by
    obtain rfl : i = 0 := by simpa using hi
    exact hc1⟩, Nat.le_refl _, (fun e => by cases e), by decide, (fun x hx => by simp at hx; subst hx; decide), ⟨by decide, by decide⟩, by decide, by decide⟩
  have he := hO.enough ⟨1, 1, [⟨#[97]⟩]⟩ (some ⟨w.heap.size, 0, none⟩) 1 w1 hat (hS w1 hb1) (hX w1 hb1)
  rw [one_cfg] at he
  have HE : Hid (Calls Tryz.prog 14 #[.agg #[.int .i64 1, .int .i64 1, .slice (some ⟨w.heap.size, 0, none⟩) 1 1]] w1 fun e w' => e = .returned (.tuple #[.int .i64 1, .nilIface]) ∧ Below w1.heap.size w1 w') := he.mono fun e w' hp => by
    obtain ⟨⟨ev, h1, h2⟩, h3⟩ := hp
    obtain rfl := h2.isNil
    exact ⟨h1, h3⟩
  have HB1 : Hid (Below w.heap.size w w1) := hb1
  clear he hat hc1 hb1 hw1 hO hS hX
  go_enter Tryz.func4, Tryz.ntmps4
  go_wp2_with fail
  rw [← HW1.out]
  refine HE.out.mono ?_
  rintro e w2 ⟨rfl, hb2⟩
  have HB2 : Hid (Below w.heap.size w w2) := HB1.out.trans (hb2.mono HB1.out.size)
  clear hb2 HE HB1
  go_wp2
  go_ret
  exact ⟨rfl, HB2.out⟩
theorem OwnT.setC {w : World} {B b : Nat} {v : Value} {l : List ByteArray} (h : OwnT w B v l) (hb : b < B) (i : Nat) (x : Value) : OwnT (w.setCell ⟨b, i, none⟩ x) B v l :=
  World.ownsRow.kept (row := some b) h ⟨rfl, rfl, rfl, by simp, fun k _ hne => Deep.blk_setCell_other _ _ _ _ (fun e => hne (by rw [e]))⟩ (Or.inr fun e => by have := (h.block e).1; omega)
set_option maxRecDepth 10000 in
set_option maxHeartbeats 2000000 in
theorem ownConfig_any (c : Cfg) (p : Option Addr) (cap : Nat) (w : World) (hl : c.L.length ≤ 8796093021952) (hs : Strs w p c.L) (hn : p = none → c.L = [] ∧ cap = 0) :
    Calls Tryz.prog 8 #[cfgA c (.slice p c.L.length cap)] w fun e w' => (∃ q d, e = .returned (cfgA c (.slice q c.L.length d)) ∧ Strs w' q c.L ∧ c.L.length ≤ d ∧ (q = none → c.L = [] ∧ d = 0)) ∧ Below w.heap.size w w' := by
  obtain ⟨cn, ck, cL⟩ := c
  unfold cfgA
  simp only [] at *
  obtain ⟨w1, hw1⟩ : ∃ w1, w1 = (w.alloc (.cells #[.int .i64 cn, .int .i64 ck, .slice p cL.length cap] 24)).alloc (.cells #[.int .i64 0, .int .i64 0, .slice none 0 0] 24) := ⟨_, rfl⟩
  have HW1 : Hid (w1 = (w.alloc (.cells #[.int .i64 cn, .int .i64 ck, .slice p cL.length cap] 24)).alloc (.cells #[.int .i64 0, .int .i64 0, .slice none 0 0] 24)) := hw1
  have hb1 : Below w.heap.size w w1 := by rw [hw1]; exact ((Below.refl _ _).alloc (Nat.le_refl _) _).alloc (by simp) _
  have e2 : (w.alloc (.cells #[.int .i64 cn, .int .i64 ck, .slice p cL.length cap] 24)).heap.size = w.heap.size + 1 := by simp
  have hx1 : w1.heap[w.heap.size]? = some (.cells #[.int .i64 cn, .int .i64 ck, .slice p cL.length cap] 24 (0, 0)) := by
    rw [hw1, heap_alloc_old _ _ (by rw [e2]; omega)]
    exact heap_alloc_new _ _
  have hy1 : w1.heap[w.heap.size + 1]? = some (.cells #[.int .i64 0, .int .i64 0, .slice none 0 0] 24 (0, 0)) := by
    rw [hw1, ← e2]
    exact heap_alloc_new _ _
  have hs1 : w1.heap.size = w.heap.size + 2 := by rw [hw1]; simp
  have HS1 : Hid (Strs w1 p cL) := hs.below hb1
  have HF1 : Hid (w1.heap[w.heap.size]? = some (.cells #[.int .i64 cn, .int .i64 ck, .slice p cL.length cap] 24 (0, 0)) ∧ w1.heap[w.heap.size + 1]? = some (.cells #[.int .i64 0, .int .i64 0, .slice none 0 0] 24 (0, 0)) ∧ Below w.heap.size w w1 ∧ w1.heap.size = w.heap.size + 2) := ⟨hx1, hy1, hb1, hs1⟩
  have q2 : w1.cell? ⟨w.heap.size, 2, none⟩ = some (.slice p cL.length cap) := by simp [World.cell?, hx1]
  clear hw1 hb1 e2 hx1 hy1 hs1 hs
  go_enter Tryz.func8, Tryz.ntmps8
  go_wp2_with (first | (at_builtin; rw [← HW1.out]; refine wpList_append_strs rfl (.tmp 4) (.tmp 6) rfl w1.heap.size (.slice none 0 0) [] rfl (OwnT.nil _ _) p cL cap rfl HS1.out hn (by show 0 + cL.length ≤ _; omega) (Nat.le_refl _) ?_; intro v2 w2 hO2 hb2; rw [List.nil_append] at hO2; obtain ⟨q, d, hv2, hS2, hd2, hn2, hbk2⟩ := hO2.form; subst hv2; have hx2 := (hb2.block _ (by have := HF1.out.2.2.2; omega)).trans HF1.out.1; have hy2 := (hb2.block _ (by have := HF1.out.2.2.2; omega)).trans HF1.out.2.1; have HN2 : Hid (q = none → cL = [] ∧ d = 0) := (fun e => ⟨(by rcases hS2 with h | ⟨b, o, hq, _⟩; exact h; rw [e] at hq; cases hq), hn2 e⟩); have HO2 : Hid (OwnT w2 w1.heap.size (.slice q cL.length d) cL ∧ cL.length ≤ d ∧ Below w.heap.size w w2) := ⟨hO2, hd2, HF1.out.2.2.1.trans (hb2.mono HF1.out.2.2.1.size)⟩; have k0 : w2.cell? ⟨w.heap.size, 0, none⟩ = some (.int .i64 cn) := (by simp [World.cell?, hx2]); have k1 : w2.cell? ⟨w.heap.size, 1, none⟩ = some (.int .i64 ck) := (by simp [World.cell?, hx2]); have k2 : w2.cell? ⟨w.heap.size, 2, none⟩ = some (.slice p cL.length cap) := (by simp [World.cell?, hx2]); have k3 : w2.frozen? ⟨w.heap.size, 2, none⟩ = false := (by simp [World.frozen?, hx2]); have z0 : w2.cell? ⟨w.heap.size + 1, 0, none⟩ = some (.int .i64 0) := (by simp [World.cell?, hy2]); have z1 : w2.cell? ⟨w.heap.size + 1, 1, none⟩ = some (.int .i64 0) := (by simp [World.cell?, hy2]); have z2 : w2.cell? ⟨w.heap.size + 1, 2, none⟩ = some (.slice none 0 0) := (by simp [World.cell?, hy2]); have z3 : ∀ i, w2.frozen? ⟨w.heap.size + 1, i, none⟩ = false := (fun i => by simp [World.frozen?, hy2]); clear hO2 hb2 hS2 hd2 hn2 hbk2 hx2 hy2 q2))
  refine bodyPost_ret (v := .agg #[.int .i64 cn, .int .i64 ck, .slice q cL.length d]) (by simp [results, Tryz.results8, go_sem, z0, z1, z2]) rfl ?_
  have hsz := HF1.out.2.2.2
  have ho := (((HO2.out.1.setC (b := w.heap.size) (by omega) 2 (.slice q cL.length d)).setC (b := w.heap.size + 1) (by omega) 0 (.int .i64 cn)).setC (b := w.heap.size + 1) (by omega) 1 (.int .i64 ck)).setC (b := w.heap.size + 1) (by omega) 2 (.slice q cL.length d)
  obtain ⟨q', d', hv, hS, _⟩ := ho.form
  injection hv with e1 _ e2
  subst e1 e2
  exact ⟨⟨q, d, rfl, hS, HO2.out.2.1, HN2.out⟩, (((HO2.out.2.2.setCell (p := ⟨w.heap.size, 2, none⟩) (Nat.le_refl _) _).setCell (p := ⟨w.heap.size + 1, 0, none⟩) (by show w.heap.size ≤ w.heap.size + 1; omega) _).setCell (p := ⟨w.heap.size + 1, 1, none⟩) (by show w.heap.size ≤ w.heap.size + 1; omega) _).setCell (p := ⟨w.heap.size + 1, 2, none⟩) (by show w.heap.size ≤ w.heap.size + 1; omega) _⟩
/-- Is a configuration too long for a statement? -/
def longC (c : Cfg) : Bool := decide (30 < c.L.length) || c.L.any fun x => decide (60 < x.size)
theorem longC_fine {c : Cfg} (h : longC c = false) : c.L.length ≤ 30 ∧ ∀ x ∈ c.L, x.size ≤ 60 := by
  unfold longC at h
  rw [Bool.or_eq_false_iff] at h
  refine ⟨by have := of_decide_eq_false h.1; omega, fun x hx => ?_⟩
  have := List.any_eq_false.1 h.2 x hx
  simpa using this
set_option maxRecDepth 10000 in
set_option maxHeartbeats 1000000 in
theorem longConfig_any (c : Cfg) (p : Option Addr) (cap : Nat) (w : World) (hl : c.L.length ≤ maxLen) (hx : ∀ x ∈ c.L, x.size ≤ maxLen) (hs : Strs w p c.L) :
    Calls Tryz.prog 5 #[cfgA c (.slice p c.L.length cap)] w fun e w' => e = .returned (.bool (longC c)) ∧ Below w.heap.size w w' := by
  obtain ⟨cn, ck, l⟩ := c
  unfold maxLen at hl
  unfold cfgA
  simp only [] at *
  obtain ⟨w1, hw1⟩ : ∃ w1, w1 = w.alloc (.cells #[.int .i64 cn, .int .i64 ck, .slice p l.length cap] 24) := ⟨_, rfl⟩
  have HW1 : Hid (w1 = w.alloc (.cells #[.int .i64 cn, .int .i64 ck, .slice p l.length cap] 24)) := hw1
  have hb1 : Below w.heap.size w w1 := by rw [hw1]; exact (Below.refl _ _).alloc (Nat.le_refl _) _
  have q2 : w1.cell? ⟨w.heap.size, 2, none⟩ = some (.slice p l.length cap) := by rw [hw1, World.cell?_alloc_at _ _ _ _ rfl]; rfl
  have HB1 : Hid (Below w.heap.size w w1) := hb1
  by_cases h1 : 30 < l.length
  · have HR : Hid (longC ⟨cn, ck, l⟩ = true) := by show _ = _; unfold longC; rw [decide_eq_true h1, Bool.true_or]
    rw [HR.out]
    clear hw1 hb1 hs hx
    go_enter Tryz.func5, Tryz.ntmps5
    go_wp2
    go_ret
    exact ⟨rfl, by rw [← HW1.out]; exact HB1.out⟩
  have HX : Hid (∀ i, i < l.length → (txt l i).size ≤ 9223372036854775807) := fun i hi => by have := hx _ (txt_mem hi); unfold maxLen at this; omega
  have HT : Hid (∀ i, i < l.length → 60 < (txt l i).size → longC ⟨cn, ck, l⟩ = true) := fun i hi h => by
    unfold longC
    rw [decide_eq_false h1, Bool.false_or, List.any_eq_true]
    exact ⟨txt l i, txt_mem hi, decide_eq_true h⟩
  have HF : Hid ((∀ i, i < l.length → ¬ 60 < (txt l i).size) → longC ⟨cn, ck, l⟩ = false) := fun h => by
    unfold longC
    rw [decide_eq_false h1, Bool.false_or, List.any_eq_false]
    intro x hx h2
    obtain ⟨i, hi, rfl⟩ := txt_of_mem hx
    exact h i hi (of_decide_eq_true h2)
  generalize longC ⟨cn, ck, l⟩ = r at *
  have HS : Hid (Strs w1 p l) := hs.below hb1
  clear hs hx hw1 hb1
  go_enter Tryz.func5, Tryz.ntmps5
  go_wp2
  rw [show w.alloc (.cells #[.int .i64 cn, .int .i64 ck, .slice p l.length cap] 24) = w1 from HW1.out.symm]
  clear HW1
  go_loopw [3] (fun x wr => ∃ i : Nat, i ≤ l.length ∧ x = .int .i64 i ∧ (∀ j, j < i → ¬ 60 < (txt l j).size) ∧ wr = w1) (fun x _ => l.length - (intOf x).toNat)
  case atStart => exact ⟨0, Nat.zero_le _, rfl, (fun j hj => absurd hj (Nat.not_lt_zero _)), rfl⟩
  case round =>
    obtain ⟨i, hi, rfl, hall, hwr⟩ := hrel
    subst hwr
    have HALL : Hid (∀ j, j < i → ¬ 60 < (txt l j).size) := hall
    clear hall
    by_cases hil : i < l.length
    · rcases HS.out with h0 | ⟨b, o, rfl, hlt, hc⟩
      · rw [h0] at hil; exact absurd hil (Nat.not_lt_zero _)
      have q1 := hc i hil
      have hsz := HX.out i hil
      clear hc
      by_cases hbig : 60 < (txt l i).size
      · have HR : Hid (r = true) := HT.out i hil hbig
        clear HT HF HALL HX
        generalize txt l i = t at *
        go_wp2
        go_ret
        exact ⟨by rw [HR.out]; rfl, HB1.out⟩
      · have HBG : Hid (¬ 60 < (txt l i).size) := hbig
        clear HT HF HX
        generalize hti : txt l i = t at *
        have HTI : Hid (txt l i = t) := hti
        clear hti
        go_wp2
        go_roundw
        case rel => exact ⟨i + 1, by omega, by go_num, (fun j hj => by
          rcases Nat.lt_or_ge j i with h | h
          · exact HALL.out j h
          · obtain rfl : j = i := by omega
            rw [HTI.out]; exact HBG.out), trivial⟩
        case measure => simp [intOf]; omega
    · have HR : Hid (r = false) := HF.out (fun j hj => HALL.out j (by omega))
      go_wp2
      go_ret
      exact ⟨by rw [HR.out]; rfl, HB1.out⟩
theorem cfgAt_of {w : World} {c : Cfg} {p : Option Addr} {cap : Nat} (h1 : Strs w p c.L) (h2 : c.L.length ≤ cap) (h3 : p = none → c.L = [] ∧ cap = 0) (h4 : longC c = false) (h5 : CfgIn c) : CfgAt w c p cap :=
  ⟨h1, h2, h3, by have := (longC_fine h4).1; omega, fun x hx => by have := (longC_fine h4).2 x hx; omega, h5⟩
end Go.Proofs.YtgjehnahkbddgaaGreatDoor
