/- The law CoderDecodes, all ways together. -/
import Derived.Test.YthokfjkgmopeoaaDoorDecOW
namespace Go.Proofs.YthokfjkgmopeoaaDoor
open Go.RowKit
theorem rebuild_err (n k size at_ : Int) (l : List (Int × ByteArray)) (ad : Nat → Addr) (ei : Nat) (h0 : 0 ≤ at_) (h1 : at_ < n)
    (hdec : ∀ W q cq, Sent W ad → Shs W q l → Calls Tryd.prog 14 #[.int .i64 n, .int .i64 k, .int .i64 size, .slice q l.length cq] W fun e w' => e = .returned (.tuple #[.string ⟨#[]⟩, .iface 136 (.pointer (some (ad ei)))]) ∧ Below W.heap.size W w') :
    ∀ W q cq, Sent W ad → Shs W q l → Calls Tryd.prog 18 #[.int .i64 n, .int .i64 k, .int .i64 size, .int .i64 at_, .slice q l.length cq] W fun e w' => e = .returned (.tuple #[.agg #[.int .i64 0, .string ⟨#[]⟩], .iface 136 (.pointer (some (ad ei)))]) ∧ Below W.heap.size W w' :=
  fun W q cq hW hq => rebuild_bad n (.int .i64 k) (.int .i64 size) (.slice q l.length cq) at_ (ad ei) W h0 h1 (hdec (resW W) q cq (hW.below (resW_below W)) (hq.below (resW_below W)))
theorem decLaw_any (n k size : Int) (p : Option Addr) (l : List (Int × ByteArray)) (cap : Nat) (at_ : Int) (ad : Nat → Addr) (w : World) (hl : l.length ≤ maxLen) (hb : ∀ i, (shAt l i).2.size ≤ maxLen) (hnil : p = none → cap = 0) (hs : Shs w p l) (hS : Sent w ad) :
    Calls Tryd.prog 4 #[.int .i64 n, .int .i64 k, .int .i64 size, .slice p l.length cap, .int .i64 at_] w fun e w' => e = .returned (.bool true) ∧ Below w.heap.size w w' := by
  by_cases hp : 30 < l.length ∨ 100 < size ∧ size ≤ 1000
  · exact decL_pass n k size p l cap at_ (ad 11) w hl hp hS.c11
  have hl30 : l.length ≤ 30 := by omega
  have hsz : ¬ (100 < size ∧ size ≤ 1000) := fun h => hp (Or.inr h)
  by_cases hlong : ∃ i, i < l.length ∧ 200 < (shAt l i).2.size
  · exact decL_long n k size p l cap at_ ad w hl30 hs hS hsz hb hlong
  have htx : ∀ i, (shAt l i).2.size ≤ 200 := fun i => by
    by_cases hi : i < l.length
    · exact Nat.le_of_not_lt fun h => hlong ⟨i, hi, h⟩
    · unfold shAt
      rw [List.getD_eq_getElem?_getD, List.getElem?_eq_none (by omega)]
      show 0 ≤ 200
      omega
  by_cases hbd : 1 ≤ k ∧ k ≤ n ∧ n ≤ 12 ∧ 0 ≤ size ∧ size ≤ 1000
  · obtain ⟨k', rfl⟩ := Int.eq_ofNat_of_zero_le (show 0 ≤ k by omega)
    obtain ⟨n', rfl⟩ := Int.eq_ofNat_of_zero_le (show 0 ≤ n by omega)
    obtain ⟨z', rfl⟩ := Int.eq_ofNat_of_zero_le (show 0 ≤ size by omega)
    have hk1 : 1 ≤ k' := by omega
    have hkn : k' ≤ n' := by omega
    have hn : n' ≤ 12 := by omega
    have hz : z' ≤ 1000 := by omega
    have ht5 : ∀ i, (shAt l i).2.size ≤ 100000 := fun i => by have := htx i; omega
    have isp : ∀ W, Calls Tryd.prog 10 #[.int .i64 (n' : Int), .int .i64 (k' : Int)] W fun e w' => e = .returned (.bool true) ∧ w' = W := fun W => isSpread_yes _ _ W (by omega) (by omega) (by omega)
    -- an error that is found in the shards
    have err : ∀ (ei : Nat) (c : Int), 0 < c → ei < 12 → c = ((ei + 1 : Nat) : Int) →
        (∀ W q cq, Sent W ad → Shs W q l → Calls Tryd.prog 14 #[.int .i64 (n' : Int), .int .i64 (k' : Int), .int .i64 (z' : Int), .slice q l.length cq] W fun e w' => e = .returned (.tuple #[.string ⟨#[]⟩, .iface 136 (.pointer (some (ad ei)))]) ∧ Below W.heap.size W w') →
        (∀ W q cq, Shs W q l → Calls Tryd.prog 33 #[.int .i64 (n' : Int), .int .i64 (k' : Int), .int .i64 (z' : Int), .slice q l.length cq] W fun e w' => e = .returned (.tuple #[.slice none 0 0, .int .i64 c]) ∧ Below W.heap.size W w') →
        Calls Tryd.prog 4 #[.int .i64 (n' : Int), .int .i64 (k' : Int), .int .i64 (z' : Int), .slice p l.length cap, .int .i64 at_] w fun e w' => e = .returned (.bool true) ∧ Below w.heap.size w w' := by
      intro ei c hc hei hce hdec hsome
      have hcod : ∀ W, Sent W ad → Calls Tryd.prog 11 #[.iface 136 (.pointer (some (ad ei))), .int .i64 c] W fun e w' => e = .returned (.bool true) ∧ Below W.heap.size W w' := fun W hW => by
        rw [hce]
        exact coded_sent ad ei hei W hW
      by_cases hat : at_ < 0 ∨ (n' : Int) ≤ at_
      · exact decL_err n' k' z' p l cap at_ ad w hl30 hnil hs hS hsz htx ei 1 c hc true hdec (fun W q cq hq => rdecode_bad _ _ _ _ c W hc (hsome W q cq hq)) (fun W q cq hW _ => rebuild_bound _ _ _ at_ _ (ad 1) W hat hW.c1) isp hcod (Or.inl ⟨rfl, hat, rfl⟩)
      · exact decL_err n' k' z' p l cap at_ ad w hl30 hnil hs hS hsz htx ei ei c hc true hdec (fun W q cq hq => rdecode_bad _ _ _ _ c W hc (hsome W q cq hq)) (rebuild_err n' k' z' at_ l ad ei (by omega) (by omega) hdec) isp hcod (Or.inr ⟨Or.inr ⟨by omega, by omega⟩, rfl⟩)
    by_cases hbad : l.any (badB (n' : Int) (wideN k' z')) = true
    · refine err 2 3 (by decide) (by decide) rfl (fun W q cq hW hq => decode_bad n' k' z' q l cq (ad 11) (ad 2) (ad 7) (ad 2) W hk1 hkn hn hz (by omega) hq hW.c11 hW.c2 hW.c7 (Or.inl ⟨hbad, rfl⟩)) (fun W q cq hq => ?_)
      refine (rsome_any n' k' z' q l cq W hk1 hkn hn hz (by omega) ht5 hq).mono ?_
      rintro e w' ⟨⟨v, c, rfl, hc⟩, hb'⟩
      rcases hc with ⟨rfl, rfl, _⟩ | ⟨_, _, h, _⟩ | ⟨_, h, _⟩
      · exact ⟨rfl, hb'⟩
      · exact absurd hbad (by rw [h]; decide)
      · exact absurd hbad (by rw [h]; decide)
    · have hgood : l.any (badB (n' : Int) (wideN k' z')) = false := Bool.eq_false_iff.2 hbad
      have hple := pickN_le k' l l.length
      by_cases hfew : (pickN k' l l.length).length < k'
      · refine err 7 8 (by decide) (by decide) rfl (fun W q cq hW hq => decode_bad n' k' z' q l cq (ad 11) (ad 2) (ad 7) (ad 7) W hk1 hkn hn hz (by omega) hq hW.c11 hW.c2 hW.c7 (Or.inr ⟨hgood, hfew, rfl⟩)) (fun W q cq hq => ?_)
        refine (rsome_any n' k' z' q l cq W hk1 hkn hn hz (by omega) ht5 hq).mono ?_
        rintro e w' ⟨⟨v, c, rfl, hc⟩, hb'⟩
        rcases hc with ⟨_, _, h⟩ | ⟨rfl, rfl, _, _⟩ | ⟨_, _, h, _⟩
        · exact absurd h hbad
        · exact ⟨rfl, hb'⟩
        · omega
      · have hf : Fits n' k' z' l := ⟨hgood, by omega⟩
        by_cases hat : at_ < 0 ∨ (n' : Int) ≤ at_
        · exact decL_okOut n' k' z' p l cap at_ ad w hl30 hnil hs hS hk1 hkn hn (by omega) htx hf hat
        · obtain ⟨a, rfl⟩ := Int.eq_ofNat_of_zero_le (show 0 ≤ at_ by omega)
          exact decL_okIn n' k' z' p l cap a ad w hl30 hnil hs hS hk1 hkn hn (by omega) htx hf (by omega)
  · have hdec : ∀ W q cq, Sent W ad → Shs W q l → Calls Tryd.prog 14 #[.int .i64 n, .int .i64 k, .int .i64 size, .slice q l.length cq] W fun e w' => e = .returned (.tuple #[.string ⟨#[]⟩, .iface 136 (.pointer (some (ad 1)))]) ∧ Below W.heap.size W w' := fun W q cq hW _ => decode_bound n k size _ (ad 1) W hbd hW.c1
    have href : ∀ W q cq, Shs W q l → Calls Tryd.prog 16 #[.int .i64 n, .int .i64 k, .int .i64 size, .slice q l.length cq] W fun e w' => e = .returned (.tuple #[.string ⟨#[]⟩, .int .i64 2]) ∧ Below W.heap.size W w' := fun W q cq _ => rdecode_bad _ _ _ _ 2 W (by decide) ((rsome_bound n k size _ W hbd).mono fun e w' ⟨h1, h2⟩ => ⟨h1, h2 ▸ Below.refl _ _⟩)
    have hcod : ∀ W, Sent W ad → Calls Tryd.prog 11 #[.iface 136 (.pointer (some (ad 1))), .int .i64 2] W fun e w' => e = .returned (.bool true) ∧ Below W.heap.size W w' := fun W hW => coded_bound ad W hW
    have hreb : ∀ W q cq, Sent W ad → Shs W q l → Calls Tryd.prog 18 #[.int .i64 n, .int .i64 k, .int .i64 size, .int .i64 at_, .slice q l.length cq] W fun e w' => e = .returned (.tuple #[.agg #[.int .i64 0, .string ⟨#[]⟩], .iface 136 (.pointer (some (ad 1)))]) ∧ Below W.heap.size W w' := by
      by_cases hat : at_ < 0 ∨ n ≤ at_
      · exact fun W q cq hW _ => rebuild_bound n k size at_ _ (ad 1) W hat hW.c1
      · exact rebuild_err n k size at_ l ad 1 (by omega) (by omega) hdec
    by_cases hsp : 1 ≤ k ∧ k ≤ n ∧ n ≤ 12
    · refine decL_err n k size p l cap at_ ad w hl30 hnil hs hS hsz htx 1 1 2 (by decide) true hdec href hreb (fun W => isSpread_yes n k W hsp.1 hsp.2.1 hsp.2.2) hcod ?_
      by_cases hat : at_ < 0 ∨ n ≤ at_
      · exact Or.inl ⟨rfl, hat, rfl⟩
      · exact Or.inr ⟨Or.inr ⟨by omega, by omega⟩, rfl⟩
    · exact decL_err n k size p l cap at_ ad w hl30 hnil hs hS hsz htx 1 1 2 (by decide) false hdec href hreb (fun W => isSpread_no n k W hsp) hcod (Or.inr ⟨Or.inl rfl, rfl⟩)
end Go.Proofs.YthokfjkgmopeoaaDoor
