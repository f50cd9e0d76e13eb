/- The statements' comparison of two matrices: rows that are the same are found the same. -/
import Derived.Test.YtmlcbphcphpihaaDoorMatB
import Derived.Laws.BytesArg
import Derived.Deep.QuietTactic
import Derived.BigQuiet
namespace Go.Proofs.YtmlcbphcphpihaaDoor
open Go.RowKit
/-- Bytes as a text. -/
def strOf (l : List Nat) : ByteArray := strOfNums (l.map Int.ofNat)
theorem conv_seg {w : World} {q : Option Addr} {l : List Nat} (h : Seg w q l) (c : Nat) : (convert 39 9 (.slice q l.length c)).run Tryd.prog w = .ok (.string (strOf l)) w := by
  rcases h.cells with hl | ⟨b, o, rfl, hb, hc⟩
  · subst hl
    cases q with
    | none => exact run_convert_bytes_nil w 39 5 Tryd.underlying39 Tryd.underlying5 0 c 9 Tryd.underlying9
    | some ad =>
      have hl : (loadCells ad 0).run Tryd.prog w = .ok (([] : List Int).map (Value.int .u8)).toArray w := by simp [loadCells, loadCellsFrom]
      rw [List.length_nil, run_convert_bytes_string w 39 9 5 _ 0 c Tryd.underlying39 Tryd.underlying5 Tryd.underlying9, run_bytesToString w ad 0 c [] hl]
      rfl
  · refine run_convert_bytes_arg w 39 5 Tryd.underlying39 Tryd.underlying5 b o l.length c (l.map Int.ofNat) (by simp) (fun i hi => ?_) 9 Tryd.underlying9
    rw [hc i hi, Gf.nth_getElem l i hi, List.getD_eq_getElem?_getD, List.getElem?_map, List.getElem?_eq_getElem hi]
    rfl
set_option maxRecDepth 10000 in
set_option maxHeartbeats 1000000 in
theorem sameMatrix_any (pa pb : Option Addr) (M : List (List Nat)) (ca cb : Nat) (w : World) (hl : M.length ≤ 1000) (ha : Mat w pa M) (hb : Mat w pb M) :
    Calls Tryd.prog 15 #[.slice pa M.length ca, .slice pb M.length cb] w fun e w' => e = .returned (.bool true) ∧ ∃ n, w' = w.drewN n := by
  go_enter Tryd.func15, Tryd.ntmps15
  go_wp2
  go_loopw [5] (fun j wr => (∃ n, wr = w.drewN n) ∧ ∃ k : Nat, k ≤ M.length ∧ j = .int .i64 k) (fun j _ => M.length - (intOf j).toNat)
  case atStart => exact ⟨⟨0, rfl⟩, 0, by omega, rfl⟩
  case round =>
    obtain ⟨hw0, k, hk, rfl⟩ := hrel
    have HW : Hid (∃ n, wr = w.drewN n) := hw0
    have ha' : Mat wr pa M := by obtain ⟨n, hn⟩ := hw0; rw [hn]; exact ha.drewN n
    have hb' : Mat wr pb M := by obtain ⟨n, hn⟩ := hw0; rw [hn]; exact hb.drewN n
    clear hw0
    by_cases hlt : k < M.length
    · rcases ha' with h | ⟨b1, o1, rfl, hb1, hc1⟩
      · rw [h] at hlt; simp at hlt
      rcases hb' with h | ⟨b2, o2, rfl, hb2, hc2⟩
      · rw [h] at hlt; simp at hlt
      obtain ⟨q1, c1, h1, s1, _⟩ := hc1 k hlt
      obtain ⟨q2, c2, h2, s2, _⟩ := hc2 k hlt
      have v1 : ∀ n, (convert 39 9 (.slice q1 (rowOf M k).length c1)).run Tryd.prog (wr.drewN n) = .ok (.string (strOf (rowOf M k))) (wr.drewN n) := fun n => conv_seg (s1.drewN n) c1
      have v2 : ∀ n, (convert 39 9 (.slice q2 (rowOf M k).length c2)).run Tryd.prog (wr.drewN n) = .ok (.string (strOf (rowOf M k))) (wr.drewN n) := fun n => conv_seg (s2.drewN n) c2
      clear hc1 hc2 ha hb s1 s2
      generalize strOf (rowOf M k) = st at v1 v2
      generalize (rowOf M k).length = L at h1 h2 v1 v2
      go_wp2
      go_quiet (fail)
      go_wp2
      go_roundw
      case rel =>
        obtain ⟨n, hn⟩ := HW.out
        exact ⟨⟨n + nq, by rw [hn, World.drewN_drewN]⟩, k + 1, by omega, by go_num⟩
      case measure => simp [intOf]; omega
    · go_wp2
      go_ret
      exact ⟨rfl, HW.out⟩
end Go.Proofs.YtmlcbphcphpihaaDoor
