/- Package matrix: change writes each place of a row that the caller owns, as the function tells; sum adds what the function tells. -/
import Derived.Test.YthokfjkgmopeoaaDoorG2
import Derived.Test.YthokfjkgmopeoaaDoorFieldW
namespace Go.Proofs.YthokfjkgmopeoaaDoor
open Go.RowKit
theorem grown_trans {a b c : World} {row : Option Nat} (h : a.grownBy b row) (k : b.grownBy c row) : a.grownBy c row :=
  ⟨k.os.trans h.os, k.tape.trans h.tape, k.output.trans h.output, Nat.le_trans h.size k.size, fun i hi hne => (k.block i (Nat.lt_of_lt_of_le hi h.size) hne).trans (h.block i hi hne)⟩
theorem below_grown {w w' : World} (h : Below w.heap.size w w') (row : Option Nat) : w.grownBy w' row := ⟨h.os, h.tape, h.output, h.size, fun i hi _ => h.block i hi⟩
theorem grown_set (w : World) (g j : Nat) (v : Value) : w.grownBy (w.setCell ⟨g, j, none⟩ v) (some g) :=
  ⟨rfl, rfl, rfl, by simp [World.setCell], fun i _ hne => Below.heap_setCell w _ v i (fun e => hne (by rw [e]))⟩
theorem OwnN.below {w w' : World} {B : Nat} {E : TypeId} {g n : Nat} {l : List Nat} (h : OwnN w B E g n l) (hb : Below w.heap.size w w') : OwnN w' B E g n l := World.ownsRow.kept h (below_grown hb none) (Or.inr (by simp [Value.ownBlock]))
set_option maxRecDepth 10000 in
set_option maxHeartbeats 2000000 in
theorem change_any (g n B : Nat) (old val : Nat → Nat) (fn : FuncId) (caps : Array Value) (w : World) (hn : n ≤ 1000) (hent : ∀ args W, Sem.run Tryd.prog (callFunc fn args) W = .ok (.enter fn args) W) (hO : OwnN w B 5 g n (rowFn n old))
    (hc : ∀ j, j < n → ∀ w1, w.grownBy w1 (some g) → OwnN w1 B 5 g n (rowFn n (fun i => if i < j then val i else old i)) →
      Calls Tryd.prog fn (#[.int .i64 (j : Int)] ++ caps) w1 fun e w2 => e = .returned (.int .u8 ((val j : Nat) : Int)) ∧ Below w1.heap.size w1 w2) :
    Calls Tryd.prog 65 #[.slice (some ⟨g, 0, none⟩) n n, .func (.func fn) #[] caps] w fun e w' => e = .returned (.tuple #[]) ∧ OwnN w' B 5 g n (rowFn n val) ∧ w.grownBy w' (some g) := by
  go_enter Tryd.func65, Tryd.ntmps65
  go_wp2
  go_loopw [7] (fun x wr => ∃ k : Nat, k ≤ n ∧ x = .int .i64 k ∧ OwnN wr B 5 g n (rowFn n (fun i => if i < k then val i else old i)) ∧ w.grownBy wr (some g)) (fun x _ => n - (intOf x).toNat)
  case atStart => exact ⟨0, by omega, rfl, by simpa using hO, below_grown (Below.refl _ _) _⟩
  case round =>
    obtain ⟨k, hk, rfl, hO1, hg1⟩ := hrel
    by_cases hlt : k < n
    · have HC := hc k hlt wr hg1 hO1
      have HO : Hid (OwnN wr B 5 g n (rowFn n (fun i => if i < k then val i else old i))) := hO1
      have HG : Hid (w.grownBy wr (some g)) := hg1
      clear hO1 hg1 hc hO
      go_wp2_with fail
      refine HC.mono ?_
      rintro e w2 ⟨rfl, hb2⟩
      have hO2 := HO.out.below hb2
      have hf : w2.frozen? ⟨g, k, none⟩ = false := hO2.free k
      have hcl := hO2.cell k hlt (rowFn_length _ _)
      have hO3 := hO2.set k (val k)
      rw [rowFn_congr n _ (fun i => if i < k + 1 then val i else old i) (fun i _ => by by_cases e : i = k <;> by_cases e' : i < k <;> simp [e, e'] <;> omega)] at hO3
      have HO3 : Hid (OwnN (w2.setCell ⟨g, k, none⟩ (.int .u8 ((val k : Nat) : Int))) B 5 g n (rowFn n (fun i => if i < k + 1 then val i else old i))) := hO3
      have HG3 : Hid (w.grownBy (w2.setCell ⟨g, k, none⟩ (.int .u8 ((val k : Nat) : Int))) (some g)) := grown_trans (grown_trans HG.out (below_grown hb2 _)) (grown_set _ _ _ _)
      clear hO2 hO3 hb2 HC HO HG hent
      go_wp2
      go_roundw
      case rel => exact ⟨k + 1, by omega, by go_num, HO3.out, HG3.out⟩
      case measure => simp [intOf]; omega
    · have hke : k = n := by omega
      subst hke
      go_wp2
      go_end0
      refine ⟨rfl, ?_, hg1⟩
      rw [rowFn_congr k val (fun i => if i < k then val i else old i) (fun i hi => by simp [hi])]
      exact hO1
set_option maxRecDepth 10000 in
set_option maxHeartbeats 2000000 in
/-- The sum of what a function tells. -/
theorem sum_any (n : Nat) (val : Nat → Nat) (fn : FuncId) (caps : Array Value) (w : World) (hn : n ≤ 1000) (hval : ∀ l, val l < 256) (hent : ∀ args W, Sem.run Tryd.prog (callFunc fn args) W = .ok (.enter fn args) W)
    (tot : Nat → Nat) (ht0 : tot 0 = 0) (hts : ∀ l, tot (l + 1) = tot l ^^^ val l) (htl : ∀ l, tot l < 256)
    (hc : ∀ l, l < n → ∀ w1, Below w.heap.size w w1 → Calls Tryd.prog fn (#[.int .i64 (l : Int)] ++ caps) w1 fun e w2 => e = .returned (.int .u8 ((val l : Nat) : Int)) ∧ Below w1.heap.size w1 w2) :
    Calls Tryd.prog 74 #[.int .i64 (n : Int), .func (.func fn) #[] caps] w fun e w' => e = .returned (.int .u8 ((tot n : Nat) : Int)) ∧ Below w.heap.size w w' := by
  have HT0 : Hid (tot 0 = 0) := ht0
  have HTS : Hid (∀ l, tot (l + 1) = tot l ^^^ val l) := hts
  clear ht0 hts
  go_enter Tryd.func74, Tryd.ntmps74
  go_wp2
  go_loopw [5, 8] (fun s x wr => ∃ k : Nat, k ≤ n ∧ x = .int .i64 k ∧ s = .int .u8 ((tot k : Nat) : Int) ∧ Below w.heap.size w wr) (fun _ x _ => n - (intOf x).toNat)
  case atStart => exact ⟨0, by omega, rfl, by rw [HT0.out]; rfl, Below.refl _ _⟩
  case round =>
    obtain ⟨k, hk, rfl, rfl, hb⟩ := hrel
    by_cases hlt : k < n
    · have HC := hc k hlt wr hb
      have HB : Hid (Below w.heap.size w wr) := hb
      have hz : w.heap.size ≤ wr.heap.size := hb.size
      have lt := htl k
      have lv := hval k
      have HS : Hid (tot (k + 1) = tot k ^^^ val k) := HTS.out k
      clear hb hc HTS HT0 hval htl
      generalize tot k = t at HS lt ⊢
      generalize val k = v at HS lv HC
      go_wp2_with fail
      refine HC.mono ?_
      rintro e w2 ⟨rfl, hb2⟩
      have HB2 : Hid (Below w.heap.size w w2) := HB.out.trans (hb2.mono hz)
      clear hb2 HC HB hent
      go_wp2_with (go_at_call 38; refine (add_any t v _ lt lv).mono ?_; rintro e w' ⟨rfl, rfl⟩)
      go_roundw
      case rel => exact ⟨k + 1, by omega, by go_num, by rw [HS.out], HB2.out⟩
      case measure => simp [intOf]; omega
    · have hke : k = n := by omega
      subst hke
      go_wp2
      go_ret
      exact ⟨rfl, hb⟩
end Go.Proofs.YthokfjkgmopeoaaDoor
