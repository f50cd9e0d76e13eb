/- What the document's own Wire gathers of a message: its numbers, and what is written so far. -/
import Derived.Test.YteppmkpckdmnaaaDoorWireCW
import Derived.Test.YteppmkpckdmnaaaDoorREightW
namespace Go.Proofs.YteppmkpckdmnaaaDoor
open Go.RowKit
/-- Numbers that lie in memory, one a cell. -/
def intC (x : Int) : List Value := [.int .i64 x]
def intE : Enc Int := ⟨1, by decide, intC, fun _ => rfl, fun x u hu => by simp [intC] at hu; rw [hu]; rfl⟩
theorem intinfo : (Tryd.prog.info? 3).map (fun i => (i.zero, i.size, i.bytes)) = some (some (.int .i64 0), 1, 8) := by kernel_rfl
def verI (v : Ver) : List Int := [v.n, v.who, v.size, v.at_]
/-- The numbers of a message of which k versions were gathered. -/
def numsL (op config : Int) (L : List Ver) : List Int := [op, config] ++ L.flatMap verI
theorem numsL_take (op config : Int) {L : List Ver} {i : Nat} (h : i < L.length) : numsL op config (L.take (i + 1)) = numsL op config (L.take i) ++ verI (verAt L i) := by
  unfold numsL
  rw [List.take_add_one, verAt_get h]
  simp
theorem numsL_len (op config : Int) (L : List Ver) : (numsL op config L).length = 2 + 4 * L.length := by
  unfold numsL
  induction L with
  | nil => rfl
  | cons v L ih =>
    simp only [List.flatMap_cons, List.length_append, List.length_cons, verI, List.length_nil] at ih ⊢
    omega
def negI (x : Int) : Bool := decide (x < 0)
theorem numsL_neg (m : Msg) : (numsL m.op m.config m.L).any negI = negM m := by
  unfold numsL negM negI
  rw [List.any_append]
  have e : (m.L.flatMap verI).any (fun x => decide (x < 0)) = m.L.any fun v => decide (v.n < 0) || decide (v.who < 0) || decide (v.size < 0) || decide (v.at_ < 0) := by
    rw [List.any_flatMap]
    congr 1
    funext v
    simp [verI, Bool.or_assoc]
  rw [e]
  simp
theorem any_takeI {l : List Int} {i : Nat} (h : i < l.length) : (l.take (i + 1)).any negI = ((l.take i).any negI || negI (l.getD i 0)) := by
  rw [List.take_add_one, List.any_append, List.getElem?_eq_getElem h, List.getD_eq_getElem?_getD, List.getElem?_eq_getElem h]
  show (_ || (negI l[i] || false)) = _
  rw [Bool.or_false]
  rfl
/-- Numbers of the call's own, where the first two were laid. -/
theorem int_two (w : World) (B : Nat) (a b : Int) (hB : B ≤ w.heap.size) : OwnR intE 3 (w.alloc (.cells #[.int .i64 a, .int .i64 b] 3)) B (.slice (some ⟨w.heap.size, 0, none⟩) 2 2) [a, b] :=
  World.ownsRow_lit (base := B) (e := 3) (size := 1) w #[.int .i64 a, .int .i64 b] 2 hB (by unfold maxLen; omega) rfl
theorem int_four (W : World) (a b c d : Int) (t : ByteArray) : Rec intE (W.alloc (.cells #[.int .i64 a, .int .i64 b, .int .i64 c, .int .i64 d] 3)) (some ⟨W.heap.size, 0, none⟩) (verI ⟨a, b, c, d, t⟩) := by
  refine Or.inr ⟨W.heap.size, 0, rfl, by simp, fun i x hx j u hu => ?_⟩
  have hj : j = 0 ∧ u = .int .i64 x := by
    match j, hu with
    | 0, hu => exact ⟨rfl, (Option.some.inj hu).symm⟩
  obtain ⟨rfl, rfl⟩ := hj
  have e : 0 + i * intE.k + 0 = i := by show 0 + i * 1 + 0 = i; omega
  rw [e, World.cell?_alloc_at _ _ _ _ rfl]
  match i, hx with
  | 0, hx => exact congrArg (fun o => o.map (Value.int .i64)) hx
  | 1, hx => exact congrArg (fun o => o.map (Value.int .i64)) hx
  | 2, hx => exact congrArg (fun o => o.map (Value.int .i64)) hx
  | 3, hx => exact congrArg (fun o => o.map (Value.int .i64)) hx
theorem int_cell {w : World} {p : Option Addr} {l : List Int} (h : Rec intE w p l) {i : Nat} (hi : i < l.length) : ∃ b o, p = some ⟨b, o, none⟩ ∧ b < w.heap.size ∧ w.cell? ⟨b, o + i, none⟩ = some (.int .i64 (l.getD i 0)) := by
  rcases h with h | ⟨b, o, hp, hlt, hc⟩
  · rw [h] at hi; exact absurd hi (Nat.not_lt_zero _)
  · refine ⟨b, o, hp, hlt, ?_⟩
    have h1 := hc i (l.getD i 0) (by rw [List.getD_eq_getElem?_getD, List.getElem?_eq_getElem hi]; rfl) 0 (.int .i64 (l.getD i 0)) rfl
    have e : o + i * intE.k + 0 = o + i := by show o + i * 1 + 0 = o + i; omega
    rw [e] at h1
    exact h1
/-- The texts of a message. -/
def txsL (m1 m2 m3 m4 : ByteArray) (k : Nat) : List UInt8 := ([m1, m2, m3, m4].take k).flatMap txL
theorem txsL_four (m1 m2 m3 m4 : ByteArray) : txsL m1 m2 m3 m4 4 = txL m1 ++ (txL m2 ++ (txL m3 ++ txL m4)) := by simp [txsL]
def txAt (m1 m2 m3 m4 : ByteArray) (k : Nat) : ByteArray := [m1, m2, m3, m4].getD k ⟨#[]⟩
theorem txsL_succ (m1 m2 m3 m4 : ByteArray) {k : Nat} (h : k < 4) : txsL m1 m2 m3 m4 (k + 1) = txsL m1 m2 m3 m4 k ++ txL (txAt m1 m2 m3 m4 k) := by
  match k, h with
  | 0, _ => simp [txsL, txAt]
  | 1, _ => simp [txsL, txAt]
  | 2, _ => simp [txsL, txAt]
  | 3, _ => simp [txsL, txAt]
theorem txAt_cell {w : World} {tb : Nat} {m1 m2 m3 m4 : ByteArray} (h : w.heap[tb]? = some (.cells #[.string m1, .string m2, .string m3, .string m4] 9 (0, 0))) {k : Nat} (hk : k < 4) : w.cell? ⟨tb, k, none⟩ = some (.string (txAt m1 m2 m3 m4 k)) := by
  match k, hk with
  | 0, _ => simp [World.cell?, h, txAt]
  | 1, _ => simp [World.cell?, h, txAt]
  | 2, _ => simp [World.cell?, h, txAt]
  | 3, _ => simp [World.cell?, h, txAt]
theorem txAt_size {m1 m2 m3 m4 : ByteArray} (h1 : m1.size ≤ 8000) (h2 : m2.size ≤ 8000) (h3 : m3.size ≤ 8000) (h4 : m4.size ≤ 8000) {k : Nat} (hk : k < 4) : (txAt m1 m2 m3 m4 k).size ≤ 8000 := by
  match k, hk with
  | 0, _ => exact h1
  | 1, _ => exact h2
  | 2, _ => exact h3
  | 3, _ => exact h4
theorem txsL_size {m1 m2 m3 m4 : ByteArray} (h1 : m1.size ≤ 8000) (h2 : m2.size ≤ 8000) (h3 : m3.size ≤ 8000) (h4 : m4.size ≤ 8000) : ∀ k, k ≤ 4 → (txsL m1 m2 m3 m4 k).length ≤ 8008 * k
  | 0, _ => by simp [txsL]
  | k + 1, hk => by
    have ih := txsL_size h1 h2 h3 h4 k (by omega)
    have hz := txAt_size h1 h2 h3 h4 (show k < 4 by omega)
    rw [txsL_succ _ _ _ _ (by omega), List.length_append]
    unfold txL
    rw [List.length_append, eightL_length]
    have e : (txAt m1 m2 m3 m4 k).data.toList.length = (txAt m1 m2 m3 m4 k).size := by simp
    omega
theorem ofL_tx (a : List UInt8) (t : ByteArray) : ofL a ++ ofL (eightL t.size) ++ t = ofL (a ++ txL t) := by
  conv => lhs; rw [← ofL_self t]
  rw [ofL_self, ofL_append]
  unfold txL
  conv => lhs; rhs; rw [← ofL_self t]
  rw [ofL_append, List.append_assoc]
theorem flat_bulk (l : List Ver) : (l.flatMap verL).length = bulkV l := by
  induction l with
  | nil => rfl
  | cons v l ih =>
    unfold bulkV at ih ⊢
    rw [List.flatMap_cons, List.length_append, ih, List.map_cons, List.sum_cons]
    unfold verL txL
    have : v.text.data.toList.length = v.text.size := by simp
    simp only [List.length_append, eightL_length, this]
    omega
theorem verL_flat_take {L : List Ver} {i : Nat} (h : i < L.length) : (L.take (i + 1)).flatMap verL = (L.take i).flatMap verL ++ verL (verAt L i) := by
  rw [List.take_add_one, verAt_get h]
  simp
end Go.Proofs.YteppmkpckdmnaaaDoor
