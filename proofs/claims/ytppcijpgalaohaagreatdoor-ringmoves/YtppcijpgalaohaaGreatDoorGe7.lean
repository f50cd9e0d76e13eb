/- Texts laid together. -/
import Derived.Test.YtppcijpgalaohaaGreatDoorGe6
namespace Go.Proofs.YtppcijpgalaohaaGreatDoor
open Go.RowKit
set_option maxRecDepth 10000 in
theorem sclone_any (t : ByteArray) (w : World) (ht : t.size ≤ 140737488351232) : Calls Tryz.prog 28 #[.string t] w fun e w' => e = .returned (.string t) ∧ Below w.heap.size w w' := by
  have HC : Hid (∀ W, Calls Tryz.prog 39 #[.string t] W fun e w' => e = .returned (.string t) ∧ Below W.heap.size W w') := fun W => Tryz.stringslite_Clone t W (by omega)
  go_enter Tryz.func28, Tryz.ntmps28
  go_wp2_with fail
  refine (HC.out _).mono ?_
  rintro e w1 ⟨rfl, hb1⟩
  have HB1 : Hid (Below w.heap.size w w1) := hb1
  clear hb1
  go_wp2
  go_ret
  exact ⟨rfl, HB1.out⟩
section
/-- How a record lies in its k cells. -/
structure Enc (α : Type) where
  k : Nat
  pos : 0 < k
  enc : α → List Value
  len : ∀ x, (enc x).length = k
  one : ∀ x, ∀ u ∈ enc x, u.oneCell' = true
variable {α : Type} {E : Enc α}
/-- The cells of records. -/
def recVals (E : Enc α) (l : List α) : List Value := l.flatMap E.enc
theorem recVals_length (E : Enc α) : ∀ l : List α, (recVals E l).length = l.length * E.k
  | [] => by simp [recVals]
  | x :: l => by
    have := recVals_length E l
    unfold recVals at this ⊢
    rw [List.flatMap_cons, List.length_append, this, E.len, List.length_cons, Nat.add_mul, Nat.one_mul, Nat.add_comm]
theorem recVals_append (E : Enc α) (l m : List α) : recVals E (l ++ m) = recVals E l ++ recVals E m := by unfold recVals; rw [List.flatMap_append]
theorem recVals_one (E : Enc α) (x : α) : recVals E [x] = E.enc x := by simp [recVals]
theorem recVals_at (E : Enc α) : ∀ (l : List α) (i : Nat) (x : α), l[i]? = some x → ∀ j u, (E.enc x)[j]? = some u → (recVals E l)[i * E.k + j]? = some u
  | [], i, x, h, _, _, _ => by simp at h
  | y :: l, 0, x, h, j, u, hj => by
    obtain rfl : y = x := by simpa using h
    unfold recVals
    rw [List.flatMap_cons, Nat.zero_mul, Nat.zero_add, List.getElem?_append_left (List.getElem?_eq_some_iff.1 hj).1]
    exact hj
  | y :: l, i + 1, x, h, j, u, hj => by
    have ih := recVals_at E l i x (by simpa using h) j u hj
    unfold recVals at ih ⊢
    rw [List.flatMap_cons, List.getElem?_append_right (by rw [E.len]; have := Nat.le_mul_of_pos_left E.k (show 0 < i + 1 by omega); omega), E.len]
    have e : (i + 1) * E.k + j - E.k = i * E.k + j := by rw [Nat.add_mul, Nat.one_mul]; omega
    rw [e]
    exact ih
/-- In the world w the records l lie from p on. -/
def Rec (E : Enc α) (w : World) (p : Option Addr) (l : List α) : Prop :=
  l = [] ∨ ∃ b o, p = some ⟨b, o, none⟩ ∧ b < w.heap.size ∧ ∀ i x, l[i]? = some x → ∀ j u, (E.enc x)[j]? = some u → w.cell? ⟨b, o + i * E.k + j, none⟩ = some u
theorem Rec.nil (w : World) (p : Option Addr) : Rec E w p [] := Or.inl rfl
theorem Rec.drewN {w : World} {p : Option Addr} {l : List α} (h : Rec E w p l) (n : Nat) : Rec E (w.drewN n) p l := h
theorem Rec.below {w w' : World} {p : Option Addr} {l : List α} (h : Rec E w p l) (hb : Below w.heap.size w w') : Rec E w' p l := by
  rcases h with h | ⟨b, o, hp, hlt, hc⟩
  · exact Or.inl h
  · exact Or.inr ⟨b, o, hp, Nat.lt_of_lt_of_le hlt hb.size, fun i x hx j u hu => (hb.cell (p := ⟨b, o + i * E.k + j, none⟩) hlt).trans (hc i x hx j u hu)⟩
theorem Rec.belowAt {w w' : World} {p : Option Addr} {l : List α} {B : Nat} (h : Rec E w p l) (hb : Below B w w') (hB : ∀ b o, p = some ⟨b, o, none⟩ → b < B) : Rec E w' p l := by
  rcases h with h | ⟨b, o, hp, hlt, hc⟩
  · exact Or.inl h
  · exact Or.inr ⟨b, o, hp, Nat.lt_of_lt_of_le hlt hb.size, fun i x hx j u hu => (hb.cell (p := ⟨b, o + i * E.k + j, none⟩) (hB b o hp)).trans (hc i x hx j u hu)⟩
theorem Rec.take {w : World} {p : Option Addr} {l : List α} (h : Rec E w p l) (m : Nat) : Rec E w p (l.take m) := by
  rcases h with h | ⟨b, o, hp, hlt, hc⟩
  · exact Or.inl (by rw [h, List.take_nil])
  · refine Or.inr ⟨b, o, hp, hlt, fun i x hx j u hu => hc i x ?_ j u hu⟩
    rw [List.getElem?_take] at hx
    split at hx
    · exact hx
    · cases hx
/-- Where they lie from record m on. -/
theorem Rec.drop {w : World} {p : Option Addr} {l : List α} {c m : Nat} (h : Rec E w p l) (hm : m ≤ l.length) (hc : l.length ≤ c) (hn : p = none → l = [] ∧ c = 0) :
    Rec E w (if c = m then p else p.map (·.add (m * E.k))) (l.drop m) ∧ ((if c = m then p else p.map (·.add (m * E.k))) = none → l.drop m = [] ∧ c - m = 0) := by
  by_cases e : c = m
  · rw [if_pos e]
    have h0 : l.drop m = [] := List.drop_eq_nil_of_le (by omega)
    exact ⟨Or.inl h0, fun _ => ⟨h0, by omega⟩⟩
  · rw [if_neg e]
    cases p with
    | none =>
      obtain ⟨h1, h2⟩ := hn rfl
      rw [h1] at hm
      simp at hm
      omega
    | some a =>
      refine ⟨?_, fun h0 => by cases h0⟩
      rcases h with h | ⟨b, o, hp, hlt, hcell⟩
      · exact Or.inl (by rw [h, List.drop_nil])
      · obtain rfl : a = ⟨b, o, none⟩ := by simpa using hp
        refine Or.inr ⟨b, o + m * E.k, by simp [Addr.add_lit], hlt, fun i x hx j u hu => ?_⟩
        rw [List.getElem?_drop] at hx
        have := hcell (m + i) x hx j u hu
        rw [Nat.add_mul, ← Nat.add_assoc] at this
        exact this
/-- v owns the records l in a row from block B on. -/
def OwnR (E : Enc α) (T : TypeId) (w : World) (B : Nat) (v : Value) (l : List α) : Prop := w.ownsRow B T E.k v l.length (recVals E l)
theorem OwnR.nil (T : TypeId) (w : World) (B : Nat) : OwnR E T w B (.slice none 0 0) [] := World.ownsRow_nil w B T E.k
theorem OwnR.block {T : TypeId} {w : World} {B : Nat} {v : Value} {l : List α} (h : OwnR E T w B v l) {k : Nat} (hk : v.ownBlock = some k) : B ≤ k ∧ k < w.heap.size := World.ownsRow.lt h k hk
theorem OwnR.kept {T : TypeId} {w w' : World} {B : Nat} {v : Value} {l : List α} (h : OwnR E T w B v l) (hb : Below w.heap.size w w') : OwnR E T w' B v l :=
  World.ownsRow.kept (row := none) h ⟨hb.os, hb.tape, hb.output, hb.size, fun k hk _ => hb.block k hk⟩ (by cases v.ownBlock <;> simp)
theorem OwnR.base {T : TypeId} {w : World} {B B' : Nat} {v : Value} {l : List α} (h : OwnR E T w B v l) (hb : B' ≤ B) : OwnR E T w B' v l := by
  obtain ⟨h1, h2⟩ := h
  refine ⟨h1, ?_⟩
  rcases h2 with h2 | ⟨g, cap, cur, hv, hbg, hrest⟩
  · exact Or.inl h2
  · exact Or.inr ⟨g, cap, cur, hv, Nat.le_trans hb hbg, hrest⟩
theorem OwnR.form {T : TypeId} {w : World} {B : Nat} {v : Value} {l : List α} (h : OwnR E T w B v l) : ∃ p c, v = .slice p l.length c ∧ Rec E w p l ∧ l.length ≤ c ∧ (p = none → l = [] ∧ c = 0) ∧ ∀ b o, p = some ⟨b, o, none⟩ → B ≤ b ∧ b < w.heap.size := by
  have h0 : w.ownsRow B T E.k v l.length (recVals E l) := h
  rcases h0.2 with ⟨rfl, hz⟩ | ⟨g, cap, cur, rfl, hb, hg, hnc, hcm, hcs, htake⟩
  · have e : l = [] := List.length_eq_zero_iff.1 hz
    subst e
    exact ⟨none, 0, rfl, Or.inl rfl, Nat.le_refl _, fun _ => ⟨rfl, rfl⟩, fun _ _ h => by cases h⟩
  · have hlt : g < w.heap.size := (Array.getElem?_eq_some_iff.1 hg).1
    refine ⟨some ⟨g, 0, none⟩, cap, rfl, Or.inr ⟨g, 0, rfl, hlt, fun i x hx j u hu => ?_⟩, hnc, fun h => (by cases h), fun b o h => ?_⟩
    · have hc := World.ownsRow.cells (g := g) h0 rfl (i * E.k + j) u (recVals_at E l i x hx j u hu)
      rw [Addr.add_lit] at hc
      rw [Nat.add_assoc]
      exact hc
    · obtain ⟨rfl, rfl⟩ : g = b ∧ 0 = o := by simpa using h
      exact ⟨hb, hlt⟩
theorem recVals_one' (E : Enc α) (l : List α) : ∀ u ∈ recVals E l, u.oneCell' = true := fun u hu => by
  obtain ⟨x, _, hx⟩ := List.mem_flatMap.1 hu
  exact E.one x u hx
theorem Rec.cells {w : World} {b o : Nat} {l : List α} (hc : ∀ i x, l[i]? = some x → ∀ j u, (E.enc x)[j]? = some u → w.cell? ⟨b, o + i * E.k + j, none⟩ = some u) : ∀ j u, (recVals E l)[j]? = some u → w.cell? ((⟨b, o, none⟩ : Addr).add j) = some u := by
  intro j u hj
  have hjl : j < (recVals E l).length := (List.getElem?_eq_some_iff.1 hj).1
  rw [recVals_length] at hjl
  have hk := E.pos
  have hi : j / E.k < l.length := (Nat.div_lt_iff_lt_mul hk).2 hjl
  have hr : j % E.k < E.k := Nat.mod_lt _ hk
  have hx : l[j / E.k]? = some l[j / E.k] := List.getElem?_eq_getElem hi
  have hu : (E.enc l[j / E.k])[j % E.k]? = some ((E.enc l[j / E.k])[j % E.k]'(by rw [E.len]; exact hr)) := List.getElem?_eq_getElem (by rw [E.len]; exact hr)
  have h1 := recVals_at E l (j / E.k) _ hx (j % E.k) _ hu
  have h2 := hc (j / E.k) _ hx (j % E.k) _ hu
  have ej : j / E.k * E.k + j % E.k = j := by rw [Nat.mul_comm]; exact Nat.div_add_mod j E.k
  rw [ej] at h1
  rw [Nat.add_assoc, ej] at h2
  rw [Addr.add_lit, h2, ← h1, hj]
section
variable {w : World}
theorem wpList_append_recs {ops : Array Oper} {rest : List Oper} {o : Oper} {a : Act} {Q : Exit → Act → World → Prop} (hgd : o.guard = none) (s x : Operand) (t T : TypeId)
    (ho : o.op = .call { callee := .builtin .append, args := #[s, x], argTypes := #[t, t] }) (z : Value) (bytes : Nat) (ht : Tryz.prog.underlying t = some (.slice T))
    (hinfo : (Tryz.prog.info? T).map (fun i => (i.zero, i.size, i.bytes)) = some (some z, E.k, bytes)) (hzc : z.cells.size = E.k)
    (B : Nat) (v : Value) (l : List α) (hs : a.eval s = v) (hown : OwnR E T w B v l) (q : Option Addr) (r : List α) (c : Nat) (hx : a.eval x = .slice q r.length c) (hq : Rec E w q r) (hc0 : q = none → r = [] ∧ c = 0) (hl : l.length + r.length ≤ maxLen) (hby : (l.length + r.length) * bytes ≤ 140737488355328) (hbase : B ≤ w.heap.size)
    (h : ∀ v' w', OwnR E T w' B v' (l ++ r) → Below B w w' → wpList Tryz.prog ops Q rest (a.put o.dst v') w') : wpList Tryz.prog ops Q (o :: rest) a w := by
  obtain ⟨i0, hi0, hz0, hz1, hzb⟩ := info_parts hinfo
  have hfin : ∀ v' w', w'.ownsRow B T E.k v' (l.length + r.length) (recVals E l ++ recVals E r) → w.grownBy w' v.ownBlock → wpList Tryz.prog ops Q rest (a.put o.dst v') w' := fun v' w' h1 h2 => by
    refine h v' w' ?_ ((Below.refl _ _).grown h2 hbase (fun k hk => (hown.block hk).1))
    unfold OwnR
    rw [recVals_append, List.length_append]
    exact h1
  cases q with
  | none =>
    obtain ⟨hr, hc⟩ := hc0 rfl
    subst hr hc
    refine wpList_append_own_none hgd s x _ ho B T i0 E.k ht hi0 v l.length (recVals E l) hs hown hx ?_
    have := h v w (by rw [List.append_nil]; exact hown) (Below.refl _ _)
    exact this
  | some ad =>
    refine wpList_append_own w hgd s x _ ho B T i0 z E.k bytes ht hi0 hz0 hz1 hzb hzc E.pos v l.length (recVals E l) hs hown ad r.length c (recVals E r) hx (recVals_length E r) ?_ (recVals_one' E r) hl hby hbase (fun v' w' h1 h2 _ => hfin v' w' h1 h2)
    rcases hq with h0 | ⟨b, o', hp, _, hcell⟩
    · subst h0
      intro j u hj
      simp [recVals] at hj
    · obtain rfl : ad = ⟨b, o', none⟩ := by simpa using hp
      exact Rec.cells hcell
/-- One record more, out of a row of one that was just laid. -/
theorem wpList_append_rec {ops : Array Oper} {rest : List Oper} {o : Oper} {a : Act} {Q : Exit → Act → World → Prop} (hgd : o.guard = none) (s x : Operand) (t T : TypeId)
    (ho : o.op = .call { callee := .builtin .append, args := #[s, x], argTypes := #[t, t] }) (z : Value) (bytes : Nat) (ht : Tryz.prog.underlying t = some (.slice T))
    (hinfo : (Tryz.prog.info? T).map (fun i => (i.zero, i.size, i.bytes)) = some (some z, E.k, bytes)) (hzc : z.cells.size = E.k)
    (B : Nat) (v : Value) (l : List α) (hs : a.eval s = v) (hown : OwnR E T w B v l) (b o' c : Nat) (y : α) (hx : a.eval x = .slice (some ⟨b, o', none⟩) 1 c) (hq : ∀ j u, (E.enc y)[j]? = some u → w.cell? ⟨b, o' + j, none⟩ = some u) (hl : l.length + 1 ≤ maxLen) (hby : (l.length + 1) * bytes ≤ 140737488355328) (hbase : B ≤ w.heap.size) (hlt : b < w.heap.size)
    (h : ∀ v' w', OwnR E T w' B v' (l ++ [y]) → Below B w w' → wpList Tryz.prog ops Q rest (a.put o.dst v') w') : wpList Tryz.prog ops Q (o :: rest) a w :=
  wpList_append_recs (E := E) hgd s x t T ho z bytes ht hinfo hzc B v l hs hown (some ⟨b, o', none⟩) [y] c hx (Or.inr ⟨b, o', rfl, hlt, fun i x hx' j u hu => by
    match i, hx' with
    | 0, hx' =>
      obtain rfl : y = x := by simpa using hx'
      rw [Nat.zero_mul, Nat.add_zero]
      exact hq j u hu⟩) (fun e => by cases e) hl hby hbase h
end
end
/-- Bit p of a text, the lowest of each byte first. -/
def tbit (s : ByteArray) (p : Nat) : Nat := Gf.bitOf (Gf.nth (bytesOf s) (p / 8)) (p % 8)
theorem tbit_lt (s : ByteArray) (p : Nat) : tbit s p < 2 := Nat.mod_lt _ (by decide)
/-- The remainder of a text, ahead of the last turn. -/
def crcS (s : ByteArray) : Nat := Crc.crcTo (tbit s) 4294967295 (8 * s.size)
theorem crcS_lt (s : ByteArray) : crcS s < 2 ^ 32 := Crc.crcTo_lt (by decide) _
def crcOf (s : ByteArray) : Nat := crcS s ^^^ 4294967295
theorem crcOf_lt (s : ByteArray) : crcOf s < 2 ^ 32 := Nat.xor_lt_two_pow (crcS_lt s) (by decide)
theorem step_one {c q b : Nat} (h : (c ^^^ q) % 2 = 1) (hb : b = q % 2) : Crc.step c b = c / 2 ^^^ 3988292384 := by
  unfold Crc.step Crc.back
  rw [Crc.xor_mod2] at h ⊢
  rw [if_pos (by rw [hb]; omega)]
  rfl
theorem step_none {c q b : Nat} (h : (c ^^^ q) % 2 = 0) (hb : b = q % 2) : Crc.step c b = c / 2 := by
  unfold Crc.step Crc.back
  rw [Crc.xor_mod2] at h ⊢
  rw [if_neg (by rw [hb]; omega), Nat.xor_zero]
/-- Four bytes of a number, the highest first. -/
def fourL (n : Nat) : List Nat := [n / 16777216 % 256, n / 65536 % 256, n / 256 % 256, n % 256]
def fourT (n : Nat) : ByteArray := strOf (fourL n)
/-- All but the last four bytes; those. -/
def cutT (s : ByteArray) : ByteArray := s.extract 0 (s.size - 4)
def endT (s : ByteArray) : ByteArray := s.extract (s.size - 4) s.size
theorem cutT_size (s : ByteArray) : (cutT s).size = s.size - 4 := by unfold cutT; simp
theorem toListInj {a b : ByteArray} (h : a.toList = b.toList) : a = b := by
  rw [ByteArray.toList_eq, ByteArray.toList_eq] at h
  exact ByteArray.ext (Array.toList_inj.1 h)
theorem u32_xor_nat (a b : Nat) (ha : a < 4294967296) (hb : b < 4294967296) : bits .xor .u32 (a : Int) (b : Int) = ((a ^^^ b : Nat) : Int) := by
  have hx : a ^^^ b < 2 ^ 32 := Nat.xor_lt_two_pow (by omega) (by omega)
  show IntKind.u32.wrap ((BitVec.ofInt 32 (a : Int) ^^^ BitVec.ofInt 32 (b : Int)).toNat : Int) = _
  rw [BitVec.toNat_xor, BitVec.ofInt_natCast, BitVec.ofInt_natCast, BitVec.toNat_ofNat, BitVec.toNat_ofNat, Nat.mod_eq_of_lt (by omega), Nat.mod_eq_of_lt (by omega)]
  show ((a ^^^ b : Nat) : Int) % 4294967296 = _
  omega
set_option maxRecDepth 10000 in
set_option maxHeartbeats 1000000 in
theorem hash_any (s : ByteArray) (w : World) (hs : s.size ≤ 1000000) :
    Calls Tryz.prog 37 #[.string s] w fun e w' => e = .returned (.int .u32 ((hashTo s s.size : Nat) : Int)) ∧ w' = w := by
  go_enter Tryz.func37, Tryz.ntmps37
  go_wp2
  go_loop [3, 7] (fun c x => ∃ i : Nat, i ≤ s.size ∧ x = .int .i64 i ∧ c = .int .u32 ((hashTo s i : Nat) : Int)) (fun _ x => s.size - (intOf x).toNat)
  case atStart => exact ⟨0, Nat.zero_le _, rfl, rfl⟩
  case round =>
    obtain ⟨i, hi, rfl, rfl⟩ := hrel
    have hcl := hashTo_lt s i
    by_cases hil : i < s.size
    · have hix := run_idx s i hil
      have hy := bytesOf_lt s i
      have HNX : Hid (hashTo s (i + 1) = (hashTo s i ^^^ Gf.nth (bytesOf s) i) * 16777619 % 4294967296) := by show _ = _; rfl
      generalize hashTo s i = c at *
      generalize Gf.nth (bytesOf s) i = y at *
      have hx : bits .xor .u32 (c : Int) (y : Int) = ((c ^^^ y : Nat) : Int) := u32_xor_nat _ _ hcl (by omega)
      generalize c ^^^ y = q at *
      go_wp2
      go_round
      case rel => exact ⟨i + 1, by omega, by go_num, by rw [HNX.out]; congr 1⟩
      case measure => simp [intOf]; omega
    · have hie : i = s.size := by omega
      subst hie
      go_wp2
      go_ret
      exact ⟨rfl, rfl⟩
theorem strs_from {w : World} {p : Option Addr} {l : List ByteArray} {c k : Nat} (h : Strs w p l) (hk : k ≤ l.length) (hc : l.length ≤ c) (hn : p = none → l = [] ∧ c = 0) :
    Strs w (if c = k then p else p.map (·.add k)) (l.drop k) ∧ ((if c = k then p else p.map (·.add k)) = none → l.drop k = [] ∧ c - k = 0) := by
  by_cases e : c = k
  · rw [if_pos e]
    have h0 : l.drop k = [] := List.drop_eq_nil_of_le (by omega)
    exact ⟨Or.inl h0, fun _ => ⟨h0, by omega⟩⟩
  · rw [if_neg e]
    cases p with
    | none =>
      obtain ⟨h1, h2⟩ := hn rfl
      rw [h1] at hk
      simp at hk
      omega
    | some a =>
      refine ⟨?_, fun h0 => by cases h0⟩
      rcases h with h | ⟨b, o, hp, hlt, hcell⟩
      · exact Or.inl (by rw [h, List.drop_nil])
      · obtain rfl : a = ⟨b, o, none⟩ := by simpa using hp
        refine Or.inr ⟨b, o + k, by simp [Addr.add_lit], hlt, fun i hi => ?_⟩
        rw [List.length_drop] at hi
        rw [Nat.add_assoc, hcell (k + i) (by omega)]
        congr 2
        unfold txt
        rw [List.getD_eq_getElem?_getD, List.getD_eq_getElem?_getD, List.getElem?_drop]
theorem run_strs_from (p : Option Addr) (l : List ByteArray) (c k : Nat) (hk : k ≤ l.length) (W : World) : Sem.run Tryz.prog (Instr.slice 22 (.slice p l.length c) (some (.int .i64 (k : Int))) none none) W = .ok (.slice (if c = k then p else p.map (·.add k)) (l.drop k).length (c - k)) W := by
  have hsz : (sizeOf (Tryz.prog.elem 22)).run Tryz.prog W = .ok 1 W := by kernel_rfl
  have hel : Tryz.prog.elem 22 = 9 := by kernel_rfl
  have hun : Tryz.prog.underlying 22 = some (.slice (Tryz.prog.elem 22)) := by rw [hel]; exact Tryz.underlying22
  rw [run_slice_l W 22 p l.length c hun .i64 (k : Int) (by omega) (by omega), hsz]
  simp [Result.andThen, sliced]
theorem run_strs_to (p : Option Addr) (l : List ByteArray) (c k : Nat) (hk : k ≤ l.length) (hc : l.length ≤ c) (W : World) : Sem.run Tryz.prog (Instr.slice 22 (.slice p l.length c) none (some (.int .i64 (k : Int))) none) W = .ok (.slice p (l.take k).length c) W := by
  have hsz : (sizeOf (Tryz.prog.elem 22)).run Tryz.prog W = .ok 1 W := by kernel_rfl
  have hel : Tryz.prog.elem 22 = 9 := by kernel_rfl
  have hun : Tryz.prog.underlying 22 = some (.slice (Tryz.prog.elem 22)) := by rw [hel]; exact Tryz.underlying22
  have hl : (l.take k).length = k := by rw [List.length_take]; omega
  rw [run_slice_h W 22 p l.length c hun .i64 (k : Int) (by omega) (by omega), hsz, hl]
  simp [Result.andThen, sliced, Addr.add]
end Go.Proofs.YtppcijpgalaohaaGreatDoor
