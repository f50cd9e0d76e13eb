/- Texts laid together. -/
import Derived.Test.YtpjeibicopgedaaDoorRows
import Derived.ProofKit
import Derived.LaidLaws
import Derived.LaidHandle
import Derived.LaidMore
import Derived.Stop.LaidErr
import Derived.Test.YtpjeibicopgedaaDoorJb0
import Derived.Laws.BitsAllLaws
import Derived.Laws.BitsLemmas
import Derived.Laws.BytesArg
import Derived.WalkSmall
import Derived.Laws.AppendOwn
import Derived.OwnWalk
import Derived.Laws.AppendOwnNone
namespace Go.Proofs.YtpjeibicopgedaaDoor
open Go.RowKit
section
open Go.ChangeShapes Go.WideShapes Go.RowKit
def errD (text : List UInt8) : DataW Unit := .iface "*errors.errorString" (.ptr (.agg [.lit (.string text)]))
theorem sents {P : Program} {W : World} {ti tp te ts : TypeId} {ms : Array (String × TypeId)} {f : Field}
    (hi : P.underlying ti = some (.interface ms)) (hrow : ∀ u, P.typeName? 3 u = some "*errors.errorString" → u = tp)
    (hp : P.underlying tp = some (.pointer te)) (he : P.underlying te = some (.struct #[f])) (hft : f.type = ts) (hfo : f.offset = 0) (hs : P.underlying ts = some .string) (hc : P.cellsOf te = 1) (hcs : P.cellsOf ts = 1) :
    ∀ (L : List (String × List UInt8)) (ps : List MemPlace), DataW.LaidVars P W (L.map fun x => (x.1, errD x.2)) ps →
      (∀ x ∈ L, ∃ g, P.globalNamed x.1 = some g ∧ (P.globals[g]?).map (·.type) = some ti) →
      (∀ b off, MemPlace.cell b off ∈ ps → (∃ c t, W.heap[b]? = some (.cells c t (0, 0))) ∧ ∀ u v, W.cell? ⟨b, off, none⟩ = some (.iface u v) → Value.okWide P W .any 0 u v) →
      ∃ ad : Nat → Addr, (∀ i x, L[i]? = some x → MemPlace.cell (ad i).block (ad i).off ∈ ps ∧ W.var? P x.1 = some #[.iface tp (.pointer (some (ad i)))]) ∧
        (ps.Nodup → ∀ i j, i < L.length → j < L.length → i ≠ j → ad i ≠ ad j) := by
  intro L
  induction L with
  | nil =>
    intro ps _ _ _
    exact ⟨fun _ => ⟨0, 0, none⟩, fun i x h => by simp at h, fun _ i j h => by simp at h⟩
  | cons x r ih =>
    intro ps hl hn hr
    obtain ⟨g0, t0, cs0, f0, p0, q0, hg0, ht0, hv0, hd0, hq, rfl⟩ := hl
    obtain ⟨g, hg, ht⟩ := hn x (List.mem_cons_self ..)
    obtain rfl := Option.some.inj (hg.symm.trans hg0)
    obtain rfl := Option.some.inj (ht.symm.trans ht0)
    obtain ⟨ad, h1, h2⟩ := ih q0 hq (fun y hy => hn y (List.mem_cons_of_mem _ hy)) (fun b off hm => hr b off (List.mem_append_right _ hm))
    obtain ⟨l0⟩ := cs0
    have ok0 : ∀ u v, l0 = [.iface u v] → Value.okWide P W .any 0 u v := fun u v e => by
      subst e
      exact (hr g 0 (by simp [MemPlace.row])).2 u v (by simpa using World.var?_cell hg0 hv0 0)
    obtain ⟨a0, s0, rfl, hc0, hs0, hz0, rfl⟩ := errorString_of_trod hi hrow hp he hft hfo hs hc hcs hd0 ok0
    refine ⟨fun i => match i with | 0 => a0 | k + 1 => ad k, ?_, ?_⟩
    · intro i y hy
      match i with
      | 0 =>
        obtain rfl : x = y := by simpa using hy
        exact ⟨by simp [MemPlace.row], hv0⟩
      | k + 1 =>
        have := h1 k y (by simpa using hy)
        exact ⟨List.mem_append_right _ this.1, this.2⟩
    · intro hnd i j hi' hj' hij
      have hq' : q0.Nodup := List.Nodup.sublist (List.sublist_append_right _ _) hnd
      have hd : ∀ k, k < r.length → a0 ≠ ad k := by
        intro k hk e
        obtain ⟨y, hy⟩ : ∃ y, r[k]? = some y := ⟨r[k], List.getElem?_eq_getElem hk⟩
        have hm := (h1 k y hy).1
        rw [← e] at hm
        have hdis := (List.nodup_append.1 hnd).2.2
        exact hdis _ (List.mem_append_right _ (by simp [MemPlace.row])) _ hm rfl
      match i, j, hi', hj', hij with
      | 0, 0, _, _, h => exact absurd rfl h
      | 0, k + 1, _, hk, _ => exact hd k (by simpa using hk)
      | k + 1, 0, hk, _, _ => exact (hd k (by simpa using hk)).symm
      | k + 1, m + 1, hk, hm, hne => exact h2 hq' k m (by simpa using hk) (by simpa using hm) (fun e => hne (by rw [e]))

/-- What is laid ahead of others: what is left behind it. -/
theorem laid_peel {P : Program} {W : World} : ∀ (L M : List (String × DataW Unit)) (ps : List MemPlace), DataW.LaidVars P W (L ++ M) ps → ∃ p q, ps = p ++ q ∧ DataW.LaidVars P W M q
  | [], _, ps, h => ⟨[], ps, rfl, h⟩
  | x :: L, M, ps, h => by
    obtain ⟨g0, t0, cs0, f0, p0, q0, hg0, ht0, hv0, hd0, hq, rfl⟩ := h
    obtain ⟨p, q, rfl, h2⟩ := laid_peel L M q0 hq
    exact ⟨_, q, (List.append_assoc _ _ _).symm, h2⟩
theorem star_es : "*" ++ "errors.errorString" = "*errors.errorString" := by kernel_rfl
theorem row_es (u : TypeId) (h : Tryd.prog.typeName? 3 u = some "*errors.errorString") : u = 101 :=
  typeName_ptr_named (nm := "errors.errorString") (by rw [star_es]; kernel_rfl) (by kernel_rfl) (by decide) u (by rw [star_es]; exact h)
end
theorem ret_int {k : IntKind} {a b : Int} (h : a = b) : Ending.returned (.int k a) = .returned (.int k b) := by rw [h]
theorem ret_bool {a b : Bool} (h : a = b) : Ending.returned (.bool a) = .returned (.bool b) := by rw [h]
theorem bit_test (b k : Nat) (hb : b < 256) : (bits BinOp.and IntKind.u8 ((b : Int) / 2 ^ k) 1 == 1) = decide (Gf.bitOf b k = 1) := by
  have h1 : ((b : Int) / 2 ^ k) = ((b / 2 ^ k : Nat) : Int) := by simp
  have h2 : b / 2 ^ k < 256 := Nat.lt_of_le_of_lt (Nat.div_le_self _ _) hb
  have h3 : bits BinOp.and IntKind.u8 ((b / 2 ^ k : Nat) : Int) 1 = ((b / 2 ^ k % 2 : Nat) : Int) := by
    have := u8_and_nat (b / 2 ^ k) 1 h2 (by decide)
    rw [Nat.and_one_is_mod] at this
    exact this
  rw [h1, h3]
  unfold Gf.bitOf
  rcases Nat.mod_two_eq_zero_or_one (b / 2 ^ k) with h | h <;> rw [h] <;> rfl
theorem bit_test64 (b k : Nat) (hb : b < 256) : (bits BinOp.and IntKind.i64 ((b : Int) / 2 ^ k) 1 == 1) = decide (Gf.bitOf b k = 1) := by
  have h1 : ((b : Int) / 2 ^ k) = ((b / 2 ^ k : Nat) : Int) := by simp
  have h2 : b / 2 ^ k < 256 := Nat.lt_of_le_of_lt (Nat.div_le_self _ _) hb
  have h3 : bits BinOp.and IntKind.i64 ((b / 2 ^ k : Nat) : Int) 1 = ((b / 2 ^ k % 2 : Nat) : Int) := by
    have := bits_mask IntKind.i64 8 (by decide) (fun n h0 h1 => by rw [IntKind.wrap_i64]; omega) 1 (by decide) ((b / 2 ^ k : Nat) : Int) (Int.natCast_nonneg _) (by exact_mod_cast h2)
    rw [show ((2 : Int) ^ 1 - 1) = 1 from rfl] at this
    rw [this]
    rfl
  rw [h1, h3]
  unfold Gf.bitOf
  rcases Nat.mod_two_eq_zero_or_one (b / 2 ^ k) with h | h <;> rw [h] <;> rfl
/-- n within the first round of 255. -/
def red (n : Int) : Nat := (n % 255).toNat
theorem red_cast (n : Int) : ((red n : Nat) : Int) = n % 255 := by unfold red; omega
theorem red_lt (n : Int) : red n < 255 := by unfold red; omega
theorem tmod_neg (n : Int) : n.tmod 255 = -((-n).tmod 255) := by rw [Int.neg_tmod, Int.neg_neg]
theorem i64_xor_nat (a b : Nat) (ha : a < 2 ^ 62) (hb : b < 2 ^ 62) : bits .xor .i64 (a : Int) (b : Int) = ((a ^^^ b : Nat) : Int) := by
  have hx : a ^^^ b < 2 ^ 62 := Nat.xor_lt_two_pow ha hb
  show IntKind.i64.wrap ((BitVec.ofInt 64 (a : Int) ^^^ BitVec.ofInt 64 (b : Int)).toNat : Int) = _
  rw [BitVec.toNat_xor, BitVec.ofInt_natCast, BitVec.ofInt_natCast, BitVec.toNat_ofNat, BitVec.toNat_ofNat, Nat.mod_eq_of_lt (by omega), Nat.mod_eq_of_lt (by omega), IntKind.wrap_i64]
  omega
theorem wrap64_small (n : Nat) (h : n < 2 ^ 62) : wrap64 (n : Int) = (n : Int) := by
  unfold wrap64; omega
theorem tmod_test (b k : Nat) : (((b : Int) / 2 ^ k).tmod 2 == 1) = decide (Gf.bitOf b k = 1) := by
  have h1 : ((b : Int) / 2 ^ k) = ((b / 2 ^ k : Nat) : Int) := by simp
  rw [h1, Int.tmod_eq_emod_of_nonneg (Int.natCast_nonneg _)]
  unfold Gf.bitOf
  have h3 : (((b / 2 ^ k : Nat) : Int) % 2) = ((b / 2 ^ k % 2 : Nat) : Int) := by simp
  rw [h3]
  rcases Nat.mod_two_eq_zero_or_one (b / 2 ^ k) with h | h <;> rw [h] <;> rfl
/-- Bytes as a text. -/
def strOf (l : List Nat) : ByteArray := strOfNums (l.map Int.ofNat)
/-- A text's bytes. -/
def bytesOf (s : ByteArray) : List Nat := s.data.toList.map UInt8.toNat
theorem bytesOf_lt (s : ByteArray) : Gf.Bytes (bytesOf s) := fun i => by
  by_cases hi : i < (bytesOf s).length
  · rw [Gf.nth_getElem _ i hi]
    simp only [bytesOf, List.getElem_map]
    exact UInt8.toNat_lt _
  · show (bytesOf s).getD i 0 < 256
    rw [List.getD_eq_getElem?_getD, List.getElem?_eq_none (by omega)]
    decide
theorem bytesOf_nth (s : ByteArray) (i : Nat) (h : i < s.size) : Gf.nth (bytesOf s) i = (s[i]'h).toNat := by
  rw [Gf.nth_getElem _ i (by simpa [bytesOf] using h)]
  simp only [bytesOf, List.getElem_map]
  rfl
theorem bytesOf_length (s : ByteArray) : (bytesOf s).length = s.size := by simp [bytesOf]
theorem mem_bytes {l : List Nat} (h : Gf.Bytes l) {x : Nat} (hx : x ∈ l) : x < 256 := by
  obtain ⟨i, hi, rfl⟩ := List.getElem_of_mem hx
  have := h i
  rwa [Gf.nth_getElem l i hi] at this
theorem bytesOf_strOf {l : List Nat} (h : Gf.Bytes l) : bytesOf (strOf l) = l := by
  unfold bytesOf strOf
  rw [strOfNums_data, List.map_map, List.map_map]
  conv => rhs; rw [← List.map_id l]
  refine List.map_congr_left fun x hx => ?_
  have := mem_bytes h hx
  simp only [Function.comp]
  show (UInt8.ofNat x).toNat = x
  simp only [UInt8.toNat_ofNat']
  omega
theorem strOf_bytesOf (s : ByteArray) : strOf (bytesOf s) = s := by
  unfold bytesOf strOf strOfNums
  rw [List.map_map, List.map_map]
  have : (List.map (((fun n : Int => UInt8.ofNat n.toNat) ∘ Int.ofNat) ∘ UInt8.toNat) s.data.toList) = s.data.toList := by
    conv => rhs; rw [← List.map_id s.data.toList]
    refine List.map_congr_left fun x _ => ?_
    show UInt8.ofNat x.toNat = x
    exact UInt8.ofNat_toNat
  rw [this]
theorem strOf_size (l : List Nat) : (strOf l).size = l.length := by
  unfold strOf
  rw [strOfNums_size, List.length_map]
theorem run_idx (s : ByteArray) (i : Nat) (h : i < s.size) (W : World) : Sem.run Tryd.prog (Instr.index 9 (.string s) (.int .i64 (i : Int))) W = .ok (.int .u8 ((Gf.nth (bytesOf s) i : Nat) : Int)) W := by
  rw [run_index_string W 9 s .i64 _ Tryd.underlying9, dif_pos ⟨by omega, by omega⟩, bytesOf_nth s i h]
  congr 3
theorem nth_ext {l m : List Nat} (hl : l.length = m.length) (h : ∀ i, i < l.length → Gf.nth l i = Gf.nth m i) : l = m := by
  refine List.ext_getElem hl fun i h1 h2 => ?_
  rw [← Gf.nth_getElem l i h1, ← Gf.nth_getElem m i h2]
  exact h i h1
theorem nth_past {l : List Nat} {i : Nat} (h : l.length ≤ i) : Gf.nth l i = 0 := by
  show l.getD i 0 = 0
  rw [List.getD_eq_getElem?_getD, List.getElem?_eq_none h]
  rfl
def txt (l : List ByteArray) (i : Nat) : ByteArray := l.getD i ⟨#[]⟩
theorem txt_getElem (l : List ByteArray) (i : Nat) (h : i < l.length) : txt l i = l[i] := by
  unfold txt
  rw [List.getD_eq_getElem?_getD, List.getElem?_eq_getElem h]
  rfl
theorem txt_mem {l : List ByteArray} {i : Nat} (h : i < l.length) : txt l i ∈ l := by
  rw [txt_getElem l i h]
  exact List.getElem_mem h
theorem txt_of_mem {l : List ByteArray} {x : ByteArray} (h : x ∈ l) : ∃ i, i < l.length ∧ txt l i = x := by
  obtain ⟨i, hi, e⟩ := List.getElem_of_mem h
  exact ⟨i, hi, by rw [txt_getElem l i hi, e]⟩
theorem txt_take {l : List ByteArray} {i j : Nat} (h : j < i) : txt (l.take i) j = txt l j := by
  unfold txt
  rw [List.getD_eq_getElem?_getD, List.getD_eq_getElem?_getD, List.getElem?_take_of_lt h]
theorem txt_ext {l m : List ByteArray} (hl : l.length = m.length) (h : ∀ i, i < l.length → txt l i = txt m i) : l = m := by
  refine List.ext_getElem hl fun i h1 h2 => ?_
  rw [← txt_getElem l i h1, ← txt_getElem m i h2]
  exact h i h1
/-- In the world w the texts l lie from p on. -/
def Strs (w : World) (p : Option Addr) (l : List ByteArray) : Prop :=
  l = [] ∨ ∃ b o, p = some ⟨b, o, none⟩ ∧ b < w.heap.size ∧ ∀ i, i < l.length → w.cell? ⟨b, o + i, none⟩ = some (.string (txt l i))
theorem Strs.nil (w : World) (p : Option Addr) : Strs w p [] := Or.inl rfl
theorem Strs.drewN {w : World} {p : Option Addr} {l : List ByteArray} (h : Strs w p l) (n : Nat) : Strs (w.drewN n) p l := h
theorem Strs.below {w w' : World} {p : Option Addr} {l : List ByteArray} (h : Strs w p l) (hb : Below w.heap.size w w') : Strs w' p l := by
  rcases h with h | ⟨b, o, hp, hlt, hc⟩
  · exact Or.inl h
  · exact Or.inr ⟨b, o, hp, Nat.lt_of_lt_of_le hlt hb.size, fun i hi => (hb.cell (p := ⟨b, o + i, none⟩) hlt).trans (hc i hi)⟩
/-- Below B alone nothing turned. -/
theorem Strs.belowAt {w w' : World} {p : Option Addr} {l : List ByteArray} {B : Nat} (h : Strs w p l) (hb : Below B w w') (hB : ∀ b o, p = some ⟨b, o, none⟩ → b < B) : Strs w' p l := by
  rcases h with h | ⟨b, o, hp, hlt, hc⟩
  · exact Or.inl h
  · exact Or.inr ⟨b, o, hp, Nat.lt_of_lt_of_le hlt hb.size, fun i hi => (hb.cell (p := ⟨b, o + i, none⟩) (hB b o hp)).trans (hc i hi)⟩
theorem Strs.take {w : World} {p : Option Addr} {l : List ByteArray} (h : Strs w p l) (i : Nat) : Strs w p (l.take i) := by
  rcases h with h | ⟨b, o, hp, hlt, hc⟩
  · exact Or.inl (by rw [h, List.take_nil])
  · refine Or.inr ⟨b, o, hp, hlt, fun j hj => ?_⟩
    rw [List.length_take] at hj
    rw [hc j (by omega), txt_take (by omega)]
theorem toList_ne {a b : ByteArray} (h : a ≠ b) : ¬ a.toList = b.toList := fun e => h (by
  rw [ByteArray.toList_eq, ByteArray.toList_eq] at e
  exact ByteArray.ext (Array.toList_inj.1 e))
theorem toList_beq {a b : ByteArray} (h : a ≠ b) : (a.toList == b.toList) = false := by simpa using toList_ne h
theorem bytes_beq {a b : ByteArray} (h : a ≠ b) : (a == b) = false := by rw [beq_toListBytes]; exact toList_beq h
/-- The first place where it stands. -/
def idxN (l : List ByteArray) (s : ByteArray) : Nat := l.findIdx fun x => decide (x = s)
theorem idxN_eq {l : List ByteArray} {s : ByteArray} {i : Nat} (hi : i < l.length) (h : txt l i = s) (hall : ∀ j, j < i → txt l j ≠ s) : idxN l s = i := by
  unfold idxN
  rw [List.findIdx_eq hi]
  refine ⟨decide_eq_true (by rw [← txt_getElem l i hi]; exact h), fun j hj => decide_eq_false ?_⟩
  rw [← txt_getElem l j (by omega)]
  exact hall j hj
/-- A sign that a name may have. -/
def letterB (c : Nat) : Bool := decide (97 ≤ c ∧ c ≤ 122) || decide (48 ≤ c ∧ c ≤ 57) || decide (c = 45)
/-- A name. -/
def isN (s : ByteArray) : Bool := decide (1 ≤ s.size ∧ s.size ≤ 16) && (bytesOf s).all letterB
theorem isN_size {s : ByteArray} (h : isN s = true) : 1 ≤ s.size ∧ s.size ≤ 16 := by
  unfold isN at h
  rw [Bool.and_eq_true] at h
  exact of_decide_eq_true h.1
theorem isN_all {s : ByteArray} (h1 : 1 ≤ s.size) (h2 : s.size ≤ 16) (h : ∀ j, j < s.size → letterB (Gf.nth (bytesOf s) j) = true) : isN s = true := by
  unfold isN
  rw [decide_eq_true ⟨h1, h2⟩, Bool.true_and, List.all_eq_true]
  intro x hx
  obtain ⟨j, hj, rfl⟩ := List.getElem_of_mem hx
  rw [← Gf.nth_getElem _ j hj]
  exact h j (by rw [bytesOf_length] at hj; exact hj)
theorem isN_one {s : ByteArray} {j : Nat} (hj : j < s.size) (h : letterB (Gf.nth (bytesOf s) j) = false) : isN s = false := by
  unfold isN
  rw [Bool.and_eq_false_iff]
  refine Or.inr (List.all_eq_false.2 ⟨Gf.nth (bytesOf s) j, ?_, by rw [h]; decide⟩)
  have hj' : j < (bytesOf s).length := by rw [bytesOf_length]; exact hj
  rw [Gf.nth_getElem _ j hj']
  exact List.getElem_mem hj'
theorem isN_len {s : ByteArray} (h : ¬ (1 ≤ s.size ∧ s.size ≤ 16)) : isN s = false := by
  unfold isN
  rw [decide_eq_false h, Bool.false_and]
def inL (l : List ByteArray) (x : ByteArray) : Bool := l.any fun y => decide (y = x)
theorem inL_iff {l : List ByteArray} {x : ByteArray} : inL l x = true ↔ x ∈ l := by
  unfold inL
  rw [List.any_eq_true]
  exact ⟨fun ⟨y, hy, e⟩ => by rw [← of_decide_eq_true e]; exact hy, fun h => ⟨x, h, decide_eq_true rfl⟩⟩
/-- What is wrong with node i: it is no name (4), it was ahead (6), nothing (0). -/
def faultAt (l : List ByteArray) (i : Nat) : Nat := if isN (txt l i) then (if inL (l.take i) (txt l i) then 6 else 0) else 4
theorem faultAt_name {l : List ByteArray} {i : Nat} (h : isN (txt l i) = false) : faultAt l i = 4 := by
  unfold faultAt
  rw [h, if_neg (by decide)]
theorem faultAt_twice {l : List ByteArray} {i : Nat} (h : isN (txt l i) = true) (h2 : txt l i ∈ l.take i) : faultAt l i = 6 := by
  unfold faultAt
  rw [if_pos h, if_pos (inL_iff.2 h2)]
theorem faultAt_fine {l : List ByteArray} {i : Nat} (h : isN (txt l i) = true) (h2 : txt l i ∉ l.take i) : faultAt l i = 0 := by
  unfold faultAt
  rw [if_pos h, if_neg (fun h3 => h2 (inL_iff.1 h3))]
/-- The first fault of the m nodes from i on: its number, its place. -/
def scanF (l : List ByteArray) : Nat → Nat → Int × Int
  | _, 0 => (0, -1)
  | i, m + 1 => if faultAt l i = 0 then scanF l (i + 1) m else ((faultAt l i : Nat), (i : Nat))
/-- The fault of nodes. -/
def nodesF (l : List ByteArray) : Int × Int := if l.length < 1 ∨ 16 < l.length then (2, -1) else scanF l 0 l.length
theorem nodesF_bound {l : List ByteArray} (h : l.length < 1 ∨ 16 < l.length) : nodesF l = (2, -1) := if_pos h
theorem nodesF_scan {l : List ByteArray} (h1 : ¬ l.length < 1) (h2 : ¬ 16 < l.length) : nodesF l = scanF l 0 l.length := if_neg (by omega)
theorem scanF_fine {l : List ByteArray} : ∀ (m i : Nat), scanF l i m = (0, -1) → ∀ j, i ≤ j → j < i + m → faultAt l j = 0
  | 0, i, _, j, h1, h2 => by omega
  | m + 1, i, h, j, h1, h2 => by
    have h' : (if faultAt l i = 0 then scanF l (i + 1) m else (((faultAt l i : Nat) : Int), (i : Int))) = (0, -1) := h
    by_cases e : faultAt l i = 0
    · rw [if_pos e] at h'
      by_cases e2 : j = i
      · rw [e2]; exact e
      · exact scanF_fine m (i + 1) h' j (by omega) (by omega)
    · rw [if_neg e] at h'
      have h3 := congrArg Prod.fst h'
      have h4 : ((faultAt l i : Nat) : Int) = 0 := h3
      omega
/-- Where it is 0 it is nothing. -/
theorem scanF_zero {l : List ByteArray} : ∀ (m i : Nat), (scanF l i m).1 ≤ 0 → scanF l i m = (0, -1)
  | 0, _, _ => rfl
  | m + 1, i, h => by
    show (if faultAt l i = 0 then scanF l (i + 1) m else (((faultAt l i : Nat) : Int), (i : Int))) = (0, -1)
    have h' : (if faultAt l i = 0 then scanF l (i + 1) m else (((faultAt l i : Nat) : Int), (i : Int))).1 ≤ 0 := h
    by_cases e : faultAt l i = 0
    · rw [if_pos e] at h' ⊢
      exact scanF_zero m (i + 1) h'
    · rw [if_neg e] at h'
      have h4 : ((faultAt l i : Nat) : Int) ≤ 0 := h'
      omega
theorem nodesF_zero {l : List ByteArray} (h : (nodesF l).1 ≤ 0) : nodesF l = (0, -1) ∧ 1 ≤ l.length ∧ l.length ≤ 16 := by
  by_cases hb : l.length < 1 ∨ 16 < l.length
  · rw [nodesF_bound hb] at h
    exact absurd h (by decide)
  · have h1 : nodesF l = scanF l 0 l.length := if_neg hb
    rw [h1] at h ⊢
    exact ⟨scanF_zero _ _ h, by omega, by omega⟩
/-- Nodes without a fault: names, each once. -/
theorem nodesF_fine {l : List ByteArray} (h : (nodesF l).1 ≤ 0) : (∀ x ∈ l, isN x = true) ∧ l.Nodup := by
  obtain ⟨h0, h1, h2⟩ := nodesF_zero h
  rw [nodesF_scan (by omega) (by omega)] at h0
  have hf := scanF_fine l.length 0 h0
  have key : ∀ j, j < l.length → isN (txt l j) = true ∧ txt l j ∉ l.take j := fun j hj => by
    have := hf j (Nat.zero_le _) (by omega)
    unfold faultAt at this
    by_cases e : isN (txt l j) = true
    · rw [if_pos e] at this
      refine ⟨e, fun h3 => ?_⟩
      rw [if_pos (inL_iff.2 h3)] at this
      omega
    · rw [if_neg e] at this
      omega
  refine ⟨fun x hx => ?_, ?_⟩
  · obtain ⟨j, hj, rfl⟩ := txt_of_mem hx
    exact (key j hj).1
  · rw [List.nodup_iff_pairwise_ne, List.pairwise_iff_getElem]
    intro i j hi hj hij e
    refine (key j hj).2 ?_
    rw [txt_getElem l j hj, ← e, List.mem_take_iff_getElem]
    exact ⟨i, by omega, rfl⟩
/-- The fault of nodes, and how many. -/
def preferF (l : List ByteArray) (n : Int) : Int × Int := if 0 < (nodesF l).1 then nodesF l else if (l.length : Int) < n then (8, -1) else if n < 0 then (2, -1) else nodesF l
theorem preferF_fine {l : List ByteArray} {n : Int} (h : ¬ 0 < (preferF l n).1) : (nodesF l).1 ≤ 0 ∧ 0 ≤ n ∧ n ≤ l.length ∧ preferF l n = (0, -1) := by
  unfold preferF at h ⊢
  by_cases h1 : 0 < (nodesF l).1
  · rw [if_pos h1] at h; exact absurd h1 h
  rw [if_neg h1] at h ⊢
  by_cases h2 : (l.length : Int) < n
  · rw [if_pos h2] at h; exact absurd (by decide) h
  rw [if_neg h2] at h ⊢
  by_cases h3 : n < 0
  · rw [if_pos h3] at h; exact absurd (by decide) h
  rw [if_neg h3] at h ⊢
  exact ⟨by omega, by omega, by omega, (nodesF_zero (by omega)).1⟩
/-- Too long to be asked. -/
def longL (l : List ByteArray) : Bool := decide (40 < l.length) || l.any fun x => decide (100 < x.size)
theorem longL_fine {l : List ByteArray} (h : longL l = false) : l.length ≤ 40 ∧ ∀ x ∈ l, x.size ≤ 100 := by
  unfold longL at h
  rw [Bool.or_eq_false_iff] at h
  refine ⟨by have := of_decide_eq_false h.1; omega, fun x hx => ?_⟩
  have := List.any_eq_false.1 h.2 x hx
  have h2 : ¬ 100 < x.size := fun h3 => this (decide_eq_true h3)
  omega
theorem scanF_of {l : List ByteArray} : ∀ (m i : Nat), (∀ j, i ≤ j → j < i + m → faultAt l j = 0) → scanF l i m = (0, -1)
  | 0, _, _ => rfl
  | m + 1, i, h => by
    show (if faultAt l i = 0 then scanF l (i + 1) m else (((faultAt l i : Nat) : Int), (i : Int))) = (0, -1)
    rw [if_pos (h i (Nat.le_refl _) (by omega))]
    exact scanF_of m (i + 1) (fun j h1 h2 => h j (by omega) (by omega))
/-- Names, each once, from 1 to 16: no fault. -/
theorem nodesF_of {l : List ByteArray} (h1 : 1 ≤ l.length) (h2 : l.length ≤ 16) (h3 : ∀ x ∈ l, isN x = true) (h4 : l.Nodup) : nodesF l = (0, -1) := by
  rw [nodesF_scan (by omega) (by omega)]
  refine scanF_of _ _ fun j _ hj => faultAt_fine (h3 _ (txt_mem (by omega))) fun hm => ?_
  obtain ⟨i, hi, e⟩ := List.mem_take_iff_getElem.1 hm
  have hjl : j < l.length := by omega
  rw [txt_getElem l j hjl] at e
  have := (List.nodup_iff_pairwise_ne.1 h4)
  rw [List.pairwise_iff_getElem] at this
  exact this i j (by omega) hjl (by omega) e
theorem preferF_of {l : List ByteArray} {n : Int} (h : nodesF l = (0, -1)) (h1 : 0 ≤ n) (h2 : n ≤ l.length) : preferF l n = (0, -1) := by
  unfold preferF
  rw [h, if_neg (by decide), if_neg (by omega), if_neg (by omega)]
/-- In the world w the bytes l lie from p on. -/
structure Seg (w : World) (p : Option Addr) (l : List Nat) : Prop where
  lt : Gf.Bytes l
  cells : l = [] ∨ ∃ b o, p = some ⟨b, o, none⟩ ∧ b < w.heap.size ∧ ∀ i, i < l.length → w.cell? ⟨b, o + i, none⟩ = some (.int .u8 ((Gf.nth l i : Nat) : Int))
theorem Seg.drewN {w : World} {p : Option Addr} {l : List Nat} (h : Seg w p l) (n : Nat) : Seg (w.drewN n) p l := ⟨h.lt, h.cells⟩
theorem Seg.below {w w' : World} {p : Option Addr} {l : List Nat} (h : Seg w p l) (hb : Below w.heap.size w w') : Seg w' p l := by
  refine ⟨h.lt, ?_⟩
  rcases h.cells with h | ⟨b, o, hp, hlt, hc⟩
  · exact Or.inl h
  · exact Or.inr ⟨b, o, hp, Nat.lt_of_lt_of_le hlt hb.size, fun i hi => (hb.cell (p := ⟨b, o + i, none⟩) hlt).trans (hc i hi)⟩
section
def byteV (n : Nat) : Value := .int .u8 (n : Int)
/-- v owns the bytes l in a row from block B on. -/
def Own (w : World) (B : Nat) (e : TypeId) (v : Value) (l : List Nat) : Prop := w.ownsRow B e 1 v l.length (l.map byteV)
theorem Own.nil (w : World) (B : Nat) (e : TypeId) : Own w B e (.slice none 0 0) [] := World.ownsRow_nil w B e 1
theorem Own.kept {w w' : World} {B : Nat} {e : TypeId} {v : Value} {l : List Nat} {row : Option Nat} (h : Own w B e v l) (hg : w.grownBy w' row) (hne : v.ownBlock = none ∨ v.ownBlock ≠ row) : Own w' B e v l := World.ownsRow.kept h hg hne
theorem Own.block {w : World} {B : Nat} {e : TypeId} {v : Value} {l : List Nat} (h : Own w B e v l) {k : Nat} (hk : v.ownBlock = some k) : B ≤ k ∧ k < w.heap.size := World.ownsRow.lt h k hk
theorem grownBy_drewN (w : World) (n : Nat) (row : Option Nat) : w.grownBy (w.drewN n) row := ⟨rfl, rfl, rfl, Nat.le_refl _, fun _ _ _ => rfl⟩
theorem Own.seg {w : World} {B : Nat} {e : TypeId} {v : Value} {l : List Nat} (h : Own w B e v l) (hl : Gf.Bytes l) : ∃ p cap, v = .slice p l.length cap ∧ Seg w p l := by
  rcases h.2 with ⟨rfl, h0⟩ | ⟨g, cap, cur, rfl, hb, hg, hnc, hcm, hcs, htake⟩
  · have : l = [] := List.length_eq_zero_iff.1 h0
    subst this
    exact ⟨none, 0, rfl, hl, Or.inl rfl⟩
  · refine ⟨some ⟨g, 0, none⟩, cap, rfl, hl, Or.inr ⟨g, 0, rfl, (Array.getElem?_eq_some_iff.1 hg).1, fun i hi => ?_⟩⟩
    have hc := World.ownsRow.cells (g := g) h rfl i (byteV (Gf.nth l i)) (by rw [List.getElem?_map, List.getElem?_eq_getElem hi, Gf.nth_getElem l i hi]; rfl)
    rw [Addr.add_lit] at hc
    exact hc
section
variable {P : Program} {w : World}
theorem append_where (B : Nat) (t ty e : TypeId) (i : TypeInfo) (z : Value) (ht : P.underlying t = some (.slice e)) (hi : P.info? e = some i) (hz : i.zero = some z) (hsize : i.size = 1) (hby : i.bytes = 1)
    (v : Value) (l : List Nat) (hown : Own w B e v l) (ad : Addr) (c b : Nat) (hb : w.cell? ad = some (byteV b)) (hl : l.length + 1 ≤ 1000000) {v' : Value} {w' : World}
    (hr : (Builtin.append_ #[t, t] ty #[v, .slice (some ad) 1 c]).run P w = .ok v' w') : v'.ownBlock = v.ownBlock ∨ v'.ownBlock = some w.heap.size := by
  have hnews : ∀ j u, [byteV b][j]? = some u → w.cell? (ad.add j) = some u := by
    intro j u hj
    match j, hj with
    | 0, hj =>
      obtain rfl : byteV b = u := by simpa using hj
      simpa [Addr.add] using hb
  rcases hown.2 with ⟨rfl, h0⟩ | ⟨g, cap, cur, rfl, hbg, hg, hnc, hcm, hcs, htake⟩
  · have := run_append_nil (P := P) w t ty e i z ht hi hz ad 1 c [byteV b] (by rw [hsize]; rfl) hnews (by decide) (by decide) (by rw [hby]; decide)
    rw [this] at hr
    injection hr with h1 h2
    subst h1
    exact Or.inr rfl
  · by_cases hroom : l.length + 1 ≤ cap
    · have := run_append_room (P := P) w t ty e i ht hi g l.length cap cur hg ad 1 c [byteV b] (by rw [hsize]; rfl) hnews (fun u hu => by rw [List.mem_singleton.1 hu]; rfl) hroom (by rw [hsize, hcs]; simpa using hroom)
      rw [this] at hr
      injection hr with h1 h2
      subst h1
      exact Or.inl rfl
    · have := run_append_grow (P := P) w t ty e i z ht hi hz ⟨g, 0, none⟩ l.length cap (l.map byteV) (by rw [hsize]; exact hown.1) (World.ownsRow.cells (g := g) hown rfl) ad 1 c [byteV b] (by rw [hsize]; rfl) hnews (by omega) (by omega) (growslice_fits (by omega) (by rw [hby]; omega))
      rw [this] at hr
      injection hr with h1 h2
      subst h1
      exact Or.inr rfl
theorem wp_append_byte {o : Oper} {a : Act} {K : Act → World → Prop} {Q : Exit → Act → World → Prop} (s x : Operand) (t : TypeId)
    (ho : o.op = .call { callee := .builtin .append, args := #[s, x], argTypes := #[t, t] })
    (B : Nat) (e : TypeId) (i : TypeInfo) (ht : P.underlying t = some (.slice e)) (hi : P.info? e = some i) (hz : i.zero = some (byteV 0)) (hsize : i.size = 1) (hby : i.bytes = 1)
    (v : Value) (l : List Nat) (hs : a.eval s = v) (hown : Own w B e v l) (ad : Addr) (c b : Nat) (hx : a.eval x = .slice (some ad) 1 c) (hb : w.cell? ad = some (byteV b)) (hl : l.length + 1 ≤ 1000000) (hbase : B ≤ w.heap.size)
    (h : ∀ v' w', Own w' B e v' (l ++ [b]) → w.grownBy w' v.ownBlock → (v'.ownBlock = v.ownBlock ∨ v'.ownBlock = some w.heap.size) → K (a.put o.dst v') w') : o.wp P a w K Q := by
  have hnews : ∀ j u, [byteV b][j]? = some u → w.cell? (ad.add j) = some u := by
    intro j u hj
    match j, hj with
    | 0, hj =>
      obtain rfl : byteV b = u := by simpa using hj
      simpa [Addr.add] using hb
  obtain ⟨v', w', hr, h2, h3, _⟩ := run_append_own (P := P) w B t o.type e i (byteV 0) 1 1 ht hi hz hsize hby rfl (by decide) v l.length (l.map byteV) hown ad 1 c [byteV b] rfl hnews (fun u hu => by rw [List.mem_singleton.1 hu]; rfl) (by unfold maxLen; omega) (by omega) hbase
  have h4 := append_where B t o.type e i (byteV 0) ht hi hz hsize hby v l hown ad c b hb hl hr
  have h5 : Own w' B e v' (l ++ [b]) := by
    unfold Own
    rw [List.length_append, List.map_append]
    exact h2
  unfold Oper.wp execOp
  simp only [ho, resolve, invoke, builtin, Sem.run_bind, Sem.run_pure, Result.andThen_ok, List.map_toArray, List.map_cons, List.map_nil, hs, hx, hr]
  exact h v' w' h5 h3 h4
theorem wpList_append_byte {ops : Array Oper} {rest : List Oper} {o : Oper} {a : Act} {Q : Exit → Act → World → Prop} (hgd : o.guard = none) (s x : Operand) (t : TypeId)
    (ho : o.op = .call { callee := .builtin .append, args := #[s, x], argTypes := #[t, t] })
    (B : Nat) (e : TypeId) (i : TypeInfo) (ht : P.underlying t = some (.slice e)) (hi : P.info? e = some i) (hz : i.zero = some (byteV 0)) (hsize : i.size = 1) (hby : i.bytes = 1)
    (v : Value) (l : List Nat) (hs : a.eval s = v) (hown : Own w B e v l) (ad : Addr) (c b : Nat) (hx : a.eval x = .slice (some ad) 1 c) (hb : w.cell? ad = some (byteV b)) (hl : l.length + 1 ≤ 1000000) (hbase : B ≤ w.heap.size)
    (h : ∀ v' w', Own w' B e v' (l ++ [b]) → w.grownBy w' v.ownBlock → (v'.ownBlock = v.ownBlock ∨ v'.ownBlock = some w.heap.size) → wpList P ops Q rest (a.put o.dst v') w') : wpList P ops Q (o :: rest) a w :=
  wpList_plain hgd fun _ hK => wp_append_byte s x t ho B e i ht hi hz hsize hby v l hs hown ad c b hx hb hl hbase fun v' w' h2 h3 h4 => hK _ _ (h v' w' h2 h3 h4)
end
end
section
/-- v owns the values vs in a row from block B on. -/
def OwnV (w : World) (B : Nat) (e : TypeId) (v : Value) (vs : List Value) : Prop := w.ownsRow B e 1 v vs.length vs
theorem OwnV.nil (w : World) (B : Nat) (e : TypeId) : OwnV w B e (.slice none 0 0) [] := World.ownsRow_nil w B e 1
theorem OwnV.kept {w w' : World} {B : Nat} {e : TypeId} {v : Value} {l : List Value} {row : Option Nat} (h : OwnV w B e v l) (hg : w.grownBy w' row) (hne : v.ownBlock = none ∨ v.ownBlock ≠ row) : OwnV w' B e v l := World.ownsRow.kept h hg hne
theorem OwnV.block {w : World} {B : Nat} {e : TypeId} {v : Value} {l : List Value} (h : OwnV w B e v l) {k : Nat} (hk : v.ownBlock = some k) : B ≤ k ∧ k < w.heap.size := World.ownsRow.lt h k hk
theorem OwnV.cells {w : World} {B : Nat} {e : TypeId} {v : Value} {l : List Value} (h : OwnV w B e v l) : v = .slice none 0 0 ∧ l = [] ∨ ∃ g cap, v = .slice (some ⟨g, 0, none⟩) l.length cap ∧ B ≤ g ∧ g < w.heap.size ∧ ∀ i u, l[i]? = some u → w.cell? ⟨g, i, none⟩ = some u := by
  rcases h.2 with ⟨rfl, h0⟩ | ⟨g, cap, cur, rfl, hb, hg, hnc, hcm, hcs, htake⟩
  · exact Or.inl ⟨rfl, List.length_eq_zero_iff.1 h0⟩
  · refine Or.inr ⟨g, cap, rfl, hb, (Array.getElem?_eq_some_iff.1 hg).1, fun i u hu => ?_⟩
    have hc := World.ownsRow.cells (g := g) h rfl i u hu
    rw [Addr.add_lit, Nat.zero_add] at hc
    exact hc
section
variable {P : Program} {w : World}
theorem append_where_val (B : Nat) (t ty e : TypeId) (i : TypeInfo) (z : Value) (bytes : Nat) (ht : P.underlying t = some (.slice e)) (hi : P.info? e = some i) (hz : i.zero = some z) (hsize : i.size = 1) (hby : i.bytes = bytes) (h24 : bytes ≤ 64)
    (v : Value) (l : List Value) (hown : OwnV w B e v l) (ad : Addr) (c : Nat) (u : Value) (hu : u.oneCell' = true) (hb : w.cell? ad = some u) (hl : l.length + 1 ≤ 1000000) {v' : Value} {w' : World}
    (hr : (Builtin.append_ #[t, t] ty #[v, .slice (some ad) 1 c]).run P w = .ok v' w') : v'.ownBlock = v.ownBlock ∨ v'.ownBlock = some w.heap.size := by
  have hnews : ∀ j x, [u][j]? = some x → w.cell? (ad.add j) = some x := by
    intro j x hj
    match j, hj with
    | 0, hj =>
      obtain rfl : u = x := by simpa using hj
      simpa [Addr.add] using hb
  rcases hown.2 with ⟨rfl, h0⟩ | ⟨g, cap, cur, rfl, hbg, hg, hnc, hcm, hcs, htake⟩
  · have := run_append_nil (P := P) w t ty e i z ht hi hz ad 1 c [u] (by rw [hsize]; rfl) hnews (by decide) (by decide) (by rw [hby]; omega)
    rw [this] at hr
    injection hr with h1 h2
    subst h1
    exact Or.inr rfl
  · by_cases hroom : l.length + 1 ≤ cap
    · have := run_append_room (P := P) w t ty e i ht hi g l.length cap cur hg ad 1 c [u] (by rw [hsize]; rfl) hnews (fun x hx => by rw [List.mem_singleton.1 hx]; exact hu) hroom (by rw [hsize, hcs]; simpa using hroom)
      rw [this] at hr
      injection hr with h1 h2
      subst h1
      exact Or.inl rfl
    · have hbd : (l.length + 1) * bytes ≤ 1000000 * 64 := Nat.mul_le_mul hl h24
      have := run_append_grow (P := P) w t ty e i z ht hi hz ⟨g, 0, none⟩ l.length cap l (by rw [hsize]; exact hown.1) (World.ownsRow.cells (g := g) hown rfl) ad 1 c [u] (by rw [hsize]; rfl) hnews (by omega) (by omega) (growslice_fits (by omega) (by rw [hby]; omega))
      rw [this] at hr
      injection hr with h1 h2
      subst h1
      exact Or.inr rfl
theorem wpList_append_val {ops : Array Oper} {rest : List Oper} {o : Oper} {a : Act} {Q : Exit → Act → World → Prop} (hgd : o.guard = none) (s x : Operand) (t : TypeId)
    (ho : o.op = .call { callee := .builtin .append, args := #[s, x], argTypes := #[t, t] })
    (B : Nat) (e : TypeId) (i : TypeInfo) (z : Value) (bytes : Nat) (ht : P.underlying t = some (.slice e)) (hi : P.info? e = some i) (hz : i.zero = some z) (hzs : z.cells.size = 1) (hsize : i.size = 1) (hby : i.bytes = bytes) (h24 : bytes ≤ 64)
    (v : Value) (l : List Value) (hs : a.eval s = v) (hown : OwnV w B e v l) (ad : Addr) (c : Nat) (u : Value) (hu : u.oneCell' = true) (hx : a.eval x = .slice (some ad) 1 c) (hb : w.cell? ad = some u) (hl : l.length + 1 ≤ 1000000) (hbase : B ≤ w.heap.size)
    (h : ∀ v' w', OwnV w' B e v' (l ++ [u]) → w.grownBy w' v.ownBlock → (v'.ownBlock = v.ownBlock ∨ v'.ownBlock = some w.heap.size) → wpList P ops Q rest (a.put o.dst v') w') : wpList P ops Q (o :: rest) a w := by
  have hnews : ∀ j x, [u][j]? = some x → w.cell? (ad.add j) = some x := by
    intro j x hj
    match j, hj with
    | 0, hj =>
      obtain rfl : u = x := by simpa using hj
      simpa [Addr.add] using hb
  have hbd : (l.length + 1) * bytes ≤ 1000000 * 64 := Nat.mul_le_mul hl h24
  refine wpList_plain hgd fun K hK => ?_
  obtain ⟨v', w', hr, h2, h3, _⟩ := run_append_own (P := P) w B t o.type e i z 1 bytes ht hi hz hsize hby hzs (by decide) v l.length l hown ad 1 c [u] rfl hnews (fun x hx => by rw [List.mem_singleton.1 hx]; exact hu) (by unfold maxLen; omega) (by omega) hbase
  have h4 := append_where_val B t o.type e i z bytes ht hi hz hsize hby h24 v l hown ad c u hu hb hl hr
  have h5 : OwnV w' B e v' (l ++ [u]) := by
    unfold OwnV
    rw [List.length_append]
    exact h2
  unfold Oper.wp execOp
  simp only [ho, resolve, invoke, builtin, Sem.run_bind, Sem.run_pure, Result.andThen_ok, List.map_toArray, List.map_cons, List.map_nil, hs, hx, hr]
  exact hK _ _ (h v' w' h5 h3 h4)
/-- A row copied behind nil: nil again, or a new row. -/
theorem wpList_copy_row {ops : Array Oper} {rest : List Oper} {o : Oper} {a : Act} {Q : Exit → Act → World → Prop} (hgd : o.guard = none) (s x : Operand) (t : TypeId)
    (ho : o.op = .call { callee := .builtin .append, args := #[s, x], argTypes := #[t, t] })
    (e : TypeId) (i : TypeInfo) (ht : P.underlying t = some (.slice e)) (hi : P.info? e = some i) (hz : i.zero = some (byteV 0)) (hsize : i.size = 1) (hby : i.bytes = 1)
    (hs : a.eval s = .slice none 0 0) (q : Option Addr) (r : List Nat) (c : Nat) (hx : a.eval x = .slice q r.length c) (hq : Seg w q r) (hl : r.length ≤ 1000000) (hc0 : q = none → c = 0)
    (h : ∀ v' w', Own w' w.heap.size e v' r → Below w.heap.size w w' → wpList P ops Q rest (a.put o.dst v') w') : wpList P ops Q (o :: rest) a w := by
  rcases hq.cells with hr | ⟨b, o', rfl, hb, hcell⟩
  · subst hr
    refine wpList_plain hgd fun K hK => ?_
    have hr : (Builtin.append_ #[t, t] o.type #[.slice none 0 0, .slice q 0 c]).run P w = .ok (.slice none 0 0) w := by
      cases q with
      | none => obtain rfl := hc0 rfl; simp [Builtin.append_, run_underlying ht, sizeOf, typeInfo, hi, Builtin.lenOf, Builtin.firstCells]
      | some ad => simp [Builtin.append_, run_underlying ht, sizeOf, typeInfo, hi, Builtin.lenOf, Builtin.firstCells, loadCells, loadCellsFrom]
    unfold Oper.wp execOp
    simp only [List.length_nil] at hx
    simp only [ho, resolve, invoke, builtin, Sem.run_bind, Sem.run_pure, Result.andThen_ok, List.map_toArray, List.map_cons, List.map_nil, hs, hx, hr]
    exact hK _ _ (h _ _ (Own.nil w _ e) (Below.refl _ _))
  · refine wpList_append_own w hgd s x t ho w.heap.size e i (byteV 0) 1 1 ht hi hz hsize hby rfl (by decide) (.slice none 0 0) 0 [] hs (World.ownsRow_nil w _ e 1) ⟨b, o', none⟩ r.length c (r.map byteV) hx (by simp) ?_ ?_ (by unfold maxLen; omega) (by omega) (Nat.le_refl _) ?_
    · intro j u hj
      rw [List.getElem?_map] at hj
      obtain ⟨y, hy1, hy2⟩ := Option.map_eq_some_iff.1 hj
      have hjl : j < r.length := (List.getElem?_eq_some_iff.1 hy1).1
      rw [Addr.add_lit, hcell j hjl, Gf.nth_getElem r j hjl, ← hy2]
      have : r[j] = y := (List.getElem?_eq_some_iff.1 hy1).2
      rw [this]
      rfl
    · intro u hu
      obtain ⟨y, _, rfl⟩ := List.mem_map.1 hu
      rfl
    · intro v' w' hown hg _
      refine h v' w' ?_ ((Below.refl _ _).grown hg (Nat.le_refl _) (fun k hk => by simp [Value.ownBlock] at hk))
      simpa [Own] using hown
end
end
section
/-- v owns the texts l in a row from block B on. -/
def OwnT (w : World) (B : Nat) (v : Value) (l : List ByteArray) : Prop := OwnV w B 9 v (l.map Value.string)
theorem OwnT.nil (w : World) (B : Nat) : OwnT w B (.slice none 0 0) [] := OwnV.nil w B _
theorem OwnT.block {w : World} {B : Nat} {v : Value} {l : List ByteArray} (h : OwnT w B v l) {k : Nat} (hk : v.ownBlock = some k) : B ≤ k ∧ k < w.heap.size := OwnV.block h hk
theorem OwnT.form {w : World} {B : Nat} {v : Value} {l : List ByteArray} (h : OwnT w B v l) : ∃ p c, v = .slice p l.length c ∧ Strs w p l ∧ l.length ≤ c ∧ (p = none → c = 0) ∧ ∀ b o, p = some ⟨b, o, none⟩ → B ≤ b ∧ b < w.heap.size := by
  have hcell := OwnV.cells h
  have h0 : w.ownsRow B 9 1 v (l.map Value.string).length (l.map Value.string) := h
  rcases h0.2 with ⟨rfl, hz⟩ | ⟨g, cap, cur, rfl, hb, hg, hnc, hcm, hcs, htake⟩
  · have e : l = [] := by simpa using hz
    subst e
    exact ⟨none, 0, rfl, Or.inl rfl, Nat.le_refl _, fun _ => rfl, fun _ _ h => by cases h⟩
  · rw [List.length_map] at hnc ⊢
    have hlt : g < w.heap.size := (Array.getElem?_eq_some_iff.1 hg).1
    refine ⟨some ⟨g, 0, none⟩, cap, rfl, Or.inr ⟨g, 0, rfl, hlt, fun i hi => ?_⟩, hnc, fun h => (by cases h), fun b o h => ?_⟩
    · rcases hcell with ⟨h1, _⟩ | ⟨g', cap', hv, _, _, hc⟩
      · cases h1
      · have hgg : g = g' := by
          have := congrArg Value.ownBlock hv
          simpa [Value.ownBlock] using this
        subst hgg
        rw [Nat.zero_add, hc i (.string (txt l i)) (by rw [List.getElem?_map, List.getElem?_eq_getElem hi, txt_getElem l i hi]; rfl)]
    · obtain ⟨rfl, rfl⟩ : g = b ∧ 0 = o := by simpa using h
      exact ⟨hb, hlt⟩
theorem OwnT.base {w : World} {B B' : Nat} {v : Value} {l : List ByteArray} (h : OwnT w B v l) (hb : B' ≤ B) : OwnT w B' v l := by
  obtain ⟨h1, h2⟩ := h
  refine ⟨h1, ?_⟩
  rcases h2 with h2 | ⟨g, cap, cur, hv, hbg, hrest⟩
  · exact Or.inl h2
  · exact Or.inr ⟨g, cap, cur, hv, Nat.le_trans hb hbg, hrest⟩
theorem OwnT.kept {w w' : World} {B : Nat} {v : Value} {l : List ByteArray} (h : OwnT w B v l) (hb : Below w.heap.size w w') : OwnT w' B v l :=
  OwnV.kept (row := none) h ⟨hb.os, hb.tape, hb.output, hb.size, fun k hk _ => hb.block k hk⟩ (by cases v.ownBlock <;> simp)
section
variable {w : World}
theorem wpList_append_strs {ops : Array Oper} {rest : List Oper} {o : Oper} {a : Act} {Q : Exit → Act → World → Prop} (hgd : o.guard = none) (s x : Operand)
    (ho : o.op = .call { callee := .builtin .append, args := #[s, x], argTypes := #[22, 22] })
    (B : Nat) (v : Value) (l : List ByteArray) (hs : a.eval s = v) (hown : OwnT w B v l) (q : Option Addr) (r : List ByteArray) (c : Nat) (hx : a.eval x = .slice q r.length c) (hq : Strs w q r) (hc0 : q = none → r = [] ∧ c = 0) (hl : l.length + r.length ≤ 8796093022208) (hbase : B ≤ w.heap.size)
    (h : ∀ v' w', OwnT w' B v' (l ++ r) → Below B w w' → wpList Tryd.prog ops Q rest (a.put o.dst v') w') : wpList Tryd.prog ops Q (o :: rest) a w := by
  obtain ⟨i0, hi0, hz0, hz1, hzb⟩ := info_parts (P := Tryd.prog) (e := 9) (z := .string ⟨#[]⟩) (size := 1) (bytes := 16) (by kernel_rfl)
  have hfin : ∀ v' w', w'.ownsRow B 9 1 v' ((l.map Value.string).length + r.length) (l.map Value.string ++ r.map Value.string) → w.grownBy w' v.ownBlock → wpList Tryd.prog ops Q rest (a.put o.dst v') w' := fun v' w' h1 h2 => by
    refine h v' w' ?_ ((Below.refl _ _).grown h2 hbase (fun k hk => (hown.block hk).1))
    unfold OwnT OwnV
    have e : (l.map Value.string ++ r.map Value.string).length = (l.map Value.string).length + r.length := by simp
    rw [List.map_append, e]
    exact h1
  cases q with
  | none =>
    obtain ⟨hr, hc⟩ := hc0 rfl
    subst hr hc
    refine wpList_append_own_none hgd s x _ ho B 9 i0 1 Tryd.underlying22 hi0 v (l.map Value.string).length (l.map Value.string) hs hown hx ?_
    have := h v w (by rw [List.append_nil]; exact hown) (Below.refl _ _)
    exact this
  | some ad =>
    refine wpList_append_own w hgd s x _ ho B 9 i0 (.string ⟨#[]⟩) 1 16 Tryd.underlying22 hi0 hz0 hz1 hzb rfl (by decide) v (l.map Value.string).length (l.map Value.string) hs hown ad r.length c (r.map Value.string) hx (by simp) ?_ ?_ (by rw [List.length_map]; unfold maxLen; omega) (by rw [List.length_map]; omega) hbase (fun v' w' h1 h2 _ => hfin v' w' h1 h2)
    · intro j u hj
      rw [List.getElem?_map] at hj
      obtain ⟨y, hy1, hy2⟩ := Option.map_eq_some_iff.1 hj
      have hjl : j < r.length := (List.getElem?_eq_some_iff.1 hy1).1
      rcases hq with h0 | ⟨b, o', hp, _, hcell⟩
      · rw [h0] at hjl; exact absurd hjl (Nat.not_lt_zero _)
      · obtain rfl : ad = ⟨b, o', none⟩ := by simpa using hp
        rw [Addr.add_lit, hcell j hjl, txt_getElem r j hjl, ← hy2, (List.getElem?_eq_some_iff.1 hy1).2]
    · intro u hu
      obtain ⟨y, _, rfl⟩ := List.mem_map.1 hu
      rfl
/-- One text more, out of a row of one. -/
theorem wpList_append_str {ops : Array Oper} {rest : List Oper} {o : Oper} {a : Act} {Q : Exit → Act → World → Prop} (hgd : o.guard = none) (s x : Operand)
    (ho : o.op = .call { callee := .builtin .append, args := #[s, x], argTypes := #[22, 22] })
    (B : Nat) (v : Value) (l : List ByteArray) (hs : a.eval s = v) (hown : OwnT w B v l) (ad : Addr) (t : ByteArray) (c : Nat) (hx : a.eval x = .slice (some ad) 1 c) (hq : w.cell? ad = some (.string t)) (hl : l.length + 1 ≤ 1000000) (hbase : B ≤ w.heap.size)
    (h : ∀ v' w', OwnT w' B v' (l ++ [t]) → Below B w w' → wpList Tryd.prog ops Q rest (a.put o.dst v') w') : wpList Tryd.prog ops Q (o :: rest) a w := by
  obtain ⟨i0, hi0, hz0, hz1, hzb⟩ := info_parts (P := Tryd.prog) (e := 9) (z := .string ⟨#[]⟩) (size := 1) (bytes := 16) (by kernel_rfl)
  refine wpList_append_val hgd s x _ ho B 9 i0 (.string ⟨#[]⟩) 16 Tryd.underlying22 hi0 hz0 rfl hz1 hzb (by decide) v (l.map Value.string) hs hown ad c (.string t) rfl hx hq (by rw [List.length_map]; exact hl) hbase fun v' w' h1 h2 _ => h v' w' ?_ ((Below.refl _ _).grown h2 hbase (fun k hk => (hown.block hk).1))
  unfold OwnT
  rw [List.map_append]
  exact h1
end
end
end Go.Proofs.YtpjeibicopgedaaDoor
