/- Texts laid together. -/
import Derived.Test.YtmbpfbhpmafheaaGreatDoorHa5
import Derived.Lib.AtoiAll
import Derived.Lib.ItoaNum
import Derived.Lib.IndexMore
import Derived.Shelf.SlLaysE0
import Derived.Shelf.SortM.Plain
import Derived.Shelf.SortM.SortNone
import Derived.Shelf.SlicesE.Clone
namespace Go.Proofs
open Go.Shelf
def Tryz.laysSort_ren : Go.Shelf.Ren := ⟨fun | 6 => 59 | 8 => 87 | 9 => 86 | 19 => 107 | 20 => 108 | 21 => 98 | 22 => 99 | 23 => 100 | 24 => 101 | 25 => 102 | 26 => 103 | 27 => 104 | 28 => 105 | 29 => 106 | 36 => 121 | 31 => 122 | 32 => 123 | 37 => 124 | 38 => 125 | 39 => 126 | 41 => 137 | n => n, fun | 27 => 77 | 29 => 9 | 3 => 3 | 32 => 54 | 26 => 77 | 0 => 0 | 44 => 99 | 46 => 171 | 4 => 4 | 36 => 163 | 35 => 162 | 41 => 80 | 5 => 5 | 9 => 9 | 53 => 185 | 57 => 189 | 63 => 201 | 64 => 66 | n => n, fun | n => n⟩
theorem Tryz.laysSort : Go.Proofs.SlLaysM.n6 Tryz.prog Tryz.laysSort_ren := {
  mixed := by kernel_rfl
  f6 := ⟨Tryz.f59.name, by decide, Tryz.func59.trans (congrArg some (by kernel_rfl))⟩
  f8 := Tryz.func87.trans (congrArg some (by kernel_rfl))
  f9 := ⟨Tryz.f86.name, by decide, Tryz.func86.trans (congrArg some (by kernel_rfl))⟩
  f19 := Tryz.func107.trans (congrArg some (by kernel_rfl))
  f20 := Tryz.func108.trans (congrArg some (by kernel_rfl))
  f21 := ⟨Tryz.f98.name, by decide, Tryz.func98.trans (congrArg some (by kernel_rfl))⟩
  f22 := ⟨Tryz.f99.name, by decide, Tryz.func99.trans (congrArg some (by kernel_rfl))⟩
  f23 := ⟨Tryz.f100.name, by decide, Tryz.func100.trans (congrArg some (by kernel_rfl))⟩
  f24 := ⟨Tryz.f101.name, by decide, Tryz.func101.trans (congrArg some (by kernel_rfl))⟩
  f25 := ⟨Tryz.f102.name, by decide, Tryz.func102.trans (congrArg some (by kernel_rfl))⟩
  f26 := ⟨Tryz.f103.name, by decide, Tryz.func103.trans (congrArg some (by kernel_rfl))⟩
  f27 := ⟨Tryz.f104.name, by decide, Tryz.func104.trans (congrArg some (by kernel_rfl))⟩
  f28 := ⟨Tryz.f105.name, by decide, Tryz.func105.trans (congrArg some (by kernel_rfl))⟩
  f29 := ⟨Tryz.f106.name, by decide, Tryz.func106.trans (congrArg some (by kernel_rfl))⟩
  f31 := Tryz.func122.trans (congrArg some (by kernel_rfl))
  f32 := Tryz.func123.trans (congrArg some (by kernel_rfl))
  f36 := ⟨Tryz.f121.name, by decide, Tryz.func121.trans (congrArg some (by kernel_rfl))⟩
  f37 := ⟨Tryz.f124.name, by decide, Tryz.func124.trans (congrArg some (by kernel_rfl))⟩
  f38 := ⟨Tryz.f125.name, by decide, Tryz.func125.trans (congrArg some (by kernel_rfl))⟩
  f39 := ⟨Tryz.f126.name, by decide, Tryz.func126.trans (congrArg some (by kernel_rfl))⟩
  f41 := ⟨Tryz.f137.name, by decide, Tryz.func137.trans (congrArg some (by kernel_rfl))⟩
  t0 := Tryz.underlying0
  a0 := Tryz.isAgg0
  z0 := Tryz.sizeOf0
  v0 := Tryz.zeroValue0
  t3 := Tryz.underlying3
  a3 := Tryz.isAgg3
  z3 := Tryz.sizeOf3
  v3 := Tryz.zeroValue3
  t4 := Tryz.underlying4
  a4 := Tryz.isAgg4
  z4 := Tryz.sizeOf4
  v4 := Tryz.zeroValue4
  t5 := Tryz.underlying5
  a5 := Tryz.isAgg5
  z5 := Tryz.sizeOf5
  v5 := Tryz.zeroValue5
  t9 := Tryz.underlying9
  a9 := Tryz.isAgg9
  z9 := Tryz.sizeOf9
  v9 := Tryz.zeroValue9
  t26 := Tryz.underlying77
  a26 := Tryz.isAgg77
  z26 := Tryz.sizeOf77
  v26 := Tryz.zeroValue77
  t27 := Tryz.underlying77
  a27 := Tryz.isAgg77
  z27 := Tryz.sizeOf77
  v27 := Tryz.zeroValue77
  t29 := Tryz.underlying9
  a29 := Tryz.isAgg9
  z29 := Tryz.sizeOf9
  v29 := Tryz.zeroValue9
  t32 := Tryz.underlying54
  a32 := Tryz.isAgg54
  z32 := Tryz.sizeOf54
  v32 := Tryz.zeroValue54
  t35 := Tryz.underlying162
  a35 := Tryz.isAgg162
  z35 := Tryz.sizeOf162
  v35 := Tryz.zeroValue162
  t36 := Tryz.underlying163
  a36 := Tryz.isAgg163
  z36 := Tryz.sizeOf163
  v36 := Tryz.zeroValue163
  t41 := Tryz.underlying80
  a41 := Tryz.isAgg80
  z41 := Tryz.sizeOf80
  v41 := Tryz.zeroValue80
  t44 := Tryz.underlying99
  a44 := Tryz.isAgg99
  z44 := Tryz.sizeOf99
  v44 := Tryz.zeroValue99
  t46 := Tryz.underlying171
  a46 := Tryz.isAgg171
  z46 := Tryz.sizeOf171
  v46 := Tryz.zeroValue171
  t53 := Tryz.underlying185
  a53 := Tryz.isAgg185
  z53 := Tryz.sizeOf185
  v53 := Tryz.zeroValue185
  t57 := Tryz.underlying189
  a57 := Tryz.isAgg189
  z57 := Tryz.sizeOf189
  v57 := Tryz.zeroValue189
  t63 := Tryz.underlying201
  a63 := Tryz.isAgg201
  z63 := Tryz.sizeOf201
  v63 := Tryz.zeroValue201
  t64 := Tryz.underlying66
  a64 := Tryz.isAgg66
  z64 := Tryz.sizeOf66
  v64 := Tryz.zeroValue66 }
open Go.RowKit Go.Sort in
/-- slices.Sort at texts. -/
theorem Tryz.slices_Sort (blk off cap : Nat) (ss : List (List UInt8)) (w : World) (hH : Holds encStr w blk off ss.toArray) (hblk : blk < w.heap.size) (hsz : ss.length < 4611686018427387904) :
    Calls Tryz.prog 59 #[.slice (some ⟨blk, off, none⟩) ss.length cap] w fun e w' =>
      e = .returned (.tuple #[]) ∧ ∃ n os, w' = grow (putRow encStr (Sort.ahead w n) blk off (ss.mergeSort fun x y => decide (x ≤ y)).toArray) os := AnyM.slices_Sort_string Tryz.laysSort blk off cap ss w hH hblk hsz
open Go.RowKit Go.Sort in
/-- slices.Sort of none. -/
theorem Tryz.slices_Sort_none (p : Option Addr) (cap : Nat) (w : World) :
    Calls Tryz.prog 59 #[.slice p 0 cap] w fun e w' => e = .returned (.tuple #[]) ∧ w' = w := AnyM.slices_Sort_string_none Tryz.laysSort p cap w
def Tryz.laysClone_ren : Go.Shelf.Ren := ⟨fun | 41 => 58 | n => n, fun | 22 => 57 | 23 => 49 | 4 => 4 | n => n, fun | n => n⟩
theorem Tryz.laysClone : Go.Proofs.SlLaysE0.n41 Tryz.prog Tryz.laysClone_ren := {
  mixed := by kernel_rfl
  f41 := ⟨Tryz.f58.name, by decide, Tryz.func58.trans (congrArg some (by kernel_rfl))⟩
  t4 := Tryz.underlying4
  a4 := Tryz.isAgg4
  z4 := Tryz.sizeOf4
  v4 := Tryz.zeroValue4
  t22 := Tryz.underlying57
  a22 := Tryz.isAgg57
  z22 := Tryz.sizeOf57
  v22 := Tryz.zeroValue57 }
open Go.RowKit in
/-- slices.Clone at versions. -/
theorem Tryz.slices_Clone (i0 : TypeInfo) (z : Value) (size bytes : Nat) (hi : Tryz.prog.info? 49 = some i0) (hz0 : i0.zero = some z) (hz1 : i0.size = size) (hz2 : i0.bytes = bytes) (hzs : z.cells.size = size) (hsz : 0 < size)
    (z23 : ∀ w, (Go.sizeOf 49).run Tryz.prog w = .ok size w) (b off n c : Nat) (news : List Value) (w : World) (hl : news.length = n * size) (hn : n ≤ maxLen) (hbig : n * bytes ≤ 140737488355328)
    (hc : ∀ j u, news[j]? = some u → w.cell? ⟨b, off + j, none⟩ = some u) (h1 : ∀ u ∈ news, u.oneCell' = true) :
    Calls Tryz.prog 58 #[.slice (some ⟨b, off, none⟩) n c] w fun e w' => ∃ v', e = .returned v' ∧ w'.ownsRow w.heap.size 49 size v' n news ∧ v' ≠ .slice none 0 0 ∧ Below w.heap.size w w' := AnyE.slices_Clone Tryz.laysClone i0 z size bytes hi hz0 hz1 hz2 hzs hsz z23 b off n c news w hl hn hbig hc h1
end Go.Proofs
namespace Go.Proofs.YtmbpfbhpmafheaaGreatDoor
open Go.RowKit
/-! how what is held is written -/
def wrN (n : Int) : List UInt8 := Lib.itoa n ++ [58]
def wrT (s : ByteArray) : List UInt8 := wrN (s.size : Int) ++ s.data.toList
def wrK (x : Kep) : List UInt8 := wrT x.1 ++ (wrN x.2.n ++ (wrN x.2.who ++ (wrN x.2.size ++ (wrN x.2.at_ ++ wrT x.2.text))))
def wrL (L : List Kep) : List UInt8 := L.flatMap wrK
def wrote (L : List Kep) (s : Bool) : List UInt8 := wrN (if s then 1 else 0) ++ wrL L
/-! how it is read: what is left, and whether it has failed -/
def numF (r : ByteArray) (f : Bool) : Int × ByteArray × Bool :=
  match Lib.atoiAll (Lib.cut r.data.toList [58]).1 with
  | .ok n => if (Lib.cut r.data.toList [58]).2.2 then (n, ofL (Lib.cut r.data.toList [58]).2.1, f) else (0, ofL [], true)
  | _ => (0, ofL [], true)
def textF (r : ByteArray) (f : Bool) : ByteArray × ByteArray × Bool :=
  if (numF r f).1 < 0 ∨ ((numF r f).2.1.size : Int) < (numF r f).1 then (ofL [], ofL [], true)
  else ((numF r f).2.1.extract 0 (numF r f).1.toNat, (numF r f).2.1.extract (numF r f).1.toNat (numF r f).2.1.size, (numF r f).2.2)
def verF (r : ByteArray) (f : Bool) : (ByteArray × Ver) × ByteArray × Bool :=
  let k := textF r f
  let a := numF k.2.1 k.2.2
  let b := numF a.2.1 a.2.2
  let c := numF b.2.1 b.2.2
  let d := numF c.2.1 c.2.2
  let t := textF d.2.1 d.2.2
  ((k.1, ⟨a.1, b.1, c.1, d.1, t.1⟩), t.2.1, t.2.2)
theorem dig_ok : ∀ (u : Nat) (l : List UInt8), u < 9223372036854775808 → Lib.parseUint10 0 (Lib.decDigits u ++ l) = Lib.parseUint10 u l := by
  intro u
  induction u using Nat.strongRecOn with
  | ind u ih =>
    intro l hu
    rw [Lib.decDigits]
    split
    · rename_i h
      rw [List.singleton_append]
      have e : (UInt8.ofNat (48 + u)).toNat = 48 + u := by rw [UInt8.toNat_ofNat']; exact Nat.mod_eq_of_lt (by omega)
      rw [Lib.parseUint10, e, if_pos (by omega), if_neg (by omega), if_neg (by omega)]
      congr 1
      omega
    · rename_i h
      rw [List.append_assoc, ih (u / 10) (by omega) _ (by omega), List.singleton_append]
      have e : (UInt8.ofNat (48 + u % 10)).toNat = 48 + u % 10 := by rw [UInt8.toNat_ofNat']; exact Nat.mod_eq_of_lt (by omega)
      rw [Lib.parseUint10, e, if_pos (by omega), if_neg (by omega), if_neg (by omega)]
      congr 1
      omega
theorem dig_mem : ∀ (u : Nat), ∀ c ∈ Lib.decDigits u, 48 ≤ c.toNat ∧ c.toNat ≤ 57 := by
  intro u
  induction u using Nat.strongRecOn with
  | ind u ih =>
    intro c hc
    rw [Lib.decDigits] at hc
    split at hc
    · rename_i h
      rw [List.mem_singleton.1 hc, UInt8.toNat_ofNat', Nat.mod_eq_of_lt (by omega)]
      omega
    · rename_i h
      rcases List.mem_append.1 hc with h1 | h1
      · exact ih (u / 10) (by omega) c h1
      · rw [List.mem_singleton.1 h1, UInt8.toNat_ofNat', Nat.mod_eq_of_lt (by omega)]
        omega
theorem dig_ne (u : Nat) : Lib.decDigits u ≠ [] := by
  rw [Lib.decDigits]
  split
  · simp
  · simp
theorem atoi_dig {u : Nat} (hu : u < 9223372036854775808) : Lib.atoiAll (Lib.decDigits u) = .ok (u : Int) := by
  have hm := dig_mem u
  have hp : Lib.parseUint10 0 (Lib.decDigits u) = .ok u := by
    have := dig_ok u [] hu
    rw [List.append_nil] at this
    rw [this]
    rfl
  have hne := dig_ne u
  cases hd : Lib.decDigits u with
  | nil => exact absurd hd hne
  | cons c r =>
    rw [hd] at hm hp
    have hc := hm c (by simp)
    have h1 : ¬ (c.toNat = 43 ∨ c.toNat = 45) := by omega
    have h2 : ¬ c.toNat = 45 := by omega
    unfold Lib.atoiAll
    simp only [if_neg h1]
    unfold Lib.parseMag
    rw [if_neg (by simp), hp]
    simp only [h2]
    simp
    omega
theorem cut_colon {a b : List UInt8} (ha : ∀ c ∈ a, c ≠ 58) : Lib.cut (a ++ 58 :: b) [58] = (a, b, true) := by
  have hi : Lib.index (a ++ 58 :: b) [58] = (a.length : Int) := by
    refine Lib.index_first (by simp) ?_ ?_
    · unfold Lib.occAt
      rw [List.drop_left]
      rfl
    · intro j hj
      unfold Lib.occAt
      rw [List.drop_append_of_le_length (by omega), List.drop_eq_getElem_cons hj]
      show (58 == a[j] && _) = false
      have := ha a[j] (List.getElem_mem hj)
      simp [Ne.symm this]
  unfold Lib.cut
  rw [hi, if_pos (by omega)]
  simp
theorem numF_wr {n : Int} (h0 : 0 ≤ n) (h1 : n ≤ 9223372036854775807) (b : List UInt8) (f : Bool) : numF (ofL (wrN n ++ b)) f = (n, ofL b, f) := by
  obtain ⟨u, rfl⟩ : ∃ u : Nat, n = u := ⟨n.toNat, by omega⟩
  have hi : Lib.itoa (u : Int) = Lib.decDigits u := by unfold Lib.itoa; rw [if_neg (by omega)]; simp
  unfold numF
  rw [ofL_data]
  have e : wrN (u : Int) ++ b = Lib.decDigits u ++ 58 :: b := by unfold wrN; rw [hi]; simp
  rw [e, cut_colon (fun c hc e => by have := dig_mem u c hc; rw [e] at this; exact absurd this.2 (by decide))]
  simp only []
  rw [atoi_dig (by omega)]
  rfl
theorem textF_wr {s : ByteArray} (hs : s.size ≤ 9223372036854775807) (b : List UInt8) (f : Bool) : textF (ofL (wrT s ++ b)) f = (s, ofL b, f) := by
  unfold textF wrT
  rw [List.append_assoc, numF_wr (by omega) (by omega)]
  have hsz : (ofL (s.data.toList ++ b)).size = s.size + b.length := by
    rw [ofL_size, List.length_append]
    rfl
  have hl : s.data.toList.length = s.size := by simp
  rw [if_neg (by simp only []; rw [hsz]; omega)]
  simp only [Int.toNat_natCast]
  have e1 := ofL_left s.data.toList b
  have e2 := ofL_right s.data.toList b
  rw [hl] at e1 e2
  rw [e1, e2, ofL_self]
theorem verF_wr {x : Kep} (hk : isN x.1 = true) (hv : verOk x.2 = true) (b : List UInt8) (f : Bool) : verF (ofL (wrK x ++ b)) f = (x, ofL b, f) := by
  have hk1 := isN_size hk
  unfold verOk tagB at hv
  simp only [Bool.and_eq_true, decide_eq_true_eq] at hv
  unfold verF wrK
  simp only [List.append_assoc]
  rw [textF_wr (by omega)]
  simp only []
  rw [numF_wr (by omega) (by omega)]
  simp only []
  rw [numF_wr (by omega) (by omega)]
  simp only []
  rw [numF_wr (by omega) (by omega)]
  simp only []
  rw [numF_wr (by omega) (by omega)]
  simp only []
  rw [textF_wr (by omega)]
/-! what is read is less than there was -/
theorem cut_shorter {l : List UInt8} (h : (Lib.cut l [58]).2.2 = true) : (Lib.cut l [58]).2.1.length < l.length := by
  unfold Lib.cut at h ⊢
  split at h
  · rename_i h0
    rw [if_pos h0]
    have := Lib.index_room l [58] h0
    simp only [List.length_drop, List.length_cons, List.length_nil] at this ⊢
    omega
  · cases h
theorem numF_shorter {r : ByteArray} {f : Bool} (h : (numF r f).2.2 = false) : (numF r f).2.1.size < r.size ∧ f = false := by
  unfold numF at h ⊢
  split
  · rename_i n hn
    rw [hn] at h
    simp only [] at h
    split
    · rename_i hc
      rw [if_pos hc] at h
      have := cut_shorter hc
      rw [ofL_size]
      exact ⟨this, h⟩
    · rename_i hc
      rw [if_neg hc] at h
      cases h
  · rename_i hn
    split at h
    · rename_i n hn'
      exact absurd hn' (hn n)
    · cases h
theorem textF_shorter {r : ByteArray} {f : Bool} (h : (textF r f).2.2 = false) : (textF r f).2.1.size < r.size ∧ f = false := by
  unfold textF at h ⊢
  split at h
  · cases h
  · rename_i hc
    rw [if_neg hc]
    have := numF_shorter h
    refine ⟨Nat.lt_of_le_of_lt ?_ this.1, this.2⟩
    simp only [ByteArray.size_extract]
    omega
theorem verF_shorter {r : ByteArray} (h : (verF r false).2.2 = false) : (verF r false).2.1.size < r.size := by
  unfold verF at h ⊢
  simp only [] at h ⊢
  obtain ⟨h1, e1⟩ := textF_shorter h
  obtain ⟨h2, e2⟩ := numF_shorter e1
  obtain ⟨h3, e3⟩ := numF_shorter e2
  obtain ⟨h4, e4⟩ := numF_shorter e3
  obtain ⟨h5, e5⟩ := numF_shorter e4
  obtain ⟨h6, _⟩ := textF_shorter e5
  omega
/-! what is kept in order is put again, one behind the other -/
structure GoodL (L : List Kep) : Prop where
  sorted : SortedK L
  few : L.length ≤ 60
  fits : ∀ x ∈ L, isN x.1 = true ∧ verOk x.2 = true
theorem GoodL.nil : GoodL [] := ⟨List.Pairwise.nil, by simp, fun _ h => by cases h⟩
theorem GoodL.put {L : List Kep} (h : GoodL L) {s : Bool} {key : ByteArray} {v : Ver} (h0 : putErr L s key v = 0) : GoodL (putL L key v) ∧ (∀ x ∈ getL L key, tagOf x ≠ tagOf v) ∧ s = false ∧ isN key = true ∧ verOk v = true ∧ L.length < 60 := by
  unfold putErr at h0
  split at h0
  · cases h0
  · rename_i hs
    split at h0
    · rename_i hn
      split at h0
      · rename_i hv
        have hnone : ∀ x ∈ getL L key, tagOf x ≠ tagOf v := fun x hx ht => by
          rw [putScan_there h.sorted hx ht] at h0
          split at h0 <;> cases h0
        rw [putScan_none hnone L.length 0 (by omega)] at h0
        have hlt : L.length < 60 := by
          refine Classical.byContradiction fun hc => ?_
          rw [if_pos (by omega)] at h0
          cases h0
        refine ⟨⟨putL_sorted h.sorted hnone, by rw [putL_length]; omega, fun x hx => ?_⟩, hnone, by simpa using hs, hn, hv, hlt⟩
        rcases mem_putL.1 hx with h1 | h1
        · exact h.fits x h1
        · rw [h1]; exact ⟨hn, hv⟩
      · cases h0
    · cases h0
theorem GoodL.trim {L : List Kep} (h : GoodL L) (key : ByteArray) (n : Nat) : GoodL (trimGo key n L) := ⟨trimL_sorted h.sorted key n, Nat.le_trans (trimGo_sub key L n).length_le h.few, fun x hx => h.fits x ((trimGo_sub key L n).subset hx)⟩
theorem put_next {L : List Kep} (h : GoodL L) {i : Nat} (hi : i < L.length) : putR (L.take i) false (kepAt L i).1 (kepAt L i).2 = (0, L.take (i + 1)) := by
  have hf := h.fits (kepAt L i) (List.mem_of_getElem? (kepAt_get hi))
  have hs : SortedK (L.take (i + 1)) := List.Pairwise.sublist (List.take_sublist _ _) h.sorted
  rw [take_succ_kep hi] at hs
  obtain ⟨hs1, _, hs2⟩ := List.pairwise_append.1 hs
  have hb : ∀ y ∈ L.take i, beforeB y (kepAt L i).1 (kepAt L i).2 = true := fun y hy => hs2 y hy _ (by simp)
  have hnone : ∀ x ∈ getL (L.take i) (kepAt L i).1, tagOf x ≠ tagOf (kepAt L i).2 := fun x hx ht => by
    rcases before_iff.1 (hb _ (mem_getL.1 hx)) with h1 | ⟨_, h1⟩
    · exact kl_irrefl _ h1
    · rw [ht, lessB_irrefl] at h1; cases h1
  have hl : (L.take i).length = i := by rw [List.length_take]; omega
  have hfew := h.few
  have he : putErr (L.take i) false (kepAt L i).1 (kepAt L i).2 = 0 := by
    unfold putErr
    rw [if_neg (by decide), if_pos hf.1, if_pos hf.2, putScan_none hnone _ 0 (by omega), if_neg (by omega)]
  have hp : placeN (L.take i) (kepAt L i).1 (kepAt L i).2 = (L.take i).length := by
    unfold placeN
    rw [List.findIdx_eq_length]
    intro x hx
    rw [hb x hx]
    rfl
  unfold putR
  rw [if_pos he]
  unfold putL
  rw [hp, List.take_of_length_le (Nat.le_refl _), List.drop_eq_nil_of_le (Nat.le_refl _), List.append_nil, take_succ_kep hi]
/-! how long it is -/
theorem dig_len (u : Nat) : ∀ k, u < 10 ^ k → 1 ≤ k → (Lib.decDigits u).length ≤ k := by
  induction u using Nat.strongRecOn with
  | ind u ih =>
    intro k hk h1
    rw [Lib.decDigits]
    split
    · simpa using h1
    · rename_i h
      cases k with
      | zero => omega
      | succ k =>
        rw [List.length_append]
        have hk0 : 1 ≤ k := by
          rcases Nat.eq_zero_or_pos k with h2 | h2
          · subst h2; simp at hk; omega
          · exact h2
        have := ih (u / 10) (by omega) k (by rw [Nat.pow_succ] at hk; omega) hk0
        simp only [List.length_cons, List.length_nil]
        omega
theorem wrN_len {n : Int} (h0 : 0 ≤ n) (h1 : n ≤ 1099511627776) : (wrN n).length ≤ 15 := by
  obtain ⟨u, rfl⟩ : ∃ u : Nat, n = u := ⟨n.toNat, by omega⟩
  unfold wrN
  rw [List.length_append]
  have hi : Lib.itoa (u : Int) = Lib.decDigits u := by unfold Lib.itoa; rw [if_neg (by omega)]; simp
  rw [hi]
  have := dig_len u 14 (by omega) (by decide)
  simp only [List.length_cons, List.length_nil]
  omega
theorem wrK_len {x : Kep} (h : isN x.1 = true ∧ verOk x.2 = true) : (wrK x).length ≤ 2000 := by
  have h1 := isN_size h.1
  have h2 := h.2
  unfold verOk tagB at h2
  simp only [Bool.and_eq_true, decide_eq_true_eq] at h2
  have a1 := wrN_len (n := (x.1.size : Int)) (by omega) (by omega)
  have a2 := wrN_len (n := x.2.n) (by omega) (by omega)
  have a3 := wrN_len (n := x.2.who) (by omega) (by omega)
  have a4 := wrN_len (n := x.2.size) (by omega) (by omega)
  have a5 := wrN_len (n := x.2.at_) (by omega) (by omega)
  have a6 := wrN_len (n := (x.2.text.size : Int)) (by omega) (by omega)
  have b1 : x.1.data.toList.length = x.1.size := by simp
  have b2 : x.2.text.data.toList.length = x.2.text.size := by simp
  unfold wrK wrT
  simp only [List.length_append, b1, b2]
  omega
theorem wrL_len {L : List Kep} (h : ∀ x ∈ L, isN x.1 = true ∧ verOk x.2 = true) : (wrL L).length ≤ L.length * 2000 := by
  induction L with
  | nil => simp [wrL]
  | cons x L ih =>
    have := ih fun y hy => h y (by simp [hy])
    have hx := wrK_len (h x (by simp))
    unfold wrL at this ⊢
    rw [List.flatMap_cons, List.length_append, List.length_cons]
    omega
theorem wrote_len {L : List Kep} (h : GoodL L) (s : Bool) : (wrote L s).length ≤ 130000 := by
  have h1 := wrL_len h.fits
  have h2 := h.few
  have h3 : (wrN (if s then 1 else 0)).length ≤ 15 := by cases s <;> exact wrN_len (by decide) (by decide)
  unfold wrote
  rw [List.length_append]
  omega
theorem lt_of_cellK {w : World} {b o : Nat} {v : Value} (h : w.cell? ⟨b, o, none⟩ = some v) : b < w.heap.size := by
  rcases Nat.lt_or_ge b w.heap.size with h' | h'
  · exact h'
  · simp [World.cell?, Array.getElem?_eq_none h'] at h
/-- Errors that a node's shards have lie in their variables. -/
structure HErrs (w : World) (ad : Nat → Addr) : Prop where
  c1 : w.cell? ⟨3, 0, none⟩ = some (.iface 206 (.pointer (some (ad 1))))
  c3 : w.cell? ⟨2, 0, none⟩ = some (.iface 206 (.pointer (some (ad 3))))
  c5 : w.cell? ⟨4, 0, none⟩ = some (.iface 206 (.pointer (some (ad 5))))
  c6 : w.cell? ⟨5, 0, none⟩ = some (.iface 206 (.pointer (some (ad 6))))
  c9 : w.cell? ⟨1, 0, none⟩ = some (.iface 206 (.pointer (some (ad 9))))
theorem HErrs.below {w w' : World} {ad : Nat → Addr} (h : HErrs w ad) (hb : Below w.heap.size w w') : HErrs w' ad where
  c1 := (hb.cell (lt_of_cellK h.c1)).trans h.c1
  c3 := (hb.cell (lt_of_cellK h.c3)).trans h.c3
  c5 := (hb.cell (lt_of_cellK h.c5)).trans h.c5
  c6 := (hb.cell (lt_of_cellK h.c6)).trans h.c6
  c9 := (hb.cell (lt_of_cellK h.c9)).trans h.c9
theorem HErrs.keepBlocks {W V : World} {ad : Nat → Addr} (h : HErrs W ad) (hk : ∀ k, k < W.heap.size → V.heap[k]? = W.heap[k]?) : HErrs V ad where
  c1 := (World.cell?_of_block (w := W) (w' := V) (hk _ (lt_of_cellK h.c1))).trans h.c1
  c3 := (World.cell?_of_block (w := W) (w' := V) (hk _ (lt_of_cellK h.c3))).trans h.c3
  c5 := (World.cell?_of_block (w := W) (w' := V) (hk _ (lt_of_cellK h.c5))).trans h.c5
  c6 := (World.cell?_of_block (w := W) (w' := V) (hk _ (lt_of_cellK h.c6))).trans h.c6
  c9 := (World.cell?_of_block (w := W) (w' := V) (hk _ (lt_of_cellK h.c9))).trans h.c9
def keyK : ByteArray := ⟨#[107]⟩
def verK : Ver := ⟨1, 0, 1, 0, ⟨#[120]⟩⟩
theorem putK : putR [] false keyK verK = (0, [(keyK, verK)]) := by decide
theorem getK : getL [(keyK, verK)] keyK = [verK] := by decide
set_option maxRecDepth 10000 in
set_option maxHeartbeats 1600000 in
theorem holds_any {ad : Nat → Addr} {X : World → Prop} {Hd : World → Nat → (Nat → Prop) → List Kep → Bool → Prop} (hO : HoldOk0 ad X Hd) (w : World) (hS : ∀ W, Below w.heap.size w W → X W) :
    Calls Tryz.prog 6 #[] w fun e w' => e = .returned (.bool true) ∧ Below w.heap.size w w' := by
  obtain ⟨w2, hw2⟩ : ∃ w2, w2 = (w.alloc (.cells #[.map none, .bool false] 39)).alloc (.cells #[.int .i64 1, .int .i64 0, .int .i64 1, .int .i64 0, .string ⟨#[120]⟩] 49) := ⟨_, rfl⟩
  have HB2 : Hid (Below w.heap.size w w2) := by rw [hw2]; exact ((Below.refl _ _).alloc (Nat.le_refl _) _).alloc (by simp) _
  have hs2 : w2.heap.size = w.heap.size + 2 := by rw [hw2]; simp
  have HS2 : Hid (w2.heap.size = w.heap.size + 2) := hs2
  have HD2 : Hid (Hd w2 w.heap.size (fun k => k = w.heap.size) [] false) := by
    refine hO.keep (hO.zero w) (by rw [hw2]; simp) (fun k hk => ?_)
    subst hk
    rw [hw2]
    exact ((Below.refl (w.alloc (.cells #[.map none, .bool false] 39)).heap.size _).alloc (Nat.le_refl _) _).block w.heap.size (by simp)
  have HC2 : Hid (w2.cell? ⟨w.heap.size + 1, 0, none⟩ = some (.int .i64 1) ∧ w2.cell? ⟨w.heap.size + 1, 1, none⟩ = some (.int .i64 0) ∧ w2.cell? ⟨w.heap.size + 1, 2, none⟩ = some (.int .i64 1) ∧ w2.cell? ⟨w.heap.size + 1, 3, none⟩ = some (.int .i64 0) ∧ w2.cell? ⟨w.heap.size + 1, 4, none⟩ = some (.string ⟨#[120]⟩)) := by
    rw [hw2]; exact ⟨by simp, by simp, by simp, by simp, by simp⟩
  have HP := hO.put keyK verK (by decide) (by decide) HD2.out (hS w2 HB2.out)
  rw [putK] at HP
  have HP2 : Calls Tryz.prog 16 #[.pointer (some ⟨w.heap.size, 0, none⟩), .string ⟨#[107]⟩, .agg #[.int .i64 1, .int .i64 0, .int .i64 1, .int .i64 0, .string ⟨#[120]⟩]] w2 _ := HP
  have HW2 : Hid (w2 = (w.alloc (.cells #[.map none, .bool false] 39)).alloc (.cells #[.int .i64 1, .int .i64 0, .int .i64 1, .int .i64 0, .string ⟨#[120]⟩] 49)) := hw2
  clear hw2 hs2 hS HP
  have HO : Hid (HoldOk0 ad X Hd) := hO
  clear hO
  go_enter Tryz.func6, Tryz.ntmps6
  go_wp2_with fail
  rw [← HW2.out]
  refine HP2.mono ?_
  rintro e w3 ⟨⟨ev, rfl, hev⟩, S', hD3, hU⟩
  obtain rfl : ev = .nilIface := by
    rcases hev with ⟨h, _⟩ | ⟨i, _, _, h⟩
    · exact h
    · exact absurd h (by simp; omega)
  have HB3 : Hid (Below w.heap.size w w3) := HB2.out.trans ⟨hU.os, hU.tape, hU.output, hU.size, fun k hk => hU.block k (by have := HS2.out; omega) (by show ¬ (k = w.heap.size); omega)⟩
  have HC3 : Hid (w3.cell? ⟨w.heap.size + 1, 0, none⟩ = some (.int .i64 1) ∧ w3.cell? ⟨w.heap.size + 1, 1, none⟩ = some (.int .i64 0) ∧ w3.cell? ⟨w.heap.size + 1, 2, none⟩ = some (.int .i64 1) ∧ w3.cell? ⟨w.heap.size + 1, 3, none⟩ = some (.int .i64 0) ∧ w3.cell? ⟨w.heap.size + 1, 4, none⟩ = some (.string ⟨#[120]⟩)) := by
    have hb := hU.block (w.heap.size + 1) (by have := HS2.out; omega) (by show ¬ (_ = _); omega)
    have hc : ∀ o, w3.cell? ⟨w.heap.size + 1, o, none⟩ = w2.cell? ⟨w.heap.size + 1, o, none⟩ := fun o => by unfold World.cell?; rw [hb]
    obtain ⟨h0, h1, h2, h3, h4⟩ := HC2.out
    exact ⟨(hc 0).trans h0, (hc 1).trans h1, (hc 2).trans h2, (hc 3).trans h3, (hc 4).trans h4⟩
  have HD3 : Hid (Hd w3 w.heap.size S' [(keyK, verK)] false) := hD3
  have HX : Hid (w.heap.size + 1 < w3.heap.size) := by have := HS2.out; have := hU.size; show _ < _; omega
  clear hev hD3 hU HP2 HC2 HD2 HW2
  have HG := HO.out.get keyK (by decide) HD3.out
  rw [getK] at HG
  have HG2 : Calls Tryz.prog 17 #[.pointer (some ⟨w.heap.size, 0, none⟩), .string ⟨#[107]⟩] w3 _ := HG
  clear HG
  go_wp2_with fail
  refine HG2.mono ?_
  rintro e w4 ⟨⟨p, c, rfl, hr⟩, hb4⟩
  clear HG2
  have HB4 : Hid (Below w3.heap.size w3 w4) := hb4
  have HR4 : Hid (Rec verE w4 p [verK]) := hr
  have HD4 : Hid (Hd w4 w.heap.size S' [(keyK, verK)] false) := HO.out.keep HD3.out hb4.size (fun k hk => hb4.block k (HO.out.lt HD3.out k hk))
  have HL := HO.out.last keyK (by decide) HD4.out
  rw [getK] at HL
  have HL2 : Calls Tryz.prog 18 #[.pointer (some ⟨w.heap.size, 0, none⟩), .string ⟨#[107]⟩] w4 fun e w' => e = .returned (.tuple #[.agg #[.int .i64 1, .int .i64 0], .bool true]) ∧ Below w4.heap.size w4 w' := HL
  clear HL hr hb4
  go_wp2_with fail
  refine HL2.mono ?_
  rintro e w5 ⟨rfl, hb5⟩
  clear HL2
  have HB5 : Hid (Below w3.heap.size w3 w5) := HB4.out.trans (hb5.mono HB4.out.size)
  obtain ⟨b, o, hpp, hblt, hrc⟩ : ∃ b o, p = some ⟨b, o, none⟩ ∧ b < w4.heap.size ∧ ∀ j u, (verC verK)[j]? = some u → w4.cell? ⟨b, o + j, none⟩ = some u := by
    rcases HR4.out with h | ⟨b, o, hp, hlt, hc⟩
    · cases h
    · refine ⟨b, o, hp, hlt, fun j u hj => ?_⟩
      have := hc 0 verK rfl j u hj
      simpa using this
  subst hpp
  obtain ⟨w6, hw6⟩ : ∃ w6, w6 = w5.alloc (.cells #[.int .i64 1, .int .i64 0] 45) := ⟨_, rfl⟩
  have HB6 : Hid (Below w5.heap.size w5 w6) := by rw [hw6]; exact (Below.refl _ _).alloc (Nat.le_refl _) _
  have HS6 : Hid (w5.heap.size < w6.heap.size) := by rw [hw6]; show _ < _; simp
  have HD6 : Hid (Hd w6 w.heap.size S' [(keyK, verK)] false) := by
    have hb := (hb5.trans (HB6.out.mono hb5.size))
    exact HO.out.keep HD4.out hb.size (fun k hk => hb.block k (HO.out.lt HD4.out k hk))
  have HC6 : Hid (w6.cell? ⟨w5.heap.size, 0, none⟩ = some (.int .i64 1) ∧ w6.cell? ⟨w5.heap.size, 1, none⟩ = some (.int .i64 0)) := by rw [hw6]; exact ⟨by simp, by simp⟩
  have HALL : Hid (∀ W, Below w6.heap.size w6 W → (W.cell? ⟨w.heap.size + 1, 0, none⟩ = some (.int .i64 1) ∧ W.cell? ⟨w.heap.size + 1, 1, none⟩ = some (.int .i64 0) ∧ W.cell? ⟨w.heap.size + 1, 2, none⟩ = some (.int .i64 1) ∧ W.cell? ⟨w.heap.size + 1, 3, none⟩ = some (.int .i64 0) ∧ W.cell? ⟨w.heap.size + 1, 4, none⟩ = some (.string ⟨#[120]⟩) ∧ W.cell? ⟨b, o, none⟩ = some (.int .i64 1) ∧ W.cell? ⟨b, o + 1, none⟩ = some (.int .i64 0) ∧ W.cell? ⟨b, o + 2, none⟩ = some (.int .i64 1) ∧ W.cell? ⟨b, o + 3, none⟩ = some (.int .i64 0) ∧ W.cell? ⟨b, o + 4, none⟩ = some (.string ⟨#[120]⟩) ∧ W.cell? ⟨w5.heap.size, 0, none⟩ = some (.int .i64 1) ∧ W.cell? ⟨w5.heap.size, 1, none⟩ = some (.int .i64 0) ∧ Below w6.heap.size w6 W)) := fun W hW => by
    have hx := HX.out
    have h36 : Below w3.heap.size w3 w6 := HB5.out.trans (HB6.out.mono HB5.out.size)
    have h46 : Below w4.heap.size w4 w6 := hb5.trans (HB6.out.mono hb5.size)
    have t3 : ∀ o', W.cell? ⟨w.heap.size + 1, o', none⟩ = w3.cell? ⟨w.heap.size + 1, o', none⟩ := fun o' => ((h36.trans (hW.mono h36.size))).cell (p := ⟨w.heap.size + 1, o', none⟩) hx
    have t4 : ∀ o', W.cell? ⟨b, o', none⟩ = w4.cell? ⟨b, o', none⟩ := fun o' => ((h46.trans (hW.mono h46.size))).cell (p := ⟨b, o', none⟩) hblt
    have t6 : ∀ o', W.cell? ⟨w5.heap.size, o', none⟩ = w6.cell? ⟨w5.heap.size, o', none⟩ := fun o' => hW.cell (p := ⟨w5.heap.size, o', none⟩) HS6.out
    obtain ⟨h0, h1, h2, h3, h4⟩ := HC3.out
    exact ⟨(t3 0).trans h0, (t3 1).trans h1, (t3 2).trans h2, (t3 3).trans h3, (t3 4).trans h4, (t4 _).trans (hrc 0 _ rfl), (t4 _).trans (hrc 1 _ rfl), (t4 _).trans (hrc 2 _ rfl), (t4 _).trans (hrc 3 _ rfl), (t4 _).trans (hrc 4 _ rfl), (t6 0).trans HC6.out.1, (t6 1).trans HC6.out.2, hW⟩
  have HW6 : Hid (w6 = w5.alloc (.cells #[.int .i64 1, .int .i64 0] 45)) := hw6
  have HCN : Hid (∀ W, Below w6.heap.size w6 W → Calls Tryz.prog 11 #[.pointer (some ⟨w.heap.size, 0, none⟩)] W fun e w' => e = .returned (.int .i64 1) ∧ Below w6.heap.size w6 w') := fun W hW => (HO.out.count (HO.out.keep HD6.out hW.size (fun k hk => hW.block k (HO.out.lt HD6.out k hk)))).mono fun e w' ⟨h1, h2⟩ => ⟨h1, hW.trans (h2.mono hW.size)⟩
  have HLS : Hid (∀ W, Below w6.heap.size w6 W → Calls Tryz.prog 19 #[.agg #[.int .i64 0, .int .i64 0], .agg #[.int .i64 1, .int .i64 0]] W fun e w' => e = .returned (.bool true) ∧ Below w6.heap.size w6 w') := fun W hW => (HO.out.less (0, 0) (1, 0) W).mono fun e w' ⟨h1, q, os, h2⟩ => ⟨h1, by rw [h2]; exact hW.trans ((below_grow W q os).mono hW.size)⟩
  have HB : Hid (Below w.heap.size w w6) := HB3.out.trans ((HB5.out.trans (HB6.out.mono HB5.out.size)).mono HB3.out.size)
  have hS0 := HALL.out w6.drew (Below.refl _ _).drew
  clear hw6 HB5 HB6 HS6 HC6 HD6 HD4 HD3 HC3 HB4 hrc hblt HR4 hb5 HX HB2 HS2 HB3
  go_wp2_with fail
  rw [← HW6.out]
  go_region_held3 (fun W => (W.cell? ⟨w.heap.size + 1, 0, none⟩ = some (.int .i64 1) ∧ W.cell? ⟨w.heap.size + 1, 1, none⟩ = some (.int .i64 0) ∧ W.cell? ⟨w.heap.size + 1, 2, none⟩ = some (.int .i64 1) ∧ W.cell? ⟨w.heap.size + 1, 3, none⟩ = some (.int .i64 0) ∧ W.cell? ⟨w.heap.size + 1, 4, none⟩ = some (.string ⟨#[120]⟩) ∧ W.cell? ⟨b, o, none⟩ = some (.int .i64 1) ∧ W.cell? ⟨b, o + 1, none⟩ = some (.int .i64 0) ∧ W.cell? ⟨b, o + 2, none⟩ = some (.int .i64 1) ∧ W.cell? ⟨b, o + 3, none⟩ = some (.int .i64 0) ∧ W.cell? ⟨b, o + 4, none⟩ = some (.string ⟨#[120]⟩) ∧ W.cell? ⟨w5.heap.size, 0, none⟩ = some (.int .i64 1) ∧ W.cell? ⟨w5.heap.size, 1, none⟩ = some (.int .i64 0) ∧ Below w6.heap.size w6 W)) (first | assumption | exact hS0) (first | (go_at_call 11; refine (HCN.out _ (by have := hS0.2.2.2.2.2.2.2.2.2.2.2.2; first | assumption | exact (And.right (by assumption)))).mono ?_; rintro e w7 ⟨rfl, hb7⟩; have hS7 := HALL.out _ hb7) | (go_at_call 19; refine (HLS.out _ hb7).mono ?_; rintro e w8 ⟨rfl, hb8⟩; have hS8 := HALL.out _ hb8))
  go_wp2
  go_ret
  exact ⟨rfl, HB.out.trans (hb8.mono HB.out.size)⟩
set_option maxRecDepth 10000 in
set_option maxHeartbeats 8000000 in
theorem rtrim_any (h : Nat) (L : List Kep) (s : Bool) (key : ByteArray) (keep : Int) (w : World) (hl : L.length ≤ 900000) (hk0 : 0 ≤ keep) (hk1 : keep ≤ 9223372036854775807) (hm : MHold w h L s) :
    Calls Tryz.prog 28 #[.pointer (some ⟨h, 0, none⟩), .string key, .int .i64 keep] w fun e w' => e = .returned (.int .i64 ((goneN L key keep : Nat) : Int)) ∧ MHold w' h (trimL L key keep) s ∧ Turn h w w' := by
  have HM : Hid (MHold w h L s) := hm
  have HG := rget_any h L s key w (by omega) hm
  obtain ⟨p, c, q0, hrec, hc, hn, hne⟩ := hm.row
  have HREC : Hid (Rec kepE w p L) := hrec
  have hlt := lt_of_cellH q0
  have HQ0 : Hid (w.cell? ⟨h, 0, none⟩ = some (.slice p L.length c)) := q0
  have hgl : (getL L key).length ≤ 900000 := Nat.le_trans (getL_le _ _) hl
  have HGN : Hid (goneN L key keep = ((getL L key).length - keep).toNat) := by show _ = _; rfl
  have HTL : Hid (trimL L key keep = trimGo key (goneN L key keep) L) := by show _ = _; rfl
  clear hrec q0 hne hn hm
  generalize getL L key = gs at *
  generalize trimL L key keep = TL at *
  generalize goneN L key keep = g at *
  go_enter Tryz.func28, Tryz.ntmps28
  go_wp2_with fail
  refine HG.mono ?_
  rintro e w1 ⟨⟨v1, rfl, hO1⟩, hb1⟩
  obtain ⟨p1, c1, rfl, _, _, _, _⟩ := hO1.form
  have HB1 : Hid (Below w.heap.size w w1) := hb1
  clear HG hO1 hb1
  have HCASE : Hid ((gs.length : Int) < keep ∧ g = 0 ∨ ¬ (gs.length : Int) < keep ∧ ((g : Nat) : Int) = gs.length - keep) := by
    show _ ∨ _
    have := HGN.out
    omega
  have HLOOP : Hid (trimGo key g (L.drop 0) = TL) := by show _ = _; rw [HTL.out]; rfl
  rcases HCASE.out with ⟨hneg, hg0⟩ | ⟨hpos, hgd⟩
  · subst hg0
    have hd1 : decide ((gs.length : Int) < keep) = true := decide_eq_true hneg
    have hd2 : decide ((gs.length : Int) - keep < 0) = true := decide_eq_true (by omega)
    clear HCASE HGN
    go_wp2
    go_loopw [8, 9, 10] (fun lf v x wq => ∃ (i left : Nat) (out : List Kep), i ≤ L.length ∧ x = .int .i64 i ∧ lf = .int .i64 (left : Int) ∧ out.length ≤ i ∧ left ≤ 900000 ∧ out ++ trimGo key left (L.drop i) = TL ∧ OwnR kepE 51 wq w.heap.size v out ∧ Below w.heap.size w wq) (fun _ _ x _ => L.length - (intOf x).toNat)
    case atStart => exact ⟨0, 0, [], Nat.zero_le _, rfl, rfl, Nat.zero_le _, by omega, HLOOP.out, OwnR.nil _ _ _, HB1.out⟩
    case round =>
      obtain ⟨i, left, out, hi, rfl, rfl, hol, hll, hTL, hO, hB⟩ := hrel
      obtain ⟨w2, rfl⟩ : ∃ w2, w2 = wr := ⟨_, rfl⟩
      obtain ⟨v, rfl⟩ : ∃ v, v = u9 := ⟨_, rfl⟩
      have HO : Hid (OwnR kepE 51 w2 w.heap.size v out) := hO
      have HB : Hid (Below w.heap.size w w2) := hB
      have HTI : Hid (out ++ trimGo key left (L.drop i) = TL) := hTL
      have q0 : w2.cell? ⟨h, 0, none⟩ = some (.slice p L.length c) := (hB.cell (p := ⟨h, 0, none⟩) hlt).trans HQ0.out
      have hz2 : w.heap.size ≤ w2.heap.size := hB.size
      clear hO hB hTL HLOOP
      by_cases hil : i < L.length
      · obtain ⟨b, o, hpp, hblt, c0, c1, c2, c3, c4, c5⟩ := kep_cells (HREC.out.below HB.out) hil
        subst hpp
        have hst := @trimGo_at L key left i hil
        have hTI := HTI.out
        rw [hst] at hTI
        clear hst HTI
        by_cases he : (kepAt L i).1 = key
        · by_cases hlf : 0 < left
          · rw [if_pos ⟨he, hlf⟩] at hTI
            have HNX : Hid (out ++ trimGo key (left - 1) (L.drop (i + 1)) = TL) := hTI
            rw [he] at c0
            clear hTI he c1 c2 c3 c4 c5
            have gl : decide ((0 : Int) < (left : Int)) = true := decide_eq_true (by omega)
            have hl1 : (left : Int) - 1 = ((left - 1 : Nat) : Int) := by omega
            have HL1 : Hid ((left : Int) - 1 = ((left - 1 : Nat) : Int)) := hl1
            clear hl1
            go_wp2
            go_roundw
            case rel => exact ⟨i + 1, left - 1, out, by omega, by go_num, by rw [← HL1.out], by omega, by omega, HNX.out, HO.out, HB.out⟩
            case measure => simp [intOf]; omega
          · rw [if_neg (fun hx => hlf hx.2)] at hTI
            have gl : decide ((0 : Int) < (left : Int)) = false := decide_eq_false (by omega)
            rw [he] at c0
            have hke : kepAt L i = (key, (kepAt L i).2) := by rw [← he]
            rw [hke] at hTI
            clear he hke
            generalize (kepAt L i).2 = x at *
            obtain ⟨xn, xw, xs, xa, xt⟩ := x
            have HNX : Hid ((out ++ [(key, ⟨xn, xw, xs, xa, xt⟩)]) ++ trimGo key left (L.drop (i + 1)) = TL) := by
              show _ = _
              rw [List.append_assoc]
              exact hTI
            clear hTI
            have HO2 : Hid (OwnR kepE 51 (w2.alloc (.cells #[.string key, .int .i64 xn, .int .i64 xw, .int .i64 xs, .int .i64 xa, .string xt] 51)) w.heap.size v out) := HO.out.kept ((Below.refl _ _).alloc (Nat.le_refl _) _)
            have HNW : Hid (∀ j u, (kepE.enc (key, ⟨xn, xw, xs, xa, xt⟩))[j]? = some u → (w2.alloc (.cells #[.string key, .int .i64 xn, .int .i64 xw, .int .i64 xs, .int .i64 xa, .string xt] 51)).cell? ⟨w2.heap.size, 0 + j, none⟩ = some u) := fun j u hj => by
              rw [Nat.zero_add, World.cell?_alloc_at _ _ _ _ rfl]
              match j, hj with
              | 0, hj => exact hj
              | 1, hj => exact hj
              | 2, hj => exact hj
              | 3, hj => exact hj
              | 4, hj => exact hj
              | 5, hj => exact hj
            have HB2 : Hid (Below w.heap.size w (w2.alloc (.cells #[.string key, .int .i64 xn, .int .i64 xw, .int .i64 xs, .int .i64 xa, .string xt] 51))) := HB.out.alloc hz2 _
            go_wp2_with (first | (at_builtin; refine wpList_append_rec rfl (.tmp 45) (.tmp 53) 41 51 rfl (.agg #[.string ⟨#[]⟩, .int .i64 0, .int .i64 0, .int .i64 0, .int .i64 0, .string ⟨#[]⟩]) 64 Tryz.underlying41 kepinfo rfl w.heap.size v out rfl HO2.out w2.heap.size 0 1 (key, ⟨xn, xw, xs, xa, xt⟩) rfl HNW.out (by unfold maxLen; omega) (by omega) HB2.out.size (by simp) ?_; intro v3 w3 hO3 hb3))
            have HO3 : Hid (OwnR kepE 51 w3 w.heap.size v3 (out ++ [(key, ⟨xn, xw, xs, xa, xt⟩)])) := hO3
            have HB3 : Hid (Below w.heap.size w w3) := HB2.out.trans hb3
            clear hO3 hb3
            go_wp2
            go_roundw
            case rel => exact ⟨i + 1, left, out ++ [(key, ⟨xn, xw, xs, xa, xt⟩)], by omega, by go_num, rfl, by rw [List.length_append]; show _ + 1 ≤ _; omega, hll, HNX.out, HO3.out, HB3.out⟩
            case measure => simp [intOf]; omega
        · rw [if_neg (fun hx => he hx.1)] at hTI
          have d1 := toList_ne he
          have d2 := toList_beq he
          have d3 := bytes_beq he
          clear he
          generalize kepAt L i = y at *
          obtain ⟨key', x⟩ := y
          obtain ⟨xn, xw, xs, xa, xt⟩ := x
          have HNX : Hid ((out ++ [(key', ⟨xn, xw, xs, xa, xt⟩)]) ++ trimGo key left (L.drop (i + 1)) = TL) := by
            show _ = _
            rw [List.append_assoc]
            exact hTI
          clear hTI
          have HO2 : Hid (OwnR kepE 51 (w2.alloc (.cells #[.string key', .int .i64 xn, .int .i64 xw, .int .i64 xs, .int .i64 xa, .string xt] 51)) w.heap.size v out) := HO.out.kept ((Below.refl _ _).alloc (Nat.le_refl _) _)
          have HNW : Hid (∀ j u, (kepE.enc (key', ⟨xn, xw, xs, xa, xt⟩))[j]? = some u → (w2.alloc (.cells #[.string key', .int .i64 xn, .int .i64 xw, .int .i64 xs, .int .i64 xa, .string xt] 51)).cell? ⟨w2.heap.size, 0 + j, none⟩ = some u) := fun j u hj => by
            rw [Nat.zero_add, World.cell?_alloc_at _ _ _ _ rfl]
            match j, hj with
            | 0, hj => exact hj
            | 1, hj => exact hj
            | 2, hj => exact hj
            | 3, hj => exact hj
            | 4, hj => exact hj
            | 5, hj => exact hj
          have HB2 : Hid (Below w.heap.size w (w2.alloc (.cells #[.string key', .int .i64 xn, .int .i64 xw, .int .i64 xs, .int .i64 xa, .string xt] 51))) := HB.out.alloc hz2 _
          go_wp2_with (first | (at_builtin; refine wpList_append_rec rfl (.tmp 45) (.tmp 53) 41 51 rfl (.agg #[.string ⟨#[]⟩, .int .i64 0, .int .i64 0, .int .i64 0, .int .i64 0, .string ⟨#[]⟩]) 64 Tryz.underlying41 kepinfo rfl w.heap.size v out rfl HO2.out w2.heap.size 0 1 (key', ⟨xn, xw, xs, xa, xt⟩) rfl HNW.out (by unfold maxLen; omega) (by omega) HB2.out.size (by simp) ?_; intro v3 w3 hO3 hb3))
          have HO3 : Hid (OwnR kepE 51 w3 w.heap.size v3 (out ++ [(key', ⟨xn, xw, xs, xa, xt⟩)])) := hO3
          have HB3 : Hid (Below w.heap.size w w3) := HB2.out.trans hb3
          clear hO3 hb3
          go_wp2
          go_roundw
          case rel => exact ⟨i + 1, left, out ++ [(key', ⟨xn, xw, xs, xa, xt⟩)], by omega, by go_num, rfl, by rw [List.length_append]; show _ + 1 ≤ _; omega, hll, HNX.out, HO3.out, HB3.out⟩
          case measure => simp [intOf]; omega
      · have hie : i = L.length := by omega
        subst hie
        have hTI := HTI.out
        rw [List.drop_length] at hTI
        have hout : out = TL := by
          have e : trimGo key left ([] : List Kep) = [] := rfl
          rw [e, List.append_nil] at hTI
          exact hTI
        subst hout
        obtain ⟨hst1, hst2⟩ := HM.out.store HB.out HO.out
        have HST : Hid (MHold (w2.setCell ⟨h, 0, none⟩ v) h out s ∧ Turn h w (w2.setCell ⟨h, 0, none⟩ v)) := ⟨hst1, hst2⟩
        have hfz : w2.frozen? ⟨h, 0, none⟩ = false := (HM.out.below HB.out).free0
        clear hst1 hst2 hTI HTI
        obtain ⟨pv, cv, hvf, _, _, _, _⟩ := HO.out.form
        subst hvf
        go_wp2
        go_ret
        exact ⟨rfl, HST.out⟩
  · have hgd' : (gs.length : Int) - keep = (g : Int) := hgd.symm
    have hgd2 : ¬ (gs.length : Int) - keep < 0 := by omega
    clear HCASE HGN hgd
    go_wp2
    go_loopw [8, 9, 10] (fun lf v x wq => ∃ (i left : Nat) (out : List Kep), i ≤ L.length ∧ x = .int .i64 i ∧ lf = .int .i64 (left : Int) ∧ out.length ≤ i ∧ left ≤ 900000 ∧ out ++ trimGo key left (L.drop i) = TL ∧ OwnR kepE 51 wq w.heap.size v out ∧ Below w.heap.size w wq) (fun _ _ x _ => L.length - (intOf x).toNat)
    case atStart => exact ⟨0, g, [], Nat.zero_le _, rfl, by first | rfl | rw [hgd'], Nat.zero_le _, by omega, HLOOP.out, OwnR.nil _ _ _, HB1.out⟩
    case round =>
      obtain ⟨i, left, out, hi, rfl, rfl, hol, hll, hTL, hO, hB⟩ := hrel
      obtain ⟨w2, rfl⟩ : ∃ w2, w2 = wr := ⟨_, rfl⟩
      obtain ⟨v, rfl⟩ : ∃ v, v = u9 := ⟨_, rfl⟩
      have HO : Hid (OwnR kepE 51 w2 w.heap.size v out) := hO
      have HB : Hid (Below w.heap.size w w2) := hB
      have HTI : Hid (out ++ trimGo key left (L.drop i) = TL) := hTL
      have q0 : w2.cell? ⟨h, 0, none⟩ = some (.slice p L.length c) := (hB.cell (p := ⟨h, 0, none⟩) hlt).trans HQ0.out
      have hz2 : w.heap.size ≤ w2.heap.size := hB.size
      clear hO hB hTL HLOOP
      by_cases hil : i < L.length
      · obtain ⟨b, o, hpp, hblt, c0, c1, c2, c3, c4, c5⟩ := kep_cells (HREC.out.below HB.out) hil
        subst hpp
        have hst := @trimGo_at L key left i hil
        have hTI := HTI.out
        rw [hst] at hTI
        clear hst HTI
        by_cases he : (kepAt L i).1 = key
        · by_cases hlf : 0 < left
          · rw [if_pos ⟨he, hlf⟩] at hTI
            have HNX : Hid (out ++ trimGo key (left - 1) (L.drop (i + 1)) = TL) := hTI
            rw [he] at c0
            clear hTI he c1 c2 c3 c4 c5
            have gl : decide ((0 : Int) < (left : Int)) = true := decide_eq_true (by omega)
            have hl1 : (left : Int) - 1 = ((left - 1 : Nat) : Int) := by omega
            have HL1 : Hid ((left : Int) - 1 = ((left - 1 : Nat) : Int)) := hl1
            clear hl1
            go_wp2
            go_roundw
            case rel => exact ⟨i + 1, left - 1, out, by omega, by go_num, by rw [← HL1.out], by omega, by omega, HNX.out, HO.out, HB.out⟩
            case measure => simp [intOf]; omega
          · rw [if_neg (fun hx => hlf hx.2)] at hTI
            have gl : decide ((0 : Int) < (left : Int)) = false := decide_eq_false (by omega)
            rw [he] at c0
            have hke : kepAt L i = (key, (kepAt L i).2) := by rw [← he]
            rw [hke] at hTI
            clear he hke
            generalize (kepAt L i).2 = x at *
            obtain ⟨xn, xw, xs, xa, xt⟩ := x
            have HNX : Hid ((out ++ [(key, ⟨xn, xw, xs, xa, xt⟩)]) ++ trimGo key left (L.drop (i + 1)) = TL) := by
              show _ = _
              rw [List.append_assoc]
              exact hTI
            clear hTI
            have HO2 : Hid (OwnR kepE 51 (w2.alloc (.cells #[.string key, .int .i64 xn, .int .i64 xw, .int .i64 xs, .int .i64 xa, .string xt] 51)) w.heap.size v out) := HO.out.kept ((Below.refl _ _).alloc (Nat.le_refl _) _)
            have HNW : Hid (∀ j u, (kepE.enc (key, ⟨xn, xw, xs, xa, xt⟩))[j]? = some u → (w2.alloc (.cells #[.string key, .int .i64 xn, .int .i64 xw, .int .i64 xs, .int .i64 xa, .string xt] 51)).cell? ⟨w2.heap.size, 0 + j, none⟩ = some u) := fun j u hj => by
              rw [Nat.zero_add, World.cell?_alloc_at _ _ _ _ rfl]
              match j, hj with
              | 0, hj => exact hj
              | 1, hj => exact hj
              | 2, hj => exact hj
              | 3, hj => exact hj
              | 4, hj => exact hj
              | 5, hj => exact hj
            have HB2 : Hid (Below w.heap.size w (w2.alloc (.cells #[.string key, .int .i64 xn, .int .i64 xw, .int .i64 xs, .int .i64 xa, .string xt] 51))) := HB.out.alloc hz2 _
            go_wp2_with (first | (at_builtin; refine wpList_append_rec rfl (.tmp 45) (.tmp 53) 41 51 rfl (.agg #[.string ⟨#[]⟩, .int .i64 0, .int .i64 0, .int .i64 0, .int .i64 0, .string ⟨#[]⟩]) 64 Tryz.underlying41 kepinfo rfl w.heap.size v out rfl HO2.out w2.heap.size 0 1 (key, ⟨xn, xw, xs, xa, xt⟩) rfl HNW.out (by unfold maxLen; omega) (by omega) HB2.out.size (by simp) ?_; intro v3 w3 hO3 hb3))
            have HO3 : Hid (OwnR kepE 51 w3 w.heap.size v3 (out ++ [(key, ⟨xn, xw, xs, xa, xt⟩)])) := hO3
            have HB3 : Hid (Below w.heap.size w w3) := HB2.out.trans hb3
            clear hO3 hb3
            go_wp2
            go_roundw
            case rel => exact ⟨i + 1, left, out ++ [(key, ⟨xn, xw, xs, xa, xt⟩)], by omega, by go_num, rfl, by rw [List.length_append]; show _ + 1 ≤ _; omega, hll, HNX.out, HO3.out, HB3.out⟩
            case measure => simp [intOf]; omega
        · rw [if_neg (fun hx => he hx.1)] at hTI
          have d1 := toList_ne he
          have d2 := toList_beq he
          have d3 := bytes_beq he
          clear he
          generalize kepAt L i = y at *
          obtain ⟨key', x⟩ := y
          obtain ⟨xn, xw, xs, xa, xt⟩ := x
          have HNX : Hid ((out ++ [(key', ⟨xn, xw, xs, xa, xt⟩)]) ++ trimGo key left (L.drop (i + 1)) = TL) := by
            show _ = _
            rw [List.append_assoc]
            exact hTI
          clear hTI
          have HO2 : Hid (OwnR kepE 51 (w2.alloc (.cells #[.string key', .int .i64 xn, .int .i64 xw, .int .i64 xs, .int .i64 xa, .string xt] 51)) w.heap.size v out) := HO.out.kept ((Below.refl _ _).alloc (Nat.le_refl _) _)
          have HNW : Hid (∀ j u, (kepE.enc (key', ⟨xn, xw, xs, xa, xt⟩))[j]? = some u → (w2.alloc (.cells #[.string key', .int .i64 xn, .int .i64 xw, .int .i64 xs, .int .i64 xa, .string xt] 51)).cell? ⟨w2.heap.size, 0 + j, none⟩ = some u) := fun j u hj => by
            rw [Nat.zero_add, World.cell?_alloc_at _ _ _ _ rfl]
            match j, hj with
            | 0, hj => exact hj
            | 1, hj => exact hj
            | 2, hj => exact hj
            | 3, hj => exact hj
            | 4, hj => exact hj
            | 5, hj => exact hj
          have HB2 : Hid (Below w.heap.size w (w2.alloc (.cells #[.string key', .int .i64 xn, .int .i64 xw, .int .i64 xs, .int .i64 xa, .string xt] 51))) := HB.out.alloc hz2 _
          go_wp2_with (first | (at_builtin; refine wpList_append_rec rfl (.tmp 45) (.tmp 53) 41 51 rfl (.agg #[.string ⟨#[]⟩, .int .i64 0, .int .i64 0, .int .i64 0, .int .i64 0, .string ⟨#[]⟩]) 64 Tryz.underlying41 kepinfo rfl w.heap.size v out rfl HO2.out w2.heap.size 0 1 (key', ⟨xn, xw, xs, xa, xt⟩) rfl HNW.out (by unfold maxLen; omega) (by omega) HB2.out.size (by simp) ?_; intro v3 w3 hO3 hb3))
          have HO3 : Hid (OwnR kepE 51 w3 w.heap.size v3 (out ++ [(key', ⟨xn, xw, xs, xa, xt⟩)])) := hO3
          have HB3 : Hid (Below w.heap.size w w3) := HB2.out.trans hb3
          clear hO3 hb3
          go_wp2
          go_roundw
          case rel => exact ⟨i + 1, left, out ++ [(key', ⟨xn, xw, xs, xa, xt⟩)], by omega, by go_num, rfl, by rw [List.length_append]; show _ + 1 ≤ _; omega, hll, HNX.out, HO3.out, HB3.out⟩
          case measure => simp [intOf]; omega
      · have hie : i = L.length := by omega
        subst hie
        have hTI := HTI.out
        rw [List.drop_length] at hTI
        have hout : out = TL := by
          have e : trimGo key left ([] : List Kep) = [] := rfl
          rw [e, List.append_nil] at hTI
          exact hTI
        subst hout
        obtain ⟨hst1, hst2⟩ := HM.out.store HB.out HO.out
        have HST : Hid (MHold (w2.setCell ⟨h, 0, none⟩ v) h out s ∧ Turn h w (w2.setCell ⟨h, 0, none⟩ v)) := ⟨hst1, hst2⟩
        have hfz : w2.frozen? ⟨h, 0, none⟩ = false := (HM.out.below HB.out).free0
        clear hst1 hst2 hTI HTI
        obtain ⟨pv, cv, hvf, _, _, _, _⟩ := HO.out.form
        subst hvf
        go_wp2
        go_ret
        exact ⟨by first | rfl | rw [hgd'], HST.out⟩
set_option maxRecDepth 10000 in
set_option maxHeartbeats 2000000 in
theorem sameTexts_any (pa pb : Option Addr) (l m : List ByteArray) (ca cb : Nat) (w : World) (hl : l.length ≤ 1000000) (_hm : m.length ≤ 1000000) (ha : Strs w pa l) (hb : Strs w pb m) :
    Calls Tryz.prog 33 #[.slice pa l.length ca, .slice pb m.length cb] w fun e w' => e = .returned (.bool (decide (l = m))) ∧ Below w.heap.size w w' := by
  by_cases hlen : l.length = m.length
  · have HT : Hid ((∀ i, i < l.length → txt l i = txt m i) → decide (l = m) = true) := fun h => decide_eq_true (txt_ext hlen h)
    have HF : Hid (∀ i, i < l.length → txt l i ≠ txt m i → decide (l = m) = false) := fun i _ h => decide_eq_false (fun e => h (by rw [e]))
    generalize decide (l = m) = r at *
    have HM : Hid (m.length = l.length) := hlen.symm
    rw [← hlen]
    clear hlen
    go_enter Tryz.func33, Tryz.ntmps33
    go_wp2
    go_loopw [5] (fun x wq => ∃ i : Nat, i ≤ l.length ∧ x = .int .i64 i ∧ (∀ j, j < i → txt l j = txt m j) ∧ ∃ n, wq = w.drewN n) (fun x _ => l.length - (intOf x).toNat)
    case atStart => exact ⟨0, Nat.zero_le _, rfl, fun j hj => absurd hj (Nat.not_lt_zero _), 0, rfl⟩
    case round =>
      obtain ⟨i, hi, rfl, hall, n, hw⟩ := hrel
      obtain ⟨w1, rfl⟩ : ∃ w1, w1 = wr := ⟨_, rfl⟩
      have HALL : Hid (∀ j, j < i → txt l j = txt m j) := hall
      have HW : Hid (∃ n, w1 = w.drewN n) := ⟨n, hw⟩
      have HA : Hid (Strs w1 pa l) := by show Strs w1 pa l; rw [hw]; exact ha.drewN n
      have HB : Hid (Strs w1 pb m) := by show Strs w1 pb m; rw [hw]; exact hb.drewN n
      clear hw hall
      by_cases hil : i < l.length
      · rcases HA.out with h0 | ⟨b1, o1, rfl, hlt1, hc1⟩
        · rw [h0] at hil; exact absurd hil (Nat.not_lt_zero _)
        rcases HB.out with h0 | ⟨b2, o2, rfl, hlt2, hc2⟩
        · have := HM.out; rw [h0] at this; have h3 : (0 : Nat) = l.length := this; omega
        have q1 := hc1 i hil
        have q2 := hc2 i (by have := HM.out; omega)
        clear hc1 hc2 HA HB
        by_cases he : txt l i = txt m i
        · have HE : Hid (txt l i = txt m i) := he
          rw [← he] at q2
          clear he
          generalize hti : txt l i = t at *
          have HTI : Hid (txt l i = t) := hti
          clear hti
          go_wp2
          go_quiet (fail)
          go_wp2
          go_roundw
          case rel => exact ⟨i + 1, by omega, by go_num, fun j hj => by
            rcases Nat.lt_or_ge j i with h | h
            · exact HALL.out j h
            · obtain rfl : j = i := by omega
              rw [HTI.out]; exact HE.out, by obtain ⟨n, hn⟩ := HW.out; exact ⟨_, by rw [hn, World.drewN_drewN]⟩⟩
          case measure => simp [intOf]; omega
        · have HR : Hid (r = false) := HF.out i hil he
          have d1 := toList_ne he
          have d2 := toList_beq he
          have d3 := bytes_beq he
          clear he HF HT HALL
          generalize txt l i = t at *
          generalize txt m i = u at *
          go_wp2
          go_quiet (fail)
          go_wp2
          go_ret
          exact ⟨by rw [HR.out]; rfl, by obtain ⟨n, hn⟩ := HW.out; rw [hn]; exact below_drewN (below_drewN (Below.refl _ _) n) _⟩
      · have HR : Hid (r = true) := HT.out (fun j hj => HALL.out j (by omega))
        go_wp2
        go_ret
        exact ⟨by rw [HR.out]; rfl, by obtain ⟨n, hn⟩ := HW.out; rw [hn]; exact below_drewN (Below.refl _ _) n⟩
  · have HR : Hid (decide (l = m) = false) := decide_eq_false (fun e => hlen (by rw [e]))
    rw [HR.out]
    have h6 : ((l.length : Int) != (m.length : Int)) = true := by rw [bne_iff_ne]; omega
    clear hlen
    go_enter Tryz.func33, Tryz.ntmps33
    go_wp2
    go_ret
    exact ⟨rfl, Below.refl _ _⟩
end Go.Proofs.YtmbpfbhpmafheaaGreatDoor
