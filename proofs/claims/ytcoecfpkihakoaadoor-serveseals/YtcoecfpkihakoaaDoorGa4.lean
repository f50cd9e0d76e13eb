/- A member of configurations, as lists: what it holds, and what it answers. -/
import Derived.Test.YtcoecfpkihakoaaDoorGa3
import Derived.BigQuiet
import Derived.Test.YtcoecfpkihakoaaDoorRecB
import Derived.Maps.RangeWalk
import Derived.Maps.OwnOps
import Derived.Maps.OwnSet
namespace Go.Proofs.YtcoecfpkihakoaaDoor
open Go.RowKit
def kLook : ByteArray := ⟨#[108, 111, 111, 107]⟩
def kSeal : ByteArray := ⟨#[115, 101, 97, 108]⟩
def kKeep : ByteArray := ⟨#[107, 101, 101, 112]⟩
def kTold : ByteArray := ⟨#[116, 111, 108, 100]⟩
def kShut : ByteArray := ⟨#[115, 101, 97, 108, 101, 100]⟩
def kKept : ByteArray := ⟨#[107, 101, 112, 116]⟩
/-- What is held of a configuration: its number, the versions, sealed or not. -/
abbrev Cfd := Int × List Kep × Bool
structure MMem where
  name : ByteArray
  L : List Cfd
/-- Where a configuration stands; none: the length. -/
def cfdI (L : List Cfd) (c : Int) : Nat := L.findIdx fun x => decide (x.1 = c)
def cfdAt (L : List Cfd) (i : Nat) : Cfd := L.getD i (0, [], false)
theorem cfdAt_get {L : List Cfd} {i : Nat} (hi : i < L.length) : L[i]? = some (cfdAt L i) := by
  unfold cfdAt
  rw [List.getD_eq_getElem?_getD, List.getElem?_eq_getElem hi]
  rfl
theorem cfdI_le (L : List Cfd) (c : Int) : cfdI L c ≤ L.length := List.findIdx_le_length
theorem cfdI_here {L : List Cfd} {c : Int} (h : cfdI L c < L.length) : (cfdAt L (cfdI L c)).1 = c := by
  have h1 := List.findIdx_getElem (p := fun x : Cfd => decide (x.1 = c)) (xs := L) (w := h)
  have e := cfdAt_get h
  rw [List.getElem?_eq_getElem h] at e
  have h2 : decide ((L[cfdI L c]).1 = c) = true := h1
  rw [Option.some.inj e] at h2
  exact of_decide_eq_true h2
theorem cfdI_before {L : List Cfd} {c : Int} {i : Nat} (h : i < cfdI L c) : (cfdAt L i).1 ≠ c := by
  have hl : i < L.length := Nat.lt_of_lt_of_le h (cfdI_le L c)
  have h1 := List.not_of_lt_findIdx (p := fun x : Cfd => decide (x.1 = c)) (xs := L) (i := i) h
  have e := cfdAt_get hl
  rw [List.getElem?_eq_getElem hl] at e
  rw [Option.some.inj e] at h1
  exact of_decide_eq_false h1
/-- With a hold for the configuration; none: there is no room. -/
def MMem.held (m : MMem) (c : Int) : Option MMem := if cfdI m.L c < m.L.length then some m else if 12 ≤ m.L.length then none else some ⟨m.name, m.L ++ [(c, [], false)]⟩
def MMem.out (m : MMem) (x : Msg) (kind : ByteArray) (shut : Bool) (L : List Ver) : Msg := ⟨m.name, x.from_, kind, x.key, x.op, x.config, shut, L⟩
/-- Another hold in the place of one. -/
def MMem.put (m : MMem) (i : Nat) (h : List Kep × Bool) : MMem := ⟨m.name, m.L.set i ((cfdAt m.L i).1, h)⟩
/-- What is done with a message by the hold of its configuration. -/
def MMem.does (m : MMem) (i : Nat) (x : Msg) : MMem × List Msg :=
  if x.kind = kLook then (m, [m.out x kTold (cfdAt m.L i).2.2 (getL (cfdAt m.L i).2.1 x.key)])
  else if x.kind = kSeal then (m.put i ((cfdAt m.L i).2.1, true), [m.out x kShut false (getL (cfdAt m.L i).2.1 x.key)])
  else (m.put i ((putR (cfdAt m.L i).2.1 (cfdAt m.L i).2.2 x.key (verAt x.L 0)).2, (cfdAt m.L i).2.2), if 0 < (putR (cfdAt m.L i).2.1 (cfdAt m.L i).2.2 x.key (verAt x.L 0)).1 ∧ (putR (cfdAt m.L i).2.1 (cfdAt m.L i).2.2 x.key (verAt x.L 0)).1 ≠ 10 then [] else [m.out x kKept (decide (0 < (putR (cfdAt m.L i).2.1 (cfdAt m.L i).2.2 x.key (verAt x.L 0)).1)) []])
/-- Not for it, or nothing that is asked. -/
def MMem.off (m : MMem) (x : Msg) : Prop := x.to_ ≠ m.name ∨ x.config < 0 ∨ isN x.key = false
def oddK (x : Msg) : Prop := x.kind ≠ kLook ∧ x.kind ≠ kSeal ∧ (x.kind ≠ kKeep ∨ x.L.length ≠ 1)
instance (m : MMem) (x : Msg) : Decidable (m.off x) := by unfold MMem.off; infer_instance
instance (x : Msg) : Decidable (oddK x) := by unfold oddK; infer_instance
def MMem.hear (m : MMem) (x : Msg) : MMem × List Msg :=
  if m.off x ∨ oddK x then (m, [])
  else match m.held x.config with
    | none => (m, [])
    | some m1 => m1.does (cfdI m.L x.config) x
theorem put_length (m : MMem) (i : Nat) (h : List Kep × Bool) : (m.put i h).L.length = m.L.length := List.length_set ..
theorem put_at {m : MMem} {i j : Nat} {h : List Kep × Bool} (hi : i < m.L.length) : cfdAt (m.put i h).L j = if j = i then ((cfdAt m.L i).1, h) else cfdAt m.L j := by
  unfold MMem.put
  unfold cfdAt
  rw [List.getD_eq_getElem?_getD, List.getElem?_set]
  by_cases e : i = j
  · subst e
    rw [if_pos rfl, if_pos hi, if_pos rfl]
    rfl
  · rw [if_neg e, if_neg (fun h => e h.symm), List.getD_eq_getElem?_getD]
end Go.Proofs.YtcoecfpkihakoaaDoor
/- The document's own SameVersions. -/
namespace Go.Proofs.YtcoecfpkihakoaaDoor
open Go.RowKit
set_option maxRecDepth 10000 in
set_option maxHeartbeats 2000000 in
theorem sameVers_any (pa pb : Option Addr) (l m : List Ver) (ca cb : Nat) (w : World) (hl : l.length ≤ 1000000) (ha : Rec verE w pa l) (hb : Rec verE w pb m) :
    Calls Tryd.prog 9 #[.slice pa l.length ca, .slice pb m.length cb] w fun e w' => e = .returned (.bool (decide (l = m))) ∧ Below w.heap.size w w' := by
  by_cases hlen : l.length = m.length
  · have HT : Hid ((∀ i, i < l.length → verAt l i = verAt m i) → decide (l = m) = true) := fun h => decide_eq_true (ver_ext hlen h)
    have HF : Hid (∀ i, i < l.length → verAt l i ≠ verAt m i → decide (l = m) = false) := fun i _ h => decide_eq_false (fun e => h (by rw [e]))
    generalize decide (l = m) = r at *
    have HM : Hid (m.length = l.length) := hlen.symm
    rw [← hlen]
    clear hlen
    go_enter Tryd.func9, Tryd.ntmps9
    go_wp2
    go_loopw [5] (fun x wq => ∃ i : Nat, i ≤ l.length ∧ x = .int .i64 i ∧ (∀ j, j < i → verAt l j = verAt m j) ∧ ∃ n, wq = w.drewN n) (fun x _ => l.length - (intOf x).toNat)
    case atStart => exact ⟨0, Nat.zero_le _, rfl, fun j hj => absurd hj (Nat.not_lt_zero _), 0, rfl⟩
    case round =>
      obtain ⟨i, hi, rfl, hall, n, hw⟩ := hrel
      obtain ⟨w1, rfl⟩ : ∃ w1, w1 = wr := ⟨_, rfl⟩
      have HALL : Hid (∀ j, j < i → verAt l j = verAt m j) := hall
      have HW : Hid (∃ n, w1 = w.drewN n) := ⟨n, hw⟩
      have HA : Hid (Rec verE w1 pa l) := by show Rec verE w1 pa l; rw [hw]; exact ha.drewN n
      have HB : Hid (Rec verE w1 pb m) := by show Rec verE w1 pb m; rw [hw]; exact hb.drewN n
      clear hw hall
      by_cases hil : i < l.length
      · obtain ⟨b1, o1, hp1, _, a0, a1, a2, a3, a4⟩ := ver_cells HA.out hil
        obtain ⟨b2, o2, hp2, _, e0, e1, e2, e3, e4⟩ := ver_cells HB.out (show i < m.length by have := HM.out; omega)
        subst hp1 hp2
        by_cases he : verAt l i = verAt m i
        · have HNX : Hid (∀ j, j < i + 1 → verAt l j = verAt m j) := fun j hj => by
            rcases Nat.lt_or_ge j i with h | h
            · exact HALL.out j h
            · obtain rfl : j = i := by omega
              exact he
          rw [← he] at e0 e1 e2 e3 e4
          clear he HALL
          generalize verAt l i = x at *
          obtain ⟨xn, xw, xs, xa, xt⟩ := x
          go_wp2
          go_quiet (fail)
          go_wp2
          go_roundw
          case rel => exact ⟨i + 1, by omega, by go_num, HNX.out, by obtain ⟨n, hn⟩ := HW.out; exact ⟨_, by rw [hn, World.drewN_drewN]⟩⟩
          case measure => simp [intOf]; omega
        · have HR : Hid (r = false) := HF.out i hil he
          have HNE : Hid (verAt l i ≠ verAt m i) := he
          clear he HF HT HALL
          generalize verAt l i = x at *
          generalize verAt m i = y at *
          obtain ⟨xn, xw, xs, xa, xt⟩ := x
          obtain ⟨yn, yw, ys, ya, yt⟩ := y
          have walk : ((xn == yn) = false) ∨ xn = yn ∧ (((xw == yw) = false) ∨ xw = yw ∧ (((xs == ys) = false) ∨ xs = ys ∧ (((xa == ya) = false) ∨ xa = ya ∧ xt ≠ yt))) := by
            by_cases h1 : xn = yn
            · refine Or.inr ⟨h1, ?_⟩
              by_cases h2 : xw = yw
              · refine Or.inr ⟨h2, ?_⟩
                by_cases h3 : xs = ys
                · refine Or.inr ⟨h3, ?_⟩
                  by_cases h4 : xa = ya
                  · refine Or.inr ⟨h4, fun h5 => HNE.out (by rw [h1, h2, h3, h4, h5])⟩
                  · exact Or.inl (beq_eq_false_iff_ne.2 h4)
                · exact Or.inl (beq_eq_false_iff_ne.2 h3)
              · exact Or.inl (beq_eq_false_iff_ne.2 h2)
            · exact Or.inl (beq_eq_false_iff_ne.2 h1)
          clear HNE
          rcases walk with g | ⟨rfl, g | ⟨rfl, g | ⟨rfl, g | ⟨rfl, g⟩⟩⟩⟩
          rotate_right
          · have d1 := toList_ne g
            have d2 := toList_beq g
            have d3 := bytes_beq g
            clear g
            go_wp2
            go_quiet (fail)
            go_wp2
            go_ret
            exact ⟨by rw [HR.out]; rfl, by obtain ⟨n, hn⟩ := HW.out; rw [hn]; exact below_drewN (below_drewN (Below.refl _ _) n) _⟩
          all_goals
            go_wp2
            go_quiet (fail)
            go_wp2
            go_ret
            exact ⟨by rw [HR.out]; rfl, by obtain ⟨n, hn⟩ := HW.out; rw [hn]; exact below_drewN (below_drewN (Below.refl _ _) n) _⟩
      · have HR : Hid (r = true) := HT.out (fun j hj => HALL.out j (by omega))
        go_wp2
        go_ret
        exact ⟨by rw [HR.out]; rfl, by obtain ⟨n, hn⟩ := HW.out; rw [hn]; exact below_drewN (Below.refl _ _) n⟩
  · have HR : Hid (decide (l = m) = false) := decide_eq_false (fun e => hlen (by rw [e]))
    rw [HR.out]
    have h6 : ((l.length : Int) != (m.length : Int)) = true := by rw [bne_iff_ne]; omega
    clear hlen
    go_enter Tryd.func9, Tryd.ntmps9
    go_wp2
    go_ret
    exact ⟨rfl, Below.refl _ _⟩
end Go.Proofs.YtcoecfpkihakoaaDoor
/- Maps by text, of rows of versions: whatever lies in them, as it lies. -/
namespace Go.Proofs.YtcoecfpkihakoaaDoor
open Go.RowKit
/-- A key as the map tells it. -/
def litK (x : ByteArray) : Lit := .string x.data.toList
theorem litK_inj {x y : ByteArray} (h : litK x = litK y) : x = y := by
  unfold litK at h
  injection h with h
  exact ByteArray.ext (Array.toList_inj.1 h)
theorem litK_key (x : ByteArray) : WideAt.IsKeyLit (litK x) := trivial
theorem sameKey_litK (x : ByteArray) : (litK x).sameKey (litK x) = true := WideAt.sameKey_self (litK_key x)
/-- Whatever lies in the map, as it lies. -/
def anyR (v : Value) : Option (DataW Value × List MemPlace) := some (.held v, [])
theorem keyedK : Maps.Keyed Tryd.prog 9 := Maps.string_keyed Tryd.underlying9
theorem keyOfK {x : ByteArray} (hx : x.size ≤ maxLen) : keyOf Tryd.prog 9 (.string x) = some (litK x) := WideMaps.keyOf_string_mk Tryd.underlying9 hx
theorem keyOfK_inv {v : Value} {l : Lit} (h : keyOf Tryd.prog 9 v = some l) : ∃ x : ByteArray, v = .string x ∧ l = litK x ∧ x.size ≤ maxLen := by
  cases v <;> simp [keyOf, Tryd.underlying9, mapKey] at h
  rename_i s
  exact ⟨s, rfl, h.2.symm, h.1⟩
/-- In the world w block b is a map that tells D. -/
abbrev OwnM (w : World) (b n : Nat) (D : DataW Value) : Prop := w.ownsMap Tryd.prog 9 anyR b n D
theorem OwnM.tight {w : World} {b n : Nat} {D : DataW Value} (h : OwnM w b n D) : OwnM w b (Maps.size D) D := by
  obtain ⟨es, clock, hb, F, hs, rfl⟩ := h
  refine ⟨es, clock, hb, F, ?_, rfl⟩
  rw [Maps.size_eq, length_sorted]
  simp
theorem OwnM.keys {w : World} {b n : Nat} {D : DataW Value} (h : OwnM w b n D) : ∃ es, D = .map es ∧ es.Pairwise (fun p q => p.1 ≠ q.1) ∧ ∀ p ∈ es, ∃ x : ByteArray, x.size ≤ maxLen ∧ p.1 = litK x := by
  have ht := World.ownsMap.tidy h keyedK
  obtain ⟨es0, clock, hb, F, hs, rfl⟩ := h
  obtain ⟨es1, he, hp⟩ := ht
  injection he with he
  refine ⟨_, rfl, by rw [he]; exact hp, fun p hp' => ?_⟩
  obtain ⟨x, hx, rfl⟩ := List.mem_map.1 (mem_sorted.1 hp')
  obtain ⟨y, hy⟩ := F.reads x hx
  obtain ⟨z, h1, h2, h3⟩ := keyOfK_inv (WideElems.rd_key hy)
  exact ⟨z, h3, by rw [WideElems.rg_of hy]; exact h2⟩
theorem length_le_sub {α : Type} : ∀ {l m : List α}, l.Nodup → (∀ x ∈ l, x ∈ m) → l.length ≤ m.length
  | [], _, _, _ => Nat.zero_le _
  | a :: l, m, hn, hs => by
    classical
    obtain ⟨h1, h2⟩ := List.nodup_cons.1 hn
    have ha := hs a (by simp)
    have := length_le_sub (l := l) (m := m.erase a) h2 (fun x hx => (List.mem_erase_of_ne (show x ≠ a from fun e => h1 (e ▸ hx))).2 (hs x (by simp [hx])))
    rw [List.length_erase_of_mem ha] at this
    have := List.length_pos_of_mem ha
    simp only [List.length_cons]
    omega
theorem OwnR.same {T : TypeId} {w w' : World} {B : Nat} {v : Value} {l : List Ver} (h : OwnR verE T w B v l) (hb : ∀ k, v.ownBlock = some k → w'.heap[k]? = w.heap[k]?) : OwnR verE T w' B v l := by
  obtain ⟨h1, h2⟩ := h
  refine ⟨h1, ?_⟩
  rcases h2 with h2 | ⟨g, cap, cur, hv, hbg, hg, hrest⟩
  · exact Or.inl h2
  · refine Or.inr ⟨g, cap, cur, hv, hbg, ?_, hrest⟩
    rw [hb g (by rw [hv]; rfl)]
    exact hg
theorem OwnM.same {w w' : World} {b n : Nat} {D : DataW Value} (h : OwnM w b n D) (hb : w'.heap[b]? = w.heap[b]?) : OwnM w' b n D := by
  obtain ⟨es, clock, h1, h2⟩ := h
  exact ⟨es, clock, hb.trans h1, h2⟩
theorem cell_same {w w' : World} {b : Nat} (h : w'.heap[b]? = w.heap[b]?) (o : Nat) : w'.cell? ⟨b, o, none⟩ = w.cell? ⟨b, o, none⟩ ∧ w'.frozen? ⟨b, o, none⟩ = w.frozen? ⟨b, o, none⟩ := ⟨World.cell?_of_block (a := ⟨b, o, none⟩) h, World.frozen?_of_block (a := ⟨b, o, none⟩) h⟩
/-- Into a map that is there. -/
structure SetOk (w w' : World) (b : Nat) (D : DataW Value) (key : ByteArray) (v : Value) : Prop where
  own : ∃ n, OwnM w' b n (D.put (litK key) (.held v))
  grown : w.grownBy w' (some b)
theorem set_step {w W : World} {b n : Nat} {D : DataW Value} {key : ByteArray} {v : Value} (hown : OwnM w b n D) (hn : n < maxLen) (hk : key.size ≤ maxLen) (hb : Below w.heap.size w W) :
    ∃ w', (Instr.mapUpdate 58 (.map (some b)) (.string key) v).run Tryd.prog W = .ok () w' ∧ SetOk w w' b D key v := by
  have hlt : b < w.heap.size := World.ownsMap.lt hown
  have hown2 : OwnM W b n D := hown.same (hb.block b hlt)
  obtain ⟨w', hrun, h1, h2⟩ := World.ownsMap.update hown2 keyedK Tryd.underlying58 hn (val := v) (d := .held v) (ps := []) (keyOfK hk) rfl
  refine ⟨w', hrun, ⟨_, h1⟩, ⟨h2.os.trans hb.os, h2.tape.trans hb.tape, h2.output.trans hb.output, Nat.le_trans hb.size h2.size, fun k hk hne => ?_⟩⟩
  rw [h2.block k (Nat.lt_of_lt_of_le hk hb.size) hne]
  exact hb.block k hk
theorem map_not_nil (b : Nat) (W : World) : Sem.run Tryd.prog (binOp .eql 58 (.map (some b)) (.map none)) W = .ok (.bool false) W := by kernel_rfl
theorem map_is_nil (W : World) : Sem.run Tryd.prog (binOp .eql 58 (.map none) (.map none)) W = .ok (.bool true) W := by kernel_rfl
theorem below_drew' {B : Nat} {w W : World} (h : Below B w.drew W) : Below B w W := ⟨h.os, h.tape, h.output, h.size, h.block⟩
end Go.Proofs.YtcoecfpkihakoaaDoor
/- What holds of a member at any time: few configurations, each once, few versions, short names. -/
namespace Go.Proofs.YtcoecfpkihakoaaDoor
open Go.RowKit
/-- Numbers that an int can be. -/
def CfIn (c : Int) : Prop := -9223372036854775808 ≤ c ∧ c ≤ 9223372036854775807
structure MMem.Fine (m : MMem) : Prop where
  few : m.L.length ≤ 12
  held : ∀ i, (cfdAt m.L i).2.1.length ≤ 60
  names : ∀ i, ∀ x ∈ (cfdAt m.L i).2.1, x.1.size ≤ 16
  one : ∀ i j, i < m.L.length → j < m.L.length → (cfdAt m.L i).1 = (cfdAt m.L j).1 → i = j
  ints : ∀ i, i < m.L.length → CfIn (cfdAt m.L i).1
theorem cfdAt_out {L : List Cfd} {i : Nat} (h : L.length ≤ i) : cfdAt L i = (0, [], false) := by
  unfold cfdAt
  rw [List.getD_eq_getElem?_getD, List.getElem?_eq_none h]
  rfl
theorem MMem.Fine.nil (name : ByteArray) : MMem.Fine ⟨name, []⟩ :=
  ⟨Nat.zero_le _, fun i => by rw [cfdAt_out (Nat.zero_le _)]; exact Nat.zero_le _, fun i x hx => (by rw [cfdAt_out (Nat.zero_le _)] at hx; cases hx), fun i _ hi _ _ => absurd hi (Nat.not_lt_zero _), fun i hi => absurd hi (Nat.not_lt_zero _)⟩
theorem MMem.Fine.idx {m : MMem} (h : m.Fine) {i : Nat} (hi : i < m.L.length) : cfdI m.L (cfdAt m.L i).1 = i := by
  have hlt : cfdI m.L (cfdAt m.L i).1 < m.L.length := by
    rcases Nat.lt_or_ge (cfdI m.L (cfdAt m.L i).1) m.L.length with h1 | h1
    · exact h1
    · exact absurd rfl (cfdI_before (Nat.lt_of_lt_of_le hi h1))
  exact h.one _ _ hlt hi (cfdI_here hlt)
theorem cfdI_none {L : List Cfd} {c : Int} (h : ∀ i, i < L.length → (cfdAt L i).1 ≠ c) : ¬ cfdI L c < L.length := fun hlt => h _ hlt (cfdI_here hlt)
theorem cfdAt_app (L : List Cfd) (x : Cfd) (i : Nat) : cfdAt (L ++ [x]) i = if i < L.length then cfdAt L i else if i = L.length then x else (0, [], false) := by
  unfold cfdAt
  rw [List.getD_eq_getElem?_getD, List.getD_eq_getElem?_getD]
  split
  · rename_i h
    rw [List.getElem?_append_left h]
  · rename_i h
    split
    · rename_i e
      rw [e, List.getElem?_append_right (Nat.le_refl _), Nat.sub_self]
      rfl
    · rw [List.getElem?_eq_none (by rw [List.length_append]; show L.length + 1 ≤ i; omega)]
      rfl
theorem putScan_few {L : List Kep} {key : ByteArray} {v : Ver} : ∀ (m i : Nat), putScan L key v i m = 0 → L.length < 60
  | 0, i, h => by
    have h' : (if 60 ≤ L.length then (7 : Int) else 0) = 0 := h
    by_cases hl : 60 ≤ L.length
    · rw [if_pos hl] at h'; cases h'
    · omega
  | m + 1, i, h => by
    have h' : (if sameTag (kepAt L i) key v then (if (kepAt L i).2 = v then (-1 : Int) else 6) else putScan L key v (i + 1) m) = 0 := h
    split at h'
    · split at h' <;> cases h'
    · exact putScan_few m (i + 1) h'
theorem putR_fine {L : List Kep} {s : Bool} {key : ByteArray} {v : Ver} (hl : L.length ≤ 60) (hn : ∀ x ∈ L, x.1.size ≤ 16) (hk : isN key = true) : (putR L s key v).2.length ≤ 60 ∧ ∀ x ∈ (putR L s key v).2, x.1.size ≤ 16 := by
  unfold putR
  split
  · rename_i h0
    have hlt : L.length < 60 := by
      unfold putErr at h0
      split at h0
      · cases h0
      · split at h0
        · exact putScan_few _ _ h0
        · cases h0
    refine ⟨?_, fun x hx => ?_⟩
    · show (L.take _ ++ [(key, v)] ++ L.drop _).length ≤ 60
      rw [List.length_append, List.length_append, List.length_take, List.length_drop]
      show min _ _ + 1 + _ ≤ 60
      omega
    · have hx' : x ∈ L.take (placeN L key v) ++ [(key, v)] ++ L.drop (placeN L key v) := hx
      rcases List.mem_append.1 hx' with h1 | h1
      · rcases List.mem_append.1 h1 with h2 | h2
        · exact hn x (List.mem_of_mem_take h2)
        · rw [List.mem_singleton.1 h2]
          exact (isN_size hk).2
      · exact hn x (List.mem_of_mem_drop h1)
  · split <;> exact ⟨hl, hn⟩
theorem MMem.Fine.held_ {m my : MMem} (h : m.Fine) {c : Int} (hci : CfIn c) (e : m.held c = some my) : my.Fine ∧ cfdI m.L c < my.L.length := by
  unfold MMem.held at e
  split at e
  · rename_i hlt
    rw [← Option.some.inj e]
    exact ⟨h, hlt⟩
  · rename_i hnl
    split at e
    · cases e
    · rename_i h12
      rw [← Option.some.inj e]
      have hle := cfdI_le m.L c
      have hc : ∀ i, i < m.L.length → (cfdAt m.L i).1 ≠ c := fun i hi => cfdI_before (by omega)
      have hL : (m.L ++ [(c, ([] : List Kep), false)]).length = m.L.length + 1 := by rw [List.length_append]; rfl
      refine ⟨⟨by show (m.L ++ [_]).length ≤ 12; rw [hL]; omega, fun i => ?_, fun i x hx => ?_, fun i j hi hj e => ?_, fun i hi => ?_⟩, by show _ < (m.L ++ [_]).length; rw [hL]; omega⟩
      · show (cfdAt (m.L ++ [_]) i).2.1.length ≤ 60
        rw [cfdAt_app]
        split
        · exact h.held i
        · split <;> exact Nat.zero_le _
      · have hx' : x ∈ (cfdAt (m.L ++ [(c, ([] : List Kep), false)]) i).2.1 := hx
        rw [cfdAt_app] at hx'
        split at hx'
        · exact h.names i x hx'
        · split at hx' <;> cases hx'
      · have hi' : i < m.L.length + 1 := by rw [← hL]; exact hi
        have hj' : j < m.L.length + 1 := by rw [← hL]; exact hj
        have e' : (cfdAt (m.L ++ [(c, ([] : List Kep), false)]) i).1 = (cfdAt (m.L ++ [(c, ([] : List Kep), false)]) j).1 := e
        rw [cfdAt_app, cfdAt_app] at e'
        by_cases h1 : i < m.L.length <;> by_cases h2 : j < m.L.length
        · rw [if_pos h1, if_pos h2] at e'
          exact h.one i j h1 h2 e'
        · rw [if_pos h1, if_neg h2, if_pos (by omega)] at e'
          exact absurd e' (hc i h1)
        · rw [if_neg h1, if_pos (by omega), if_pos h2] at e'
          exact absurd e'.symm (hc j h2)
        · omega
      · have hi' : i < m.L.length + 1 := by rw [← hL]; exact hi
        show CfIn (cfdAt (m.L ++ [(c, ([] : List Kep), false)]) i).1
        rw [cfdAt_app]
        by_cases h1 : i < m.L.length
        · rw [if_pos h1]; exact h.ints i h1
        · rw [if_neg h1, if_pos (by omega)]; exact hci
theorem MMem.Fine.put_ {m : MMem} (h : m.Fine) {i : Nat} (hi : i < m.L.length) {L : List Kep} {s : Bool} (hl : L.length ≤ 60) (hn : ∀ x ∈ L, x.1.size ≤ 16) : (m.put i (L, s)).Fine := by
  have hf : ∀ j, (cfdAt (m.put i (L, s)).L j).1 = (cfdAt m.L j).1 := fun j => by
    rw [put_at hi]
    split
    · rename_i e; rw [e]
    · rfl
  refine ⟨by rw [put_length]; exact h.few, fun j => ?_, fun j x hx => ?_, fun j k hj hk e => ?_, fun j hj => by rw [hf]; rw [put_length] at hj; exact h.ints j hj⟩
  · rw [put_at hi]
    split
    · exact hl
    · exact h.held j
  · rw [put_at hi] at hx
    split at hx
    · exact hn x hx
    · exact h.names j x hx
  · rw [put_length] at hj hk
    rw [hf, hf] at e
    exact h.one j k hj hk e
theorem hear_fine {m : MMem} (h : m.Fine) (x : Msg) (hci : CfIn x.config) : (m.hear x).1.Fine := by
  unfold MMem.hear
  split
  · exact h
  · rename_i hno
    have hnm : isN x.key = true := by
      cases hq : isN x.key with
      | true => rfl
      | false => exact absurd (Or.inl (Or.inr (Or.inr hq))) hno
    cases hh : m.held x.config with
    | none => exact h
    | some my =>
      obtain ⟨g1, g2⟩ := h.held_ hci hh
      show (my.does (cfdI m.L x.config) x).1.Fine
      unfold MMem.does
      split
      · exact g1
      · split
        · exact g1.put_ g2 (g1.held _) (g1.names _)
        · obtain ⟨a1, a2⟩ := putR_fine (s := (cfdAt my.L (cfdI m.L x.config)).2.2) (v := verAt x.L 0) (g1.held (cfdI m.L x.config)) (g1.names _) hnm
          exact g1.put_ g2 a1 a2
theorem getL_few {L : List Kep} {key : ByteArray} (h : L.length ≤ 60) : (getL L key).length ≤ 60 := Nat.le_trans (getL_le L key) h
/-- What is answered is one message at most, of few versions. -/
theorem hear_few {m : MMem} (h : m.Fine) (x : Msg) (hci : CfIn x.config) : (m.hear x).2.length ≤ 1 ∧ ∀ y ∈ (m.hear x).2, y.L.length ≤ 60 := by
  have hz : ([] : List Msg).length ≤ 1 ∧ ∀ y ∈ ([] : List Msg), y.L.length ≤ 60 := ⟨Nat.zero_le _, fun y hy => by cases hy⟩
  have ho : ∀ z : Msg, z.L.length ≤ 60 → [z].length ≤ 1 ∧ ∀ y ∈ [z], y.L.length ≤ 60 := fun z hz => ⟨Nat.le_refl _, fun y hy => by rw [List.mem_singleton.1 hy]; exact hz⟩
  unfold MMem.hear
  split
  · exact hz
  · cases hh : m.held x.config with
    | none => exact hz
    | some my =>
      obtain ⟨g1, g2⟩ := h.held_ hci hh
      show (my.does (cfdI m.L x.config) x).2.length ≤ 1 ∧ ∀ y ∈ (my.does (cfdI m.L x.config) x).2, y.L.length ≤ 60
      unfold MMem.does
      split
      · exact ho _ (getL_few (g1.held _))
      · split
        · exact ho _ (getL_few (g1.held _))
        · dsimp only
          split
          · exact hz
          · exact ho _ (Nat.zero_le _)
end Go.Proofs.YtcoecfpkihakoaaDoor
/- A member of one configuration: what it tells ahead of a seal and behind it. -/
namespace Go.Proofs.YtcoecfpkihakoaaDoor
open Go.RowKit
def nA : ByteArray := ⟨#[97]⟩
def nK : ByteArray := ⟨#[107]⟩
/-- It is called a, and has configuration 1 alone. -/
def Sing (m : MMem) : Prop := m.name = nA ∧ (m.L = [] ∨ ∃ L s, m.L = [(1, L, s)])
theorem nK_name : isN nK = true := by decide +kernel
theorem Sing.held {m : MMem} (h : Sing m) : ∃ L s, m.held 1 = some ⟨nA, [(1, L, s)]⟩ ∧ cfdI m.L 1 = 0 := by
  obtain ⟨nm, l⟩ := m
  obtain ⟨h1, h2⟩ := h
  dsimp only at h1 h2
  subst h1
  rcases h2 with rfl | ⟨L, s, rfl⟩
  · exact ⟨[], false, rfl, rfl⟩
  · exact ⟨L, s, rfl, rfl⟩
theorem Sing.hear {m : MMem} (h : Sing m) {x : Msg} (hc : x.config = 1) : Sing (m.hear x).1 := by
  unfold MMem.hear
  split
  · exact h
  · obtain ⟨L, s, e1, e2⟩ := h.held
    rw [hc, e1, e2]
    show Sing (MMem.does ⟨nA, [(1, L, s)]⟩ 0 x).1
    unfold MMem.does
    split
    · exact ⟨rfl, Or.inr ⟨L, s, rfl⟩⟩
    · split
      · exact ⟨rfl, Or.inr ⟨L, true, rfl⟩⟩
      · exact ⟨rfl, Or.inr ⟨_, s, rfl⟩⟩
def look1 : Msg := ⟨⟨#[99, 48]⟩, nA, kLook, nK, 0, 1, false, []⟩
def seal1 : Msg := ⟨⟨#[109, 111, 118, 101, 114]⟩, nA, kSeal, nK, 0, 1, false, []⟩
def keep1 (v : Ver) : Msg := ⟨⟨#[99, 48]⟩, nA, kKeep, nK, 0, 1, false, [v]⟩
/-- Of what is for it, and is asked for. -/
theorem Sing.yes {m my : MMem} {x : Msg} (hn : m.name = nA) (h1 : x.to_ = nA) (h2 : x.key = nK) (h3 : x.config = 1) (h4 : ¬ oddK x) (h5 : m.held 1 = some my) : m.hear x = my.does (cfdI m.L 1) x := by
  have hno : ¬ (m.off x ∨ oddK x) := by
    rintro (h | h)
    · rcases h with h | h | h
      · exact h (by rw [h1, hn])
      · rw [h3] at h; exact absurd h (by decide)
      · rw [h2, nK_name] at h; cases h
    · exact h4 h
  unfold MMem.hear
  rw [if_neg hno, h3, h5]
theorem seals {m : MMem} (h : Sing m) (v : Ver) : ∃ L s m1 m2 m3 m4, m.hear look1 = (m1, [⟨nA, ⟨#[99, 48]⟩, kTold, nK, 0, 1, s, getL L nK⟩]) ∧ m1.hear seal1 = (m2, [⟨nA, ⟨#[109, 111, 118, 101, 114]⟩, kShut, nK, 0, 1, false, getL L nK⟩]) ∧ m2.hear (keep1 v) = (m3, [⟨nA, ⟨#[99, 48]⟩, kKept, nK, 0, 1, true, []⟩]) ∧ m3.hear look1 = (m4, [⟨nA, ⟨#[99, 48]⟩, kTold, nK, 0, 1, true, getL L nK⟩]) := by
  obtain ⟨L, s, e1, e2⟩ := h.held
  have o1 : ¬ oddK look1 := fun h => h.1 rfl
  have o2 : ¬ oddK seal1 := fun h => h.2.1 rfl
  have o3 : ¬ oddK (keep1 v) := fun h => h.2.2.elim (fun h => h rfl) (fun h => h rfl)
  have n1 : ¬ kSeal = kLook := by decide +kernel
  have n2 : ¬ kKeep = kLook := by decide +kernel
  have n3 : ¬ kKeep = kSeal := by decide +kernel
  refine ⟨L, s, ⟨nA, [(1, L, s)]⟩, ⟨nA, [(1, L, true)]⟩, ⟨nA, [(1, L, true)]⟩, ⟨nA, [(1, L, true)]⟩, ?_, ?_, ?_, ?_⟩
  · rw [Sing.yes (my := ⟨nA, [(1, L, s)]⟩) h.1 rfl rfl rfl o1 e1, e2]
    unfold MMem.does
    rw [if_pos (show look1.kind = kLook from rfl)]
    rfl
  · rw [Sing.yes (m := ⟨nA, [(1, L, s)]⟩) (my := ⟨nA, [(1, L, s)]⟩) rfl rfl rfl rfl o2 rfl]
    unfold MMem.does
    rw [if_neg (show ¬ seal1.kind = kLook from n1), if_pos (show seal1.kind = kSeal from rfl)]
    rfl
  · rw [Sing.yes (m := ⟨nA, [(1, L, true)]⟩) (my := ⟨nA, [(1, L, true)]⟩) rfl rfl rfl rfl o3 rfl]
    unfold MMem.does
    rw [if_neg (show ¬ (keep1 v).kind = kLook from n2), if_neg (show ¬ (keep1 v).kind = kSeal from n3)]
    rfl
  · rw [Sing.yes (m := ⟨nA, [(1, L, true)]⟩) (my := ⟨nA, [(1, L, true)]⟩) rfl rfl rfl rfl o1 rfl]
    unfold MMem.does
    rw [if_pos (show look1.kind = kLook from rfl)]
    rfl
end Go.Proofs.YtcoecfpkihakoaaDoor
/- What package serve is asked to answer, of messages. -/
namespace Go.Proofs.YtcoecfpkihakoaaDoor
open Go.RowKit
/-- A message that a machine can bear: no text and no list has more bytes than memory. -/
def MsgR (x : Msg) : Prop := (x.from_.size ≤ 140737488351232 ∧ x.to_.size ≤ 140737488351232 ∧ x.kind.size ≤ 140737488351232 ∧ x.key.size ≤ 140737488351232) ∧ x.L.length ≤ 2932031007317 ∧ ∀ v ∈ x.L, v.text.size ≤ 140737488351232
/-- In the world w the messages l lie from p on, in blocks that are O. -/
def MsgsO (O : Nat → Prop) (w : World) (p : Option Addr) (l : List Msg) : Prop := ∃ ml : List (Msg × Lv), ml.map Prod.fst = l ∧ Rec mE w p ml ∧ (∀ x ∈ ml, HasL w x ∧ ∀ b o, x.2.1 = some ⟨b, o, none⟩ → O b) ∧ ∀ b o, p = some ⟨b, o, none⟩ → O b
theorem MsgsO.mono {O O' : Nat → Prop} {w : World} {p : Option Addr} {l : List Msg} (h : MsgsO O w p l) (hO : ∀ b, O b → O' b) : MsgsO O' w p l := by
  obtain ⟨ml, h1, h2, h3, h4⟩ := h
  exact ⟨ml, h1, h2, fun x hx => ⟨(h3 x hx).1, fun b o e => hO b ((h3 x hx).2 b o e)⟩, fun b o e => hO b (h4 b o e)⟩
theorem MsgsO.new {B : Nat} {O : Nat → Prop} {w : World} {p : Option Addr} {l : List Msg} (h : MsgsO O w p l) (hO : ∀ b, O b → B ≤ b) : MsgsN B w p l := h.mono hO
theorem MsgsO.nil (O : Nat → Prop) (w : World) : MsgsO O w none [] := ⟨[], rfl, Rec.nil _ _, (fun x hx => by cases hx), (fun b o e => by cases e)⟩
/-- Where those blocks are not written. -/
theorem MsgsO.keep {O : Nat → Prop} {w w' : World} {p : Option Addr} {l : List Msg} (h : MsgsO O w p l) (hs : w.heap.size ≤ w'.heap.size) (hk : ∀ k, k < w.heap.size → O k → w'.heap[k]? = w.heap[k]?) : MsgsO O w' p l := by
  obtain ⟨ml, h1, h2, h3, h4⟩ := h
  refine ⟨ml, h1, ?_, fun x hx => ⟨?_, (h3 x hx).2⟩, h4⟩
  · rcases h2 with h0 | ⟨b, o, hp, hlt, hc⟩
    · exact Or.inl h0
    · exact Or.inr ⟨b, o, hp, Nat.lt_of_lt_of_le hlt hs, fun j x hx jj u hu => (World.cell?_of_block (a := ⟨b, o + j * mE.k + jj, none⟩) (hk b hlt (h4 b o hp))).trans (hc j x hx jj u hu)⟩
  · obtain ⟨g1, g2⟩ := h3 x hx
    refine ⟨g1.len, ?_, g1.room, g1.empty⟩
    rcases g1.recs with h0 | ⟨b, o, hp, hlt, hc⟩
    · exact Or.inl h0
    · exact Or.inr ⟨b, o, hp, Nat.lt_of_lt_of_le hlt hs, fun j y hy jj u hu => (World.cell?_of_block (a := ⟨b, o + j * verE.k + jj, none⟩) (hk b hlt (g2 b o hp))).trans (hc j y hy jj u hu)⟩
/-- Sv w B h S m: in the world w block h is the member m, what it has of its own lies in the blocks of S, from B on. X: what is asked of the world besides. Hd: what a hold is. -/
structure ServeOk0 (ad : Nat → Addr) (X : World → Prop) (Hd : World → Nat → (Nat → Prop) → List Kep → Bool → Prop) (Sv : World → Nat → Nat → (Nat → Prop) → MMem → Prop) : Prop where
  inS : ∀ {w B h S m}, Sv w B h S m → ∀ k, S k → B ≤ k ∧ k < w.heap.size
  keep : ∀ {w w' B h S m}, Sv w B h S m → Below B w w' → (∀ k, S k → w'.heap[k]? = w.heap[k]?) → Sv w' B h S m
  new : ∀ (name : ByteArray) (w : World), name.size ≤ 1000 → X w → Calls Tryd.prog 6 #[.string name] w fun e w' => ((isN name = true ∧ ∃ h S, e = .returned (.tuple #[.pointer (some ⟨h, 0, none⟩), .nilIface]) ∧ Sv w' w.heap.size h S ⟨name, []⟩) ∨ (isN name = false ∧ ∃ ev, e = .returned (.tuple #[.pointer none, ev]) ∧ BareIs ad ev 4)) ∧ Below w.heap.size w w'
  hear : ∀ {w B h S m} (x : Msg × Lv), Sv w B h S m → m.Fine → HasL w x → (∀ b o, x.2.1 = some ⟨b, o, none⟩ → ¬ S b) → MsgR x.1 → CfIn x.1.config → (∀ W : World, w.heap.size ≤ W.heap.size → (∀ k, k < w.heap.size → ¬ S k → W.heap[k]? = w.heap[k]?) → X W) → Calls Tryd.prog 8 #[.pointer (some ⟨h, 0, none⟩), msgA x.1 (lvV x.2)] w fun e w' => ∃ p c S', e = .returned (.slice p (m.hear x.1).2.length c) ∧ MsgsO (fun b => w.heap.size ≤ b ∧ b < w'.heap.size ∧ ¬ S' b) w' p (m.hear x.1).2 ∧ Sv w' B h S' (m.hear x.1).1 ∧ Upd S S' w w'
  hold : ∀ {w B h S m} (c : Int), CfIn c → Sv w B h S m → Calls Tryd.prog 10 #[.pointer (some ⟨h, 0, none⟩), .int .i64 c] w fun e w' => ((cfdI m.L c < m.L.length ∧ ∃ hb Sh, e = .returned (.pointer (some ⟨hb, 0, none⟩)) ∧ Hd w' hb Sh (cfdAt m.L (cfdI m.L c)).2.1 (cfdAt m.L (cfdI m.L c)).2.2 ∧ ∀ k, Sh k → S k) ∨ (¬ cfdI m.L c < m.L.length ∧ e = .returned (.pointer none))) ∧ Below w.heap.size w w'
end Go.Proofs.YtcoecfpkihakoaaDoor
/- What came in, of the laws of package serve. -/
namespace Go.Proofs.YtcoecfpkihakoaaDoor
open Go.RowKit
/-- What came in. -/
structure SvIn (X : World → Prop) (l : List Msg) (lp : Option Addr) (w : World) : Prop where
  errs : ∀ V : World, w.heap.size ≤ V.heap.size → (∀ k, k < w.heap.size → V.heap[k]? = w.heap[k]?) → X V
  few : l.length ≤ 140737488351232
  room : ∀ m ∈ l, MsgR m
  msgs : MsgsAt w lp l
  ints : ∀ m ∈ l, CfIn m.config
end Go.Proofs.YtcoecfpkihakoaaDoor
/- How much a message is, reckoned in an int, whatever it is. -/
namespace Go.Proofs.YtcoecfpkihakoaaDoor
open Go.RowKit
/-- The sum as an int holds it. -/
def wbulkV (z : Int) (l : List Ver) : Int := l.foldl (fun z v => wrap64 (wrap64 (z + 40) + (v.text.size : Int))) z
def wbulkN (m : Msg) : Int := wbulkV ((m.from_.size : Int) + m.to_.size + m.kind.size + m.key.size) m.L
theorem wbulkV_take {z : Int} {l : List Ver} {i : Nat} (h : i < l.length) : wbulkV z (l.take (i + 1)) = wrap64 (wrap64 (wbulkV z (l.take i) + 40) + ((verAt l i).text.size : Int)) := by
  unfold wbulkV
  rw [List.take_add_one, verAt_get h, List.foldl_append]
  rfl
set_option maxRecDepth 10000 in
set_option maxHeartbeats 4000000 in
theorem bulk_all (m : Msg) (p : Option Addr) (c : Nat) (w : World) (hr : Rec verE w p m.L) (hl : MsgR m) :
    Calls Tryd.prog 11 #[msgA m (.slice p m.L.length c)] w fun e w' => e = .returned (.int .i64 (wbulkN m)) ∧ Below w.heap.size w w' := by
  obtain ⟨m1, m2, m3, m4, m5, m6, m7, mL⟩ := m
  unfold msgA
  unfold wbulkN
  obtain ⟨⟨l1, l2, l3, l4⟩, l5, l6⟩ := hl
  simp only [] at *
  obtain ⟨w1, hw1⟩ : ∃ w1, w1 = w.alloc (.cells #[.string m1, .string m2, .string m3, .string m4, .int .i64 m5, .int .i64 m6, .bool m7, .slice p mL.length c] 40) := ⟨_, rfl⟩
  have HW1 : Hid (w1 = w.alloc (.cells #[.string m1, .string m2, .string m3, .string m4, .int .i64 m5, .int .i64 m6, .bool m7, .slice p mL.length c] 40)) := hw1
  have hb1 : Below w.heap.size w w1 := by rw [hw1]; exact (Below.refl _ _).alloc (Nat.le_refl _) _
  have q7 : w1.cell? ⟨w.heap.size, 7, none⟩ = some (.slice p mL.length c) := by rw [hw1, World.cell?_alloc_at _ _ _ _ rfl]; rfl
  have HR : Hid (Rec verE w1 p mL) := hr.below hb1
  have HB1 : Hid (Below w.heap.size w w1) := hb1
  have HTX : Hid (∀ v ∈ mL, v.text.size ≤ 140737488351232) := l6
  obtain ⟨z0, hz0⟩ : ∃ z : Int, z = (m1.size : Int) + m2.size + m3.size + m4.size := ⟨_, rfl⟩
  have HZ0 : Hid (z0 = (m1.size : Int) + m2.size + m3.size + m4.size) := hz0
  rw [← hz0]
  have HNX : Hid (∀ i, i < mL.length → wbulkV z0 (mL.take (i + 1)) = wrap64 (wrap64 (wbulkV z0 (mL.take i) + 40) + ((verAt mL i).text.size : Int))) := fun i hi => wbulkV_take hi
  have HEN : Hid (wbulkV z0 (mL.take mL.length) = wbulkV z0 mL) := by show _ = _; rw [List.take_length]
  clear l6
  clear hw1 hb1 hr hz0
  go_enter Tryd.func11, Tryd.ntmps11
  go_wp2
  rw [show w.alloc (.cells #[.string m1, .string m2, .string m3, .string m4, .int .i64 m5, .int .i64 m6, .bool m7, .slice p mL.length c] 40) = w1 from HW1.out.symm]
  clear HW1
  go_loopw [3, 4] (fun x i wr => ∃ k : Nat, k ≤ mL.length ∧ i = .int .i64 k ∧ x = .int .i64 (wbulkV z0 (mL.take k)) ∧ wr = w1) (fun _ i _ => mL.length - (intOf i).toNat)
  case atStart => exact ⟨0, Nat.zero_le _, rfl, by rw [show wbulkV z0 (mL.take 0) = z0 from rfl, HZ0.out], rfl⟩
  case round =>
    obtain ⟨k, hk, rfl, rfl, hwr⟩ := hrel
    subst hwr
    by_cases hkl : k < mL.length
    · obtain ⟨b, o, hpp, hblt, c0, c1, c2, c3, c4⟩ := ver_cells HR.out hkl
      subst hpp
      have HNXT : Hid (wbulkV z0 (mL.take (k + 1)) = wrap64 (wrap64 (wbulkV z0 (mL.take k) + 40) + ((verAt mL k).text.size : Int))) := HNX.out k hkl
      have hts : (verAt mL k).text.size ≤ 140737488351232 := HTX.out _ (List.mem_of_getElem? (verAt_get hkl))
      generalize verAt mL k = x at *
      obtain ⟨xn, xw, xs, xa, xt⟩ := x
      simp only [] at *
      generalize wbulkV z0 (mL.take k) = q at *
      go_wp2
      go_roundw
      case rel => exact ⟨k + 1, by omega, by go_num, by rw [HNXT.out], trivial⟩
      case measure => simp [intOf]; omega
    · obtain rfl : k = mL.length := by omega
      rw [HEN.out]
      go_wp2
      go_ret
      exact ⟨rfl, HB1.out⟩
end Go.Proofs.YtcoecfpkihakoaaDoor
/- The laws' own first look at package serve: a member answers. -/
namespace Go.Proofs.YtcoecfpkihakoaaDoor
open Go.RowKit
def mem0 : MMem := ⟨⟨#[97]⟩, []⟩
def msg0 : Msg := ⟨⟨#[99, 48]⟩, ⟨#[97]⟩, ⟨#[108, 111, 111, 107]⟩, ⟨#[107]⟩, 0, 0, false, []⟩
theorem isN_a : isN ⟨#[97]⟩ = true := by decide +kernel
theorem isN_k : isN ⟨#[107]⟩ = true := by decide +kernel
theorem hear0 : mem0.hear msg0 = (⟨⟨#[97]⟩, [(0, [], false)]⟩, [⟨⟨#[97]⟩, ⟨#[99, 48]⟩, ⟨#[116, 111, 108, 100]⟩, ⟨#[107]⟩, 0, 0, false, []⟩]) := by
  have h1 : ¬ (mem0.off msg0 ∨ oddK msg0) := by
    rintro (h | h)
    · rcases h with h | h | h
      · exact h rfl
      · exact absurd h (by decide)
      · rw [show isN msg0.key = true from isN_k] at h; cases h
    · exact h.1 rfl
  unfold MMem.hear
  rw [if_neg h1]
  rfl
theorem bulk0 : MsgR msg0 := ⟨⟨by decide, by decide, by decide, by decide⟩, by decide, fun v hv => by cases hv⟩
set_option maxRecDepth 10000 in
set_option maxHeartbeats 4000000 in
theorem answers_any {ad : Nat → Addr} {X : World → Prop} {Hd : World → Nat → (Nat → Prop) → List Kep → Bool → Prop} {Sv : World → Nat → Nat → (Nat → Prop) → MMem → Prop} (hO : ServeOk0 ad X Hd Sv) (w : World) (hX : ∀ V : World, w.heap.size ≤ V.heap.size → (∀ k, k < w.heap.size → V.heap[k]? = w.heap[k]?) → X V) :
    Calls Tryd.prog 4 #[] w fun e w' => e = .returned (.bool true) ∧ Below w.heap.size w w' := by
  have HN := hO.new ⟨#[97]⟩ w (by decide) (hX w (Nat.le_refl _) (fun _ _ => rfl))
  have HO : Hid (ServeOk0 ad X Hd Sv) := hO
  have HX : Hid (∀ V : World, w.heap.size ≤ V.heap.size → (∀ k, k < w.heap.size → V.heap[k]? = w.heap[k]?) → X V) := hX
  clear hO hX
  go_enter Tryd.func4, Tryd.ntmps4
  go_wp2_with fail
  refine HN.mono ?_
  rintro e w1 ⟨hq, hb1⟩
  rcases hq with ⟨_, h, S, rfl, hS1⟩ | ⟨hn, _⟩
  rotate_left
  · rw [isN_a] at hn; cases hn
  have hin := HO.out.inS hS1
  have HHE := HO.out.hear (msg0, (none, 0, 0)) hS1 (MMem.Fine.nil _) ⟨rfl, Or.inl rfl, Nat.le_refl _, fun _ => ⟨rfl, rfl⟩⟩ (fun b o e => by cases e) bulk0 ⟨by decide, by decide⟩ (fun V hs hk => HX.out V (Nat.le_trans hb1.size hs) (fun k hk0 => (hk k (Nat.lt_of_lt_of_le hk0 hb1.size) (fun hS => by have := (hin k hS).1; omega)).trans (hb1.block k hk0)))
  have HIN : Hid (∀ k, S k → w.heap.size ≤ k ∧ k < w1.heap.size) := hin
  have HB1 : Hid (Below w.heap.size w w1) := hb1
  clear hS1 hb1 HN hin
  go_wp2_with fail
  refine HHE.mono ?_
  rintro e w2 ⟨p, c, S', rfl, hm, hA2, hu⟩
  have eh : MMem.hear ⟨⟨#[97]⟩, []⟩ msg0 = (⟨⟨#[97]⟩, [(0, [], false)]⟩, [⟨⟨#[97]⟩, ⟨#[99, 48]⟩, ⟨#[116, 111, 108, 100]⟩, ⟨#[107]⟩, 0, 0, false, []⟩]) := hear0
  rw [eh] at hm hA2 ⊢
  have HB2 : Hid (Below w.heap.size w w2) := HB1.out.trans ⟨hu.os, hu.tape, hu.output, hu.size, fun k hk => hu.block k (Nat.lt_of_lt_of_le hk HB1.out.size) (fun hs => by have := (HIN.out k hs).1; omega)⟩
  obtain ⟨ml, hml, hr, _⟩ := hm
  obtain ⟨x, rfl⟩ : ∃ x, ml = [x] := List.length_eq_one_iff.1 (by have := congrArg List.length hml; simpa using this)
  have hx : x.1 = ⟨⟨#[97]⟩, ⟨#[99, 48]⟩, ⟨#[116, 111, 108, 100]⟩, ⟨#[107]⟩, 0, 0, false, []⟩ := by simpa using hml
  obtain ⟨b, o, hpp, hblt, d0, d1, d2, d3, d4, d5, d6, d7⟩ := msg_cells hr (i := 0) (by simp)
  simp only [List.getElem_cons_zero, hx, Nat.zero_mul, Nat.add_zero] at d1 d2
  have HH0 : Hid (Calls Tryd.prog 10 #[.pointer (some ⟨h, 0, none⟩), .int .i64 0] w2 fun e w' => ∃ hb, e = .returned (.pointer (some ⟨hb, 0, none⟩)) ∧ Below w2.heap.size w2 w') := by
    refine (HO.out.hold 0 ⟨by decide, by decide⟩ hA2).mono fun e w' hq => ?_
    obtain ⟨hq, hb⟩ := hq
    rcases hq with ⟨_, hb', Sh, e1, _⟩ | ⟨hn, _⟩
    · exact ⟨hb', e1, hb⟩
    · exact absurd (by decide) hn
  have HH1 : Hid (∀ W, Below w2.heap.size w2 W → Calls Tryd.prog 10 #[.pointer (some ⟨h, 0, none⟩), .int .i64 1] W fun e w' => e = .returned (.pointer none) ∧ Below W.heap.size W w') := fun W hW => by
    have hin2 := HO.out.inS hA2
    refine (HO.out.hold 1 ⟨by decide, by decide⟩ (HO.out.keep hA2 (hW.mono HB2.out.size) (fun k hk => hW.block k (hin2 k hk).2))).mono fun e w' hq => ?_
    obtain ⟨hq, hb⟩ := hq
    rcases hq with ⟨hn, _⟩ | ⟨_, e1⟩
    · exact absurd hn (by decide)
    · exact ⟨e1, hb⟩
  subst hpp
  clear hr hml hx d0 d3 d4 d5 d6 d7 hA2 hu HHE eh
  go_wp2_with fail
  refine HH0.out.mono ?_
  rintro e w4 ⟨hb, rfl, hb4⟩
  have HH2 := HH1.out w4 hb4
  have HB4 : Hid (Below w.heap.size w w4) := HB2.out.trans (hb4.mono HB2.out.size)
  clear HH0 HH1 hb4
  go_wp2_with fail
  refine HH2.mono ?_
  rintro e w5 ⟨rfl, hb5⟩
  have HB5 : Hid (Below w.heap.size w w5) := HB4.out.trans (hb5.mono HB4.out.size)
  clear hb5 HH2
  go_wp2
  go_ret
  exact ⟨rfl, HB5.out⟩
end Go.Proofs.YtcoecfpkihakoaaDoor
/- Holds by the configuration's number: a map of pointers. -/
namespace Go.Proofs.YtcoecfpkihakoaaDoor
open Go.RowKit
def litI (c : Int) : Lit := .int .i64 c
theorem litI_inj {c d : Int} (h : litI c = litI d) : c = d := by
  unfold litI at h
  injection h
theorem litI_key (c : Int) : WideAt.IsKeyLit (litI c) := trivial
theorem keyedI : Maps.Keyed Tryd.prog 3 := Maps.int_keyed Tryd.underlying3
theorem wf_int {a : Int} (h : CfIn a) : (Lit.int .i64 a).wf = true := by
  simp [Lit.wf, IntKind.min, IntKind.max, IntKind.bits, IntKind.signed]
  exact h
theorem keyOfI {c : Int} (h : CfIn c) : keyOf Tryd.prog 3 (.int .i64 c) = some (litI c) := Maps.keyOf_int_mk Tryd.underlying3 (wf_int h)
abbrev OwnIM (w : World) (b n : Nat) (D : DataW Value) : Prop := w.ownsMap Tryd.prog 3 anyR b n D
theorem OwnIM.same {w w' : World} {b n : Nat} {D : DataW Value} (h : OwnIM w b n D) (hb : w'.heap[b]? = w.heap[b]?) : OwnIM w' b n D := by
  obtain ⟨es, clock, h1, h2⟩ := h
  exact ⟨es, clock, hb.trans h1, h2⟩
/-- In the world w block b is a map of the holds L: that of number i lies in block hb i. -/
structure CfAt (w : World) (b : Nat) (L : List Cfd) (D : DataW Value) (hb : Nat → Nat) : Prop where
  own : ∃ n, n ≤ 1000 ∧ OwnIM w b n D
  has : ∀ c, CfIn c → Maps.has D (litI c) = decide (cfdI L c < L.length)
  at_ : ∀ i, i < L.length → ∀ z, D.atKey (litI (cfdAt L i).1) z = .held (.pointer (some ⟨hb i, 0, none⟩))
  size : Maps.size D = L.length
variable {w w' : World} {b : Nat} {L : List Cfd} {D : DataW Value} {hb : Nat → Nat}
theorem CfAt.same (h : CfAt w b L D hb) (e : w'.heap[b]? = w.heap[b]?) : CfAt w' b L D hb := by
  obtain ⟨n, hn0, hn⟩ := h.own
  exact ⟨⟨n, hn0, hn.same e⟩, h.has, h.at_, h.size⟩
theorem CfAt.lt (h : CfAt w b L D hb) : b < w.heap.size := by
  obtain ⟨n, _, hn⟩ := h.own
  exact World.ownsMap.lt hn
theorem CfAt.empty (w : World) (hb : Nat → Nat) : CfAt (w.alloc (.map #[] 0)) w.heap.size [] (.map []) hb :=
  ⟨⟨0, Nat.zero_le _, World.ownsMap_made w Tryd.prog 3 anyR⟩, fun _ _ => rfl, fun _ hi => absurd hi (Nat.not_lt_zero _), rfl⟩
/-- The hold of a configuration. -/
def cfP (L : List Cfd) (hb : Nat → Nat) (c : Int) : Value := .pointer (if cfdI L c < L.length then some ⟨hb (cfdI L c), 0, none⟩ else none)
set_option maxRecDepth 10000 in
theorem CfAt.look (h : CfAt w b L D hb) {c : Int} (hc : CfIn c) : (Instr.lookup 50 (.map (some b)) (.int .i64 c) false).run Tryd.prog w = .ok (cfP L hb c) w := by
  have hz : (zeroValue 45).run Tryd.prog w = .ok (.pointer none) w := by kernel_rfl
  obtain ⟨n, _, h3⟩ := h.own
  obtain ⟨v, ps, hrun, hR⟩ := World.ownsMap.lookup h3 keyedI Tryd.underlying50 hz (zd := .held (.pointer none)) (zp := []) rfl (keyOfI hc)
  rw [hrun]
  have e : DataW.held v = D.atKey (litI c) (.held (.pointer none)) := congrArg Prod.fst (Option.some.inj hR)
  unfold cfP
  by_cases hg : cfdI L c < L.length
  · rw [if_pos hg]
    have := h.at_ _ hg (.held (.pointer none))
    rw [cfdI_here hg] at this
    rw [this] at e
    injection e with e
    rw [e]
  · rw [if_neg hg]
    rw [Maps.atKey_of_not_has (by rw [h.has c hc]; exact decide_eq_false hg)] at e
    injection e with e
    rw [e]
set_option maxRecDepth 10000 in
theorem CfAt.look2 (h : CfAt w b L D hb) {c : Int} (hc : CfIn c) : (Instr.lookup 50 (.map (some b)) (.int .i64 c) true).run Tryd.prog w = .ok (.tuple #[cfP L hb c, .bool (decide (cfdI L c < L.length))]) w := by
  have hz : (zeroValue 45).run Tryd.prog w = .ok (.pointer none) w := by kernel_rfl
  obtain ⟨n, _, h3⟩ := h.own
  obtain ⟨v, ps, hrun, hR⟩ := World.ownsMap.look_ok h3 keyedI Tryd.underlying50 hz (zd := .held (.pointer none)) (zp := []) rfl (keyOfI hc)
  rw [hrun, h.has c hc]
  have e : DataW.held v = D.atKey (litI c) (.held (.pointer none)) := congrArg Prod.fst (Option.some.inj hR)
  unfold cfP
  by_cases hg : cfdI L c < L.length
  · rw [if_pos hg]
    have := h.at_ _ hg (.held (.pointer none))
    rw [cfdI_here hg] at this
    rw [this] at e
    injection e with e
    rw [e]
  · rw [if_neg hg]
    rw [Maps.atKey_of_not_has (by rw [h.has c hc]; exact decide_eq_false hg)] at e
    injection e with e
    rw [e]
set_option maxRecDepth 10000 in
/-- Where there is no map. -/
theorem look_nilI (w : World) {c : Int} (hc : CfIn c) : (Instr.lookup 50 (.map none) (.int .i64 c) false).run Tryd.prog w = .ok (.pointer none) w := by
  have hz : (zeroValue 45).run Tryd.prog w = .ok (.pointer none) w := by kernel_rfl
  have := Maps.look_nil (w := w) false keyedI Tryd.underlying50 hz (keyOfI hc)
  rw [this]
  rfl
theorem CfAt.len (h : CfAt w b L D hb) (ty : TypeId) : (Builtin.len_ #[50] ty #[.map (some b)]).run Tryd.prog w = .ok (.int .i64 (L.length : Nat)) w := by
  obtain ⟨n, _, h3⟩ := h.own
  rw [World.ownsMap.len h3 Tryd.underlying50 ty, h.size]
/-- One more: what is told then. -/
theorem CfAt.put (h : CfAt w b L D hb) {c : Int} (hc : CfIn c) (hn : ¬ cfdI L c < L.length) (k : Nat) (x : List Kep × Bool) (hw : ∃ n, n ≤ 1000 ∧ OwnIM w' b n (D.put (litI c) (.held (.pointer (some ⟨k, 0, none⟩))))) :
    CfAt w' b (L ++ [(c, x)]) (D.put (litI c) (.held (.pointer (some ⟨k, 0, none⟩)))) (fun i => if i = L.length then k else hb i) := by
  obtain ⟨n, _, h3⟩ := h.own
  have ht := World.ownsMap.tidy h3 keyedI
  have hm := World.ownsMap.isMap h3
  have hL : (L ++ [(c, x)]).length = L.length + 1 := by rw [List.length_append]; rfl
  have hno : ∀ i, i < L.length → (cfdAt L i).1 ≠ c := fun i hi => cfdI_before (by omega)
  refine ⟨hw, fun d hd => ?_, fun i hi z => ?_, ?_⟩
  · by_cases e : d = c
    · subst e
      rw [Maps.has_put_same hm (litI_key d)]
      symm
      refine decide_eq_true ?_
      rcases Nat.lt_or_ge (cfdI (L ++ [(d, x)]) d) (L ++ [(d, x)]).length with h1 | h1
      · exact h1
      · refine absurd ?_ (cfdI_before (L := L ++ [(d, x)]) (c := d) (i := L.length) (by omega))
        rw [cfdAt_app, if_neg (Nat.lt_irrefl _), if_pos rfl]
    · rw [Maps.has_put_other (fun he => e (litI_inj he)), h.has d hd]
      by_cases hg : cfdI L d < L.length
      · rw [decide_eq_true hg]
        symm
        refine decide_eq_true ?_
        rcases Nat.lt_or_ge (cfdI (L ++ [(c, x)]) d) (L ++ [(c, x)]).length with h1 | h1
        · exact h1
        · refine absurd ?_ (cfdI_before (L := L ++ [(c, x)]) (c := d) (i := cfdI L d) (by omega))
          rw [cfdAt_app, if_pos hg]
          exact cfdI_here hg
      · rw [decide_eq_false hg]
        symm
        refine decide_eq_false (cfdI_none fun i hi => ?_)
        rw [cfdAt_app]
        by_cases h1 : i < L.length
        · rw [if_pos h1]
          exact cfdI_before (by omega)
        · rw [if_neg h1, if_pos (by omega)]
          exact fun h2 => e h2.symm
  · rw [hL] at hi
    rw [cfdAt_app]
    by_cases h1 : i < L.length
    · rw [if_pos h1, if_neg (by omega), Maps.atKey_put_other (fun he => hno i h1 (litI_inj he))]
      exact h.at_ i h1 z
    · rw [if_neg h1, if_pos (by omega), if_pos (by omega), Maps.atKey_put_same hm (litI_key c)]
  · have e1 : Maps.has D (litI c) = false := by rw [h.has c hc]; exact decide_eq_false hn
    rw [Maps.size_put ht, e1, h.size, hL]
    simp
set_option maxRecDepth 10000 in
theorem CfAt.step (h : CfAt w b L D hb) {c : Int} (hc : CfIn c) (hl : L.length ≤ 100) (k : Nat) : ∃ w1, (Instr.mapUpdate 50 (.map (some b)) (.int .i64 c) (.pointer (some ⟨k, 0, none⟩))).run Tryd.prog w = .ok () w1 ∧ (∃ n, n ≤ 1000 ∧ OwnIM w1 b n (D.put (litI c) (.held (.pointer (some ⟨k, 0, none⟩))))) ∧ w.grownBy w1 (some b) := by
  obtain ⟨n, hn, h3⟩ := h.own
  have h4 : OwnIM w b L.length D := by
    obtain ⟨es, clock, g1, F, g2, rfl⟩ := h3
    refine ⟨es, clock, g1, F, ?_, rfl⟩
    have := h.size
    rw [Maps.size_eq, length_sorted] at this
    simp at this
    omega
  obtain ⟨w1, hrun, hown, hg⟩ := World.ownsMap.update h4 keyedI Tryd.underlying50 (by unfold maxLen; omega) (keyOfI hc) (val := .pointer (some ⟨k, 0, none⟩)) (d := .held (.pointer (some ⟨k, 0, none⟩))) (ps := []) rfl
  exact ⟨w1, hrun, ⟨_, by omega, hown⟩, hg⟩
end Go.Proofs.YtcoecfpkihakoaaDoor
/- The statements' own: are messages few, and short? Reckoned in an int, whatever they are. -/
namespace Go.Proofs.YtcoecfpkihakoaaDoor
open Go.RowKit
/-- How much messages weigh, as an int holds it. -/
def wsumM (l : List Msg) : Int := l.foldl (fun z m => wrap64 (wrap64 (z + 20) + wbulkN m)) 0
def fitsX (l : List Msg) : Bool := !(l.any fun m => m.L.any bigV) && decide (wsumM l < 6000)
theorem wsumM_take {l : List Msg} {m : Msg} {i : Nat} (h : l[i]? = some m) : wsumM (l.take (i + 1)) = wrap64 (wrap64 (wsumM (l.take i) + 20) + wbulkN m) := by
  unfold wsumM
  rw [List.take_add_one, h, List.foldl_append]
  rfl
theorem fitsX_big {l : List Msg} {m : Msg} (h : m ∈ l) (hb : m.L.any bigV = true) : fitsX l = false := by
  unfold fitsX
  have : (l.any fun m => m.L.any bigV) = true := List.any_eq_true.2 ⟨m, h, hb⟩
  rw [this]
  rfl
theorem fitsX_end {l : List Msg} (h : ∀ m ∈ l, m.L.any bigV = false) : fitsX l = decide (wsumM l < 6000) := by
  unfold fitsX
  have : (l.any fun m => m.L.any bigV) = false := List.any_eq_false.2 fun m hm hb => by rw [h m hm] at hb; cases hb
  rw [this]
  rfl
set_option maxRecDepth 10000 in
set_option maxHeartbeats 8000000 in
theorem messagesFit_all (p : Option Addr) (l : List Msg) (cap : Nat) (w : World) (hfew : l.length ≤ 140737488351232) (hroom : ∀ m ∈ l, MsgR m) (h : MsgsAt w p l) :
    Calls Tryd.prog 5 #[.slice p l.length cap] w fun e w' => e = .returned (.bool (fitsX l)) ∧ Below w.heap.size w w' := by
  obtain ⟨ml, hml, hr, hh⟩ := h
  have hlen : l.length = ml.length := by rw [← hml, List.length_map]
  have hmlen : ml.length ≤ 140737488351232 := by omega
  have HR : Hid (Rec mE w p ml) := hr
  have HH : Hid (∀ x ∈ ml, HasL w x) := hh
  have hmem : ∀ i, i < ml.length → (msgAt ml i).1 ∈ l := fun i hi => by rw [← hml]; exact List.mem_map.2 ⟨_, msgAt_mem hi, rfl⟩
  have HG : Hid (∀ i, i < ml.length → l[i]? = some (msgAt ml i).1) := fun i hi => by rw [← hml, List.getElem?_map, List.getElem?_eq_getElem hi, msgAt_get hi]; rfl
  have HWT : Hid (∀ i, i < ml.length → wsumM (l.take (i + 1)) = wrap64 (wrap64 (wsumM (l.take i) + 20) + wbulkN (msgAt ml i).1)) := fun i hi => wsumM_take (HG.out i hi)
  have HWO : Hid (∀ i, i < ml.length → MsgR (msgAt ml i).1) := fun i hi => hroom _ (hmem i hi)
  have HBG : Hid (∀ i, i < ml.length → (msgAt ml i).1.L.any bigV = true → fitsX l = false) := fun i hi hb => fitsX_big (hmem i hi) hb
  have HEN : Hid ((∀ i, i < ml.length → (msgAt ml i).1.L.any bigV = false) → fitsX l = decide (wsumM (l.take ml.length) < 6000)) := fun hall => by
    rw [← hlen, List.take_length]
    refine fitsX_end fun m hm => ?_
    rw [← hml] at hm
    obtain ⟨x, hx, rfl⟩ := List.mem_map.1 hm
    obtain ⟨i, hi, rfl⟩ := List.getElem_of_mem hx
    have := hall i hi
    rw [← msgAt_get hi] at this
    exact this
  have H0 : Hid (wsumM (l.take 0) = 0) := by show _ = _; rfl
  rw [hlen]
  generalize fitsX l = R at *
  have HBU : Hid (∀ (x : Msg × Lv) W, HasL W x → MsgR x.1 → Calls Tryd.prog 11 #[.agg #[.string x.1.from_, .string x.1.to_, .string x.1.kind, .string x.1.key, .int .i64 x.1.op, .int .i64 x.1.config, .bool x.1.shut, .slice x.2.1 x.2.2.1 x.2.2.2]] W fun e w' => e = .returned (.int .i64 (wbulkN x.1)) ∧ Below W.heap.size W w') := fun x W hx hb => by
    have h := bulk_all x.1 x.2.1 x.2.2.2 W hx.recs hb
    rw [hx.len]
    exact h
  clear hr hh hml hlen hmem HG hfew hroom
  go_enter Tryd.func5, Tryd.ntmps5
  go_wp2
  go_loopw [3, 4] (fun nv x wr => ∃ i : Nat, i ≤ ml.length ∧ x = .int .i64 i ∧ nv = .int .i64 (wsumM (l.take i)) ∧ (∀ j, j < i → (msgAt ml j).1.L.any bigV = false) ∧ Below w.heap.size w wr) (fun _ x _ => ml.length - (intOf x).toNat)
  case atStart => exact ⟨0, Nat.zero_le _, rfl, by rw [H0.out], fun j hj => absurd hj (Nat.not_lt_zero _), Below.refl _ _⟩
  case round =>
    obtain ⟨i, hi, rfl, rfl, hall, hB⟩ := hrel
    obtain ⟨w1, rfl⟩ : ∃ w1, w1 = wr := ⟨_, rfl⟩
    have HB : Hid (Below w.heap.size w w1) := hB
    have HALL : Hid (∀ j, j < i → (msgAt ml j).1.L.any bigV = false) := hall
    clear hall
    by_cases hil : i < ml.length
    · obtain ⟨b, o, hpp, hblt, d0, d1, d2, d3, d4, d5, d6, d7⟩ := msg_cells (HR.out.below hB) hil
      rw [msgAt_get hil] at d0 d1 d2 d3 d4 d5 d6 d7
      have hwo := HWO.out i hil
      have hwt := HWT.out i hil
      have HHX : Hid (HasL w (msgAt ml i)) := HH.out _ (msgAt_mem hil)
      have HBX := HBU.out (msgAt ml i) w1 (HHX.out.below hB) hwo
      have HWTI : Hid (wsumM (l.take (i + 1)) = wrap64 (wrap64 (wsumM (l.take i) + 20) + wbulkN (msgAt ml i).1)) := hwt
      have HBGI : Hid ((msgAt ml i).1.L.any bigV = true → R = false) := HBG.out i hil
      have HNX : Hid ((msgAt ml i).1.L.any bigV = false → ∀ j, j < i + 1 → (msgAt ml j).1.L.any bigV = false) := fun hb j hj => by
        by_cases e : j = i
        · rw [e]; exact hb
        · exact HALL.out j (by omega)
      have hln5 : (msgAt ml i).1.L.length ≤ 2932031007317 := hwo.2.1
      subst hpp
      clear hwt hwo hB HH HBU HWT HWO HBG HALL
      generalize msgAt ml i = x at *
      generalize wsumM (l.take i) = ni at *
      obtain ⟨⟨m1, m2, m3, m4, m5, m6, m7, mL⟩, lp, ln, lc⟩ := x
      have hln : ln = mL.length := HHX.out.len
      subst hln
      dsimp only at *
      generalize wbulkN ⟨m1, m2, m3, m4, m5, m6, m7, mL⟩ = bn at *
      have HCE : Hid (∀ W, Below w1.heap.size w1 W → W.cell? ⟨b, o + i * 8 + 7, none⟩ = some (.slice lp mL.length lc) ∧ Rec verE W lp mL ∧ Below w.heap.size w W) := fun W hW => ⟨(hW.cell (p := ⟨b, o + i * 8 + 7, none⟩) hblt).trans d7, (HHX.out.recs.below HB.out).below hW, HB.out.trans (hW.mono HB.out.size)⟩
      have HBI : Hid (∀ j, j < mL.length → bigV (verAt mL j) = true → mL.any bigV = true) := fun j hj hv => big_of_at hj hv
      have HBS : Hid (∀ j, j < mL.length → (mL.take (j + 1)).any bigV = ((mL.take j).any bigV || bigV (verAt mL j))) := fun j hj => big_succ hj
      have HTK : Hid (mL.take mL.length = mL) := List.take_length
      go_wp2_with fail
      refine HBX.mono ?_
      rintro e w2 ⟨rfl, hb2⟩
      have HB12 : Hid (Below w1.heap.size w1 w2) := hb2
      have q7 := (HCE.out w2 hb2).1
      clear HBX hb2 d0 d1 d2 d3 d4 d5 d6 d7
      go_wp2
      go_loopw [5] (fun y wr => ∃ j : Nat, j ≤ mL.length ∧ y = .int .i64 j ∧ (mL.take j).any bigV = false ∧ wr = w2) (fun y _ => mL.length - (intOf y).toNat)
      case atStart => exact ⟨0, Nat.zero_le _, rfl, rfl, rfl⟩
      case round =>
        obtain ⟨j, hj, rfl, hany, hwr⟩ := hrel
        subst hwr
        have HANY : Hid ((mL.take j).any bigV = false) := hany
        clear hany
        by_cases hjl : j < mL.length
        · obtain ⟨b', o', hpp, hblt', v0, v1, v2, v3, v4⟩ := ver_cells (HCE.out wr HB12.out).2.1 hjl
          subst hpp
          have HS := HBS.out j hjl
          have HI := HBI.out j hjl
          have HBE : Hid (bigV (verAt mL j) = decide (200 < (verAt mL j).size ∧ (verAt mL j).size ≤ 1000)) := by show _ = _; rfl
          rw [HANY.out, Bool.false_or] at HS
          have HSH : Hid ((mL.take (j + 1)).any bigV = bigV (verAt mL j)) := HS
          have HIH : Hid (bigV (verAt mL j) = true → mL.any bigV = true) := HI
          clear HS HI v0 v1 v3 v4
          generalize verAt mL j = x at *
          obtain ⟨xn, xw, xs, xa, xt⟩ := x
          dsimp only at v2 HBE
          by_cases h1 : 200 < xs
          · have d1 : decide (200 < xs) = true := decide_eq_true h1
            by_cases h2 : xs ≤ 1000
            · have d2 : decide (xs ≤ 1000) = true := decide_eq_true h2
              have HR0 : Hid (R = false) := HBGI.out (HIH.out (by rw [HBE.out]; exact decide_eq_true ⟨h1, h2⟩))
              go_wp2
              go_ret
              exact ⟨by rw [HR0.out]; rfl, (HCE.out wr HB12.out).2.2⟩
            · have d2 : decide (xs ≤ 1000) = false := decide_eq_false h2
              have HN : Hid ((mL.take (j + 1)).any bigV = false) := by show _ = _; rw [HSH.out, HBE.out]; exact decide_eq_false fun h => h2 h.2
              go_wp2
              go_roundw
              case rel => exact ⟨j + 1, by omega, by go_num, HN.out, trivial⟩
              case measure => simp [intOf]; omega
          · have d1 : decide (200 < xs) = false := decide_eq_false h1
            have HN : Hid ((mL.take (j + 1)).any bigV = false) := by show _ = _; rw [HSH.out, HBE.out]; exact decide_eq_false fun h => h1 h.1
            go_wp2
            go_roundw
            case rel => exact ⟨j + 1, by omega, by go_num, HN.out, trivial⟩
            case measure => simp [intOf]; omega
        · have hje : mL.take j = mL := List.take_of_length_le (by omega)
          have HN : Hid (mL.any bigV = false) := by have := HANY.out; rw [hje] at this; exact this
          clear hje HANY
          go_wp2
          go_roundw
          case rel => exact ⟨i + 1, by omega, by go_num, by rw [HWTI.out], HNX.out HN.out, (HCE.out wr HB12.out).2.2⟩
          case measure => simp [intOf]; omega
    · have HRE : Hid (R = decide (wsumM (l.take ml.length) < 6000)) := HEN.out fun j hj => HALL.out j (by omega)
      have hie : i = ml.length := by omega
      rw [← hie] at HRE
      clear hB hie
      generalize wsumM (l.take i) = ni at *
      go_wp2
      go_ret
      exact ⟨by rw [HRE.out]; rfl, HB.out⟩
end Go.Proofs.YtcoecfpkihakoaaDoor
