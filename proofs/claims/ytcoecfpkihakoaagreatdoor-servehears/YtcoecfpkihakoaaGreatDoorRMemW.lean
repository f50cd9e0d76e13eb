/- The document's own member: the hold of a configuration. -/
import Derived.Test.YtcoecfpkihakoaaGreatDoorGz8
import Derived.Test.YtcoecfpkihakoaaGreatDoorGz0
import Derived.BigQuiet
namespace Go.Proofs.YtcoecfpkihakoaaGreatDoor
open Go.RowKit
/-- One record more, at the end of a row of the call's own: with the place. -/
theorem wpList_append_one {α : Type} {E : Enc α} {w : World} {ops : Array Oper} {rest : List Oper} {o : Oper} {a : Act} {Q : Exit → Act → World → Prop} (hgd : o.guard = none) (s x : Operand) (t T : TypeId)
    (ho : o.op = .call { callee := .builtin .append, args := #[s, x], argTypes := #[t, t] }) (z : Value) (bytes : Nat) (ht : Tryz.prog.underlying t = some (.slice T))
    (hinfo : (Tryz.prog.info? T).map (fun i => (i.zero, i.size, i.bytes)) = some (some z, E.k, bytes)) (hzc : z.cells.size = E.k)
    (B : Nat) (v : Value) (l : List α) (hs : a.eval s = v) (hown : OwnR E T w B v l) (b c : Nat) (y : α) (hx : a.eval x = .slice (some ⟨b, 0, none⟩) 1 c) (hq : ∀ j u, (E.enc y)[j]? = some u → w.cell? ⟨b, j, none⟩ = some u) (hl : l.length + 1 ≤ maxLen) (hby : (l.length + 1) * bytes ≤ 140737488355328) (hbase : B ≤ w.heap.size)
    (h : ∀ v' w', OwnR E T w' B v' (l ++ [y]) → w.grownBy w' v.ownBlock → (v'.ownBlock = v.ownBlock ∨ v'.ownBlock = some w.heap.size) → wpList Tryz.prog ops Q rest (a.put o.dst v') w') : wpList Tryz.prog ops Q (o :: rest) a w := by
  obtain ⟨i0, hi0, hz0, hz1, hzb⟩ := info_parts hinfo
  refine wpList_append_at hgd s x t ho B T i0 z E.k bytes ht hi0 hz0 hz1 hzb hzc E.pos v l.length (recVals E l) hs hown ⟨b, 0, none⟩ 1 c (E.enc y) hx (by rw [E.len, Nat.one_mul]) (fun j u hj => ?_) (E.one y) hl hby hbase (by decide) fun v' w' h1 h2 h3 => h v' w' ?_ h2 h3
  · have := hq j u hj
    by_cases e0 : j = 0
    · subst e0; simpa [Addr.add] using this
    · simpa [Addr.add, e0] using this
  · unfold OwnR
    rw [recVals_append, recVals_one, List.length_append]
    exact h1
theorem cfdAt_snoc (L : List Cfd) (x : Cfd) (i : Nat) : cfdAt (L ++ [x]) i = if i < L.length then cfdAt L i else if i = L.length then x else (0, [], false) := by
  unfold cfdAt
  rw [List.getD_eq_getElem?_getD, List.getD_eq_getElem?_getD]
  split
  · rename_i h
    rw [List.getElem?_append_left h]
  · rename_i h
    split
    · rename_i e
      rw [e, List.getElem?_append_right (Nat.le_refl _), Nat.sub_self]
      rfl
    · rw [List.getElem?_eq_none (by rw [List.length_append]; show L.length + 1 ≤ i; omega)]
      rfl
theorem blkAt_old {bs : List Nat} {b i : Nat} (h : i < bs.length) : blkAt (bs ++ [b]) i = blkAt bs i := by
  unfold blkAt
  rw [List.getD_eq_getElem?_getD, List.getD_eq_getElem?_getD, List.getElem?_append_left h]
theorem blkAt_new (bs : List Nat) (b : Nat) : blkAt (bs ++ [b]) bs.length = b := by
  unfold blkAt
  rw [List.getD_eq_getElem?_getD, List.getElem?_append_right (Nat.le_refl _), Nat.sub_self]
  rfl
theorem blk_setM {w : World} {b : Nat} {x y z : Value} {t : TypeId} (h : w.heap[b]? = some (.cells #[x, y, z] t (0, 0))) (v : Value) : (w.setCell ⟨b, 1, none⟩ v).heap[b]? = some (.cells #[x, v, z] t (0, 0)) := by
  simp [World.setCell, Array.getElem?_modify, h]
variable {w w' : World} {B : Nat} {S : Nat → Prop} {h : Nat} {m : MMem} {up : Bool} {lv : Value} {bs : List Nat}
/-- One hold more. -/
theorem RMem.more (hm : RMem w B S h m up lv bs) (c : Int) {w1 w3 : World} {hb : Nat} {v' : Value} (hb1 : Below w.heap.size w w1) (hlo : w.heap.size ≤ hb) (hhi : hb < w1.heap.size) (hnew : w1.heap[hb]? = some (.cells #[.slice none 0 0, .bool false] 74 (0, 0)))
    (hO : OwnR ofE 50 w3 B v' (ofB m bs ++ [(c, hb)])) (hg : w1.grownBy w3 lv.ownBlock) (hl : v'.ownBlock = lv.ownBlock ∨ v'.ownBlock = some w1.heap.size) :
    RMem (w3.setCell ⟨h, 1, none⟩ v') B (withNew S w w3) h ⟨m.name, m.L ++ [(c, [], false)]⟩ up v' (bs ++ [hb]) ∧ Upd S (withNew S w w3) w (w3.setCell ⟨h, 1, none⟩ v') := by
  have hh := hm.inB h hm.self
  have hz1 := hb1.size
  have hz3 := hg.size
  have hs3 : (w3.setCell ⟨h, 1, none⟩ v').heap.size = w3.heap.size := by simp [World.setCell]
  have hlvb : ∀ k, lv.ownBlock = some k → k < w.heap.size := fun k hk => (hm.inB k (hm.sL k hk).1).2
  have hsame : ∀ k, k < w.heap.size → k ≠ h → lv.ownBlock ≠ some k → (w3.setCell ⟨h, 1, none⟩ v').heap[k]? = w.heap[k]? := fun k hk h1 h2 => (Below.heap_setCell w3 _ _ k h1).trans ((hg.block k (Nat.lt_of_lt_of_le hk hz1) (fun e => h2 e.symm)).trans (hb1.block k hk))
  have hblk : w3.heap[h]? = some (.cells #[.string m.name, lv, .bool up] 35 (0, 0)) := (hg.block h (Nat.lt_of_lt_of_le hh.2 hz1) (fun e => (hm.sL h e.symm).2.1 rfl)).trans ((hb1.block h hh.2).trans hm.blk)
  have hnb : (w3.setCell ⟨h, 1, none⟩ v').heap[hb]? = some (.cells #[.slice none 0 0, .bool false] 74 (0, 0)) := (Below.heap_setCell w3 _ _ hb (by show hb ≠ h; omega)).trans ((hg.block hb hhi (fun e => by have := hlvb hb e.symm; omega)).trans hnew)
  have hvb : ∀ k, v'.ownBlock = some k → k ≠ h ∧ k ≠ hb ∧ (∀ i, i < bs.length → k ≠ blkAt bs i) ∧ (S k ∨ w1.heap.size ≤ k) := fun k hk => by
    rcases hl with e | e
    · have hk' : lv.ownBlock = some k := by rw [← e]; exact hk
      have g := hm.sL k hk'
      have := hlvb k hk'
      exact ⟨g.2.1, by omega, g.2.2, Or.inl g.1⟩
    · rw [e] at hk
      have hk := Option.some.inj hk
      refine ⟨by omega, by omega, fun i hi e' => ?_, Or.inr (by omega)⟩
      have := (hm.inB _ (hm.sB i hi).1).2
      omega
  have hlen : (bs ++ [hb]).length = bs.length + 1 := by rw [List.length_append]; rfl
  have hLlen : (m.L ++ [(c, ([] : List Kep), false)]).length = m.L.length + 1 := by rw [List.length_append]; rfl
  have hba : ∀ i, i < bs.length + 1 → (i < bs.length ∧ blkAt (bs ++ [hb]) i = blkAt bs i) ∨ (i = bs.length ∧ blkAt (bs ++ [hb]) i = hb) := fun i hi => by
    by_cases h1 : i < bs.length
    · exact Or.inl ⟨h1, blkAt_old h1⟩
    · have e : i = bs.length := by omega
      exact Or.inr ⟨e, by rw [e]; exact blkAt_new _ _⟩
  have hbo : ∀ i, i < bs.length → blkAt bs i < w.heap.size ∧ blkAt bs i ≠ h ∧ lv.ownBlock ≠ some (blkAt bs i) := fun i hi => ⟨(hm.inB _ (hm.sB i hi).1).2, (hm.sB i hi).2, fun e => (hm.sL _ e).2.2 i hi rfl⟩
  refine ⟨⟨blk_setM hblk v', ?_, ?_, fun i j hi hj e => ?_, fun i hi => ?_, Or.inl hm.self, fun k hk => ⟨?_, (hvb k hk).1, fun i hi => ?_⟩, fun i hi => ?_, fun i hi hL b o n c' e => ?_, fun k hk => ?_⟩, ⟨hg.os.trans hb1.os, hg.tape.trans hb1.tape, hg.output.trans hb1.output, by rw [hs3]; omega, fun k hk hs => hsame k hk (fun e => hs (by rw [e]; exact hm.self)) (fun e => hs (hm.sL k e).1), fun k hk => hk.elim Or.inl (fun h => Or.inr h.1)⟩⟩
  · rw [ofB_snoc hm.len]
    exact hO.sameE fun k hk => Below.heap_setCell w3 _ _ k (hvb k hk).1
  · rw [hlen, hLlen, hm.len]
  · rw [hlen] at hi hj
    rcases hba i hi with ⟨a1, a2⟩ | ⟨a1, a2⟩ <;> rcases hba j hj with ⟨b1, b2⟩ | ⟨b1, b2⟩
    · rw [a2, b2] at e
      exact hm.one i j a1 b1 e
    · rw [a2, b2] at e
      have := (hbo i a1).1
      omega
    · rw [a2, b2] at e
      have := (hbo j b1).1
      omega
    · omega
  · rw [hLlen] at hi
    rw [cfdAt_snoc]
    rcases hba i (by rw [hm.len]; exact hi) with ⟨a1, a2⟩ | ⟨a1, a2⟩
    · have hi' : i < m.L.length := by rw [← hm.len]; exact a1
      rw [if_pos hi', a2]
      have := hbo i a1
      refine (hm.hold i hi').same (by rw [hs3]; omega) (hsame _ this.1 this.2.1 this.2.2) (fun hL b o n c' e => ?_)
      have g := hm.sR i hi' hL b o n c' e
      exact hsame b (hm.inB b g.1).2 g.2.1 g.2.2.1
    · have hi' : i = m.L.length := by rw [← hm.len]; exact a1
      rw [if_neg (by omega), if_pos hi', a2]
      refine ⟨⟨none, 0, ?_, Or.inl rfl, Nat.le_refl _, fun _ => ⟨rfl, rfl⟩, fun b o e => by cases e⟩, ?_, ?_, ?_⟩
      · simp [World.cell?, hnb]
      · simp [World.cell?, hnb]
      · simp [World.frozen?, hnb]
      · simp [World.frozen?, hnb]
  · rcases (hvb k hk).2.2.2 with h1 | h1
    · exact Or.inl h1
    · exact Or.inr ⟨by omega, (hO.block hk).2⟩
  · rw [hlen] at hi
    rcases hba i hi with ⟨a1, a2⟩ | ⟨a1, a2⟩
    · rw [a2]; exact (hvb k hk).2.2.1 i a1
    · rw [a2]; exact (hvb k hk).2.1
  · rw [hlen] at hi
    rcases hba i hi with ⟨a1, a2⟩ | ⟨a1, a2⟩
    · rw [a2]; exact ⟨Or.inl (hm.sB i a1).1, (hm.sB i a1).2⟩
    · rw [a2]; exact ⟨Or.inr ⟨hlo, by omega⟩, by omega⟩
  · rw [hLlen] at hi
    rw [cfdAt_snoc] at hL
    rcases hba i (by rw [hm.len]; exact hi) with ⟨a1, a2⟩ | ⟨a1, a2⟩
    · have hi' : i < m.L.length := by rw [← hm.len]; exact a1
      rw [if_pos hi'] at hL
      rw [a2] at e
      have g0 := hbo i a1
      have g := hm.sR i hi' hL b o n c' ((World.cell?_of_block (a := ⟨blkAt bs i, 0, none⟩) (hsame _ g0.1 g0.2.1 g0.2.2)).symm.trans e)
      have gb := (hm.inB b g.1).2
      refine ⟨Or.inl g.1, g.2.1, fun e' => ?_, fun j hj => ?_⟩
      · rcases hl with q | q
        · exact g.2.2.1 (by rw [← q]; exact e')
        · rw [q] at e'; have := Option.some.inj e'; omega
      · rw [hlen] at hj
        rcases hba j hj with ⟨b1, b2⟩ | ⟨b1, b2⟩
        · rw [b2]; exact g.2.2.2 j b1
        · rw [b2]; omega
    · have hi' : i = m.L.length := by rw [← hm.len]; exact a1
      rw [if_neg (by omega), if_pos hi'] at hL
      exact absurd rfl hL
  · rcases hk with hk | hk
    · exact ⟨(hm.inB k hk).1, by rw [hs3]; have := (hm.inB k hk).2; omega⟩
    · exact ⟨Nat.le_trans hm.leB hk.1, by rw [hs3]; exact hk.2⟩
/-- The cells of one of them. -/
theorem RMem.cells (hm : RMem w B S h m up lv bs) {i : Nat} (hi : i < m.L.length) : ∃ b o c, lv = .slice (some ⟨b, o, none⟩) m.L.length c ∧ b < w.heap.size ∧ w.cell? ⟨b, o + i * 2, none⟩ = some (.int .i64 (cfdAt m.L i).1) ∧ w.cell? ⟨b, o + i * 2 + 1, none⟩ = some (.pointer (some ⟨blkAt bs i, 0, none⟩)) := by
  obtain ⟨p, c, e1, e2, _, _, _⟩ := hm.row.form
  rw [ofB_length hm.len] at e1
  rcases e2 with e2 | ⟨b, o, hp, hlt, hc⟩
  · have := ofB_length hm.len
    rw [e2] at this
    rw [← this] at hi
    exact absurd hi (Nat.not_lt_zero _)
  · subst hp
    exact ⟨b, o, c, e1, hlt, hc i _ (ofB_at hm.len hi) 0 _ rfl, hc i _ (ofB_at hm.len hi) 1 _ rfl⟩
theorem ofinfo : (Tryz.prog.info? 50).map (fun i => (i.zero, i.size, i.bytes)) = some (some (.agg #[.int .i64 0, .pointer none]), ofE.k, 16) := by kernel_rfl
/-- What the hold of a configuration is: none, or one of the member's own, which may be new. -/
def HeldR (w : World) (B : Nat) (S : Nat → Prop) (h : Nat) (m : MMem) (up : Bool) (c : Int) (e : Ending) (w' : World) : Prop :=
  (m.held c = none ∧ e = .returned (.pointer none) ∧ Below w.heap.size w w') ∨ ∃ m1 S' lv' bs', m.held c = some m1 ∧ e = .returned (.pointer (some ⟨blkAt bs' (cfdI m.L c), 0, none⟩)) ∧ cfdI m.L c < m1.L.length ∧ RMem w' B S' h m1 up lv' bs' ∧ Upd S S' w w'
set_option maxRecDepth 10000 in
set_option maxHeartbeats 4000000 in
theorem rmhold_any (hm : RMem w B S h m up lv bs) (c : Int) (hl : m.L.length ≤ 1000) :
    Calls Tryz.prog 29 #[.pointer (some ⟨h, 0, none⟩), .int .i64 c] w fun e w' => HeldR w B S h m up c e w' := by
  obtain ⟨p, cp, elv, _, _, _, _⟩ := hm.row.form
  rw [ofB_length hm.len] at elv
  have HM : Hid (RMem w B S h m up lv bs) := hm
  have hlt := (hm.inB h hm.self).2
  have HQ : Hid (∀ W, Below w.heap.size w W → W.cell? ⟨h, 1, none⟩ = some (.slice p m.L.length cp)) := fun W hW => by
    have e : w.cell? ⟨h, 1, none⟩ = some lv := by simp [World.cell?, hm.blk]
    rw [hW.cell (p := ⟨h, 1, none⟩) hlt, e, elv]
  have HCE : Hid (∀ i, i < m.L.length → ∃ b o, p = some ⟨b, o, none⟩ ∧ b < w.heap.size ∧ w.cell? ⟨b, o + i * 2, none⟩ = some (.int .i64 (cfdAt m.L i).1) ∧ w.cell? ⟨b, o + i * 2 + 1, none⟩ = some (.pointer (some ⟨blkAt bs i, 0, none⟩))) := fun i hi => by
    obtain ⟨b, o, c', e1, e2, e3, e4⟩ := hm.cells hi
    rw [elv] at e1
    injection e1 with e1
    exact ⟨b, o, e1, e2, e3, e4⟩
  have HLV : Hid (lv = .slice p m.L.length cp) := elv
  obtain ⟨n, hn⟩ : ∃ n, n = m.L.length := ⟨_, rfl⟩
  have HN : Hid (n = m.L.length) := hn
  rw [← hn] at hl
  rw [← HN.out] at HQ HCE
  clear hm elv hn
  go_enter Tryz.func29, Tryz.ntmps29
  go_wp2
  go_loopw [5] (fun x wq => ∃ i : Nat, i ≤ n ∧ i ≤ cfdI m.L c ∧ x = .int .i64 i ∧ Below w.heap.size w wq) (fun x _ => n - (intOf x).toNat)
  case atStart => exact ⟨0, Nat.zero_le _, Nat.zero_le _, rfl, Below.refl _ _⟩
  case round =>
    obtain ⟨i, hi, hic, rfl, hbq⟩ := hrel
    obtain ⟨w1, rfl⟩ : ∃ w1, w1 = wr := ⟨_, rfl⟩
    have HB : Hid (Below w.heap.size w w1) := hbq
    have HIC : Hid (i ≤ cfdI m.L c) := hic
    have q1 := HQ.out w1 hbq
    clear hbq hic
    by_cases hil : i < n
    · obtain ⟨b, o, hpp, hbl, c0, c1⟩ := HCE.out i hil
      subst hpp
      have k0 := (HB.out.cell (p := ⟨b, o + i * 2, none⟩) hbl).trans c0
      have k1 := (HB.out.cell (p := ⟨b, o + i * 2 + 1, none⟩) hbl).trans c1
      by_cases he : (cfdAt m.L i).1 = c
      · have HI : Hid (cfdI m.L c = i) := by
          show _ = _
          rcases Nat.lt_or_ge i (cfdI m.L c) with h1 | h1
          · exact absurd he (cfdI_before h1)
          · have := HIC.out; omega
        have HHL : Hid (m.held c = some m) := by show _ = _; unfold MMem.held; rw [if_pos (by rw [HI.out, ← HN.out]; exact hil)]
        rw [he] at k0
        clear he c0 c1 HCE HQ HIC
        generalize hbk : blkAt bs i = hb at *
        have HBK : Hid (blkAt bs i = hb) := hbk
        clear hbk
        go_wp2
        go_ret
        exact Or.inr ⟨m, S, lv, bs, HHL.out, by rw [HI.out, HBK.out]; rfl, by rw [HI.out, ← HN.out]; exact hil, HM.out.below HB.out, Upd.of_below HB.out⟩
      · have HI : Hid (i + 1 ≤ cfdI m.L c) := by
          show _ ≤ _
          rcases Nat.lt_or_ge i (cfdI m.L c) with h1 | h1
          · exact h1
          · have h2 : cfdI m.L c = i := by have := HIC.out; omega
            exact absurd (by rw [← h2]; exact cfdI_here (by rw [h2, ← HN.out]; exact hil)) he
        have d1 : ((cfdAt m.L i).1 == c) = false := by simpa using he
        clear he c0 c1 HIC
        generalize (cfdAt m.L i).1 = ci at *
        generalize blkAt bs i = hb at *
        go_wp2
        go_roundw
        case rel => exact ⟨i + 1, by omega, HI.out, by go_num, HB.out⟩
        case measure => simp [intOf]; omega
    · have hin : i = n := by omega
      subst hin
      have HNF : Hid (¬ cfdI m.L c < m.L.length) := fun h1 => by have := HIC.out; have := HN.out; omega
      clear HCE
      by_cases h12 : 12 ≤ i
      · have HHL : Hid (m.held c = none) := by show _ = _; unfold MMem.held; rw [if_neg HNF.out, if_pos (by rw [← HN.out]; exact h12)]
        go_wp2
        go_ret
        exact Or.inl ⟨HHL.out, rfl, HB.out⟩
      · have HHL : Hid (m.held c = some ⟨m.name, m.L ++ [(c, [], false)]⟩) := by show _ = _; unfold MMem.held; rw [if_neg HNF.out, if_neg (by rw [← HN.out]; exact h12)]
        obtain ⟨w2, hw2⟩ : ∃ w2, w2 = w1.alloc (.cells #[.slice none 0 0, .bool false] 74) := ⟨_, rfl⟩
        obtain ⟨w3, hw3⟩ : ∃ w3, w3 = w2.alloc (.cells #[.int .i64 c, .pointer (some ⟨w1.heap.size, 0, none⟩)] 50) := ⟨_, rfl⟩
        have hz2 : w2.heap.size = w1.heap.size + 1 := by rw [hw2]; simp
        have hz3 : w3.heap.size = w2.heap.size + 1 := by rw [hw3]; simp
        have hb2 : Below w.heap.size w w2 := by rw [hw2]; exact HB.out.alloc HB.out.size _
        have hb3 : Below w.heap.size w w3 := by rw [hw3]; exact hb2.alloc hb2.size _
        have q2 := HQ.out w2 hb2
        have q3 := HQ.out w3 hb3
        have HNB : Hid (w3.heap[w1.heap.size]? = some (.cells #[.slice none 0 0, .bool false] 74 (0, 0))) := by
          show _ = _
          rw [hw3, Below.heap_alloc _ _ _ (by omega), hw2]
          show (w1.heap.push _)[w1.heap.size]? = _
          simp
        have HNC : Hid (∀ j u, (ofE.enc (c, w1.heap.size))[j]? = some u → w3.cell? ⟨w2.heap.size, j, none⟩ = some u) := fun j u hj => by
          rw [hw3, World.cell?_alloc_at _ _ _ _ rfl]
          match j, hj with
          | 0, hj => exact hj
          | 1, hj => exact hj
        have HO3 : Hid (OwnR ofE 50 w3 B (.slice p i cp) (ofB m bs)) := by
          have := HM.out.row.kept hb3
          rw [HLV.out, ← HN.out] at this
          exact this
        have HLB : Hid ((ofB m bs).length = i) := by show _ = _; rw [ofB_length HM.out.len, HN.out]
        have HB3 : Hid (Below w.heap.size w w3 ∧ B ≤ w3.heap.size) := ⟨hb3, Nat.le_trans HM.out.leB hb3.size⟩
        have HW2 : Hid (w2 = w1.alloc (.cells #[.slice none 0 0, .bool false] 74)) := hw2
        have HW3 : Hid (w3 = w2.alloc (.cells #[.int .i64 c, .pointer (some ⟨w1.heap.size, 0, none⟩)] 50)) := hw3
        have HZ : Hid (w2.heap.size = w1.heap.size + 1 ∧ w3.heap.size = w2.heap.size + 1 ∧ w.heap.size ≤ w1.heap.size) := ⟨hz2, hz3, HB.out.size⟩
        have HAPP : Hid (∀ v4 w4, OwnR ofE 50 w4 B v4 (ofB m bs ++ [(c, w1.heap.size)]) → w3.grownBy w4 (Value.slice p i cp).ownBlock → (v4.ownBlock = (Value.slice p i cp).ownBlock ∨ v4.ownBlock = some w3.heap.size) → ∃ p4 c4, v4 = .slice p4 (i + 1) c4 ∧ w4.cell? ⟨h, 1, none⟩ = some (.slice p i cp) ∧ w4.frozen? ⟨h, 1, none⟩ = false ∧ Hid (HeldR w B S h m up c (.returned (.pointer (some ⟨w1.heap.size, 0, none⟩))) (w4.setCell ⟨h, 1, none⟩ (.slice p4 (i + 1) c4)))) := fun v4 w4 hO4 hg4 hl4 => by
          obtain ⟨p4, c4, hv4, _⟩ := hO4.form
          rw [List.length_append, HLB.out] at hv4
          have elv : lv = .slice p i cp := by rw [HLV.out, ← HN.out]
          rw [← elv] at hg4 hl4
          have hbk : w4.heap[h]? = w.heap[h]? := (hg4.block h (Nat.lt_of_lt_of_le hlt hb3.size) (fun e => (HM.out.sL h e.symm).2.1 rfl)).trans (hb3.block h hlt)
          refine ⟨p4, c4, hv4, ?_, ?_, Or.inr ⟨_, withNew S w w4, .slice p4 (i + 1) c4, bs ++ [w1.heap.size], HHL.out, ?_, ?_, ?_⟩⟩
          · simp [World.cell?, hbk, HM.out.blk, elv]
          · simp [World.frozen?, hbk, HM.out.blk]
          · have e1 : cfdI m.L c = bs.length := by rw [HM.out.len]; have := cfdI_le m.L c; have := HNF.out; omega
            rw [e1, blkAt_new]
          · show _ < (m.L ++ [_]).length
            rw [List.length_append]
            have := cfdI_le m.L c
            show _ < _ + 1
            omega
          · have hmore := HM.out.more c hb3 HB.out.size (by omega) HNB.out hO4 hg4 hl4
            rw [hv4] at hmore
            exact hmore
        clear hw2 hw3 hz2 hz3 hb2 hb3
        go_wp2_with (first | rw [← HW2.out] | rw [← HW3.out] | (at_builtin; refine wpList_append_one (E := ofE) rfl (.tmp 46) (.tmp 50) 33 50 rfl (.agg #[.int .i64 0, .pointer none]) 16 Tryz.underlying33 ofinfo rfl B (.slice p i cp) (ofB m bs) rfl HO3.out w2.heap.size 1 (c, w1.heap.size) rfl HNC.out (by rw [HLB.out]; unfold maxLen; omega) (by rw [HLB.out]; omega) HB3.out.2 ?_; intro v4 w4 hO4 hg4 hl4; obtain ⟨p4, c4, hv4, k4, kf4, HF⟩ := HAPP.out v4 w4 hO4 hg4 hl4; subst hv4; clear hO4 hg4 hl4))
        go_wp2
        go_ret
        exact HF.out
end Go.Proofs.YtcoecfpkihakoaaGreatDoor
