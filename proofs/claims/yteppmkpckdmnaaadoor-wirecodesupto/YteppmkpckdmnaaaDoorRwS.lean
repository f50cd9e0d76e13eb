/- Package wire: the reader's message. -/
import Derived.Test.YteppmkpckdmnaaaDoorRdG
import Derived.Deep.RegionLaw
import Derived.BigQuiet
namespace Go.Proofs.YteppmkpckdmnaaaDoor
open Go.RowKit
/-- While a message is read: its cells at block nb + 1, the answer's at nb. -/
structure RmSt (W0 W : World) (rb : Nat) (r : List UInt8) (vs : Array Value) : Prop where
  at_ : RwAt W rb r
  grown : W0.grownBy W (some rb)
  res : W.heap[W0.heap.size]? = some (.cells #[.string ⟨#[]⟩, .string ⟨#[]⟩, .string ⟨#[]⟩, .string ⟨#[]⟩, .int .i64 0, .int .i64 0, .bool false, .slice none 0 0] 31 (0, 0))
  box : W.heap[W0.heap.size + 1]? = some (.cells vs 31 (0, 0))
theorem RmSt.rd {W0 W W' : World} {rb : Nat} {r r' : List UInt8} {vs : Array Value} (h : RmSt W0 W rb r vs) (hs : RwSt W W' rb r') (hrb : rb < W0.heap.size) : RmSt W0 W' rb r' vs := by
  have l1 := (Array.getElem?_eq_some_iff.1 h.box).1
  exact ⟨hs.at_, grown_trans h.grown hs.grown, (hs.grown.block _ (by omega) (fun e => by injection e with e; omega)).trans h.res, (hs.grown.block _ l1 (fun e => by injection e with e; omega)).trans h.box⟩
theorem RmSt.set {W0 W : World} {rb : Nat} {r : List UInt8} {vs : Array Value} (h : RmSt W0 W rb r vs) (hrb : rb < W0.heap.size) (i : Nat) (v : Value) : RmSt W0 (W.setCell ⟨W0.heap.size + 1, i, none⟩ v) rb r (vs.setIfInBounds i v) := by
  have other : ∀ k, k ≠ W0.heap.size + 1 → (W.setCell ⟨W0.heap.size + 1, i, none⟩ v).heap[k]? = W.heap[k]? := fun k hk => Deep.blk_setCell_other _ _ _ _ hk
  refine ⟨(other rb (by omega)).trans h.at_, ⟨h.grown.os, h.grown.tape, h.grown.output, by simpa using h.grown.size, fun k hk hne => (other k (by omega)).trans (h.grown.block k hk hne)⟩, (other _ (by omega)).trans h.res, ?_⟩
  rw [Joins.block_setCell h.box]
/-- What lies from block nb + 2 on may turn. -/
theorem RmSt.below {W0 W W' : World} {rb : Nat} {r : List UInt8} {vs : Array Value} (h : RmSt W0 W rb r vs) (hrb : rb < W0.heap.size) (hb : Below (W0.heap.size + 2) W W') : RmSt W0 W' rb r vs :=
  ⟨(hb.block _ (by omega)).trans h.at_, ⟨hb.os.trans h.grown.os, hb.tape.trans h.grown.tape, hb.output.trans h.grown.output, Nat.le_trans h.grown.size hb.size, fun k hk hne => (hb.block k (by omega)).trans (h.grown.block k hk hne)⟩, (hb.block _ (by omega)).trans h.res, (hb.block _ (by omega)).trans h.box⟩
theorem RmSt.start {W : World} {rb : Nat} {r : List UInt8} (h : RwAt W rb r) : RmSt W ((W.alloc (.cells #[.string ⟨#[]⟩, .string ⟨#[]⟩, .string ⟨#[]⟩, .string ⟨#[]⟩, .int .i64 0, .int .i64 0, .bool false, .slice none 0 0] 31)).alloc (.cells #[.string ⟨#[]⟩, .string ⟨#[]⟩, .string ⟨#[]⟩, .string ⟨#[]⟩, .int .i64 0, .int .i64 0, .bool false, .slice none 0 0] 31)) rb r #[.string ⟨#[]⟩, .string ⟨#[]⟩, .string ⟨#[]⟩, .string ⟨#[]⟩, .int .i64 0, .int .i64 0, .bool false, .slice none 0 0] := by
  have e2 : (W.alloc (.cells #[.string ⟨#[]⟩, .string ⟨#[]⟩, .string ⟨#[]⟩, .string ⟨#[]⟩, .int .i64 0, .int .i64 0, .bool false, .slice none 0 0] 31)).heap.size = W.heap.size + 1 := by simp
  have hs := RwSt.below h (((Below.refl W.heap.size W).alloc (Nat.le_refl _) (.cells #[.string ⟨#[]⟩, .string ⟨#[]⟩, .string ⟨#[]⟩, .string ⟨#[]⟩, .int .i64 0, .int .i64 0, .bool false, .slice none 0 0] 31)).alloc (by simp) (.cells #[.string ⟨#[]⟩, .string ⟨#[]⟩, .string ⟨#[]⟩, .string ⟨#[]⟩, .int .i64 0, .int .i64 0, .bool false, .slice none 0 0] 31))
  refine ⟨hs.at_, hs.grown, ?_, ?_⟩
  · rw [heap_alloc_old _ _ (by rw [e2]; omega)]
    exact heap_alloc_new _ _
  · rw [← e2]
    exact heap_alloc_new _ _
theorem RmSt.cell {W0 W : World} {rb : Nat} {r : List UInt8} {vs : Array Value} (h : RmSt W0 W rb r vs) (i : Nat) : W.cell? ⟨W0.heap.size + 1, i, none⟩ = vs[i]? := by simp [World.cell?, h.box]
theorem RmSt.frozen {W0 W : World} {rb : Nat} {r : List UInt8} {vs : Array Value} (h : RmSt W0 W rb r vs) (i : Nat) : W.frozen? ⟨W0.heap.size + 1, i, none⟩ = false := by simp [World.frozen?, h.box]
theorem RmSt.rcell {W0 W : World} {rb : Nat} {r : List UInt8} {vs : Array Value} (h : RmSt W0 W rb r vs) (i : Nat) : W.cell? ⟨W0.heap.size, i, none⟩ = (#[.string ⟨#[]⟩, .string ⟨#[]⟩, .string ⟨#[]⟩, .string ⟨#[]⟩, .int .i64 0, .int .i64 0, .bool false, .slice none 0 0] : Array Value)[i]? := by simp [World.cell?, h.res]
theorem RmSt.rfrozen {W0 W : World} {rb : Nat} {r : List UInt8} {vs : Array Value} (h : RmSt W0 W rb r vs) (i : Nat) : W.frozen? ⟨W0.heap.size, i, none⟩ = false := by simp [World.frozen?, h.res]
theorem oT_le {r r' : List UInt8} {x : ByteArray} (h : oT r = some (x, r')) : r'.length ≤ r.length := by
  have h1 := congrArg List.length (rdT_inv (oT_some h)).1
  rw [List.length_append] at h1
  omega
theorem oN_le {r r' : List UInt8} {x : Nat} (h : oN r = some (x, r')) : r'.length ≤ r.length := by
  have h1 := congrArg List.length (rdN_inv (oN_some h)).1
  rw [List.length_append] at h1
  omega
theorem oN_max {r r' : List UInt8} {x : Nat} (h : oN r = some (x, r')) : x ≤ 9223372036854775807 := (rdN_inv (oN_some h)).2.1
theorem oF_le {r r' : List UInt8} {x : Bool} (h : oF r = some (x, r')) : r'.length ≤ r.length := by
  unfold oF at h
  obtain ⟨y, h1, h2⟩ := Option.bind_eq_some_iff.1 h
  split at h2
  · cases h2
  · have e := (Prod.mk.inj (Option.some.inj h2)).2
    rw [← e]
    exact oN_le (x := y.1) h1
/-- What message answers: it throws, or a message. -/
def MsgO (ad : Nat → Addr) (w : World) (rb : Nat) (r : List UInt8) (e : Ending) (w' : World) : Prop := w.grownBy w' (some rb) ∧ ((oMsg r = none ∧ e = thrown (errT ad)) ∨ ∃ m lv, oMsg r = some m ∧ e = .returned (msgA m lv) ∧ OwnR verE 50 w' w.heap.size lv m.L)
/-- Where a region ends by a panic nothing is left of it to be walked. -/
theorem ends_thrown {P : Program} {fn : Func} {R : Ending → World → Prop} {ch : List PanicEntry} {a : Act} {w : World} (h : bodyPost P fn R (.panic ch) a w) (_h2 : wpAny P .any #[] (fun _ _ _ => True) 0 #[] a w) : bodyPost P fn R (.panic ch) a w := h
theorem ver_alloc (W : World) (yn yw ys ya : Int) (yt : ByteArray) : ∀ j u, (verE.enc ⟨yn, yw, ys, ya, yt⟩)[j]? = some u → (W.alloc (.cells #[.int .i64 yn, .int .i64 yw, .int .i64 ys, .int .i64 ya, .string yt] 50)).cell? ⟨W.heap.size, 0 + j, none⟩ = some u := fun j u hj => by
  rw [Nat.zero_add, World.cell?_alloc_at _ _ _ _ rfl]
  match j, hj with
  | 0, hj => exact hj
  | 1, hj => exact hj
  | 2, hj => exact hj
  | 3, hj => exact hj
  | 4, hj => exact hj
/-- append of one version to a row of the call's own, as one step of a region that draws. -/
theorem step_append_ver {ops : Array Oper} {o : Oper} {a : Act} {w : World} {K : Act → World → Prop} {Q : Exit → Act → World → Prop} {E : Prop}
    (hg : o.guard = none) (s x : Operand) (hop : o.op = Op.call { callee := Callee.builtin Builtin.append, args := #[s, x], argTypes := #[22, 22] })
    (B : Nat) (v : Value) (l : List Ver) (hs : a.eval s = v) (hown : OwnR verE 50 w B v l) (b c : Nat) (y : Ver) (hx : a.eval x = .slice (some ⟨b, 0, none⟩) 1 c) (hq : ∀ j u, (verE.enc y)[j]? = some u → w.cell? ⟨b, 0 + j, none⟩ = some u) (hl : l.length ≤ 4000) (hbase : B ≤ w.heap.size)
    (hK : ∀ v' w', OwnR verE 50 w' B v' (l ++ [y]) → Below B w w' → K (a.put o.dst v') w') :
    if Region.wanted o (yielded ops a.tmps) = true then Oper.wp Tryd.prog o a w K Q else E := by
  have hw : Region.wanted o (yielded ops a.tmps) = true := by simp [Region.wanted, hg]
  rw [if_pos hw]
  obtain ⟨i0, hi0, hz0, hz1, hzb⟩ := info_parts verinfo
  obtain ⟨v', w', hrun, r1, r2, _⟩ := run_append_own (P := Tryd.prog) w B 22 o.type 50 i0 _ 5 48 Tryd.underlying22 hi0 hz0 hz1 hzb rfl (by decide) v l.length (recVals verE l) hown ⟨b, 0, none⟩ 1 c (verE.enc y) (by rw [verE.len]; rfl) (fun j u hj => by rw [Addr.add_lit]; exact hq j u hj) (verE.one y) (by unfold maxLen; omega) (by omega) hbase
  unfold Oper.wp
  simp [execOp, hop, resolve, invoke, builtin, hs, hx, hrun, Result.andThen]
  refine hK v' w' ?_ ((Below.refl _ _).grown r2 hbase (fun k hk => (hown.block hk).1))
  unfold OwnR
  rw [recVals_append, List.length_append, recVals_one]
  exact r1
set_option maxRecDepth 10000 in
set_option maxHeartbeats 8000000 in
theorem wrmsg_any (ad : Nat → Addr) (rb : Nat) (r : List UInt8) (w : World) (h : RwAt w rb r) (hS : SentR w rb ad) (hr : r.length ≤ 4000) :
    Calls Tryd.prog 24 #[.pointer (some ⟨rb, 0, none⟩)] w fun e w' => MsgO ad w rb r e w' := by
  have hrb : rb < w.heap.size := (Array.getElem?_eq_some_iff.1 h).1
  have HTN : Hid (∀ q W vs, RmSt w W rb q vs → oT q = none → Calls Tryd.prog 37 #[.pointer (some ⟨rb, 0, none⟩)] W fun e w' => e = thrown (errT ad) ∧ w.grownBy w' (some rb)) := fun q W vs hW hq => by
    have h1 := wrtext_any ad rb q W hW.at_ (hS.go hW.grown)
    rw [hq] at h1
    exact h1.mono fun e w' hp => ⟨hp.1, grown_trans hW.grown hp.2⟩
  have HTS : Hid (∀ q (x : ByteArray) q' W vs, RmSt w W rb q vs → oT q = some (x, q') → Calls Tryd.prog 37 #[.pointer (some ⟨rb, 0, none⟩)] W fun e w' => e = .returned (.string x) ∧ RmSt w w' rb q' vs) := fun q x q' W vs hW hq => by
    have h1 := wrtext_any ad rb q W hW.at_ (hS.go hW.grown)
    rw [hq] at h1
    exact h1.mono fun e w' hp => ⟨hp.1, hW.rd hp.2 hrb⟩
  have HNN : Hid (∀ q W vs, RmSt w W rb q vs → oN q = none → Calls Tryd.prog 38 #[.pointer (some ⟨rb, 0, none⟩)] W fun e w' => e = thrown (errT ad) ∧ w.grownBy w' (some rb)) := fun q W vs hW hq => by
    have h1 := wrnum_any ad rb q W hW.at_ (hS.go hW.grown)
    rw [hq] at h1
    exact h1.mono fun e w' hp => ⟨hp.1, grown_trans hW.grown hp.2⟩
  have HNS : Hid (∀ q (x : Nat) q' W vs, RmSt w W rb q vs → oN q = some (x, q') → Calls Tryd.prog 38 #[.pointer (some ⟨rb, 0, none⟩)] W fun e w' => e = .returned (.int .i64 (x : Int)) ∧ RmSt w w' rb q' vs) := fun q x q' W vs hW hq => by
    have h1 := wrnum_any ad rb q W hW.at_ (hS.go hW.grown)
    rw [hq] at h1
    exact h1.mono fun e w' hp => ⟨hp.1, hW.rd hp.2 hrb⟩
  have HFN : Hid (∀ q W vs, RmSt w W rb q vs → oF q = none → Calls Tryd.prog 39 #[.pointer (some ⟨rb, 0, none⟩)] W fun e w' => e = thrown (errT ad) ∧ w.grownBy w' (some rb)) := fun q W vs hW hq => by
    have h1 := wrflag_any ad rb q W hW.at_ (hS.go hW.grown)
    rw [hq] at h1
    exact h1.mono fun e w' hp => ⟨hp.1, grown_trans hW.grown hp.2⟩
  have HFS : Hid (∀ q (x : Bool) q' W vs, RmSt w W rb q vs → oF q = some (x, q') → Calls Tryd.prog 39 #[.pointer (some ⟨rb, 0, none⟩)] W fun e w' => e = .returned (.bool x) ∧ RmSt w w' rb q' vs) := fun q x q' W vs hW hq => by
    have h1 := wrflag_any ad rb q W hW.at_ (hS.go hW.grown)
    rw [hq] at h1
    exact h1.mono fun e w' hp => ⟨hp.1, hW.rd hp.2 hrb⟩
  have HVC : Hid (∀ q W vs, RmSt w W rb q vs → Calls Tryd.prog 40 #[.pointer (some ⟨rb, 0, none⟩)] W fun e w' => RdO ad W rb ((oV q).map verV) e w') := fun q W vs hW => wrver_any ad rb q W hW.at_ (hS.go hW.grown)
  have HSE : Hid (∀ W, w.grownBy W (some rb) → Sent W ad) := hS
  have HSET : Hid (∀ W q vs, RmSt w W rb q vs → ∀ i v, RmSt w (W.setCell ⟨w.heap.size + 1, i, none⟩ v) rb q (vs.setIfInBounds i v)) := fun W q vs hW i v => hW.set hrb i v
  have HM0 : Hid (RmSt w ((w.alloc (.cells #[.string ⟨#[]⟩, .string ⟨#[]⟩, .string ⟨#[]⟩, .string ⟨#[]⟩, .int .i64 0, .int .i64 0, .bool false, .slice none 0 0] 31)).alloc (.cells #[.string ⟨#[]⟩, .string ⟨#[]⟩, .string ⟨#[]⟩, .string ⟨#[]⟩, .int .i64 0, .int .i64 0, .bool false, .slice none 0 0] 31)) rb r #[.string ⟨#[]⟩, .string ⟨#[]⟩, .string ⟨#[]⟩, .string ⟨#[]⟩, .int .i64 0, .int .i64 0, .bool false, .slice none 0 0]) := RmSt.start h
  have HRB : Hid (rb < w.heap.size) := hrb
  have HLN : Hid (r.length ≤ 4000) := hr
  clear h hS hr
  go_enter Tryd.func24, Tryd.ntmps24
  go_wp2_with fail
  cases hq0 : oT r with
  | none =>
    have HQ0 : Hid (oT r = none) := hq0
    have HNO : Hid (oMsg r = none) := by show _ = _; simp only [oMsg, HQ0.out, Option.bind_none]
    refine (HTN.out _ _ _ HM0.out HQ0.out).mono ?_
    rintro e w1 ⟨rfl, h1⟩
    unfold thrown
    go_wp2
    exact ⟨rfl, h1, Or.inl ⟨HNO.out, rfl⟩⟩
  | some y0 =>
    obtain ⟨x0, q1⟩ := y0
    have HQ0 : Hid (oT r = some (x0, q1)) := hq0
    clear hq0
    refine (HTS.out _ _ _ _ _ HM0.out HQ0.out).mono ?_
    rintro e w1 ⟨rfl, h1⟩
    have vq0 : w1.cell? ⟨w.heap.size + 1, 0, none⟩ = some (.string ⟨#[]⟩) := (h1.cell 0).trans rfl
    have vg0 := h1.frozen 0
    have HM1 : Hid (RmSt w (w1.setCell ⟨w.heap.size + 1, 0, none⟩ (.string x0)) rb q1 #[.string x0, .string ⟨#[]⟩, .string ⟨#[]⟩, .string ⟨#[]⟩, .int .i64 0, .int .i64 0, .bool false, .slice none 0 0]) := HSET.out _ _ _ h1 0 _
    clear h1 HM0
    go_wp2_with fail
    clear vq0 vg0
    cases hq1 : oT q1 with
    | none =>
      have HQ1 : Hid (oT q1 = none) := hq1
      have HNO : Hid (oMsg r = none) := by show _ = _; simp only [oMsg, HQ0.out, HQ1.out, Option.bind_some, Option.bind_none]
      refine (HTN.out _ _ _ HM1.out HQ1.out).mono ?_
      rintro e w2 ⟨rfl, h2⟩
      unfold thrown
      go_wp2
      exact ⟨rfl, h2, Or.inl ⟨HNO.out, rfl⟩⟩
    | some y1 =>
      obtain ⟨x1, q2⟩ := y1
      have HQ1 : Hid (oT q1 = some (x1, q2)) := hq1
      clear hq1
      refine (HTS.out _ _ _ _ _ HM1.out HQ1.out).mono ?_
      rintro e w2 ⟨rfl, h2⟩
      have vq1 : w2.cell? ⟨w.heap.size + 1, 1, none⟩ = some (.string ⟨#[]⟩) := (h2.cell 1).trans rfl
      have vg1 := h2.frozen 1
      have HM2 : Hid (RmSt w (w2.setCell ⟨w.heap.size + 1, 1, none⟩ (.string x1)) rb q2 #[.string x0, .string x1, .string ⟨#[]⟩, .string ⟨#[]⟩, .int .i64 0, .int .i64 0, .bool false, .slice none 0 0]) := HSET.out _ _ _ h2 1 _
      clear h2 HM1
      go_wp2_with fail
      clear vq1 vg1
      cases hq2 : oT q2 with
      | none =>
        have HQ2 : Hid (oT q2 = none) := hq2
        have HNO : Hid (oMsg r = none) := by show _ = _; simp only [oMsg, HQ0.out, HQ1.out, HQ2.out, Option.bind_some, Option.bind_none]
        refine (HTN.out _ _ _ HM2.out HQ2.out).mono ?_
        rintro e w3 ⟨rfl, h3⟩
        unfold thrown
        go_wp2
        exact ⟨rfl, h3, Or.inl ⟨HNO.out, rfl⟩⟩
      | some y2 =>
        obtain ⟨x2, q3⟩ := y2
        have HQ2 : Hid (oT q2 = some (x2, q3)) := hq2
        clear hq2
        refine (HTS.out _ _ _ _ _ HM2.out HQ2.out).mono ?_
        rintro e w3 ⟨rfl, h3⟩
        have vq2 : w3.cell? ⟨w.heap.size + 1, 2, none⟩ = some (.string ⟨#[]⟩) := (h3.cell 2).trans rfl
        have vg2 := h3.frozen 2
        have HM3 : Hid (RmSt w (w3.setCell ⟨w.heap.size + 1, 2, none⟩ (.string x2)) rb q3 #[.string x0, .string x1, .string x2, .string ⟨#[]⟩, .int .i64 0, .int .i64 0, .bool false, .slice none 0 0]) := HSET.out _ _ _ h3 2 _
        clear h3 HM2
        go_wp2_with fail
        clear vq2 vg2
        cases hq3 : oT q3 with
        | none =>
          have HQ3 : Hid (oT q3 = none) := hq3
          have HNO : Hid (oMsg r = none) := by show _ = _; simp only [oMsg, HQ0.out, HQ1.out, HQ2.out, HQ3.out, Option.bind_some, Option.bind_none]
          refine (HTN.out _ _ _ HM3.out HQ3.out).mono ?_
          rintro e w4 ⟨rfl, h4⟩
          unfold thrown
          go_wp2
          exact ⟨rfl, h4, Or.inl ⟨HNO.out, rfl⟩⟩
        | some y3 =>
          obtain ⟨x3, q4⟩ := y3
          have HQ3 : Hid (oT q3 = some (x3, q4)) := hq3
          clear hq3
          refine (HTS.out _ _ _ _ _ HM3.out HQ3.out).mono ?_
          rintro e w4 ⟨rfl, h4⟩
          have vq3 : w4.cell? ⟨w.heap.size + 1, 3, none⟩ = some (.string ⟨#[]⟩) := (h4.cell 3).trans rfl
          have vg3 := h4.frozen 3
          have HM4 : Hid (RmSt w (w4.setCell ⟨w.heap.size + 1, 3, none⟩ (.string x3)) rb q4 #[.string x0, .string x1, .string x2, .string x3, .int .i64 0, .int .i64 0, .bool false, .slice none 0 0]) := HSET.out _ _ _ h4 3 _
          clear h4 HM3
          go_wp2_with fail
          clear vq3 vg3
          cases hq4 : oN q4 with
          | none =>
            have HQ4 : Hid (oN q4 = none) := hq4
            have HNO : Hid (oMsg r = none) := by show _ = _; simp only [oMsg, HQ0.out, HQ1.out, HQ2.out, HQ3.out, HQ4.out, Option.bind_some, Option.bind_none]
            refine (HNN.out _ _ _ HM4.out HQ4.out).mono ?_
            rintro e w5 ⟨rfl, h5⟩
            unfold thrown
            go_wp2
            exact ⟨rfl, h5, Or.inl ⟨HNO.out, rfl⟩⟩
          | some y4 =>
            obtain ⟨x4, q5⟩ := y4
            have HQ4 : Hid (oN q4 = some (x4, q5)) := hq4
            clear hq4
            refine (HNS.out _ _ _ _ _ HM4.out HQ4.out).mono ?_
            rintro e w5 ⟨rfl, h5⟩
            have vq4 : w5.cell? ⟨w.heap.size + 1, 4, none⟩ = some (.int .i64 0) := (h5.cell 4).trans rfl
            have vg4 := h5.frozen 4
            have HM5 : Hid (RmSt w (w5.setCell ⟨w.heap.size + 1, 4, none⟩ (.int .i64 (x4 : Int))) rb q5 #[.string x0, .string x1, .string x2, .string x3, .int .i64 (x4 : Int), .int .i64 0, .bool false, .slice none 0 0]) := HSET.out _ _ _ h5 4 _
            clear h5 HM4
            go_wp2_with fail
            clear vq4 vg4
            cases hq5 : oN q5 with
            | none =>
              have HQ5 : Hid (oN q5 = none) := hq5
              have HNO : Hid (oMsg r = none) := by show _ = _; simp only [oMsg, HQ0.out, HQ1.out, HQ2.out, HQ3.out, HQ4.out, HQ5.out, Option.bind_some, Option.bind_none]
              refine (HNN.out _ _ _ HM5.out HQ5.out).mono ?_
              rintro e w6 ⟨rfl, h6⟩
              unfold thrown
              go_wp2
              exact ⟨rfl, h6, Or.inl ⟨HNO.out, rfl⟩⟩
            | some y5 =>
              obtain ⟨x5, q6⟩ := y5
              have HQ5 : Hid (oN q5 = some (x5, q6)) := hq5
              clear hq5
              refine (HNS.out _ _ _ _ _ HM5.out HQ5.out).mono ?_
              rintro e w6 ⟨rfl, h6⟩
              have vq5 : w6.cell? ⟨w.heap.size + 1, 5, none⟩ = some (.int .i64 0) := (h6.cell 5).trans rfl
              have vg5 := h6.frozen 5
              have HM6 : Hid (RmSt w (w6.setCell ⟨w.heap.size + 1, 5, none⟩ (.int .i64 (x5 : Int))) rb q6 #[.string x0, .string x1, .string x2, .string x3, .int .i64 (x4 : Int), .int .i64 (x5 : Int), .bool false, .slice none 0 0]) := HSET.out _ _ _ h6 5 _
              clear h6 HM5
              go_wp2_with fail
              clear vq5 vg5
              cases hq6 : oF q6 with
              | none =>
                have HQ6 : Hid (oF q6 = none) := hq6
                have HNO : Hid (oMsg r = none) := by show _ = _; simp only [oMsg, HQ0.out, HQ1.out, HQ2.out, HQ3.out, HQ4.out, HQ5.out, HQ6.out, Option.bind_some, Option.bind_none]
                refine (HFN.out _ _ _ HM6.out HQ6.out).mono ?_
                rintro e w7 ⟨rfl, h7⟩
                unfold thrown
                go_wp2
                exact ⟨rfl, h7, Or.inl ⟨HNO.out, rfl⟩⟩
              | some y6 =>
                obtain ⟨x6, q7⟩ := y6
                have HQ6 : Hid (oF q6 = some (x6, q7)) := hq6
                clear hq6
                refine (HFS.out _ _ _ _ _ HM6.out HQ6.out).mono ?_
                rintro e w7 ⟨rfl, h7⟩
                have vq6 : w7.cell? ⟨w.heap.size + 1, 6, none⟩ = some (.bool false) := (h7.cell 6).trans rfl
                have vg6 := h7.frozen 6
                have HM7 : Hid (RmSt w (w7.setCell ⟨w.heap.size + 1, 6, none⟩ (.bool x6)) rb q7 #[.string x0, .string x1, .string x2, .string x3, .int .i64 (x4 : Int), .int .i64 (x5 : Int), .bool x6, .slice none 0 0]) := HSET.out _ _ _ h7 6 _
                clear h7 HM6
                go_wp2_with fail
                clear vq6 vg6
                cases hq7 : oN q7 with
                | none =>
                  have HQ7 : Hid (oN q7 = none) := hq7
                  have HNO : Hid (oMsg r = none) := by show _ = _; simp only [oMsg, HQ0.out, HQ1.out, HQ2.out, HQ3.out, HQ4.out, HQ5.out, HQ6.out, HQ7.out, Option.bind_some, Option.bind_none]
                  refine (HNN.out _ _ _ HM7.out HQ7.out).mono ?_
                  rintro e w8 ⟨rfl, h8⟩
                  unfold thrown
                  go_wp2
                  exact ⟨rfl, h8, Or.inl ⟨HNO.out, rfl⟩⟩
                | some y7 =>
                  obtain ⟨x7, q8⟩ := y7
                  have HQ7 : Hid (oN q7 = some (x7, q8)) := hq7
                  clear hq7
                  refine (HNS.out _ _ _ _ _ HM7.out HQ7.out).mono ?_
                  rintro e w8 ⟨rfl, h8⟩
                  have HM8 : Hid (RmSt w w8 rb q8 #[.string x0, .string x1, .string x2, .string x3, .int .i64 (x4 : Int), .int .i64 (x5 : Int), .bool x6, .slice none 0 0]) := h8
                  clear h8 HM7
                  clear HTN HTS HNN HNS HFN HFS
                  have hq8 : q8.length ≤ 4000 := Nat.le_trans (oN_le HQ7.out) (Nat.le_trans (oF_le HQ6.out) (Nat.le_trans (oN_le HQ5.out) (Nat.le_trans (oN_le HQ4.out) (Nat.le_trans (oT_le HQ3.out) (Nat.le_trans (oT_le HQ2.out) (Nat.le_trans (oT_le HQ1.out) (Nat.le_trans (oT_le HQ0.out) HLN.out)))))))
                  have hx7 : x7 ≤ 9223372036854775807 := oN_max HQ7.out
                  have HOM : Hid (oMsg r = (oM x7 q8).bind fun l => if l.2 = [] then some ⟨x0, x1, x2, x3, x4, x5, x6, l.1⟩ else none) := by show _ = _; simp only [oMsg, HQ0.out, HQ1.out, HQ2.out, HQ3.out, HQ4.out, HQ5.out, HQ6.out, HQ7.out, Option.bind_some]
                  clear HQ0 HQ1 HQ2 HQ3 HQ4 HQ5 HQ6 HQ7
                  go_wp2
                  go_loopw [27] (fun i wr => ∃ (k : Nat) (L : List Ver) (q : List UInt8) (lv : Value), i = .int .i64 k ∧ L.length = k ∧ k ≤ x7 ∧ RmSt w wr rb q #[.string x0, .string x1, .string x2, .string x3, .int .i64 (x4 : Int), .int .i64 (x5 : Int), .bool x6, lv] ∧ OwnR verE 50 wr (w.heap.size + 2) lv L ∧ 40 * k + q.length ≤ 4000 ∧ oM x7 q8 = (oM (x7 - k) q).map fun x => (L ++ x.1, x.2)) (fun i _ => x7 - (intOf i).toNat)
                  case atStart => exact ⟨0, [], q8, .slice none 0 0, rfl, rfl, Nat.zero_le _, HM8.out, OwnR.nil _ _ _, by omega, by simp⟩
                  case round =>
                    obtain ⟨k, L, q, lv, rfl, hLl, hk, hst, hO, hlen, hrd⟩ := hrel
                    obtain ⟨v0, rfl⟩ : ∃ v0, v0 = wr := ⟨_, rfl⟩
                    have HLl : Hid (L.length = k) := hLl
                    have HS : Hid (RmSt w v0 rb q #[.string x0, .string x1, .string x2, .string x3, .int .i64 (x4 : Int), .int .i64 (x5 : Int), .bool x6, lv]) := hst
                    have HO : Hid (OwnR verE 50 v0 (w.heap.size + 2) lv L) := hO
                    have HRD : Hid (oM x7 q8 = (oM (x7 - k) q).map fun x => (L ++ x.1, x.2)) := hrd
                    clear hst hO hrd HM8 hLl
                    by_cases hkx : k < x7
                    · have hnx : oM (x7 - k) q = (oV q).bind fun v => (oM (x7 - (k + 1)) v.2).map fun x => (v.1 :: x.1, x.2) := by
                        rw [show x7 - k = (x7 - (k + 1)) + 1 by omega]
                        rfl
                      have c7 : v0.cell? ⟨w.heap.size + 1, 7, none⟩ = some lv := (HS.out.cell 7).trans rfl
                      have f7 := HS.out.frozen 7
                      cases hv : oV q with
                      | none =>
                        have HNO : Hid (oMsg r = none) := by show _ = _; rw [HOM.out, HRD.out, hnx, hv]; rfl
                        have HVN : Hid (∀ W, Below v0.heap.size v0 W → Calls Tryd.prog 40 #[.pointer (some ⟨rb, 0, none⟩)] W fun e w' => e = thrown (errT ad) ∧ w.grownBy w' (some rb)) := fun W hW => by
                          have hs := HS.out.below HRB.out (hW.mono (by have := (Array.getElem?_eq_some_iff.1 HS.out.box).1; omega))
                          have h1 := HVC.out q W _ hs
                          rw [hv] at h1
                          exact h1.mono fun e w' hp => ⟨hp.1, grown_trans hs.grown hp.2⟩
                        unfold thrown at HVN
                        clear hnx hv HRD HOM HVC HSE HSET HLl hlen HO
                        go_wp2
                        go_region_with (first | (go_at_call 40; refine (HVN.out _ (by first | exact (Below.refl _ _).drew | exact Below.refl _ _)).mono ?_; rintro e v1 ⟨rfl, h1⟩) | (refine ends_thrown ?_ ?_; exact ⟨rfl, h1, Or.inl ⟨HNO.out, rfl⟩⟩))
                        all_goals trivial
                      | some y =>
                        obtain ⟨⟨yn, yw, ys, ya, yt⟩, q'⟩ := y
                        have hsz0 := (Array.getElem?_eq_some_iff.1 HS.out.box).1
                        have hln := oV_len hv
                        have HRN : Hid (oM x7 q8 = (oM (x7 - (k + 1)) q').map fun x => (L ++ [⟨yn, yw, ys, ya, yt⟩] ++ x.1, x.2)) := by
                          show _ = _
                          rw [HRD.out, hnx, hv]
                          simp [Option.map_map, Function.comp_def]
                        obtain ⟨lp, lc, hlv, _⟩ := HO.out.form
                        subst hlv
                        have HVS : Hid (∀ W, Below v0.heap.size v0 W → Calls Tryd.prog 40 #[.pointer (some ⟨rb, 0, none⟩)] W fun e w' => e = .returned (.agg #[.int .i64 yn, .int .i64 yw, .int .i64 ys, .int .i64 ya, .string yt]) ∧ RmSt w w' rb q' #[.string x0, .string x1, .string x2, .string x3, .int .i64 (x4 : Int), .int .i64 (x5 : Int), .bool x6, .slice lp L.length lc] ∧ OwnR verE 50 w' (w.heap.size + 2) (.slice lp L.length lc) L ∧ w.heap.size + 2 ≤ w'.heap.size) := fun W hW => by
                          have hs := HS.out.below HRB.out (hW.mono (by omega))
                          have h1 := HVC.out q W _ hs
                          rw [hv] at h1
                          refine h1.mono fun e w' hp => ⟨hp.1, hs.rd hp.2 HRB.out, ?_, ?_⟩
                          · refine (HO.out.kept hW).same' fun j hj => hp.2.grown.block j ?_ (fun e => ?_)
                            · have := (HO.out.block hj).2; have := hW.size; omega
                            · injection e with e; have := (HO.out.block hj).1; have := HRB.out; omega
                          · have := hp.2.grown.size; have := hW.size; omega
                        have hL4 : L.length ≤ 4000 := by have := HLl.out; omega
                        clear hnx hv HRD HVC HSE HSET HO hsz0
                        go_wp2
                        go_region_law (first
                          | (go_simp; go_at_call 40; refine (HVS.out _ (by first | exact (Below.refl _ _).drew | exact Below.refl _ _)).mono ?_; rintro e v1 ⟨rfl, h1, hO1, hs1⟩; have k7 : v1.cell? ⟨w.heap.size + 1, 7, none⟩ = some (.slice lp L.length lc) := (h1.cell 7).trans rfl; have k7a : (v1.alloc (.cells #[.int .i64 yn, .int .i64 yw, .int .i64 ys, .int .i64 ya, .string yt] 50)).cell? ⟨w.heap.size + 1, 7, none⟩ = some (.slice lp L.length lc) := (((Below.refl v1.heap.size v1).alloc (Nat.le_refl _) _).cell (p := ⟨w.heap.size + 1, 7, none⟩) (by show w.heap.size + 1 < v1.heap.size; omega)).trans k7; have H1 : Hid (RmSt w v1 rb q' #[.string x0, .string x1, .string x2, .string x3, .int .i64 (x4 : Int), .int .i64 (x5 : Int), .bool x6, .slice lp L.length lc] ∧ OwnR verE 50 v1 (w.heap.size + 2) (.slice lp L.length lc) L) := ⟨h1, hO1⟩; clear h1 hO1; go_simp)
                          | (refine step_append_ver rfl (.tmp 30) (.tmp 33) rfl (w.heap.size + 2) (.slice lp L.length lc) L (by simp [Act.eval]) (H1.out.2.kept ((Below.refl _ _).alloc (Nat.le_refl _) _)) v1.heap.size 1 ⟨yn, yw, ys, ya, yt⟩ (by simp [Act.eval]) (ver_alloc v1 yn yw ys ya yt) hL4 (by simp; omega) ?_; intro v2 w2 hO2 hb2; obtain ⟨p2, c2, hv2, _⟩ := hO2.form; have hv3 : v2 = .slice p2 (L.length + 1) c2 := (by rw [hv2, List.length_append]; rfl); clear hv2; subst hv3; have h2 := H1.out.1.below HRB.out (((Below.refl (w.heap.size + 2) _).alloc hs1 _).trans hb2); have m7 : w2.cell? ⟨w.heap.size + 1, 7, none⟩ = some (.slice lp L.length lc) := (h2.cell 7).trans rfl; have n7 := h2.frozen 7; have H2 : Hid (RmSt w w2 rb q' #[.string x0, .string x1, .string x2, .string x3, .int .i64 (x4 : Int), .int .i64 (x5 : Int), .bool x6, .slice lp L.length lc] ∧ OwnR verE 50 w2 (w.heap.size + 2) (.slice p2 (L.length + 1) c2) (L ++ [⟨yn, yw, ys, ya, yt⟩])) := ⟨h2, hO2⟩; clear h2 hO2 hb2))
                        all_goals
                          have HS3 : Hid (RmSt w (w2.setCell ⟨w.heap.size + 1, 7, none⟩ (.slice p2 (L.length + 1) c2)) rb q' #[.string x0, .string x1, .string x2, .string x3, .int .i64 (x4 : Int), .int .i64 (x5 : Int), .bool x6, .slice p2 (L.length + 1) c2]) := H2.out.1.set HRB.out 7 _
                          have HO3 : Hid (OwnR verE 50 (w2.setCell ⟨w.heap.size + 1, 7, none⟩ (.slice p2 (L.length + 1) c2)) (w.heap.size + 2) (.slice p2 (L.length + 1) c2) (L ++ [⟨yn, yw, ys, ya, yt⟩])) := H2.out.2.setC (by omega) 7 _
                          clear H1 H2 k7 k7a m7 n7 hs1
                          go_wp2
                          go_roundw
                          case rel => exact ⟨k + 1, _, q', _, by go_num, by rw [List.length_append, HLl.out]; rfl, by omega, HS3.out, HO3.out, by omega, HRN.out⟩
                          case measure => simp [intOf]; omega
                    · have hfin : oM x7 q8 = some (L, q) := by
                        rw [HRD.out, show x7 - k = 0 by omega]
                        simp [oM]
                      obtain ⟨d0, e0⟩ := HS.out.at_.cells
                      have g0 := (HSE.out v0 HS.out.grown).c0
                      have hgr := HS.out.grown
                      by_cases hq0 : q = []
                      · have HSO : Hid (oMsg r = some ⟨x0, x1, x2, x3, x4, x5, x6, L⟩) := by
                          show _ = _
                          rw [HOM.out, hfin]
                          simp [hq0]
                        rw [hq0] at d0
                        have hez : ofL ([] : List UInt8) = ⟨#[]⟩ := rfl
                        rw [hez] at d0
                        obtain ⟨lp, lc, hlv, _⟩ := HO.out.form
                        subst hlv
                        have z0 : v0.cell? ⟨w.heap.size, 0, none⟩ = some (.string ⟨#[]⟩) := (HS.out.rcell 0).trans rfl
                        have z1 : v0.cell? ⟨w.heap.size, 1, none⟩ = some (.string ⟨#[]⟩) := (HS.out.rcell 1).trans rfl
                        have z2 : v0.cell? ⟨w.heap.size, 2, none⟩ = some (.string ⟨#[]⟩) := (HS.out.rcell 2).trans rfl
                        have z3 : v0.cell? ⟨w.heap.size, 3, none⟩ = some (.string ⟨#[]⟩) := (HS.out.rcell 3).trans rfl
                        have z4 : v0.cell? ⟨w.heap.size, 4, none⟩ = some (.int .i64 0) := (HS.out.rcell 4).trans rfl
                        have z5 : v0.cell? ⟨w.heap.size, 5, none⟩ = some (.int .i64 0) := (HS.out.rcell 5).trans rfl
                        have z6 : v0.cell? ⟨w.heap.size, 6, none⟩ = some (.bool false) := (HS.out.rcell 6).trans rfl
                        have z7 : v0.cell? ⟨w.heap.size, 7, none⟩ = some (.slice none 0 0) := (HS.out.rcell 7).trans rfl
                        have y0 : v0.cell? ⟨w.heap.size + 1, 0, none⟩ = some (.string x0) := (HS.out.cell 0).trans rfl
                        have y1 : v0.cell? ⟨w.heap.size + 1, 1, none⟩ = some (.string x1) := (HS.out.cell 1).trans rfl
                        have y2 : v0.cell? ⟨w.heap.size + 1, 2, none⟩ = some (.string x2) := (HS.out.cell 2).trans rfl
                        have y3 : v0.cell? ⟨w.heap.size + 1, 3, none⟩ = some (.string x3) := (HS.out.cell 3).trans rfl
                        have y4 : v0.cell? ⟨w.heap.size + 1, 4, none⟩ = some (.int .i64 (x4 : Int)) := (HS.out.cell 4).trans rfl
                        have y5 : v0.cell? ⟨w.heap.size + 1, 5, none⟩ = some (.int .i64 (x5 : Int)) := (HS.out.cell 5).trans rfl
                        have y6 : v0.cell? ⟨w.heap.size + 1, 6, none⟩ = some (.bool x6) := (HS.out.cell 6).trans rfl
                        have y7 : v0.cell? ⟨w.heap.size + 1, 7, none⟩ = some (.slice lp L.length lc) := (HS.out.cell 7).trans rfl
                        have z8 : ∀ o, v0.frozen? ⟨w.heap.size, o, none⟩ = false := fun o => HS.out.rfrozen o
                        have HRS : Hid (RwSt w v0 rb q) := ⟨HS.out.at_, HS.out.grown⟩
                        clear hfin HOM HRD HS HVC HSE HSET hgr
                        go_wp2
                        refine bodyPost_ret (v := .agg #[.string x0, .string x1, .string x2, .string x3, .int .i64 (x4 : Int), .int .i64 (x5 : Int), .bool x6, .slice lp L.length lc]) (by simp [results, Tryd.results24, go_sem, z0, z1, z2, z3, z4, z5, z6, z7]) rfl ?_
                        have h0 := HRS.out
                        exact ⟨((((((((h0.setNew (Nat.le_refl _) (by omega) 0 _).setNew (Nat.le_refl _) (by omega) 1 _).setNew (Nat.le_refl _) (by omega) 2 _).setNew (Nat.le_refl _) (by omega) 3 _).setNew (Nat.le_refl _) (by omega) 4 _).setNew (Nat.le_refl _) (by omega) 5 _).setNew (Nat.le_refl _) (by omega) 6 _).setNew (Nat.le_refl _) (by omega) 7 _).grown, Or.inr ⟨⟨x0, x1, x2, x3, x4, x5, x6, L⟩, _, HSO.out, rfl, OwnR.base ((((((((HO.out.setC (b := w.heap.size) (by omega) 0 _).setC (b := w.heap.size) (by omega) 1 _).setC (b := w.heap.size) (by omega) 2 _).setC (b := w.heap.size) (by omega) 3 _).setC (b := w.heap.size) (by omega) 4 _).setC (b := w.heap.size) (by omega) 5 _).setC (b := w.heap.size) (by omega) 6 _).setC (b := w.heap.size) (by omega) 7 _) (by omega)⟩⟩
                      · have HNO : Hid (oMsg r = none) := by
                          show _ = _
                          rw [HOM.out, hfin]
                          simp [hq0]
                        have hne1 : ¬ ofL q = ⟨#[]⟩ := fun e => hq0 (by have := congrArg (fun x => x.data.toList) e; simpa [ofL] using this)
                        have t0 : (⟨#[]⟩ : ByteArray).toList = [] := by rw [ByteArray.toList_eq]
                        have t1 : ¬ (ofL q).toList = [] := fun e => hne1 (by rw [← t0] at e; rw [ByteArray.toList_eq, ByteArray.toList_eq] at e; exact ByteArray.ext (Array.toList_inj.1 e))
                        have t2 : ((ofL q).toList == []) = false := by simpa using t1
                        have hne2 : (ofL q == (⟨#[]⟩ : ByteArray)) = false := by rw [beq_toListBytes, t0]; exact t2
                        have HGR : Hid (w.grownBy v0 (some rb)) := hgr
                        clear hfin HOM HRD HS HVC HSE HSET HO hgr
                        generalize ofL q = qs at *
                        go_wp2
                        exact ⟨rfl, HGR.out, Or.inl ⟨HNO.out, rfl⟩⟩
end Go.Proofs.YteppmkpckdmnaaaDoor
