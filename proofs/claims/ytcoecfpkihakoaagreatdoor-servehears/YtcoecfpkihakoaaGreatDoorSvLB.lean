/- What the walks of the laws ServeHears and ServeSeals keep: both members, side by side. -/
import Derived.Test.YtcoecfpkihakoaaGreatDoorGz7
import Derived.Test.YtcoecfpkihakoaaGreatDoorRMkW
namespace Go.Proofs.YtcoecfpkihakoaaGreatDoor
open Go.RowKit
/-- The program's member is m', the document's own is m; they have no block in common; what the document's has lies below block M. -/
def SMid (Sv : World → Nat → Nat → (Nat → Prop) → MMem → Prop) (B h ab M : Nat) (W : World) (m m' : MMem) : Prop :=
  ∃ S S' lv bs, Sv W B h S m' ∧ RMem W B S' ab m false lv bs ∧ (∀ k, S k → ¬ S' k) ∧ (∀ k, S' k → k < M) ∧ M ≤ W.heap.size
variable {ad : Nat → Addr} {X : World → Prop} {Hd : World → Nat → (Nat → Prop) → List Kep → Bool → Prop} {Sv : World → Nat → Nat → (Nat → Prop) → MMem → Prop} {B h ab M : Nat} {w0 W W' : World} {m m' : MMem}
theorem SMid.below (hO : ServeOk ad X Hd Sv) (hm : SMid Sv B h ab M W m m') (hb : Below W.heap.size W W') : SMid Sv B h ab M W' m m' := by
  obtain ⟨S, S', lv, bs, h1, h2, h3, h4, h5⟩ := hm
  exact ⟨S, S', lv, bs, hO.keep h1 (hb.mono h2.leB) (fun k hk => hb.block k (hO.inS h1 k hk).2), h2.below hb, h3, h4, Nat.le_trans h5 hb.size⟩
theorem SMid.up (hm : SMid Sv B h ab M W m m') : SMid Sv B h ab W.heap.size W m m' := by
  obtain ⟨S, S', lv, bs, h1, h2, h3, h4, h5⟩ := hm
  exact ⟨S, S', lv, bs, h1, h2, h3, fun k hk => (h2.inB k hk).2, Nat.le_refl _⟩
/-- As SMid; and what lies at q is none of the program's member's. -/
def SMidN (Sv : World → Nat → Nat → (Nat → Prop) → MMem → Prop) (B h ab M : Nat) (W : World) (m m' : MMem) (q : Option Addr) : Prop :=
  ∃ S S' lv bs, Sv W B h S m' ∧ RMem W B S' ab m false lv bs ∧ (∀ k, S k → ¬ S' k) ∧ (∀ k, S' k → k < M) ∧ M ≤ W.heap.size ∧ ∀ b o, q = some ⟨b, o, none⟩ → ¬ S b
theorem SMid.new (hO : ServeOk ad X Hd Sv) (hm : SMid Sv B h ab M W m m') (hb : Below W.heap.size W W') {q : Option Addr} (hq : ∀ b o, q = some ⟨b, o, none⟩ → W.heap.size ≤ b) : SMidN Sv B h ab M W' m m' q := by
  obtain ⟨S, S', lv, bs, h1, h2, h3, h4, h5⟩ := hm
  exact ⟨S, S', lv, bs, hO.keep h1 (hb.mono h2.leB) (fun k hk => hb.block k (hO.inS h1 k hk).2), h2.below hb, h3, h4, Nat.le_trans h5 hb.size, fun b o e hs => by have := hq b o e; have := (hO.inS h1 b hs).2; omega⟩
theorem smid_hear (hO : ServeOk ad X Hd Sv) (hG : ∀ V : World, w0.heap.size ≤ V.heap.size → (∀ k, k < w0.heap.size → V.heap[k]? = w0.heap[k]?) → X V) (hw : w0.heap.size ≤ B) (hb0 : Below w0.heap.size w0 W) (x : Msg × Lv) (hF : m.Fine) (hL : HasL W x) (hk : MsgR x.1) (hci : CfIn x.1.config) (hm : SMidN Sv B h ab M W m m x.2.1) :
    Calls Tryz.prog 11 #[.pointer (some ⟨h, 0, none⟩), msgA x.1 (lvV x.2)] W fun e w' => ∃ p c, e = .returned (.slice p (m.hear x.1).2.length c) ∧ MsgsN M w' p (m.hear x.1).2 ∧ SMid Sv B h ab M w' m (m.hear x.1).1 ∧ Below w0.heap.size w0 w' := by
  obtain ⟨S, S', lv, bs, h1, h2, h3, h4, h5, h6⟩ := hm
  have hSB : ∀ k, S k → w0.heap.size ≤ k := fun k hk => by have := (hO.inS h1 k hk).1; omega
  refine (hO.hear x h1 hF hL h6 hk hci (fun V hs hk => hG V (Nat.le_trans hb0.size hs) (fun k hk0 => (hk k (Nat.lt_of_lt_of_le hk0 hb0.size) (fun hS => by have := hSB k hS; omega)).trans (hb0.block k hk0)))).mono fun e w' hq => ?_
  obtain ⟨p, c, S1, e1, e2, g1, g2⟩ := hq
  have hbB : Below w0.heap.size W w' := ⟨g2.os, g2.tape, g2.output, g2.size, fun k hk => g2.block k (Nat.lt_of_lt_of_le hk hb0.size) (fun hS => by have := hSB k hS; omega)⟩
  refine ⟨p, c, e1, e2.new (fun b hb => Nat.le_trans h5 hb.1), ⟨S1, S', lv, bs, g1, h2.keep g2.size (fun k hk => g2.block k (h2.inB k hk).2 (fun hS => h3 k hS hk)), fun k hk hk' => ?_, h4, Nat.le_trans h5 g2.size⟩, hb0.trans hbB⟩
  rcases g2.new k hk with hk | hk
  · exact h3 k hk hk'
  · have := (h2.inB k hk').2
    omega
theorem smid_rhear (hO : ServeOk ad X Hd Sv) (hw : w0.heap.size ≤ B) (hb0 : Below w0.heap.size w0 W) (x : Msg × Lv) (hF : m.Fine) (hL : HasL w0 x) (hl : x.1.L.length ≤ 2932031007317) (htx : ∀ v ∈ x.1.L, v.text.size ≤ maxLen) {p : Option Addr} {l : List Msg} (hp : MsgsN M W p l) (hm : SMid Sv B h ab M W m (m.hear x.1).1) :
    Calls Tryz.prog 13 #[.pointer (some ⟨ab, 0, none⟩), .agg #[.string x.1.from_, .string x.1.to_, .string x.1.kind, .string x.1.key, .int .i64 x.1.op, .int .i64 x.1.config, .bool x.1.shut, .slice x.2.1 x.2.2.1 x.2.2.2]] W fun e w' => ∃ q d, e = .returned (.slice q (m.hear x.1).2.length d) ∧ (MsgsAt w' q (m.hear x.1).2 ∧ MsgsAt w' p l) ∧ (SMid Sv B h ab w'.heap.size w' (m.hear x.1).1 (m.hear x.1).1 ∧ Below w0.heap.size w0 w') := by
  obtain ⟨S, S', lv, bs, h1, h2, h3, h4, h5⟩ := hm
  refine (rmhear_all h2 (by have := hF.few; omega) (fun i => by have := hF.held i; omega) x (hL.below hb0) hl htx (fun V hs hk => ?_)).mono fun e w' hq => ?_
  · rcases hL.recs with e0 | ⟨b, o, e1, e2, e3⟩
    · exact Or.inl e0
    · refine Or.inr ⟨b, o, e1, by have := hb0.size; omega, fun j y hy jj u hu => ?_⟩
      rw [World.cell?_of_block (a := ⟨b, o + j * verE.k + jj, none⟩) ((hk b (Nat.lt_of_lt_of_le e2 hb0.size) (fun hS => by have := (h2.inB b hS).1; omega)).trans (hb0.block b e2))]
      exact e3 j y hy jj u hu
  · obtain ⟨⟨q, d, e1, e2⟩, S2, lv2, bs2, g1, g2⟩ := hq
    have hbB : Below B W w' := ⟨g2.os, g2.tape, g2.output, g2.size, fun k hk => g2.block k (Nat.lt_of_lt_of_le hk h2.leB) (fun hS => by have := (h2.inB k hS).1; omega)⟩
    refine ⟨q, d, e1, ⟨e2, hp.upd g2.size (fun k hk1 hk2 => g2.block k hk2 (fun hS => by have := h4 k hS; omega))⟩, ⟨S, S2, lv2, bs2, hO.keep h1 hbB (fun k hk => g2.block k (hO.inS h1 k hk).2 (h3 k hk)), g1, fun k hk hk' => ?_, fun k hk => (g1.inB k hk).2, Nat.le_refl _⟩, hb0.trans (hbB.mono (by omega))⟩
    rcases g2.new k hk' with hk' | hk'
    · exact h3 k hk hk'
    · have := (hO.inS h1 k hk).2
      omega
/-- What the program's member holds of a configuration, beside what the document's own has. -/
theorem smid_hold (hO : ServeOk ad X Hd Sv) (hF : m.Fine) (hm : SMid Sv B h ab M W m m) {i : Nat} (hi : i < m.L.length) :
    Calls Tryz.prog 14 #[.pointer (some ⟨h, 0, none⟩), .int .i64 (cfdAt m.L i).1] W fun e w' => ∃ hb, e = .returned (.pointer (some ⟨hb, 0, none⟩)) ∧ (∃ Sh bb lb lo lc, w'.cell? ⟨ab, 1, none⟩ = some (.slice (some ⟨lb, lo, none⟩) m.L.length lc) ∧ w'.cell? ⟨lb, lo + i * 2 + 1, none⟩ = some (.pointer (some ⟨bb, 0, none⟩)) ∧ Two Hd B w' hb bb (cfdAt m.L i).2.1 (cfdAt m.L i).2.2 Sh) ∧ SMid Sv B h ab M w' m m ∧ Below W.heap.size W w' := by
  obtain ⟨S, S', lv, bs, h1, h2, h3, h4, h5⟩ := hm
  refine (hO.hold (cfdAt m.L i).1 (hF.ints i hi) h1).mono fun e w' hq => ?_
  rw [hF.idx hi] at hq
  obtain ⟨hq, hb⟩ := hq
  rcases hq with ⟨_, hb', Sh, e1, e2, e3⟩ | ⟨hn, _⟩
  · have g2 := h2.below hb
    obtain ⟨lb, lo, lc, k1, k2, k3, k4⟩ := g2.cells hi
    have hib : i < bs.length := by rw [g2.len]; exact hi
    have hnS : ∀ k, S' k → ¬ Sh k := fun k hk hk' => h3 k (e3 k hk') hk
    refine ⟨hb', e1, ⟨Sh, blkAt bs i, lb, lo, lc, ?_, k4, ⟨e2, fun k hk => (hO.inS h1 k (e3 k hk)).1, hnS _ (g2.sB i hib).1, fun hL b o c e => hnS _ (g2.sR i hi hL b o _ c e).1, g2.hold i hi, (g2.inB _ (g2.sB i hib).1).1, by have := hF.held i; omega, fun x hx => by have := hF.names i x hx; unfold maxLen; omega⟩⟩, ⟨S, S', lv, bs, hO.keep h1 (hb.mono h2.leB) (fun k hk => hb.block k (hO.inS h1 k hk).2), g2, h3, h4, Nat.le_trans h5 hb.size⟩, hb⟩
    rw [← k1]
    simp [World.cell?, g2.blk]
  · exact absurd hi hn
end Go.Proofs.YtcoecfpkihakoaaGreatDoor
