import Derived.Test.YtobmckfcipeanaaGreatDoorPB
import Derived.Test.YtobmckfcipeanaaGreatDoorXB
import Derived.Test.YtobmckfcipeanaaGreatDoorXA
import Derived.Deep.RegionHeld3
import Derived.Deep.CutRange
import Derived.Test.YtobmckfcipeanaaGreatDoorEncW
import Derived.StillTailTactics
namespace Go.Proofs.YtobmckfcipeanaaGreatDoor
open Go.RowKit
theorem minfoW : (Tryz.prog.info? 57).map (fun i => (i.zero, i.size, i.bytes)) = some (some (.agg #[.string ⟨#[]⟩, .string ⟨#[]⟩, .string ⟨#[]⟩, .string ⟨#[]⟩, .int .i64 0, .int .i64 0, .bool false, .slice none 0 0]), mE.k, 112) := msginfo _ (by kernel_rfl)
def Gives (w : World) (fn : FuncId) (caps : Array Value) (n : Nat) (mf : Nat -> Msg) : Prop :=
 ∀ i, i < n -> ∀ W, Below w.heap.size w W -> Calls Tryz.prog fn (#[.int .i64 (i : Int)] ++ caps) W fun e w' => (∃ lv : Lv, e = .returned (.slice lv.1 lv.2.1 lv.2.2) /\ HasL w' (mf i, lv) /\ ∀ b o, lv.1 = some ⟨b, o, none⟩ -> W.heap.size <= b /\ b < w'.heap.size) /\ Below W.heap.size W w'
theorem psend_range (mf : Nat -> Msg) (i : Nat) : (List.range (i + 1)).map mf = (List.range i).map mf ++ [mf i] := by rw [List.range_succ, List.map_append]; rfl
set_option maxRecDepth 10000 in
set_option maxHeartbeats 8000000 in
theorem psend_any (h n : Nat) (nm ky kind : ByteArray) (op cf : Int) (L : List ByteArray) (p : Option Addr) (cap : Nat) (fn : FuncId) (caps : Array Value) (mf : Nat -> Msg) (w : World)
 (q0 : w.cell? ⟨h, 0, none⟩ = some (.string nm)) (q1 : w.cell? ⟨h, 1, none⟩ = some (.string ky)) (q2 : w.cell? ⟨h, 2, none⟩ = some (.int .i64 op)) (q3 : w.cell? ⟨h, 3, none⟩ = some (.int .i64 cf)) (q6 : w.cell? ⟨h, 6, none⟩ = some (.slice p n cap))
 (hL : L.length = n) (hst : Strs w p L) (hn : n <= 1000) (hnm : nm.size <= 1000000) (hky : ky.size <= 1000000) (hls : ∀ x ∈ L, x.size <= 1000000)
 (hmf : ∀ i, i < n -> (mf i).from_ = nm /\ (mf i).to_ = txt L i /\ (mf i).kind = kind /\ (mf i).key = ky /\ (mf i).op = op /\ (mf i).config = cf /\ (mf i).shut = false)
 (hent : ∀ args W, Sem.run Tryz.prog (callFunc fn args) W = .ok (.enter fn args) W) (hg : Gives w fn caps n mf) :
 Calls Tryz.prog 36 #[.pointer (some ⟨h, 0, none⟩), .string kind, .func (.func fn) #[] caps] w fun e w' => (∃ p c, e = .returned (.slice p n c) /\ MsgsN w.heap.size w' p ((List.range n).map mf)) /\ Below w.heap.size w w' := by
 have hlt : h < w.heap.size := lt_of_cellB q0
 have HST : Hid (Strs w p L) := hst
 have HLL : Hid (L.length = n) := hL
 have HLS : Hid (∀ x ∈ L, x.size <= 1000000) := hls
 have HMF : Hid (∀ i, i < n -> (mf i).from_ = nm /\ (mf i).to_ = txt L i /\ (mf i).kind = kind /\ (mf i).key = ky /\ (mf i).op = op /\ (mf i).config = cf /\ (mf i).shut = false) := hmf
 have HG : Hid (Gives w fn caps n mf) := hg
 have HS : Hid (∀ W, Below w.heap.size w W -> (W.cell? ⟨h, 0, none⟩ = some (.string nm) /\ W.cell? ⟨h, 1, none⟩ = some (.string ky) /\ W.cell? ⟨h, 2, none⟩ = some (.int .i64 op) /\ W.cell? ⟨h, 3, none⟩ = some (.int .i64 cf) /\ Below w.heap.size w W)) := fun W hW =>
  ⟨(hW.cell (p := ⟨h, 0, none⟩) hlt).trans q0, (hW.cell (p := ⟨h, 1, none⟩) hlt).trans q1, (hW.cell (p := ⟨h, 2, none⟩) hlt).trans q2, (hW.cell (p := ⟨h, 3, none⟩) hlt).trans q3, hW⟩
 clear hst hL hls hmf hg q0 q1 q2 q3
 go_enter Tryz.func36, Tryz.ntmps36
 go_wp2
 go_loopw [7, 16] (fun v x wr => ∃ i : Nat, i <= n /\ x = .int .i64 i /\ (∃ ml, ml.map Prod.fst = (List.range i).map mf /\ MsOwn 57 w.heap.size wr v ml) /\ Below w.heap.size w wr) (fun _ x _ => n - (intOf x).toNat)
 case atStart => exact ⟨0, Nat.zero_le _, rfl, ⟨[], rfl, MsOwn.nil _ _ _⟩, Below.refl _ _⟩
 case round =>
  obtain ⟨i, hi, rfl, ⟨ml, hml, hO⟩, hB⟩ := hrel
  obtain ⟨w1, rfl⟩ : ∃ w1, w1 = wr := ⟨_, rfl⟩
  obtain ⟨pv, cv, rfl, _, _, _, _⟩ := hO.1.form
  have hmll : ml.length = i := by have := congrArg List.length hml; simpa using this
  have htl : ml.length <= 1000 := by omega
  have HML : Hid (ml.map Prod.fst = (List.range i).map mf) := hml
  have HMLL : Hid (ml.length = i) := hmll
  have HO : Hid (MsOwn 57 w.heap.size w1 (.slice pv ml.length cv) ml) := hO
  have HB : Hid (Below w.heap.size w w1) := hB
  have hz1 : w.heap.size <= w1.heap.size := hB.size
  clear hO hml hmll
  by_cases hil : i < n
  ·rcases HST.out.below hB with h0 | ⟨b, o, hpp, hblt, hcs⟩
   ·have : L.length = 0 := by rw [h0]; rfl
    have := HLL.out
    omega
   have q7 := hcs i (by rw [HLL.out]; exact hil)
   have hts : (txt L i).size <= 1000000 := by
    rw [txt_getElem L i (by rw [HLL.out]; exact hil)]
    exact HLS.out _ (List.getElem_mem _)
   obtain ⟨f1, f2, f3, f4, f5, f6, f7⟩ := HMF.out i hil
   have HM : Hid ((mf i).from_ = nm /\ (mf i).to_ = txt L i /\ (mf i).kind = kind /\ (mf i).key = ky /\ (mf i).op = op /\ (mf i).config = cf /\ (mf i).shut = false) := ⟨f1, f2, f3, f4, f5, f6, f7⟩
   have HT : Hid ((List.range (i + 1)).map mf = (List.range i).map mf ++ [mf i]) := psend_range mf i
   subst hpp
   generalize txt L i = t at *
   have HCL : Hid (∀ s W, s.size <= 1000000 -> Hid (Below w1.heap.size w1 W) -> Calls Tryz.prog 24 #[.string s] W fun e w' => e = .returned (.string s) /\ Hid (Below w1.heap.size w1 w') /\ (w'.cell? ⟨h, 0, none⟩ = some (.string nm) /\ w'.cell? ⟨h, 1, none⟩ = some (.string ky) /\ w'.cell? ⟨h, 2, none⟩ = some (.int .i64 op) /\ w'.cell? ⟨h, 3, none⟩ = some (.int .i64 cf) /\ Below w.heap.size w w')) := fun s W hs hW => (sclone_any s W hs).mono fun e w' hp => by
    have h1 : Below w1.heap.size w1 w' := hW.out.trans (hp.2.mono hW.out.size)
    exact ⟨hp.1, h1, HS.out w' (HB.out.trans (h1.mono HB.out.size))⟩
   have HV : Hid (∀ W, Hid (Below w1.heap.size w1 W) -> Calls Tryz.prog fn (#[.int .i64 (i : Int)] ++ caps) W fun e w' => ∃ lv : Lv, e = .returned (.slice lv.1 lv.2.1 lv.2.2) /\ Hid (HasL w' (mf i, lv) /\ ∀ b o, lv.1 = some ⟨b, o, none⟩ -> w1.heap.size <= b /\ b < w'.heap.size) /\ Hid (Below w1.heap.size w1 w') /\ (w'.cell? ⟨h, 0, none⟩ = some (.string nm) /\ w'.cell? ⟨h, 1, none⟩ = some (.string ky) /\ w'.cell? ⟨h, 2, none⟩ = some (.int .i64 op) /\ w'.cell? ⟨h, 3, none⟩ = some (.int .i64 cf) /\ Below w.heap.size w w')) := fun W hW => (HG.out i hil W (HB.out.trans (hW.out.mono HB.out.size))).mono fun e w' hp => by
    obtain ⟨⟨lv, h1, h2, h3⟩, h4⟩ := hp
    have h5 : Below w1.heap.size w1 w' := hW.out.trans (h4.mono hW.out.size)
    exact ⟨lv, h1, ⟨h2, fun b o e => ⟨Nat.le_trans hW.out.size (h3 b o e).1, (h3 b o e).2⟩⟩, h5, HS.out w' (HB.out.trans (h5.mono HB.out.size))⟩
   have HT0 : Hid (Below w1.heap.size w1 w1.drew) := (Below.refl _ _).drew
   have HS0 := HS.out w1.drew hB.drew
   have HAP : Hid (∀ wv (lv : Lv), Hid (Below w1.heap.size w1 wv) -> Hid (HasL wv (mf i, lv) /\ ∀ b o, lv.1 = some ⟨b, o, none⟩ -> w1.heap.size <= b /\ b < wv.heap.size) -> ∀ o5, o5 = Obj.cells #[.string nm, .string t, .string kind, .string ky, .int .i64 op, .int .i64 cf, .bool false, .slice lv.1 lv.2.1 lv.2.2] 57 -> OwnR mE 57 (wv.alloc o5) w.heap.size (.slice pv ml.length cv) ml /\ (∀ j u, (mE.enc (mf i, lv))[j]? = some u -> (wv.alloc o5).cell? ⟨wv.heap.size, j, none⟩ = some u) /\ w.heap.size <= (wv.alloc o5).heap.size /\ ∀ v6 w6, OwnR mE 57 w6 w.heap.size v6 (ml ++ [(mf i, lv)]) -> (wv.alloc o5).grownBy w6 (Value.slice pv ml.length cv).ownBlock -> (v6.ownBlock = (Value.slice pv ml.length cv).ownBlock ∨ v6.ownBlock = some (wv.alloc o5).heap.size) -> MsOwn 57 w.heap.size w6 v6 (ml ++ [(mf i, lv)]) /\ (w6.cell? ⟨h, 0, none⟩ = some (.string nm) /\ w6.cell? ⟨h, 1, none⟩ = some (.string ky) /\ w6.cell? ⟨h, 2, none⟩ = some (.int .i64 op) /\ w6.cell? ⟨h, 3, none⟩ = some (.int .i64 cf) /\ Below w.heap.size w w6)) := fun wv lv hbv hlv o5 ho5 => by
    have hba : Below wv.heap.size wv (wv.alloc o5) := (Below.refl _ _).alloc (Nat.le_refl _) _
    have hb1 : Below w1.heap.size w1 (wv.alloc o5) := hbv.out.trans (hba.mono hbv.out.size)
    have hO1 := HO.out.kept hb1
    refine ⟨hO1.1, fun j u hj => ?_, Nat.le_trans hz1 hb1.size, fun v6 w6 g1 g2 g3 => ⟨HO.out.snoc hz1 hb1 (hlv.out.1.below hba) (fun b o e => ⟨(hlv.out.2 b o e).1, Nat.lt_of_lt_of_le (hlv.out.2 b o e).2 hba.size⟩) g1 g2 g3, HS.out w6 ?_⟩⟩
    ·subst ho5
     rw [World.cell?_alloc_at _ _ _ _ rfl]
     obtain ⟨f1, f2, f3, f4, f5, f6, f7⟩ := HM.out
     simpa [mE, msgC, f1, f2, f3, f4, f5, f6, f7] using hj
    ·exact (HB.out.trans (hb1.mono HB.out.size)).grown g2 (Nat.le_trans hz1 hb1.size) (fun k hk => (hO1.1.block hk).1)
   clear hcs f1 f2 f3 f4 f5 f6 f7 hB
   go_wp2
   go_region_held3 (fun W => (W.cell? ⟨h, 0, none⟩ = some (.string nm) /\ W.cell? ⟨h, 1, none⟩ = some (.string ky) /\ W.cell? ⟨h, 2, none⟩ = some (.int .i64 op) /\ W.cell? ⟨h, 3, none⟩ = some (.int .i64 cf) /\ Below w.heap.size w W)) (first | assumption | exact HS0 | exact HS.out _ (hSv.2.2.2.2.alloc hSv.2.2.2.2.size _)) (first | (go_at_call 24; refine (HCL.out _ _ (by assumption) (by assumption)).mono ?_; rintro e wn ⟨rfl, hTn, hSn⟩) | (refine (HV.out _ (by assumption)).mono ?_; rintro e wv ⟨lv, rfl, hVv, hTv, hSv⟩) | (obtain ⟨ha1, ha2, ha3, ha4⟩ := HAP.out wv lv hTv hVv _ rfl; refine step_append_rec1 (E := mE) rfl (.tmp 21) (.tmp 47) 51 57 rfl (.agg #[.string ⟨#[]⟩, .string ⟨#[]⟩, .string ⟨#[]⟩, .string ⟨#[]⟩, .int .i64 0, .int .i64 0, .bool false, .slice none 0 0]) 112 Tryz.underlying51 minfoW rfl w.heap.size (.slice pv ml.length cv) ml (by simp [Act.eval]) ha1 wv.heap.size 1 (mf i, lv) (by simp [Act.eval]) ha2 (by unfold maxLen; omega) (by omega) ha3 ?_; intro v6 w6 hO6 hg6 hl6; obtain ⟨hN6, hS6⟩ := ha4 v6 w6 hO6 hg6 hl6; clear ha1 ha2 ha3 ha4 hO6 hg6 hl6))
   have HN6 : Hid (MsOwn 57 w.heap.size w6 v6 (ml ++ [(mf i, lv)])) := hN6
   have HB6 : Hid (Below w.heap.size w w6) := hS6.2.2.2.2
   have HME : Hid ((ml ++ [(mf i, lv)]).map Prod.fst = (List.range (i + 1)).map mf) := by show _ = _; rw [List.map_append, HML.out, HT.out]; rfl
   clear hN6 hS6 hSv hTv hVv HCL HV HAP HS0 HT0 HO
   go_wp2
   go_roundw
   case rel => exact ⟨i + 1, by omega, by go_num, ⟨_, HME.out, HN6.out⟩, HB6.out⟩
   case measure => simp [intOf]; omega
  ·have hie : i = n := by omega
   obtain ⟨p6, c6, hv6, hm6⟩ := HO.out.at_
   have HM6 : Hid (MsgsN w.heap.size w1 p6 (ml.map Prod.fst)) := hm6
   have HV6 : Hid (Value.slice pv ml.length cv = .slice p6 ml.length c6) := hv6
   clear hv6 hm6
   go_wp2
   go_ret
   refine ⟨⟨p6, c6, ?_, ?_⟩, HB.out⟩
   ·rw [HV6.out, HMLL.out, hie]
    rfl
   ·have := HM6.out
    rw [HML.out, hie] at this
    exact this
theorem begin1_any (i : Int) (W : World) : Calls Tryz.prog 37 (#[.int .i64 i] ++ #[]) W fun e w' => e = .returned (.slice none 0 0) /\ w' = W := by
 show Calls Tryz.prog 37 #[.int .i64 i] W _
 go_enter Tryz.func37, Tryz.ntmps37
 go_wp2
 go_ret
 exact ⟨rfl, rfl⟩
theorem cfg_fine_all {c : Cfg} (h : ¬ 0 < (cfgF c).1) : ∃ n k : Nat, c.n = (n : Int) /\ c.k = (k : Int) /\ 1 <= k /\ k <= n /\ n <= 12 /\ c.L.length = n /\ ∀ x ∈ c.L, x.size <= 100 := by
 obtain ⟨⟨h1, h2, h3⟩, h4, _, h5, _⟩ := cfgF_fine h
 exact ⟨c.n.toNat, c.k.toNat, by omega, by omega, by omega, by omega, by omega, by omega, fun x hx => by have := isN_size (h5 x hx); omega⟩
set_option maxRecDepth 10000 in
theorem pbegin_any {w : World} {B h : Nat} {S S0 : Nat -> Prop} {a : MAsk} {mv cv : Value} {aw : ByteArray} {m : Option Nat} {D : DataW Value} {row : ByteArray -> Value} (hp : PAk w B h S S0 a mv cv aw m D row) : Calls Tryz.prog 15 #[.pointer (some ⟨h, 0, none⟩)] w fun e w' => (∃ p c, e = .returned (.slice p a.begin.length c) /\ MsgsN w.heap.size w' p a.begin) /\ Below w.heap.size w w' := by
 obtain ⟨n, k, hn, hk, hk1, hkn, hn12, hL, hsz⟩ := cfg_fine_all hp.fine.cfg
 obtain ⟨p, cp, hmv, hst, _, _, _⟩ := hp.stat.mem
 have hbe : a.begin = (List.range n).map fun i => (⟨a.name, txt a.c.L i, wLook, a.key, a.op, a.config, false, []⟩ : Msg) := by
  unfold MAsk.begin MAsk.send
  rw [hp.fine.still, hL]
  rfl
 have hlen : a.begin.length = n := by rw [hbe]; simp
 have q6 : w.cell? ⟨h, 6, none⟩ = some (.slice p n cp) := by rw [hp.cell 6, <- hL, <- hmv]; rfl
 have HC := psend_any h n a.name a.key wLook a.op a.config a.c.L p cp 37 #[] (fun i => (⟨a.name, txt a.c.L i, wLook, a.key, a.op, a.config, false, []⟩ : Msg)) w (hp.cell 0) (hp.cell 1) (hp.cell 2) (hp.cell 3) q6 hL hst (by omega) (by have := hp.fine.name; omega) (by have := hp.fine.key; omega) (fun x hx => by have := hsz x hx; omega) (fun i _ => ⟨rfl, rfl, rfl, rfl, rfl, rfl, rfl⟩) (fun args W => by kernel_rfl) (fun i _ W _ => (begin1_any i W).mono fun e w' hq => ⟨⟨(none, 0, 0), hq.1, ⟨rfl, Rec.nil _ _, Nat.le_refl _, fun _ => ⟨rfl, rfl⟩⟩, fun b o e => by cases e⟩, by rw [hq.2]; exact Below.refl _ _⟩)
 unfold wLook at HC
 rw [hlen, hbe]
 clear hbe hlen q6 hst hsz
 go_enter Tryz.func15, Tryz.ntmps15
 go_wp2_with fail
 refine HC.mono ?_
 rintro e w1 ⟨⟨p1, c1, rfl, hm⟩, hb⟩
 have HM : Hid (MsgsN w.heap.size w1 p1 _) := hm
 have HB : Hid (Below w.heap.size w w1) := hb
 clear hm hb HC
 go_wp2
 go_ret
 exact ⟨⟨p1, c1, rfl, HM.out⟩, HB.out⟩
set_option maxRecDepth 10000 in
set_option maxHeartbeats 4000000 in
theorem keep1_any (kb sb h g n i : Nat) (t1 t2 : Int) (tx et : ByteArray) (c : Nat) (w : World) (hi : i < n) (k0 : w.cell? ⟨kb, 0, none⟩ = some (.pointer (some ⟨h, 0, none⟩))) (s0 : w.cell? ⟨sb, 0, none⟩ = some (.slice (some ⟨g, 0, none⟩) n c))
 (h12 : w.cell? ⟨h, 12, none⟩ = some (.int .i64 t1)) (h13 : w.cell? ⟨h, 13, none⟩ = some (.int .i64 t2)) (h14 : w.cell? ⟨h, 14, none⟩ = some (.string tx)) (g0 : w.cell? ⟨g, i * 2, none⟩ = some (.int .i64 (i : Int))) (g1 : w.cell? ⟨g, i * 2 + 1, none⟩ = some (.string et)) :
 Calls Tryz.prog 106 (#[.int .i64 (i : Int)] ++ #[.pointer (some ⟨kb, 0, none⟩), .pointer (some ⟨sb, 0, none⟩)]) w fun e w' => e = .returned (.slice (some ⟨w.heap.size, 0, none⟩) 1 1) /\ ∃ m, w' = (w.drewN m).alloc (.cells #[.int .i64 t1, .int .i64 t2, .int .i64 (tx.size : Int), .int .i64 (i : Int), .string et] 69) := by
 show Calls Tryz.prog 106 #[.int .i64 (i : Int), .pointer (some ⟨kb, 0, none⟩), .pointer (some ⟨sb, 0, none⟩)] w _
 go_enter Tryz.func106, Tryz.ntmps106
 go_wp2
 refine wp_region_still_tail 15 (by kernel_rfl) (by kernel_rfl) ?_
 simp only [List.take_succ_cons, List.take_zero, List.drop_succ_cons, List.drop_zero]
 still_step
 still_step
 still_step
 still_step
 still_step
 still_step
 still_step
 still_step
 still_step
 still_step
 still_step
 still_step
 still_step
 still_step
 still_step
 refine wpStill_nil ?_
 go_wp2
 go_ret
 exact ⟨rfl, 1, rfl⟩
set_option maxRecDepth 10000 in
set_option maxHeartbeats 8000000 in
theorem pkeep_any {w : World} {B h : Nat} {S S0 : Nat -> Prop} {a : MAsk} {mv cv : Value} {aw : ByteArray} {m : Option Nat} {D : DataW Value} {row : ByteArray -> Value} (hp : PAk w B h S S0 a mv cv aw m D row) (hst : a.st = .keeping) (z : Addr) (hZ : w.cell? ⟨11, 0, none⟩ = some (.iface 234 (.pointer (some z)))) : Calls Tryz.prog 71 #[.pointer (some ⟨h, 0, none⟩)] w fun e w' => (∃ p c, e = .returned (.slice p (a.send wKeep true).length c) /\ MsgsN w.heap.size w' p (a.send wKeep true)) /\ Below w.heap.size w w' := by
 obtain ⟨n, k, hcn, hck, hk1, hkn, hn12, hL, hsz⟩ := cfg_fine_all hp.fine.cfg
 obtain ⟨p, cp, hmv, hmst, _, _, _⟩ := hp.stat.mem
 have hobj : a.obj = (a.tag.1, a.tag.2, a.text, true) := if_pos ⟨Or.inl hst, hp.fine.keep hst⟩
 have hck' : a.c.k.toNat = k := by rw [hck]; rfl
 have hse : a.send wKeep true = (List.range n).map fun i => (⟨a.name, txt a.c.L i, wKeep, a.key, a.op, a.config, false, [⟨a.tag.1, a.tag.2, (a.text.size : Int), (i : Int), encT k a.text i⟩]⟩ : Msg) := by
  unfold MAsk.send MAsk.ver
  rw [hL, hck']
  rfl
 have hlen : (a.send wKeep true).length = n := by rw [hse]; simp
 obtain ⟨w1, hw1⟩ : ∃ w1, w1 = w.alloc (.cells #[.pointer (some ⟨h, 0, none⟩)] 31) := ⟨_, rfl⟩
 have hb1 : Below w.heap.size w w1 := by rw [hw1]; exact (Below.refl _ _).alloc (Nat.le_refl _) _
 have hz1 : w1.heap.size = w.heap.size + 1 := by rw [hw1]; simp
 have hP1 := hp.below hb1
 have b0 : w1.cell? ⟨w.heap.size, 0, none⟩ = some (.pointer (some ⟨h, 0, none⟩)) := by rw [hw1, World.cell?_alloc_at _ _ _ _ rfl]; rfl
 have htx : a.text.size <= 1000 := hp.fine.text
 obtain ⟨tx, htxe⟩ : ∃ tx, tx = a.text := ⟨_, rfl⟩
 rw [<- htxe] at htx
 have HS : Hid (∀ W : World, Below w1.heap.size w1 W -> (W.cell? ⟨w.heap.size, 0, none⟩ = some (.pointer (some ⟨h, 0, none⟩)) /\ W.cell? ⟨h, 4, none⟩ = some (.int .i64 (n : Int)) /\ W.cell? ⟨h, 5, none⟩ = some (.int .i64 (k : Int)) /\ W.cell? ⟨h, 14, none⟩ = some (.string tx) /\ Below w1.heap.size w1 W)) := fun W hW => by
  have hq := hP1.below hW
  refine ⟨(hW.cell (p := ⟨w.heap.size, 0, none⟩) (by show w.heap.size < _; omega)).trans b0, ?_, ?_, ?_, hW⟩
  ·rw [hq.cell 4, <- hcn]; rfl
  ·rw [hq.cell 5, <- hck]; rfl
  ·rw [hq.cell 14]; unfold pkCells; rw [hobj, htxe]; rfl
 have HEN : Hid (∀ W : World, (W.cell? ⟨w.heap.size, 0, none⟩ = some (.pointer (some ⟨h, 0, none⟩)) /\ W.cell? ⟨h, 4, none⟩ = some (.int .i64 (n : Int)) /\ W.cell? ⟨h, 5, none⟩ = some (.int .i64 (k : Int)) /\ W.cell? ⟨h, 14, none⟩ = some (.string tx) /\ Below w1.heap.size w1 W) -> Calls Tryz.prog 105 #[.int .i64 (n : Int), .int .i64 (k : Int), .string tx] W fun e w' => ∃ g, e = .returned (.tuple #[.slice (some ⟨g, 0, none⟩) n n, .nilIface]) /\ Hid (W.heap.size <= g /\ ShRow w' g n (encS k tx)) /\ Hid (Below W.heap.size W w') /\ (w'.cell? ⟨w.heap.size, 0, none⟩ = some (.pointer (some ⟨h, 0, none⟩)) /\ w'.cell? ⟨h, 4, none⟩ = some (.int .i64 (n : Int)) /\ w'.cell? ⟨h, 5, none⟩ = some (.int .i64 (k : Int)) /\ w'.cell? ⟨h, 14, none⟩ = some (.string tx) /\ Below w1.heap.size w1 w')) := fun W hW => (encode_ok n k tx z W hk1 hkn hn12 htx ((hb1.trans (hW.2.2.2.2.mono hb1.size)).cell (p := ⟨11, 0, none⟩) (lt_of_cellB hZ) |>.trans hZ)).mono fun e w' hq => by
  obtain ⟨⟨g, h1, h2, h3⟩, h4⟩ := hq
  exact ⟨g, h2, ⟨h1, h3⟩, h4, HS.out w' (hW.2.2.2.2.trans (h4.mono hW.2.2.2.2.size))⟩
 have HS0 := HS.out w1.drew (Below.refl _ _).drew
 have HW1 : Hid (w1 = w.alloc (.cells #[.pointer (some ⟨h, 0, none⟩)] 31)) := hw1
 have HSA := HS.out (w1.alloc (.cells #[.slice none 0 0] 106)).drew (((Below.refl _ _).alloc (Nat.le_refl _) _).drew)
 have HENA : Hid (Calls Tryz.prog 105 #[.int .i64 (n : Int), .int .i64 (k : Int), .string tx] w1.drew fun e w' => ∃ g, e = .returned (.tuple #[.slice (some ⟨g, 0, none⟩) n n, .nilIface]) /\ Hid (ShRow w' g n (encS k tx)) /\ (w'.cell? ⟨w.heap.size, 0, none⟩ = some (.pointer (some ⟨h, 0, none⟩)) /\ w'.cell? ⟨h, 4, none⟩ = some (.int .i64 (n : Int)) /\ w'.cell? ⟨h, 5, none⟩ = some (.int .i64 (k : Int)) /\ w'.cell? ⟨h, 14, none⟩ = some (.string tx) /\ Below w1.heap.size w1 w')) := (HEN.out w1.drew HS0).mono fun e w' hq => by
  obtain ⟨g, h1, h2, h3, h4⟩ := hq
  exact ⟨g, h1, h2.out.2, h4⟩
 have HENB : Hid (Calls Tryz.prog 105 #[.int .i64 (n : Int), .int .i64 (k : Int), .string tx] (w1.alloc (.cells #[.slice none 0 0] 106)).drew fun e w' => ∃ g, e = .returned (.tuple #[.slice (some ⟨g, 0, none⟩) n n, .nilIface]) /\ Hid (ShRow w' g n (encS k tx) /\ g ≠ w1.heap.size) /\ (w'.cell? ⟨w.heap.size, 0, none⟩ = some (.pointer (some ⟨h, 0, none⟩)) /\ w'.cell? ⟨h, 4, none⟩ = some (.int .i64 (n : Int)) /\ w'.cell? ⟨h, 5, none⟩ = some (.int .i64 (k : Int)) /\ w'.cell? ⟨h, 14, none⟩ = some (.string tx) /\ Below w1.heap.size w1 w') /\ w'.cell? ⟨w1.heap.size, 0, none⟩ = some (.slice none 0 0) /\ w'.frozen? ⟨w1.heap.size, 0, none⟩ = false) := (HEN.out _ HSA).mono fun e w' hq => by
  obtain ⟨g, h1, h2, h3, h4⟩ := hq
  have hlt : w1.heap.size < (w1.alloc (.cells #[.slice none 0 0] 106)).drew.heap.size := by show w1.heap.size < (w1.alloc _).heap.size; simp
  refine ⟨g, h1, ⟨h2.out.2, by have := h2.out.1; omega⟩, h4, (h3.out.cell (p := ⟨w1.heap.size, 0, none⟩) hlt).trans ?_, (h3.out.frozen (p := ⟨w1.heap.size, 0, none⟩) hlt).trans ?_⟩
  ·show (w1.alloc _).cell? _ = _
   rw [World.cell?_alloc_at _ _ _ _ rfl]
   rfl
  ·show (w1.alloc _).frozen? _ = _
   exact World.frozen?_alloc_at _ _ _ _ rfl
 have HSD : Hid (∀ W : World, Below w1.heap.size w1 W -> ∀ sb g, W.cell? ⟨sb, 0, none⟩ = some (.slice (some ⟨g, 0, none⟩) n n) -> ShRow W g n (encS k tx) -> Calls Tryz.prog 36 #[.pointer (some ⟨h, 0, none⟩), .string ⟨#[107, 101, 101, 112]⟩, .func (.func 106) #[] #[.pointer (some ⟨w.heap.size, 0, none⟩), .pointer (some ⟨sb, 0, none⟩)]] W fun e w' => (∃ p c, e = .returned (.slice p n c) /\ MsgsN w.heap.size w' p (a.send wKeep true)) /\ Below w.heap.size w w') := fun W hW sb g hsb hrow => by
  have hq := hP1.below hW
  have q6 : W.cell? ⟨h, 6, none⟩ = some (.slice p n cp) := by rw [hq.cell 6, <- hL, <- hmv]; rfl
  refine (psend_any h n a.name a.key wKeep a.op a.config a.c.L p cp 106 _ (fun i => (⟨a.name, txt a.c.L i, wKeep, a.key, a.op, a.config, false, [⟨a.tag.1, a.tag.2, (a.text.size : Int), (i : Int), encT k a.text i⟩]⟩ : Msg)) W (hq.cell 0) (hq.cell 1) (hq.cell 2) (hq.cell 3) q6 hL ((hmst.below hb1).below hW) (by omega) (by have := hp.fine.name; omega) (by have := hp.fine.key; omega) (fun x hx => by have := hsz x hx; omega) (fun i _ => ⟨rfl, rfl, rfl, rfl, rfl, rfl, rfl⟩) (fun args W => by kernel_rfl) (fun i hi W2 hW2 => ?_)).mono fun e w' hq2 => ⟨by rw [hse]; obtain ⟨⟨p, c, e1, e2⟩, _⟩ := hq2; exact ⟨p, c, e1, e2.mono (Nat.le_trans hb1.size hW.size)⟩, hb1.trans ((hW.trans (hq2.2.mono hW.size)).mono hb1.size)⟩
  have hq2 := hq.below hW2
  obtain ⟨s1, _, _, _, _⟩ := HS.out W2 (hW.trans (hW2.mono hW.size))
  have hrow2 := hrow.below hW2
  have c12 : W2.cell? ⟨h, 12, none⟩ = some (.int .i64 a.tag.1) := by rw [hq2.cell 12]; unfold pkCells; rw [hobj]; rfl
  have c13 : W2.cell? ⟨h, 13, none⟩ = some (.int .i64 a.tag.2) := by rw [hq2.cell 13]; unfold pkCells; rw [hobj]; rfl
  have c14 : W2.cell? ⟨h, 14, none⟩ = some (.string a.text) := by rw [hq2.cell 14]; unfold pkCells; rw [hobj]; rfl
  have r0 : W2.cell? ⟨g, i * 2, none⟩ = some (.int .i64 (i : Int)) := hrow2.at_ hi
  have r1 : W2.cell? ⟨g, i * 2 + 1, none⟩ = some (.string (encT k a.text i)) := by rw [<- htxe]; exact hrow2.text hi
  refine (keep1_any w.heap.size sb h g n i a.tag.1 a.tag.2 a.text (encT k a.text i) n W2 hi s1 ((hW2.cell (p := ⟨sb, 0, none⟩) (lt_of_cellB hsb)).trans hsb) c12 c13 c14 r0 r1).mono fun e w' hq3 => ?_
  obtain ⟨he, mm, hw'⟩ := hq3
  have hbw : Below W2.heap.size W2 w' := by rw [hw']; exact (below_drewN (Below.refl _ _) mm).alloc (Nat.le_refl _) _
  refine ⟨⟨(some ⟨W2.heap.size, 0, none⟩, 1, 1), he, ⟨rfl, Or.inr ⟨W2.heap.size, 0, rfl, by rw [hw']; simp, fun j x hx jj u hu => ?_⟩, Nat.le_refl _, (fun e => by cases e)⟩, fun b o e => ?_⟩, hbw⟩
  ·match j, hx with
   | 0, hx =>
    obtain rfl : (⟨a.tag.1, a.tag.2, (a.text.size : Int), (i : Int), encT k a.text i⟩ : Ver) = x := by simpa using hx
    have e0 : 0 + 0 * verE.k + jj = jj := by simp
    rw [e0, hw', World.cell?_alloc_at (w := W2.drewN mm) _ _ W2.heap.size _ rfl]
    simpa [verE, verC] using hu
  ·obtain rfl : W2.heap.size = b := by injection e with e1; injection e1
   exact ⟨Nat.le_refl _, by rw [hw']; simp⟩
 rw [hlen]
 clear hp hP1 hse hlen hmst hsz hw1 hb1 b0 hobj hZ htxe hz1
 go_enter Tryz.func71, Tryz.ntmps71
 go_wp2
 rw [<- HW1.out]
 go_cut [3] from 4 to 25 (fun v W => ∃ sb g, v = .pointer (some ⟨sb, 0, none⟩) /\ W.cell? ⟨sb, 0, none⟩ = some (.slice (some ⟨g, 0, none⟩) n n) /\ ShRow W g n (encS k tx) /\ Below w1.heap.size w1 W)
 case first =>
  go_region_held3 (fun W => (W.cell? ⟨w.heap.size, 0, none⟩ = some (.pointer (some ⟨h, 0, none⟩)) /\ W.cell? ⟨h, 4, none⟩ = some (.int .i64 (n : Int)) /\ W.cell? ⟨h, 5, none⟩ = some (.int .i64 (k : Int)) /\ W.cell? ⟨h, 14, none⟩ = some (.string tx) /\ Below w1.heap.size w1 W)) (first | with_reducible assumption | with_reducible exact HS0 | with_reducible exact HSA | (with_reducible exact HS.out _ (hS2.2.2.2.2.alloc hS2.2.2.2.2.size _)) | (with_reducible exact HS.out _ (hS2.2.2.2.2.setCell (Nat.le_refl _) _))) (first | (go_at_call 105; with_reducible refine HENA.out.mono ?_; rintro e w2 ⟨g, rfl, hGA, hS2⟩) | (go_at_call 105; with_reducible refine HENB.out.mono ?_; rintro e w2 ⟨g, rfl, hGB, hS2, x1, x2⟩))
  all_goals (go_wp2_with fail; go_meet)
  ·exact ⟨w2.heap.size, g, rfl, by rw [World.cell?_alloc_at _ _ _ _ rfl]; rfl, hGA.out.below ((Below.refl _ _).alloc (Nat.le_refl _) _), hS2.2.2.2.2.alloc hS2.2.2.2.2.size _⟩
  ·exact ⟨w1.heap.size, g, rfl, World.cell?_setCell_same _ _ _ x1, World.rowIs.of_block hGB.out.1 (Below.heap_setCell _ _ _ _ hGB.out.2), hS2.2.2.2.2.setCell (Nat.le_refl _) _⟩
 case rest =>
  obtain ⟨sb, g, rfl, hsb, hrow, hbw⟩ := hcut
  have HX := HSD.out wc hbw sb g hsb hrow
  have b0 := (HS.out wc hbw).1
  clear hsb hrow hbw HSD HS HEN HENA HENB HS0 HSA
  go_wp2_with fail
  refine HX.mono ?_
  rintro e w9 ⟨⟨p9, c9, rfl, hm9⟩, hb9⟩
  have HM9 : Hid (MsgsN w.heap.size w9 p9 (a.send wKeep true)) := hm9
  have HB9 : Hid (Below w.heap.size w w9) := hb9
  clear hm9 hb9 HX
  go_wp2
  go_ret
  exact ⟨⟨p9, c9, rfl, HM9.out⟩, HB9.out⟩
end Go.Proofs.YtobmckfcipeanaaGreatDoor
