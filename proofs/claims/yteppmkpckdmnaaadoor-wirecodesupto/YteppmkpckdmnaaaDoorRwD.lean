/- Package wire: what is thrown is caught: Decode. -/
import Derived.Test.YteppmkpckdmnaaaDoorRwS
import Derived.Test.YteppmkpckdmnaaaDoorOpenFW
import Derived.Test.YteppmkpckdmnaaaDoorWireCW
import Derived.Defers
import Derived.Recover
import Derived.Laws.Pointers
namespace Go.Proofs.YteppmkpckdmnaaaDoor
open Go.RowKit
def errA (ad : Nat → Addr) (i : Nat) : Value := .iface 124 (.pointer (some (ad i)))
set_option maxRecDepth 10000 in
theorem opened_long (ad : Nat → Addr) (s : ByteArray) (w : World) (hS : Sent w ad) (h : 4000 < s.size) :
    Calls Tryd.prog 23 #[.string s] w fun e w' => e = thrown (errA ad 0) ∧ Below w.heap.size w w' := by
  have g0 := hS.c0
  have d1 : decide (4000 < (s.size : Int)) = true := decide_eq_true (by omega)
  clear hS
  go_enter Tryd.func23, Tryd.ntmps23
  go_wp2
  exact ⟨rfl, rfl, Below.refl _ _⟩
set_option maxRecDepth 10000 in
theorem opened_bad (ad : Nat → Addr) (i : Nat) (s : ByteArray) (w : World) (h : s.size ≤ 4000) (hO : Calls Tryd.prog 36 #[.string s] w fun e w' => e = .returned (.tuple #[.string ⟨#[]⟩, .iface 124 (.pointer (some (ad i)))]) ∧ Below w.heap.size w w') :
    Calls Tryd.prog 23 #[.string s] w fun e w' => e = thrown (errA ad i) ∧ Below w.heap.size w w' := by
  have d1 : decide (4000 < (s.size : Int)) = false := decide_eq_false (by omega)
  go_enter Tryd.func23, Tryd.ntmps23
  go_wp2_with fail
  refine hO.mono ?_
  rintro e w1 ⟨rfl, hb1⟩
  have HB1 : Hid (Below w.heap.size w w1) := hb1
  clear hb1 hO
  go_wp2
  exact ⟨rfl, rfl, HB1.out⟩
set_option maxRecDepth 10000 in
theorem opened_ok (s t : ByteArray) (w : World) (h : s.size ≤ 4000) (hO : Calls Tryd.prog 36 #[.string s] w fun e w' => e = .returned (.tuple #[.string t, .nilIface]) ∧ Below w.heap.size w w') :
    Calls Tryd.prog 23 #[.string s] w fun e w' => e = .returned (.string t) ∧ Below w.heap.size w w' := by
  have d1 : decide (4000 < (s.size : Int)) = false := decide_eq_false (by omega)
  go_enter Tryd.func23, Tryd.ntmps23
  go_wp2_with fail
  refine hO.mono ?_
  rintro e w1 ⟨rfl, hb1⟩
  have HB1 : Hid (Below w.heap.size w w1) := hb1
  clear hb1 hO
  go_wp2
  go_ret
  exact ⟨rfl, HB1.out⟩
set_option maxRecDepth 100000 in
/-- The deferred function, where something was thrown. -/
theorem caught_thrown (p : Addr) (x : Value) (tE : TypeId) (q : Addr) (older : List PanicEntry) (w : World) (hc : w.cell? p = some x) (hz : w.frozen? p = false) :
    CallsD Tryd.prog 22 #[.pointer (some p)] (.panicking ({ v := .iface 63 (.agg #[.iface tE (.pointer (some q))]), recovered := false } :: older)) w fun e u' w' =>
      e = .returned (.tuple #[]) ∧ u' = .panicking ({ v := .iface 63 (.agg #[.iface tE (.pointer (some q))]), recovered := true } :: older) ∧ w' = w.setCell p (.iface tE (.pointer (some q))) := by
  have hta : ∀ W, Sem.run Tryd.prog (Instr.typeAssert (.iface 63 (.agg #[.iface tE (.pointer (some q))])) 20 63 false) W = .ok (.agg #[.iface tE (.pointer (some q))]) W := fun W => by kernel_rfl
  have hfd : ∀ W, Sem.run Tryd.prog (Instr.field 63 (.agg #[.iface tE (.pointer (some q))]) 0) W = .ok (.iface tE (.pointer (some q))) W := fun W => by kernel_rfl
  refine callsD_of_wpS Tryd.func22 rfl fun c₀ cs hu => ?_
  apply wpS_seq
  apply wpS_region
  simp [wpOpsS, go_sem, recoverD, hu, Tryd.ntmps22, Exit.thenS]
  refine wpS_of_wp ?_
  go_wp2
  cases c₀
  simp_all [bodyPostS, results, Tryd.results22]
/-- The deferred function, where nothing was thrown. -/
theorem caught_idle (p : Addr) (w : World) :
    CallsD Tryd.prog 22 #[.pointer (some p)] .returning w fun e u' w' => e = .returned (.tuple #[]) ∧ u' = .returning ∧ w' = w := by
  refine callsD_of_wpS Tryd.func22 rfl fun c₀ cs hu => ?_
  apply wpS_seq
  apply wpS_region
  simp [wpOpsS, go_sem, recoverD, hu, Tryd.ntmps22, Exit.thenS]
  refine wpS_of_wp ?_
  go_wp2
  cases c₀
  simp_all [bodyPostS, results, Tryd.results22]
set_option maxRecDepth 100000 in
set_option maxHeartbeats 2000000 in
/-- Decode where opened throws. -/
theorem decode_closed (ad : Nat → Addr) (i : Nat) (s : ByteArray) (w : World) (hO : ∀ W, Below w.heap.size w W → Calls Tryd.prog 23 #[.string s] W fun e w' => e = thrown (errA ad i) ∧ Below W.heap.size W w') :
    Calls Tryd.prog 11 #[.string s] w fun e w' => e = .returned (.tuple #[msgA noMsg (.slice none 0 0), errA ad i]) ∧ Below w.heap.size w w' := by
  have hmf : ∀ (fn : Fn) (first cap : Array Value) (w : World), (Instr.makeFunc fn first cap).run Tryd.prog w = .ok (.func fn first cap) w := fun _ _ _ _ => rfl
  obtain ⟨w1, hw1⟩ : ∃ w1, w1 = (w.alloc (.cells #[.string ⟨#[]⟩, .string ⟨#[]⟩, .string ⟨#[]⟩, .string ⟨#[]⟩, .int .i64 0, .int .i64 0, .bool false, .slice none 0 0] 31)).alloc (.cells #[.nilIface] 28) := ⟨_, rfl⟩
  have HW1 : Hid (w1 = (w.alloc (.cells #[.string ⟨#[]⟩, .string ⟨#[]⟩, .string ⟨#[]⟩, .string ⟨#[]⟩, .int .i64 0, .int .i64 0, .bool false, .slice none 0 0] 31)).alloc (.cells #[.nilIface] 28)) := hw1
  have hb1 : Below w.heap.size w w1 := by rw [hw1]; exact ((Below.refl _ _).alloc (Nat.le_refl _) _).alloc (by simp) _
  have e2 : (w.alloc (.cells #[.string ⟨#[]⟩, .string ⟨#[]⟩, .string ⟨#[]⟩, .string ⟨#[]⟩, .int .i64 0, .int .i64 0, .bool false, .slice none 0 0] 31)).heap.size = w.heap.size + 1 := by simp
  have hx1 : w1.heap[w.heap.size]? = some (.cells #[.string ⟨#[]⟩, .string ⟨#[]⟩, .string ⟨#[]⟩, .string ⟨#[]⟩, .int .i64 0, .int .i64 0, .bool false, .slice none 0 0] 31 (0, 0)) := by
    rw [hw1, heap_alloc_old _ _ (by rw [e2]; omega)]
    exact heap_alloc_new _ _
  have hy1 : w1.heap[w.heap.size + 1]? = some (.cells #[.nilIface] 28 (0, 0)) := by
    rw [hw1, ← e2]
    exact heap_alloc_new _ _
  have HOP : Hid (Calls Tryd.prog 23 #[.string s] w1 fun e w' => e = thrown (errA ad i) ∧ Below w1.heap.size w1 w') := hO w1 hb1
  have HF1 : Hid (w1.heap[w.heap.size]? = some (.cells #[.string ⟨#[]⟩, .string ⟨#[]⟩, .string ⟨#[]⟩, .string ⟨#[]⟩, .int .i64 0, .int .i64 0, .bool false, .slice none 0 0] 31 (0, 0)) ∧ w1.heap[w.heap.size + 1]? = some (.cells #[.nilIface] 28 (0, 0)) ∧ Below w.heap.size w w1) := ⟨hx1, hy1, hb1⟩
  unfold thrown errA at HOP
  unfold msgA noMsg errA
  clear hO hw1 hb1 hx1 hy1 e2
  go_enter_defers Tryd.func11, Tryd.ntmps11
  go_wp2_with fail
  rw [← HW1.out]
  refine HOP.out.mono ?_
  rintro e w2 ⟨rfl, hb2⟩
  have hl1 := (Array.getElem?_eq_some_iff.1 HF1.out.2.1).1
  have hx2 := (hb2.block _ (by omega)).trans HF1.out.1
  have hy2 := (hb2.block _ hl1).trans HF1.out.2.1
  have HBE : Hid (Below w.heap.size w w2) := HF1.out.2.2.trans (hb2.mono HF1.out.2.2.size)
  have z0 : w2.cell? ⟨w.heap.size, 0, none⟩ = some (.string ⟨#[]⟩) := by simp [World.cell?, hx2]
  have z1 : w2.cell? ⟨w.heap.size, 1, none⟩ = some (.string ⟨#[]⟩) := by simp [World.cell?, hx2]
  have z2 : w2.cell? ⟨w.heap.size, 2, none⟩ = some (.string ⟨#[]⟩) := by simp [World.cell?, hx2]
  have z3 : w2.cell? ⟨w.heap.size, 3, none⟩ = some (.string ⟨#[]⟩) := by simp [World.cell?, hx2]
  have z4 : w2.cell? ⟨w.heap.size, 4, none⟩ = some (.int .i64 0) := by simp [World.cell?, hx2]
  have z5 : w2.cell? ⟨w.heap.size, 5, none⟩ = some (.int .i64 0) := by simp [World.cell?, hx2]
  have z6 : w2.cell? ⟨w.heap.size, 6, none⟩ = some (.bool false) := by simp [World.cell?, hx2]
  have z7 : w2.cell? ⟨w.heap.size, 7, none⟩ = some (.slice none 0 0) := by simp [World.cell?, hx2]
  have z8 : w2.cell? ⟨w.heap.size + 1, 0, none⟩ = some .nilIface := by simp [World.cell?, hy2]
  have z9 : w2.frozen? ⟨w.heap.size + 1, 0, none⟩ = false := by simp [World.frozen?, hy2]
  clear hb2 hl1 hx2 hy2 HOP HW1
  go_wp2
  refine leaves_cons (f := 22) (args := #[.pointer (some ⟨w.heap.size + 1, 0, none⟩)]) (by simp) (by simp [go_sem]) ?_
  refine (caught_thrown ⟨w.heap.size + 1, 0, none⟩ .nilIface _ _ [] _ z8 z9).mono ?_
  rintro e u' w'' ⟨rfl, rfl, rfl⟩
  simp [Leaves, settle, results, Tryd.results11, go_sem, z0, z1, z2, z3, z4, z5, z6, z7, z8]
  exact HBE.out.setCell (p := ⟨w.heap.size + 1, 0, none⟩) (by show w.heap.size ≤ w.heap.size + 1; omega) _
theorem sentR_of {w0 w : World} {rb : Nat} {ad : Nat → Addr} (hS : Sent w0 ad) (hb : Below w0.heap.size w0 w) (hrb : w0.heap.size ≤ rb) : SentR w rb ad := fun W hW => hS.below (hb.trans ⟨hW.os, hW.tape, hW.output, hW.size, fun k hk => hW.block k (by have := hb.size; omega) (fun e => by injection e with e; omega)⟩)
set_option maxRecDepth 100000 in
set_option maxHeartbeats 4000000 in
/-- Decode of a text that was opened. -/
theorem decode_opened (ad : Nat → Addr) (s : ByteArray) (r : List UInt8) (w : World) (hS : Sent w ad) (hr : r.length ≤ 4000) (hO : ∀ W, Below w.heap.size w W → Calls Tryd.prog 23 #[.string s] W fun e w' => e = .returned (.string (ofL r)) ∧ Below W.heap.size W w') :
    Calls Tryd.prog 11 #[.string s] w fun e w' => ((oMsg r = none ∧ e = .returned (.tuple #[msgA noMsg (.slice none 0 0), errA ad 0])) ∨ ∃ m lv, oMsg r = some m ∧ e = .returned (.tuple #[msgA m lv, .nilIface]) ∧ OwnR verE 50 w' w.heap.size lv m.L) ∧ Below w.heap.size w w' := by
  have hmf : ∀ (fn : Fn) (first cap : Array Value) (w : World), (Instr.makeFunc fn first cap).run Tryd.prog w = .ok (.func fn first cap) w := fun _ _ _ _ => rfl
  obtain ⟨w1, hw1⟩ : ∃ w1, w1 = (w.alloc (.cells #[.string ⟨#[]⟩, .string ⟨#[]⟩, .string ⟨#[]⟩, .string ⟨#[]⟩, .int .i64 0, .int .i64 0, .bool false, .slice none 0 0] 31)).alloc (.cells #[.nilIface] 28) := ⟨_, rfl⟩
  have HW1 : Hid (w1 = (w.alloc (.cells #[.string ⟨#[]⟩, .string ⟨#[]⟩, .string ⟨#[]⟩, .string ⟨#[]⟩, .int .i64 0, .int .i64 0, .bool false, .slice none 0 0] 31)).alloc (.cells #[.nilIface] 28)) := hw1
  have hb1 : Below w.heap.size w w1 := by rw [hw1]; exact ((Below.refl _ _).alloc (Nat.le_refl _) _).alloc (by simp) _
  have e2 : (w.alloc (.cells #[.string ⟨#[]⟩, .string ⟨#[]⟩, .string ⟨#[]⟩, .string ⟨#[]⟩, .int .i64 0, .int .i64 0, .bool false, .slice none 0 0] 31)).heap.size = w.heap.size + 1 := by simp
  have hx1 : w1.heap[w.heap.size]? = some (.cells #[.string ⟨#[]⟩, .string ⟨#[]⟩, .string ⟨#[]⟩, .string ⟨#[]⟩, .int .i64 0, .int .i64 0, .bool false, .slice none 0 0] 31 (0, 0)) := by
    rw [hw1, heap_alloc_old _ _ (by rw [e2]; omega)]
    exact heap_alloc_new _ _
  have hy1 : w1.heap[w.heap.size + 1]? = some (.cells #[.nilIface] 28 (0, 0)) := by
    rw [hw1, ← e2]
    exact heap_alloc_new _ _
  have HOP : Hid (Calls Tryd.prog 23 #[.string s] w1 fun e w' => e = .returned (.string (ofL r)) ∧ Below w1.heap.size w1 w') := hO w1 hb1
  have HF1 : Hid (w1.heap[w.heap.size]? = some (.cells #[.string ⟨#[]⟩, .string ⟨#[]⟩, .string ⟨#[]⟩, .string ⟨#[]⟩, .int .i64 0, .int .i64 0, .bool false, .slice none 0 0] 31 (0, 0)) ∧ w1.heap[w.heap.size + 1]? = some (.cells #[.nilIface] 28 (0, 0)) ∧ Below w.heap.size w w1) := ⟨hx1, hy1, hb1⟩
  have HMS : Hid (∀ W rb, Below w.heap.size w W → w.heap.size ≤ rb → RwAt W rb r → Calls Tryd.prog 24 #[.pointer (some ⟨rb, 0, none⟩)] W fun e w' => MsgO ad W rb r e w') := fun W rb hW hrb hat => wrmsg_any ad rb r W hat (sentR_of hS hW hrb) hr
  clear hO hw1 hb1 hx1 hy1 e2 hS
  go_enter_defers Tryd.func11, Tryd.ntmps11
  go_wp2_with fail
  rw [← HW1.out]
  refine HOP.out.mono ?_
  rintro e w2 ⟨rfl, hb2⟩
  have hl1 := (Array.getElem?_eq_some_iff.1 HF1.out.2.1).1
  have hx2 := (hb2.block _ (by omega)).trans HF1.out.1
  have hy2 := (hb2.block _ hl1).trans HF1.out.2.1
  have hl2 := (Array.getElem?_eq_some_iff.1 hy2).1
  have hbe : Below w.heap.size w w2 := HF1.out.2.2.trans (hb2.mono HF1.out.2.2.size)
  obtain ⟨w3, hw3⟩ : ∃ w3, w3 = w2.alloc (.cells #[.string (ofL r)] 65) := ⟨_, rfl⟩
  have HW3 : Hid (w3 = w2.alloc (.cells #[.string (ofL r)] 65)) := hw3
  have hb3 : Below w.heap.size w w3 := by rw [hw3]; exact hbe.alloc hbe.size _
  have hat3 : RwAt w3 w2.heap.size r := by rw [hw3]; exact heap_alloc_new _ _
  have hx3 : w3.heap[w.heap.size]? = some (.cells #[.string ⟨#[]⟩, .string ⟨#[]⟩, .string ⟨#[]⟩, .string ⟨#[]⟩, .int .i64 0, .int .i64 0, .bool false, .slice none 0 0] 31 (0, 0)) := by rw [hw3, heap_alloc_old _ _ (by omega)]; exact hx2
  have hy3 : w3.heap[w.heap.size + 1]? = some (.cells #[.nilIface] 28 (0, 0)) := by rw [hw3, heap_alloc_old _ _ hl2]; exact hy2
  have hs3 : w.heap.size + 1 < w3.heap.size := (Array.getElem?_eq_some_iff.1 hy3).1
  have HMC : Hid (Calls Tryd.prog 24 #[.pointer (some ⟨w2.heap.size, 0, none⟩)] w3 fun e w' => MsgO ad w3 w2.heap.size r e w') := HMS.out w3 w2.heap.size hb3 hbe.size hat3
  have HF3 : Hid (w3.heap[w.heap.size]? = some (.cells #[.string ⟨#[]⟩, .string ⟨#[]⟩, .string ⟨#[]⟩, .string ⟨#[]⟩, .int .i64 0, .int .i64 0, .bool false, .slice none 0 0] 31 (0, 0)) ∧ w3.heap[w.heap.size + 1]? = some (.cells #[.nilIface] 28 (0, 0)) ∧ Below w.heap.size w w3 ∧ w.heap.size + 1 < w2.heap.size ∧ w.heap.size + 1 < w3.heap.size) := ⟨hx3, hy3, hb3, hl2, hs3⟩
  clear hb2 hl1 hx2 hy2 hl2 hbe hw3 hb3 hat3 hx3 hy3 hs3 HOP HW1 HMS HF1
  go_wp2_with fail
  rw [← HW3.out]
  refine HMC.out.mono ?_
  rintro e w4 ⟨hg4, h4⟩
  obtain ⟨f1, f2, f3, f4, f5⟩ := HF3.out
  have hx4 := (hg4.block _ (by omega) (fun e => by injection e with e; omega)).trans f1
  have hy4 := (hg4.block _ f5 (fun e => by injection e with e; omega)).trans f2
  have HBE : Hid (Below w.heap.size w w4) := f3.trans ⟨hg4.os, hg4.tape, hg4.output, hg4.size, fun k hk => hg4.block k (by omega) (fun e => by injection e with e; omega)⟩
  have z0 : w4.cell? ⟨w.heap.size, 0, none⟩ = some (.string ⟨#[]⟩) := by simp [World.cell?, hx4]
  have z1 : w4.cell? ⟨w.heap.size, 1, none⟩ = some (.string ⟨#[]⟩) := by simp [World.cell?, hx4]
  have z2 : w4.cell? ⟨w.heap.size, 2, none⟩ = some (.string ⟨#[]⟩) := by simp [World.cell?, hx4]
  have z3 : w4.cell? ⟨w.heap.size, 3, none⟩ = some (.string ⟨#[]⟩) := by simp [World.cell?, hx4]
  have z4 : w4.cell? ⟨w.heap.size, 4, none⟩ = some (.int .i64 0) := by simp [World.cell?, hx4]
  have z5 : w4.cell? ⟨w.heap.size, 5, none⟩ = some (.int .i64 0) := by simp [World.cell?, hx4]
  have z6 : w4.cell? ⟨w.heap.size, 6, none⟩ = some (.bool false) := by simp [World.cell?, hx4]
  have z7 : w4.cell? ⟨w.heap.size, 7, none⟩ = some (.slice none 0 0) := by simp [World.cell?, hx4]
  have z8 : w4.cell? ⟨w.heap.size + 1, 0, none⟩ = some .nilIface := by simp [World.cell?, hy4]
  have z9 : w4.frozen? ⟨w.heap.size + 1, 0, none⟩ = false := by simp [World.frozen?, hy4]
  have y0 : w4.frozen? ⟨w.heap.size, 0, none⟩ = false := by simp [World.frozen?, hx4]
  have y1 : w4.frozen? ⟨w.heap.size, 1, none⟩ = false := by simp [World.frozen?, hx4]
  have y2 : w4.frozen? ⟨w.heap.size, 2, none⟩ = false := by simp [World.frozen?, hx4]
  have y3 : w4.frozen? ⟨w.heap.size, 3, none⟩ = false := by simp [World.frozen?, hx4]
  have y4 : w4.frozen? ⟨w.heap.size, 4, none⟩ = false := by simp [World.frozen?, hx4]
  have y5 : w4.frozen? ⟨w.heap.size, 5, none⟩ = false := by simp [World.frozen?, hx4]
  have y6 : w4.frozen? ⟨w.heap.size, 6, none⟩ = false := by simp [World.frozen?, hx4]
  have y7 : w4.frozen? ⟨w.heap.size, 7, none⟩ = false := by simp [World.frozen?, hx4]
  rcases h4 with ⟨hno, rfl⟩ | ⟨m, lv, hm, rfl, hO⟩
  · have HNO : Hid (oMsg r = none) := hno
    clear hg4 hx4 hy4 f1 f2 f3 f4 f5 hno HMC HW3 HF3
    unfold thrown errT
    go_wp2
    refine leaves_cons (f := 22) (args := #[.pointer (some ⟨w.heap.size + 1, 0, none⟩)]) (by simp) (by simp [go_sem]) ?_
    refine (caught_thrown ⟨w.heap.size + 1, 0, none⟩ .nilIface _ _ [] _ z8 z9).mono ?_
    rintro e u' w'' ⟨rfl, rfl, rfl⟩
    simp only [HNO.out, msgA, noMsg, errA]
    simp [Leaves, settle, results, Tryd.results11, go_sem, z0, z1, z2, z3, z4, z5, z6, z7, z8]
    exact HBE.out.setCell (p := ⟨w.heap.size + 1, 0, none⟩) (by show w.heap.size ≤ w.heap.size + 1; omega) _
  · obtain ⟨lp, lc, hlv, _⟩ := hO.form
    subst hlv
    have HO : Hid (OwnR verE 50 w4 w3.heap.size (.slice lp m.L.length lc) m.L) := hO
    have HMO : Hid (oMsg r = some m) := hm
    clear hg4 hx4 hy4 hm hO HMC HW3 HF3
    unfold msgA
    go_wp2
    refine leaves_cons (f := 22) (args := #[.pointer (some ⟨w.heap.size + 1, 0, none⟩)]) (by simp) (by simp [go_sem]) ?_
    refine (caught_idle ⟨w.heap.size + 1, 0, none⟩ _).mono ?_
    rintro e u' w'' ⟨rfl, rfl, rfl⟩
    simp only [Leaves, settle]
    refine ⟨.tuple #[msgA m (.slice lp m.L.length lc), .nilIface], by simp [results, Tryd.results11, go_sem, msgA, z0, z1, z2, z3, z4, z5, z6, z7, z8], Or.inr ⟨m, _, HMO.out, rfl, ?_⟩, ?_⟩
    · exact OwnR.base (((((((((HO.out.setC (b := w.heap.size) (by omega) 0 _).setC (b := w.heap.size) (by omega) 1 _).setC (b := w.heap.size) (by omega) 2 _).setC (b := w.heap.size) (by omega) 3 _).setC (b := w.heap.size) (by omega) 4 _).setC (b := w.heap.size) (by omega) 5 _).setC (b := w.heap.size) (by omega) 6 _).setC (b := w.heap.size) (by omega) 7 _).setC (b := w.heap.size + 1) (by omega) 0 _) (by have := f3.size; omega)
    · exact (((((((((HBE.out.setCell (p := ⟨w.heap.size, 0, none⟩) (Nat.le_refl _) _).setCell (p := ⟨w.heap.size, 1, none⟩) (Nat.le_refl _) _).setCell (p := ⟨w.heap.size, 2, none⟩) (Nat.le_refl _) _).setCell (p := ⟨w.heap.size, 3, none⟩) (Nat.le_refl _) _).setCell (p := ⟨w.heap.size, 4, none⟩) (Nat.le_refl _) _).setCell (p := ⟨w.heap.size, 5, none⟩) (Nat.le_refl _) _).setCell (p := ⟨w.heap.size, 6, none⟩) (Nat.le_refl _) _).setCell (p := ⟨w.heap.size, 7, none⟩) (Nat.le_refl _) _).setCell (p := ⟨w.heap.size + 1, 0, none⟩) (by show w.heap.size ≤ w.heap.size + 1; omega) _)
/-- Decode as it is asked. -/
theorem decode_any (ad : Nat → Addr) (s : ByteArray) (w : World) (hs : s.size ≤ 10000) (hS : Sent w ad) :
    Calls Tryd.prog 11 #[.string s] w fun e w' => DecP ad (decE s) w.heap.size e w' ∧ Below w.heap.size w w' := by
  by_cases h1 : 4000 < s.size
  · have e1 : decE s = (1, none) := by unfold decE; rw [if_pos h1]
    rw [e1]
    exact (decode_closed ad 0 s w (fun W hW => opened_long ad s W (hS.below hW) h1)).mono fun e w' hp => ⟨⟨_, Or.inr ⟨0, by decide, rfl, rfl⟩, Or.inl ⟨rfl, hp.1⟩⟩, hp.2⟩
  by_cases h2 : s.size < 4
  · have e1 : decE s = (1, none) := by unfold decE; rw [if_neg h1, if_pos h2]
    rw [e1]
    exact (decode_closed ad 0 s w (fun W hW => opened_bad ad 0 s W (by omega) (open_short s ad W h2 (hS.below hW)))).mono fun e w' hp => ⟨⟨_, Or.inr ⟨0, by decide, rfl, rfl⟩, Or.inl ⟨rfl, hp.1⟩⟩, hp.2⟩
  by_cases h3 : fourT (crcOf (cutT s)) = endT s
  · have e1 : decE s = (match unF (cutT s).data.toList with | none => (1, none) | some m => (0, some m)) := by unfold decE; rw [if_neg h1, if_neg h2, if_pos h3]; cases unF (cutT s).data.toList <;> rfl
    rw [e1, ← oMsg_eq]
    have hl : (cutT s).data.toList.length ≤ 4000 := by
      have := cutT_size s
      have e3 : (cutT s).data.toList.length = (cutT s).size := by simp
      omega
    refine (decode_opened ad s (cutT s).data.toList w hS hl (fun W hW => by rw [ofL_self]; exact opened_ok s (cutT s) W (by omega) (open_ok s W (by omega) (by omega) h3))).mono fun e w' hp => ⟨?_, hp.2⟩
    rcases hp.1 with ⟨h4, h5⟩ | ⟨m, lv, h4, h5, h6⟩
    · rw [h4]
      exact ⟨_, Or.inr ⟨0, by decide, rfl, rfl⟩, Or.inl ⟨rfl, h5⟩⟩
    · rw [h4]
      exact ⟨_, Or.inl ⟨rfl, rfl⟩, Or.inr ⟨m, lv, rfl, h5, h6⟩⟩
  · have e1 : decE s = (9, none) := by unfold decE; rw [if_neg h1, if_neg h2, if_neg h3]
    rw [e1]
    exact (decode_closed ad 8 s w (fun W hW => opened_bad ad 8 s W (by omega) (open_bad s ad W (by omega) (by omega) h3 (hS.below hW)))).mono fun e w' hp => ⟨⟨_, Or.inr ⟨8, by decide, rfl, rfl⟩, Or.inl ⟨rfl, hp.1⟩⟩, hp.2⟩
end Go.Proofs.YteppmkpckdmnaaaDoor
