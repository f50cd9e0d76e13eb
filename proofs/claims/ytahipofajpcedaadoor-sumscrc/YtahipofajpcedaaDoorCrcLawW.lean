/- The walk of the law SumsCRC: whatever the text, the call returns true; nothing that was there is written. -/
import Derived.Test.YtahipofajpcedaaDoorOpenW
namespace Go.Proofs.YtahipofajpcedaaDoor
open Go.RowKit
theorem crcLaw_pass (s : ByteArray) (w : World) (hs : s.size ≤ maxLen) (h : 600 < s.size) :
    Calls Tryd.prog 3 #[.string s] w fun e w' => e = .returned (.bool true) ∧ Below w.heap.size w w' := by
  unfold maxLen at hs
  go_enter Tryd.func3, Tryd.ntmps3
  go_wp2_with fail
  refine (check_any _).mono ?_
  rintro e w1 ⟨rfl, h1⟩
  rw [h1]
  clear h1 w1
  go_wp2
  go_ret
  exact ⟨rfl, Below.refl _ _⟩
set_option maxRecDepth 10000 in
set_option maxHeartbeats 4000000 in
/-- Whatever Open answers of the text itself, where the document's Open and 'coded' go with it. -/
theorem crcLaw_in (s x : ByteArray) (ev : Value) (c : Int) (ad : Nat → Addr) (w : World) (hs : s.size ≤ 600) (hS : Sent w ad)
    (ho : ∀ W, Sent W ad → Calls Tryd.prog 12 #[.string s] W fun e w' => e = .returned (.tuple #[.string x, ev]) ∧ Below W.heap.size W w')
    (hr : ∀ W, Calls Tryd.prog 13 #[.string s] W fun e w' => e = .returned (.tuple #[.string x, .int .i64 c]) ∧ Below W.heap.size W w')
    (hc : ∀ W, Sent W ad → Calls Tryd.prog 14 #[ev, .int .i64 c] W fun e w' => e = .returned (.bool true) ∧ Below W.heap.size W w') :
    Calls Tryd.prog 3 #[.string s] w fun e w' => e = .returned (.bool true) ∧ Below w.heap.size w w' := by
  have HO : Hid (∀ W, Sent W ad → Calls Tryd.prog 12 #[.string s] W fun e w' => e = .returned (.tuple #[.string x, ev]) ∧ Below W.heap.size W w') := ho
  have HRO : Hid (∀ W, Calls Tryd.prog 13 #[.string s] W fun e w' => e = .returned (.tuple #[.string x, .int .i64 c]) ∧ Below W.heap.size W w') := hr
  have HCO : Hid (∀ W, Sent W ad → Calls Tryd.prog 14 #[ev, .int .i64 c] W fun e w' => e = .returned (.bool true) ∧ Below W.heap.size W w') := hc
  have HS : Hid (Sent w ad) := hS
  have HSE : Hid (∀ W, Calls Tryd.prog 6 #[.string s] W fun e w' => e = .returned (.string (s ++ fourT (crcOf s))) ∧ Below W.heap.size W w') := fun W => seal_any s W (by omega)
  have HC : Hid (∀ W, Calls Tryd.prog 7 #[.string s] W fun e w' => e = .returned (.int .u32 ((crcOf s : Nat) : Int)) ∧ w' = W) := fun W => crc_any s W (by omega)
  have HH : Hid (∀ W, Calls Tryd.prog 9 #[.string s] W fun e w' => e = .returned (.int .u32 ((hashTo s s.size : Nat) : Int)) ∧ w' = W) := fun W => hash_any s W (by omega)
  have HRC : Hid (∀ W, Calls Tryd.prog 8 #[.string s] W fun e w' => e = .returned (.int .i64 ((crcOf s : Nat) : Int)) ∧ w' = W) := fun W => rcrc_any s W (by omega)
  have HRH : Hid (∀ W, Calls Tryd.prog 10 #[.string s] W fun e w' => e = .returned (.int .i64 ((hashTo s s.size : Nat) : Int)) ∧ w' = W) := fun W => rhash_any s W (by omega)
  have HRF : Hid (∀ W, Calls Tryd.prog 11 #[.int .i64 ((crcOf s : Nat) : Int)] W fun e w' => e = .returned (.string (fourT (crcOf s))) ∧ Below W.heap.size W w') := fun W => rfour_any _ W
  have HOS : Hid (∀ W, Calls Tryd.prog 12 #[.string (s ++ fourT (crcOf s))] W fun e w' => e = .returned (.tuple #[.string s, .nilIface]) ∧ Below W.heap.size W w') := fun W => by
    have h := open_ok (sealT s) W (by rw [sealT_size]; omega) (by rw [sealT_size]; omega) (by rw [seal_cut, seal_end])
    rw [seal_cut] at h
    exact h
  have z1 : (fourT (crcOf s)).size = 4 := fourT_size _
  have z2 : crcOf s < 4294967296 := crcOf_lt s
  have z3 : hashTo s s.size < 4294967296 := hashTo_lt s _
  clear ho hr hc hS
  generalize hashTo s s.size = hh at *
  generalize fourT (crcOf s) = q at *
  generalize crcOf s = cc at *
  go_enter Tryd.func3, Tryd.ntmps3
  go_wp2_with fail
  refine (check_any _).mono ?_
  rintro e w1 ⟨rfl, h1⟩
  rw [h1]
  clear h1 w1
  go_wp2_with fail
  refine (HSE.out _).mono ?_
  rintro e w1 ⟨rfl, hb1⟩
  have HB1 : Hid (Below w.heap.size w w1) := hb1
  clear hb1 HSE
  go_wp2_with fail
  refine (HC.out _).mono ?_
  rintro e w2 ⟨rfl, h1⟩
  rw [h1]
  clear h1 w2 HC
  go_wp2_with fail
  refine (HRC.out _).mono ?_
  rintro e w2 ⟨rfl, h1⟩
  rw [h1]
  clear h1 w2
  go_wp2_with fail
  refine (HH.out _).mono ?_
  rintro e w2 ⟨rfl, h1⟩
  rw [h1]
  clear h1 w2 HH
  go_wp2_with fail
  refine (HRH.out _).mono ?_
  rintro e w2 ⟨rfl, h1⟩
  rw [h1]
  clear h1 w2 HRH
  go_wp2_with fail
  refine (HRC.out _).mono ?_
  rintro e w2 ⟨rfl, h1⟩
  rw [h1]
  clear h1 w2 HRC
  go_wp2_with fail
  refine (HRF.out _).mono ?_
  rintro e w2 ⟨rfl, hb2⟩
  have HB2 : Hid (Below w.heap.size w w2) := HB1.out.trans (hb2.mono HB1.out.size)
  clear hb2 HRF HB1
  go_wp2_with fail
  refine (HOS.out _).mono ?_
  rintro e w3 ⟨rfl, hb3⟩
  have HB3 : Hid (Below w.heap.size w w3) := HB2.out.trans (hb3.mono HB2.out.size)
  clear hb3 HOS HB2
  go_wp2_with fail
  refine (HO.out _ (HS.out.below HB3.out)).mono ?_
  rintro e w4 ⟨rfl, hb4⟩
  have HB4 : Hid (Below w.heap.size w w4) := HB3.out.trans (hb4.mono HB3.out.size)
  clear hb4 HO HB3
  go_wp2_with fail
  refine (HRO.out _).mono ?_
  rintro e w5 ⟨rfl, hb5⟩
  have HB5 : Hid (Below w.heap.size w w5) := HB4.out.trans (hb5.mono HB4.out.size)
  clear hb5 HRO HB4
  go_wp2_with fail
  refine (HCO.out _ (HS.out.below HB5.out)).mono ?_
  rintro e w6 ⟨rfl, hb6⟩
  clear HCO
  go_wp2
  go_ret
  exact ⟨rfl, HB5.out.trans (hb6.mono HB5.out.size)⟩
theorem crcLaw_any (s : ByteArray) (ad : Nat → Addr) (w : World) (hs : s.size ≤ maxLen) (hS : Sent w ad) :
    Calls Tryd.prog 3 #[.string s] w fun e w' => e = .returned (.bool true) ∧ Below w.heap.size w w' := by
  by_cases h : 600 < s.size
  · exact crcLaw_pass s w hs h
  by_cases h4 : s.size < 4
  · refine crcLaw_in s ⟨#[]⟩ _ 1 ad w (by omega) hS (fun W hW => open_short s ad W h4 hW) (fun W => ?_) (fun W hW => coded_sent ad 0 (by decide) W hW)
    refine (ropen_short s W h4).mono ?_
    rintro e w' ⟨rfl, rfl⟩
    exact ⟨rfl, Below.refl _ _⟩
  by_cases hq : fourT (crcOf (cutT s)) = endT s
  · refine crcLaw_in s (cutT s) _ 0 ad w (by omega) hS (fun W _ => open_ok s W (by omega) (by omega) hq) (fun W => ropen_ok s W (by omega) (by omega) hq) (fun W _ => ?_)
    refine (coded_nil W).mono ?_
    rintro e w' ⟨rfl, rfl⟩
    exact ⟨rfl, Below.refl _ _⟩
  · exact crcLaw_in s ⟨#[]⟩ _ 9 ad w (by omega) hS (fun W hW => open_bad s ad W (by omega) (by omega) hq hW) (fun W => ropen_bad s W (by omega) (by omega) hq) (fun W hW => coded_sent ad 8 (by decide) W hW)
end Go.Proofs.YtahipofajpcedaaDoor
