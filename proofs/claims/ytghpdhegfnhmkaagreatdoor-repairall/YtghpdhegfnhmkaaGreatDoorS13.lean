import Derived.Test.YtghpdhegfnhmkaaGreatDoorS12
import Derived.Test.YtghpdhegfnhmkaaGreatDoorS4
import Derived.Test.YtghpdhegfnhmkaaGreatDoorS3
import Derived.Test.YtghpdhegfnhmkaaGreatDoorS0
import Derived.Deep.QuietTactic
import Derived.BigQuiet
namespace Go.Proofs.YtghpdhegfnhmkaaGreatDoor
open Go.RowKit
theorem rep_zero:∀ j,0 < j->Gf.rep 0 j=0
 | 0,h=>absurd h (Nat.lt_irrefl _)
 | j+1,_=>by
  show Gf.mul _ _=0
  first | exact Gf.mul_zero _ | exact Gf.zero_mul _
theorem red_small (j:Nat) (h:j < 255):red (j:Int)=j:=by unfold red;omega
theorem fpow_any (i j:Nat) (w:World) (hi:i < 256) (hj:j < 255) :
 Calls Tryz.prog 137 #[.int .u8 (i:Int),.int .i64 (j:Int)] w fun e w'=>e=.returned (.tuple #[.int .u8 ((Gf.rep i j:Nat):Int),.nilIface])/\w'=w:=by
 by_cases h:i=0/\0 < j
 ·obtain ⟨rfl,hj0⟩:=h
  rw [rep_zero j hj0]
  exact pow_zero_pos (j:Int) w (by omega)
 ·have := pow_reg i (j : Int) w hi (fun h0 => by
   by_cases h1:0 < j
   ·exact absurd ⟨h0,h1⟩ h
   ·omega)
  rw [red_small j hj,Gf.power_rep i j hi (by omega)] at this
  exact this
set_option maxRecDepth 10000 in
theorem powers1_any (i j:Nat) (w:World) (hi:i < 256) (hj:j < 255) :
 Calls Tryz.prog 136 #[.int .i64 (i:Int),.int .i64 (j:Int)] w fun e w'=>e=.returned (.int .u8 ((Gf.rep i j:Nat):Int))/\Below w.heap.size w w':=by
 have HP:=fpow_any i j w hi hj
 go_enter Tryz.func136,Tryz.ntmps136
 go_wp2_with (go_at_call 137;refine HP.mono ?_;rintro e w' ⟨rfl,rfl⟩)
 go_ret
 exact ⟨rfl,Below.refl _ _⟩
set_option maxRecDepth 10000 in
theorem powers_ok (n k:Nat) (w:World) (hk1:1<=k) (hkn:k<=n) (hn:n<=12) :
 Calls Tryz.prog 126 #[.int .i64 (n:Int),.int .i64 (k:Int)] w fun e w'=>(∃ gm gs,e=.returned (.tuple #[.slice (some ⟨gm,0,none⟩) n n,.nilIface])/\OwnG w' w.heap.size gm gs n k Gf.rep)/\Below w.heap.size w w':=by
 have HB:=build_any n k Gf.rep 136 #[] w (by omega) (by omega) (enters_of Tryz.func136 (by kernel_rfl) rfl) (fun i j hi hj w1 _=>powers1_any i j w1 (by omega) (by omega))
 have HF:Hid (Calls Tryz.prog 75 #[.int .i64 (n:Int),.int .i64 (k:Int)] w fun e w'=>e=.returned (.bool true)/\w'=w):=by
  have h:=mfits_any (n:Int) (k:Int) w
  rw [decide_eq_true (show (1:Int)<=(k:Int)/\(k:Int)<=(n:Int)/\(n:Int)<=12 by omega)] at h
  exact h
 go_enter Tryz.func126,Tryz.ntmps126
 go_wp2_with fail
 refine HF.out.mono ?_
 rintro e w0 ⟨rfl,hw0⟩
 rw [hw0]
 clear hw0 w0 HF
 go_wp2_with (go_at_call 118;refine HB.mono ?_;rintro e w1 ⟨⟨gm,gs,rfl,hG⟩,hb⟩)
 go_ret2
 exact ⟨⟨gm,gs,rfl,hG⟩,hb⟩
end Go.Proofs.YtghpdhegfnhmkaaGreatDoor
