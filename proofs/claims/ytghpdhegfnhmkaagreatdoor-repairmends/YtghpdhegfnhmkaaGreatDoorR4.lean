import Derived.Test.YtghpdhegfnhmkaaGreatDoorR3
import Derived.Test.YtghpdhegfnhmkaaGreatDoorR0
import Derived.Deep.QuietTactic
import Derived.BigQuiet
import Derived.WalkSmall
namespace Go.Proofs.YtghpdhegfnhmkaaGreatDoor
open Go.RowKit Go.Extern.Stop Go.Stop Go.Extern
set_option maxRecDepth 10000 in
set_option maxHeartbeats 4000000 in
theorem code_faultAt (ad:Nat->Addr) (i fb:Nat) (at_:Int) (hi:i < 12) (w:World) (hS:Sent w ad) (h0:w.cell? ⟨fb,0,none⟩=some (.int .i64 at_)) (h1:w.cell? ⟨fb,1,none⟩=some (.iface 218 (.pointer (some (ad i))))) :
 Calls Tryz.prog 41 #[.iface 121 (.pointer (some ⟨fb,0,none⟩))] w fun e w'=>e=.returned (.tuple #[.int .i64 ((i+1:Nat):Int),.int .i64 at_])/\Below w.heap.size w w':=by
 have hfb:fb < w.heap.size:=lt_of_cell h0
 have hb1:Below w.heap.size w (w.alloc (.cells #[.pointer none] 121)):=(Below.refl _ _).alloc (Nat.le_refl _) _
 have hS1:=hS.below hb1
 have ht0:(w.alloc (.cells #[.pointer none] 121)).cell? ⟨w.heap.size,0,none⟩=some (.pointer none):=by simp
 have hf0:(w.alloc (.cells #[.pointer none] 121)).frozen? ⟨w.heap.size,0,none⟩=false:=by simp
 go_enter Tryz.func41,Tryz.ntmps41
 go_wp2_with fail
 refine (as_hit ⟨fb,0,none⟩ ⟨w.heap.size,0,none⟩ (.pointer none) _ hS1.typ ht0 hf0).mono ?_
 rintro e w2 ⟨rfl,wx,hbx,hw2⟩
 have hb2:Below w.heap.size w w2:=by rw [hw2];exact (hb1.trans (hbx.mono (by simp))).setCell (Nat.le_refl _) _
 have hS2:=hS.below hb2
 have ht2:w2.cell? ⟨w.heap.size,0,none⟩=some (.pointer (some ⟨fb,0,none⟩)):=by
  rw [hw2]
  exact World.cell?_setCell_same wx ⟨w.heap.size,0,none⟩ _ ((hbx.cell (p:=⟨w.heap.size,0,none⟩) (by simp)).trans ht0)
 have h02:w2.cell? ⟨fb,0,none⟩=some (.int .i64 at_):=(hb2.cell (p:=⟨fb,0,none⟩) hfb).trans h0
 have h12:w2.cell? ⟨fb,1,none⟩=some (.iface 218 (.pointer (some (ad i)))):=(hb2.cell (p:=⟨fb,1,none⟩) hfb).trans h1
 have hfb2:fb < w2.heap.size:=Nat.lt_of_lt_of_le hfb hb2.size
 have HB2:Hid (Below w.heap.size w w2):=hb2
 clear hw2 hbx wx hb2 hS1 hb1 ht0 hf0 h0 h1 hS hfb
 have hS2':=hS2
 obtain ⟨c0,c1,c2,c3,c4,c5,c6,c7,c8,c9,c10,c11,_,_,_⟩:=hS2'
 go_wp2
 clear c0 c1 c2 c3 c4 c5 c6 c7 c8 c9 c10 c11 ht2 h02
 have hb3:Below w2.heap.size w2 (w2.alloc (.cells (sentRow ad) 40)):=(Below.refl _ _).alloc (Nat.le_refl _) _
 have hS3:=hS2.below hb3
 have hrow:=sentRow_cell ad w2
 have h13:=(hb3.cell (p:=⟨fb,1,none⟩) hfb2).trans h12
 have hb4:Hid (Below w.heap.size w (w2.alloc (.cells (sentRow ad) 40))):=HB2.out.trans (hb3.mono HB2.out.size)
 unfold sentRow at hS3 hrow hb4 h13
 generalize w2.alloc (.cells _ 40)=w3 at hS3 hrow hb4 h13 ⊢
 clear hb3 hS2 HB2 h12 hfb2
 go_loop [3,30] (fun y x=>y=.int .i64 at_/\∃ k:Nat,k<=i/\x=.int .i64 k) (fun _ x=>12 - (intOf x).toNat)
 case atStart=>exact ⟨rfl,0,by omega,rfl⟩
 case round =>
  obtain ⟨rfl,k,hk,rfl⟩:=hrel
  have hk12:k < 12:=by omega
  have hc:=hrow k hk12
  obtain ⟨ca,ta,hra⟩:=hS3.row i hi
  obtain ⟨cb,tb,hrb⟩:=hS3.row k hk12
  have H13:Hid (w3.cell? ⟨fb,1,none⟩=some (.iface 218 (.pointer (some (ad i))))):=h13
  clear hrow h13
  by_cases hki:k=i
  ·subst hki
   go_wp2_with (go_at_call 65;refine (is_wrap_same fb (ad k) _ H13.out).mono ?_;rintro e w' ⟨rfl,rfl⟩)
   go_ret2
   exact ⟨by simp,hb4.out⟩
  ·have hne:=hS3.ne i k hi hk12 (fun h=>hki h.symm)
   have HN:Hid (ad i≠ad k):=hne
   have HA:Hid (w3.heap[(ad i).block]?=some (.cells ca ta (0,0))):=hra
   have HB:Hid (w3.heap[(ad k).block]?=some (.cells cb tb (0,0))):=hrb
   clear hne hra hrb
   go_wp2_with (go_at_call 65;refine (is_wrap_other fb (ad i) (ad k) ca cb ta tb _ H13.out HN.out HA.out HB.out).mono ?_;rintro e w' ⟨rfl,rfl⟩)
   go_round
   case rel=>exact ⟨rfl,k+1,by omega,by go_num⟩
   case measure=>simp [intOf];omega
theorem code_is (ad:Nat->Addr) (ev:Value) (c at_:Int) (w:World) (hS:Sent w ad) (he:ErrIs w ad ev c at_) :
 Calls Tryz.prog 41 #[ev] w fun e w'=>e=.returned (.tuple #[.int .i64 c,.int .i64 at_])/\Below w.heap.size w w':=by
 rcases he with ⟨rfl,rfl,rfl⟩ | ⟨i,hi,rfl,rfl,rfl⟩ | ⟨i,fb,hi,rfl,rfl,h0,h1⟩
 ·refine (code_nil w).mono ?_
  rintro e w' ⟨rfl,rfl⟩
  exact ⟨rfl,Below.refl _ _⟩
 ·exact code_sent ad i hi w hS
 ·exact code_faultAt ad i fb at_ hi w hS h0 h1
end Go.Proofs.YtghpdhegfnhmkaaGreatDoor
namespace Go.Proofs.YtghpdhegfnhmkaaGreatDoor
open Go.RowKit Go.Extern.Stop Go.Stop Go.Extern
end Go.Proofs.YtghpdhegfnhmkaaGreatDoor
namespace Go.Proofs.YtghpdhegfnhmkaaGreatDoor
open Go.RowKit Go.Extern.Stop Go.Stop Go.Extern
set_option maxRecDepth 10000 in
set_option maxHeartbeats 2000000 in
theorem faulted3_any (ad:Nat->Addr) (ev:Value) (c at_:Int) (w:World) (hS:Sent w ad) (he:ErrIs w ad ev c at_) :
 Calls Tryz.prog 19 #[ev,.agg #[.int .i64 c,.int .i64 at_]] w fun e w'=>e=.returned (.bool true)/\Below w.heap.size w w':=by
 obtain ⟨w0,hw0⟩:∃ w0,w0=w.alloc (.cells #[.int .i64 c,.int .i64 at_] 30):=⟨_,rfl⟩
 have hb0:Below w.heap.size w w0:=by rw [hw0];exact (Below.refl _ _).alloc (Nat.le_refl _) _
 have q1:w0.cell? ⟨w.heap.size,0,none⟩=some (.int .i64 c):=by rw [hw0,World.cell?_alloc_at _ _ _ _ rfl];rfl
 have q2:w0.cell? ⟨w.heap.size,1,none⟩=some (.int .i64 at_):=by rw [hw0,World.cell?_alloc_at _ _ _ _ rfl];rfl
 have HC:=code_is ad ev c at_ w0 (hS.below hb0) (he.below hb0)
 have HW0:Hid (w0=w.alloc (.cells #[.int .i64 c,.int .i64 at_] 30)):=hw0
 have HB0:Hid (Below w.heap.size w w0):=hb0
 have HQ:Hid (w0.cell? ⟨w.heap.size,0,none⟩=some (.int .i64 c)/\w0.cell? ⟨w.heap.size,1,none⟩=some (.int .i64 at_)/\w.heap.size < w0.heap.size):=⟨q1,q2,by rw [hw0];simp⟩
 have HZ:Hid (c=0∨c≠0):=by
  show c=0∨c≠0
  omega
 clear hw0 hb0 q1 q2 hS he
 go_enter Tryz.func19,Tryz.ntmps19
 go_wp2_with fail
 rw [<- HW0.out]
 refine HC.mono ?_
 rintro e w1 ⟨rfl,hb1⟩
 obtain ⟨q1,q2,hlt⟩:=HQ.out
 have r1:=(hb1.cell (p:=⟨w.heap.size,0,none⟩) hlt).trans q1
 have r2:=(hb1.cell (p:=⟨w.heap.size,1,none⟩) hlt).trans q2
 have HB1:Hid (Below w.heap.size w w1):=HB0.out.trans (hb1.mono HB0.out.size)
 clear HC hb1 q1 q2 HQ HB0 hlt HW0
 rcases HZ.out with hz | hz
 ·subst hz
  go_wp2
  go_ret
  exact ⟨rfl,HB1.out⟩
 ·have hz2 : (c == 0) = false := by
   rw [beq_eq_false_iff_ne]
   exact hz
  go_wp2
  go_ret
  exact ⟨rfl,HB1.out⟩
end Go.Proofs.YtghpdhegfnhmkaaGreatDoor
