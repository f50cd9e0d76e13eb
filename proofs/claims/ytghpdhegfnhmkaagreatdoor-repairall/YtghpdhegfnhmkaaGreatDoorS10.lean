import Derived.Test.YtghpdhegfnhmkaaGreatDoorS6
import Derived.Test.YtghpdhegfnhmkaaGreatDoorS9
import Derived.Test.YtghpdhegfnhmkaaGreatDoorS4
namespace Go.Proofs.YtghpdhegfnhmkaaGreatDoor
open Go.RowKit
theorem box_set {w wq:World} (hb:Below w.heap.size w wq) (a b:Value):Below w.heap.size w ((wq.setCell ⟨w.heap.size+1,0,none⟩ a).setCell ⟨w.heap.size+1,1,none⟩ b) :=
 (hb.setCell (p:=⟨w.heap.size+1,0,none⟩) (by show w.heap.size<=w.heap.size+1;omega) _).setCell (p:=⟨w.heap.size+1,1,none⟩) (by show w.heap.size<=w.heap.size+1;omega) _
set_option maxRecDepth 10000 in
set_option maxHeartbeats 4000000 in
theorem rcfg_any (c:Cfg) (p:Option Addr) (cap:Nat) (w:World) (hc:CfgAt w c p cap) :
 Calls Tryz.prog 8 #[cfgA c (.slice p c.L.length cap)] w fun e w'=>e=.returned (.agg #[.int .i64 (cfgF c).1,.int .i64 (cfgF c).2])/\Below w.heap.size w w':=by
 obtain ⟨hs,hcap,hnn,hlen,hsz,hin⟩:=hc
 obtain ⟨w1,hw1⟩:∃ w1,w1=(w.alloc (.cells #[.int .i64 c.n,.int .i64 c.k,.slice p c.L.length cap] 24)).alloc (.cells #[.int .i64 0,.int .i64 0] 30):=⟨_,rfl⟩
 have HW1:Hid (w1=(w.alloc (.cells #[.int .i64 c.n,.int .i64 c.k,.slice p c.L.length cap] 24)).alloc (.cells #[.int .i64 0,.int .i64 0] 30)):=hw1
 have e2:(w.alloc (.cells #[.int .i64 c.n,.int .i64 c.k,.slice p c.L.length cap] 24)).heap.size=w.heap.size+1:=by simp
 have hb1:Below w.heap.size w w1:=by rw [hw1];exact ((Below.refl _ _).alloc (Nat.le_refl _) _).alloc (by rw [e2];omega) _
 have hx1:w1.heap[w.heap.size]?=some (.cells #[.int .i64 c.n,.int .i64 c.k,.slice p c.L.length cap] 24 (0,0)):=by
  rw [hw1,heap_alloc_old _ _ (by rw [e2];omega)]
  exact heap_alloc_new _ _
 have hy1:w1.heap[w.heap.size+1]?=some (.cells #[.int .i64 0,.int .i64 0] 30 (0,0)):=by
  rw [hw1,<- e2]
  exact heap_alloc_new _ _
 have hl1:=(Array.getElem?_eq_some_iff.1 hy1).1
 have HKE:Hid (∀ W,Below w1.heap.size w1 W->W.cell? ⟨w.heap.size+1,0,none⟩=some (.int .i64 0)/\W.cell? ⟨w.heap.size+1,1,none⟩=some (.int .i64 0)/\(∀ i,W.frozen? ⟨w.heap.size+1,i,none⟩=false)/\Below w.heap.size w W):=fun W hW=>by
  have hy:=(hW.block _ hl1).trans hy1
  exact ⟨by simp [World.cell?,hy],by simp [World.cell?,hy],fun i=>by simp [World.frozen?,hy],hb1.trans (hW.mono hb1.size)⟩
 have q0:w1.cell? ⟨w.heap.size,0,none⟩=some (.int .i64 c.n):=by simp [World.cell?,hx1]
 have q1:w1.cell? ⟨w.heap.size,1,none⟩=some (.int .i64 c.k):=by simp [World.cell?,hx1]
 have q2:w1.cell? ⟨w.heap.size,2,none⟩=some (.slice p c.L.length cap):=by simp [World.cell?,hx1]
 have HBA:Hid (∀ (x:Int) (W:World),Calls Tryz.prog 18 #[.int .i64 x] W fun e w'=>e=.returned (.agg #[.int .i64 x,.int .i64 (-1)])/\Below W.heap.size W w'):=fun x W=>bare_any x W
 by_cases h1:1<=c.k/\c.k<=c.n/\c.n<=12
 ·have HIS:Hid (Calls Tryz.prog 26 #[.int .i64 c.n,.int .i64 c.k] w1 fun e w'=>e=.returned (.bool true)/\w'=w1):=isSpread_yes c.n c.k w1 h1.1 h1.2.1 h1.2.2
  by_cases h2:(c.L.length:Int)=c.n
  ·have HNF:Hid (Calls Tryz.prog 27 #[.slice p c.L.length cap] w1 fun e w'=>e=.returned (.agg #[.int .i64 (nodesF c.L).1,.int .i64 (nodesF c.L).2])/\Below w1.heap.size w1 w'):=nodesFault_any p c.L cap w1 (by omega) hcap (fun x hx=>by have:=hsz x hx;omega) (hs.below hb1)
   rw [cfgF_nodes h1 h2]
   clear hw1 hb1 hx1 hy1 hl1 e2 hs hin HBA
   generalize nodesF c.L=F at *
   obtain ⟨cn,ck,L⟩:=c
   obtain ⟨F1,F2⟩:=F
   unfold cfgA
   simp only [] at *
   have d1:((L.length:Int)==cn)=true:=by simpa using h2
   go_enter Tryz.func8,Tryz.ntmps8
   go_wp2_with fail
   rw [<- HW1.out]
   refine HIS.out.mono ?_
   rintro e w2 ⟨rfl,hw2⟩
   rw [hw2]
   clear hw2 w2 HIS
   go_wp2_with fail
   refine HNF.out.mono ?_
   rintro e w3 ⟨rfl,hb3⟩
   obtain ⟨z0,z1,z2,hlow⟩:=HKE.out w3 hb3
   have HB3:Hid (Below w.heap.size w w3):=hlow
   clear hb3 hlow HNF
   go_wp2
   refine bodyPost_ret (v:=.agg #[.int .i64 F1,.int .i64 F2]) (by simp [results,Tryz.results8,go_sem,z0,z1]) rfl ⟨rfl,box_set HB3.out _ _⟩
  ·rw [cfgF_shape h1 h2]
   clear hw1 hb1 hx1 hy1 hl1 e2 hs hin
   obtain ⟨cn,ck,L⟩:=c
   unfold cfgA
   simp only [] at *
   have d1:((L.length:Int)==cn)=false:=by simpa using h2
   have d2:((L.length:Int) != cn)=true:=by simpa using h2
   go_enter Tryz.func8,Tryz.ntmps8
   go_wp2_with fail
   rw [<- HW1.out]
   refine HIS.out.mono ?_
   rintro e w2 ⟨rfl,hw2⟩
   rw [hw2]
   clear hw2 w2 HIS
   go_wp2_with fail
   refine (HBA.out 3 w1).mono ?_
   rintro e w3 ⟨rfl,hb3⟩
   obtain ⟨z0,z1,z2,hlow⟩:=HKE.out w3 hb3
   have HB3:Hid (Below w.heap.size w w3):=hlow
   clear hb3 hlow
   go_wp2
   refine bodyPost_ret (v:=.agg #[.int .i64 3,.int .i64 (-1)]) (by simp [results,Tryz.results8,go_sem,z0,z1]) rfl ⟨rfl,box_set HB3.out _ _⟩
 ·have HIS:Hid (Calls Tryz.prog 26 #[.int .i64 c.n,.int .i64 c.k] w1 fun e w'=>e=.returned (.bool false)/\w'=w1):=isSpread_no c.n c.k w1 h1
  rw [cfgF_bound h1]
  clear hw1 hb1 hx1 hy1 hl1 e2 hs hin h1
  obtain ⟨cn,ck,L⟩:=c
  unfold cfgA
  simp only [] at *
  go_enter Tryz.func8,Tryz.ntmps8
  go_wp2_with fail
  rw [<- HW1.out]
  refine HIS.out.mono ?_
  rintro e w2 ⟨rfl,hw2⟩
  rw [hw2]
  clear hw2 w2 HIS
  go_wp2_with fail
  refine (HBA.out 2 w1).mono ?_
  rintro e w3 ⟨rfl,hb3⟩
  obtain ⟨z0,z1,z2,hlow⟩:=HKE.out w3 hb3
  have HB3:Hid (Below w.heap.size w w3):=hlow
  clear hb3 hlow
  go_wp2
  refine bodyPost_ret (v:=.agg #[.int .i64 2,.int .i64 (-1)]) (by simp [results,Tryz.results8,go_sem,z0,z1]) rfl ⟨rfl,box_set HB3.out _ _⟩
end Go.Proofs.YtghpdhegfnhmkaaGreatDoor
