import Derived.Test.YtmhoiodfppdlnaaGreatDoorAq19
import Derived.Test.YtmhoiodfppdlnaaGreatDoorAq18
import Derived.Test.YtmhoiodfppdlnaaGreatDoorAq5
import Derived.Deep.RegionHeld3
import Derived.BigQuiet
set_option maxRecDepth 10000
set_option maxHeartbeats 4000000
namespace Go.Proofs.YtmhoiodfppdlnaaGreatDoor
open Go.RowKit
structure ErWr (X:TypeId) (h:Nat) (cs:Array Value) (w w':World):Prop where
 os:w'.os=w.os
 tape:w'.tape=w.tape
 output:w'.output=w.output
 size:w.heap.size<=w'.heap.size
 blk:w'.heap[h]?=some (.cells cs X (0,0))
 oth:∀ k,k < w.heap.size->k≠h->w'.heap[k]?=w.heap[k]?
theorem ErWr.lt {X:TypeId}{h:Nat}{cs:Array Value}{w w':World}(hw:ErWr X h cs w w'):h < w'.heap.size:=by
 rcases Nat.lt_or_ge h w'.heap.size with h' | h'
 ·exact h'
 ·have:=hw.blk
  rw [Array.getElem?_eq_none h'] at this
  cases this
theorem ErWr.refl {X:TypeId}{h:Nat}{cs:Array Value}{w:World}(hb:w.heap[h]?=some (.cells cs X (0,0))):ErWr X h cs w w:=⟨rfl,rfl,rfl,Nat.le_refl _,hb,fun _ _ _=>rfl⟩
theorem ErWr.set {X:TypeId}{h:Nat}{cs:Array Value}{w w':World}(hw:ErWr X h cs w w')(i:Nat)(v:Value):ErWr X h (cs.setIfInBounds i v) w (w'.setCell ⟨h,i,none⟩ v):=⟨hw.os,hw.tape,hw.output,by simpa [World.setCell] using hw.size,blk_set hw.blk i v,fun k hk hne=>(Below.heap_setCell w' _ v k hne).trans (hw.oth k hk hne)⟩
theorem ErWr.below {X:TypeId}{h:Nat}{cs:Array Value}{w w1 w2:World}(hw:ErWr X h cs w w1)(hb:Below w1.heap.size w1 w2):ErWr X h cs w w2:=⟨hb.os.trans hw.os,hb.tape.trans hw.tape,hb.output.trans hw.output,Nat.le_trans hw.size hb.size,(hb.block h hw.lt).trans hw.blk,fun k hk hne=>(hb.block k (Nat.lt_of_lt_of_le hk hw.size)).trans (hw.oth k hk hne)⟩
theorem ErWr.trans {X:TypeId}{h:Nat}{cs cs':Array Value}{w w1 w2:World}(h1:ErWr X h cs w w1)(h2:ErWr X h cs' w1 w2):ErWr X h cs' w w2:=⟨h2.os.trans h1.os,h2.tape.trans h1.tape,h2.output.trans h1.output,Nat.le_trans h1.size h2.size,h2.blk,fun k hk hne=>(h2.oth k (Nat.lt_of_lt_of_le hk h1.size) hne).trans (h1.oth k hk hne)⟩
theorem ErWr.upd {X:TypeId}{h:Nat}{cs:Array Value}{w w':World}{S S':Nat->Prop}(hw:ErWr X h cs w w')(hs:S h)(hn:∀ k,S' k->S k∨w.heap.size<=k):Upd S S' w w':=⟨hw.os,hw.tape,hw.output,hw.size,fun k hk hk'=>hw.oth k hk (fun e=>hk' (e ▸ hs)),hn⟩
theorem blk_cell {w:World}{h:Nat}{cs:Array Value}{T:TypeId}(hb:w.heap[h]?=some (.cells cs T (0,0)))(i:Nat):w.cell? ⟨h,i,none⟩=cs[i]?/\w.frozen? ⟨h,i,none⟩=false:=⟨by simp [World.cell?,hb],by simp [World.frozen?,hb]⟩
theorem run_store1 {P:Program}{W:World}{a:Addr}{u v:Value}(hc:W.cell? a=some u)(hf:W.frozen? a=false)(hv:v.oneCell'=true):Sem.run P (store a v) W=.ok () (W.setCell a v):=by
 rw [run_store _ _ _ _ _ hv,hc]
 simp [hf]
theorem pstop_any {X:TypeId}{w:World}{h:Nat}{cs:Array Value}(hb:w.heap[h]?=some (.cells cs X (0,0)))(hc:∃ v,cs[9]?=some v):Calls Tryz.prog 93 #[.pointer (some ⟨h,0,none⟩)] w fun e w'=>e=.returned (.tuple #[])/\ErWr X h (cs.setIfInBounds 9 (.map none)) w w':=by
 obtain⟨v,hv⟩:=hc
 have c9:w.cell? ⟨h,9,none⟩=some v:=by rw [(blk_cell hb 9).1,hv]
 have f9:=(blk_cell hb 9).2
 have HW:Hid (ErWr X h (cs.setIfInBounds 9 (.map none)) w (w.setCell ⟨h,9,none⟩ (.map none))):=(ErWr.refl hb).set 9 _
 clear hb hv
 go_enter Tryz.func93,Tryz.ntmps93
 go_wp2
 go_end0
 exact⟨rfl,HW.out⟩
def awCells (cs:Array Value)(P:Plc)(kind:ByteArray)(mb:Nat):Array Value:=((((((cs.setIfInBounds 3 (.int .i64 P.c.n)).setIfInBounds 4 (.int .i64 P.c.k)).setIfInBounds 5 P.v).setIfInBounds 6 (.int .i64 P.num)).setIfInBounds 7 (.string kind)).setIfInBounds 8 (.int .i64 ((enoughN P.c:Nat):Int))).setIfInBounds 9 (.map (some mb))
theorem pawait_any {X:TypeId}{w:World}{h:Nat}{cs:Array Value}(ad:Nat->Addr)(P:Plc)(p:Option Addr)(cap:Nat)(kind:ByteArray)(hb:w.heap[h]?=some (.cells cs X (0,0)))(hs:cs.size=25)(hf:¬ 0 < (cfgF P.c).1)(hv:P.v=.slice p P.c.L.length cap)(hE:∀ W:World,w.heap.size<=W.heap.size->(∀ k,k < w.heap.size->k≠h->W.heap[k]?=w.heap[k]?)->CfgAt W P.c p cap/\ErrsQ W ad) :
 Calls Tryz.prog 76 #[.pointer (some ⟨h,0,none⟩),.agg #[.int .i64 P.c.n,.int .i64 P.c.k,P.v,.int .i64 P.num],.string kind] w fun e w'=>e=.returned (.tuple #[])/\∃ mb,w.heap.size<=mb/\ErWr X h (awCells cs P kind mb) w w'/\w'.heap[mb]?=some (.map #[] 0):=by
 obtain⟨c,num,v⟩:=P
 dsimp only at *
 subst hv
 have hlt:h < w.heap.size:=(ErWr.refl hb).lt
 obtain⟨w1,hw1⟩:∃ w1,w1=w.alloc (.cells #[.int .i64 c.n,.int .i64 c.k,(.slice p c.L.length cap),.int .i64 num] 88):=⟨_,rfl⟩
 have hb1:Below w.heap.size w w1:=zBe hw1
 have hz1:w1.heap.size=w.heap.size+1:=by rw [hw1];simp
 have hk1:w1.heap[w.heap.size]?=some (.cells #[.int .i64 c.n,.int .i64 c.k,(.slice p c.L.length cap),.int .i64 num] 88 (0,0)):=by
  rw [hw1]
  show(w.heap.push _)[w.heap.size]?=_
  simp
 have hne:h≠w.heap.size:=by omega
 have hne':w.heap.size≠h:=by omega
 have hW1:ErWr X h cs w w1:=(ErWr.refl hb).below hb1
 have d0:w1.cell? ⟨w.heap.size,0,none⟩=some (.int .i64 c.n):=by simp [World.cell?,hk1]
 have d1:w1.cell? ⟨w.heap.size,1,none⟩=some (.int .i64 c.k):=by simp [World.cell?,hk1]
 have d2:w1.cell? ⟨w.heap.size,2,none⟩=some (.slice p c.L.length cap):=by simp [World.cell?,hk1]
 have d3:w1.cell? ⟨w.heap.size,3,none⟩=some (.int .i64 num):=by simp [World.cell?,hk1]
 have hcell:∀ i,i < 25->∃ v,w1.cell? ⟨h,i,none⟩=some v:=fun i hi=>⟨cs[i]'(by omega),by rw [(blk_cell hW1.blk i).1];exact Array.getElem?_eq_getElem (by omega)⟩
 obtain⟨v3,c3⟩:=hcell 3 (by decide)
 obtain⟨v4,c4⟩:=hcell 4 (by decide)
 obtain⟨v5,c5⟩:=hcell 5 (by decide)
 obtain⟨v6,c6⟩:=hcell 6 (by decide)
 obtain⟨v7,c7⟩:=hcell 7 (by decide)
 have f3:=(blk_cell hW1.blk 3).2
 have f4:=(blk_cell hW1.blk 4).2
 have f5:=(blk_cell hW1.blk 5).2
 have f6:=(blk_cell hW1.blk 6).2
 have f7:=(blk_cell hW1.blk 7).2
 obtain⟨w2,hw2⟩:∃ w2,w2=(((((w1.setCell ⟨h,3,none⟩ (.int .i64 c.n)).setCell ⟨h,4,none⟩ (.int .i64 c.k)).setCell ⟨h,5,none⟩ (.slice p c.L.length cap)).setCell ⟨h,6,none⟩ (.int .i64 num)).setCell ⟨h,7,none⟩ (.string kind)):=⟨_,rfl⟩
 have hW2:ErWr X h (((((cs.setIfInBounds 3 (.int .i64 c.n)).setIfInBounds 4 (.int .i64 c.k)).setIfInBounds 5 (.slice p c.L.length cap)).setIfInBounds 6 (.int .i64 num)).setIfInBounds 7 (.string kind)) w w2:=by rw [hw2];exact((((hW1.set 3 _).set 4 _).set 5 _).set 6 _).set 7 _
 have hz2:w2.heap.size=w1.heap.size:=by rw [hw2];simp [World.setCell]
 have hk2:w2.heap[w.heap.size]?=some (.cells #[.int .i64 c.n,.int .i64 c.k,(.slice p c.L.length cap),.int .i64 num] 88 (0,0)):=by
  rw [<- hk1,hw2]
  simp [Below.heap_setCell,hne']
 have g0:w2.cell? ⟨w.heap.size,0,none⟩=some (.int .i64 c.n):=by simp [World.cell?,hk2]
 have g1:w2.cell? ⟨w.heap.size,1,none⟩=some (.int .i64 c.k):=by simp [World.cell?,hk2]
 have g2:w2.cell? ⟨w.heap.size,2,none⟩=some (.slice p c.L.length cap):=by simp [World.cell?,hk2]
 obtain⟨hc2,hE2⟩:=hE w2 hW2.size (fun k hk hn=>hW2.oth k hk hn)
 have HEN:=qenough_any ad c p cap w2 hc2 hE2
 rw [if_neg hf] at HEN
 unfold cfgA at HEN
 have h0:cfgF c=(0,-1):=(cfgF_fine hf).2.2.1
 have HEX:Hid (Calls Tryz.prog 105 #[.agg #[.int .i64 c.n,.int .i64 c.k,.slice p c.L.length cap]] w2 fun e w'=>∃ ev,e=.returned (.tuple #[.int .i64 ((enoughN c:Nat):Int),ev])/\Hid (Below w2.heap.size w2 w')):=HEN.mono fun e w' hq=>by
  obtain⟨⟨ev,h1,_⟩,h3⟩:=hq
  exact⟨ev,h1,h3⟩
 have HW1:Hid (w1=w.alloc (.cells #[.int .i64 c.n,.int .i64 c.k,(.slice p c.L.length cap),.int .i64 num] 88)):=hw1
 have HW2:Hid (w2=(((((w1.setCell ⟨h,3,none⟩ (.int .i64 c.n)).setCell ⟨h,4,none⟩ (.int .i64 c.k)).setCell ⟨h,5,none⟩ (.slice p c.L.length cap)).setCell ⟨h,6,none⟩ (.int .i64 num)).setCell ⟨h,7,none⟩ (.string kind))):=hw2
 have HWR:Hid (ErWr X h (((((cs.setIfInBounds 3 (.int .i64 c.n)).setIfInBounds 4 (.int .i64 c.k)).setIfInBounds 5 (.slice p c.L.length cap)).setIfInBounds 6 (.int .i64 num)).setIfInBounds 7 (.string kind)) w w2):=hW2
 have HCS:Hid (cs.size=25):=hs
 clear hb hs hf hE hw1 hb1 hz1 hk1 hW1 hcell hw2 hW2 hz2 hk2 hc2 hE2 HEN h0 hne hlt
 go_enter Tryz.func76,Tryz.ntmps76
 go_wp2_with (first | rw [<- HW1.out] | rw [<- HW2.out] | fail)
 refine HEX.out.mono ?_
 rintro e w3 ⟨ev,rfl,hb3⟩
 have hW3:=HWR.out.below hb3.out
 have hz3:w.heap.size<=w3.heap.size:=hW3.size
 have hlt3:=hW3.lt
 have c8:∃ u,w3.cell? ⟨h,8,none⟩=some u:=⟨cs[8]'(by have:=HCS.out;omega),by rw [(blk_cell hW3.blk 8).1];simp⟩
 obtain⟨u8,c8⟩:=c8
 have f8:=(blk_cell hW3.blk 8).2
 obtain⟨w4,hw4⟩:∃ w4,w4=w3.setCell ⟨h,8,none⟩ (.int .i64 ((enoughN c:Nat):Int)):=⟨_,rfl⟩
 have hW4:=hW3.set 8 (.int .i64 ((enoughN c:Nat):Int))
 rw [<- hw4] at hW4
 have hz4:w4.heap.size=w3.heap.size:=by rw [hw4];simp [World.setCell]
 have hba:Below w4.heap.size w4 (w4.alloc (.map #[] 0)):=(Below.refl _ _).alloc (Nat.le_refl _) _
 have hW5:=hW4.below hba
 have c9:∃ u,(w4.alloc (.map #[] 0)).cell? ⟨h,9,none⟩=some u:=⟨cs[9]'(by have:=HCS.out;omega),by rw [(blk_cell hW5.blk 9).1];simp⟩
 obtain⟨u9,c9⟩:=c9
 have f9:=(blk_cell hW5.blk 9).2
 have hmk:(Instr.makeMap 89 none).run Tryz.prog w4=.ok (.map (some w4.heap.size)) (w4.alloc (.map #[] 0)):=by kernel_rfl
 have HW4:Hid (w4=w3.setCell ⟨h,8,none⟩ (.int .i64 ((enoughN c:Nat):Int))):=hw4
 have HWF:Hid (ErWr X h (awCells cs ⟨c,num,.slice p c.L.length cap⟩ kind w4.heap.size) w ((w4.alloc (.map #[] 0)).setCell ⟨h,9,none⟩ (.map (some w4.heap.size)))):=hW5.set 9 _
 have HMP:Hid (((w4.alloc (.map #[] 0)).setCell ⟨h,9,none⟩ (.map (some w4.heap.size))).heap[w4.heap.size]?=some (.map #[] 0)):=by
  show _=_
  rw [Below.heap_setCell _ _ _ _ (by show w4.heap.size≠h;omega)]
  show(w4.heap.push _)[w4.heap.size]?=_
  simp
 have HLE:Hid (w.heap.size<=w4.heap.size):=by show _<=_;omega
 clear hW3 hW4 hW5 hba hw4 hz4 hz3 hlt3 hb3 HEX HWR HW2 c3 c4 c5 c6 c7 f3 f4 f5 f6 f7 d0 d1 d2 d3 g0 g1 g2
 go_wp2_with (first | rw [<- HW4.out] | fail)
 go_end0
 exact⟨rfl,_,HLE.out,HWF.out,HMP.out⟩
theorem pend_any {X:TypeId}{w:World}{h:Nat}{cs:Array Value}(st:ByteArray)(o1 o2:Int)(o3:ByteArray)(o4:Bool)(hb:w.heap[h]?=some (.cells cs X (0,0)))(hs:cs.size=25):Calls Tryz.prog 67 #[.pointer (some ⟨h,0,none⟩),.string st,.agg #[.int .i64 o1,.int .i64 o2,.string o3,.bool o4]] w fun e w'=>e=.returned (.tuple #[])/\ErWr X h (((((((cs.setIfInBounds 20 (.string st)).setIfInBounds 21 (.int .i64 o1)).setIfInBounds 22 (.int .i64 o2)).setIfInBounds 23 (.string o3)).setIfInBounds 24 (.bool o4)).setIfInBounds 19 .nilFunc).setIfInBounds 9 (.map none)) w w':=by
 obtain⟨w1,hw1⟩:∃ w1,w1=w.alloc (.cells #[.int .i64 o1,.int .i64 o2,.string o3,.bool o4] 80):=⟨_,rfl⟩
 have hb1:Below w.heap.size w w1:=zBe hw1
 have hlt:h < w.heap.size:=(ErWr.refl hb).lt
 have hW1:ErWr X h cs w w1:=(ErWr.refl hb).below hb1
 have hne:h≠w.heap.size:=by omega
 have hne':w.heap.size≠h:=by omega
 have d0:w1.cell? ⟨w.heap.size,0,none⟩=some (.int .i64 o1):=zAc hw1 rfl
 have d1:w1.cell? ⟨w.heap.size,1,none⟩=some (.int .i64 o2):=zAc hw1 rfl
 have d2:w1.cell? ⟨w.heap.size,2,none⟩=some (.string o3):=zAc hw1 rfl
 have d3:w1.cell? ⟨w.heap.size,3,none⟩=some (.bool o4):=zAc hw1 rfl
 have hcell:∀ i,i < 25->∃ v,w1.cell? ⟨h,i,none⟩=some v:=fun i hi=>⟨cs[i]'(by omega),by rw [(blk_cell hW1.blk i).1];exact Array.getElem?_eq_getElem (by omega)⟩
 obtain⟨v10,c10⟩:=hcell 20 (by decide)
 obtain⟨v11,c11⟩:=hcell 19 (by decide)
 obtain⟨v12,c12⟩:=hcell 21 (by decide)
 obtain⟨v13,c13⟩:=hcell 22 (by decide)
 obtain⟨v14,c14⟩:=hcell 23 (by decide)
 obtain⟨v15,c15⟩:=hcell 24 (by decide)
 have f10:=(blk_cell hW1.blk 20).2
 have f11:=(blk_cell hW1.blk 19).2
 have f12:=(blk_cell hW1.blk 21).2
 have f13:=(blk_cell hW1.blk 22).2
 have f14:=(blk_cell hW1.blk 23).2
 have f15:=(blk_cell hW1.blk 24).2
 have HW1:Hid (w1=w.alloc (.cells #[.int .i64 o1,.int .i64 o2,.string o3,.bool o4] 80)):=hw1
 have hW5:ErWr X h (((((cs.setIfInBounds 20 (.string st)).setIfInBounds 21 (.int .i64 o1)).setIfInBounds 22 (.int .i64 o2)).setIfInBounds 23 (.string o3)).setIfInBounds 24 (.bool o4)) w (((((w1.setCell ⟨h,20,none⟩ (.string st)).setCell ⟨h,21,none⟩ (.int .i64 o1)).setCell ⟨h,22,none⟩ (.int .i64 o2)).setCell ⟨h,23,none⟩ (.string o3)).setCell ⟨h,24,none⟩ (.bool o4)).drew:=(((((hW1.set 20 _).set 21 _).set 22 _).set 23 _).set 24 _).below (Below.refl _ _).drew
 have hc11:∃ u,((((((w1.setCell ⟨h,20,none⟩ (.string st)).setCell ⟨h,21,none⟩ (.int .i64 o1)).setCell ⟨h,22,none⟩ (.int .i64 o2)).setCell ⟨h,23,none⟩ (.string o3)).setCell ⟨h,24,none⟩ (.bool o4)).drew).cell? ⟨h,19,none⟩=some u:=⟨cs[19]'(by omega),by rw [(blk_cell hW5.blk 19).1];simp⟩
 obtain⟨u11,hu11⟩:=hc11
 have hst11:Sem.run Tryz.prog (store ⟨h,19,none⟩ .nilFunc) ((((((w1.setCell ⟨h,20,none⟩ (.string st)).setCell ⟨h,21,none⟩ (.int .i64 o1)).setCell ⟨h,22,none⟩ (.int .i64 o2)).setCell ⟨h,23,none⟩ (.string o3)).setCell ⟨h,24,none⟩ (.bool o4)).drew)=.ok () (((((((w1.setCell ⟨h,20,none⟩ (.string st)).setCell ⟨h,21,none⟩ (.int .i64 o1)).setCell ⟨h,22,none⟩ (.int .i64 o2)).setCell ⟨h,23,none⟩ (.string o3)).setCell ⟨h,24,none⟩ (.bool o4)).drew).setCell ⟨h,19,none⟩ .nilFunc):=run_store1 hu11 (blk_cell hW5.blk 19).2 rfl
 have hW6:=hW5.set 19 .nilFunc
 obtain⟨w6,hw6⟩:∃ w6,w6=((((((w1.setCell ⟨h,20,none⟩ (.string st)).setCell ⟨h,21,none⟩ (.int .i64 o1)).setCell ⟨h,22,none⟩ (.int .i64 o2)).setCell ⟨h,23,none⟩ (.string o3)).setCell ⟨h,24,none⟩ (.bool o4)).drew).setCell ⟨h,19,none⟩ .nilFunc:=⟨_,rfl⟩
 rw [<- hw6] at hW6 hst11
 have HSTP:Hid (Calls Tryz.prog 93 #[.pointer (some ⟨h,0,none⟩)] w6 fun e w'=>e=.returned (.tuple #[])/\ErWr X h ((((((((cs.setIfInBounds 20 (.string st)).setIfInBounds 21 (.int .i64 o1)).setIfInBounds 22 (.int .i64 o2)).setIfInBounds 23 (.string o3)).setIfInBounds 24 (.bool o4)).setIfInBounds 19 .nilFunc)).setIfInBounds 9 (.map none)) w w'):=(pstop_any hW6.blk ⟨cs[9]'(by omega),by simp⟩).mono fun e w' hp=>⟨hp.1,hW6.trans hp.2⟩
 clear hb hs hw1 hb1 hW1 hcell hW5 hW6 hu11 hw6
 go_enter Tryz.func67,Tryz.ntmps67
 go_wp2
 rw [<- HW1.out]
 go_region
 go_wp2_with fail
 refine HSTP.out.mono ?_
 rintro e w7 ⟨rfl,hw7⟩
 have HW7:Hid (ErWr X h _ w w7):=hw7
 clear hw7 HSTP
 go_wp2
 go_end0
 exact⟨rfl,HW7.out⟩
end Go.Proofs.YtmhoiodfppdlnaaGreatDoor
