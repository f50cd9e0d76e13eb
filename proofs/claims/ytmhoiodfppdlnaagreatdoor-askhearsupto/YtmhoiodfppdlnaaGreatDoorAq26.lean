import Derived.Test.YtmhoiodfppdlnaaGreatDoorAq18
import Derived.Test.YtmhoiodfppdlnaaGreatDoorAq3
import Derived.Test.YtmhoiodfppdlnaaGreatDoorAq6
import Derived.StillTailTactics
import Derived.Deep.CutRange
import Derived.Deep.RegionHeld3
import Derived.BigQuiet
set_option maxRecDepth 10000
set_option maxHeartbeats 16000000
namespace Go.Proofs.YtmhoiodfppdlnaaGreatDoor
open Go.RowKit
variable {w w':World} {B:Nat} {S:Nat->Prop} {ab:Nat} {a:MAsk} {mv nv fv lv:Value} {vs:List Value}
theorem rhear_done (h:RAk w B S ab a mv nv fv lv vs)(x:Msg×Lv)(hl:a.c.L.length<=1000)(hfl:a.from_.length<=1000)(hta:a.takes x.1=true)(hsh:x.1.shut=false)(hst:a.st=.keeping)(hen:enoughN a.c<=a.from_.length+1)(hcf:1<=a.c.k/\a.c.k<=a.c.n/\a.c.n<=12)(hLl:a.L.length<=1000)(hml:x.1.L.length<=1000)(hln:x.2.2.1=x.1.L.length)(hle:x.2.1=none->x.1.L=[]/\x.2.2.2=0)(hrec:∀ W:World,w.heap.size<=W.heap.size->(∀ k,k < w.heap.size->¬ S k->W.heap[k]?=w.heap[k]?)->Rec verE W x.2.1 x.1.L):Calls Tryz.prog 20 #[.pointer (some ⟨ab,0,none⟩),.agg #[.string x.1.from_,.string x.1.to_,.string x.1.kind,.string x.1.key,.int .i64 x.1.op,.int .i64 x.1.config,.bool x.1.shut,.slice x.2.1 x.2.2.1 x.2.2.2]] w fun e w'=>e=.returned (.slice none 0 0)/\∃ S' fv' lv' vs',RAk w' B S' ab { a.heard x.1 with st:=.done } mv nv fv' lv' vs'/\Upd S S' w w':=by
 obtain⟨i0,hi0,hy0,hy1,hyb⟩:=info_parts (P:=Tryz.prog) (e:=9) (z:=.string ⟨#[]⟩) (size:=1) (bytes:=16) (by kernel_rfl)
 obtain⟨j0,hj0,hz0,hz1,hzb⟩:=info_parts versinfo
 obtain⟨mp,mc,hmv,hms,hmc,hmn,hmb⟩:=h.mem.at_
 obtain⟨fp,fc,hfv,hfs,hfc,hfn,_⟩:=h.from_.form
 have HRA0:Hid (RAk w B S ab a mv nv fv lv vs):=h
 subst hmv hfv
 obtain⟨⟨m1,m2,m3,m4,m5,m6,m7,mL⟩,lp,ln,lc⟩:=x
 dsimp only at *
 subst hsh
 subst hln
 obtain⟨w1,hw1⟩:∃ w1,w1=w.alloc (.cells #[.string m1,.string m2,.string m3,.string m4,.int .i64 m5,.int .i64 m6,.bool false,.slice lp mL.length lc] 59):=⟨_,rfl⟩
 have hb1:Below w.heap.size w w1:=zBe hw1
 have hR1:=h.below hb1
 have HWT:=waits_any hR1
 have c0:w1.cell? ⟨ab,0,none⟩=some (.string a.name):=hR1.cell 0
 have c1:w1.cell? ⟨ab,1,none⟩=some (.string a.key):=hR1.cell 1
 have c3:w1.cell? ⟨ab,3,none⟩=some (.int .i64 a.op):=hR1.cell 3
 have c4:w1.cell? ⟨ab,4,none⟩=some (.int .i64 a.config):=hR1.cell 4
 have c7:w1.cell? ⟨ab,7,none⟩=some (.slice mp a.c.L.length mc):=hR1.cell 7
 have c14:w1.cell? ⟨ab,14,none⟩=some (.slice fp a.from_.length fc):=hR1.cell 14
 have d0:w1.cell? ⟨w.heap.size,0,none⟩=some (.string m1):=zAc hw1 rfl
 have d1:w1.cell? ⟨w.heap.size,1,none⟩=some (.string m2):=zAc hw1 rfl
 have d2:w1.cell? ⟨w.heap.size,2,none⟩=some (.string m3):=zAc hw1 rfl
 have d3:w1.cell? ⟨w.heap.size,3,none⟩=some (.string m4):=zAc hw1 rfl
 have d4:w1.cell? ⟨w.heap.size,4,none⟩=some (.int .i64 m5):=zAc hw1 rfl
 have d5:w1.cell? ⟨w.heap.size,5,none⟩=some (.int .i64 m6):=zAc hw1 rfl
 have HSM:Hid (∀ W,Below w1.heap.size w1 W->Strs W mp a.c.L):=fun W hW=>(hms.below hb1).below hW
 have HSF:Hid (∀ W,Below w1.heap.size w1 W->Strs W fp a.from_):=fun W hW=>(hfs.below hb1).below hW
 have HW1:Hid (w1=w.alloc (.cells #[.string m1,.string m2,.string m3,.string m4,.int .i64 m5,.int .i64 m6,.bool false,.slice lp mL.length lc] 59)):=hw1
 have HB1:Hid (Below w.heap.size w w1):=hb1
 have d6:w1.cell? ⟨w.heap.size,6,none⟩=some (.bool false):=zAc hw1 rfl
 have d7:w1.cell? ⟨w.heap.size,7,none⟩=some (.slice lp mL.length lc):=zAc hw1 rfl
 have hz1':w1.heap.size=w.heap.size+1:=by rw [hw1];simp
 have HR1:Hid (RAk w1 B S ab a (.slice mp a.c.L.length mc) nv (.slice fp a.from_.length fc) lv vs):=hR1
 have HREC:Hid (∀ W:World,w.heap.size<=W.heap.size->(∀ k,k < w.heap.size->¬ S k->W.heap[k]?=w.heap[k]?)->Rec verE W lp mL):=hrec
 have HLE:Hid (lp=none->mL=[]/\lc=0):=hle
 have HEN:Hid (enoughN a.c<=a.from_.length+1):=hen
 have HST:Hid (a.st.word=⟨#[107,101,101,112,105,110,103]⟩):=by show _=_;rw [hst];rfl
 have HCF:Hid (1<=a.c.k/\a.c.k<=a.c.n/\a.c.n<=12):=hcf
 obtain⟨g0,g1,g2,g3,g4,g5,g6,g7⟩:a.st.waits≠⟨#[]⟩/\m3=a.st.waits/\m2=a.name/\m4=a.key/\m5=a.op/\m6=a.config/\m1 ∈ a.c.L/\m1 ∉ a.from_:=by
  unfold MAsk.takes at hta
  rw [Bool.and_eq_true,Bool.and_eq_true] at hta
  obtain⟨q1,q2,q3⟩:=hta
  have q1':=of_decide_eq_true q1
  exact⟨q1'.1,q1'.2.1,q1'.2.2.1,q1'.2.2.2.1,q1'.2.2.2.2.1,q1'.2.2.2.2.2,inL_iff.1 q2,fun hm=>by rw [inL_iff.2 hm] at q3;cases q3⟩
 have HI1:Hid (∀ W,Below w1.heap.size w1 W->Calls Tryz.prog 46 #[.slice mp a.c.L.length mc,.string m1] W fun e w'=>e=.returned (.int .i64 ((idxN a.c.L m1:Nat):Int))/\w'=W):=fun W hW=>index_hit mp a.c.L mc m1 W (by omega) (HSM.out W hW) g6
 have HI2:Hid (∀ W,Below w1.heap.size w1 W->Calls Tryz.prog 46 #[.slice fp a.from_.length fc,.string m1] W fun e w'=>e=.returned (.int .i64 (-1))/\w'=W):=fun W hW=>index_miss fp a.from_ fc m1 W (by omega) (HSF.out W hW) g7
 clear h hms hmb hfs hfn hmn hb1 hw1 hR1 hta HSM HSF hrec hle hen hcf g6 g7
 generalize idxN a.c.L m1=j1 at *
 have n1:decide ((j1:Int) < 0)=false:=decide_eq_false (by omega)
 have t0:=toList_ne g0
 have u0:=toList_beq g0
 have v0:=bytes_beq g0
 have e0:(⟨#[]⟩:ByteArray).toList=[]:=by decide +kernel
 rw [e0] at t0 u0
 subst g1 g2 g3 g4 g5
 generalize a.st.waits=wt at *
 clear g0
 go_enter Tryz.func20,Tryz.ntmps20
 go_wp2_with (first | rw [<- HW1.out] | fail)
 refine HWT.mono ?_
 rintro e w2 ⟨rfl,hw2⟩
 rw [hw2]
 clear hw2 w2 HWT
 go_wp2
 go_quiet (fail)
 generalize hwq:World.drewN w1 _=wq
 have c7q:wq.cell? ⟨ab,7,none⟩=some (.slice mp a.c.L.length mc):=by rw [<- hwq];exact c7
 have c14q:wq.cell? ⟨ab,14,none⟩=some (.slice fp a.from_.length fc):=by rw [<- hwq];exact c14
 have d0q:wq.cell? ⟨w.heap.size,0,none⟩=some (.string m1):=by rw [<- hwq];exact d0
 have d6q:wq.cell? ⟨w.heap.size,6,none⟩=some (.bool false):=by rw [<- hwq];exact d6
 have d7q:wq.cell? ⟨w.heap.size,7,none⟩=some (.slice lp mL.length lc):=by rw [<- hwq];exact d7
 have hbq:Below w1.heap.size w1 wq:=by rw [<- hwq];exact below_drewN (Below.refl _ _) _
 clear hwq c0 c1 c3 c4 c7 c14 d0 d1 d2 d3 d4 d5 d6 d7
 go_wp2
 go_quiet (first | (go_at_call 46;with_reducible exact Calls.quiet_of_same (HI1.out _ (below_drewN hbq _))) | (go_at_call 46;with_reducible exact Calls.quiet_of_same (HI2.out _ (below_drewN hbq _))))
 generalize hwr:World.drewN wq _=wr
 have c14r:wr.cell? ⟨ab,14,none⟩=some (.slice fp a.from_.length fc):=by rw [<- hwr];exact c14q
 have d0r:wr.cell? ⟨w.heap.size,0,none⟩=some (.string m1):=by rw [<- hwr];exact d0q
 have d6r:wr.cell? ⟨w.heap.size,6,none⟩=some (.bool false):=by rw [<- hwr];exact d6q
 have d7r:wr.cell? ⟨w.heap.size,7,none⟩=some (.slice lp mL.length lc):=by rw [<- hwr];exact d7q
 have hbr:Below w1.heap.size w1 wr:=by rw [<- hwr];exact below_drewN hbq _
 have HBR:Hid (Below w1.heap.size w1 wr):=hbr
 clear hwr c7q c14q d0q d6q d7q hbq hbr HI1 HI2 n1 t0 u0 v0 e0
 go_wp2
 have hba:Below wr.heap.size wr (wr.alloc (.cells #[.string m1] 9)):=(Below.refl _ _).alloc (Nat.le_refl _) _
 have hzr:=HBR.out.size
 have HBA:Hid (Below w1.heap.size w1 ((wr.alloc (.cells #[.string m1] 9)).drew)):=(HBR.out.trans (hba.mono hzr)).drew
 have HRA:Hid (RAk ((wr.alloc (.cells #[.string m1] 9)).drew) B S ab a (.slice mp a.c.L.length mc) nv (.slice fp a.from_.length fc) lv vs):=HR1.out.below HBA.out
 have c14a:(wr.alloc (.cells #[.string m1] 9)).cell? ⟨ab,14,none⟩=some (.slice fp a.from_.length fc):=HRA.out.cell 14
 have d0a:(wr.alloc (.cells #[.string m1] 9)).cell? ⟨w.heap.size,0,none⟩=some (.string m1):=(hba.cell (p:=⟨w.heap.size,0,none⟩) (by show w.heap.size < wr.heap.size;omega)).trans d0r
 have d7a:(wr.alloc (.cells #[.string m1] 9)).cell? ⟨w.heap.size,7,none⟩=some (.slice lp mL.length lc):=(hba.cell (p:=⟨w.heap.size,7,none⟩) (by show w.heap.size < wr.heap.size;omega)).trans d7r
 have HCA:Hid ((wr.alloc (.cells #[.string m1] 9)).cell? ⟨wr.heap.size,0,none⟩=some (.string m1)):=by show _=_;rw [World.cell?_alloc_at _ _ _ _ rfl];rfl
 have HD7:Hid (((wr.alloc (.cells #[.string m1] 9)).drew).cell? ⟨w.heap.size,7,none⟩=some (.slice lp mL.length lc)):=d7a
 clear hba d7a d7r d6r
 have HX3:Hid (∀ v w3,OwnV w3 B 9 v (a.from_.map Value.string ++ [.string m1])->((wr.alloc (.cells #[.string m1] 9)).drew).grownBy w3 (Value.slice fp a.from_.length fc).ownBlock->(v.ownBlock=(Value.slice fp a.from_.length fc).ownBlock∨v.ownBlock=some ((wr.alloc (.cells #[.string m1] 9)).drew).heap.size)->∃ p3 c3,v=.slice p3 (a.from_.length+1) c3/\RAk (w3.setCell ⟨ab,14,none⟩ (.slice p3 (a.from_.length+1) c3)) B (fun k=>S k∨(Value.slice p3 (a.from_.length+1) c3).ownBlock=some k) ab { a with from_:=a.from_ ++ [m1] } (.slice mp a.c.L.length mc) nv (.slice p3 (a.from_.length+1) c3) lv vs/\Upd S (fun k=>S k∨(Value.slice p3 (a.from_.length+1) c3).ownBlock=some k) w (w3.setCell ⟨ab,14,none⟩ (.slice p3 (a.from_.length+1) c3))/\w3.frozen? ⟨ab,14,none⟩=false/\w3.cell? ⟨ab,14,none⟩=some (.slice fp a.from_.length fc)/\(w3.setCell ⟨ab,14,none⟩ (.slice p3 (a.from_.length+1) c3)).cell? ⟨w.heap.size,7,none⟩=some (.slice lp mL.length lc)):=fun v w3 hO3 hg3 hl3=>by
  have hO3':OwnT w3 B v (a.from_ ++ [m1]):=by unfold OwnT;rw [List.map_append];exact hO3
  obtain⟨p3,c3,hv3,_⟩:=hO3'.form
  rw [List.length_append,List.length_singleton] at hv3
  subst hv3
  have HF:=HRA.out.from hO3' hg3 hl3
  have hblk3:=(hg3.block ab (HRA.out.inB ab HRA.out.self).2 (fun e=>(HRA.out.sF ab e.symm).2 rfl)).trans HRA.out.blk
  have hbw:Below w.heap.size w ((wr.alloc (.cells #[.string m1] 9)).drew):=HB1.out.trans (HBA.out.mono HB1.out.size)
  have hns:¬ S w.heap.size:=fun hs=>by have:=(HRA0.out.inB _ hs).2;omega
  exact⟨p3,c3,rfl,HF.1,(Upd.of_below hbw).trans HF.2,by simp [World.frozen?,hblk3],by simp [World.cell?,hblk3,akCells],(World.cell?_of_block (a:=⟨w.heap.size,7,none⟩) (HF.2.block w.heap.size (by have:=HBA.out.size;omega) hns)).trans HD7.out⟩
 clear HD7
 go_cut [6] from 93 to 100 (fun v w3=>∃ p3 c3,v=.slice p3 (a.from_.length+1) c3/\RAk (w3.setCell ⟨ab,14,none⟩ (.slice p3 (a.from_.length+1) c3)) B (fun k=>S k∨(Value.slice p3 (a.from_.length+1) c3).ownBlock=some k) ab { a with from_:=a.from_ ++ [m1] } (.slice mp a.c.L.length mc) nv (.slice p3 (a.from_.length+1) c3) lv vs/\Upd S (fun k=>S k∨(Value.slice p3 (a.from_.length+1) c3).ownBlock=some k) w (w3.setCell ⟨ab,14,none⟩ (.slice p3 (a.from_.length+1) c3))/\w3.frozen? ⟨ab,14,none⟩=false/\w3.cell? ⟨ab,14,none⟩=some (.slice fp a.from_.length fc)/\(w3.setCell ⟨ab,14,none⟩ (.slice p3 (a.from_.length+1) c3)).cell? ⟨w.heap.size,7,none⟩=some (.slice lp mL.length lc))
 case first =>
  go_region_law (refine step_append_val rfl (.tmp 96) (.tmp 99) 22 rfl B 9 i0 (.string ⟨#[]⟩) 16 Tryz.underlying22 hi0 hy0 rfl hy1 hyb (by decide) (.slice fp a.from_.length fc) (a.from_.map Value.string) (by simp [Act.eval]) HRA.out.from_ ⟨wr.heap.size,0,none⟩ 1 (.string m1) rfl (by simp [Act.eval]) HCA.out (by rw [List.length_map];omega) HRA.out.leB ?_;intro v3 w3 hO3 hg3 hl3;have HX4:Hid _:=HX3.out v3 w3 hO3 hg3 hl3;clear hO3 hg3 hl3)
  all_goals (go_wp2_with fail;go_meet)
  all_goals exact HX4.out
 case rest =>
  obtain⟨p3,c3,rfl,hR4,hU4,f14,c14,hd7⟩:=hcut
  clear HX3 HCA c14a d0a c14r d0r HBA HRA HBR hzr
  obtain⟨w4,hw4⟩:∃ w4,w4=wc.setCell ⟨ab,14,none⟩ (.slice p3 (a.from_.length+1) c3):=⟨_,rfl⟩
  rw [<- hw4] at hR4 hU4 hd7
  have HW4:Hid (w4=wc.setCell ⟨ab,14,none⟩ (.slice p3 (a.from_.length+1) c3)):=hw4
  have HR4:Hid (RAk w4 B (fun k=>S k∨(Value.slice p3 (a.from_.length+1) c3).ownBlock=some k) ab { a with from_:=a.from_ ++ [m1] } (.slice mp a.c.L.length mc) nv (.slice p3 (a.from_.length+1) c3) lv vs):=hR4
  have HU4:Hid (Upd S (fun k=>S k∨(Value.slice p3 (a.from_.length+1) c3).ownBlock=some k) w w4):=hU4
  clear hw4 hR4 hU4
  go_wp2
  rw [<- HW4.out]
  have c15:w4.cell? ⟨ab,15,none⟩=some lv:=HR4.out.cell 15
  have HR5:Hid (RAk w4.drew B (fun k=>S k∨(Value.slice p3 (a.from_.length+1) c3).ownBlock=some k) ab { a with from_:=a.from_ ++ [m1] } (.slice mp a.c.L.length mc) nv (.slice p3 (a.from_.length+1) c3) lv vs):=HR4.out.below (Below.refl _ _).drew
  have HREC5:Hid (Rec verE w4.drew lp mL):=HREC.out _ HU4.out.size (fun k hk hs=>HU4.out.block k hk hs)
  have HX6:Hid (∀ v6 w6,OwnR verE 76 w6 w4.heap.size v6 ([] ++ mL)->Below w4.heap.size w4.drew w6->∃ p6 c6,v6=.slice p6 mL.length c6/\w6.cell? ⟨ab,15,none⟩=some lv/\(w6.alloc (.cells #[.slice p6 mL.length c6] 55)).cell? ⟨ab,15,none⟩=some lv/\OwnV (w6.alloc (.cells #[.slice p6 mL.length c6] 55)) B 55 lv vs/\B<=(w6.alloc (.cells #[.slice p6 mL.length c6] 55)).heap.size/\(∀ v w8,OwnV w8 B 55 v (vs ++ [.slice p6 mL.length c6])->(w6.alloc (.cells #[.slice p6 mL.length c6] 55)).grownBy w8 lv.ownBlock->(v.ownBlock=lv.ownBlock∨v.ownBlock=some (w6.alloc (.cells #[.slice p6 mL.length c6] 55)).heap.size)->∃ p8 c8 S2 vs2,v=.slice p8 (a.L.length+1) c8/\RAk (w8.setCell ⟨ab,15,none⟩ (.slice p8 (a.L.length+1) c8)) B S2 ab (a.heard ⟨m1,a.name,wt,a.key,a.op,a.config,false,mL⟩) (.slice mp a.c.L.length mc) nv (.slice p3 (a.from_.length+1) c3) (.slice p8 (a.L.length+1) c8) vs2/\Upd S S2 w (w8.setCell ⟨ab,15,none⟩ (.slice p8 (a.L.length+1) c8))/\w8.frozen? ⟨ab,15,none⟩=false/\w8.cell? ⟨ab,15,none⟩=some lv)):=fun v6 w6 hO6 hb6=>by
   rw [List.nil_append] at hO6
   obtain⟨p6,c6,rfl,_⟩:=hO6.form
   have hb6':Below w4.drew.heap.size w4.drew w6:=hb6
   have hR6:=HR5.out.below hb6'
   have hRa:=hR6.below ((Below.refl _ _).alloc (Nat.le_refl _) (.cells #[.slice p6 mL.length c6] 55))
   refine⟨p6,c6,rfl,hR6.cell 15,hRa.cell 15,hRa.told.1,hRa.leB,fun v w8 hv hg hl8=>?_⟩
   have HF:=HR5.out.list (r:=.slice p6 mL.length c6) (row:=mL) hO6 hb6' hv hg hl8
   have hab:=hRa.inB ab hRa.self
   have hblk8:=(hg.block ab hab.2 (fun e=>(hRa.sL ab e.symm).2.1 rfl)).trans hRa.blk
   have hvl:vs.length=a.L.length:=HR5.out.told.2.1
   rcases hv.cells with ⟨_,h0⟩ | ⟨g,cap,hvv,_⟩
   ·exact absurd h0 (by simp)
   rw [List.length_append,List.length_singleton,hvl] at hvv
   subst hvv
   exact⟨_,_,_,_,rfl,HF.1,((HU4.out.trans (Upd.of_below (Below.refl _ _).drew)).trans HF.2),by simp [World.frozen?,hblk8],by simp [World.cell?,hblk8,akCells]⟩
  have HVL:Hid (vs.length=a.L.length):=HR4.out.told.2.1
  go_cut [8] from 105 to 114 (fun v w8=>∃ p8 c8 S2 vs2,v=.slice p8 (a.L.length+1) c8/\RAk (w8.setCell ⟨ab,15,none⟩ (.slice p8 (a.L.length+1) c8)) B S2 ab (a.heard ⟨m1,a.name,wt,a.key,a.op,a.config,false,mL⟩) (.slice mp a.c.L.length mc) nv (.slice p3 (a.from_.length+1) c3) (.slice p8 (a.L.length+1) c8) vs2/\Upd S S2 w (w8.setCell ⟨ab,15,none⟩ (.slice p8 (a.L.length+1) c8))/\w8.frozen? ⟨ab,15,none⟩=false/\w8.cell? ⟨ab,15,none⟩=some lv)
  case first =>
   go_region_law (first | (refine step_append_recs (E:=verE) rfl (.tmp 109) (.tmp 111) 55 76 rfl (.agg #[.int .i64 0,.int .i64 0,.int .i64 0,.int .i64 0,.string ⟨#[]⟩]) 48 Tryz.underlying55 verinfo rfl w4.heap.size (.slice none 0 0) [] (by simp [Act.eval]) (OwnR.nil _ _ _) lp mL lc (by simp [Act.eval]) HREC5.out HLE.out (by unfold maxLen;simp;omega) (by simp;omega) (Nat.le_refl _) ?_;intro v6 w6 hO6 hb6;obtain⟨p6,c6,hv6,c15a,c15b,ho6,hB6,hn6⟩:=HX6.out v6 w6 hO6 hb6;subst hv6;have HO6:Hid (OwnV (w6.alloc (.cells #[.slice p6 mL.length c6] 55)) B 55 lv vs):=ho6;have HB6:Hid (B<=(w6.alloc (.cells #[.slice p6 mL.length c6] 55)).heap.size):=hB6;have HN6:Hid _:=hn6;clear hO6 hb6 ho6 hB6 hn6) | (refine step_append_val rfl (.tmp 108) (.tmp 113) 44 rfl B 55 j0 (.slice none 0 0) 24 Tryz.underlying44 hj0 hz0 rfl hz1 hzb (by decide) lv vs (by simp [Act.eval]) HO6.out ⟨w6.heap.size,0,none⟩ 1 (.slice p6 mL.length c6) rfl (by simp [Act.eval]) (by rw [World.cell?_alloc_at _ _ _ _ rfl];rfl) (by have:=HVL.out;omega) HB6.out ?_;intro v8 w8 hv8 hg8 hl8;have HX8:Hid _:=HN6.out v8 w8 hv8 hg8 hl8;clear hv8 hg8 hl8 HN6 HO6 HB6))
   all_goals (go_wp2_with fail;go_meet)
   all_goals exact HX8.out
  case rest =>
   obtain⟨p8,c8,S2,vs2,rfl,hR9,hU9,f15,c15'⟩:=hcut
   clear HX6 HREC5 HREC HR5 HR4 HU4 HW4 c15 hd7 f14 c14
   obtain⟨w9,hw9⟩:∃ w9,w9=wc.setCell ⟨ab,15,none⟩ (.slice p8 (a.L.length+1) c8):=⟨_,rfl⟩
   rw [<- hw9] at hR9 hU9
   have HW9:Hid (w9=wc.setCell ⟨ab,15,none⟩ (.slice p8 (a.L.length+1) c8)):=hw9
   have HR9:Hid (RAk w9 B S2 ab (a.heard ⟨m1,a.name,wt,a.key,a.op,a.config,false,mL⟩) (.slice mp a.c.L.length mc) nv (.slice p3 (a.from_.length+1) c3) (.slice p8 (a.L.length+1) c8) vs2):=hR9
   have HU9:Hid (Upd S S2 w w9):=hU9
   have HSW:Hid (∀ W,Below w9.heap.size w9 W->(W.cell? ⟨ab,14,none⟩=some (.slice p3 (a.from_.length+1) c3)/\W.cell? ⟨ab,5,none⟩=some (.int .i64 a.c.n)/\W.cell? ⟨ab,6,none⟩=some (.int .i64 a.c.k)/\W.cell? ⟨ab,7,none⟩=some (.slice mp a.c.L.length mc)/\Below w9.heap.size w9 W)):=fun W hW=>by
    have hq:=HR9.out.below hW
    exact⟨hq.cell 14,hq.cell 5,hq.cell 6,hq.cell 7,hW⟩
   have HEC:Hid (∀ W,(W.cell? ⟨ab,14,none⟩=some (.slice p3 (a.from_.length+1) c3)/\W.cell? ⟨ab,5,none⟩=some (.int .i64 a.c.n)/\W.cell? ⟨ab,6,none⟩=some (.int .i64 a.c.k)/\W.cell? ⟨ab,7,none⟩=some (.slice mp a.c.L.length mc)/\Below w9.heap.size w9 W)->Calls Tryz.prog 47 #[.agg #[.int .i64 a.c.n,.int .i64 a.c.k,(.slice mp a.c.L.length mc)]] W fun e w'=>e=.returned (.int .i64 ((enoughN a.c:Nat):Int))/\(w'.cell? ⟨ab,14,none⟩=some (.slice p3 (a.from_.length+1) c3)/\w'.cell? ⟨ab,5,none⟩=some (.int .i64 a.c.n)/\w'.cell? ⟨ab,6,none⟩=some (.int .i64 a.c.k)/\w'.cell? ⟨ab,7,none⟩=some (.slice mp a.c.L.length mc)/\Below w9.heap.size w9 w')):=fun W hW=>(renough_any a.c (.slice mp a.c.L.length mc) ⟨_,_,_,rfl⟩ W HCF.out).mono fun e w' hp=>⟨hp.1,HSW.out w' (hW.2.2.2.2.trans (hp.2.mono hW.2.2.2.2.size))⟩
   have hen':decide (((a.from_.length+1:Nat):Int) < ((enoughN a.c:Nat):Int))=false:=decide_eq_false (by have:=HEN.out;omega)
   have HHX:Hid (¬ ((a.from_.length+1:Nat):Int) < ((enoughN a.c:Nat):Int)):=by show ¬ _ < _;have:=HEN.out;omega
   generalize enoughN a.c=en at *
   clear hw9 hR9 hU9 HCF HEN
   go_wp2
   rw [<- HW9.out]
   go_cut [129] from 119 to 129 (fun v W=>v=.bool false/\Below w9.heap.size w9 W)
   case first =>
    go_region_held3 (fun W=>(W.cell? ⟨ab,14,none⟩=some (.slice p3 (a.from_.length+1) c3)/\W.cell? ⟨ab,5,none⟩=some (.int .i64 a.c.n)/\W.cell? ⟨ab,6,none⟩=some (.int .i64 a.c.k)/\W.cell? ⟨ab,7,none⟩=some (.slice mp a.c.L.length mc)/\Below w9.heap.size w9 W)) (first | assumption | exact HSW.out _ (Below.refl _ _).drew) (first | (go_at_call 47;refine(HEC.out _ (by assumption)).mono ?_;rintro e w10 ⟨rfl,hS10⟩))
    all_goals (go_wp2_with fail;go_meet)
    all_goals exact⟨by first | rfl | (rw [hen']) | simpa using HHX.out,(by first | assumption | exact hSs.2.2.2.2 | exact hS10.2.2.2.2)⟩
   case rest =>
    obtain⟨rfl,hbz⟩:=hcut
    have HBZ:Hid (Below w9.heap.size w9 wc):=hbz
    clear hbz HEC HSW HW9 f15 c15'
    have HRZ:Hid (RAk wc B S2 ab (a.heard ⟨m1,a.name,wt,a.key,a.op,a.config,false,mL⟩) (.slice mp a.c.L.length mc) nv (.slice p3 (a.from_.length+1) c3) (.slice p8 (a.L.length+1) c8) vs2):=HR9.out.below HBZ.out
    have c13:wc.cell? ⟨ab,13,none⟩=some (.string ⟨#[107,101,101,112,105,110,103]⟩):=by rw [<- HST.out];exact HRZ.out.cell 13
    have f13:wc.frozen? ⟨ab,13,none⟩=false:=HRZ.out.free 13
    have HFIN:Hid (RAk (wc.setCell ⟨ab,13,none⟩ (.string ⟨#[100,111,110,101]⟩)) B S2 ab { a.heard ⟨m1,a.name,wt,a.key,a.op,a.config,false,mL⟩ with st:=.done } (.slice mp a.c.L.length mc) nv (.slice p3 (a.from_.length+1) c3) (.slice p8 (a.L.length+1) c8) vs2/\Upd S S2 w (wc.setCell ⟨ab,13,none⟩ (.string ⟨#[100,111,110,101]⟩))):=by
     have hU:=HU9.out.trans (Upd.of_below HBZ.out)
     refine⟨HRZ.out.set 13 _ rfl rfl rfl rfl rfl rfl rfl,hU.trans (S1:=S2) ⟨rfl,rfl,rfl,by simp [World.setCell],fun k hk hs=>Below.heap_setCell wc _ _ k (fun e=>hs (by rw [e];exact HRZ.out.self)),fun k hk=>Or.inl hk⟩⟩
    clear HRZ
    go_wp2
    go_ret
    first | exact⟨rfl,S2,_,_,vs2,HFIN.out⟩ | exact⟨rfl,S2,⟨_,_,vs2,HFIN.out.1⟩,HFIN.out.2⟩
end Go.Proofs.YtmhoiodfppdlnaaGreatDoor
