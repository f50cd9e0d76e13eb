import Derived.Test.YtghpdhegfnhmkaaGreatDoorS17
import Derived.Test.YtghpdhegfnhmkaaGreatDoorS7
import Derived.Test.YtghpdhegfnhmkaaGreatDoorS6
import Derived.StillTailTactics
import Derived.Deep.RegionWith
import Derived.Deep.CutRange
namespace Go.Proofs.YtghpdhegfnhmkaaGreatDoor
open Go.RowKit
theorem rank_congr {n k d:Nat} {v u:Nat->Nat->Lin.F} (h:Lin.IsRank n k v d) (he:∀ i,i < k->∀ j,j < n->v i j=u i j):Lin.IsRank n k u d:=by
 obtain ⟨b,h1,h2,h3⟩:=h
 exact ⟨b,h1,fun i hi=>Lin.span_congr (h2 i hi) he (fun _ _=>rfl),fun i hi=>Lin.span_congr (h3 i hi) (fun _ _ _ _=>rfl) (he i hi)⟩
def besideF (M:List (List Nat)) (r:Nat):Nat->Nat->Nat:=fun i j=>if j < r then Gf.nth (rowOf M i) j else if i=j - r then 1 else 0
theorem besideF_lt {M:List (List Nat)} (h:BytesM M) (r i j:Nat):besideF M r i j < 256:=by
 unfold besideF
 by_cases e:j < r
 ·rw [if_pos e];exact h i j
 ·by_cases e':i=j - r
  ·rw [if_neg e,if_pos e'];decide
  ·rw [if_neg e,if_neg e'];decide
theorem beside_left (M:List (List Nat)) (r i j:Nat) (hj:j < r):vecF (besideF M r) i j=vec M i j:=by
 unfold vecF besideF
 rw [if_pos hj]
 rfl
theorem beside_right (M:List (List Nat)) (r i j:Nat):vecF (besideF M r) i (r+j)=Lin.one i j:=by
 unfold vecF besideF Lin.one
 rw [if_neg (by omega),show r+j - r=j by omega]
 by_cases e:i=j
 ·rw [if_pos e,if_pos e];rfl
 ·rw [if_neg e,if_neg e];rfl
def Inverted (w':World) (M:List (List Nat)) (z:Addr) (e:Ending):Prop :=
 ∃ d:Nat,Lin.IsRank M.length M.length (vec M) d/\((d < M.length/\e=.returned (.tuple #[.slice none 0 0,.iface 218 (.pointer (some z))])) ∨
  (d=M.length/\∃ (gm:Nat) (x:Nat->Nat->Nat),e=.returned (.tuple #[.slice (some ⟨gm,0,none⟩) M.length M.length,.nilIface])/\Mat w' (some ⟨gm,0,none⟩) (matFn M.length M.length x)/\(∀ i j,x i j < 256)/\∀ i j,i < M.length->j < M.length->Lin.mm M.length (vecF x) (vec M) i j=Lin.one i j))
set_option maxRecDepth 10000 in
set_option maxHeartbeats 8000000 in
theorem invert_ok (p:Option Addr) (M:List (List Nat)) (cap:Nat) (z:Addr) (w:World) (hM:IsMat M) (hsq:(rowOf M 0).length=M.length) (hb:BytesM M) (h:Mat w p M)
 (hz:w.cell? ⟨11,0,none⟩=some (.iface 218 (.pointer (some z)))) :
 Calls Tryz.prog 107 #[.slice p M.length cap] w fun e w'=>Inverted w' M z e/\Below w.heap.size w w':=by
 have HM:Hid (IsMat M):=hM
 have l1:1<=M.length:=hM.1
 have l2:M.length<=16:=hM.2.1
 have hzl:11 < w.heap.size:=lt_of_cell hz
 have HBY:Hid (BytesM M):=hb
 obtain ⟨w1,hw1⟩:∃ w1,w1=w.alloc (.cells #[.slice p M.length cap] 74):=⟨_,rfl⟩
 have hb1:Below w.heap.size w w1:=by rw [hw1];exact (Below.refl _ _).alloc (Nat.le_refl _) _
 have hs1:w1.heap.size=w.heap.size+1:=by rw [hw1];simp
 have HM1:Hid (Mat w1 p M):=h.below hb1
 have hp1:w1.cell? ⟨w.heap.size,0,none⟩=some (.slice p M.length cap):=by rw [hw1,World.cell?_alloc_at _ _ _ _ rfl];rfl
 have HZ1:Hid (w1.cell? ⟨11,0,none⟩=some (.iface 218 (.pointer (some z)))):=(hb1.cell (p:=⟨11,0,none⟩) hzl).trans hz
 have HB1:Hid (Below w.heap.size w w1):=hb1
 have HROW:Hid (∀ i,i < M.length->(rowOf M i).length=M.length):=fun i hi=>(hM.2.2 i hi).2.2.trans hsq
 obtain ⟨b,o,b1,o1,c1,hpe,hbb,_,hc1,_⟩:=HM1.out.row (i:=0) (by omega) (by rw [hsq];omega)
 rw [hsq] at hc1
 have hc0:w1.cell? ⟨b,o,none⟩=some (.slice (some ⟨b1,o1,none⟩) M.length c1):=hc1
 subst hpe
 have HW1:Hid (w1=w.alloc (.cells #[.slice (some ⟨b,o,none⟩) M.length cap] 74)):=hw1
 have i0:0 < M.length:=by omega
 have i1:(0:Int) < (M.length:Int):=by omega
 clear hM hb h hz hb1 hw1 hc1 hsq
 go_enter Tryz.func107,Tryz.ntmps107
 go_wp2_with fail
 rw [<- HW1.out]
 go_quiet ((go_at_call 117;exact Calls.quiet_of_same (check_ok _ M cap _ HM.out (HM1.out.drewN _))))
 obtain ⟨w2,hw2⟩:∃ w2,w2=w1.drewN nq:=⟨_,rfl⟩
 have hb2:Below w1.heap.size w1 w2:=by rw [hw2];exact below_drewN (Below.refl _ _) _
 have hs2:w2.heap.size=w1.heap.size:=by rw [hw2];rfl
 rw [<- hw2]
 have hp2:w2.cell? ⟨w.heap.size,0,none⟩=some (.slice (some ⟨b,o,none⟩) M.length cap):=(hb2.cell (p:=⟨w.heap.size,0,none⟩) (by show w.heap.size < _;omega)).trans hp1
 obtain ⟨w3,hw3⟩:∃ w3,w3=w2.alloc (.cells #[.int .i64 (M.length:Int)] 3):=⟨_,rfl⟩
 have hb3:Below w1.heap.size w1 w3:=by rw [hw3];exact hb2.alloc (by omega) _
 have hs3:w3.heap.size=w.heap.size+2:=by rw [hw3];simp;omega
 have hS3:w3.cell? ⟨w.heap.size+1,0,none⟩=some (.int .i64 (M.length:Int)):=by rw [hw3,World.cell?_alloc_at _ _ _ _ (by omega)];rfl
 have hp3:w3.cell? ⟨w.heap.size,0,none⟩=some (.slice (some ⟨b,o,none⟩) M.length cap):=(hb3.cell (p:=⟨w.heap.size,0,none⟩) (by show w.heap.size < _;omega)).trans hp1
 have HM3:Hid (Mat w3 (some ⟨b,o,none⟩) M):=HM1.out.below hb3
 have HZ3:Hid (w3.cell? ⟨11,0,none⟩=some (.iface 218 (.pointer (some z)))):=(hb3.cell (p:=⟨11,0,none⟩) (by show 11 < _;omega)).trans HZ1.out
 have HB3:Hid (Below w.heap.size w w3):=HB1.out.trans (hb3.mono (by omega))
 have HCB:Hid (∀ i j,i < M.length->j < 2*M.length->∀ w2,Below w3.heap.size w3 w2->Calls Tryz.prog 119 (#[.int .i64 (i:Int),.int .i64 (j:Int)] ++ #[.pointer (some ⟨w.heap.size+1,0,none⟩),.pointer (some ⟨w.heap.size,0,none⟩)]) w2 fun e w3=>e=.returned (.int .u8 ((besideF M M.length i j:Nat):Int))/\Below w2.heap.size w2 w3):=by
  intro i j hi hj w4 h4
  exact invert1_any (w.heap.size+1) w.heap.size i j M.length cap _ M w4 hi hj (HROW.out i hi) (by omega) ((h4.cell (p:=⟨w.heap.size+1,0,none⟩) (by show w.heap.size+1 < _;omega)).trans hS3) ((h4.cell (p:=⟨w.heap.size,0,none⟩) (by show w.heap.size < _;omega)).trans hp3) (HM3.out.below h4)
 have HW3:Hid (w3=w2.alloc (.cells #[.int .i64 (M.length:Int)] 3)):=hw3
 have hsw:w2.heap.size=w.heap.size+1:=by omega
 clear hw2 hb2 hs2 hw3 hb3 hp1 hc0 hbb
 have HBC:=build_any M.length (2*M.length) (besideF M M.length) 119 #[.pointer (some ⟨w.heap.size+1,0,none⟩),.pointer (some ⟨w.heap.size,0,none⟩)] w3 (by omega) (by omega) (enters_of Tryz.func119 (by kernel_rfl) rfl) HCB.out
 rw [show ((2*M.length:Nat):Int)=2*(M.length:Int) by omega] at HBC
 go_wp2_with (go_at_call 118;rw [<- HW3.out];refine HBC.mono ?_;rintro e w4 ⟨⟨gm,gs,rfl,hG4⟩,hb4⟩)
 have HG4:Hid (OwnG w4 w3.heap.size gm gs M.length (2*M.length) (besideF M M.length)):=hG4
 have hgm4:gm < w4.heap.size:=hG4.rows.lt.2
 have hz34:w3.heap.size<=w4.heap.size:=hb4.size
 obtain ⟨w5,hw5⟩:∃ w5,w5=w4.alloc (.cells #[.slice (some ⟨gm,0,none⟩) M.length M.length] 74):=⟨_,rfl⟩
 rw [<- hw5]
 have hb5:Below w4.heap.size w4 w5:=by rw [hw5];exact (Below.refl _ _).alloc (Nat.le_refl _) _
 have hs5:w5.heap.size=w4.heap.size+1:=by rw [hw5];simp
 have hb35:Below w3.heap.size w3 w5:=hb4.trans (hb5.mono hz34)
 have hS5:w5.cell? ⟨w.heap.size+1,0,none⟩=some (.int .i64 (M.length:Int)):=(hb35.cell (p:=⟨w.heap.size+1,0,none⟩) (by show w.heap.size+1 < _;omega)).trans hS3
 have hBo5:w5.cell? ⟨w4.heap.size,0,none⟩=some (.slice (some ⟨gm,0,none⟩) M.length M.length):=by rw [hw5,World.cell?_alloc_at _ _ _ _ rfl];rfl
 have HZ5:Hid (w5.cell? ⟨11,0,none⟩=some (.iface 218 (.pointer (some z)))):=(hb35.cell (p:=⟨11,0,none⟩) (by show 11 < _;omega)).trans HZ3.out
 have HG5:Hid (OwnG w5 w3.heap.size gm gs M.length (2*M.length) (besideF M M.length)):=hG4.below hb5
 have HB5:Hid (Below w.heap.size w w5):=HB3.out.trans (hb35.mono (by omega))
 have HBL:Hid (∀ k,blocksOf gm gs M.length k->w3.heap.size<=k/\k < w4.heap.size):=HG4.out.blocks
 have HRED:Hid (∀ W:World,Below w5.heap.size w5 W->Calls Tryz.prog 121 #[.slice (some ⟨gm,0,none⟩) M.length M.length,.int .i64 (M.length:Int)] W fun e w'=>∃ (d:Nat) (gs':Nat->Nat) (g:Nat->Nat->Nat),e=.returned (.int .i64 (d:Int))/\Frame (blocksOf gm gs M.length) w5 w'/\OwnG w' w3.heap.size gm gs' M.length (2*M.length) g/\(∀ i j,g i j < 256)/\Lin.Red M.length (2*M.length) M.length (vecF (besideF M M.length)) (vecF g) d):=by
  intro W hW
  refine (reduce_any (blocksOf gm gs M.length) w3.heap.size gm gs M.length (2*M.length) M.length (besideF M M.length) z W (by omega) (by omega) (by omega) (besideF_lt HBY.out M.length) (HG5.out.below hW) (Or.inl rfl) (fun i hi=>Or.inr ⟨i,hi,rfl⟩) (fun k hk=>⟨(HBL.out k hk).1,by have:=(HBL.out k hk).2;have:=hW.size;omega⟩) (by omega) ((hW.cell (p:=⟨11,0,none⟩) (by show 11 < _;omega)).trans HZ5.out)).mono ?_
  rintro e w' ⟨hF,d,gs',g,rfl,hG,hl,hR⟩
  exact ⟨d,gs',g,rfl,(frame_below hW).trans hF,hG,hl,hR⟩
 have nS:¬ blocksOf gm gs M.length (w.heap.size+1):=fun hk=>by have:=(HBL.out _ hk).1;omega
 have nB:¬ blocksOf gm gs M.length w4.heap.size:=fun hk=>by have:=(HBL.out _ hk).2;omega
 have nE:¬ blocksOf gm gs M.length 11:=fun hk=>by have:=(HBL.out _ hk).1;omega
 have NS:Hid (¬ blocksOf gm gs M.length (w.heap.size+1)):=nS
 have NB:Hid (¬ blocksOf gm gs M.length w4.heap.size):=nB
 have NE:Hid (¬ blocksOf gm gs M.length 11):=nE
 clear nS nB nE hw5 hb5 hb35 hb4 hG4 HG4 hS3 hp2 hp3 HBC HCB
 go_cut [30] from 26 to 30 (fun v wc=>∃ (d:Nat) (gs':Nat->Nat) (g:Nat->Nat->Nat),v=.bool (decide (d < M.length))/\Frame (blocksOf gm gs M.length) w5 wc/\OwnG wc w3.heap.size gm gs' M.length (2*M.length) g/\(∀ i j,g i j < 256)/\Lin.Red M.length (2*M.length) M.length (vecF (besideF M M.length)) (vecF g) d)
 case first =>
  go_region_with (go_at_call 121;refine (HRED.out _ (by first | exact (Below.refl _ _).drew | exact Below.refl _ _)).mono ?_;rintro e w6 ⟨d,gs',g,rfl,hF,hG,hl,hR⟩;have hS6:=hF.cell hS5 NS.out)
  all_goals (go_wp2_with fail;go_meet)
  all_goals exact ⟨d,gs',g,rfl,hF,hG,hl,hR⟩
 case rest =>
  obtain ⟨d,gs',g,rfl,hF6,hG6,hl6,hR6⟩:=hcut
  have HF6:Hid (Frame (blocksOf gm gs M.length) w5 wc):=hF6
  have HG6:Hid (OwnG wc w3.heap.size gm gs' M.length (2*M.length) g):=hG6
  have HL6:Hid (∀ i j,g i j < 256):=hl6
  have HR6:Hid (Lin.Red M.length (2*M.length) M.length (vecF (besideF M M.length)) (vecF g) d):=hR6
  have HRK:Hid (Lin.IsRank M.length M.length (vec M) d):=rank_congr (hR6.rank (by omega)) (fun i _ j hj=>beside_left M M.length i j hj)
  have hz6:wc.cell? ⟨11,0,none⟩=some (.iface 218 (.pointer (some z))):=hF6.cell HZ5.out NE.out
  have hS6:wc.cell? ⟨w.heap.size+1,0,none⟩=some (.int .i64 (M.length:Int)):=hF6.cell hS5 NS.out
  have hBo6:wc.cell? ⟨w4.heap.size,0,none⟩=some (.slice (some ⟨gm,0,none⟩) M.length M.length):=hF6.cell hBo5 NB.out
  have hs56:w5.heap.size<=wc.heap.size:=hF6.size
  have HB6:Hid (Below w.heap.size w wc):=HB5.out.trans ((hF6.below (fun k hk=>(HBL.out k hk).1) (by omega)).mono (by omega))
  have hdle:d<=M.length:=hR6.le
  clear hF6 hG6 hl6 hR6
  by_cases hd:d < M.length
  ·have HD:Hid (d < M.length):=hd
   rw [decide_eq_true hd]
   clear hd
   go_wp2
   go_quiet (fail)
   go_wp2
   go_ret2
   exact ⟨⟨d,HRK.out,Or.inl ⟨HD.out,rfl⟩⟩,below_drewN HB6.out _⟩
  ·have hde:d=M.length:=by omega
   have HD:Hid (d=M.length):=hde
   have HRI:Hid (Lin.Red M.length (2*M.length) M.length (vecF (besideF M M.length)) (vecF g) M.length):=by have:=HR6.out;rw [hde] at this;exact this
   rw [decide_eq_false hd]
   clear hd hde hz6
   have HCB:Hid (∀ i j,i < M.length->j < M.length->∀ w2,Below wc.heap.size wc w2->Calls Tryz.prog 122 (#[.int .i64 (i:Int),.int .i64 (j:Int)] ++ #[.pointer (some ⟨w4.heap.size,0,none⟩),.pointer (some ⟨w.heap.size+1,0,none⟩)]) w2 fun e w3=>e=.returned (.int .u8 ((g i (M.length+j):Nat):Int))/\Below w2.heap.size w2 w3):=by
    intro i j hi hj w7 h7
    have hG7:=HG6.out.below h7
    refine invert2_any w4.heap.size (w.heap.size+1) i j M.length gm M.length (2*M.length) gs' (g i (M.length+j)) w7 hi (by omega) (by omega) ((h7.cell (p:=⟨w4.heap.size,0,none⟩) (by show w4.heap.size < _;omega)).trans hBo6) ((h7.cell (p:=⟨w.heap.size+1,0,none⟩) (by show w.heap.size+1 < _;omega)).trans hS6) (hG7.rows.cell i hi) ?_
    rw [(hG7.all.row i hi).cell (M.length+j) (by omega) (rowFn_length _ _),nth_rowFn _ _ _ (by omega)]
   go_wp2_with (go_at_call 118;refine (build_any M.length M.length (fun i j=>g i (M.length+j)) 122 #[.pointer (some ⟨w4.heap.size,0,none⟩),.pointer (some ⟨w.heap.size+1,0,none⟩)] wc (by omega) (by omega) (enters_of Tryz.func122 (by kernel_rfl) rfl) HCB.out).mono ?_;rintro e w8 ⟨⟨gm',gs8,rfl,hG8⟩,hb8⟩)
   go_ret2
   refine ⟨⟨d,HRK.out,Or.inr ⟨HD.out,gm',fun i j=>g i (M.length+j),rfl,hG8.mat (fun i j=>HL6.out _ _) M.length (Nat.le_refl _),fun i j=>HL6.out _ _,?_⟩⟩,HB6.out.trans (hb8.mono (by omega))⟩
   exact HRI.out.inverse (fun i j _ hj=>beside_left M M.length i j hj) (fun i j _ _=>beside_right M M.length i j)
end Go.Proofs.YtghpdhegfnhmkaaGreatDoor
