import Derived.Test.YtmhoiodfppdlnaaGreatDoorAq9
import Derived.Test.YtmhoiodfppdlnaaGreatDoorAq4
import Derived.StillTailTactics
import Derived.Deep.RegionWith
import Derived.Deep.CutRange
import Derived.Test.YtmhoiodfppdlnaaGreatDoorAq8
import Derived.Test.YtmhoiodfppdlnaaGreatDoorAq2
import Derived.Test.YtmhoiodfppdlnaaGreatDoorAq0
import Derived.Test.YtmhoiodfppdlnaaGreatDoorAq3
import Derived.Deep.OwnRows
import Derived.Shelf.Abstract
import Derived.Deep.QuietTactic
import Derived.BigQuiet
import Derived.Test.YtmhoiodfppdlnaaGreatDoorAq6
set_option maxRecDepth 10000
set_option maxHeartbeats 8000000
namespace Go.Proofs.YtmhoiodfppdlnaaGreatDoor
open Go.RowKit
def blocksOf (gm:Nat)(gs:Nat->Nat)(r:Nat)(k:Nat):Prop:=k=gm∨∃ i,i < r/\gs i=k
theorem OwnG.blocks {w:World}{B gm:Nat}{gs:Nat->Nat}{r n:Nat}{f:Nat->Nat->Nat}(h:OwnG w B gm gs r n f):∀ k,blocksOf gm gs r k->B<=k/\k < w.heap.size:=fun k hk=>by
 rcases hk with rfl | ⟨i,hi,rfl⟩
 ·exact h.rows.lt
 ·exact(h.all.row i hi).lt
theorem dotN_fsum {A B:List (List Nat)}(hA:BytesM A)(hB:BytesM B)(i j:Nat):∀ k,toF (dotN A B i j k)=Lin.fsum k (fun t=>Lin.mu (vec A i t) (vec B t j))
 | 0=>rfl
 | k+1=>by
  show toF (dotN A B i j k ^^^ Gf.mul (Gf.nth (rowOf A i) k) (Gf.nth (rowOf B k) j))=Lin.ad _ _
  rw [toF_ad (dotN_lt A B hA i j k) (Gf.mul_lt (hA i k) _),toF_mu (hA i k) (hB k j),dotN_fsum hA hB i j k]
  rfl
theorem toF_inj {x y:Nat}(hx:x < 256)(hy:y < 256)(h:toF x=toF y):x=y:=by
 have:=congrArg Fin.val h
 rw [toF_val hx,toF_val hy] at this
 exact this
theorem matFn_bytes {r n:Nat}{f:Nat->Nat->Nat}(h:∀ i j,f i j < 256):BytesM (matFn r n f):=fun i=>by
 by_cases hi:i < r
 ·rw [rowOf_matFn r n f i hi];exact rowFn_bytes _ _ (h i)
 ·intro j
  have:rowOf (matFn r n f) i=[]:=by unfold rowOf;rw [List.getD_eq_getElem?_getD,List.getElem?_eq_none (by rw [matFn_length];omega)];rfl
  rw [this]
  show([]:List Nat).getD j 0 < 256
  simp
theorem vec_matFn {r n:Nat}{f:Nat->Nat->Nat}{i j:Nat}(hi:i < r)(hj:j < n):vec (matFn r n f) i j=vecF f i j:=by
 unfold vec vecF
 rw [rowOf_matFn r n f i hi,nth_rowFn _ _ j hj]
theorem isMat_matFn {r n:Nat}{f:Nat->Nat->Nat}(h1:1<=r)(h2:r<=16)(h3:1<=n)(h4:n<=16):IsMat (matFn r n f):=by
 refine⟨by rw [matFn_length];exact h1,by rw [matFn_length];exact h2,fun i hi=>?_⟩
 rw [matFn_length] at hi
 rw [rowOf_matFn r n f i hi,rowOf_matFn r n f 0 (by omega),rowFn_length,rowFn_length]
 exact⟨h3,h4,rfl⟩
theorem prodM_fn (A B:List (List Nat))(m:Nat):prodM A B m=matFn m (rowOf B 0).length (fun i j=>dotN A B i j B.length):=rfl
theorem mat_cells {w:World}{p:Option Addr}{r n:Nat}{f:Nat->Nat->Nat}(h:Mat w p (matFn r n f))(hr:1<=r)(hn:1<=n):∃ b o,p=some ⟨b,o,none⟩/\∀ i,i < r->∃ b1 o1 c,w.cell? ⟨b,o+i,none⟩=some (.slice (some ⟨b1,o1,none⟩) n c)/\∀ j,j < n->w.cell? ⟨b1,o1+j,none⟩=some (.int .u8 ((f i j:Nat):Int)):=by
 have ln:∀ i,i < r->(rowOf (matFn r n f) i).length=n:=fun i hi=>by rw [rowOf_matFn r n f i hi,rowFn_length]
 obtain⟨b,o,_,_,_,hp,_,_,_,_⟩:=h.row (i:=0) (by rw [matFn_length];omega) (by rw [ln 0 (by omega)];omega)
 refine⟨b,o,hp,fun i hi=>?_⟩
 obtain⟨b',o',b1,o1,c,hp',_,_,h1,h2⟩:=h.row (i:=i) (by rw [matFn_length];omega) (by rw [ln i hi];omega)
 rw [hp] at hp'
 injection hp' with hp'
 injection hp' with e1 e2 _
 subst e1 e2
 rw [ln i hi] at h1
 refine⟨b1,o1,c,h1,fun j hj=>?_⟩
 rw [h2 j (by rw [ln i hi];exact hj),rowOf_matFn r n f i hi,nth_rowFn _ _ j hj]
theorem rank_congr {n k d:Nat}{v u:Nat->Nat->Lin.F}(h:Lin.IsRank n k v d)(he:∀ i,i < k->∀ j,j < n->v i j=u i j):Lin.IsRank n k u d:=by
 obtain⟨b,h1,h2,h3⟩:=h
 exact⟨b,h1,fun i hi=>Lin.span_congr (h2 i hi) he (fun _ _=>rfl),fun i hi=>Lin.span_congr (h3 i hi) (fun _ _ _ _=>rfl) (he i hi)⟩
def besideF (M:List (List Nat))(r:Nat):Nat->Nat->Nat:=fun i j=>if j < r then Gf.nth (rowOf M i) j else if i=j - r then 1 else 0
theorem besideF_lt {M:List (List Nat)}(h:BytesM M)(r i j:Nat):besideF M r i j < 256:=by
 unfold besideF
 by_cases e:j < r
 ·rw [if_pos e];exact h i j
 ·by_cases e':i=j - r
  ·rw [if_neg e,if_pos e'];decide
  ·rw [if_neg e,if_neg e'];decide
theorem beside_left (M:List (List Nat))(r i j:Nat)(hj:j < r):vecF (besideF M r) i j=vec M i j:=by
 unfold vecF besideF
 rw [if_pos hj]
 rfl
theorem beside_right (M:List (List Nat))(r i j:Nat):vecF (besideF M r) i (r+j)=Lin.one i j:=by
 unfold vecF besideF Lin.one
 rw [if_neg (by omega),show r+j - r=j by omega]
 by_cases e:i=j
 ·rw [if_pos e,if_pos e];rfl
 ·rw [if_neg e,if_neg e];rfl
def Inverted (w':World)(M:List (List Nat))(z:Addr)(e:Ending):Prop :=
 ∃ d:Nat,Lin.IsRank M.length M.length (vec M) d/\((d < M.length/\e=.returned (.tuple #[.slice none 0 0,.iface 252 (.pointer (some z))])) ∨
  (d=M.length/\∃ (gm:Nat) (x:Nat->Nat->Nat),e=.returned (.tuple #[.slice (some ⟨gm,0,none⟩) M.length M.length,.nilIface])/\Mat w' (some ⟨gm,0,none⟩) (matFn M.length M.length x)/\(∀ i j,x i j < 256)/\∀ i j,i < M.length->j < M.length->Lin.mm M.length (vecF x) (vec M) i j=Lin.one i j))
theorem invert_ok (p:Option Addr)(M:List (List Nat))(cap:Nat)(z:Addr)(w:World)(hM:IsMat M)(hsq:(rowOf M 0).length=M.length)(hb:BytesM M)(h:Mat w p M)
 (hz:w.cell? ⟨11,0,none⟩=some (.iface 252 (.pointer (some z)))) :
 Calls Tryz.prog 114 #[.slice p M.length cap] w fun e w'=>Inverted w' M z e/\Below w.heap.size w w':=by
 have HM:Hid (IsMat M):=hM
 have l1:1<=M.length:=hM.1
 have l2:M.length<=16:=hM.2.1
 have hzl:11 < w.heap.size:=lt_of_cell hz
 have HBY:Hid (BytesM M):=hb
 obtain⟨w1,hw1⟩:∃ w1,w1=w.alloc (.cells #[.slice p M.length cap] 162):=⟨_,rfl⟩
 have hb1:Below w.heap.size w w1:=zBe hw1
 have hs1:w1.heap.size=w.heap.size+1:=by rw [hw1];simp
 have HM1:Hid (Mat w1 p M):=h.below hb1
 have hp1:w1.cell? ⟨w.heap.size,0,none⟩=some (.slice p M.length cap):=zAc hw1 rfl
 have HZ1:Hid (w1.cell? ⟨11,0,none⟩=some (.iface 252 (.pointer (some z)))):=(hb1.cell (p:=⟨11,0,none⟩) hzl).trans hz
 have HB1:Hid (Below w.heap.size w w1):=hb1
 have HROW:Hid (∀ i,i < M.length->(rowOf M i).length=M.length):=fun i hi=>(hM.2.2 i hi).2.2.trans hsq
 obtain⟨b,o,b1,o1,c1,hpe,hbb,_,hc1,_⟩:=HM1.out.row (i:=0) (by omega) (by rw [hsq];omega)
 rw [hsq] at hc1
 have hc0:w1.cell? ⟨b,o,none⟩=some (.slice (some ⟨b1,o1,none⟩) M.length c1):=hc1
 subst hpe
 have HW1:Hid (w1=w.alloc (.cells #[.slice (some ⟨b,o,none⟩) M.length cap] 162)):=hw1
 have i0:0 < M.length:=by omega
 have i1:(0:Int) < (M.length:Int):=by omega
 clear hM hb h hz hb1 hw1 hc1 hsq
 go_enter Tryz.func114,Tryz.ntmps114
 go_wp2_with fail
 rw [<- HW1.out]
 go_quiet ((go_at_call 140;exact Calls.quiet_of_same (check_ok _ M cap _ HM.out (HM1.out.drewN _))))
 obtain⟨w2,hw2⟩:∃ w2,w2=w1.drewN nq:=⟨_,rfl⟩
 have hb2:Below w1.heap.size w1 w2:=by rw [hw2];exact below_drewN (Below.refl _ _) _
 have hs2:w2.heap.size=w1.heap.size:=by rw [hw2];rfl
 rw [<- hw2]
 have hp2:w2.cell? ⟨w.heap.size,0,none⟩=some (.slice (some ⟨b,o,none⟩) M.length cap):=(hb2.cell (p:=⟨w.heap.size,0,none⟩) (by show w.heap.size < _;omega)).trans hp1
 obtain⟨w3,hw3⟩:∃ w3,w3=w2.alloc (.cells #[.int .i64 (M.length:Int)] 3):=⟨_,rfl⟩
 have hb3:Below w1.heap.size w1 w3:=by rw [hw3];exact hb2.alloc (by omega) _
 have hs3:w3.heap.size=w.heap.size+2:=by rw [hw3];simp;omega
 have hS3:w3.cell? ⟨w.heap.size+1,0,none⟩=some (.int .i64 (M.length:Int)):=by rw [hw3,World.cell?_alloc_at _ _ _ _ (by omega)];rfl
 have hp3:w3.cell? ⟨w.heap.size,0,none⟩=some (.slice (some ⟨b,o,none⟩) M.length cap):=(hb3.cell (p:=⟨w.heap.size,0,none⟩) (by show w.heap.size < _;omega)).trans hp1
 have HM3:Hid (Mat w3 (some ⟨b,o,none⟩) M):=HM1.out.below hb3
 have HZ3:Hid (w3.cell? ⟨11,0,none⟩=some (.iface 252 (.pointer (some z)))):=(hb3.cell (p:=⟨11,0,none⟩) (by show 11 < _;omega)).trans HZ1.out
 have HB3:Hid (Below w.heap.size w w3):=HB1.out.trans (hb3.mono (by omega))
 have HCB:Hid (∀ i j,i < M.length->j < 2*M.length->∀ w2,Below w3.heap.size w3 w2->Calls Tryz.prog 142 (#[.int .i64 (i:Int),.int .i64 (j:Int)] ++ #[.pointer (some ⟨w.heap.size+1,0,none⟩),.pointer (some ⟨w.heap.size,0,none⟩)]) w2 fun e w3=>e=.returned (.int .u8 ((besideF M M.length i j:Nat):Int))/\Below w2.heap.size w2 w3):=by
  intro i j hi hj w4 h4
  exact invert1_any (w.heap.size+1) w.heap.size i j M.length cap _ M w4 hi hj (HROW.out i hi) (by omega) ((h4.cell (p:=⟨w.heap.size+1,0,none⟩) (by show w.heap.size+1 < _;omega)).trans hS3) ((h4.cell (p:=⟨w.heap.size,0,none⟩) (by show w.heap.size < _;omega)).trans hp3) (HM3.out.below h4)
 have HW3:Hid (w3=w2.alloc (.cells #[.int .i64 (M.length:Int)] 3)):=hw3
 have hsw:w2.heap.size=w.heap.size+1:=by omega
 clear hw2 hb2 hs2 hw3 hb3 hp1 hc0 hbb
 have HBC:=build_any M.length (2*M.length) (besideF M M.length) 142 #[.pointer (some ⟨w.heap.size+1,0,none⟩),.pointer (some ⟨w.heap.size,0,none⟩)] w3 (by omega) (by omega) (enters_of Tryz.func142 (by kernel_rfl) rfl) HCB.out
 rw [show((2*M.length:Nat):Int)=2*(M.length:Int) by omega] at HBC
 go_wp2_with (go_at_call 141;rw [<- HW3.out];refine HBC.mono ?_;rintro e w4 ⟨⟨gm,gs,rfl,hG4⟩,hb4⟩)
 have HG4:Hid (OwnG w4 w3.heap.size gm gs M.length (2*M.length) (besideF M M.length)):=hG4
 have hgm4:gm < w4.heap.size:=hG4.rows.lt.2
 have hz34:w3.heap.size<=w4.heap.size:=hb4.size
 obtain⟨w5,hw5⟩:∃ w5,w5=w4.alloc (.cells #[.slice (some ⟨gm,0,none⟩) M.length M.length] 162):=⟨_,rfl⟩
 rw [<- hw5]
 have hb5:Below w4.heap.size w4 w5:=zBe hw5
 have hs5:w5.heap.size=w4.heap.size+1:=by rw [hw5];simp
 have hb35:Below w3.heap.size w3 w5:=hb4.trans (hb5.mono hz34)
 have hS5:w5.cell? ⟨w.heap.size+1,0,none⟩=some (.int .i64 (M.length:Int)):=(hb35.cell (p:=⟨w.heap.size+1,0,none⟩) (by show w.heap.size+1 < _;omega)).trans hS3
 have hBo5:w5.cell? ⟨w4.heap.size,0,none⟩=some (.slice (some ⟨gm,0,none⟩) M.length M.length):=zAc hw5 rfl
 have HZ5:Hid (w5.cell? ⟨11,0,none⟩=some (.iface 252 (.pointer (some z)))):=(hb35.cell (p:=⟨11,0,none⟩) (by show 11 < _;omega)).trans HZ3.out
 have HG5:Hid (OwnG w5 w3.heap.size gm gs M.length (2*M.length) (besideF M M.length)):=hG4.below hb5
 have HB5:Hid (Below w.heap.size w w5):=HB3.out.trans (hb35.mono (by omega))
 have HBL:Hid (∀ k,blocksOf gm gs M.length k->w3.heap.size<=k/\k < w4.heap.size):=HG4.out.blocks
 have HRED:Hid (∀ W:World,Below w5.heap.size w5 W->Calls Tryz.prog 144 #[.slice (some ⟨gm,0,none⟩) M.length M.length,.int .i64 (M.length:Int)] W fun e w'=>∃ (d:Nat) (gs':Nat->Nat) (g:Nat->Nat->Nat),e=.returned (.int .i64 (d:Int))/\Frame (blocksOf gm gs M.length) w5 w'/\OwnG w' w3.heap.size gm gs' M.length (2*M.length) g/\(∀ i j,g i j < 256)/\Lin.Red M.length (2*M.length) M.length (vecF (besideF M M.length)) (vecF g) d):=by
  intro W hW
  refine(reduce_any (blocksOf gm gs M.length) w3.heap.size gm gs M.length (2*M.length) M.length (besideF M M.length) z W (by omega) (by omega) (by omega) (besideF_lt HBY.out M.length) (HG5.out.below hW) (Or.inl rfl) (fun i hi=>Or.inr ⟨i,hi,rfl⟩) (fun k hk=>⟨(HBL.out k hk).1,by have:=(HBL.out k hk).2;have:=hW.size;omega⟩) (by omega) ((hW.cell (p:=⟨11,0,none⟩) (by show 11 < _;omega)).trans HZ5.out)).mono ?_
  rintro e w' ⟨hF,d,gs',g,rfl,hG,hl,hR⟩
  exact⟨d,gs',g,rfl,(frame_below hW).trans hF,hG,hl,hR⟩
 have nS:¬ blocksOf gm gs M.length (w.heap.size+1):=fun hk=>by have:=(HBL.out _ hk).1;omega
 have nB:¬ blocksOf gm gs M.length w4.heap.size:=fun hk=>by have:=(HBL.out _ hk).2;omega
 have nE:¬ blocksOf gm gs M.length 11:=fun hk=>by have:=(HBL.out _ hk).1;omega
 have NS:Hid (¬ blocksOf gm gs M.length (w.heap.size+1)):=nS
 have NB:Hid (¬ blocksOf gm gs M.length w4.heap.size):=nB
 have NE:Hid (¬ blocksOf gm gs M.length 11):=nE
 clear nS nB nE hw5 hb5 hb35 hb4 hG4 HG4 hS3 hp2 hp3 HBC HCB
 go_cut [30] from 26 to 30 (fun v wc=>∃ (d:Nat) (gs':Nat->Nat) (g:Nat->Nat->Nat),v=.bool (decide (d < M.length))/\Frame (blocksOf gm gs M.length) w5 wc/\OwnG wc w3.heap.size gm gs' M.length (2*M.length) g/\(∀ i j,g i j < 256)/\Lin.Red M.length (2*M.length) M.length (vecF (besideF M M.length)) (vecF g) d)
 case first =>
  go_region_with (go_at_call 144;refine(HRED.out _ (by first | exact(Below.refl _ _).drew | exact Below.refl _ _)).mono ?_;rintro e w6 ⟨d,gs',g,rfl,hF,hG,hl,hR⟩;have hS6:=hF.cell hS5 NS.out)
  all_goals (go_wp2_with fail;go_meet)
  all_goals exact⟨d,gs',g,rfl,hF,hG,hl,hR⟩
 case rest =>
  obtain⟨d,gs',g,rfl,hF6,hG6,hl6,hR6⟩:=hcut
  have HF6:Hid (Frame (blocksOf gm gs M.length) w5 wc):=hF6
  have HG6:Hid (OwnG wc w3.heap.size gm gs' M.length (2*M.length) g):=hG6
  have HL6:Hid (∀ i j,g i j < 256):=hl6
  have HR6:Hid (Lin.Red M.length (2*M.length) M.length (vecF (besideF M M.length)) (vecF g) d):=hR6
  have HRK:Hid (Lin.IsRank M.length M.length (vec M) d):=rank_congr (hR6.rank (by omega)) (fun i _ j hj=>beside_left M M.length i j hj)
  have hz6:wc.cell? ⟨11,0,none⟩=some (.iface 252 (.pointer (some z))):=hF6.cell HZ5.out NE.out
  have hS6:wc.cell? ⟨w.heap.size+1,0,none⟩=some (.int .i64 (M.length:Int)):=hF6.cell hS5 NS.out
  have hBo6:wc.cell? ⟨w4.heap.size,0,none⟩=some (.slice (some ⟨gm,0,none⟩) M.length M.length):=hF6.cell hBo5 NB.out
  have hs56:w5.heap.size<=wc.heap.size:=hF6.size
  have HB6:Hid (Below w.heap.size w wc):=HB5.out.trans ((hF6.below (fun k hk=>(HBL.out k hk).1) (by omega)).mono (by omega))
  have hdle:d<=M.length:=hR6.le
  clear hF6 hG6 hl6 hR6
  by_cases hd:d < M.length
  ·have HD:Hid (d < M.length):=hd
   rw [decide_eq_true hd]
   clear hd
   go_wp2
   go_quiet (fail)
   go_wp2
   go_ret2
   exact⟨⟨d,HRK.out,Or.inl ⟨HD.out,rfl⟩⟩,below_drewN HB6.out _⟩
  ·have hde:d=M.length:=by omega
   have HD:Hid (d=M.length):=hde
   have HRI:Hid (Lin.Red M.length (2*M.length) M.length (vecF (besideF M M.length)) (vecF g) M.length):=by have:=HR6.out;rw [hde] at this;exact this
   rw [decide_eq_false hd]
   clear hd hde hz6
   have HCB:Hid (∀ i j,i < M.length->j < M.length->∀ w2,Below wc.heap.size wc w2->Calls Tryz.prog 145 (#[.int .i64 (i:Int),.int .i64 (j:Int)] ++ #[.pointer (some ⟨w4.heap.size,0,none⟩),.pointer (some ⟨w.heap.size+1,0,none⟩)]) w2 fun e w3=>e=.returned (.int .u8 ((g i (M.length+j):Nat):Int))/\Below w2.heap.size w2 w3):=by
    intro i j hi hj w7 h7
    have hG7:=HG6.out.below h7
    refine invert2_any w4.heap.size (w.heap.size+1) i j M.length gm M.length (2*M.length) gs' (g i (M.length+j)) w7 hi (by omega) (by omega) ((h7.cell (p:=⟨w4.heap.size,0,none⟩) (by show w4.heap.size < _;omega)).trans hBo6) ((h7.cell (p:=⟨w.heap.size+1,0,none⟩) (by show w.heap.size+1 < _;omega)).trans hS6) (hG7.rows.cell i hi) ?_
    rw [(hG7.all.row i hi).cell (M.length+j) (by omega) (rowFn_length _ _),nth_rowFn _ _ _ (by omega)]
   go_wp2_with (go_at_call 141;refine(build_any M.length M.length (fun i j=>g i (M.length+j)) 145 #[.pointer (some ⟨w4.heap.size,0,none⟩),.pointer (some ⟨w.heap.size+1,0,none⟩)] wc (by omega) (by omega) (enters_of Tryz.func145 (by kernel_rfl) rfl) HCB.out).mono ?_;rintro e w8 ⟨⟨gm',gs8,rfl,hG8⟩,hb8⟩)
   go_ret2
   refine⟨⟨d,HRK.out,Or.inr ⟨HD.out,gm',fun i j=>g i (M.length+j),rfl,hG8.mat (fun i j=>HL6.out _ _) M.length (Nat.le_refl _),fun i j=>HL6.out _ _,?_⟩⟩,HB6.out.trans (hb8.mono (by omega))⟩
   exact HRI.out.inverse (fun i j _ hj=>beside_left M M.length i j hj) (fun i j _ _=>beside_right M M.length i j)
theorem nth_upTo (k r:Nat)(h:r < k):Gf.nth (upToL k) r=r:=by
 rw [Gf.nth_getElem _ r (by rw [upToL_length];exact h)]
 simp [upToL]
theorem vander_indep (k:Nat)(hk:k<=256):Lin.Indep k k (vecF Gf.rep):=by
 have h:=powers_indep (upToL k) (upToL_bytes k hk) (upToL_nodup k)
 rw [upToL_length] at h
 intro c hc
 refine h c (fun j hj=>?_)
 rw [<- hc j hj]
 exact Lin.fsum_congr fun r hr=>by
  show Lin.mu (c r) (toF (Gf.rep (Gf.nth (upToL k) r) j))=_
  rw [nth_upTo k r hr]
  rfl
theorem rank_of_indep {n:Nat}{v:Nat->Nat->Lin.F}(h:Lin.Indep n n v):Lin.IsRank n n v n:=⟨v,h,fun _ hi=>Lin.span_self v hi,fun _ hi=>Lin.span_self v hi⟩
theorem rep_bytes:∀ i j,Gf.rep i j < 256:=fun i j=>Gf.rep_lt i j
theorem spread_values (n k:Nat)(hn:n<=12)(hkn:k<=n)(x:Nat->Nat->Nat)(hx:∀ i j,x i j < 256)(hinv:∀ i j,i < k->j < k->Lin.mm k (vecF x) (vecF Gf.rep) i j=Lin.one i j)(i j:Nat)(hi:i < n)(hj:j < k) :
 dotN (matFn n k Gf.rep) (matFn k k x) i j k=Gf.shareOf (upToL k) j i:=by
 refine toF_inj (dotN_lt _ _ (matFn_bytes rep_bytes) i j k) (Gf.shareOf_lt _ _ _) ?_
 rw [dotN_fsum (matFn_bytes rep_bytes) (matFn_bytes hx)]
 have e1:Lin.fsum k (fun t=>Lin.mu (vec (matFn n k Gf.rep) i t) (vec (matFn k k x) t j))=Lin.mm k (fun i t=>toF (Gf.rep i t)) (vecF x) i j:=Lin.fsum_congr fun t ht=>by rw [vec_matFn hi ht,vec_matFn ht hj];rfl
 rw [e1]
 have hr:=Lin.right_of_left hinv
 have e2:∀ m,m < k->toF (Gf.rep i m)=Lin.mm k (fun i j=>toF (Gf.shareOf (upToL k) j i)) (vecF Gf.rep) i m:=fun m hm=>by
  have:=shares_times_powers (upToL k) (upToL_bytes k (by omega)) (upToL_nodup k) i m (by omega) (by rw [upToL_length];exact hm)
  rw [upToL_length] at this
  rw [<- this]
  exact Lin.fsum_congr fun t ht=>by rw [nth_upTo k t ht];rfl
 have e3:Lin.mm k (fun i t=>toF (Gf.rep i t)) (vecF x) i j=Lin.mm k (Lin.mm k (fun i j=>toF (Gf.shareOf (upToL k) j i)) (vecF Gf.rep)) (vecF x) i j:=Lin.mm_congr k (fun m hm=>e2 m hm) (fun _ _=>rfl)
 rw [e3,Lin.mm_assoc]
 have e4:Lin.mm k (fun i j=>toF (Gf.shareOf (upToL k) j i)) (Lin.mm k (vecF Gf.rep) (vecF x)) i j=Lin.mm k (fun i j=>toF (Gf.shareOf (upToL k) j i)) Lin.one i j:=Lin.mm_congr k (fun _ _=>rfl) (fun m hm=>hr m j hm hj)
 rw [e4,Lin.mm_one k _ i j hj]
theorem spread_prod (n k:Nat)(hk1:1<=k)(hn:n<=12)(hkn:k<=n)(x:Nat->Nat->Nat)(hx:∀ i j,x i j < 256)(hinv:∀ i j,i < k->j < k->Lin.mm k (vecF x) (vecF Gf.rep) i j=Lin.one i j) :
 prodM (matFn n k Gf.rep) (matFn k k x) n=spreadM k n:=by
 rw [prodM_fn,rowOf_matFn k k x 0 (by omega),rowFn_length,matFn_length]
 unfold matFn spreadM
 refine List.map_congr_left fun i hi=>?_
 exact rowFn_congr k _ _ (fun j hj=>spread_values n k hn hkn x hx hinv i j (List.mem_range.1 hi) hj)
theorem spread_ok (n k:Nat)(z:Addr)(w:World)(hk1:1<=k)(hkn:k<=n)(hn:n<=12)(hz:w.cell? ⟨11,0,none⟩=some (.iface 252 (.pointer (some z)))) :
 Calls Tryz.prog 137 #[.int .i64 (n:Int),.int .i64 (k:Int)] w fun e w'=>(∃ gm,e=.returned (.tuple #[.slice (some ⟨gm,0,none⟩) n n,.nilIface])/\Mat w' (some ⟨gm,0,none⟩) (spreadM k n))/\Below w.heap.size w w':=by
 have HP:=powers_ok n k w hk1 hkn hn
 have HZ:Hid (w.cell? ⟨11,0,none⟩=some (.iface 252 (.pointer (some z)))):=hz
 clear hz
 go_enter Tryz.func137,Tryz.ntmps137
 go_wp2_with fail
 refine HP.mono ?_
 rintro e w1 ⟨⟨gm,gs,rfl,hG⟩,hb1⟩
 have HA1:Hid (Mat w1 (some ⟨gm,0,none⟩) (matFn n k Gf.rep)):=hG.mat rep_bytes n (Nat.le_refl _)
 have HK1:Hid (Mat w1 (some ⟨gm,0,none⟩) (matFn k k Gf.rep)):=hG.mat rep_bytes k hkn
 have HZ1:Hid (w1.cell? ⟨11,0,none⟩=some (.iface 252 (.pointer (some z)))):=(hb1.cell (p:=⟨11,0,none⟩) (lt_of_cell HZ.out)).trans HZ.out
 have HB1:Hid (Below w.heap.size w w1):=hb1
 clear hG hb1 HP HZ
 have HI:=invert_ok (some ⟨gm,0,none⟩) (matFn k k Gf.rep) n z w1 (isMat_matFn hk1 (by omega) hk1 (by omega)) (by rw [rowOf_matFn k k Gf.rep 0 (by omega),rowFn_length,matFn_length]) (matFn_bytes rep_bytes) HK1.out HZ1.out
 unfold Inverted at HI
 rw [matFn_length] at HI
 go_wp2_with fail
 refine HI.mono ?_
 rintro e w2 ⟨⟨d,hd,hcase⟩,hb2⟩
 have hdk:d=k:=Lin.rank_unique hd (rank_congr (rank_of_indep (vander_indep k (by omega))) (fun i hi j hj=>(vec_matFn hi hj).symm))
 rcases hcase with ⟨hlt,_⟩ | ⟨_,g2,x,rfl,hm2,hx,hinv⟩
 ·omega
 ·have HB2:Hid (Below w.heap.size w w2):=HB1.out.trans (hb2.mono HB1.out.size)
  have hs2:w.heap.size<=w2.heap.size:=HB2.out.size
  have HT:=mtimes_ok (some ⟨gm,0,none⟩) (some ⟨g2,0,none⟩) (matFn n k Gf.rep) (matFn k k x) n k w2 (isMat_matFn (by omega) (by omega) hk1 (by omega)) (isMat_matFn hk1 (by omega) hk1 (by omega)) (by rw [rowOf_matFn n k Gf.rep 0 (by omega),rowFn_length,matFn_length]) (matFn_bytes rep_bytes) (matFn_bytes hx) (HA1.out.below hb2) hm2
  rw [matFn_length,matFn_length,spread_prod n k hk1 hn hkn x hx (fun i j hi hj=>by
   rw [<- hinv i j hi hj]
   exact Lin.mm_congr k (fun _ _=>rfl) (fun t ht=>(vec_matFn ht hj).symm))] at HT
  clear hd hdk hm2 hinv hb2 HI HK1 HA1 HZ1
  go_wp2_with fail
  refine HT.mono ?_
  rintro e w3 ⟨⟨g3,rfl,hm3⟩,hb3⟩
  clear HT
  go_wp2
  go_ret2
  exact⟨⟨g3,rfl,hm3⟩,HB2.out.trans (hb3.mono hs2)⟩
def sprRow (k x:Nat):List Nat:=rowFn k fun j=>Gf.shareOf (upToL k) j x
theorem spread_rows {w:World}{gm n k:Nat}(h:Mat w (some ⟨gm,0,none⟩) (spreadM k n))(hn:1<=n)(hk:1<=k):∃ rb ro rc:Nat->Nat,gm < w.heap.size/\∀ i,i < n->w.cell? ⟨gm,i,none⟩=some (.slice (some ⟨rb i,ro i,none⟩) k (rc i))/\Seg w (some ⟨rb i,ro i,none⟩) (sprRow k i):=by
 have hf:spreadM k n=matFn n k (fun i j=>Gf.shareOf (upToL k) j i):=rfl
 have h1:∀ i,i < n->∃ b1 o1 c,w.cell? ⟨gm,i,none⟩=some (.slice (some ⟨b1,o1,none⟩) k c)/\Seg w (some ⟨b1,o1,none⟩) (sprRow k i):=fun i hi=>by
  rw [hf] at h
  have hr:rowOf (matFn n k fun i j=>Gf.shareOf (upToL k) j i) i=sprRow k i:=rowOf_matFn n k _ i hi
  obtain⟨b,o,b1,o1,c,hp,_,hb1,h2,h3⟩:=h.row (i:=i) (by rw [matFn_length];exact hi) (by rw [hr];unfold sprRow;rw [rowFn_length];omega)
  injection hp with hp
  injection hp with e1 e2 _
  subst e1 e2
  rw [hr] at h2 h3
  have hl:(sprRow k i).length=k:=rowFn_length _ _
  rw [hl,Nat.zero_add] at h2
  exact⟨b1,o1,c,h2,⟨rowFn_bytes _ _ (fun j=>Gf.shareOf_lt _ _ _),Or.inr ⟨b1,o1,rfl,hb1,h3⟩⟩⟩
 have h2:∀ i,∃ t:Nat×Nat×Nat,i < n->w.cell? ⟨gm,i,none⟩=some (.slice (some ⟨t.1,t.2.1,none⟩) k t.2.2)/\Seg w (some ⟨t.1,t.2.1,none⟩) (sprRow k i):=fun i=>by
  by_cases hi:i < n
  ·obtain⟨b1,o1,c,h3⟩:=h1 i hi
   exact⟨(b1,o1,c),fun _=>h3⟩
  ·exact⟨(0,0,0),fun h=>absurd h hi⟩
 refine⟨fun i=>(Classical.choose (h2 i)).1,fun i=>(Classical.choose (h2 i)).2.1,fun i=>(Classical.choose (h2 i)).2.2,?_,fun i hi=>Classical.choose_spec (h2 i) hi⟩
 obtain⟨_,_,_,h3,_⟩:=h1 0 (by omega)
 exact lt_of_cell h3
theorem picked_isMat {k:Nat}{X:List Nat}(hk1:1<=k)(hk:k<=12)(hX:X.length=k):IsMat (X.map (sprRow k)):=by
 have hl:∀ i,i < X.length->(rowOf (X.map (sprRow k)) i).length=k:=fun i hi=>by
  unfold rowOf
  rw [List.getD_eq_getElem?_getD,List.getElem?_map,List.getElem?_eq_getElem hi]
  exact rowFn_length _ _
 refine⟨by rw [List.length_map];omega,by rw [List.length_map];omega,fun i hi=>?_⟩
 rw [List.length_map] at hi
 rw [hl i hi,hl 0 (by omega)]
 exact⟨hk1,by omega,rfl⟩
theorem picked_bytes (k:Nat)(X:List Nat):BytesM (X.map (sprRow k)):=fun i=>by
 by_cases hi:i < X.length
 ·have:rowOf (X.map (sprRow k)) i=sprRow k X[i]:=by unfold rowOf;rw [List.getD_eq_getElem?_getD,List.getElem?_map,List.getElem?_eq_getElem hi];rfl
  rw [this]
  exact rowFn_bytes _ _ (fun j=>Gf.shareOf_lt _ _ _)
 ·intro j
  have:rowOf (X.map (sprRow k)) i=[]:=by unfold rowOf;rw [List.getD_eq_getElem?_getD,List.getElem?_eq_none (by rw [List.length_map];omega)];rfl
  rw [this]
  show([]:List Nat).getD j 0 < 256
  simp
theorem picked_rank {n k:Nat}{X:List Nat}(hn:n<=12)(hX:X.length=k)(hnd:X.Nodup)(hlt:∀ x ∈ X,x < n)(hk:k<=n):Lin.IsRank k k (vec (X.map (sprRow k))) k:=by
 have hb:Gf.Bytes X:=fun i=>by
  by_cases hi:i < X.length
  ·rw [Gf.nth_getElem X i hi];have:=hlt _ (List.getElem_mem hi);omega
  ·show X.getD i 0 < 256
   rw [List.getD_eq_getElem?_getD,List.getElem?_eq_none (by omega)];decide
 have h:=shares_indep (upToL k) X (upToL_bytes k (by omega)) (upToL_nodup k) hb hnd (by rw [upToL_length];exact hX)
 rw [upToL_length,hX] at h
 refine rank_of_indep ?_
 intro c hc
 refine h c (fun j hj=>?_)
 rw [<- hc j hj]
 refine Lin.fsum_congr fun r hr=>?_
 have hr':r < X.length:=by omega
 have e1:rowOf (X.map (sprRow k)) r=sprRow k X[r]:=by unfold rowOf;rw [List.getD_eq_getElem?_getD,List.getElem?_map,List.getElem?_eq_getElem hr'];rfl
 show Lin.mu (c r) (toF (Gf.shareOf (upToL k) j (Gf.nth X r)))=Lin.mu (c r) (toF (Gf.nth (rowOf (X.map (sprRow k)) r) j))
 rw [e1,Gf.nth_getElem X r hr']
 unfold sprRow
 rw [nth_rowFn _ _ j hj]
def rsumN (f val:Nat->Nat->Nat)(i c:Nat):Nat->Nat
 | 0=>0
 | j+1=>rsumN f val i c j ^^^ Gf.mul (f i j) (val j c)
def rowT (f val:Nat->Nat->Nat)(k wd i:Nat):List Nat:=rowFn wd fun c=>rsumN f val i c k
theorem rsumN_lt {f val:Nat->Nat->Nat}(hf:∀ i j,f i j < 256)(i c:Nat):∀ j,rsumN f val i c j < 256
 | 0=>by show 0 < 256;decide
 | j+1=>Gf.xlt (rsumN_lt hf i c j) (Gf.mul_lt (hf _ _) _)
theorem strinfo:(Tryz.prog.info? 9).map (fun i=>(i.zero,i.size,i.bytes))=some (some (.string ⟨#[]⟩),1,16):=by kernel_rfl
theorem rowIs_below {w w':World}{b:Nat}{t:TypeId}{n:Nat}{f:Nat->Value}(h:w.rowIs b t n f)(hb:Below w.heap.size w w'):w'.rowIs b t n f:=h.of_block (hb.block _ h.lt)
def Tells (w:World)(fn:FuncId)(caps:Array Value)(val:Nat->Nat->Nat)(k wd:Nat):Prop :=
 ∀ j c,j < k->c < wd->∀ w1,Below w.heap.size w w1->Calls Tryz.prog fn (#[.int .i64 (j:Int),.int .i64 (c:Int)] ++ caps) w1 fun e w2=>e=.returned (.int .u8 ((val j c:Nat):Int))/\w2=w1
theorem rows_any (p:Option Addr)(r k wd cap:Nat)(f val:Nat->Nat->Nat)(fn:FuncId)(caps:Array Value)(w:World)(hr1:1<=r)(hr:r<=1000)(hk1:1<=k)(hk:k<=1000)(hwd:wd<=100000)
 (hf:∀ i j,f i j < 256) (hv:∀ j c,val j c < 256) (hm:Mat w p (matFn r k f)) (hent:∀ args W,Sem.run Tryz.prog (callFunc fn args) W=.ok (.enter fn args) W) (hc:Tells w fn caps val k wd) :
 Calls Tryz.prog 115 #[.slice p r cap,.int .i64 (wd:Int),.func (.func fn) #[] caps] w fun e w'=>e=.returned (.slice (some ⟨w.heap.size,0,none⟩) r r)/\w'.rowIs w.heap.size 9 r (fun i=>.string (strOf (rowT f val k wd i)))/\Below w.heap.size w w':=by
 obtain⟨b,o,rfl,hrows⟩:=mat_cells hm hr1 hk1
 have hbl:∀ i,i < r->∃ b1 o1 c,b < w.heap.size/\b1 < w.heap.size/\w.cell? ⟨b,o+i,none⟩=some (.slice (some ⟨b1,o1,none⟩) k c)/\∀ j,j < k->w.cell? ⟨b1,o1+j,none⟩=some (.int .u8 ((f i j:Nat):Int)):=fun i hi=>by
  obtain⟨b1,o1,c,h1,h2⟩:=hrows i hi
  exact⟨b1,o1,c,lt_of_cell h1,lt_of_cell (h2 0 (by omega)),h1,h2⟩
 have HR:Hid (∀ i,i < r->∃ b1 o1 c,b < w.heap.size/\b1 < w.heap.size/\w.cell? ⟨b,o+i,none⟩=some (.slice (some ⟨b1,o1,none⟩) k c)/\∀ j,j < k->w.cell? ⟨b1,o1+j,none⟩=some (.int .u8 ((f i j:Nat):Int))):=hbl
 have HC:Hid (Tells w fn caps val k wd):=hc
 have HF:Hid (∀ i j,f i j < 256):=hf
 have HV:Hid (∀ j c,val j c < 256):=hv
 obtain⟨i0,hi0,hz0,hz1,hzb⟩:=info_parts u8info
 obtain⟨i1,hi1,hy0,hy1,hyb⟩:=info_parts strinfo
 have hmk:∀ W:World,Sem.run Tryz.prog (Instr.makeSlice 22 (.int .i64 (r:Int)) (.int .i64 (r:Int))) W=.ok (.slice (some ⟨W.heap.size,0,none⟩) r r) (W.alloc (.cells (madeCells #[.string ⟨#[]⟩] r) 9)):=fun W=>run_make_row (P:=Tryz.prog) 22 9 i1 (.string ⟨#[]⟩) Tryz.underlying22 hi1 hy0 hy1 rfl .i64 .i64 r (by rw [hyb];omega) (by omega) W
 have hmk2:∀ W:World,Sem.run Tryz.prog (Instr.makeSlice 138 (.int .i64 (wd:Int)) (.int .i64 (wd:Int))) W=.ok (.slice (some ⟨W.heap.size,0,none⟩) wd wd) (W.alloc (.cells (madeCells #[byteV 0] wd) 5)):=fun W=>run_make_row (P:=Tryz.prog) 138 5 i0 (byteV 0) Tryz.underlying138 hi0 hz0 hz1 rfl .i64 .i64 wd (by rw [hzb];omega) (by omega) W
 clear hm hrows hbl hc hf hv hi0 hz0 hz1 hzb hi1 hy0 hy1 hyb
 go_enter Tryz.func115,Tryz.ntmps115
 go_wp2
 have hS0:(w.alloc (.cells (madeCells #[.string ⟨#[]⟩] r) 9)).rowIs w.heap.size 9 r (fun _=>.string ⟨#[]⟩):=World.rowIs_made w _ r _
 have hB0:Below w.heap.size w (w.alloc (.cells (madeCells #[.string ⟨#[]⟩] r) 9)):=(Below.refl _ _).alloc (Nat.le_refl _) _
 generalize w.alloc (.cells (madeCells #[.string ⟨#[]⟩] r) 9)=w0 at hS0 hB0 ⊢
 have HS0:Hid (w0.rowIs w.heap.size 9 r (fun _=>.string ⟨#[]⟩)):=hS0
 have HB0:Hid (Below w.heap.size w w0):=hB0
 clear hS0 hB0
 go_loopw [19] (fun x wr=>∃ i:Nat,i<=r/\x=.int .i64 i/\wr.rowIs w.heap.size 9 r (fun q=>if q < i then .string (strOf (rowT f val k wd q)) else .string ⟨#[]⟩)/\Below w.heap.size w wr) (fun x _=>r - (intOf x).toNat)
 case atStart=>exact⟨0,by omega,rfl,HS0.out.congr (fun q _=>by simp),HB0.out⟩
 case round =>
  obtain⟨i,hi,rfl,hS,hB⟩:=hrel
  obtain⟨w3,rfl⟩:∃ w3,w3=wr:=⟨_,rfl⟩
  have HS:Hid (w3.rowIs w.heap.size 9 r (fun q=>if q < i then .string (strOf (rowT f val k wd q)) else .string ⟨#[]⟩)):=hS
  have HB:Hid (Below w.heap.size w w3):=hB
  have hgt:w.heap.size < w3.heap.size:=hS.lt
  clear hS hB HS0 HB0
  by_cases hil:i < r
  ·obtain⟨b1,o1,c1,hb,hb1,hcM,hdM⟩:=HR.out i hil
   have HD:Hid (∀ j,j < k->w.cell? ⟨b1,o1+j,none⟩=some (.int .u8 ((f i j:Nat):Int))):=hdM
   have q0:w3.cell? ⟨b,o+i,none⟩=some (.slice (some ⟨b1,o1,none⟩) k c1):=(HB.out.cell (p:=⟨b,o+i,none⟩) hb).trans hcM
   clear hdM hcM
   go_wp2
   have hmkN:OwnN (w3.alloc (.cells (madeCells #[byteV 0] wd) 5)) w3.heap.size 5 w3.heap.size wd (rowFn wd (fun c=>if c < 0 then rsumN f val i c k else 0)):=by
    have:=OwnN.made w3 w3.heap.size 5 wd (Nat.le_refl _) (by omega)
    rw [rowFn_congr wd _ (fun c=>if c < 0 then rsumN f val i c k else 0) (fun c _=>by rw [if_neg (Nat.not_lt_zero _)])] at this
    exact this
   have hbk:Below w3.heap.size w3 (w3.alloc (.cells (madeCells #[byteV 0] wd) 5)):=(Below.refl _ _).alloc (Nat.le_refl _) _
   generalize w3.alloc (.cells (madeCells #[byteV 0] wd) 5)=w4 at hmkN hbk ⊢
   have HMK:Hid (OwnN w4 w3.heap.size 5 w3.heap.size wd (rowFn wd (fun c=>if c < 0 then rsumN f val i c k else 0))):=hmkN
   have HBK:Hid (Below w3.heap.size w3 w4):=hbk
   clear hmkN hbk q0
   go_loopw [28] (fun x wq=>∃ c:Nat,c<=wd/\x=.int .i64 c/\OwnN wq w3.heap.size 5 w3.heap.size wd (rowFn wd (fun d=>if d < c then rsumN f val i d k else 0))/\Below w3.heap.size w3 wq) (fun x _=>wd - (intOf x).toNat)
   case atStart=>exact⟨0,by omega,rfl,HMK.out,HBK.out⟩
   case round =>
    obtain⟨c,hc,rfl,hON,hBq⟩:=hrel
    obtain⟨w5,rfl⟩:∃ w5,w5=wr:=⟨_,rfl⟩
    have HON:Hid (OwnN w5 w3.heap.size 5 w3.heap.size wd (rowFn wd (fun d=>if d < c then rsumN f val i d k else 0))):=hON
    have HBq:Hid (Below w3.heap.size w3 w5):=hBq
    clear hON hBq HMK HBK
    by_cases hcl:c < wd
    ·go_wp2
     go_loopw [33] (fun x wq=>∃ j:Nat,j<=k/\x=.int .i64 j/\OwnN wq w3.heap.size 5 w3.heap.size wd (rowFn wd (fun d=>if d < c then rsumN f val i d k else if d=c then rsumN f val i c j else 0))/\Below w3.heap.size w3 wq) (fun x _=>k - (intOf x).toNat)
     case atStart =>
      refine⟨0,by omega,rfl,?_,HBq.out⟩
      rw [rowFn_congr wd _ (fun d=>if d < c then rsumN f val i d k else 0) (fun d _=>by by_cases e:d=c <;> simp [e,rsumN])]
      exact HON.out
     case round =>
      obtain⟨j,hjk,rfl,hON2,hBq2⟩:=hrel
      obtain⟨w6,rfl⟩:∃ w6,w6=wr:=⟨_,rfl⟩
      have HON2:Hid (OwnN w6 w3.heap.size 5 w3.heap.size wd (rowFn wd (fun d=>if d < c then rsumN f val i d k else if d=c then rsumN f val i c j else 0))):=hON2
      have HBq2:Hid (Below w3.heap.size w3 w6):=hBq2
      clear hON2 hBq2 HON HBq
      by_cases hjl:j < k
      ·have q2:w6.cell? ⟨b1,o1+j,none⟩=some (.int .u8 ((f i j:Nat):Int)):=(HBq2.out.cell (p:=⟨b1,o1+j,none⟩) (by show b1 < _;omega)).trans ((HB.out.cell (p:=⟨b1,o1+j,none⟩) hb1).trans (HD.out j hjl))
       have q5:w6.cell? ⟨w3.heap.size,c,none⟩=some (.int .u8 ((rsumN f val i c j:Nat):Int)):=by rw [HON2.out.cell c hcl (rowFn_length _ _),nth_rowFn _ _ c hcl,if_neg (Nat.lt_irrefl _),if_pos rfl]
       have q6:w6.frozen? ⟨w3.heap.size,c,none⟩=false:=HON2.out.free c
       have lx:=HF.out i j
       have ly:=HV.out j c
       have ls:rsumN f val i c j < 256:=rsumN_lt HF.out i c j
       have lm:=Gf.mul_lt lx (val j c)
       have HX:Hid (rsumN f val i c (j+1)=rsumN f val i c j ^^^ Gf.mul (f i j) (val j c)):=by show _=_;rfl
       have hcall:=HC.out j c hjl hcl (w6.drewN 1) (below_drewN (HB.out.trans (HBq2.out.mono (by omega))) 1)
       have n2:w3.heap.size≠b1:=by omega
       have HON2':Hid (OwnN w6 w3.heap.size 5 w3.heap.size wd (rowFn wd (fun d=>if d < c then rsumN f val i d k else if d=c then rsumN f val i c j else 0))):=HON2.out
       generalize rsumN f val i c j=sacc at q5 ls HX HON2'
       generalize f i j=x at q2 lx lm HX
       generalize val j c=y at ly lm HX hcall
       have HCALL:Hid (Calls Tryz.prog fn (#[.int .i64 (j:Int),.int .i64 (c:Int)] ++ caps) (w6.drewN 1) fun e w2=>e=.returned (.int .u8 ((y:Nat):Int))/\w2=w6.drewN 1):=hcall
       clear hcall
       go_wp2
       refine wp_region_still_tail 14 (by kernel_rfl) (by kernel_rfl) ?_
       simp only [List.take_succ_cons,List.take_zero,List.drop_succ_cons,List.drop_zero]
       repeat still_step
       still_call (HCALL.out)
       still_call (mul_any x y _ lx ly)
       still_call (add_any sacc (Gf.mul x y) _ ls lm)
       repeat still_step
       refine wpStill_nil ?_
       have HO7:Hid (OwnN (w6.drewN 1) w3.heap.size 5 w3.heap.size wd (rowFn wd (fun d=>if d < c then rsumN f val i d k else if d=c then sacc else 0))):=HON2'.out.drewN 1
       have HB7:Hid (Below w3.heap.size w3 (w6.drewN 1)):=below_drewN HBq2.out 1
       have q5':(w6.drewN 1).cell? ⟨w3.heap.size,c,none⟩=some (.int .u8 (sacc:Int)):=q5
       have q6':(w6.drewN 1).frozen? ⟨w3.heap.size,c,none⟩=false:=q6
       change wpList _ _ _ _ _ (w6.drewN 1)
       generalize w6.drewN 1=w7 at HO7 HB7 q5' q6' ⊢
       clear q2 q5 q6 HON2 HON2' HBq2 HCALL
       go_wp2
       go_roundw
       case rel =>
        refine⟨j+1,by omega,by go_num,?_,HB7.out.setCell (Nat.le_refl _) _⟩
        have:=HO7.out.set c (sacc ^^^ Gf.mul x y)
        rw [rowFn_congr wd (fun d=>if d < c then rsumN f val i d k else if d=c then rsumN f val i c (j+1) else 0) (fun d=>if d=c then sacc ^^^ Gf.mul x y else if d < c then rsumN f val i d k else if d=c then sacc else 0) (fun d _=>by
         by_cases e:d=c
         ·subst e;rw [if_neg (Nat.lt_irrefl _),if_pos rfl,if_pos rfl,HX.out]
         ·rw [if_neg e,if_neg e,if_neg e])]
        exact this
       case measure=>simp [intOf];omega
      ·have hke:j=k:=by omega
       subst hke
       go_wp2
       go_roundw
       case rel =>
        refine⟨c+1,by omega,by go_num,?_,HBq2.out⟩
        rw [rowFn_congr wd _ (fun d=>if d < c then rsumN f val i d j else if d=c then rsumN f val i c j else 0) (fun d _=>by
         by_cases e:d < c
         ·rw [if_pos (by omega),if_pos e]
         ·by_cases e':d=c
          ·subst e';rw [if_pos (by omega),if_neg e,if_pos rfl]
          ·rw [if_neg (by omega),if_neg e,if_neg e'])]
        exact HON2.out
       case measure=>simp [intOf];omega
    ·have hce:c=wd:=by omega
     subst hce
     have hN5:OwnN w5 w3.heap.size 5 w3.heap.size c (rowT f val k c i):=by
      unfold rowT
      rw [rowFn_congr c _ (fun d=>if d < c then rsumN f val i d k else 0) (fun d hd=>by rw [if_pos hd])]
      exact HON.out
     have hcv:Sem.run Tryz.prog (convert 138 9 (.slice (some ⟨w3.heap.size,0,none⟩) c c)) w5=.ok (.string (strOf (rowT f val k c i))) w5:=by
      have hsg:Seg w5 (some ⟨w3.heap.size,0,none⟩) (rowT f val k c i):=⟨rowFn_bytes _ _ (fun d=>rsumN_lt HF.out _ _ _),Or.inr ⟨w3.heap.size,0,rfl,hN5.lt.2,fun d hd=>by
       have hd':d < c:=by unfold rowT at hd;rw [rowFn_length] at hd;exact hd
       rw [Nat.zero_add]
       exact hN5.cell d hd' (rowFn_length _ _)⟩⟩
      have:=conv_seg hsg c
      rw [show(rowT f val k c i).length=c from rowFn_length _ _] at this
      exact this
     have hS5:=rowIs_below HS.out HBq.out
     have qs:w5.cell? ⟨w.heap.size,i,none⟩=some (.string ⟨#[]⟩):=by rw [hS5.cell hil,if_neg (Nat.lt_irrefl _)]
     have qf:w5.frozen? ⟨w.heap.size,i,none⟩=false:=hS5.frozen i
     have HS5:Hid (w5.rowIs w.heap.size 9 r (fun q=>if q < i then .string (strOf (rowT f val k c q)) else .string ⟨#[]⟩)):=hS5
     have HB5:Hid (Below w.heap.size w w5):=HB.out.trans (HBq.out.mono (by omega))
     clear hN5 HON hS5 hmk hmk2
     have HRT:Hid (strOf (rowT f val k c i)=strOf (rowT f val k c i)):=by show _=_;rfl
     generalize hst:strOf (rowT f val k c i)=st at hcv
     have HST:Hid (strOf (rowT f val k c i)=st):=hst
     clear hst HRT
     go_wp2
     go_roundw
     case rel =>
      refine⟨i+1,by omega,by go_num,(HS5.out.set i _).congr (fun q _=>?_),HB5.out.setCell (Nat.le_refl _) _⟩
      by_cases e:q=i
      ·rw [if_pos e,if_pos (by omega),e,HST.out]
      ·rw [if_neg e]
       by_cases e':q < i
       ·rw [if_pos e',if_pos (by omega)]
       ·rw [if_neg e',if_neg (by omega)]
     case measure=>simp [intOf];omega
  ·have hie:i=r:=by omega
   subst hie
   go_wp2
   go_ret
   exact⟨rfl,HS.out.congr (fun q hq=>by rw [if_pos hq]),HB.out⟩
theorem width_any (size k:Nat)(w:World)(hk1:1<=k)(hk:k<=1000)(hs:size<=100000) :
 Calls Tryz.prog 116 #[.int .i64 (size:Int),.int .i64 (k:Int)] w fun e w'=>e=.returned (.int .i64 ((wideN k size:Nat):Int))/\w'=w:=by
 have h1:(1:Int)<=(k:Int):=by omega
 have HE:Hid (((size:Int)+(k:Int) - 1) / (k:Int)=((wideN k size:Nat):Int)):=by
  show _=_
  unfold wideN
  rw [Int.natCast_ediv]
  congr 1
  omega
 go_enter Tryz.func116,Tryz.ntmps116
 go_wp2
 go_ret
 exact⟨ret_int HE.out,rfl⟩
theorem szfits_any (size:Int)(w:World):Calls Tryz.prog 133 #[.int .i64 size] w fun e w'=>e=.returned (.bool (decide (0<=size/\size<=1000)))/\w'=w:=by
 by_cases h1:0<=size
 ·by_cases h2:size<=1000
  ·have HE:Hid (decide (0<=size/\size<=1000)=true):=decide_eq_true ⟨h1,h2⟩
   rw [HE.out]
   go_enter Tryz.func133,Tryz.ntmps133
   go_wp2
   go_ret
   exact⟨rfl,rfl⟩
  ·have HE:Hid (decide (0<=size/\size<=1000)=false):=decide_eq_false fun h=>h2 h.2
   rw [HE.out]
   go_enter Tryz.func133,Tryz.ntmps133
   go_wp2
   go_ret
   exact⟨rfl,rfl⟩
 ·have HE:Hid (decide (0<=size/\size<=1000)=false):=decide_eq_false fun h=>h1 h.1
  rw [HE.out]
  go_enter Tryz.func133,Tryz.ntmps133
  go_wp2
  go_ret
  exact⟨rfl,rfl⟩
theorem szfits_yes (size:Int)(w:World)(h:0<=size/\size<=1000):Calls Tryz.prog 133 #[.int .i64 size] w fun e w'=>e=.returned (.bool true)/\w'=w:=by
 have h1:=szfits_any size w
 rw [decide_eq_true h] at h1
 exact h1
theorem szfits_no (size:Int)(w:World)(h:¬ (0<=size/\size<=1000)):Calls Tryz.prog 133 #[.int .i64 size] w fun e w'=>e=.returned (.bool false)/\w'=w:=by
 have h1:=szfits_any size w
 rw [decide_eq_false h] at h1
 exact h1
theorem spreadOf_ok (n k size:Nat)(z:Addr)(w:World)(hk1:1<=k)(hkn:k<=n)(hn:n<=12)(hs:size<=1000)(hz:w.cell? ⟨11,0,none⟩=some (.iface 252 (.pointer (some z)))) :
 Calls Tryz.prog 110 #[.int .i64 (n:Int),.int .i64 (k:Int),.int .i64 (size:Int)] w fun e w'=>(∃ gm,e=.returned (.tuple #[.slice (some ⟨gm,0,none⟩) n n,.nilIface])/\Mat w' (some ⟨gm,0,none⟩) (spreadM k n))/\Below w.heap.size w w':=by
 have HS:=spread_ok n k z w hk1 hkn hn hz
 have HF:Hid (Calls Tryz.prog 133 #[.int .i64 (size:Int)] w fun e w'=>e=.returned (.bool true)/\w'=w):=szfits_yes _ w (by omega)
 clear hz
 go_enter Tryz.func110,Tryz.ntmps110
 go_wp2_with fail
 refine HF.out.mono ?_
 rintro e w0 ⟨rfl,hw0⟩
 rw [hw0]
 clear hw0 w0 HF
 go_wp2_with fail
 refine HS.mono ?_
 rintro e w1 ⟨⟨gm,rfl,hm⟩,hb⟩
 clear HS
 go_wp2
 go_ret2
 exact⟨⟨gm,rfl,hm⟩,hb⟩
def objN (s:ByteArray)(wd:Nat):Nat->Nat->Nat:=fun j c=>Gf.nth (bytesOf s) (j*wd+c)
theorem objN_lt (s:ByteArray)(wd j c:Nat):objN s wd j c < 256:=bytesOf_lt s _
theorem objN_past {s:ByteArray}{wd j c:Nat}(h:¬ j*wd+c < s.size):objN s wd j c=0:=by
 show(bytesOf s).getD _ 0=0
 rw [List.getD_eq_getElem?_getD,List.getElem?_eq_none (by simp [bytesOf];omega)]
 rfl
def encT (k:Nat)(s:ByteArray)(i:Nat):ByteArray:=strOf (rowT (fun i j=>Gf.shareOf (upToL k) j i) (objN s (wideN k s.size)) k (wideN k s.size) i)
def encS (k:Nat)(s:ByteArray)(i:Nat):Int×ByteArray:=((i:Int),encT k s i)
def encL (n k:Nat)(s:ByteArray):List (Int×ByteArray):=(List.range n).map (encS k s)
def shF (f:Nat->Int×ByteArray):Nat->Value:=fun q=>if q % 2=0 then .int .i64 (f (q / 2)).1 else .string (f (q / 2)).2
def ShRow (w:World)(g n:Nat)(f:Nat->Int×ByteArray):Prop:=w.rowIs g 74 (n*2) (shF f)
theorem shF_even (f:Nat->Int×ByteArray)(i:Nat):shF f (i*2)=.int .i64 (f i).1:=by unfold shF;rw [if_pos (by omega),Nat.mul_div_cancel _ (by decide)]
theorem shF_odd (f:Nat->Int×ByteArray)(i:Nat):shF f (i*2+1)=.string (f i).2:=by unfold shF;rw [if_neg (by omega),show(i*2+1) / 2=i by omega]
theorem ShRow.at_ {w:World}{g n:Nat}{f:Nat->Int×ByteArray}(h:ShRow w g n f){i:Nat}(hi:i < n):w.cell? ⟨g,i*2,none⟩=some (.int .i64 (f i).1):=by rw [World.rowIs.cell h (by omega),shF_even]
theorem ShRow.text {w:World}{g n:Nat}{f:Nat->Int×ByteArray}(h:ShRow w g n f){i:Nat}(hi:i < n):w.cell? ⟨g,i*2+1,none⟩=some (.string (f i).2):=by rw [World.rowIs.cell h (by omega),shF_odd]
theorem ShRow.below {w w':World}{g n:Nat}{f:Nat->Int×ByteArray}(h:ShRow w g n f)(hb:Below w.heap.size w w'):ShRow w' g n f:=rowIs_below h hb
theorem ShRow.congr {w:World}{g n:Nat}{f f':Nat->Int×ByteArray}(h:ShRow w g n f)(he:∀ i,i < n->f i=f' i):ShRow w g n f':=World.rowIs.congr h (fun q hq=>by unfold shF;rw [he (q / 2) (by omega)])
theorem ShRow.set {w:World}{g n:Nat}{f:Nat->Int×ByteArray}(h:ShRow w g n f)(i:Nat)(x:Int)(t:ByteArray):ShRow ((w.setCell ⟨g,i*2,none⟩ (.int .i64 x)).setCell ⟨g,i*2+1,none⟩ (.string t)) g n (fun j=>if j=i then (x,t) else f j):=by
 refine World.rowIs.congr ((World.rowIs.set h (i*2) (.int .i64 x)).set (i*2+1) (.string t)) (fun q _=>?_)
 rcases Nat.mod_two_eq_zero_or_one q with e | e
 ·rw [if_neg (by omega)]
  by_cases e2:q=i*2
  ·rw [if_pos e2]
   unfold shF
   dsimp only
   rw [if_pos e,if_pos (show q / 2=i by omega)]
  ·rw [if_neg e2]
   unfold shF
   dsimp only
   rw [if_pos e,if_pos e,if_neg (show ¬ q / 2=i by omega)]
 ·by_cases e2:q=i*2+1
  ·rw [if_pos e2]
   unfold shF
   dsimp only
   rw [if_neg (show ¬ q % 2=0 by omega),if_pos (show q / 2=i by omega)]
  ·rw [if_neg e2,if_neg (by omega)]
   unfold shF
   dsimp only
   rw [if_neg (show ¬ q % 2=0 by omega),if_neg (show ¬ q % 2=0 by omega),if_neg (show ¬ q / 2=i by omega)]
theorem ShRow.made (w:World)(n:Nat):ShRow (w.alloc (.cells (madeCells #[.int .i64 0,.string ⟨#[]⟩] (n*2)) 74)) w.heap.size n (fun _=>(0,⟨#[]⟩)):=by
 have:=World.rowIs_alloc w (madeCells #[.int .i64 0,.string ⟨#[]⟩] (n*2)) 74 (shF fun _=>(0,⟨#[]⟩)) (fun i hi=>by
  rw [size_madeCells] at hi
  simp only [madeCells]
  rw [Array.getElem?_map,Array.getElem?_eq_getElem (by simpa using hi)]
  simp only [Array.getElem_range,Option.map_some]
  unfold shF
  rcases Nat.mod_two_eq_zero_or_one i with e | e
  ·rw [if_pos e];simp [e]
  ·rw [if_neg (by omega)];simp [e])
 rw [size_madeCells] at this
 exact this
theorem run_make_shards (n:Nat)(hn:n<=1000000)(W:World):Sem.run Tryz.prog (Instr.makeSlice 123 (.int .i64 (n:Int)) (.int .i64 (n:Int))) W=.ok (.slice (some ⟨W.heap.size,0,none⟩) n n) (W.alloc (.cells (madeCells #[.int .i64 0,.string ⟨#[]⟩] (n*2)) 74)):=by
 obtain⟨i1,hi1,hy0,hy1,hy2⟩:=info_parts shinfo
 have hr:=run_make (P:=Tryz.prog) W 123 74 i1 _ Tryz.underlying123 hi1 hy0 .i64 .i64 n n (by omega) (Int.le_refl _) (by rw [hy2];omega) (by omega)
 simp only [Int.toNat_natCast,hy1] at hr
 exact hr
def facN (k:Nat):Nat->Nat->Nat:=fun i j=>Gf.shareOf (upToL k) j i
theorem facN_lt (k i j:Nat):facN k i j < 256:=Gf.shareOf_lt _ _ _
theorem encN_rsum (s:ByteArray)(k wd i c:Nat):∀ j,encN (bytesOf s) k wd i c j=rsumN (fun i j=>Gf.shareOf (upToL k) j i) (objN s wd) i c j
 | 0=>rfl
 | j+1=>by
  show(if j*wd+c < (bytesOf s).length then encN (bytesOf s) k wd i c j ^^^ _ else encN (bytesOf s) k wd i c j)=rsumN _ _ i c j ^^^ Gf.mul _ (objN s wd j c)
  rw [encN_rsum s k wd i c j]
  have hl:(bytesOf s).length=s.size:=by simp [bytesOf]
  by_cases h:j*wd+c < s.size
  ·rw [if_pos (by omega)]
   rfl
  ·rw [if_neg (by omega),objN_past h,Gf.mul_zero,Nat.xor_zero]
theorem encT_eq (k:Nat)(s:ByteArray)(i:Nat):strOf (encRow (bytesOf s) k (wideN k s.size) i)=encT k s i:=by
 unfold encT encRow rowT
 rw [rowFn_congr _ _ _ (fun c _=>encN_rsum s k (wideN k s.size) i c k)]
theorem shCells_vals (l:List (Nat×List Nat)):shCells l=shVals (l.map fun x=>((x.1:Int),strOf x.2)):=by
 unfold shCells shVals
 rw [List.flatMap_map]
theorem encL_length (n k:Nat)(s:ByteArray):(encL n k s).length=n:=by simp [encL]
theorem rencode_shs (n k:Nat)(s:ByteArray)(w:World)(hk1:1<=k)(hkn:k<=n)(hn:n<=12)(hs:s.size<=3000) :
 Calls Tryz.prog 65 #[.int .i64 (n:Int),.int .i64 (k:Int),.string s] w fun e w'=>(∃ p c,e=.returned (.slice p n c)/\Shs w' p (encL n k s))/\Below w.heap.size w w':=by
 refine(rencode_any n k s w hk1 hkn hn hs).mono ?_
 rintro e w' ⟨⟨v,rfl,hv⟩,hb⟩
 refine⟨?_,hb⟩
 unfold OwnSh at hv
 rw [shCells_vals,List.map_map,List.length_map,List.length_range] at hv
 have hl:(List.range n).map ((fun x:Nat×List Nat=>((x.1:Int),strOf x.2)) ∘ fun i=>(i,encRow (bytesOf s) k (wideN k s.size) i))=encL n k s:=by
  unfold encL
  refine List.map_congr_left fun i _=>?_
  show((i:Int),strOf (encRow (bytesOf s) k (wideN k s.size) i))=encS k s i
  rw [encT_eq]
  rfl
 rw [hl] at hv
 have hv':w'.ownsRow w.heap.size 74 2 v (encL n k s).length (shVals (encL n k s)):=by rw [encL_length];exact hv
 obtain⟨p,c,rfl,h⟩:=shs_of_own hv'
 exact⟨p,c,by rw [encL_length],h⟩
theorem encode1_any (pw ps wd j c:Nat)(s:ByteArray)(w:World)(hj:j<=1000)(hc:c<=100000)(hwd:wd<=100000)(hw:w.cell? ⟨pw,0,none⟩=some (.int .i64 (wd:Int)))(hs:w.cell? ⟨ps,0,none⟩=some (.string s)) :
 Calls Tryz.prog 151 (#[.int .i64 (j:Int),.int .i64 (c:Int)] ++ #[.pointer (some ⟨pw,0,none⟩),.pointer (some ⟨ps,0,none⟩)]) w fun e w2=>e=.returned (.int .u8 ((objN s wd j c:Nat):Int))/\w2=w:=by
 have hb:j*wd<=1000*100000:=Nat.mul_le_mul hj hwd
 have hp0:(0:Int)<=(j:Int)*(wd:Int):=by rw [<- Int.natCast_mul];omega
 have hp1:(j:Int)*(wd:Int)<=100000000:=by rw [<- Int.natCast_mul];omega
 have hw1:IntKind.i64.wrap ((j:Int)*(wd:Int))=(j:Int)*(wd:Int):=by rw [IntKind.wrap_i64];omega
 have hw2:IntKind.i64.wrap ((j:Int)*(wd:Int)+(c:Int))=(j:Int)*(wd:Int)+(c:Int):=by rw [IntKind.wrap_i64];omega
 by_cases hin:j*wd+c < s.size
 ·have h2:(j:Int)*(wd:Int)+(c:Int) < (s.size:Int):=by rw [<- Int.natCast_mul];omega
  have h0:(0:Int)<=(j:Int)*(wd:Int)+(c:Int):=by omega
  have hidx:∀ W,Sem.run Tryz.prog (Instr.index 9 (.string s) (.int .i64 ((j:Int)*(wd:Int)+(c:Int)))) W=.ok (.int .u8 ((objN s wd j c:Nat):Int)) W:=fun W=>by
   rw [run_index_string W 9 s .i64 _ Tryz.underlying9,dif_pos ⟨h0,h2⟩]
   unfold objN
   rw [bytesOf_nth s (j*wd+c) hin]
   congr 3
  clear hin hb
  generalize objN s wd j c=y at hidx ⊢
  go_enter Tryz.func151,Tryz.ntmps151
  go_wp2
  go_ret
  exact⟨rfl,rfl⟩
 ·have h2:¬ (j:Int)*(wd:Int)+(c:Int) < (s.size:Int):=by rw [<- Int.natCast_mul];omega
  rw [objN_past hin]
  clear hin hb
  go_enter Tryz.func151,Tryz.ntmps151
  go_wp2
  go_ret
  exact⟨rfl,rfl⟩
theorem encode_ok (n k:Nat)(s:ByteArray)(z:Addr)(w:World)(hk1:1<=k)(hkn:k<=n)(hn:n<=12)(hs:s.size<=1000)(hz:w.cell? ⟨11,0,none⟩=some (.iface 252 (.pointer (some z)))) :
 Calls Tryz.prog 124 #[.int .i64 (n:Int),.int .i64 (k:Int),.string s] w fun e w'=>(∃ g,w.heap.size<=g/\e=.returned (.tuple #[.slice (some ⟨g,0,none⟩) n n,.nilIface])/\ShRow w' g n (encS k s))/\Below w.heap.size w w':=by
 have hwd:=wideN_le (size:=s.size) hk1
 obtain⟨w1,hw1⟩:∃ w1,w1=w.alloc (.cells #[.string s] 9):=⟨_,rfl⟩
 have hb1:Below w.heap.size w w1:=zBe hw1
 have hs1:w1.heap.size=w.heap.size+1:=by rw [hw1];simp
 have hp1:w1.cell? ⟨w.heap.size,0,none⟩=some (.string s):=zAc hw1 rfl
 have HS:=spreadOf_ok n k s.size z w1 hk1 hkn hn hs ((hb1.cell (p:=⟨11,0,none⟩) (lt_of_cell hz)).trans hz)
 have HW1:Hid (w1=w.alloc (.cells #[.string s] 9)):=hw1
 have HB1:Hid (Below w.heap.size w w1):=hb1
 have hmk:=run_make_shards n (by omega)
 clear hw1 hb1 hz
 go_enter Tryz.func124,Tryz.ntmps124
 go_wp2_with fail
 rw [<- HW1.out]
 refine HS.mono ?_
 rintro e w2 ⟨⟨gm,rfl,hm2⟩,hb2⟩
 have hs2:w1.heap.size<=w2.heap.size:=hb2.size
 have hp2:w2.cell? ⟨w.heap.size,0,none⟩=some (.string s):=(hb2.cell (p:=⟨w.heap.size,0,none⟩) (by show w.heap.size < _;omega)).trans hp1
 have HM2:Hid (Mat w2 (some ⟨gm,0,none⟩) (spreadM k n)):=hm2
 have HB2:Hid (Below w.heap.size w w2):=HB1.out.trans (hb2.mono (by omega))
 clear HS hm2 hb2 HB1 HW1 hp1
 have HWD:=fun W=>width_any s.size k W hk1 (by omega) (by omega)
 have HES:Hid (∀ i,encS k s i=((i:Int),strOf (rowT (fun i j=>Gf.shareOf (upToL k) j i) (objN s (wideN k s.size)) k (wideN k s.size) i))):=fun i=>rfl
 generalize wideN k s.size=wd at *
 go_wp2_with fail
 refine(HWD _).mono ?_
 rintro e w2' ⟨rfl,hww⟩
 rw [hww]
 clear hww w2' HWD
 obtain⟨w3,hw3⟩:∃ w3,w3=w2.alloc (.cells #[.int .i64 (wd:Int)] 3):=⟨_,rfl⟩
 have hb3:Below w2.heap.size w2 w3:=zBe hw3
 have hs3:w3.heap.size=w2.heap.size+1:=by rw [hw3];simp
 have hp3:w3.cell? ⟨w.heap.size,0,none⟩=some (.string s):=(hb3.cell (p:=⟨w.heap.size,0,none⟩) (by show w.heap.size < _;omega)).trans hp2
 have hv3:w3.cell? ⟨w2.heap.size,0,none⟩=some (.int .i64 (wd:Int)):=zAc hw3 rfl
 have HB3:Hid (Below w.heap.size w w3):=HB2.out.trans (hb3.mono (by omega))
 have HT:Tells w3 151 #[.pointer (some ⟨w2.heap.size,0,none⟩),.pointer (some ⟨w.heap.size,0,none⟩)] (objN s wd) k wd:=fun j c hj hc w4 h4 =>
  encode1_any w2.heap.size w.heap.size wd j c s w4 (by omega) (by omega) (by omega) ((h4.cell (p:=⟨w2.heap.size,0,none⟩) (by show w2.heap.size < _;omega)).trans hv3) ((h4.cell (p:=⟨w.heap.size,0,none⟩) (by show w.heap.size < _;omega)).trans hp3)
 have HR:=rows_any (some ⟨gm,0,none⟩) n k wd n (fun i j=>Gf.shareOf (upToL k) j i) (objN s wd) 151 #[.pointer (some ⟨w2.heap.size,0,none⟩),.pointer (some ⟨w.heap.size,0,none⟩)] w3 (by omega) (by omega) hk1 (by omega) (by omega) (fun i j=>Gf.shareOf_lt _ _ _) (fun j c=>objN_lt s wd j c) (HM2.out.below hb3) (enters_of Tryz.func151 (by kernel_rfl) rfl) HT
 have HW3:Hid (w3=w2.alloc (.cells #[.int .i64 (wd:Int)] 3)):=hw3
 have hs3':w2.heap.size < w3.heap.size:=by omega
 have hs1':w.heap.size < w1.heap.size:=by omega
 clear hw3 hb3 HT HM2 HB2 hp2 hs3 hs1
 go_wp2_with fail
 rw [<- HW3.out]
 refine HR.mono ?_
 rintro e w4 ⟨rfl,hr4,hb4⟩
 have HR4:Hid (w4.rowIs w3.heap.size 9 n (fun i=>.string (strOf (rowT (fun i j=>Gf.shareOf (upToL k) j i) (objN s wd) k wd i)))):=hr4
 have HB4:Hid (Below w.heap.size w w4):=HB3.out.trans (hb4.mono (by omega))
 have hz4:w3.heap.size < w4.heap.size:=hr4.lt
 clear HR hr4 hb4 HB3 HW3 hp3 hv3
 go_wp2
 have hS0:=ShRow.made w4 n
 have hB0:Below w4.heap.size w4 (w4.alloc (.cells (madeCells #[.int .i64 0,.string ⟨#[]⟩] (n*2)) 74)):=(Below.refl _ _).alloc (Nat.le_refl _) _
 generalize w4.alloc (.cells (madeCells #[.int .i64 0,.string ⟨#[]⟩] (n*2)) 74)=w5 at hS0 hB0 ⊢
 have HS0:Hid (ShRow w5 w4.heap.size n (fun _=>(0,⟨#[]⟩))):=hS0
 have HB0:Hid (Below w4.heap.size w4 w5):=hB0
 clear hS0 hB0 hmk
 go_loopw [38] (fun x wr=>∃ i:Nat,i<=n/\x=.int .i64 i/\ShRow wr w4.heap.size n (fun q=>if q < i then encS k s q else (0,⟨#[]⟩))/\Below w4.heap.size w4 wr) (fun x _=>n - (intOf x).toNat)
 case atStart=>exact⟨0,by omega,rfl,HS0.out.congr (fun q _=>by simp),HB0.out⟩
 case round =>
  obtain⟨i,hi,rfl,hS,hB⟩:=hrel
  obtain⟨w6,rfl⟩:∃ w6,w6=wr:=⟨_,rfl⟩
  have HSR:Hid (ShRow w6 w4.heap.size n (fun q=>if q < i then encS k s q else (0,⟨#[]⟩))):=hS
  have HB:Hid (Below w4.heap.size w4 w6):=hB
  have hgt:w4.heap.size < w6.heap.size:=World.rowIs.lt hS
  clear hS hB HS0 HB0
  by_cases hil:i < n
  ·have q0 : w6.cell? ⟨w3.heap.size, i, none⟩ = some (.string (encT k s i)) := by
    rw [HB.out.cell (p:=⟨w3.heap.size,i,none⟩) hz4,HR4.out.cell hil]
    exact congrArg (fun x:Int×ByteArray=>some (Value.string x.2)) (HES.out i).symm
   have q1:w6.cell? ⟨w4.heap.size,i*2,none⟩=some (.int .i64 0):=by rw [HSR.out.at_ hil,if_neg (Nat.lt_irrefl _)]
   have q2:w6.cell? ⟨w4.heap.size,i*2+1,none⟩=some (.string ⟨#[]⟩):=by rw [HSR.out.text hil,if_neg (Nat.lt_irrefl _)]
   have f1:w6.frozen? ⟨w4.heap.size,i*2,none⟩=false:=World.rowIs.frozen HSR.out _
   have f2:w6.frozen? ⟨w4.heap.size,i*2+1,none⟩=false:=World.rowIs.frozen HSR.out _
   go_wp2
   go_roundw
   case rel =>
    refine⟨i+1,by omega,by go_num,?_,?_⟩
    ·refine(HSR.out.set i (i:Int) (encT k s i)).congr (fun q _=>?_)
     by_cases e:q=i
     ·rw [if_pos e,if_pos (by omega),e]
      rfl
     ·rw [if_neg e]
      by_cases e':q < i
      ·rw [if_pos e',if_pos (by omega)]
      ·rw [if_neg e',if_neg (by omega)]
    ·exact(HB.out.setCell (Nat.le_refl _) _).setCell (Nat.le_refl _) _
   case measure=>simp [intOf];omega
  ·have hie:i=n:=by omega
   subst hie
   go_wp2
   go_ret2
   exact⟨⟨w4.heap.size,by have:=HB4.out.size;omega,rfl,HSR.out.congr (fun q hq=>by rw [if_pos hq])⟩,HB4.out.trans (HB.out.mono (HB4.out.size))⟩
def pickN (k:Nat)(l:List (Int×ByteArray)):Nat->List (Int×ByteArray)
 | 0=>[]
 | i+1=>if decide ((pickN k l i).length < k) && !(pickN k l i).any (fun y=>y.1==(shAt l i).1) then pickN k l i ++ [shAt l i] else pickN k l i
theorem pickN_yes {k:Nat}{l:List (Int×ByteArray)}{i:Nat}(h1:(pickN k l i).length < k)(h2:(pickN k l i).any (fun y=>y.1==(shAt l i).1)=false):pickN k l (i+1)=pickN k l i ++ [shAt l i]:=by
 show(if _ then _ else _)=_
 rw [if_pos (by rw [decide_eq_true h1,h2];rfl)]
theorem pickN_full {k:Nat}{l:List (Int×ByteArray)}{i:Nat}(h1:¬ (pickN k l i).length < k):pickN k l (i+1)=pickN k l i:=by
 show(if _ then _ else _)=_
 rw [if_neg (by rw [decide_eq_false h1];simp)]
theorem pickN_twice {k:Nat}{l:List (Int×ByteArray)}{i:Nat}(h2:(pickN k l i).any (fun y=>y.1==(shAt l i).1)=true):pickN k l (i+1)=pickN k l i:=by
 show(if _ then _ else _)=_
 rw [if_neg (by rw [h2];simp)]
theorem pickN_le (k:Nat)(l:List (Int×ByteArray)):∀ i,(pickN k l i).length<=k
 | 0=>Nat.zero_le _
 | i+1=>by
  by_cases h1:(pickN k l i).length < k
  ·by_cases h2:(pickN k l i).any (fun y=>y.1==(shAt l i).1)=true
   ·rw [pickN_twice h2];omega
   ·rw [pickN_yes h1 (Bool.eq_false_iff.2 h2),List.length_append,List.length_singleton];omega
  ·rw [pickN_full h1];exact pickN_le k l i
theorem pickN_sub (k:Nat)(l:List (Int×ByteArray)):∀ i,i<=l.length->∀ x ∈ pickN k l i,x ∈ l
 | 0,_,x,h=>by cases h
 | i+1,hi,x,h=>by
  by_cases h1:(pickN k l i).length < k
  ·by_cases h2:(pickN k l i).any (fun y=>y.1==(shAt l i).1)=true
   ·rw [pickN_twice h2] at h;exact pickN_sub k l i (by omega) x h
   ·rw [pickN_yes h1 (Bool.eq_false_iff.2 h2)] at h
    rcases List.mem_append.1 h with h | h
    ·exact pickN_sub k l i (by omega) x h
    ·rw [List.mem_singleton.1 h];exact shAt_mem (by omega)
  ·rw [pickN_full h1] at h;exact pickN_sub k l i (by omega) x h
theorem pickN_nodup (k:Nat)(l:List (Int×ByteArray)):∀ i,((pickN k l i).map Prod.fst).Nodup
 | 0=>List.nodup_nil
 | i+1=>by
  by_cases h1:(pickN k l i).length < k
  ·by_cases h2:(pickN k l i).any (fun y=>y.1==(shAt l i).1)=true
   ·rw [pickN_twice h2];exact pickN_nodup k l i
   ·have h2':(pickN k l i).any (fun y=>y.1==(shAt l i).1)=false:=Bool.eq_false_iff.2 h2
    rw [pickN_yes h1 h2',List.map_append,List.nodup_append]
    refine⟨pickN_nodup k l i,by simp,fun a ha b hb e=>?_⟩
    obtain⟨y,hy,rfl⟩:=List.mem_map.1 ha
    have hb':b=(shAt l i).1:=by simpa using hb
    have:=List.any_eq_false.1 h2' y hy
    exact this (by simp [e,hb'])
  ·rw [pickN_full h1];exact pickN_nodup k l i
theorem shVals_snoc (l:List (Int×ByteArray))(x:Int×ByteArray):shVals (l ++ [x])=shVals l ++ [.int .i64 x.1,.string x.2]:=by simp [shVals]
theorem unlike1_any (px:Nat)(x y:Int)(t:ByteArray)(w:World)(hx:w.cell? ⟨px,0,none⟩=some (.int .i64 x)) :
 Calls Tryz.prog 139 (#[.agg #[.int .i64 y,.string t]] ++ #[.pointer (some ⟨px,0,none⟩)]) w fun e w2=>e=.returned (.bool (y==x))/\Below w.heap.size w w2:=by
 have hlt:=lt_of_cell hx
 go_enter Tryz.func139,Tryz.ntmps139
 go_wp2
 go_ret
 exact⟨rfl,(Below.refl _ _).alloc (Nat.le_refl _) _⟩
def badB (n:Int)(wd:Nat)(x:Int×ByteArray):Bool:=decide (x.1 < 0) || decide (n<=x.1) || !decide (x.2.size=wd)
theorem first_any (k:Nat)(p:Option Addr)(l:List (Int×ByteArray))(cap:Nat)(w:World)(hk:k<=1000)(hl:l.length<=1000)(hs:Shs w p l) :
 Calls Tryz.prog 113 #[.int .i64 (k:Int),.slice p l.length cap] w fun e w'=>(∃ p' c',e=.returned (.slice p' (pickN k l l.length).length c')/\Shs w' p' (pickN k l l.length))/\Below w.heap.size w w':=by
 have HS:Hid (Shs w p l):=hs
 obtain⟨i1,hi1,hy0,hy1,hy2⟩:=info_parts shinfo
 have hmk:∀ W:World,Sem.run Tryz.prog (Instr.makeSlice 123 (.int .i64 0) (.int .i64 (k:Int))) W=.ok (.slice (some ⟨W.heap.size,0,none⟩) 0 k) (W.alloc (.cells (madeCells #[.int .i64 0,.string ⟨#[]⟩] (k*2)) 74)):=fun W=>by
  have hr:=run_make (P:=Tryz.prog) W 123 74 i1 _ Tryz.underlying123 hi1 hy0 .i64 .i64 0 k (by omega) (by omega) (by rw [hy2];omega) (by omega)
  simp only [Int.toNat_natCast,hy1] at hr
  exact hr
 clear hs
 go_enter Tryz.func113,Tryz.ntmps113
 go_wp2
 have hO0:(w.alloc (.cells (madeCells #[.int .i64 0,.string ⟨#[]⟩] (k*2)) 74)).ownsRow w.heap.size 74 2 (.slice (some ⟨w.heap.size,0,none⟩) 0 k) 0 []:=World.ownsRow_made w _ k (Nat.le_refl _) (by unfold maxLen;omega) (size_madeCells _ _)
 have hB0:Below w.heap.size w (w.alloc (.cells (madeCells #[.int .i64 0,.string ⟨#[]⟩] (k*2)) 74)):=(Below.refl _ _).alloc (Nat.le_refl _) _
 generalize w.alloc (.cells (madeCells #[.int .i64 0,.string ⟨#[]⟩] (k*2)) 74)=w0 at hO0 hB0 ⊢
 have HO0:Hid (w0.ownsRow w.heap.size 74 2 (.slice (some ⟨w.heap.size,0,none⟩) 0 k) 0 []):=hO0
 have HB0:Hid (Below w.heap.size w w0):=hB0
 clear hO0 hB0 hmk
 go_loopw [5,12] (fun v x wr=>∃ i:Nat,i<=l.length/\x=.int .i64 i/\wr.ownsRow w.heap.size 74 2 v (pickN k l i).length (shVals (pickN k l i))/\Below w.heap.size w wr) (fun _ x _=>l.length - (intOf x).toNat)
 case atStart=>exact⟨0,by omega,rfl,HO0.out,HB0.out⟩
 case round =>
  obtain⟨i,hi,rfl,hO,hB⟩:=hrel
  obtain⟨w3,rfl⟩:∃ w3,w3=wr:=⟨_,rfl⟩
  obtain⟨pv,cv,rfl,hsh⟩:=shs_of_own hO
  have HO:Hid (w3.ownsRow w.heap.size 74 2 (.slice pv (pickN k l i).length cv) (pickN k l i).length (shVals (pickN k l i))):=hO
  have HB:Hid (Below w.heap.size w w3):=hB
  have HSH:Hid (Shs w3 pv (pickN k l i)):=hsh
  have hz3:w.heap.size<=w3.heap.size:=hB.size
  clear hO hB hsh HO0 HB0
  by_cases hil:i < l.length
  ·rcases(HS.out.below HB.out) with h0 | ⟨b1,o1,rfl,hb1,hc1⟩
   ·rw [h0] at hil;simp at hil
   obtain⟨q1,q2⟩:=hc1 i hil
   clear hc1
   have HF:Hid (pickN k l (i+1)=pickN k l (i+1)):=by show _=_;rfl
   have hle:=pickN_le k l i
   by_cases hlt:(pickN k l i).length < k
   ·obtain⟨w4,hw4⟩:∃ w4,w4=w3.alloc (.cells #[.int .i64 (shAt l i).1,.string (shAt l i).2] 74):=⟨_,rfl⟩
    have hb4:Below w3.heap.size w3 w4:=zBe hw4
    have hs4:w4.heap.size=w3.heap.size+1:=by rw [hw4];simp
    have hx4:w4.cell? ⟨w3.heap.size,0,none⟩=some (.int .i64 (shAt l i).1):=zAc hw4 rfl
    have ht4:w4.cell? ⟨w3.heap.size,1,none⟩=some (.string (shAt l i).2):=zAc hw4 rfl
    have HASK:Asks w4 139 #[.pointer (some ⟨w3.heap.size,0,none⟩)] (pickN k l i) (fun y=>y.1==(shAt l i).1):=fun j hj w5 h5 =>
     unlike1_any w3.heap.size (shAt l i).1 (shAt (pickN k l i) j).1 (shAt (pickN k l i) j).2 w5 ((h5.cell (p:=⟨w3.heap.size,0,none⟩) (by show w3.heap.size < _;omega)).trans hx4)
    have HC:=contains_any pv (pickN k l i) cv 139 #[.pointer (some ⟨w3.heap.size,0,none⟩)] (fun y=>y.1==(shAt l i).1) w4 (by omega) (HSH.out.below hb4) (enters_of Tryz.func139 (by kernel_rfl) rfl) HASK
    have HW4:Hid (w4=w3.alloc (.cells #[.int .i64 (shAt l i).1,.string (shAt l i).2] 74)):=hw4
    have HB4:Hid (Below w.heap.size w w4):=HB.out.trans (hb4.mono hz3)
    have HO4:Hid (w4.ownsRow w.heap.size 74 2 (.slice pv (pickN k l i).length cv) (pickN k l i).length (shVals (pickN k l i))):=World.ownsRow.kept HO.out (below_grown hb4 none) (by cases hv:(Value.slice pv (pickN k l i).length cv).ownBlock <;> simp)
    have hs4':w3.heap.size < w4.heap.size:=by omega
    by_cases hany:(pickN k l i).any (fun y=>y.1==(shAt l i).1)=true
    ·have HP:Hid (pickN k l (i+1)=pickN k l i):=pickN_twice hany
     rw [hany] at HC
     clear hany hw4 hb4 hs4 hx4 ht4 HASK HF
     generalize pickN k l i=so at *
     go_wp2_with fail
     rw [<- HW4.out]
     refine HC.mono ?_
     rintro e w6 ⟨rfl,hb6⟩
     have HB6:Hid (Below w.heap.size w w6):=HB4.out.trans (hb6.mono HB4.out.size)
     have HO6:Hid (w6.ownsRow w.heap.size 74 2 (.slice pv so.length cv) so.length (shVals so)):=World.ownsRow.kept HO4.out (below_grown hb6 none) (by cases hv:(Value.slice pv so.length cv).ownBlock <;> simp)
     clear HC hb6
     go_wp2
     go_roundw
     case rel=>exact⟨i+1,by omega,by go_num,by rw [HP.out];exact HO6.out,HB6.out⟩
     case measure=>simp [intOf];omega
    ·have hany':(pickN k l i).any (fun y=>y.1==(shAt l i).1)=false:=Bool.eq_false_iff.2 hany
     have HP:Hid (pickN k l (i+1)=pickN k l i ++ [shAt l i]):=pickN_yes hlt hany'
     rw [hany'] at HC
     have HX4:Hid (∀ W,Below w4.heap.size w4 W->W.cell? ⟨w3.heap.size,0,none⟩=some (.int .i64 (shAt l i).1)/\W.cell? ⟨w3.heap.size,1,none⟩=some (.string (shAt l i).2)):=fun W hW=>⟨(hW.cell (p:=⟨w3.heap.size,0,none⟩) (by show w3.heap.size < _;omega)).trans hx4,(hW.cell (p:=⟨w3.heap.size,1,none⟩) (by show w3.heap.size < _;omega)).trans ht4⟩
     clear hany hany' hw4 hb4 hs4 hx4 ht4 HASK HF
     generalize pickN k l i=so at *
     go_wp2_with fail
     rw [<- HW4.out]
     refine HC.mono ?_
     rintro e w6 ⟨rfl,hb6⟩
     have HB6:Hid (Below w.heap.size w w6):=HB4.out.trans (hb6.mono HB4.out.size)
     have HO6:Hid (w6.ownsRow w.heap.size 74 2 (.slice pv so.length cv) so.length (shVals so)):=World.ownsRow.kept HO4.out (below_grown hb6 none) (by cases hv:(Value.slice pv so.length cv).ownBlock <;> simp)
     obtain⟨r1,r2⟩:=HX4.out w6 hb6
     have hz6:w.heap.size<=w6.heap.size:=HB6.out.size
     clear HC hb6 q1 q2 HX4 HW4 HO4 HB4
     generalize shAt l i=xs at *
     obtain⟨x,t⟩:=xs
     go_wp2_with (first | (at_builtin;refine wpList_append_own _ rfl (.tmp 26) (.tmp 28) 123 rfl w.heap.size 74 i1 (.agg #[.int .i64 0,.string ⟨#[]⟩]) 2 24 Tryz.underlying123 hi1 hy0 hy1 hy2 rfl (by decide) (.slice pv so.length cv) so.length (shVals so) rfl (World.ownsRow.alloc HO6.out _) ⟨w6.heap.size,0,none⟩ 1 1 [.int .i64 x,.string t] rfl rfl (fun j u hj=>by match j,hj with | 0,hj=>(simp at hj;subst hj;simp [Addr.add]) | 1,hj=>(simp at hj;subst hj;simp [Addr.add])) (fun u hu=>by simp at hu;rcases hu with rfl | rfl <;> rfl) (by unfold maxLen;omega) (by omega) (by simp;omega) ?_;intro v' w8 hown' hg' _))
     have hb8:Below w.heap.size w w8:=(HB6.out.alloc (by omega) _).grown hg' (by simp;omega) (fun g hg=>(World.ownsRow.lt HO6.out g hg).1)
     go_roundw
     case rel=>exact⟨i+1,by omega,by go_num,by rw [HP.out,shVals_snoc,List.length_append,List.length_singleton];exact hown',hb8⟩
     case measure=>simp [intOf];omega
   ·have HP:Hid (pickN k l (i+1)=pickN k l i):=pickN_full hlt
    have HB4:Hid (Below w.heap.size w (w3.alloc (.cells #[.int .i64 (shAt l i).1,.string (shAt l i).2] 74))):=HB.out.alloc hz3 _
    have HO4:Hid ((w3.alloc (.cells #[.int .i64 (shAt l i).1,.string (shAt l i).2] 74)).ownsRow w.heap.size 74 2 (.slice pv (pickN k l i).length cv) (pickN k l i).length (shVals (pickN k l i))):=World.ownsRow.alloc HO.out _
    clear HF
    generalize pickN k l i=so at *
    go_wp2
    go_roundw
    case rel=>exact⟨i+1,by omega,by go_num,by rw [HP.out];exact HO4.out,HB4.out⟩
    case measure=>simp [intOf];omega
  ·have hie:i=l.length:=by omega
   subst hie
   go_wp2
   go_ret
   exact⟨⟨pv,cv,rfl,HSH.out⟩,HB.out⟩
def fitB (n k:Nat)(size y:Int)(t:ByteArray):Bool:=decide (0<=size/\size<=1000/\0<=y/\y < n/\t.size=wideN k size.toNat)
theorem cfits_any (n k:Nat)(size y:Int)(t:ByteArray)(w:World)(hk1:1<=k)(hkn:k<=n)(hn:n<=12) :
 Calls Tryz.prog 107 #[.int .i64 (n:Int),.int .i64 (k:Int),.int .i64 size,.agg #[.int .i64 y,.string t]] w fun e w'=>e=.returned (.bool (fitB n k size y t))/\Below w.heap.size w w':=by
 obtain⟨w1,hw1⟩:∃ w1,w1=w.alloc (.cells #[.int .i64 y,.string t] 74):=⟨_,rfl⟩
 have HB1:Hid (Below w.heap.size w w1):=zBe hw1
 have f0:w1.cell? ⟨w.heap.size,0,none⟩=some (.int .i64 y):=zAc hw1 rfl
 have f1:w1.cell? ⟨w.heap.size,1,none⟩=some (.string t):=zAc hw1 rfl
 have HW1:Hid (w1=w.alloc (.cells #[.int .i64 y,.string t] 74)):=hw1
 have HM:Hid (∀ W,Calls Tryz.prog 101 #[.int .i64 (n:Int),.int .i64 (k:Int)] W fun e w'=>e=.returned (.bool true)/\w'=W):=fun W=>by
  have h:=mfits_any (n:Int) (k:Int) W
  rw [decide_eq_true (show(1:Int)<=(k:Int)/\(k:Int)<=(n:Int)/\(n:Int)<=12 by omega)] at h
  exact h
 clear hw1
 by_cases hs:0<=size/\size<=1000
 ·have HS:Hid (∀ W,Calls Tryz.prog 133 #[.int .i64 size] W fun e w'=>e=.returned (.bool true)/\w'=W):=fun W=>szfits_yes _ W hs
  by_cases h1:0<=y
  ·have d1:decide (0<=y)=true:=decide_eq_true h1
   by_cases h2:y < (n:Int)
   ·have d2:decide (y < (n:Int))=true:=decide_eq_true h2
    obtain⟨s,rfl⟩:=Int.eq_ofNat_of_zero_le hs.1
    have HV:Hid (∀ W,Calls Tryz.prog 116 #[.int .i64 (s:Int),.int .i64 (k:Int)] W fun e w'=>e=.returned (.int .i64 ((wideN k s:Nat):Int))/\w'=W):=fun W=>width_any s k W hk1 (by omega) (by omega)
    have HR:Hid (fitB n k (s:Int) y t=((t.size:Int)==((wideN k s:Nat):Int))):=by
     show _=_
     unfold fitB
     rw [Int.toNat_natCast]
     by_cases h3:t.size=wideN k s
     ·rw [decide_eq_true ⟨hs.1,hs.2,h1,h2,h3⟩,h3];simp
     ·rw [decide_eq_false (fun h=>h3 h.2.2.2.2)]
      symm
      rw [beq_eq_false_iff_ne]
      omega
    rw [HR.out]
    clear hs
    generalize wideN k s=wd at *
    go_enter Tryz.func107,Tryz.ntmps107
    go_wp2_with (rw [<- HW1.out])
    go_quiet (first | (go_at_call 101;exact Calls.quiet_of_same (HM.out _)) | (go_at_call 133;exact Calls.quiet_of_same (HS.out _)) | (go_at_call 116;exact Calls.quiet_of_same (HV.out _)))
    go_wp2
    go_ret
    exact⟨rfl,below_drewN HB1.out _⟩
   ·have d2:decide (y < (n:Int))=false:=decide_eq_false h2
    have HR:Hid (fitB n k size y t=false):=decide_eq_false fun h=>h2 h.2.2.2.1
    rw [HR.out]
    clear hs h2
    go_enter Tryz.func107,Tryz.ntmps107
    go_wp2_with (rw [<- HW1.out])
    go_quiet (first | (go_at_call 101;exact Calls.quiet_of_same (HM.out _)) | (go_at_call 133;exact Calls.quiet_of_same (HS.out _)))
    go_wp2
    go_ret
    exact⟨rfl,below_drewN HB1.out _⟩
  ·have d1:decide (0<=y)=false:=decide_eq_false h1
   have HR:Hid (fitB n k size y t=false):=decide_eq_false fun h=>h1 h.2.2.1
   rw [HR.out]
   clear hs h1
   go_enter Tryz.func107,Tryz.ntmps107
   go_wp2_with (rw [<- HW1.out])
   go_quiet (first | (go_at_call 101;exact Calls.quiet_of_same (HM.out _)) | (go_at_call 133;exact Calls.quiet_of_same (HS.out _)))
   go_wp2
   go_ret
   exact⟨rfl,below_drewN HB1.out _⟩
 ·have HS:Hid (∀ W,Calls Tryz.prog 133 #[.int .i64 size] W fun e w'=>e=.returned (.bool false)/\w'=W):=fun W=>szfits_no _ W hs
  have HR:Hid (fitB n k size y t=false):=decide_eq_false fun h=>hs ⟨h.1,h.2.1⟩
  rw [HR.out]
  clear hs
  go_enter Tryz.func107,Tryz.ntmps107
  go_wp2_with (rw [<- HW1.out])
  go_quiet (first | (go_at_call 101;exact Calls.quiet_of_same (HM.out _)) | (go_at_call 133;exact Calls.quiet_of_same (HS.out _)))
  go_wp2
  go_ret
  exact⟨rfl,below_drewN HB1.out _⟩
theorem fit_bad {n k size:Nat}{y:Int}{t:ByteArray}(hs:size<=1000):(!fitB n k (size:Int) y t)=badB (n:Int) (wideN k size) (y,t):=by
 unfold fitB badB
 rw [Int.toNat_natCast]
 by_cases h1:y < 0
 ·rw [decide_eq_false (fun h=>by omega),decide_eq_true h1];rfl
 ·by_cases h2:(n:Int)<=y
  ·rw [decide_eq_false (fun h=>by omega),decide_eq_true h2];simp
  ·by_cases h3:t.size=wideN k size
   ·rw [decide_eq_true ⟨by omega,by omega,by omega,by omega,h3⟩,decide_eq_false h1,decide_eq_false h2,decide_eq_true h3];rfl
   ·rw [decide_eq_false (fun h=>h3 h.2.2.2.2),decide_eq_false h1,decide_eq_false h2,decide_eq_false h3];rfl
theorem decode1_any (pn pk ps n k size:Nat)(y:Int)(t:ByteArray)(w:World)(hk1:1<=k)(hkn:k<=n)(hn:n<=12)(hs:size<=1000)(h1:w.cell? ⟨pn,0,none⟩=some (.int .i64 (n:Int)))(h2:w.cell? ⟨pk,0,none⟩=some (.int .i64 (k:Int)))(h3:w.cell? ⟨ps,0,none⟩=some (.int .i64 (size:Int))) :
 Calls Tryz.prog 112 (#[.agg #[.int .i64 y,.string t]] ++ #[.pointer (some ⟨pn,0,none⟩),.pointer (some ⟨pk,0,none⟩),.pointer (some ⟨ps,0,none⟩)]) w fun e w2=>e=.returned (.bool (badB (n:Int) (wideN k size) (y,t)))/\Below w.heap.size w w2:=by
 have hl1:=lt_of_cell h1
 have hl2:=lt_of_cell h2
 have hl3:=lt_of_cell h3
 have HR:Hid ((!fitB n k (size:Int) y t)=badB (n:Int) (wideN k size) (y,t)):=fit_bad hs
 rw [<- HR.out]
 obtain⟨w1,hw1⟩:∃ w1,w1=w.alloc (.cells #[.int .i64 y,.string t] 74):=⟨_,rfl⟩
 have hb1:Below w.heap.size w w1:=zBe hw1
 have HB1:Hid (Below w.heap.size w w1):=hb1
 have f0:w1.cell? ⟨w.heap.size,0,none⟩=some (.int .i64 y):=zAc hw1 rfl
 have f1:w1.cell? ⟨w.heap.size,1,none⟩=some (.string t):=zAc hw1 rfl
 have g1:w1.cell? ⟨pn,0,none⟩=some (.int .i64 (n:Int)):=(hb1.cell (p:=⟨pn,0,none⟩) hl1).trans h1
 have g2:w1.cell? ⟨pk,0,none⟩=some (.int .i64 (k:Int)):=(hb1.cell (p:=⟨pk,0,none⟩) hl2).trans h2
 have g3:w1.cell? ⟨ps,0,none⟩=some (.int .i64 (size:Int)):=(hb1.cell (p:=⟨ps,0,none⟩) hl3).trans h3
 have HW1:Hid (w1=w.alloc (.cells #[.int .i64 y,.string t] 74)):=hw1
 have HC:=cfits_any n k (size:Int) y t w1 hk1 hkn hn
 clear hw1 hb1 h1 h2 h3 HR
 generalize fitB n k (size:Int) y t=fb at *
 go_enter Tryz.func112,Tryz.ntmps112
 go_wp2_with (rw [<- HW1.out])
 refine HC.mono ?_
 rintro e w2 ⟨rfl,hb2⟩
 have HB2:Hid (Below w.heap.size w w2):=HB1.out.trans (hb2.mono HB1.out.size)
 clear HC hb2
 go_wp2
 go_ret
 exact⟨rfl,HB2.out⟩
end Go.Proofs.YtmhoiodfppdlnaaGreatDoor
