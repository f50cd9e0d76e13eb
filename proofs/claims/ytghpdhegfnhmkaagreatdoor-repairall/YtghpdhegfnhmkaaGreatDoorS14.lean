import Derived.Test.YtghpdhegfnhmkaaGreatDoorS7
import Derived.Test.YtghpdhegfnhmkaaGreatDoorS6
import Derived.Test.YtghpdhegfnhmkaaGreatDoorS12
import Derived.StillTailTactics
namespace Go.Proofs.YtghpdhegfnhmkaaGreatDoor
open Go.RowKit
theorem rowlen {M:List (List Nat)} (hM:IsMat M) {i:Nat} (hi:i < M.length):(rowOf M i).length=(rowOf M 0).length:=(hM.2.2 i hi).2.2
set_option maxRecDepth 10000 in
set_option maxHeartbeats 2000000 in
theorem times1_any (pa pb i j ca cb:Nat) (a b:Option Addr) (A B:List (List Nat)) (w:World) (hA:IsMat A) (hB:IsMat B) (hk:(rowOf A 0).length=B.length) (hi:i < A.length) (hj:j < (rowOf B 0).length) (hpa:w.cell? ⟨pa,0,none⟩=some (.slice a A.length ca)) (hpb:w.cell? ⟨pb,0,none⟩=some (.slice b B.length cb)) (mA:Mat w a A) (mB:Mat w b B) (bA:BytesM A) (bB:BytesM B) :
 Calls Tryz.prog 138 #[.int .i64 (i:Int),.int .i64 (j:Int),.pointer (some ⟨pb,0,none⟩),.pointer (some ⟨pa,0,none⟩)] w fun e w'=>e=.returned (.int .u8 ((dotN A B i j B.length:Nat):Int))/\Below w.heap.size w w':=by
 have l2:B.length<=16:=hB.2.1
 have ha:=lt_of_cell hpa
 have hb:=lt_of_cell hpb
 obtain ⟨w1,hw1⟩:∃ w1,w1=(w.alloc (.cells #[.int .i64 (i:Int)] 3)).alloc (.cells #[.int .i64 (j:Int)] 3):=⟨_,rfl⟩
 have hb1:Below w.heap.size w w1:=by rw [hw1];exact ((Below.refl _ _).alloc (Nat.le_refl _) _).alloc (by simp) _
 have hs1:w1.heap.size=w.heap.size+2:=by rw [hw1];simp
 have hI1:w1.cell? ⟨w.heap.size,0,none⟩=some (.int .i64 (i:Int)):=by rw [hw1,World.cell?_alloc_past _ _ _ (by simp),World.cell?_alloc_at _ _ _ _ rfl];rfl
 have hJ1:w1.cell? ⟨w.heap.size+1,0,none⟩=some (.int .i64 (j:Int)):=by rw [hw1,World.cell?_alloc_at _ _ _ _ (by simp)];rfl
 have hA1:w1.cell? ⟨pa,0,none⟩=some (.slice a A.length ca):=(hb1.cell (p:=⟨pa,0,none⟩) ha).trans hpa
 have hB1:w1.cell? ⟨pb,0,none⟩=some (.slice b B.length cb):=(hb1.cell (p:=⟨pb,0,none⟩) hb).trans hpb
 have hB2:((w.alloc (.cells #[.int .i64 (i:Int)] 3)).alloc (.cells #[.int .i64 (j:Int)] 3)).cell? ⟨pb,0,none⟩=some (.slice b B.length cb):=by rw [<- hw1];exact hB1
 have HC:Hid (∀ l,l < B.length->∀ w2,Below w1.heap.size w1 w2->Calls Tryz.prog 140 (#[.int .i64 (l:Int)] ++ #[.pointer (some ⟨pa,0,none⟩),.pointer (some ⟨w.heap.size,0,none⟩),.pointer (some ⟨pb,0,none⟩),.pointer (some ⟨w.heap.size+1,0,none⟩)]) w2 fun e w3=>e=.returned (.int .u8 ((Gf.mul (Gf.nth (rowOf A i) l) (Gf.nth (rowOf B l) j):Nat):Int))/\Below w2.heap.size w2 w3):=by
  intro l hl w2 h2
  exact times11_any pa w.heap.size pb (w.heap.size+1) i j l ca cb a b A B w2 hi (by rw [rowlen hA hi,hk];exact hl) hl (by rw [rowlen hB hl];exact hj) ((h2.cell (p:=⟨pa,0,none⟩) (by show pa < _;omega)).trans hA1) ((h2.cell (p:=⟨pb,0,none⟩) (by show pb < _;omega)).trans hB1) ((h2.cell (p:=⟨w.heap.size,0,none⟩) (by show w.heap.size < _;omega)).trans hI1) ((h2.cell (p:=⟨w.heap.size+1,0,none⟩) (by show w.heap.size+1 < _;omega)).trans hJ1) ((mA.below hb1).below h2) ((mB.below hb1).below h2) bA bB
 have HS:=sum_any B.length (fun l=>Gf.mul (Gf.nth (rowOf A i) l) (Gf.nth (rowOf B l) j)) 140 #[.pointer (some ⟨pa,0,none⟩),.pointer (some ⟨w.heap.size,0,none⟩),.pointer (some ⟨pb,0,none⟩),.pointer (some ⟨w.heap.size+1,0,none⟩)] w1 (by omega) (fun l=>Gf.mul_lt (bA i l) _) (enters_of Tryz.func140 (by kernel_rfl) rfl) (dotN A B i j) rfl (fun _=>rfl) (dotN_lt A B bA i j) HC.out
 have HW1:Hid (w1=(w.alloc (.cells #[.int .i64 (i:Int)] 3)).alloc (.cells #[.int .i64 (j:Int)] 3)):=hw1
 have HB1:Hid (Below w.heap.size w w1):=hb1
 clear hA hB hk hw1 hb1 hI1 hJ1 hA1 hB1 mA mB hpa hpb bA bB HC
 go_enter Tryz.func138,Tryz.ntmps138
 go_wp2_with (go_at_call 139;rw [<- HW1.out];refine HS.mono ?_;rintro e w2 ⟨rfl,hb2⟩)
 go_ret
 exact ⟨rfl,HB1.out.trans (hb2.mono (by omega))⟩
set_option maxRecDepth 10000 in
set_option maxHeartbeats 4000000 in
theorem mtimes_ok (a b:Option Addr) (A B:List (List Nat)) (ca cb:Nat) (w:World) (hA:IsMat A) (hB:IsMat B) (hk:(rowOf A 0).length=B.length) (bA:BytesM A) (bB:BytesM B) (mA:Mat w a A) (mB:Mat w b B) :
 Calls Tryz.prog 127 #[.slice a A.length ca,.slice b B.length cb] w fun e w'=>(∃ gm,e=.returned (.tuple #[.slice (some ⟨gm,0,none⟩) A.length A.length,.nilIface])/\Mat w' (some ⟨gm,0,none⟩) (prodM A B A.length))/\Below w.heap.size w w':=by
 have la1:1<=A.length:=hA.1
 have la2:A.length<=16:=hA.2.1
 have lb1:1<=B.length:=hB.1
 have lb2:B.length<=16:=hB.2.1
 have nb1:1<=(rowOf B 0).length:=(hB.2.2 0 (by omega)).1
 have nb2:(rowOf B 0).length<=16:=(hB.2.2 0 (by omega)).2.1
 have HA:Hid (IsMat A):=hA
 have HBm:Hid (IsMat B):=hB
 have BA:Hid (BytesM A):=bA
 have BB:Hid (BytesM B):=bB
 obtain ⟨w1,hw1⟩:∃ w1,w1=(w.alloc (.cells #[.slice a A.length ca] 74)).alloc (.cells #[.slice b B.length cb] 74):=⟨_,rfl⟩
 have hb1:Below w.heap.size w w1:=by rw [hw1];exact ((Below.refl _ _).alloc (Nat.le_refl _) _).alloc (by simp) _
 have hs1:w1.heap.size=w.heap.size+2:=by rw [hw1];simp
 have hA1:w1.cell? ⟨w.heap.size,0,none⟩=some (.slice a A.length ca):=by rw [hw1,World.cell?_alloc_past _ _ _ (by simp),World.cell?_alloc_at _ _ _ _ rfl];rfl
 have hB1:w1.cell? ⟨w.heap.size+1,0,none⟩=some (.slice b B.length cb):=by rw [hw1,World.cell?_alloc_at _ _ _ _ (by simp)];rfl
 have MA1:Hid (Mat w1 a A):=mA.below hb1
 have MB1:Hid (Mat w1 b B):=mB.below hb1
 have HK:Hid ((rowOf A 0).length=B.length):=hk
 have HCB:Hid (∀ W:World,Below w1.heap.size w1 W->∀ i j,i < A.length->j < (rowOf B 0).length->∀ w2,Below W.heap.size W w2->Calls Tryz.prog 138 (#[.int .i64 (i:Int),.int .i64 (j:Int)] ++ #[.pointer (some ⟨w.heap.size+1,0,none⟩),.pointer (some ⟨w.heap.size,0,none⟩)]) w2 fun e w3=>e=.returned (.int .u8 ((dotN A B i j B.length:Nat):Int))/\Below w2.heap.size w2 w3):=by
  intro W hW i j hi hj w2 h2
  have h12:Below w1.heap.size w1 w2:=hW.trans (h2.mono hW.size)
  exact times1_any w.heap.size (w.heap.size+1) i j ca cb a b A B w2 HA.out HBm.out HK.out hi hj ((h12.cell (p:=⟨w.heap.size,0,none⟩) (by show w.heap.size < _;omega)).trans hA1) ((h12.cell (p:=⟨w.heap.size+1,0,none⟩) (by show w.heap.size+1 < _;omega)).trans hB1) (MA1.out.below h12) (MB1.out.below h12) BA.out BB.out
 obtain ⟨a1,a2,a3,a4,a5,rfl,ha1,_,ha6,_⟩:=MA1.out.row (i:=0) (by omega) (by rw [hk];omega)
 obtain ⟨b1,b2,b3,b4,b5,rfl,hb6,_,hb7,_⟩:=MB1.out.row (i:=0) (by omega) (by omega)
 rw [hk] at ha6
 have cA:w1.cell? ⟨a1,a2,none⟩=some (.slice (some ⟨a3,a4,none⟩) B.length a5):=ha6
 have cB:w1.cell? ⟨b1,b2,none⟩=some (.slice (some ⟨b3,b4,none⟩) (rowOf B 0).length b5):=hb7
 have HB1:Hid (Below w.heap.size w w1):=hb1
 have HW1:Hid (w1=(w.alloc (.cells #[.slice (some ⟨a1,a2,none⟩) A.length ca] 74)).alloc (.cells #[.slice (some ⟨b1,b2,none⟩) B.length cb] 74)):=hw1
 have ia:(0:Int) < (A.length:Int):=by omega
 have ib:(0:Int) < (B.length:Int):=by omega
 have na:0 < A.length:=by omega
 have nb:0 < B.length:=by omega
 clear hA hB hk bA bB mA mB hb1 hw1 ha6 hb7
 go_enter Tryz.func127,Tryz.ntmps127
 go_wp2_with fail
 rw [<- HW1.out]
 refine wp_region_still_lit (by kernel_rfl) (by kernel_rfl) ?_
 repeat still_step
 still_call (check_ok _ A ca _ HA.out (MA1.out.drewN 1))
 repeat still_step
 still_call (check_ok _ B cb _ HBm.out (MB1.out.drewN 1))
 repeat still_step
 refine wpStill_nil ?_
 change Exit.then _ _ _ _ (w1.drewN 1)
 have hbq:Below w1.heap.size w1 (w1.drewN 1):=below_drewN (Below.refl _ _) _
 have qA:(w1.drewN 1).cell? ⟨w.heap.size,0,none⟩=some (.slice (some ⟨a1,a2,none⟩) A.length ca):=hA1
 have qB:(w1.drewN 1).cell? ⟨w.heap.size+1,0,none⟩=some (.slice (some ⟨b1,b2,none⟩) B.length cb):=hB1
 have qC:(w1.drewN 1).cell? ⟨b1,b2,none⟩=some (.slice (some ⟨b3,b4,none⟩) (rowOf B 0).length b5):=cB
 generalize w1.drewN 1=w2 at hbq qA qB qC ⊢
 have HBQ:Hid (Below w1.heap.size w1 w2):=hbq
 have hs2:w1.heap.size<=w2.heap.size:=hbq.size
 clear hbq cA cB
 go_wp2_with fail
 refine wp_region_still_tail 7 (by kernel_rfl) (by kernel_rfl) ?_
 simp only [List.take_succ_cons,List.take_zero,List.drop_succ_cons,List.drop_zero]
 repeat still_step
 refine wpStill_nil ?_
 have hbd:Below w1.heap.size w1 (w2.drewN 1):=below_drewN HBQ.out 1
 change wpList _ _ _ _ _ (w2.drewN 1)
 generalize w2.drewN 1=w3 at hbd ⊢
 have HBD:Hid (Below w1.heap.size w1 w3):=hbd
 have hs3:w1.heap.size<=w3.heap.size:=hbd.size
 clear hbd qA qB qC
 go_wp2_with (go_at_call 118;refine (build_any A.length (rowOf B 0).length (fun i j=>dotN A B i j B.length) 138 #[.pointer (some ⟨w.heap.size+1,0,none⟩),.pointer (some ⟨w.heap.size,0,none⟩)] w3 (by omega) (by omega) (enters_of Tryz.func138 (by kernel_rfl) rfl) (HCB.out w3 HBD.out)).mono ?_;rintro e w4 ⟨⟨gm,gs,rfl,hG4⟩,hb4⟩)
 go_ret2
 exact ⟨⟨gm,rfl,hG4.mat (fun i j=>dotN_lt A B BA.out i j _) A.length (Nat.le_refl _)⟩,(HB1.out.trans (HBD.out.mono (by omega))).trans (hb4.mono (by omega))⟩
end Go.Proofs.YtghpdhegfnhmkaaGreatDoor
