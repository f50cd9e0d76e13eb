import Derived.Test.YtghpdhegfnhmkaaGreatDoorS7
import Derived.Test.YtghpdhegfnhmkaaGreatDoorS4
import Derived.StillTailTactics
namespace Go.Proofs.YtghpdhegfnhmkaaGreatDoor
open Go.RowKit
set_option maxRecDepth 10000 in
set_option maxHeartbeats 4000000 in
theorem rencode_any (n k:Nat) (s:ByteArray) (w:World) (hk1:1<=k) (hkn:k<=n) (hn:n<=12) (hs:s.size<=3000) :
 Calls Tryz.prog 9 #[.int .i64 (n:Int),.int .i64 (k:Int),.string s] w fun e w'=>(∃ v,e=.returned v/\OwnSh w' w.heap.size v ((List.range n).map fun i=>(i,encRow (bytesOf s) k (wideN k s.size) i)))/\Below w.heap.size w w':=by
 obtain ⟨i1,hi1,hy0,hy1,hy2⟩:=info_parts shinfo
 obtain ⟨i0,hi0,hz0,hz1,hzb⟩:=info_parts u8info
 have hwd:=wideN_le (size:=s.size) hk1
 go_enter Tryz.func9,Tryz.ntmps9
 go_wp2_with fail
 refine (rwide_any k s.size _ hk1 (by omega) (by omega)).mono ?_
 rintro e w' ⟨rfl,hww⟩
 rw [hww]
 clear hww w'
 go_wp2_with fail
 refine (rspread_any n k _ (by omega) hk1 (by omega)).mono ?_
 rintro e w2 ⟨⟨p2,c2,rfl,hm2⟩,hb2⟩
 have HM2:Hid (Mat w2 p2 (spreadM k n)):=hm2
 have HB2:Hid (Below w.heap.size w w2):=hb2
 have hs2:w.heap.size<=w2.heap.size:=hb2.size
 clear hm2 hb2
 generalize hwe:wideN k s.size=wd at *
 have HWE:Hid (wideN k s.size=wd):=hwe
 clear hwe
 go_wp2
 have hsz:(bytesOf s).length=s.size:=by simp [bytesOf]
 go_loopw [9,10] (fun v x wr=>∃ i:Nat,i<=n/\x=.int .i64 i/\OwnSh wr w2.heap.size v ((List.range i).map fun i=>(i,encRow (bytesOf s) k wd i))/\Below w2.heap.size w2 wr) (fun _ x _=>n - (intOf x).toNat)
 case atStart=>exact ⟨0,by omega,rfl,World.ownsRow_nil _ _ _ _,Below.refl _ _⟩
 case round =>
  obtain ⟨i,hi,rfl,hO,hB⟩:=hrel
  obtain ⟨w3,rfl⟩:∃ w3,w3=wr:=⟨_,rfl⟩
  have HO:Hid (OwnSh w3 w2.heap.size u9 ((List.range i).map fun i=>(i,encRow (bytesOf s) k wd i))):=hO
  have HB:Hid (Below w2.heap.size w2 w3):=hB
  have hz3:w2.heap.size<=w3.heap.size:=hB.size
  clear hO hB
  by_cases hil:i < n
  ·go_wp2_with (first | (at_make;refine wpList_make_row _ rfl (.tmp 26) (.tmp 26) 76 rfl 5 i0 (byteV 0) Tryz.underlying76 hi0 hz0 hz1 rfl .i64 .i64 wd rfl rfl (by rw [hzb];omega) (by omega) ?_))
   have hmk:OwnN (w3.alloc (.cells (madeCells #[byteV 0] wd) 5)) w3.heap.size 5 w3.heap.size wd (rowFn wd (fun c=>if c < 0 then encN (bytesOf s) k wd i c k else 0)):=by
    have:=OwnN.made w3 w3.heap.size 5 wd (Nat.le_refl _) (by omega)
    rw [rowFn_congr wd _ (fun c=>if c < 0 then encN (bytesOf s) k wd i c k else 0) (fun c _=>by rw [if_neg (Nat.not_lt_zero _)])] at this
    exact this
   have hbk:Below w3.heap.size w3 (w3.alloc (.cells (madeCells #[byteV 0] wd) 5)):=(Below.refl _ _).alloc (Nat.le_refl _) _
   generalize w3.alloc (.cells (madeCells #[byteV 0] wd) 5)=w4 at hmk hbk ⊢
   have HMK:Hid (OwnN w4 w3.heap.size 5 w3.heap.size wd (rowFn wd (fun c=>if c < 0 then encN (bytesOf s) k wd i c k else 0))):=hmk
   have HBK:Hid (Below w3.heap.size w3 w4):=hbk
   clear hmk hbk
   go_loopw [12] (fun x wq=>∃ c:Nat,c<=wd/\x=.int .i64 c/\OwnN wq w3.heap.size 5 w3.heap.size wd (rowFn wd (fun d=>if d < c then encN (bytesOf s) k wd i d k else 0))/\Below w3.heap.size w3 wq) (fun x _=>wd - (intOf x).toNat)
   case atStart=>exact ⟨0,by omega,rfl,HMK.out,HBK.out⟩
   case round =>
    obtain ⟨c,hc,rfl,hON,hBq⟩:=hrel
    obtain ⟨w5,rfl⟩:∃ w5,w5=wr:=⟨_,rfl⟩
    have HON:Hid (OwnN w5 w3.heap.size 5 w3.heap.size wd (rowFn wd (fun d=>if d < c then encN (bytesOf s) k wd i d k else 0))):=hON
    have HBq:Hid (Below w3.heap.size w3 w5):=hBq
    clear hON hBq HMK HBK
    by_cases hcl:c < wd
    ·go_wp2
     go_loopw [13] (fun x wq=>∃ j:Nat,j<=k/\x=.int .i64 j/\OwnN wq w3.heap.size 5 w3.heap.size wd (rowFn wd (fun d=>if d < c then encN (bytesOf s) k wd i d k else if d=c then encN (bytesOf s) k wd i c j else 0))/\Below w3.heap.size w3 wq) (fun x _=>k - (intOf x).toNat)
     case atStart =>
      refine ⟨0,by omega,rfl,?_,HBq.out⟩
      rw [rowFn_congr wd _ (fun d=>if d < c then encN (bytesOf s) k wd i d k else 0) (fun d _=>by by_cases e:d=c <;> simp [e,encN])]
      exact HON.out
     case round =>
      obtain ⟨j,hjk,rfl,hON2,hBq2⟩:=hrel
      obtain ⟨w6,rfl⟩:∃ w6,w6=wr:=⟨_,rfl⟩
      have HON2:Hid (OwnN w6 w3.heap.size 5 w3.heap.size wd (rowFn wd (fun d=>if d < c then encN (bytesOf s) k wd i d k else if d=c then encN (bytesOf s) k wd i c j else 0))):=hON2
      have HBq2:Hid (Below w3.heap.size w3 w6):=hBq2
      clear hON2 hBq2 HON HBq
      by_cases hjl:j < k
      ·have hb:j*wd<=12*3000:=Nat.mul_le_mul (by omega) (by omega)
       have hp0:(0:Int)<=(j:Int)*(wd:Int):=by rw [<- Int.natCast_mul];omega
       have hp1:(j:Int)*(wd:Int)<=36000:=by rw [<- Int.natCast_mul];omega
       by_cases hin:j*wd+c < s.size
       ·have h2:(j:Int)*(wd:Int)+(c:Int) < (s.size:Int):=by rw [<- Int.natCast_mul];omega
        have hlr:(rowOf (spreadM k n) i).length=k:=by rw [spreadM_row k n i hil,rowFn_length]
        obtain ⟨bm,om,b1,o1,c1,hpm,hbm,hb1,hcM,hdM⟩:=HM2.out.row (i:=i) (by rw [spreadM_length];exact hil) (by rw [hlr];omega)
        subst hpm
        rw [hlr] at hcM hdM
        have toW6:∀ b o,b < w2.heap.size->w6.cell? ⟨b,o,none⟩=w2.cell? ⟨b,o,none⟩:=fun b o hb=>(HBq2.out.cell (p:=⟨b,o,none⟩) (by show b < _;omega)).trans (HB.out.cell (p:=⟨b,o,none⟩) hb)
        have q1:w6.cell? ⟨bm,om+i,none⟩=some (.slice (some ⟨b1,o1,none⟩) k c1):=(toW6 _ _ hbm).trans hcM
        have q2:w6.cell? ⟨b1,o1+j,none⟩=some (.int .u8 ((Gf.shareOf (upToL k) j i:Nat):Int)):=by rw [toW6 _ _ hb1,hdM j hjl,spreadM_row k n i hil,nth_rowFn _ _ j hjl]
        have q5:w6.cell? ⟨w3.heap.size,c,none⟩=some (.int .u8 ((encN (bytesOf s) k wd i c j:Nat):Int)):=by rw [HON2.out.cell c hcl (rowFn_length _ _),nth_rowFn _ _ c hcl,if_neg (Nat.lt_irrefl _),if_pos rfl]
        have q6:w6.frozen? ⟨w3.heap.size,c,none⟩=false:=HON2.out.free c
        have lx:=Gf.shareOf_lt (upToL k) j i
        have ly:=bytesOf_lt s (j*wd+c)
        have ls:=encN_lt (bytesOf s) k wd i c j
        have lm:=Gf.mul_lt lx (Gf.nth (bytesOf s) (j*wd+c))
        have h0:(0:Int)<=(j:Int)*(wd:Int)+(c:Int):=by omega
        have hidx:∀ W,Sem.run Tryz.prog (Instr.index 9 (.string s) (.int .i64 ((j:Int)*(wd:Int)+(c:Int)))) W=.ok (.int .u8 ((Gf.nth (bytesOf s) (j*wd+c):Nat):Int)) W:=fun W=>by
         rw [run_index_string W 9 s .i64 _ Tryz.underlying9,dif_pos ⟨h0,h2⟩]
         rw [bytesOf_nth s (j*wd+c) hin]
         congr 3
        have HX:Hid (bits .xor .u8 ((encN (bytesOf s) k wd i c j:Nat):Int) ((Gf.mul (Gf.shareOf (upToL k) j i) (Gf.nth (bytesOf s) (j*wd+c)):Nat):Int)=((encN (bytesOf s) k wd i c (j+1):Nat):Int)):=by
         show _=_
         rw [u8_xor_nat _ _ ls lm]
         show _=(((if j*wd+c < (bytesOf s).length then _ else _):Nat):Int)
         rw [if_pos (by omega)]
        have hw1:IntKind.i64.wrap ((j:Int)*(wd:Int))=(j:Int)*(wd:Int):=by rw [IntKind.wrap_i64];omega
        have hw2:IntKind.i64.wrap ((j:Int)*(wd:Int)+(c:Int))=(j:Int)*(wd:Int)+(c:Int):=by rw [IntKind.wrap_i64];omega
        have n1:w3.heap.size≠bm:=by omega
        have n2:w3.heap.size≠b1:=by omega
        clear toW6 hcM hdM hin hb
        generalize Gf.shareOf (upToL k) j i=x at q2 lx lm HX
        generalize Gf.nth (bytesOf s) (j*wd+c)=y at hidx ly lm HX
        have HON2':Hid (OwnN w6 w3.heap.size 5 w3.heap.size wd (rowFn wd (fun d=>if d < c then encN (bytesOf s) k wd i d k else if d=c then encN (bytesOf s) k wd i c j else 0))):=HON2.out
        generalize encN (bytesOf s) k wd i c j=sacc at q5 ls HX HON2'
        go_wp2
        refine wp_region_still_tail 23 (by kernel_rfl) (by kernel_rfl) ?_
        simp only [List.take_succ_cons,List.take_zero,List.drop_succ_cons,List.drop_zero]
        repeat still_step
        still_call (rmul_any x y _ lx ly)
        repeat still_step
        refine wpStill_nil ?_
        rw [HX.out]
        have HO7:Hid (OwnN (w6.drewN 1) w3.heap.size 5 w3.heap.size wd (rowFn wd (fun d=>if d < c then encN (bytesOf s) k wd i d k else if d=c then sacc else 0))):=HON2'.out.drewN 1
        have HB7:Hid (Below w3.heap.size w3 (w6.drewN 1)):=below_drewN HBq2.out 1
        have q5':(w6.drewN 1).cell? ⟨w3.heap.size,c,none⟩=some (.int .u8 (sacc:Int)):=q5
        have q6':(w6.drewN 1).frozen? ⟨w3.heap.size,c,none⟩=false:=q6
        change wpList _ _ _ _ _ (w6.drewN 1)
        generalize w6.drewN 1=w7 at HO7 HB7 q5' q6' ⊢
        clear q1 q2 q5 q6 HON2 HON2' HBq2 hidx hw1 hw2 h0 h2
        go_wp2
        go_roundw
        case rel =>
         refine ⟨j+1,by omega,by go_num,?_,HB7.out.setCell (Nat.le_refl _) _⟩
         have:=HO7.out.set c (encN (bytesOf s) k wd i c (j+1))
         rw [rowFn_congr wd (fun d=>if d < c then encN (bytesOf s) k wd i d k else if d=c then encN (bytesOf s) k wd i c (j+1) else 0) (fun d=>if d=c then encN (bytesOf s) k wd i c (j+1) else if d < c then encN (bytesOf s) k wd i d k else if d=c then sacc else 0) (fun d _=>by
          by_cases e:d=c
          ·subst e;rw [if_neg (Nat.lt_irrefl _),if_pos rfl,if_pos rfl]
          ·rw [if_neg e,if_neg e,if_neg e])]
         exact this
        case measure=>simp [intOf];omega
       ·have h2:¬ (j:Int)*(wd:Int)+(c:Int) < (s.size:Int):=by rw [<- Int.natCast_mul];omega
        have HE:Hid (encN (bytesOf s) k wd i c (j+1)=encN (bytesOf s) k wd i c j):=by
         show (if j*wd+c < (bytesOf s).length then _ else _)=_
         rw [if_neg (by omega)]
        clear hb hin
        go_wp2
        go_roundw
        case rel=>exact ⟨j+1,by omega,by go_num,by rw [HE.out];exact HON2.out,HBq2.out⟩
        case measure=>simp [intOf];omega
      ·have hke:j=k:=by omega
       subst hke
       go_wp2
       go_roundw
       case rel =>
        refine ⟨c+1,by omega,by go_num,?_,HBq2.out⟩
        rw [rowFn_congr wd _ (fun d=>if d < c then encN (bytesOf s) j wd i d j else if d=c then encN (bytesOf s) j wd i c j else 0) (fun d _=>by
         by_cases e:d < c
         ·rw [if_pos (by omega),if_pos e]
         ·by_cases e':d=c
          ·subst e';rw [if_pos (by omega),if_neg e,if_pos rfl]
          ·rw [if_neg (by omega),if_neg e,if_neg e'])]
        exact HON2.out
       case measure=>simp [intOf];omega
    ·have hce:c=wd:=by omega
     subst hce
     have hN5:OwnN w5 w3.heap.size 5 w3.heap.size c (encRow (bytesOf s) k c i):=by
      unfold encRow
      rw [rowFn_congr c _ (fun d=>if d < c then encN (bytesOf s) k c i d k else 0) (fun d hd=>by rw [if_pos hd])]
      exact HON.out
     have hcv:Sem.run Tryz.prog (convert 76 9 (.slice (some ⟨w3.heap.size,0,none⟩) c c)) w5=.ok (.string (strOf (encRow (bytesOf s) k c i))) w5:=by
      have hsg:Seg w5 (some ⟨w3.heap.size,0,none⟩) (encRow (bytesOf s) k c i):=⟨rowFn_bytes _ _ (fun d=>encN_lt _ _ _ _ _ _),Or.inr ⟨w3.heap.size,0,rfl,hN5.lt.2,fun d hd=>by
       have hd':d < c:=by unfold encRow at hd;rw [rowFn_length] at hd;exact hd
       rw [Nat.zero_add]
       exact hN5.cell d hd' (rowFn_length _ _)⟩⟩
      have:=conv_seg hsg c
      rw [show (encRow (bytesOf s) k c i).length=c from rowFn_length _ _] at this
      exact this
     have hz5:w3.heap.size<=w5.heap.size:=HBq.out.size
     have HO5:Hid (OwnSh w5 w2.heap.size u9 ((List.range i).map fun i=>(i,encRow (bytesOf s) k c i))):=World.ownsRow.kept HO.out (⟨HBq.out.os,HBq.out.tape,HBq.out.output,HBq.out.size,fun k hk _=>HBq.out.block k hk⟩:w3.grownBy w5 none) (by cases hv:u9.ownBlock <;> simp)
     have HW5:Hid (Below w2.heap.size w2 w5):=HB.out.trans (HBq.out.mono hz3)
     have HL:Hid (((List.range i).map fun i=>(i,encRow (bytesOf s) k c i)).length=i):=by show _=_;simp
     clear hN5 HON
     have HR:Hid ((List.range (i+1)).map (fun i=>(i,encRow (bytesOf s) k c i))=((List.range i).map fun i=>(i,encRow (bytesOf s) k c i)) ++ [(i,encRow (bytesOf s) k c i)]):=by show _=_;simp [List.range_succ]
     generalize encRow (bytesOf s) k c i=row at hcv HR
     generalize ((List.range i).map fun i=>(i,encRow (bytesOf s) k c i))=pre at HO5 HL HR
     go_wp2_with (first | (at_builtin;refine wpList_append_own _ rfl (.tmp 69) (.tmp 74) 32 rfl w2.heap.size 45 i1 (.agg #[.int .i64 0,.string ⟨#[]⟩]) 2 24 Tryz.underlying32 hi1 hy0 hy1 hy2 rfl (by decide) u9 pre.length (shCells pre) rfl (World.ownsRow.alloc HO5.out _) ⟨w5.heap.size,0,none⟩ 1 1 [.int .i64 (i:Int),.string (strOf row)] rfl rfl (fun j u hj=>by match j,hj with | 0,hj=>(simp at hj;subst hj;simp [Addr.add]) | 1,hj=>(simp at hj;subst hj;simp [Addr.add])) (fun u hu=>by simp at hu;rcases hu with rfl | rfl <;> rfl) (by rw [HL.out];unfold maxLen;omega) (by rw [HL.out];omega) (by simp;omega) ?_;intro v' w8 hown' hg' _))
     have hb8:Below w2.heap.size w2 w8:=(HW5.out.alloc (by omega) _).grown hg' (by simp;omega) (fun g hg=>(World.ownsRow.lt HO5.out g hg).1)
     have hO8:=OwnSh.snoc hown' rfl
     go_roundw
     case rel=>exact ⟨i+1,by omega,by go_num,by rw [HR.out];exact hO8,hb8⟩
     case measure=>simp [intOf];omega
  ·have hie:i=n:=by omega
   subst hie
   have HF:Hid (OwnSh w3 w.heap.size u9 ((List.range i).map fun j=>(j,encRow (bytesOf s) k (wideN k s.size) j))):=by
    show OwnSh _ _ _ _
    rw [HWE.out]
    obtain ⟨h1,h2⟩:=HO.out
    refine ⟨h1,?_⟩
    rcases h2 with h2 | ⟨g',cap,cur,e,hbb,rest⟩
    ·exact Or.inl h2
    ·exact Or.inr ⟨g',cap,cur,e,Nat.le_trans hs2 hbb,rest⟩
   have HBF:Hid (Below w.heap.size w w3):=HB2.out.trans (HB.out.mono hs2)
   clear HO HB
   go_wp2
   go_ret
   exact ⟨⟨_,rfl,HF.out⟩,HBF.out⟩
end Go.Proofs.YtghpdhegfnhmkaaGreatDoor
