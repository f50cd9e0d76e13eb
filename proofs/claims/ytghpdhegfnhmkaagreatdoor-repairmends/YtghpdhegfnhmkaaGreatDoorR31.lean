import Derived.Test.YtghpdhegfnhmkaaGreatDoorR21
import Derived.Test.YtghpdhegfnhmkaaGreatDoorR29
import Derived.Test.YtghpdhegfnhmkaaGreatDoorR8
namespace Go.Proofs.YtghpdhegfnhmkaaGreatDoor
open Go.RowKit
theorem strOf_append (l m:List Nat):strOf l ++ strOf m=strOf (l ++ m):=by
 rw [strOf_mk,strOf_mk,strOf_mk]
 apply ByteArray.ext
 simp [byteL]
def basL (X:List Nat) (j m:Nat):List Nat:=rowFn m fun i=>Gf.shareOf X i j
theorem basL_succ (X:List Nat) (j m:Nat):basL X j (m+1)=basL X j m ++ [Gf.shareOf X m j]:=by simp [basL,rowFn,List.range_succ]
theorem basL_length (X:List Nat) (j m:Nat):(basL X j m).length=m:=rowFn_length _ _
theorem basL_bytes (X:List Nat) (j m:Nat):Gf.Bytes (basL X j m):=rowFn_bytes _ _ fun _=>Gf.shareOf_lt _ _ _
set_option maxRecDepth 10000 in
set_option maxHeartbeats 16000000 in
theorem rdecode_ok (n k size:Nat) (p:Option Addr) (l:List (Int×ByteArray)) (cap:Nat) (w:World) (hk1:1<=k) (hkn:k<=n) (hn:n<=12) (hsz:size<=1000) (hl:l.length<=1000) (ht:∀ i,(shAt l i).2.size<=100000) (hf:Fits n k size l) (hs:Shs w p l) :
 Calls Tryz.prog 67 #[.int .i64 (n:Int),.int .i64 (k:Int),.int .i64 (size:Int),.slice p l.length cap] w fun e w'=>e=.returned (.tuple #[.string (decT k size (pickN k l l.length)),.int .i64 0])/\Below w.heap.size w w':=by
 have hwd:=wideN_le (size:=size) hk1
 obtain ⟨i0,hi0,hz0,hz1,hzb⟩:=info_parts u8info
 have HSO:=rsome_any n k size p l cap w hk1 hkn hn hsz hl ht hs
 have HWD:Hid (∀ W,Calls Tryz.prog 28 #[.int .i64 (k:Int),.int .i64 (size:Int)] W fun e w'=>e=.returned (.int .i64 ((wideN k size:Nat):Int))/\w'=W):=fun W=>rwide_any k size W hk1 (by omega) (by omega)
 have HSZ:Hid (∀ x ∈ pickN k l l.length,0<=x.1/\x.1 < n/\x.2.size=wideN k size):=fun x hx=>hf.at_ (pickN_sub k l l.length (Nat.le_refl _) x hx)
 have HMUL:Hid (size<=k*wideN k size):=wide_mul hk1
 have HX:Hid ((∀ x ∈ atsN (pickN k l l.length),x < n)/\(atsN (pickN k l l.length)).Nodup/\(atsN (pickN k l l.length)).length=k):=hf.ats
 have HLEN:Hid ((pickN k l l.length).length=k):=hf.enough
 have HGOOD:Hid (l.any (badB (n:Int) (wideN k size))=false):=hf.good
 have HDT:Hid (decT k size (pickN k l l.length)=strOf (rowFn size fun p=>rsumN (invN (atsN (pickN k l l.length))) (txtN (pickN k l l.length)) (p / wideN k size) (p % wideN k size) k)):=by show _=_;rfl
 unfold Somed at HSO
 clear hf hs ht
 generalize decT k size (pickN k l l.length)=dt at HDT ⊢
 generalize wideN k size=wd at *
 generalize pickN k l l.length=so at *
 have hmk:∀ W:World,Sem.run Tryz.prog (Instr.makeSlice 76 (.int .i64 (wd:Int)) (.int .i64 (wd:Int))) W=.ok (.slice (some ⟨W.heap.size,0,none⟩) wd wd) (W.alloc (.cells (madeCells #[byteV 0] wd) 5)):=fun W=>run_make_row (P:=Tryz.prog) 76 5 i0 (byteV 0) Tryz.underlying76 hi0 hz0 hz1 rfl .i64 .i64 wd (by rw [hzb];omega) (by omega) W
 go_enter Tryz.func67,Tryz.ntmps67
 go_wp2_with fail
 refine HSO.mono ?_
 rintro e w1 ⟨⟨v,c,rfl,hcase⟩,hb1⟩
 rcases hcase with ⟨_,_,hbad⟩ | ⟨_,_,_,hfew⟩ | ⟨hc0,_,_,p1,c1,hv,hs1⟩
 ·exact absurd hbad (by rw [HGOOD.out];decide)
 ·exact absurd hfew (by rw [HLEN.out];exact Nat.lt_irrefl _)
 subst hc0 hv
 rcases hs1 with h0 | ⟨b1,o1,hp1,hlb1,hcs⟩
 ·exact absurd HLEN.out (by rw [h0];simp;omega)
 subst hp1
 have HCS:Hid (∀ i,i < so.length->w1.cell? ⟨b1,o1+i*2,none⟩=some (.int .i64 (shAt so i).1)/\w1.cell? ⟨b1,o1+i*2+1,none⟩=some (.string (shAt so i).2)):=hcs
 have HB1:Hid (Below w.heap.size w w1):=hb1
 clear HSO hb1 hcs HGOOD
 have HXB:Hid (Gf.Bytes (atsN so)):=fun j=>by
  by_cases hj:j < (atsN so).length
  ·have:=HX.out.1 (Gf.nth (atsN so) j) (by rw [Gf.nth_getElem _ j hj];exact List.getElem_mem _)
   omega
  ·rw [nth_past (by omega)];decide
 go_wp2
 go_loopw [12,13] (fun v x wr=>∃ i:Nat,i<=k/\x=.int .i64 i/\Own wr w1.heap.size 5 v ((atsN so).take i)/\Below w1.heap.size w1 wr) (fun _ x _=>k - (intOf x).toNat)
 case atStart=>exact ⟨0,by omega,rfl,by rw [List.take_zero];exact Own.nil _ _ _,Below.refl _ _⟩
 case round =>
  obtain ⟨i,hi,rfl,hO,hB⟩:=hrel
  obtain ⟨w2,rfl⟩:∃ w2,w2=wr:=⟨_,rfl⟩
  have HO:Hid (Own w2 w1.heap.size 5 u12 ((atsN so).take i)):=hO
  have HB:Hid (Below w1.heap.size w1 w2):=hB
  have hz2:w1.heap.size<=w2.heap.size:=hB.size
  have htl:((atsN so).take i).length=i:=by rw [List.length_take,HX.out.2.2];omega
  have HTL:Hid (((atsN so).take i).length=i):=htl
  clear hO hB htl
  by_cases hil:i < k
  ·have hm:shAt so i ∈ so:=shAt_mem (by rw [HLEN.out];exact hil)
   have hx:=HSZ.out _ hm
   have hnx:Gf.nth (atsN so) i=(shAt so i).1.toNat:=nth_ats (by rw [HLEN.out];exact hil)
   have hxe:(shAt so i).1=((Gf.nth (atsN so) i:Nat):Int):=by rw [hnx];omega
   have hxn:Gf.nth (atsN so) i < n:=by rw [hnx];omega
   have q1:w2.cell? ⟨b1,o1+i*2,none⟩=some (.int .i64 ((Gf.nth (atsN so) i:Nat):Int)):=by
    rw [HB.out.cell (p:=⟨b1,o1+i*2,none⟩) hlb1,(HCS.out i (by rw [HLEN.out];exact hil)).1,hxe]
   have HTK:Hid ((atsN so).take (i+1)=(atsN so).take i ++ [Gf.nth (atsN so) i]):=Gf.take_nth _ i (by rw [HX.out.2.2];exact hil)
   clear hnx hxe hx hm
   generalize Gf.nth (atsN so) i=x at q1 hxn HTK
   generalize (atsN so).take i=xs at *
   have hxl:xs.length<=12:=by rw [HTL.out];omega
   go_wp2_with (first | (at_builtin;refine wpList_append_byte rfl (.tmp 38) (.tmp 45) 76 rfl w1.heap.size 5 i0 Tryz.underlying76 hi0 hz0 hz1 hzb u12 xs rfl (HO.out.kept (World.grownBy_alloc w2 _ none) (by cases hv:u12.ownBlock <;> simp)) ⟨w2.heap.size,0,none⟩ 1 x rfl (by simp [byteV]) (by omega) (by simp;omega) ?_;intro v1 w3 hX hgX _))
   have hb3:Below w1.heap.size w1 w3:=(HB.out.alloc hz2 _).grown hgX (by simp;omega) (fun k' hk'=>(HO.out.block hk').1)
   go_roundw
   case rel=>exact ⟨i+1,by omega,by go_num,by rw [HTK.out];exact hX,hb3⟩
   case measure=>simp [intOf];omega
  ·have hie:k=i:=by omega
   subst hie
   have htk:(atsN so).take k=atsN so:=List.take_of_length_le (by rw [HX.out.2.2];exact Nat.le_refl _)
   obtain ⟨pX,cX,hvX,hsX⟩:=(show Own w2 w1.heap.size 5 u12 (atsN so) by rw [<- htk];exact HO.out).seg HXB.out
   rw [HX.out.2.2] at hvX
   subst hvX
   have HSX:Hid (Seg w2 pX (atsN so)):=hsX
   clear htk hsX HO HTL
   go_wp2
   go_loopw [14,15] (fun v x wr=>∃ j:Nat,j<=k/\x=.int .i64 j/\v=.string (strOf (catN (fun q c=>rsumN (invN (atsN so)) (txtN so) q c k) wd j))/\Below w2.heap.size w2 wr) (fun _ x _=>k - (intOf x).toNat)
   case atStart=>exact ⟨0,by omega,rfl,rfl,Below.refl _ _⟩
   case round =>
    obtain ⟨j,hj,rfl,rfl,hB3⟩:=hrel
    obtain ⟨w3,rfl⟩:∃ w3,w3=wr:=⟨_,rfl⟩
    have HB3:Hid (Below w2.heap.size w2 w3):=hB3
    have hz3:w2.heap.size<=w3.heap.size:=hB3.size
    clear hB3
    by_cases hjl:j < k
    ·go_wp2
     go_loopw [16,17] (fun v x wq=>∃ m:Nat,m<=k/\x=.int .i64 m/\Own wq w3.heap.size 5 v (basL (atsN so) j m)/\Below w3.heap.size w3 wq) (fun _ x _=>k - (intOf x).toNat)
     case atStart=>exact ⟨0,by omega,rfl,Own.nil _ _ _,Below.refl _ _⟩
     case round =>
      obtain ⟨m,hm,rfl,hO4,hB4⟩:=hrel
      obtain ⟨w4,rfl⟩:∃ w4,w4=wr:=⟨_,rfl⟩
      have HO4:Hid (Own w4 w3.heap.size 5 u16 (basL (atsN so) j m)):=hO4
      have HB4:Hid (Below w3.heap.size w3 w4):=hB4
      have hz4:w3.heap.size<=w4.heap.size:=hB4.size
      clear hO4 hB4
      by_cases hml:m < k
      ·have hbs:=basis_any pX (atsN so) cX m j w4 (by omega) (by rw [HX.out.2.2];omega) (by rw [HX.out.2.2];exact hml) HX.out.2.1 ((HSX.out.below HB3.out).below HB4.out)
       rw [HX.out.2.2] at hbs
       have HSU:Hid (basL (atsN so) j (m+1)=basL (atsN so) j m ++ [Gf.shareOf (atsN so) m j]):=basL_succ _ _ _
       have hbl:(basL (atsN so) j m).length<=12:=by rw [basL_length];omega
       go_wp2_with fail
       refine hbs.mono ?_
       rintro e w5 ⟨rfl,q,hw5⟩
       have HO5:Hid (Own w5 w3.heap.size 5 u16 (basL (atsN so) j m)):=by rw [hw5];exact HO4.out.kept (grownBy_drewN w4 q none) (by cases hv:u16.ownBlock <;> simp)
       have HB5:Hid (Below w3.heap.size w3 w5):=by rw [hw5];exact below_drewN HB4.out q
       have hz5:w3.heap.size<=w5.heap.size:=HB5.out.size
       clear hw5 hbs HO4 HB4
       generalize Gf.shareOf (atsN so) m j=y at HSU ⊢
       generalize basL (atsN so) j m=bl at *
       go_wp2_with (first | (at_builtin;refine wpList_append_byte rfl (.tmp 62) (.tmp 64) 76 rfl w3.heap.size 5 i0 Tryz.underlying76 hi0 hz0 hz1 hzb u16 bl rfl (HO5.out.kept (World.grownBy_alloc w5 _ none) (by cases hv:u16.ownBlock <;> simp)) ⟨w5.heap.size,0,none⟩ 1 y rfl (by simp [byteV]) (by omega) (by simp;omega) ?_;intro v1 w6 hX6 hgX _))
       have hb6:Below w3.heap.size w3 w6:=(HB5.out.alloc hz5 _).grown hgX (by simp;omega) (fun k' hk'=>(HO5.out.block hk').1)
       go_roundw
       case rel=>exact ⟨m+1,by omega,by go_num,by rw [HSU.out];exact hX6,hb6⟩
       case measure=>simp [intOf];omega
      ·have hme:k=m:=by omega
       subst hme
       obtain ⟨pB,cB,hvB,hsB⟩:=HO4.out.seg (basL_bytes (atsN so) j k)
       rw [basL_length] at hvB
       subst hvB
       rcases hsB.cells with h0 | ⟨bb,ob,hpB,hlbb,hcb⟩
       ·exact absurd (congrArg List.length h0) (by rw [basL_length];simp;omega)
       subst hpB
       have HCB:Hid (∀ i,i < k->w4.cell? ⟨bb,ob+i,none⟩=some (.int .u8 ((Gf.shareOf (atsN so) i j:Nat):Int))):=fun i hi=>by
        rw [hcb i (by rw [basL_length];exact hi)]
        unfold basL
        rw [nth_rowFn _ _ i hi]
       clear hsB hcb HO4
       go_wp2_with fail
       refine (HWD.out _).mono ?_
       rintro e w4' ⟨rfl,hww⟩
       rw [hww]
       clear hww w4'
       go_wp2
       have hmkN:OwnN (w4.alloc (.cells (madeCells #[byteV 0] wd) 5)) w4.heap.size 5 w4.heap.size wd (rowFn wd (fun c=>if c < 0 then rsumN (invN (atsN so)) (txtN so) j c k else 0)):=by
        have:=OwnN.made w4 w4.heap.size 5 wd (Nat.le_refl _) (by omega)
        rw [rowFn_congr wd _ (fun c=>if c < 0 then rsumN (invN (atsN so)) (txtN so) j c k else 0) (fun c _=>by rw [if_neg (Nat.not_lt_zero _)])] at this
        exact this
       have hbk:Below w4.heap.size w4 (w4.alloc (.cells (madeCells #[byteV 0] wd) 5)):=(Below.refl _ _).alloc (Nat.le_refl _) _
       generalize w4.alloc (.cells (madeCells #[byteV 0] wd) 5)=w5 at hmkN hbk ⊢
       have HMK:Hid (OwnN w5 w4.heap.size 5 w4.heap.size wd (rowFn wd (fun c=>if c < 0 then rsumN (invN (atsN so)) (txtN so) j c k else 0))):=hmkN
       have HBK:Hid (Below w4.heap.size w4 w5):=hbk
       clear hmkN hbk
       go_loopw [20] (fun x wq=>∃ c:Nat,c<=wd/\x=.int .i64 c/\OwnN wq w4.heap.size 5 w4.heap.size wd (rowFn wd (fun d=>if d < c then rsumN (invN (atsN so)) (txtN so) j d k else 0))/\Below w4.heap.size w4 wq) (fun x _=>wd - (intOf x).toNat)
       case atStart=>exact ⟨0,by omega,rfl,HMK.out,HBK.out⟩
       case round =>
        obtain ⟨c,hc,rfl,hON,hBq⟩:=hrel
        obtain ⟨w6,rfl⟩:∃ w6,w6=wr:=⟨_,rfl⟩
        have HON:Hid (OwnN w6 w4.heap.size 5 w4.heap.size wd (rowFn wd (fun d=>if d < c then rsumN (invN (atsN so)) (txtN so) j d k else 0))):=hON
        have HBq:Hid (Below w4.heap.size w4 w6):=hBq
        clear hON hBq HMK HBK
        by_cases hcl:c < wd
        ·go_wp2
         go_loopw [21] (fun x wq=>∃ i:Nat,i<=k/\x=.int .i64 i/\OwnN wq w4.heap.size 5 w4.heap.size wd (rowFn wd (fun d=>if d < c then rsumN (invN (atsN so)) (txtN so) j d k else if d=c then rsumN (invN (atsN so)) (txtN so) j c i else 0))/\Below w4.heap.size w4 wq) (fun x _=>k - (intOf x).toNat)
         case atStart =>
          refine ⟨0,by omega,rfl,?_,HBq.out⟩
          rw [rowFn_congr wd _ (fun d=>if d < c then rsumN (invN (atsN so)) (txtN so) j d k else 0) (fun d _=>by by_cases e:d=c <;> simp [e,rsumN])]
          exact HON.out
         case round =>
          obtain ⟨i,hi,rfl,hON2,hBq2⟩:=hrel
          obtain ⟨w7,rfl⟩:∃ w7,w7=wr:=⟨_,rfl⟩
          have HON2:Hid (OwnN w7 w4.heap.size 5 w4.heap.size wd (rowFn wd (fun d=>if d < c then rsumN (invN (atsN so)) (txtN so) j d k else if d=c then rsumN (invN (atsN so)) (txtN so) j c i else 0))):=hON2
          have HBq2:Hid (Below w4.heap.size w4 w7):=hBq2
          clear hON2 hBq2 HON HBq
          by_cases hil2:i < k
          ·have hil3:i < so.length:=by rw [HLEN.out];exact hil2
           have q2:w7.cell? ⟨bb,ob+i,none⟩=some (.int .u8 ((Gf.shareOf (atsN so) i j:Nat):Int)):=(HBq2.out.cell (p:=⟨bb,ob+i,none⟩) hlbb).trans (HCB.out i hil2)
           have q3:w7.cell? ⟨b1,o1+i*2+1,none⟩=some (.string (shAt so i).2):=by
            rw [HBq2.out.cell (p:=⟨b1,o1+i*2+1,none⟩) (by show b1 < _;omega),HB4.out.cell (p:=⟨b1,o1+i*2+1,none⟩) (by show b1 < _;omega),HB3.out.cell (p:=⟨b1,o1+i*2+1,none⟩) (by show b1 < _;omega),HB.out.cell (p:=⟨b1,o1+i*2+1,none⟩) hlb1]
            exact (HCS.out i hil3).2
           have q5:w7.cell? ⟨w4.heap.size,c,none⟩=some (.int .u8 ((rsumN (invN (atsN so)) (txtN so) j c i:Nat):Int)):=by rw [HON2.out.cell c hcl (rowFn_length _ _),nth_rowFn _ _ c hcl,if_neg (Nat.lt_irrefl _),if_pos rfl]
           have q6:w7.frozen? ⟨w4.heap.size,c,none⟩=false:=HON2.out.free c
           have hst:(shAt so i).2.size=wd:=(HSZ.out _ (shAt_mem hil3)).2.2
           have hidx:=run_idx (shAt so i).2 c (by rw [hst];exact hcl)
           have lx:=Gf.shareOf_lt (atsN so) i j
           have ly:=bytesOf_lt (shAt so i).2 c
           have ls:rsumN (invN (atsN so)) (txtN so) j c i < 256:=rsumN_lt (invN_lt _) j c i
           have lm:=Gf.mul_lt lx (Gf.nth (bytesOf (shAt so i).2) c)
           have HXS:Hid (bits .xor .u8 ((rsumN (invN (atsN so)) (txtN so) j c i:Nat):Int) ((Gf.mul (Gf.shareOf (atsN so) i j) (Gf.nth (bytesOf (shAt so i).2) c):Nat):Int)=((rsumN (invN (atsN so)) (txtN so) j c (i+1):Nat):Int)):=by
            show _=_
            rw [u8_xor_nat _ _ ls lm]
            rfl
           have n1:w4.heap.size≠bb:=by omega
           have n2:w4.heap.size≠b1:=by omega
           have HON2':Hid (OwnN w7 w4.heap.size 5 w4.heap.size wd (rowFn wd (fun d=>if d < c then rsumN (invN (atsN so)) (txtN so) j d k else if d=c then rsumN (invN (atsN so)) (txtN so) j c i else 0))):=HON2.out
           clear hst hil3
           generalize rsumN (invN (atsN so)) (txtN so) j c i=sacc at q5 ls HXS HON2'
           generalize Gf.shareOf (atsN so) i j=x at q2 lx lm HXS
           generalize (shAt so i).2=tt at q3 hidx ly lm HXS
           generalize Gf.nth (bytesOf tt) c=y at hidx ly lm HXS
           go_wp2
           refine wp_region_still_tail 20 (by kernel_rfl) (by kernel_rfl) ?_
           simp only [List.take_succ_cons,List.take_zero,List.drop_succ_cons,List.drop_zero]
           repeat still_step
           still_call (rmul_any x y _ lx ly)
           repeat still_step
           refine wpStill_nil ?_
           rw [HXS.out]
           have HO7:Hid (OwnN (w7.drewN 1) w4.heap.size 5 w4.heap.size wd (rowFn wd (fun d=>if d < c then rsumN (invN (atsN so)) (txtN so) j d k else if d=c then sacc else 0))):=HON2'.out.drewN 1
           have HB7:Hid (Below w4.heap.size w4 (w7.drewN 1)):=below_drewN HBq2.out 1
           have q5':(w7.drewN 1).cell? ⟨w4.heap.size,c,none⟩=some (.int .u8 (sacc:Int)):=q5
           have q6':(w7.drewN 1).frozen? ⟨w4.heap.size,c,none⟩=false:=q6
           change wpList _ _ _ _ _ (w7.drewN 1)
           generalize w7.drewN 1=w8 at HO7 HB7 q5' q6' ⊢
           clear q2 q3 q5 q6 HON2 HON2' HBq2 hidx
           go_wp2
           go_roundw
           case rel =>
            refine ⟨i+1,by omega,by go_num,?_,HB7.out.setCell (Nat.le_refl _) _⟩
            have:=HO7.out.set c (rsumN (invN (atsN so)) (txtN so) j c (i+1))
            rw [rowFn_congr wd (fun d=>if d < c then rsumN (invN (atsN so)) (txtN so) j d k else if d=c then rsumN (invN (atsN so)) (txtN so) j c (i+1) else 0) (fun d=>if d=c then rsumN (invN (atsN so)) (txtN so) j c (i+1) else if d < c then rsumN (invN (atsN so)) (txtN so) j d k else if d=c then sacc else 0) (fun d _=>by
             by_cases e:d=c
             ·subst e;rw [if_neg (Nat.lt_irrefl _),if_pos rfl,if_pos rfl]
             ·rw [if_neg e,if_neg e,if_neg e])]
            exact this
           case measure=>simp [intOf];omega
          ·have hie:k=i:=by omega
           subst hie
           go_wp2
           go_roundw
           case rel =>
            refine ⟨c+1,by omega,by go_num,?_,HBq2.out⟩
            rw [rowFn_congr wd _ (fun d=>if d < c then rsumN (invN (atsN so)) (txtN so) j d k else if d=c then rsumN (invN (atsN so)) (txtN so) j c k else 0) (fun d _=>by
             by_cases e:d < c
             ·rw [if_pos (by omega),if_pos e]
             ·by_cases e':d=c
              ·subst e';rw [if_pos (by omega),if_neg e,if_pos rfl]
              ·rw [if_neg (by omega),if_neg e,if_neg e'])]
            exact HON2.out
           case measure=>simp [intOf];omega
        ·have hce:wd=c:=by omega
         subst hce
         have hN6:OwnN w6 w4.heap.size 5 w4.heap.size wd (rowFn wd fun c=>rsumN (invN (atsN so)) (txtN so) j c k):=by
          rw [rowFn_congr wd _ (fun d=>if d < wd then rsumN (invN (atsN so)) (txtN so) j d k else 0) (fun d hd=>by rw [if_pos hd])]
          exact HON.out
         have hcv:Sem.run Tryz.prog (convert 76 9 (.slice (some ⟨w4.heap.size,0,none⟩) wd wd)) w6=.ok (.string (strOf (rowFn wd fun c=>rsumN (invN (atsN so)) (txtN so) j c k))) w6:=by
          have hsg:Seg w6 (some ⟨w4.heap.size,0,none⟩) (rowFn wd fun c=>rsumN (invN (atsN so)) (txtN so) j c k):=⟨rowFn_bytes _ _ (fun d=>rsumN_lt (invN_lt _) _ _ _),Or.inr ⟨w4.heap.size,0,rfl,hN6.lt.2,fun d hd=>by
           rw [rowFn_length] at hd
           rw [Nat.zero_add]
           exact hN6.cell d hd (rowFn_length _ _)⟩⟩
          have:=conv_seg hsg wd
          rw [rowFn_length] at this
          exact this
         have HCT:Hid (strOf (catN (fun q c=>rsumN (invN (atsN so)) (txtN so) q c k) wd j) ++ strOf (rowFn wd fun c=>rsumN (invN (atsN so)) (txtN so) j c k)=strOf (catN (fun q c=>rsumN (invN (atsN so)) (txtN so) q c k) wd (j+1))):=by
          show _=_
          rw [strOf_append,catN_succ]
         have hjw:j*wd<=12*1000:=Nat.mul_le_mul (by omega) (by omega)
         have hs1:(strOf (catN (fun q c=>rsumN (invN (atsN so)) (txtN so) q c k) wd j)).size<=12000:=by rw [strOf_size,catN_length];omega
         have hs2:(strOf (rowFn wd fun c=>rsumN (invN (atsN so)) (txtN so) j c k)).size<=1000:=by rw [strOf_size,rowFn_length];omega
         have HB6:Hid (Below w2.heap.size w2 w6):=HB3.out.trans ((HB4.out.trans (HBq.out.mono hz4)).mono hz3)
         clear hN6 HON HBq hjw
         generalize strOf (rowFn wd fun c=>rsumN (invN (atsN so)) (txtN so) j c k)=s2 at hcv HCT hs2
         generalize strOf (catN (fun q c=>rsumN (invN (atsN so)) (txtN so) q c k) wd j)=s1 at *
         go_wp2
         go_roundw
         case rel=>exact ⟨j+1,by omega,by go_num,by rw [<- HCT.out],HB6.out⟩
         case measure=>simp [intOf];omega
    ·have hje:k=j:=by omega
     subst hje
     have hsl:∀ W,Sem.run Tryz.prog (Instr.slice 9 (.string (strOf (catN (fun q c=>rsumN (invN (atsN so)) (txtN so) q c k) wd k))) none (some (.int .i64 (size:Int))) none) W=.ok (.string dt) W:=fun W=>by
      rw [run_slice_string_h W 9 _ Tryz.underlying9 .i64 (size:Int) (by omega) (by
       rw [strOf_size,catN_length]
       have:=HMUL.out
       omega),Int.toNat_natCast,strOf_mk,strOf_take,catN_take _ _ _ _ HMUL.out,HDT.out]
     have HBF:Hid (Below w.heap.size w w3):=HB1.out.trans ((HB.out.trans (HB3.out.mono hz2)).mono HB1.out.size)
     clear HDT HMUL
     generalize strOf (catN (fun q c=>rsumN (invN (atsN so)) (txtN so) q c k) wd k)=st at hsl ⊢
     go_wp2
     go_ret2
     exact ⟨rfl,HBF.out⟩
end Go.Proofs.YtghpdhegfnhmkaaGreatDoor
