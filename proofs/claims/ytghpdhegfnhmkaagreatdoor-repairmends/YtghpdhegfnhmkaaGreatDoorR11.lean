import Derived.Test.YtghpdhegfnhmkaaGreatDoorR7
import Derived.Test.YtghpdhegfnhmkaaGreatDoorR6
import Derived.BigQuiet
namespace Go.Proofs.YtghpdhegfnhmkaaGreatDoor
open Go.RowKit
set_option maxRecDepth 10000 in
set_option maxHeartbeats 8000000 in
theorem putScan_walk (h:Nat) (L:List Kep) (key:ByteArray) (v:Ver) (w:World) (hl:L.length<=1000000) (hm:MHold w h L false) (hN:isN key=true) (hV:verOk v=true) :
 Calls Tryz.prog 43 #[.pointer (some ⟨h,0,none⟩),.string key,.agg #[.int .i64 v.n,.int .i64 v.who,.int .i64 v.size,.int .i64 v.at_,.string v.text]] w fun e w'=>e=.returned (.int .i64 (putScan L key v 0 L.length))/\Below w.heap.size w w':=by
 obtain ⟨p,c,q0,hrec,hc,hn,hne⟩:=hm.row
 have qs:=hm.sealed_
 have hlt:=lt_of_cellH q0
 have hksz:=(isN_size hN).2
 have HNM:Hid (∀ W,Calls Tryz.prog 7 #[.string key] W fun e w'=>e=.returned (.bool (isN key))/\w'=W):=fun W=>isNameBig_any key W
 rw [hN] at HNM
 unfold verOk at hV
 rw [Bool.and_eq_true] at hV
 obtain ⟨hT,hV⟩:=hV
 have HTG:Hid (∀ W,Calls Tryz.prog 68 #[.agg #[.int .i64 v.n,.int .i64 v.who]] W fun e w'=>e=.returned (.bool (tagB v.n v.who))/\Below W.heap.size W w'):=fun W=>isTag_any v.n v.who W
 rw [hT] at HTG
 obtain ⟨v1,v2,v3,v4,v5⟩:=of_decide_eq_true hV
 clear hT hV hN
 obtain ⟨R,hR⟩:∃ R,R=putScan L key v 0 L.length:=⟨_,rfl⟩
 rw [<- hR]
 have HR:Hid (R=putScan L key v 0 L.length):=hR
 clear hR
 have HREC:Hid (Rec kepE w p L):=hrec
 obtain ⟨w0,hw0⟩:∃ w0,w0=w.alloc (.cells #[.int .i64 v.n,.int .i64 v.who,.int .i64 v.size,.int .i64 v.at_,.string v.text] 47):=⟨_,rfl⟩
 have hb0:Below w.heap.size w w0:=by rw [hw0];exact (Below.refl _ _).alloc (Nat.le_refl _) _
 have b0:w0.cell? ⟨w.heap.size,0,none⟩=some (.int .i64 v.n):=by rw [hw0,World.cell?_alloc_at _ _ _ _ rfl];rfl
 have b1:w0.cell? ⟨w.heap.size,1,none⟩=some (.int .i64 v.who):=by rw [hw0,World.cell?_alloc_at _ _ _ _ rfl];rfl
 have b2:w0.cell? ⟨w.heap.size,2,none⟩=some (.int .i64 v.size):=by rw [hw0,World.cell?_alloc_at _ _ _ _ rfl];rfl
 have b3:w0.cell? ⟨w.heap.size,3,none⟩=some (.int .i64 v.at_):=by rw [hw0,World.cell?_alloc_at _ _ _ _ rfl];rfl
 have b4:w0.cell? ⟨w.heap.size,4,none⟩=some (.string v.text):=by rw [hw0,World.cell?_alloc_at _ _ _ _ rfl];rfl
 have qs0:w0.cell? ⟨h,1,none⟩=some (.bool false):=(hb0.cell (p:=⟨h,1,none⟩) hlt).trans qs
 have HALL:Hid (∀ W,Below w0.heap.size w0 W->(W.cell? ⟨h,0,none⟩=some (.slice p L.length c)/\W.cell? ⟨w.heap.size,0,none⟩=some (.int .i64 v.n)/\W.cell? ⟨w.heap.size,1,none⟩=some (.int .i64 v.who)/\W.cell? ⟨w.heap.size,2,none⟩=some (.int .i64 v.size)/\W.cell? ⟨w.heap.size,3,none⟩=some (.int .i64 v.at_)/\W.cell? ⟨w.heap.size,4,none⟩=some (.string v.text))/\Rec kepE W p L/\Below w.heap.size w W):=fun W hW=>by
  have hx:w.heap.size < w0.heap.size:=lt_of_cellH b0
  have hy:h < w0.heap.size:=Nat.lt_of_lt_of_le hlt hb0.size
  exact ⟨⟨(hW.cell (p:=⟨h,0,none⟩) hy).trans ((hb0.cell (p:=⟨h,0,none⟩) hlt).trans q0),(hW.cell (p:=⟨w.heap.size,0,none⟩) hx).trans b0,(hW.cell (p:=⟨w.heap.size,1,none⟩) hx).trans b1,(hW.cell (p:=⟨w.heap.size,2,none⟩) hx).trans b2,(hW.cell (p:=⟨w.heap.size,3,none⟩) hx).trans b3,(hW.cell (p:=⟨w.heap.size,4,none⟩) hx).trans b4⟩,(HREC.out.below hb0).below hW,hb0.trans (hW.mono hb0.size)⟩
 have HW0:Hid (w0=w.alloc (.cells #[.int .i64 v.n,.int .i64 v.who,.int .i64 v.size,.int .i64 v.at_,.string v.text] 47)):=hw0
 have HV:Hid (∀ x:Ver,x=v↔(x.n=v.n/\x.who=v.who/\x.size=v.size/\x.at_=v.at_/\x.text=v.text)):=fun x=>by
  obtain ⟨a1,a2,a3,a4,a5⟩:=x
  obtain ⟨b1,b2,b3,b4,b5⟩:=v
  simp
 have HSCAN:Hid (∀ i,i < L.length->putScan L key v i (L.length - i)=if sameTag (kepAt L i) key v then (if (kepAt L i).2=v then -1 else 6) else putScan L key v (i+1) (L.length - (i+1))):=fun i hi=>putScan_at hi
 have HLAST:Hid (putScan L key v L.length 0=if 60<=L.length then 7 else 0):=by show _=_;rfl
 have HST:Hid (∀ x:Kep,sameTag x key v=(decide (x.1=key) && decide (x.2.n=v.n) && decide (x.2.who=v.who))):=fun x=>rfl
 clear hrec hm q0 qs hne hn b0 b1 b2 b3 b4 hw0 hb0
 have g1:decide (v.size < 0)=false:=decide_eq_false (by omega)
 have g2:decide (1000 < v.size)=false:=decide_eq_false (by omega)
 have g3:decide (v.at_ < 0)=false:=decide_eq_false (by omega)
 have g4:decide (12<=v.at_)=false:=decide_eq_false (by omega)
 have g5:decide (1000 < (v.text.size:Int))=false:=decide_eq_false (by omega)
 go_enter Tryz.func43,Tryz.ntmps43
 go_wp2_with (rw [<- HW0.out])
 refine (HNM.out _).mono ?_
 rintro e w1 ⟨rfl,hw1⟩
 rw [hw1]
 clear hw1 w1 HNM
 obtain ⟨⟨k0,k1,k2,k3,k4,k5⟩,_,_⟩:=HALL.out w0 (Below.refl _ _)
 go_wp2_with fail
 refine (HTG.out _).mono ?_
 rintro e w1 ⟨rfl,hb1⟩
 obtain ⟨⟨m0,m1,m2,m3,m4,m5⟩,_,_⟩:=HALL.out w1 hb1
 have HB1:Hid (Below w0.heap.size w0 w1):=hb1
 clear HTG hb1 k0 k1 k2 k3 k4 k5 qs0
 go_wp2
 clear m0 m1 m2 m3 m4 m5
 go_loopw [9] (fun x wq=>∃ i:Nat,i<=L.length/\x=.int .i64 i/\putScan L key v i (L.length - i)=R/\Below w0.heap.size w0 wq) (fun x _=>L.length - (intOf x).toNat)
 case atStart=>exact ⟨0,Nat.zero_le _,rfl,HR.out.symm,HB1.out⟩
 case round =>
  obtain ⟨i,hi,rfl,hsc,hb2⟩:=hrel
  obtain ⟨w2,rfl⟩:∃ w2,w2=wr:=⟨_,rfl⟩
  have HB2:Hid (Below w0.heap.size w0 w2):=hb2
  have HSC:Hid (putScan L key v i (L.length - i)=R):=hsc
  obtain ⟨⟨k0,k1,k2,k3,k4,k5⟩,hrc,hbw⟩:=HALL.out w2 hb2
  have HBW:Hid (Below w.heap.size w w2):=hbw
  have HRC:Hid (Rec kepE w2 p L):=hrc
  clear hsc hb2 hrc hbw
  by_cases hil:i < L.length
  ·obtain ⟨b,o,hpp,hblt,c0,c1,c2,c3,c4,c5⟩:=kep_cells HRC.out hil
   subst hpp
   have hs:=HSCAN.out i hil
   rw [HSC.out] at hs
   have hst:=HST.out (kepAt L i)
   have hvv:=HV.out (kepAt L i).2
   generalize kepAt L i=x at *
   obtain ⟨xk,xv⟩:=x
   by_cases hk:xk=key
   ·by_cases hn:xv.n=v.n
    ·by_cases hwho:xv.who=v.who
     ·have hst':sameTag (xk,xv) key v=true:=by rw [hst];simp [hk,hn,hwho]
      rw [if_pos hst'] at hs
      by_cases hveq:xv=v
      ·have HE:Hid (R=-1):=by show _=_;rw [hs];exact if_pos hveq
       subst hveq hk
       clear hs hst hvv hst' hn hwho HSCAN HV HST
       go_wp2
       go_quiet (fail)
       go_wp2
       go_quiet (fail)
       go_wp2
       go_ret
       exact ⟨by rw [HE.out];rfl,below_drewN (below_drewN HBW.out _) _⟩
      ·have HE:Hid (R=6):=by show _=_;rw [hs];exact if_neg hveq
       have hne3:((xv.size==v.size)=false)∨xv.size=v.size/\(((xv.at_==v.at_)=false)∨xv.at_=v.at_/\xv.text≠v.text):=by
        by_cases e3:xv.size=v.size
        ·by_cases e4:xv.at_=v.at_
         ·exact Or.inr ⟨e3,Or.inr ⟨e4,fun e5=>hveq (hvv.2 ⟨hn,hwho,e3,e4,e5⟩)⟩⟩
         ·exact Or.inr ⟨e3,Or.inl (beq_eq_false_iff_ne.2 e4)⟩
        ·exact Or.inl (beq_eq_false_iff_ne.2 e3)
       subst hk
       have c1':w2.cell? ⟨b,o+i*6+1,none⟩=some (.int .i64 v.n):=c1.trans (by rw [hn])
       have c2':w2.cell? ⟨b,o+i*6+2,none⟩=some (.int .i64 v.who):=c2.trans (by rw [hwho])
       clear hs hst hvv hst' hn hwho hveq c1 c2 HSCAN HV HST
       rcases hne3 with g | ⟨ge,g | ⟨gf,g⟩⟩
       ·go_wp2
        go_quiet (fail)
        go_wp2
        go_quiet (fail)
        go_wp2
        go_ret
        exact ⟨by rw [HE.out];rfl,below_drewN (below_drewN HBW.out _) _⟩
       ·have c3':w2.cell? ⟨b,o+i*6+3,none⟩=some (.int .i64 v.size):=c3.trans (by rw [<- ge])
        clear c3 ge
        go_wp2
        go_quiet (fail)
        go_wp2
        go_quiet (fail)
        go_wp2
        go_ret
        exact ⟨by rw [HE.out];rfl,below_drewN (below_drewN HBW.out _) _⟩
       ·have c3':w2.cell? ⟨b,o+i*6+3,none⟩=some (.int .i64 v.size):=c3.trans (by rw [<- ge])
        have c4':w2.cell? ⟨b,o+i*6+4,none⟩=some (.int .i64 v.at_):=c4.trans (by rw [<- gf])
        have d1:=toList_ne g
        have d2:=toList_beq g
        have d3:=bytes_beq g
        clear c3 ge c4 gf g
        go_wp2
        go_quiet (fail)
        go_wp2
        go_quiet (fail)
        go_wp2
        go_ret
        exact ⟨by rw [HE.out];rfl,below_drewN (below_drewN HBW.out _) _⟩
     ·have hst':sameTag (xk,xv) key v=false:=by rw [hst];simp [hwho]
      have HE:Hid (putScan L key v (i+1) (L.length - (i+1))=R):=by show _=_;rw [hs,if_neg (by rw [hst'];decide)]
      have c1':w2.cell? ⟨b,o+i*6+1,none⟩=some (.int .i64 v.n):=c1.trans (by rw [hn])
      have gw:(xv.who==v.who)=false:=beq_eq_false_iff_ne.2 hwho
      subst hk
      clear hs hst hvv hst' hn hwho c1 HSCAN HV HST
      go_wp2
      go_quiet (fail)
      go_wp2
      go_roundw
      case rel=>exact ⟨i+1,by omega,by go_num,HE.out,below_drewN HB2.out _⟩
      case measure=>simp [intOf];omega
    ·have hst':sameTag (xk,xv) key v=false:=by rw [hst];simp [hn]
     have HE:Hid (putScan L key v (i+1) (L.length - (i+1))=R):=by show _=_;rw [hs,if_neg (by rw [hst'];decide)]
     have gw:(xv.n==v.n)=false:=beq_eq_false_iff_ne.2 hn
     subst hk
     clear hs hst hvv hst' hn HSCAN HV HST
     go_wp2
     go_quiet (fail)
     go_wp2
     go_roundw
     case rel=>exact ⟨i+1,by omega,by go_num,HE.out,below_drewN HB2.out _⟩
     case measure=>simp [intOf];omega
   ·have hst':sameTag (xk,xv) key v=false:=by rw [hst];simp [hk]
    have HE:Hid (putScan L key v (i+1) (L.length - (i+1))=R):=by show _=_;rw [hs,if_neg (by rw [hst'];decide)]
    have d1:=toList_ne hk
    have d2:=toList_beq hk
    have d3:=bytes_beq hk
    clear hs hst hvv hst' hk HSCAN HV HST
    go_wp2
    go_quiet (fail)
    go_wp2
    go_roundw
    case rel=>exact ⟨i+1,by omega,by go_num,HE.out,below_drewN HB2.out _⟩
    case measure=>simp [intOf];omega
  ·have hie:i=L.length:=by omega
   subst hie
   have hlast:=HSC.out
   rw [Nat.sub_self,HLAST.out] at hlast
   by_cases h60:60<=L.length
   ·have HE:Hid (R=7):=by show _=_;rw [<- hlast];exact if_pos h60
    clear hlast
    go_wp2
    go_ret
    exact ⟨by rw [HE.out];rfl,HBW.out⟩
   ·have HE:Hid (R=0):=by show _=_;rw [<- hlast];exact if_neg h60
    clear hlast
    go_wp2
    go_ret
    exact ⟨by rw [HE.out];rfl,HBW.out⟩
set_option maxRecDepth 10000 in
set_option maxHeartbeats 8000000 in
theorem putErr_any (h:Nat) (L:List Kep) (s:Bool) (key:ByteArray) (v:Ver) (w:World) (hl:L.length<=1000000) (htx:v.text.size<=maxLen) (hm:MHold w h L s) :
 Calls Tryz.prog 43 #[.pointer (some ⟨h,0,none⟩),.string key,.agg #[.int .i64 v.n,.int .i64 v.who,.int .i64 v.size,.int .i64 v.at_,.string v.text]] w fun e w'=>e=.returned (.int .i64 (putErr L s key v))/\Below w.heap.size w w':=by
 obtain ⟨p,c,q0,hrec,hc,hn,hne⟩:=hm.row
 have qs:=hm.sealed_
 have hlt:=lt_of_cellH q0
 obtain ⟨w0,hw0⟩:∃ w0,w0=w.alloc (.cells #[.int .i64 v.n,.int .i64 v.who,.int .i64 v.size,.int .i64 v.at_,.string v.text] 47):=⟨_,rfl⟩
 have hb0:Below w.heap.size w w0:=by rw [hw0];exact (Below.refl _ _).alloc (Nat.le_refl _) _
 have qs0:w0.cell? ⟨h,1,none⟩=some (.bool s):=(hb0.cell (p:=⟨h,1,none⟩) hlt).trans qs
 have HB0:Hid (Below w.heap.size w w0):=hb0
 have HW0:Hid (w0=w.alloc (.cells #[.int .i64 v.n,.int .i64 v.who,.int .i64 v.size,.int .i64 v.at_,.string v.text] 47)):=hw0
 cases s with
 | true =>
  have HE:Hid (putErr L true key v=10):=by show _=_;rfl
  rw [HE.out]
  clear hm q0 hrec hn hne hw0 hb0 qs
  go_enter Tryz.func43,Tryz.ntmps43
  go_wp2_with (rw [<- HW0.out])
  go_ret
  exact ⟨rfl,HB0.out⟩
 | false =>
  have HNM:Hid (∀ W,Calls Tryz.prog 7 #[.string key] W fun e w'=>e=.returned (.bool (isN key))/\w'=W):=fun W=>isNameBig_any key W
  by_cases hN:isN key=true
  ·by_cases hV:verOk v=true
   ·have HE:putErr L false key v=putScan L key v 0 L.length:=by unfold putErr;rw [if_neg (by decide),if_pos hN,if_pos hV]
    rw [HE]
    exact putScan_walk h L key v w hl hm hN hV
   ·have HE:Hid (putErr L false key v=2):=by show _=_;unfold putErr;rw [if_neg (by decide),if_pos hN,if_neg hV]
    rw [HE.out]
    rw [hN] at HNM
    have HTG:Hid (∀ W,Calls Tryz.prog 68 #[.agg #[.int .i64 v.n,.int .i64 v.who]] W fun e w'=>e=.returned (.bool (tagB v.n v.who))/\Below W.heap.size W w'):=fun W=>isTag_any v.n v.who W
    have b0:w0.cell? ⟨w.heap.size,0,none⟩=some (.int .i64 v.n):=by rw [hw0,World.cell?_alloc_at _ _ _ _ rfl];rfl
    have b1:w0.cell? ⟨w.heap.size,1,none⟩=some (.int .i64 v.who):=by rw [hw0,World.cell?_alloc_at _ _ _ _ rfl];rfl
    have b2:w0.cell? ⟨w.heap.size,2,none⟩=some (.int .i64 v.size):=by rw [hw0,World.cell?_alloc_at _ _ _ _ rfl];rfl
    have b3:w0.cell? ⟨w.heap.size,3,none⟩=some (.int .i64 v.at_):=by rw [hw0,World.cell?_alloc_at _ _ _ _ rfl];rfl
    have b4:w0.cell? ⟨w.heap.size,4,none⟩=some (.string v.text):=by rw [hw0,World.cell?_alloc_at _ _ _ _ rfl];rfl
    have HALL:Hid (∀ W,Below w0.heap.size w0 W->W.cell? ⟨w.heap.size,2,none⟩=some (.int .i64 v.size)/\W.cell? ⟨w.heap.size,3,none⟩=some (.int .i64 v.at_)/\W.cell? ⟨w.heap.size,4,none⟩=some (.string v.text)):=fun W hW=>by
     have hx:w.heap.size < w0.heap.size:=lt_of_cellH b0
     exact ⟨(hW.cell (p:=⟨w.heap.size,2,none⟩) hx).trans b2,(hW.cell (p:=⟨w.heap.size,3,none⟩) hx).trans b3,(hW.cell (p:=⟨w.heap.size,4,none⟩) hx).trans b4⟩
    unfold maxLen at htx
    have HW:Hid (tagB v.n v.who=false∨tagB v.n v.who=true/\(v.size < 0∨¬ v.size < 0/\(1000 < v.size∨¬ 1000 < v.size/\(v.at_ < 0∨¬ v.at_ < 0/\(12<=v.at_∨¬ 12<=v.at_/\1000 < v.text.size))))):=by
     show _∨_
     cases hT:tagB v.n v.who with
     | false=>exact Or.inl rfl
     | true =>
      refine Or.inr ⟨rfl,?_⟩
      have h2:¬ (0<=v.size/\v.size<=1000/\0<=v.at_/\v.at_ < 12/\v.text.size<=1000):=fun h3=>hV (by unfold verOk;rw [hT,decide_eq_true h3];rfl)
      omega
    clear hm q0 hrec hn hne hw0 hb0 qs hN hV b2 b3 b4
    generalize tagB v.n v.who=tb at *
    rcases HW.out with rfl | ⟨rfl,g | ⟨g1,g | ⟨g2,g | ⟨g3,g | ⟨g4,g⟩⟩⟩⟩⟩
    all_goals
     go_enter Tryz.func43,Tryz.ntmps43
     go_wp2_with (rw [<- HW0.out])
     refine (HNM.out _).mono ?_
     rintro e w1 ⟨rfl,hw1⟩
     rw [hw1]
     clear hw1 w1 HNM
     go_wp2_with fail
     refine (HTG.out _).mono ?_
     rintro e w1 ⟨rfl,hb1⟩
     obtain ⟨m3,m4,m5⟩:=HALL.out w1 hb1
     have HB1:Hid (Below w.heap.size w w1):=HB0.out.trans (hb1.mono HB0.out.size)
     clear HTG hb1 b0 b1 qs0
     go_wp2
     go_ret
     exact ⟨rfl,HB1.out⟩
  ·have HE:Hid (putErr L false key v=4):=by show _=_;unfold putErr;rw [if_neg (by decide),if_neg hN]
   rw [HE.out]
   rw [Bool.eq_false_iff.2 hN] at HNM
   clear hm q0 hrec hn hne hw0 hb0 qs hN
   go_enter Tryz.func43,Tryz.ntmps43
   go_wp2_with (rw [<- HW0.out])
   refine (HNM.out _).mono ?_
   rintro e w1 ⟨rfl,hw1⟩
   rw [hw1]
   clear hw1 w1 HNM
   go_wp2
   go_ret
   exact ⟨rfl,HB0.out⟩
end Go.Proofs.YtghpdhegfnhmkaaGreatDoor
