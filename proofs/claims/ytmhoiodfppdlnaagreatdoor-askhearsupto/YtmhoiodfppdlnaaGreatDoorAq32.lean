import Derived.Test.YtmhoiodfppdlnaaGreatDoorAq0
import Derived.Test.YtmhoiodfppdlnaaGreatDoorAq6
import Derived.Test.YtmhoiodfppdlnaaGreatDoorAq3
set_option maxRecDepth 10000
set_option maxHeartbeats 8000000
namespace Go.Proofs.YtmhoiodfppdlnaaGreatDoor
open Go.RowKit
structure Bid where
 put:Bool
 who:Int
 op:Int
 config:Int
 c:Cfg
 key:ByteArray
 text:ByteArray
def bidA (b:Bid)(lv:Value):Value:=.agg #[.bool b.put,.int .i64 b.who,.int .i64 b.op,.int .i64 b.config,.int .i64 b.c.n,.int .i64 b.c.k,lv,.string b.key,.string b.text]
def Bid.fits (b:Bid):Prop:=0<=b.who/\b.who < 6/\0<=b.op/\0<=b.config/\(b.put=true->b.text.size<=1000)
instance (b:Bid):Decidable b.fits:=by unfold Bid.fits;exact inferInstance
def bidF (b:Bid):Int×Int:=if 0 < (cfgF b.c).1 then cfgF b.c else if isN b.key=false then (4,-1) else if b.fits then (0,-1) else (2,-1)
theorem bidF_cfg {b:Bid}(h:0 < (cfgF b.c).1):bidF b=cfgF b.c:=if_pos h
theorem bidF_key {b:Bid}(h:¬ 0 < (cfgF b.c).1)(h2:isN b.key=false):bidF b=(4,-1):=by unfold bidF;rw [if_neg h,if_pos h2]
theorem bidF_bound {b:Bid}(h:¬ 0 < (cfgF b.c).1)(h2:isN b.key=true)(h3:¬ b.fits):bidF b=(2,-1):=by unfold bidF;rw [if_neg h,if_neg (by rw [h2];decide),if_neg h3]
theorem bidF_fine {b:Bid}(h:¬ 0 < (cfgF b.c).1)(h2:isN b.key=true)(h3:b.fits):bidF b=(0,-1):=by unfold bidF;rw [if_neg h,if_neg (by rw [h2];decide),if_pos h3]
structure FltAt (w:World) (b:Nat) (x y:Int):Prop where
 c0:w.cell? ⟨b,0,none⟩=some (.int .i64 x)
 c1:w.cell? ⟨b,1,none⟩=some (.int .i64 y)
 f0:w.frozen? ⟨b,0,none⟩=false
 f1:w.frozen? ⟨b,1,none⟩=false
theorem lt_of_cellB {w:World}{b o:Nat}{v:Value}(h:w.cell? ⟨b,o,none⟩=some v):b < w.heap.size:=by
 rcases Nat.lt_or_ge b w.heap.size with h' | h'
 ·exact h'
 ·simp [World.cell?,Array.getElem?_eq_none h'] at h
theorem FltAt.below {w w':World}{b:Nat}{x y:Int}(h:FltAt w b x y)(hb:Below w.heap.size w w'):FltAt w' b x y :=
 have hlt:=lt_of_cellB h.c0
 ⟨(hb.cell (p:=⟨b,0,none⟩) hlt).trans h.c0,(hb.cell (p:=⟨b,1,none⟩) hlt).trans h.c1,(hb.frozen (p:=⟨b,0,none⟩) hlt).trans h.f0,(hb.frozen (p:=⟨b,1,none⟩) hlt).trans h.f1⟩
theorem FltAt.set {w:World}{b:Nat}{x y:Int}(h:FltAt w b x y)(u v:Int):((w.setCell ⟨b,0,none⟩ (.int .i64 u)).setCell ⟨b,1,none⟩ (.int .i64 v)).cell? ⟨b,0,none⟩=some (.int .i64 u)/\((w.setCell ⟨b,0,none⟩ (.int .i64 u)).setCell ⟨b,1,none⟩ (.int .i64 v)).cell? ⟨b,1,none⟩=some (.int .i64 v):=by
 refine⟨?_,?_⟩
 ·rw [World.cell?_setCell_other _ _ _ _ (fun e=>by have h2:(1:Nat)=0:=congrArg Addr.off e;omega)]
  exact World.cell?_setCell_same _ _ _ h.c0
 ·refine World.cell?_setCell_same _ _ _ (u:=.int .i64 y) ?_
  rw [World.cell?_setCell_other _ _ _ _ (fun e=>by have h2:(0:Nat)=1:=congrArg Addr.off e;omega)]
  exact h.c1
theorem bidFault_any (b:Bid)(p:Option Addr)(cap:Nat)(w:World)(hc:CfgAt w b.c p cap)(hk:b.key.size<=1000000) :
 Calls Tryz.prog 11 #[bidA b (.slice p b.c.L.length cap)] w fun e w'=>e=.returned (.agg #[.int .i64 (bidF b).1,.int .i64 (bidF b).2])/\Below w.heap.size w w':=by
 obtain⟨wa,hwa⟩:∃ wa,wa=w.alloc (.cells #[.bool b.put,.int .i64 b.who,.int .i64 b.op,.int .i64 b.config,.int .i64 b.c.n,.int .i64 b.c.k,.slice p b.c.L.length cap,.string b.key,.string b.text] 26):=⟨_,rfl⟩
 obtain⟨w0,hw0⟩:∃ w0,w0=wa.alloc (.cells #[.int .i64 0,.int .i64 0] 39):=⟨_,rfl⟩
 have e1:wa.heap.size=w.heap.size+1:=by rw [hwa];simp
 have hba:Below w.heap.size w wa:=zBe hwa
 have hb0a:Below wa.heap.size wa w0:=zBe hw0
 have hb0:Below w.heap.size w w0:=hba.trans (hb0a.mono hba.size)
 have hF0:FltAt w0 (w.heap.size+1) 0 0:=by
  rw [hw0]
  exact⟨by rw [World.cell?_alloc_at _ _ _ _ e1.symm];rfl,by rw [World.cell?_alloc_at _ _ _ _ e1.symm];rfl,World.frozen?_alloc_at _ _ _ _ e1.symm,World.frozen?_alloc_at _ _ _ _ e1.symm⟩
 have hB:∀ W,Below w0.heap.size w0 W->∀ j u,(#[.bool b.put,.int .i64 b.who,.int .i64 b.op,.int .i64 b.config,.int .i64 b.c.n,.int .i64 b.c.k,.slice p b.c.L.length cap,.string b.key,.string b.text]:Array Value)[j]?=some u->W.cell? ⟨w.heap.size,j,none⟩=some u:=fun W hW j u hj=>by
  have hlt:w.heap.size < wa.heap.size:=by omega
  rw [hW.cell (p:=⟨w.heap.size,j,none⟩) (Nat.lt_of_lt_of_le hlt hb0a.size),hb0a.cell (p:=⟨w.heap.size,j,none⟩) hlt,hwa,World.cell?_alloc_at _ _ _ _ rfl]
  exact hj
 have HCELL:Hid (∀ W,Below w0.heap.size w0 W->W.cell? ⟨w.heap.size,0,none⟩=some (.bool b.put)/\W.cell? ⟨w.heap.size,1,none⟩=some (.int .i64 b.who)/\W.cell? ⟨w.heap.size,2,none⟩=some (.int .i64 b.op)/\W.cell? ⟨w.heap.size,3,none⟩=some (.int .i64 b.config)/\W.cell? ⟨w.heap.size,7,none⟩=some (.string b.key)/\W.cell? ⟨w.heap.size,8,none⟩=some (.string b.text)):=fun W hW=>⟨hB W hW 0 _ rfl,hB W hW 1 _ rfl,hB W hW 2 _ rfl,hB W hW 3 _ rfl,hB W hW 7 _ rfl,hB W hW 8 _ rfl⟩
 have g4:w0.cell? ⟨w.heap.size,4,none⟩=some (.int .i64 b.c.n):=hB w0 (Below.refl _ _) 4 _ rfl
 have g5:w0.cell? ⟨w.heap.size,5,none⟩=some (.int .i64 b.c.k):=hB w0 (Below.refl _ _) 5 _ rfl
 have g6:w0.cell? ⟨w.heap.size,6,none⟩=some (.slice p b.c.L.length cap):=hB w0 (Below.refl _ _) 6 _ rfl
 have HCF:=rcfg_any b.c p cap w0 (hc.below hb0)
 have HNM:Hid (∀ W,Calls Tryz.prog 26 #[.string b.key] W fun e w'=>e=.returned (.bool (isN b.key))/\Below W.heap.size W w'):=fun W=>(isName_any b.key W hk).mono fun e w' ⟨he,hw⟩=>⟨he,by rw [hw];exact Below.refl _ _⟩
 have HBR:Hid (∀ x W,Calls Tryz.prog 27 #[.int .i64 x] W fun e w'=>e=.returned (.agg #[.int .i64 x,.int .i64 (-1)])/\Below W.heap.size W w'):=fun x W=>bare_any x W
 have HW0:Hid (w0=(w.alloc (.cells #[.bool b.put,.int .i64 b.who,.int .i64 b.op,.int .i64 b.config,.int .i64 b.c.n,.int .i64 b.c.k,.slice p b.c.L.length cap,.string b.key,.string b.text] 26)).alloc (.cells #[.int .i64 0,.int .i64 0] 39)):=by show _=_;rw [hw0,hwa]
 have HB0:Hid (Below w.heap.size w w0):=hb0
 have HF0:Hid (FltAt w0 (w.heap.size+1) 0 0):=hF0
 unfold cfgA at HCF
 unfold bidA
 clear hwa hw0 hba hb0a hb0 hF0 hB hc e1
 by_cases hp:0 < (cfgF b.c).1
 ·rw [bidF_cfg hp]
  have d1:decide (0 < (cfgF b.c).1)=true:=decide_eq_true hp
  generalize cfgF b.c=F at *
  go_enter Tryz.func11,Tryz.ntmps11
  go_wp2_with (rw [<- HW0.out])
  refine HCF.mono ?_
  rintro e w1 ⟨rfl,hb1⟩
  obtain⟨w2,hw2⟩:∃ w2,w2=w1.alloc (.cells #[.int .i64 F.1,.int .i64 F.2] 39):=⟨_,rfl⟩
  have hb12:Below w1.heap.size w1 w2:=zBe hw2
  have hb02:Below w0.heap.size w0 w2:=hb1.trans (hb12.mono hb1.size)
  have x0:w2.cell? ⟨w1.heap.size,0,none⟩=some (.int .i64 F.1):=zAc hw2 rfl
  have x1:w2.cell? ⟨w1.heap.size,1,none⟩=some (.int .i64 F.2):=zAc hw2 rfl
  have HW2:Hid (w2=w1.alloc (.cells #[.int .i64 F.1,.int .i64 F.2] 39)):=hw2
  have HB02:Hid (Below w0.heap.size w0 w2):=hb02
  have hF2:=HF0.out.below hb02
  have HF2:Hid (FltAt w2 (w.heap.size+1) 0 0):=hF2
  clear HCF hb1 hw2 hb12 hb02 g4 g5 g6
  have r0:=hF2.c0
  have r1:=hF2.c1
  have rf0:=hF2.f0
  have rf1:=hF2.f1
  obtain⟨k0,k1⟩:=hF2.set F.1 F.2
  have HB9:Hid (Below w.heap.size w ((w2.setCell ⟨w.heap.size+1,0,none⟩ (.int .i64 F.1)).setCell ⟨w.heap.size+1,1,none⟩ (.int .i64 F.2))):=((HB0.out.trans ((HB02.out).mono HB0.out.size)).setCell (by show w.heap.size<=w.heap.size+1;omega) _).setCell (by show w.heap.size<=w.heap.size+1;omega) _
  clear hF2 HF2
  go_wp2_with (first | rw [<- HW2.out] | fail)
  exact bodyPost_ret (v:=.agg #[.int .i64 F.1,.int .i64 F.2]) (by simp [results,Tryz.results11,go_sem,k0,k1]) rfl ⟨rfl,HB9.out⟩
 ·have h0:=(cfgF_fine hp).2.2.1
  have HD:Hid (bidF b=bidF b):=by show _=_;rfl
  by_cases hn:isN b.key=true
  ·rw [hn] at HNM
   by_cases hw1:b.who < 0
   ·rw [bidF_bound hp hn (fun h=>by unfold Bid.fits at h;omega)]
    have dd0:decide (b.who < 0)=true:=decide_eq_true hw1
    have d1:decide (0 < (cfgF b.c).1)=false:=decide_eq_false hp
    rw [h0] at d1 HCF
    obtain⟨F,hF⟩:∃ F:Int×Int,F=(0,-1):=⟨_,rfl⟩
    rw [<- hF] at d1 HCF
    have HFE:Hid (F=(0,-1)):=hF
    clear hF h0 hp hn HD
    go_enter Tryz.func11,Tryz.ntmps11
    go_wp2_with (rw [<- HW0.out])
    refine HCF.mono ?_
    rintro e w1 ⟨rfl,hb1⟩
    obtain⟨w2,hw2⟩:∃ w2,w2=w1.alloc (.cells #[.int .i64 F.1,.int .i64 F.2] 39):=⟨_,rfl⟩
    have hb12:Below w1.heap.size w1 w2:=zBe hw2
    have hb02:Below w0.heap.size w0 w2:=hb1.trans (hb12.mono hb1.size)
    have x0:w2.cell? ⟨w1.heap.size,0,none⟩=some (.int .i64 F.1):=zAc hw2 rfl
    have x1:w2.cell? ⟨w1.heap.size,1,none⟩=some (.int .i64 F.2):=zAc hw2 rfl
    have HW2:Hid (w2=w1.alloc (.cells #[.int .i64 F.1,.int .i64 F.2] 39)):=hw2
    have HB02:Hid (Below w0.heap.size w0 w2):=hb02
    have hF2:=HF0.out.below hb02
    have HF2:Hid (FltAt w2 (w.heap.size+1) 0 0):=hF2
    clear HCF hb1 hw2 hb12 hb02 g4 g5 g6
    have q7:=(HCELL.out w2 HB02.out).2.2.2.2.1
    clear hF2
    go_wp2_with (first | rw [<- HW2.out] | fail)
    refine(HNM.out _).mono ?_
    rintro e w3 ⟨rfl,hb3⟩
    have HB03:Hid (Below w0.heap.size w0 w3):=HB02.out.trans (hb3.mono HB02.out.size)
    have hF3:=HF2.out.below hb3
    have HF3:Hid (FltAt w3 (w.heap.size+1) 0 0):=hF3
    have y0:w3.cell? ⟨w1.heap.size,0,none⟩=some (.int .i64 F.1):=(hb3.cell (p:=⟨w1.heap.size,0,none⟩) (lt_of_cellB x0)).trans x0
    have y1:w3.cell? ⟨w1.heap.size,1,none⟩=some (.int .i64 F.2):=(hb3.cell (p:=⟨w1.heap.size,1,none⟩) (lt_of_cellB x0)).trans x1
    obtain⟨z0,z1,z2,z3,z7,z8⟩:=HCELL.out w3 HB03.out
    clear hb3 x0 x1 q7 HF2 HNM HW2 HB02 HCELL
    clear hF3 y0 y1
    go_wp2_with fail
    refine(HBR.out 2 _).mono ?_
    rintro e w4 ⟨rfl,hb4⟩
    have hF4:=HF3.out.below hb4
    have HB04:Hid (Below w0.heap.size w0 w4):=HB03.out.trans (hb4.mono HB03.out.size)
    have r0:=hF4.c0
    have r1:=hF4.c1
    have rf0:=hF4.f0
    have rf1:=hF4.f1
    obtain⟨k0,k1⟩:=hF4.set 2 (-1)
    have HB9:Hid (Below w.heap.size w ((w4.setCell ⟨w.heap.size+1,0,none⟩ (.int .i64 2)).setCell ⟨w.heap.size+1,1,none⟩ (.int .i64 (-1)))):=((HB0.out.trans ((HB04.out).mono HB0.out.size)).setCell (by show w.heap.size<=w.heap.size+1;omega) _).setCell (by show w.heap.size<=w.heap.size+1;omega) _
    clear hF4 hb4 HF3 HBR HB03 z0 z1 z2 z3 z7 z8
    go_wp2
    exact bodyPost_ret (v:=.agg #[.int .i64 2,.int .i64 (-1)]) (by simp [results,Tryz.results11,go_sem,k0,k1]) rfl ⟨rfl,HB9.out⟩
   ·skip
    by_cases hw2:6<=b.who
    ·rw [bidF_bound hp hn (fun h=>by unfold Bid.fits at h;omega)]
     have dd1:decide (6<=b.who)=true:=decide_eq_true hw2
     have dd0:decide (b.who < 0)=false:=decide_eq_false hw1
     have d1:decide (0 < (cfgF b.c).1)=false:=decide_eq_false hp
     rw [h0] at d1 HCF
     obtain⟨F,hF⟩:∃ F:Int×Int,F=(0,-1):=⟨_,rfl⟩
     rw [<- hF] at d1 HCF
     have HFE:Hid (F=(0,-1)):=hF
     clear hF h0 hp hn HD
     go_enter Tryz.func11,Tryz.ntmps11
     go_wp2_with (rw [<- HW0.out])
     refine HCF.mono ?_
     rintro e w1 ⟨rfl,hb1⟩
     obtain⟨w2,hw2⟩:∃ w2,w2=w1.alloc (.cells #[.int .i64 F.1,.int .i64 F.2] 39):=⟨_,rfl⟩
     have hb12:Below w1.heap.size w1 w2:=zBe hw2
     have hb02:Below w0.heap.size w0 w2:=hb1.trans (hb12.mono hb1.size)
     have x0:w2.cell? ⟨w1.heap.size,0,none⟩=some (.int .i64 F.1):=zAc hw2 rfl
     have x1:w2.cell? ⟨w1.heap.size,1,none⟩=some (.int .i64 F.2):=zAc hw2 rfl
     have HW2:Hid (w2=w1.alloc (.cells #[.int .i64 F.1,.int .i64 F.2] 39)):=hw2
     have HB02:Hid (Below w0.heap.size w0 w2):=hb02
     have hF2:=HF0.out.below hb02
     have HF2:Hid (FltAt w2 (w.heap.size+1) 0 0):=hF2
     clear HCF hb1 hw2 hb12 hb02 g4 g5 g6
     have q7:=(HCELL.out w2 HB02.out).2.2.2.2.1
     clear hF2
     go_wp2_with (first | rw [<- HW2.out] | fail)
     refine(HNM.out _).mono ?_
     rintro e w3 ⟨rfl,hb3⟩
     have HB03:Hid (Below w0.heap.size w0 w3):=HB02.out.trans (hb3.mono HB02.out.size)
     have hF3:=HF2.out.below hb3
     have HF3:Hid (FltAt w3 (w.heap.size+1) 0 0):=hF3
     have y0:w3.cell? ⟨w1.heap.size,0,none⟩=some (.int .i64 F.1):=(hb3.cell (p:=⟨w1.heap.size,0,none⟩) (lt_of_cellB x0)).trans x0
     have y1:w3.cell? ⟨w1.heap.size,1,none⟩=some (.int .i64 F.2):=(hb3.cell (p:=⟨w1.heap.size,1,none⟩) (lt_of_cellB x0)).trans x1
     obtain⟨z0,z1,z2,z3,z7,z8⟩:=HCELL.out w3 HB03.out
     clear hb3 x0 x1 q7 HF2 HNM HW2 HB02 HCELL
     clear hF3 y0 y1
     go_wp2_with fail
     refine(HBR.out 2 _).mono ?_
     rintro e w4 ⟨rfl,hb4⟩
     have hF4:=HF3.out.below hb4
     have HB04:Hid (Below w0.heap.size w0 w4):=HB03.out.trans (hb4.mono HB03.out.size)
     have r0:=hF4.c0
     have r1:=hF4.c1
     have rf0:=hF4.f0
     have rf1:=hF4.f1
     obtain⟨k0,k1⟩:=hF4.set 2 (-1)
     have HB9:Hid (Below w.heap.size w ((w4.setCell ⟨w.heap.size+1,0,none⟩ (.int .i64 2)).setCell ⟨w.heap.size+1,1,none⟩ (.int .i64 (-1)))):=((HB0.out.trans ((HB04.out).mono HB0.out.size)).setCell (by show w.heap.size<=w.heap.size+1;omega) _).setCell (by show w.heap.size<=w.heap.size+1;omega) _
     clear hF4 hb4 HF3 HBR HB03 z0 z1 z2 z3 z7 z8
     go_wp2
     exact bodyPost_ret (v:=.agg #[.int .i64 2,.int .i64 (-1)]) (by simp [results,Tryz.results11,go_sem,k0,k1]) rfl ⟨rfl,HB9.out⟩
    ·skip
     by_cases ho:b.op < 0
     ·rw [bidF_bound hp hn (fun h=>by unfold Bid.fits at h;omega)]
      have dd2:decide (b.op < 0)=true:=decide_eq_true ho
      have dd0:decide (b.who < 0)=false:=decide_eq_false hw1
      have dd1:decide (6<=b.who)=false:=decide_eq_false hw2
      have d1:decide (0 < (cfgF b.c).1)=false:=decide_eq_false hp
      rw [h0] at d1 HCF
      obtain⟨F,hF⟩:∃ F:Int×Int,F=(0,-1):=⟨_,rfl⟩
      rw [<- hF] at d1 HCF
      have HFE:Hid (F=(0,-1)):=hF
      clear hF h0 hp hn HD
      go_enter Tryz.func11,Tryz.ntmps11
      go_wp2_with (rw [<- HW0.out])
      refine HCF.mono ?_
      rintro e w1 ⟨rfl,hb1⟩
      obtain⟨w2,hw2⟩:∃ w2,w2=w1.alloc (.cells #[.int .i64 F.1,.int .i64 F.2] 39):=⟨_,rfl⟩
      have hb12:Below w1.heap.size w1 w2:=zBe hw2
      have hb02:Below w0.heap.size w0 w2:=hb1.trans (hb12.mono hb1.size)
      have x0:w2.cell? ⟨w1.heap.size,0,none⟩=some (.int .i64 F.1):=zAc hw2 rfl
      have x1:w2.cell? ⟨w1.heap.size,1,none⟩=some (.int .i64 F.2):=zAc hw2 rfl
      have HW2:Hid (w2=w1.alloc (.cells #[.int .i64 F.1,.int .i64 F.2] 39)):=hw2
      have HB02:Hid (Below w0.heap.size w0 w2):=hb02
      have hF2:=HF0.out.below hb02
      have HF2:Hid (FltAt w2 (w.heap.size+1) 0 0):=hF2
      clear HCF hb1 hw2 hb12 hb02 g4 g5 g6
      have q7:=(HCELL.out w2 HB02.out).2.2.2.2.1
      clear hF2
      go_wp2_with (first | rw [<- HW2.out] | fail)
      refine(HNM.out _).mono ?_
      rintro e w3 ⟨rfl,hb3⟩
      have HB03:Hid (Below w0.heap.size w0 w3):=HB02.out.trans (hb3.mono HB02.out.size)
      have hF3:=HF2.out.below hb3
      have HF3:Hid (FltAt w3 (w.heap.size+1) 0 0):=hF3
      have y0:w3.cell? ⟨w1.heap.size,0,none⟩=some (.int .i64 F.1):=(hb3.cell (p:=⟨w1.heap.size,0,none⟩) (lt_of_cellB x0)).trans x0
      have y1:w3.cell? ⟨w1.heap.size,1,none⟩=some (.int .i64 F.2):=(hb3.cell (p:=⟨w1.heap.size,1,none⟩) (lt_of_cellB x0)).trans x1
      obtain⟨z0,z1,z2,z3,z7,z8⟩:=HCELL.out w3 HB03.out
      clear hb3 x0 x1 q7 HF2 HNM HW2 HB02 HCELL
      clear hF3 y0 y1
      go_wp2_with fail
      refine(HBR.out 2 _).mono ?_
      rintro e w4 ⟨rfl,hb4⟩
      have hF4:=HF3.out.below hb4
      have HB04:Hid (Below w0.heap.size w0 w4):=HB03.out.trans (hb4.mono HB03.out.size)
      have r0:=hF4.c0
      have r1:=hF4.c1
      have rf0:=hF4.f0
      have rf1:=hF4.f1
      obtain⟨k0,k1⟩:=hF4.set 2 (-1)
      have HB9:Hid (Below w.heap.size w ((w4.setCell ⟨w.heap.size+1,0,none⟩ (.int .i64 2)).setCell ⟨w.heap.size+1,1,none⟩ (.int .i64 (-1)))):=((HB0.out.trans ((HB04.out).mono HB0.out.size)).setCell (by show w.heap.size<=w.heap.size+1;omega) _).setCell (by show w.heap.size<=w.heap.size+1;omega) _
      clear hF4 hb4 HF3 HBR HB03 z0 z1 z2 z3 z7 z8
      go_wp2
      exact bodyPost_ret (v:=.agg #[.int .i64 2,.int .i64 (-1)]) (by simp [results,Tryz.results11,go_sem,k0,k1]) rfl ⟨rfl,HB9.out⟩
     ·skip
      by_cases hcf:b.config < 0
      ·rw [bidF_bound hp hn (fun h=>by unfold Bid.fits at h;omega)]
       have dd3:decide (b.config < 0)=true:=decide_eq_true hcf
       have dd0:decide (b.who < 0)=false:=decide_eq_false hw1
       have dd1:decide (6<=b.who)=false:=decide_eq_false hw2
       have dd2:decide (b.op < 0)=false:=decide_eq_false ho
       have d1:decide (0 < (cfgF b.c).1)=false:=decide_eq_false hp
       rw [h0] at d1 HCF
       obtain⟨F,hF⟩:∃ F:Int×Int,F=(0,-1):=⟨_,rfl⟩
       rw [<- hF] at d1 HCF
       have HFE:Hid (F=(0,-1)):=hF
       clear hF h0 hp hn HD
       go_enter Tryz.func11,Tryz.ntmps11
       go_wp2_with (rw [<- HW0.out])
       refine HCF.mono ?_
       rintro e w1 ⟨rfl,hb1⟩
       obtain⟨w2,hw2⟩:∃ w2,w2=w1.alloc (.cells #[.int .i64 F.1,.int .i64 F.2] 39):=⟨_,rfl⟩
       have hb12:Below w1.heap.size w1 w2:=zBe hw2
       have hb02:Below w0.heap.size w0 w2:=hb1.trans (hb12.mono hb1.size)
       have x0:w2.cell? ⟨w1.heap.size,0,none⟩=some (.int .i64 F.1):=zAc hw2 rfl
       have x1:w2.cell? ⟨w1.heap.size,1,none⟩=some (.int .i64 F.2):=zAc hw2 rfl
       have HW2:Hid (w2=w1.alloc (.cells #[.int .i64 F.1,.int .i64 F.2] 39)):=hw2
       have HB02:Hid (Below w0.heap.size w0 w2):=hb02
       have hF2:=HF0.out.below hb02
       have HF2:Hid (FltAt w2 (w.heap.size+1) 0 0):=hF2
       clear HCF hb1 hw2 hb12 hb02 g4 g5 g6
       have q7:=(HCELL.out w2 HB02.out).2.2.2.2.1
       clear hF2
       go_wp2_with (first | rw [<- HW2.out] | fail)
       refine(HNM.out _).mono ?_
       rintro e w3 ⟨rfl,hb3⟩
       have HB03:Hid (Below w0.heap.size w0 w3):=HB02.out.trans (hb3.mono HB02.out.size)
       have hF3:=HF2.out.below hb3
       have HF3:Hid (FltAt w3 (w.heap.size+1) 0 0):=hF3
       have y0:w3.cell? ⟨w1.heap.size,0,none⟩=some (.int .i64 F.1):=(hb3.cell (p:=⟨w1.heap.size,0,none⟩) (lt_of_cellB x0)).trans x0
       have y1:w3.cell? ⟨w1.heap.size,1,none⟩=some (.int .i64 F.2):=(hb3.cell (p:=⟨w1.heap.size,1,none⟩) (lt_of_cellB x0)).trans x1
       obtain⟨z0,z1,z2,z3,z7,z8⟩:=HCELL.out w3 HB03.out
       clear hb3 x0 x1 q7 HF2 HNM HW2 HB02 HCELL
       clear hF3 y0 y1
       go_wp2_with fail
       refine(HBR.out 2 _).mono ?_
       rintro e w4 ⟨rfl,hb4⟩
       have hF4:=HF3.out.below hb4
       have HB04:Hid (Below w0.heap.size w0 w4):=HB03.out.trans (hb4.mono HB03.out.size)
       have r0:=hF4.c0
       have r1:=hF4.c1
       have rf0:=hF4.f0
       have rf1:=hF4.f1
       obtain⟨k0,k1⟩:=hF4.set 2 (-1)
       have HB9:Hid (Below w.heap.size w ((w4.setCell ⟨w.heap.size+1,0,none⟩ (.int .i64 2)).setCell ⟨w.heap.size+1,1,none⟩ (.int .i64 (-1)))):=((HB0.out.trans ((HB04.out).mono HB0.out.size)).setCell (by show w.heap.size<=w.heap.size+1;omega) _).setCell (by show w.heap.size<=w.heap.size+1;omega) _
       clear hF4 hb4 HF3 HBR HB03 z0 z1 z2 z3 z7 z8
       go_wp2
       exact bodyPost_ret (v:=.agg #[.int .i64 2,.int .i64 (-1)]) (by simp [results,Tryz.results11,go_sem,k0,k1]) rfl ⟨rfl,HB9.out⟩
      ·skip
       by_cases hpt:b.put=true/\1000 < b.text.size
       ·rw [bidF_bound hp hn (fun h=>by unfold Bid.fits at h;have:=h.2.2.2.2 hpt.1;omega)]
        have dd0:decide (b.who < 0)=false:=decide_eq_false hw1
        have dd1:decide (6<=b.who)=false:=decide_eq_false hw2
        have dd2:decide (b.op < 0)=false:=decide_eq_false ho
        have dd3:decide (b.config < 0)=false:=decide_eq_false hcf
        have dd4:decide (1000 < b.text.size)=true:=decide_eq_true hpt.2
        have dp:=hpt.1
        rw [dp] at HCELL HW0
        have d1:decide (0 < (cfgF b.c).1)=false:=decide_eq_false hp
        rw [h0] at d1 HCF
        obtain⟨F,hF⟩:∃ F:Int×Int,F=(0,-1):=⟨_,rfl⟩
        rw [<- hF] at d1 HCF
        have HFE:Hid (F=(0,-1)):=hF
        clear hF h0 hp hn HD
        rw [dp]
        go_enter Tryz.func11,Tryz.ntmps11
        go_wp2_with (rw [<- HW0.out])
        refine HCF.mono ?_
        rintro e w1 ⟨rfl,hb1⟩
        obtain⟨w2,hw2⟩:∃ w2,w2=w1.alloc (.cells #[.int .i64 F.1,.int .i64 F.2] 39):=⟨_,rfl⟩
        have hb12:Below w1.heap.size w1 w2:=zBe hw2
        have hb02:Below w0.heap.size w0 w2:=hb1.trans (hb12.mono hb1.size)
        have x0:w2.cell? ⟨w1.heap.size,0,none⟩=some (.int .i64 F.1):=zAc hw2 rfl
        have x1:w2.cell? ⟨w1.heap.size,1,none⟩=some (.int .i64 F.2):=zAc hw2 rfl
        have HW2:Hid (w2=w1.alloc (.cells #[.int .i64 F.1,.int .i64 F.2] 39)):=hw2
        have HB02:Hid (Below w0.heap.size w0 w2):=hb02
        have hF2:=HF0.out.below hb02
        have HF2:Hid (FltAt w2 (w.heap.size+1) 0 0):=hF2
        clear HCF hb1 hw2 hb12 hb02 g4 g5 g6
        have q7:=(HCELL.out w2 HB02.out).2.2.2.2.1
        clear hF2
        go_wp2_with (first | rw [<- HW2.out] | fail)
        refine(HNM.out _).mono ?_
        rintro e w3 ⟨rfl,hb3⟩
        have HB03:Hid (Below w0.heap.size w0 w3):=HB02.out.trans (hb3.mono HB02.out.size)
        have hF3:=HF2.out.below hb3
        have HF3:Hid (FltAt w3 (w.heap.size+1) 0 0):=hF3
        have y0:w3.cell? ⟨w1.heap.size,0,none⟩=some (.int .i64 F.1):=(hb3.cell (p:=⟨w1.heap.size,0,none⟩) (lt_of_cellB x0)).trans x0
        have y1:w3.cell? ⟨w1.heap.size,1,none⟩=some (.int .i64 F.2):=(hb3.cell (p:=⟨w1.heap.size,1,none⟩) (lt_of_cellB x0)).trans x1
        obtain⟨z0,z1,z2,z3,z7,z8⟩:=HCELL.out w3 HB03.out
        clear hb3 x0 x1 q7 HF2 HNM HW2 HB02 HCELL
        clear hF3 y0 y1
        go_wp2_with fail
        refine(HBR.out 2 _).mono ?_
        rintro e w4 ⟨rfl,hb4⟩
        have hF4:=HF3.out.below hb4
        have HB04:Hid (Below w0.heap.size w0 w4):=HB03.out.trans (hb4.mono HB03.out.size)
        have r0:=hF4.c0
        have r1:=hF4.c1
        have rf0:=hF4.f0
        have rf1:=hF4.f1
        obtain⟨k0,k1⟩:=hF4.set 2 (-1)
        have HB9:Hid (Below w.heap.size w ((w4.setCell ⟨w.heap.size+1,0,none⟩ (.int .i64 2)).setCell ⟨w.heap.size+1,1,none⟩ (.int .i64 (-1)))):=((HB0.out.trans ((HB04.out).mono HB0.out.size)).setCell (by show w.heap.size<=w.heap.size+1;omega) _).setCell (by show w.heap.size<=w.heap.size+1;omega) _
        clear hF4 hb4 HF3 HBR HB03 z0 z1 z2 z3 z7 z8
        go_wp2
        exact bodyPost_ret (v:=.agg #[.int .i64 2,.int .i64 (-1)]) (by simp [results,Tryz.results11,go_sem,k0,k1]) rfl ⟨rfl,HB9.out⟩
       ·rw [bidF_fine hp hn (by unfold Bid.fits;refine⟨by omega,by omega,by omega,by omega,fun h=>?_⟩;rcases Nat.lt_or_ge 1000 b.text.size with h2 | h2;exact absurd ⟨h,h2⟩ hpt;exact h2)]
        have dd0:decide (b.who < 0)=false:=decide_eq_false hw1
        have dd1:decide (6<=b.who)=false:=decide_eq_false hw2
        have dd2:decide (b.op < 0)=false:=decide_eq_false ho
        have dd3:decide (b.config < 0)=false:=decide_eq_false hcf
        have d1:decide (0 < (cfgF b.c).1)=false:=decide_eq_false hp
        rw [h0] at d1 HCF
        obtain⟨F,hF⟩:∃ F:Int×Int,F=(0,-1):=⟨_,rfl⟩
        rw [<- hF] at d1 HCF
        have HFE:Hid (F=(0,-1)):=hF
        clear hF h0 hp hn HD
        cases hput:b.put with
        | false =>
         rw [hput] at HCELL HW0 hpt
         clear hpt
         go_enter Tryz.func11,Tryz.ntmps11
         go_wp2_with (rw [<- HW0.out])
         refine HCF.mono ?_
         rintro e w1 ⟨rfl,hb1⟩
         obtain⟨w2,hw2⟩:∃ w2,w2=w1.alloc (.cells #[.int .i64 F.1,.int .i64 F.2] 39):=⟨_,rfl⟩
         have hb12:Below w1.heap.size w1 w2:=zBe hw2
         have hb02:Below w0.heap.size w0 w2:=hb1.trans (hb12.mono hb1.size)
         have x0:w2.cell? ⟨w1.heap.size,0,none⟩=some (.int .i64 F.1):=zAc hw2 rfl
         have x1:w2.cell? ⟨w1.heap.size,1,none⟩=some (.int .i64 F.2):=zAc hw2 rfl
         have HW2:Hid (w2=w1.alloc (.cells #[.int .i64 F.1,.int .i64 F.2] 39)):=hw2
         have HB02:Hid (Below w0.heap.size w0 w2):=hb02
         have hF2:=HF0.out.below hb02
         have HF2:Hid (FltAt w2 (w.heap.size+1) 0 0):=hF2
         clear HCF hb1 hw2 hb12 hb02 g4 g5 g6
         have q7:=(HCELL.out w2 HB02.out).2.2.2.2.1
         clear hF2
         go_wp2_with (first | rw [<- HW2.out] | fail)
         refine(HNM.out _).mono ?_
         rintro e w3 ⟨rfl,hb3⟩
         have HB03:Hid (Below w0.heap.size w0 w3):=HB02.out.trans (hb3.mono HB02.out.size)
         have hF3:=HF2.out.below hb3
         have HF3:Hid (FltAt w3 (w.heap.size+1) 0 0):=hF3
         have y0:w3.cell? ⟨w1.heap.size,0,none⟩=some (.int .i64 F.1):=(hb3.cell (p:=⟨w1.heap.size,0,none⟩) (lt_of_cellB x0)).trans x0
         have y1:w3.cell? ⟨w1.heap.size,1,none⟩=some (.int .i64 F.2):=(hb3.cell (p:=⟨w1.heap.size,1,none⟩) (lt_of_cellB x0)).trans x1
         obtain⟨z0,z1,z2,z3,z7,z8⟩:=HCELL.out w3 HB03.out
         clear hb3 x0 x1 q7 HF2 HNM HW2 HB02 HCELL
         rw [HFE.out] at y0 y1
         dsimp only at y0 y1
         have r0:=hF3.c0
         have r1:=hF3.c1
         have rf0:=hF3.f0
         have rf1:=hF3.f1
         obtain⟨k0,k1⟩:=hF3.set 0 (-1)
         have HB9:Hid (Below w.heap.size w ((w3.setCell ⟨w.heap.size+1,0,none⟩ (.int .i64 0)).setCell ⟨w.heap.size+1,1,none⟩ (.int .i64 (-1)))):=((HB0.out.trans ((HB03.out).mono HB0.out.size)).setCell (by show w.heap.size<=w.heap.size+1;omega) _).setCell (by show w.heap.size<=w.heap.size+1;omega) _
         clear hF3 HF3 HBR
         go_wp2
         exact bodyPost_ret (v:=.agg #[.int .i64 0,.int .i64 (-1)]) (by simp [results,Tryz.results11,go_sem,k0,k1]) rfl ⟨rfl,HB9.out⟩
        | true =>
         rw [hput] at HCELL HW0 hpt
         have hle:b.text.size<=1000:=by rcases Nat.lt_or_ge 1000 b.text.size with h2 | h2;exact absurd ⟨rfl,h2⟩ hpt;exact h2
         have dd4:decide ((1000:Int) < (b.text.size:Int))=false:=decide_eq_false (by omega)
         clear hpt
         go_enter Tryz.func11,Tryz.ntmps11
         go_wp2_with (rw [<- HW0.out])
         refine HCF.mono ?_
         rintro e w1 ⟨rfl,hb1⟩
         obtain⟨w2,hw2⟩:∃ w2,w2=w1.alloc (.cells #[.int .i64 F.1,.int .i64 F.2] 39):=⟨_,rfl⟩
         have hb12:Below w1.heap.size w1 w2:=zBe hw2
         have hb02:Below w0.heap.size w0 w2:=hb1.trans (hb12.mono hb1.size)
         have x0:w2.cell? ⟨w1.heap.size,0,none⟩=some (.int .i64 F.1):=zAc hw2 rfl
         have x1:w2.cell? ⟨w1.heap.size,1,none⟩=some (.int .i64 F.2):=zAc hw2 rfl
         have HW2:Hid (w2=w1.alloc (.cells #[.int .i64 F.1,.int .i64 F.2] 39)):=hw2
         have HB02:Hid (Below w0.heap.size w0 w2):=hb02
         have hF2:=HF0.out.below hb02
         have HF2:Hid (FltAt w2 (w.heap.size+1) 0 0):=hF2
         clear HCF hb1 hw2 hb12 hb02 g4 g5 g6
         have q7:=(HCELL.out w2 HB02.out).2.2.2.2.1
         clear hF2
         go_wp2_with (first | rw [<- HW2.out] | fail)
         refine(HNM.out _).mono ?_
         rintro e w3 ⟨rfl,hb3⟩
         have HB03:Hid (Below w0.heap.size w0 w3):=HB02.out.trans (hb3.mono HB02.out.size)
         have hF3:=HF2.out.below hb3
         have HF3:Hid (FltAt w3 (w.heap.size+1) 0 0):=hF3
         have y0:w3.cell? ⟨w1.heap.size,0,none⟩=some (.int .i64 F.1):=(hb3.cell (p:=⟨w1.heap.size,0,none⟩) (lt_of_cellB x0)).trans x0
         have y1:w3.cell? ⟨w1.heap.size,1,none⟩=some (.int .i64 F.2):=(hb3.cell (p:=⟨w1.heap.size,1,none⟩) (lt_of_cellB x0)).trans x1
         obtain⟨z0,z1,z2,z3,z7,z8⟩:=HCELL.out w3 HB03.out
         clear hb3 x0 x1 q7 HF2 HNM HW2 HB02 HCELL
         rw [HFE.out] at y0 y1
         dsimp only at y0 y1
         have r0:=hF3.c0
         have r1:=hF3.c1
         have rf0:=hF3.f0
         have rf1:=hF3.f1
         obtain⟨k0,k1⟩:=hF3.set 0 (-1)
         have HB9:Hid (Below w.heap.size w ((w3.setCell ⟨w.heap.size+1,0,none⟩ (.int .i64 0)).setCell ⟨w.heap.size+1,1,none⟩ (.int .i64 (-1)))):=((HB0.out.trans ((HB03.out).mono HB0.out.size)).setCell (by show w.heap.size<=w.heap.size+1;omega) _).setCell (by show w.heap.size<=w.heap.size+1;omega) _
         clear hF3 HF3 HBR
         go_wp2
         exact bodyPost_ret (v:=.agg #[.int .i64 0,.int .i64 (-1)]) (by simp [results,Tryz.results11,go_sem,k0,k1]) rfl ⟨rfl,HB9.out⟩
  ·have hn':isN b.key=false:=by simpa using hn
   rw [bidF_key hp hn']
   rw [hn'] at HNM
   have d1:decide (0 < (cfgF b.c).1)=false:=decide_eq_false hp
   rw [h0] at d1 HCF
   obtain⟨F,hF⟩:∃ F:Int×Int,F=(0,-1):=⟨_,rfl⟩
   rw [<- hF] at d1 HCF
   clear hF h0 hp hn hn' HD
   go_enter Tryz.func11,Tryz.ntmps11
   go_wp2_with (rw [<- HW0.out])
   refine HCF.mono ?_
   rintro e w1 ⟨rfl,hb1⟩
   obtain⟨w2,hw2⟩:∃ w2,w2=w1.alloc (.cells #[.int .i64 F.1,.int .i64 F.2] 39):=⟨_,rfl⟩
   have hb12:Below w1.heap.size w1 w2:=zBe hw2
   have hb02:Below w0.heap.size w0 w2:=hb1.trans (hb12.mono hb1.size)
   have x0:w2.cell? ⟨w1.heap.size,0,none⟩=some (.int .i64 F.1):=zAc hw2 rfl
   have x1:w2.cell? ⟨w1.heap.size,1,none⟩=some (.int .i64 F.2):=zAc hw2 rfl
   have HW2:Hid (w2=w1.alloc (.cells #[.int .i64 F.1,.int .i64 F.2] 39)):=hw2
   have HB02:Hid (Below w0.heap.size w0 w2):=hb02
   have hF2:=HF0.out.below hb02
   have HF2:Hid (FltAt w2 (w.heap.size+1) 0 0):=hF2
   clear HCF hb1 hw2 hb12 hb02 g4 g5 g6
   have q7:=(HCELL.out w2 HB02.out).2.2.2.2.1
   clear hF2
   go_wp2_with (first | rw [<- HW2.out] | fail)
   refine(HNM.out _).mono ?_
   rintro e w3 ⟨rfl,hb3⟩
   have HB03:Hid (Below w0.heap.size w0 w3):=HB02.out.trans (hb3.mono HB02.out.size)
   have hF3:=HF2.out.below hb3
   have HF3:Hid (FltAt w3 (w.heap.size+1) 0 0):=hF3
   have y0:w3.cell? ⟨w1.heap.size,0,none⟩=some (.int .i64 F.1):=(hb3.cell (p:=⟨w1.heap.size,0,none⟩) (lt_of_cellB x0)).trans x0
   have y1:w3.cell? ⟨w1.heap.size,1,none⟩=some (.int .i64 F.2):=(hb3.cell (p:=⟨w1.heap.size,1,none⟩) (lt_of_cellB x0)).trans x1
   obtain⟨z0,z1,z2,z3,z7,z8⟩:=HCELL.out w3 HB03.out
   clear hb3 x0 x1 q7 HF2 HNM HW2 HB02 HCELL
   clear hF3 y0 y1
   go_wp2_with fail
   refine(HBR.out 4 _).mono ?_
   rintro e w4 ⟨rfl,hb4⟩
   have hF4:=HF3.out.below hb4
   have HB04:Hid (Below w0.heap.size w0 w4):=HB03.out.trans (hb4.mono HB03.out.size)
   have r0:=hF4.c0
   have r1:=hF4.c1
   have rf0:=hF4.f0
   have rf1:=hF4.f1
   obtain⟨k0,k1⟩:=hF4.set 4 (-1)
   have HB9:Hid (Below w.heap.size w ((w4.setCell ⟨w.heap.size+1,0,none⟩ (.int .i64 4)).setCell ⟨w.heap.size+1,1,none⟩ (.int .i64 (-1)))):=((HB0.out.trans ((HB04.out).mono HB0.out.size)).setCell (by show w.heap.size<=w.heap.size+1;omega) _).setCell (by show w.heap.size<=w.heap.size+1;omega) _
   clear hF4 hb4 HF3 HBR HB03 z0 z1 z2 z3 z7 z8
   go_wp2
   exact bodyPost_ret (v:=.agg #[.int .i64 4,.int .i64 (-1)]) (by simp [results,Tryz.results11,go_sem,k0,k1]) rfl ⟨rfl,HB9.out⟩
end Go.Proofs.YtmhoiodfppdlnaaGreatDoor
