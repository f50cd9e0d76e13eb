/- Texts laid together. -/
import Derived.Test.YtmikbldbfnlfjaaGreatDoorAs9
import Derived.DeepKeys4
set_option maxRecDepth 100000
set_option maxHeartbeats 8000000
namespace Go.Proofs.YtmikbldbfnlfjaaGreatDoor
open Go.Proofs.Tryz
open Go.RowKit
variable {w w':World}{b n k:Nat}{v:Value}{x y:Int}{c:Xg}{LL:List (List Yb)}{a:Za}{m:Zb}{all:List Yb}{t:Int×Int}{D:DataW Value}
structure eT where
 put:Bool
 who:Int
 op:Int
 config:Int
 c:Xg
 key:ByteArray
 text:ByteArray
def O2 (b:eT) (lv:Value):Value:=.agg #[.bool b.put,.int .i64 b.who,.int .i64 b.op,.int .i64 b.config,.int .i64 b.c.n,.int .i64 b.c.k,lv,.string b.key,.string b.text]
def eT.fits (b:eT):Prop:=0<=b.who/\b.who < 6/\0<=b.op/\0<=b.config/\(b.put=true->b.text.size<=1000)
instance (b:eT):Decidable b.fits:=by unfold eT.fits;exact inferInstance
def JX (b:eT):Int×Int:=if 0 < (Jg b.c).1 then Jg b.c else if Jo b.key=false then (4,-1) else if b.fits then (0,-1) else (2,-1)
theorem WO {b:eT} (h:0 < (Jg b.c).1):JX b=Jg b.c:=if_pos h
theorem LI {b:eT} (h:¬ 0 < (Jg b.c).1) (j:Jo b.key=false):JX b=(4,-1):=by unfold JX;rw [if_neg h,if_pos j]
theorem FZ {b:eT} (h:¬ 0 < (Jg b.c).1) (j:Jo b.key=true) (y:¬ b.fits):JX b=(2,-1):=by unfold JX;rw [if_neg h,if_neg (by rw [j];decide),if_neg y]
theorem KZ {b:eT} (h:¬ 0 < (Jg b.c).1) (j:Jo b.key=true) (y:b.fits):JX b=(0,-1):=by unfold JX;rw [if_neg h,if_neg (by rw [j];decide),if_pos y]
structure X4 (w:World) (b:Nat) (x y:Int):Prop where
 c0:w.cell? ⟨b,0,none⟩=some (.int .i64 x)
 c1:w.cell? ⟨b,1,none⟩=some (.int .i64 y)
 f0:w.frozen? ⟨b,0,none⟩=false
 f1:w.frozen? ⟨b,1,none⟩=false
theorem Yr {o:Nat} (h:w.cell? ⟨b,o,none⟩=some v):b < w.heap.size:=by
 rcases Nat.lt_or_ge b w.heap.size with j | j
 ·exact j
 ·simp [World.cell?,Array.getElem?_eq_none j] at h
theorem X4.below  (h:X4 w b x y) (D:Below w.heap.size w w'):X4 w' b x y :=
 have j:=Yr h.c0
 ⟨(D.cell (p:=⟨b,0,none⟩) j).trans h.c0,(D.cell (p:=⟨b,1,none⟩) j).trans h.c1,(D.frozen (p:=⟨b,0,none⟩) j).trans h.f0,(D.frozen (p:=⟨b,1,none⟩) j).trans h.f1⟩
theorem X4.set  (h:X4 w b x y) (u v:Int):((w.setCell ⟨b,0,none⟩ (.int .i64 u)).setCell ⟨b,1,none⟩ (.int .i64 v)).cell? ⟨b,0,none⟩=some (.int .i64 u)/\((w.setCell ⟨b,0,none⟩ (.int .i64 u)).setCell ⟨b,1,none⟩ (.int .i64 v)).cell? ⟨b,1,none⟩=some (.int .i64 v):=by
 refine ⟨?_,?_⟩
 ·rw [World.cell?_setCell_other _ _ _ _ (fun e=>by have j:(1:Nat)=0:=congrArg Addr.off e;omega)]
  exact World.cell?_setCell_same _ _ _ h.c0
 ·refine World.cell?_setCell_same _ _ _ (u:=.int .i64 y) ?_
  rw [World.cell?_setCell_other _ _ _ _ (fun e=>by have j:(0:Nat)=1:=congrArg Addr.off e;omega)]
  exact h.c1
theorem Jau (b:eT) (p:Option Addr) (d0:Nat) (w:World) (hc:Yn w b.c p d0) (hk:b.key.size<=1000000) :
 Calls prog 11 #[O2 b (.slice p b.c.L.length d0)] w fun e w'=>e=.returned (.agg #[.int .i64 (JX b).1,.int .i64 (JX b).2])/\Below w.heap.size w w':=by
 obtain ⟨wa,d3⟩:∃ wa,wa=w.alloc (.cells #[.bool b.put,.int .i64 b.who,.int .i64 b.op,.int .i64 b.config,.int .i64 b.c.n,.int .i64 b.c.k,.slice p b.c.L.length d0,.string b.key,.string b.text] 26):=⟨_,rfl⟩
 obtain ⟨G,d5⟩:∃ G,G=wa.alloc (.cells #[.int .i64 0,.int .i64 0] 39):=⟨_,rfl⟩
 have e1:wa.heap.size=w.heap.size+1:=by rw [d3];simp
 have d8:Below w.heap.size w wa:=by rw [d3];exact (Below.refl _ _).alloc (Nat.le_refl _) _
 have d6:Below wa.heap.size wa G:=by rw [d5];exact (Below.refl _ _).alloc (Nat.le_refl _) _
 have d9:Below w.heap.size w G:=d8.trans (d6.mono d8.size)
 have e4:X4 G (w.heap.size+1) 0 0:=by
  rw [d5]
  exact ⟨by rw [World.cell?_alloc_at _ _ _ _ e1.symm];rfl,by rw [World.cell?_alloc_at _ _ _ _ e1.symm];rfl,World.frozen?_alloc_at _ _ _ _ e1.symm,World.frozen?_alloc_at _ _ _ _ e1.symm⟩
 have hB:∀ W,Below G.heap.size G W->∀ j u,(#[.bool b.put,.int .i64 b.who,.int .i64 b.op,.int .i64 b.config,.int .i64 b.c.n,.int .i64 b.c.k,.slice p b.c.L.length d0,.string b.key,.string b.text]:Array Value)[j]?=some u->W.cell? ⟨w.heap.size,j,none⟩=some u:=fun W hW j u hj=>by
  have e5:w.heap.size < wa.heap.size:=by omega
  rw [hW.cell (p:=⟨w.heap.size,j,none⟩) (Nat.lt_of_lt_of_le e5 d6.size),d6.cell (p:=⟨w.heap.size,j,none⟩) e5,d3,World.cell?_alloc_at _ _ _ _ rfl]
  exact hj
 have a1:Hid (∀ W,Below G.heap.size G W->W.cell? ⟨w.heap.size,0,none⟩=some (.bool b.put)/\W.cell? ⟨w.heap.size,1,none⟩=some (.int .i64 b.who)/\W.cell? ⟨w.heap.size,2,none⟩=some (.int .i64 b.op)/\W.cell? ⟨w.heap.size,3,none⟩=some (.int .i64 b.config)/\W.cell? ⟨w.heap.size,7,none⟩=some (.string b.key)/\W.cell? ⟨w.heap.size,8,none⟩=some (.string b.text)):=fun W hW=>⟨hB W hW 0 _ rfl,hB W hW 1 _ rfl,hB W hW 2 _ rfl,hB W hW 3 _ rfl,hB W hW 7 _ rfl,hB W hW 8 _ rfl⟩
 have g4:G.cell? ⟨w.heap.size,4,none⟩=some (.int .i64 b.c.n):=hB G (Below.refl _ _) 4 _ rfl
 have g5:G.cell? ⟨w.heap.size,5,none⟩=some (.int .i64 b.c.k):=hB G (Below.refl _ _) 5 _ rfl
 have g6:G.cell? ⟨w.heap.size,6,none⟩=some (.slice p b.c.L.length d0):=hB G (Below.refl _ _) 6 _ rfl
 have Y:=Jek b.c p d0 G (hc.below d9)
 have a7:Hid (∀ W,Calls prog 26 #[.string b.key] W fun e w'=>e=.returned (.bool (Jo b.key))/\Below W.heap.size W w'):=fun W=>(JbO b.key W hk).mono fun e w' ⟨he,hw⟩=>⟨he,by rw [hw];exact Below.refl _ _⟩
 have b0:Hid (∀ x W,Calls prog 27 #[.int .i64 x] W fun e w'=>e=.returned (.agg #[.int .i64 x,.int .i64 (-1)])/\Below W.heap.size W w'):=fun x W=>Ja9 x W
 have b1:Hid (G=(w.alloc (.cells #[.bool b.put,.int .i64 b.who,.int .i64 b.op,.int .i64 b.config,.int .i64 b.c.n,.int .i64 b.c.k,.slice p b.c.L.length d0,.string b.key,.string b.text] 26)).alloc (.cells #[.int .i64 0,.int .i64 0] 39)):=by show _=_;rw [d5,d3]
 have a8:Hid (Below w.heap.size w G):=d9
 have b3:Hid (X4 G (w.heap.size+1) 0 0):=e4
 unfold iE at Y
 unfold O2
 clear d3 d5 d8 d6 d9 e4 hB hc e1
 by_cases hp:0 < (Jg b.c).1
 ·rw [WO hp]
  have d1:decide (0 < (Jg b.c).1)=true:=decide_eq_true hp
  generalize Jg b.c=F at *
  go_enter func11,ntmps11
  go_wp2_with (rw [<- b1.out])
  refine Y.mono ?_
  rintro e D ⟨rfl,Q⟩
  obtain ⟨y,I⟩:∃ y,y=D.alloc (.cells #[.int .i64 F.1,.int .i64 F.2] 39):=⟨_,rfl⟩
  have a2:Below D.heap.size D y:=by rw [I];exact (Below.refl _ _).alloc (Nat.le_refl _) _
  have U:Below G.heap.size G y:=Q.trans (a2.mono Q.size)
  have O:y.cell? ⟨D.heap.size,0,none⟩=some (.int .i64 F.1):=by rw [I,World.cell?_alloc_at _ _ _ _ rfl];rfl
  have x1:y.cell? ⟨D.heap.size,1,none⟩=some (.int .i64 F.2):=by rw [I,World.cell?_alloc_at _ _ _ _ rfl];rfl
  have a3:Hid (y=D.alloc (.cells #[.int .i64 F.1,.int .i64 F.2] 39)):=I
  have M:Hid (Below G.heap.size G y):=U
  have a0:=b3.out.below U
  have a4:Hid (X4 y (w.heap.size+1) 0 0):=a0
  clear Y Q I a2 U g4 g5 g6
  have r0:=a0.c0
  have r1:=a0.c1
  have b5:=a0.f0
  have b6:=a0.f1
  obtain ⟨k0,k1⟩:=a0.set F.1 F.2
  have a9:Hid (Below w.heap.size w ((y.setCell ⟨w.heap.size+1,0,none⟩ (.int .i64 F.1)).setCell ⟨w.heap.size+1,1,none⟩ (.int .i64 F.2))):=((a8.out.trans ((M.out).mono a8.out.size)).setCell (by show w.heap.size<=w.heap.size+1;omega) _).setCell (by show w.heap.size<=w.heap.size+1;omega) _
  clear a0 a4
  go_wp2_with (first | rw [<- a3.out] | fail)
  exact bodyPost_ret (v:=.agg #[.int .i64 F.1,.int .i64 F.2]) (by simp [results,results11,go_sem,k0,k1]) rfl ⟨rfl,a9.out⟩
 ·have h0:=(Xm hp).2.2.1
  have HD:Hid (JX b=JX b):=by show _=_;rfl
  by_cases hn:Jo b.key=true
  ·rw [hn] at a7
   by_cases d2:b.who < 0
   ·rw [FZ hp hn (fun h=>by unfold eT.fits at h;omega)]
    have d4:decide (b.who < 0)=true:=decide_eq_true d2
    have d1:decide (0 < (Jg b.c).1)=false:=decide_eq_false hp
    rw [h0] at d1 Y
    obtain ⟨F,hF⟩:∃ F:Int×Int,F=(0,-1):=⟨_,rfl⟩
    rw [<- hF] at d1 Y
    have b7:Hid (F=(0,-1)):=hF
    clear hF h0 hp hn HD
    go_enter func11,ntmps11
    go_wp2_with (rw [<- b1.out])
    refine Y.mono ?_
    rintro e D ⟨rfl,Q⟩
    obtain ⟨y,I⟩:∃ y,y=D.alloc (.cells #[.int .i64 F.1,.int .i64 F.2] 39):=⟨_,rfl⟩
    have a2:Below D.heap.size D y:=by rw [I];exact (Below.refl _ _).alloc (Nat.le_refl _) _
    have U:Below G.heap.size G y:=Q.trans (a2.mono Q.size)
    have O:y.cell? ⟨D.heap.size,0,none⟩=some (.int .i64 F.1):=by rw [I,World.cell?_alloc_at _ _ _ _ rfl];rfl
    have x1:y.cell? ⟨D.heap.size,1,none⟩=some (.int .i64 F.2):=by rw [I,World.cell?_alloc_at _ _ _ _ rfl];rfl
    have a3:Hid (y=D.alloc (.cells #[.int .i64 F.1,.int .i64 F.2] 39)):=I
    have M:Hid (Below G.heap.size G y):=U
    have a0:=b3.out.below U
    have a4:Hid (X4 y (w.heap.size+1) 0 0):=a0
    clear Y Q I a2 U g4 g5 g6
    have q7:=(a1.out y M.out).2.2.2.2.1
    clear a0
    go_wp2_with (first | rw [<- a3.out] | fail)
    refine (a7.out _).mono ?_
    rintro e J ⟨rfl,K⟩
    have X:Hid (Below G.heap.size G J):=M.out.trans (K.mono M.out.size)
    have Z:=a4.out.below K
    have a6:Hid (X4 J (w.heap.size+1) 0 0):=Z
    have y0:J.cell? ⟨D.heap.size,0,none⟩=some (.int .i64 F.1):=(K.cell (p:=⟨D.heap.size,0,none⟩) (Yr O)).trans O
    have y1:J.cell? ⟨D.heap.size,1,none⟩=some (.int .i64 F.2):=(K.cell (p:=⟨D.heap.size,1,none⟩) (Yr O)).trans x1
    obtain ⟨z0,z1,z2,z3,z7,z8⟩:=a1.out J X.out
    clear K O x1 q7 a4 a7 a3 M a1
    clear Z y0 y1
    go_wp2_with fail
    refine (b0.out 2 _).mono ?_
    rintro e w4 ⟨rfl,a5⟩
    have N:=a6.out.below a5
    have b2:Hid (Below G.heap.size G w4):=X.out.trans (a5.mono X.out.size)
    have r0:=N.c0
    have r1:=N.c1
    have b5:=N.f0
    have b6:=N.f1
    obtain ⟨k0,k1⟩:=N.set 2 (-1)
    have a9:Hid (Below w.heap.size w ((w4.setCell ⟨w.heap.size+1,0,none⟩ (.int .i64 2)).setCell ⟨w.heap.size+1,1,none⟩ (.int .i64 (-1)))):=((a8.out.trans ((b2.out).mono a8.out.size)).setCell (by show w.heap.size<=w.heap.size+1;omega) _).setCell (by show w.heap.size<=w.heap.size+1;omega) _
    clear N a5 a6 b0 X z0 z1 z2 z3 z7 z8
    go_wp2
    exact bodyPost_ret (v:=.agg #[.int .i64 2,.int .i64 (-1)]) (by simp [results,results11,go_sem,k0,k1]) rfl ⟨rfl,a9.out⟩
   ·skip
    by_cases I:6<=b.who
    ·rw [FZ hp hn (fun h=>by unfold eT.fits at h;omega)]
     have d7:decide (6<=b.who)=true:=decide_eq_true I
     have d4:decide (b.who < 0)=false:=decide_eq_false d2
     have d1:decide (0 < (Jg b.c).1)=false:=decide_eq_false hp
     rw [h0] at d1 Y
     obtain ⟨F,hF⟩:∃ F:Int×Int,F=(0,-1):=⟨_,rfl⟩
     rw [<- hF] at d1 Y
     have b7:Hid (F=(0,-1)):=hF
     clear hF h0 hp hn HD
     go_enter func11,ntmps11
     go_wp2_with (rw [<- b1.out])
     refine Y.mono ?_
     rintro e D ⟨rfl,Q⟩
     obtain ⟨y,I⟩:∃ y,y=D.alloc (.cells #[.int .i64 F.1,.int .i64 F.2] 39):=⟨_,rfl⟩
     have a2:Below D.heap.size D y:=by rw [I];exact (Below.refl _ _).alloc (Nat.le_refl _) _
     have U:Below G.heap.size G y:=Q.trans (a2.mono Q.size)
     have O:y.cell? ⟨D.heap.size,0,none⟩=some (.int .i64 F.1):=by rw [I,World.cell?_alloc_at _ _ _ _ rfl];rfl
     have x1:y.cell? ⟨D.heap.size,1,none⟩=some (.int .i64 F.2):=by rw [I,World.cell?_alloc_at _ _ _ _ rfl];rfl
     have a3:Hid (y=D.alloc (.cells #[.int .i64 F.1,.int .i64 F.2] 39)):=I
     have M:Hid (Below G.heap.size G y):=U
     have a0:=b3.out.below U
     have a4:Hid (X4 y (w.heap.size+1) 0 0):=a0
     clear Y Q I a2 U g4 g5 g6
     have q7:=(a1.out y M.out).2.2.2.2.1
     clear a0
     go_wp2_with (first | rw [<- a3.out] | fail)
     refine (a7.out _).mono ?_
     rintro e J ⟨rfl,K⟩
     have X:Hid (Below G.heap.size G J):=M.out.trans (K.mono M.out.size)
     have Z:=a4.out.below K
     have a6:Hid (X4 J (w.heap.size+1) 0 0):=Z
     have y0:J.cell? ⟨D.heap.size,0,none⟩=some (.int .i64 F.1):=(K.cell (p:=⟨D.heap.size,0,none⟩) (Yr O)).trans O
     have y1:J.cell? ⟨D.heap.size,1,none⟩=some (.int .i64 F.2):=(K.cell (p:=⟨D.heap.size,1,none⟩) (Yr O)).trans x1
     obtain ⟨z0,z1,z2,z3,z7,z8⟩:=a1.out J X.out
     clear K O x1 q7 a4 a7 a3 M a1
     clear Z y0 y1
     go_wp2_with fail
     refine (b0.out 2 _).mono ?_
     rintro e w4 ⟨rfl,a5⟩
     have N:=a6.out.below a5
     have b2:Hid (Below G.heap.size G w4):=X.out.trans (a5.mono X.out.size)
     have r0:=N.c0
     have r1:=N.c1
     have b5:=N.f0
     have b6:=N.f1
     obtain ⟨k0,k1⟩:=N.set 2 (-1)
     have a9:Hid (Below w.heap.size w ((w4.setCell ⟨w.heap.size+1,0,none⟩ (.int .i64 2)).setCell ⟨w.heap.size+1,1,none⟩ (.int .i64 (-1)))):=((a8.out.trans ((b2.out).mono a8.out.size)).setCell (by show w.heap.size<=w.heap.size+1;omega) _).setCell (by show w.heap.size<=w.heap.size+1;omega) _
     clear N a5 a6 b0 X z0 z1 z2 z3 z7 z8
     go_wp2
     exact bodyPost_ret (v:=.agg #[.int .i64 2,.int .i64 (-1)]) (by simp [results,results11,go_sem,k0,k1]) rfl ⟨rfl,a9.out⟩
    ·skip
     by_cases ho:b.op < 0
     ·rw [FZ hp hn (fun h=>by unfold eT.fits at h;omega)]
      have e0:decide (b.op < 0)=true:=decide_eq_true ho
      have d4:decide (b.who < 0)=false:=decide_eq_false d2
      have d7:decide (6<=b.who)=false:=decide_eq_false I
      have d1:decide (0 < (Jg b.c).1)=false:=decide_eq_false hp
      rw [h0] at d1 Y
      obtain ⟨F,hF⟩:∃ F:Int×Int,F=(0,-1):=⟨_,rfl⟩
      rw [<- hF] at d1 Y
      have b7:Hid (F=(0,-1)):=hF
      clear hF h0 hp hn HD
      go_enter func11,ntmps11
      go_wp2_with (rw [<- b1.out])
      refine Y.mono ?_
      rintro e D ⟨rfl,Q⟩
      obtain ⟨y,I⟩:∃ y,y=D.alloc (.cells #[.int .i64 F.1,.int .i64 F.2] 39):=⟨_,rfl⟩
      have a2:Below D.heap.size D y:=by rw [I];exact (Below.refl _ _).alloc (Nat.le_refl _) _
      have U:Below G.heap.size G y:=Q.trans (a2.mono Q.size)
      have O:y.cell? ⟨D.heap.size,0,none⟩=some (.int .i64 F.1):=by rw [I,World.cell?_alloc_at _ _ _ _ rfl];rfl
      have x1:y.cell? ⟨D.heap.size,1,none⟩=some (.int .i64 F.2):=by rw [I,World.cell?_alloc_at _ _ _ _ rfl];rfl
      have a3:Hid (y=D.alloc (.cells #[.int .i64 F.1,.int .i64 F.2] 39)):=I
      have M:Hid (Below G.heap.size G y):=U
      have a0:=b3.out.below U
      have a4:Hid (X4 y (w.heap.size+1) 0 0):=a0
      clear Y Q I a2 U g4 g5 g6
      have q7:=(a1.out y M.out).2.2.2.2.1
      clear a0
      go_wp2_with (first | rw [<- a3.out] | fail)
      refine (a7.out _).mono ?_
      rintro e J ⟨rfl,K⟩
      have X:Hid (Below G.heap.size G J):=M.out.trans (K.mono M.out.size)
      have Z:=a4.out.below K
      have a6:Hid (X4 J (w.heap.size+1) 0 0):=Z
      have y0:J.cell? ⟨D.heap.size,0,none⟩=some (.int .i64 F.1):=(K.cell (p:=⟨D.heap.size,0,none⟩) (Yr O)).trans O
      have y1:J.cell? ⟨D.heap.size,1,none⟩=some (.int .i64 F.2):=(K.cell (p:=⟨D.heap.size,1,none⟩) (Yr O)).trans x1
      obtain ⟨z0,z1,z2,z3,z7,z8⟩:=a1.out J X.out
      clear K O x1 q7 a4 a7 a3 M a1
      clear Z y0 y1
      go_wp2_with fail
      refine (b0.out 2 _).mono ?_
      rintro e w4 ⟨rfl,a5⟩
      have N:=a6.out.below a5
      have b2:Hid (Below G.heap.size G w4):=X.out.trans (a5.mono X.out.size)
      have r0:=N.c0
      have r1:=N.c1
      have b5:=N.f0
      have b6:=N.f1
      obtain ⟨k0,k1⟩:=N.set 2 (-1)
      have a9:Hid (Below w.heap.size w ((w4.setCell ⟨w.heap.size+1,0,none⟩ (.int .i64 2)).setCell ⟨w.heap.size+1,1,none⟩ (.int .i64 (-1)))):=((a8.out.trans ((b2.out).mono a8.out.size)).setCell (by show w.heap.size<=w.heap.size+1;omega) _).setCell (by show w.heap.size<=w.heap.size+1;omega) _
      clear N a5 a6 b0 X z0 z1 z2 z3 z7 z8
      go_wp2
      exact bodyPost_ret (v:=.agg #[.int .i64 2,.int .i64 (-1)]) (by simp [results,results11,go_sem,k0,k1]) rfl ⟨rfl,a9.out⟩
     ·skip
      by_cases e2:b.config < 0
      ·rw [FZ hp hn (fun h=>by unfold eT.fits at h;omega)]
       have e6:decide (b.config < 0)=true:=decide_eq_true e2
       have d4:decide (b.who < 0)=false:=decide_eq_false d2
       have d7:decide (6<=b.who)=false:=decide_eq_false I
       have e0:decide (b.op < 0)=false:=decide_eq_false ho
       have d1:decide (0 < (Jg b.c).1)=false:=decide_eq_false hp
       rw [h0] at d1 Y
       obtain ⟨F,hF⟩:∃ F:Int×Int,F=(0,-1):=⟨_,rfl⟩
       rw [<- hF] at d1 Y
       have b7:Hid (F=(0,-1)):=hF
       clear hF h0 hp hn HD
       go_enter func11,ntmps11
       go_wp2_with (rw [<- b1.out])
       refine Y.mono ?_
       rintro e D ⟨rfl,Q⟩
       obtain ⟨y,I⟩:∃ y,y=D.alloc (.cells #[.int .i64 F.1,.int .i64 F.2] 39):=⟨_,rfl⟩
       have a2:Below D.heap.size D y:=by rw [I];exact (Below.refl _ _).alloc (Nat.le_refl _) _
       have U:Below G.heap.size G y:=Q.trans (a2.mono Q.size)
       have O:y.cell? ⟨D.heap.size,0,none⟩=some (.int .i64 F.1):=by rw [I,World.cell?_alloc_at _ _ _ _ rfl];rfl
       have x1:y.cell? ⟨D.heap.size,1,none⟩=some (.int .i64 F.2):=by rw [I,World.cell?_alloc_at _ _ _ _ rfl];rfl
       have a3:Hid (y=D.alloc (.cells #[.int .i64 F.1,.int .i64 F.2] 39)):=I
       have M:Hid (Below G.heap.size G y):=U
       have a0:=b3.out.below U
       have a4:Hid (X4 y (w.heap.size+1) 0 0):=a0
       clear Y Q I a2 U g4 g5 g6
       have q7:=(a1.out y M.out).2.2.2.2.1
       clear a0
       go_wp2_with (first | rw [<- a3.out] | fail)
       refine (a7.out _).mono ?_
       rintro e J ⟨rfl,K⟩
       have X:Hid (Below G.heap.size G J):=M.out.trans (K.mono M.out.size)
       have Z:=a4.out.below K
       have a6:Hid (X4 J (w.heap.size+1) 0 0):=Z
       have y0:J.cell? ⟨D.heap.size,0,none⟩=some (.int .i64 F.1):=(K.cell (p:=⟨D.heap.size,0,none⟩) (Yr O)).trans O
       have y1:J.cell? ⟨D.heap.size,1,none⟩=some (.int .i64 F.2):=(K.cell (p:=⟨D.heap.size,1,none⟩) (Yr O)).trans x1
       obtain ⟨z0,z1,z2,z3,z7,z8⟩:=a1.out J X.out
       clear K O x1 q7 a4 a7 a3 M a1
       clear Z y0 y1
       go_wp2_with fail
       refine (b0.out 2 _).mono ?_
       rintro e w4 ⟨rfl,a5⟩
       have N:=a6.out.below a5
       have b2:Hid (Below G.heap.size G w4):=X.out.trans (a5.mono X.out.size)
       have r0:=N.c0
       have r1:=N.c1
       have b5:=N.f0
       have b6:=N.f1
       obtain ⟨k0,k1⟩:=N.set 2 (-1)
       have a9:Hid (Below w.heap.size w ((w4.setCell ⟨w.heap.size+1,0,none⟩ (.int .i64 2)).setCell ⟨w.heap.size+1,1,none⟩ (.int .i64 (-1)))):=((a8.out.trans ((b2.out).mono a8.out.size)).setCell (by show w.heap.size<=w.heap.size+1;omega) _).setCell (by show w.heap.size<=w.heap.size+1;omega) _
       clear N a5 a6 b0 X z0 z1 z2 z3 z7 z8
       go_wp2
       exact bodyPost_ret (v:=.agg #[.int .i64 2,.int .i64 (-1)]) (by simp [results,results11,go_sem,k0,k1]) rfl ⟨rfl,a9.out⟩
      ·skip
       by_cases b4:b.put=true/\1000 < b.text.size
       ·rw [FZ hp hn (fun h=>by unfold eT.fits at h;have:=h.2.2.2.2 b4.1;omega)]
        have d4:decide (b.who < 0)=false:=decide_eq_false d2
        have d7:decide (6<=b.who)=false:=decide_eq_false I
        have e0:decide (b.op < 0)=false:=decide_eq_false ho
        have e6:decide (b.config < 0)=false:=decide_eq_false e2
        have e8:decide (1000 < b.text.size)=true:=decide_eq_true b4.2
        have dp:=b4.1
        rw [dp] at a1 b1
        have d1:decide (0 < (Jg b.c).1)=false:=decide_eq_false hp
        rw [h0] at d1 Y
        obtain ⟨F,hF⟩:∃ F:Int×Int,F=(0,-1):=⟨_,rfl⟩
        rw [<- hF] at d1 Y
        have b7:Hid (F=(0,-1)):=hF
        clear hF h0 hp hn HD
        rw [dp]
        go_enter func11,ntmps11
        go_wp2_with (rw [<- b1.out])
        refine Y.mono ?_
        rintro e D ⟨rfl,Q⟩
        obtain ⟨y,I⟩:∃ y,y=D.alloc (.cells #[.int .i64 F.1,.int .i64 F.2] 39):=⟨_,rfl⟩
        have a2:Below D.heap.size D y:=by rw [I];exact (Below.refl _ _).alloc (Nat.le_refl _) _
        have U:Below G.heap.size G y:=Q.trans (a2.mono Q.size)
        have O:y.cell? ⟨D.heap.size,0,none⟩=some (.int .i64 F.1):=by rw [I,World.cell?_alloc_at _ _ _ _ rfl];rfl
        have x1:y.cell? ⟨D.heap.size,1,none⟩=some (.int .i64 F.2):=by rw [I,World.cell?_alloc_at _ _ _ _ rfl];rfl
        have a3:Hid (y=D.alloc (.cells #[.int .i64 F.1,.int .i64 F.2] 39)):=I
        have M:Hid (Below G.heap.size G y):=U
        have a0:=b3.out.below U
        have a4:Hid (X4 y (w.heap.size+1) 0 0):=a0
        clear Y Q I a2 U g4 g5 g6
        have q7:=(a1.out y M.out).2.2.2.2.1
        clear a0
        go_wp2_with (first | rw [<- a3.out] | fail)
        refine (a7.out _).mono ?_
        rintro e J ⟨rfl,K⟩
        have X:Hid (Below G.heap.size G J):=M.out.trans (K.mono M.out.size)
        have Z:=a4.out.below K
        have a6:Hid (X4 J (w.heap.size+1) 0 0):=Z
        have y0:J.cell? ⟨D.heap.size,0,none⟩=some (.int .i64 F.1):=(K.cell (p:=⟨D.heap.size,0,none⟩) (Yr O)).trans O
        have y1:J.cell? ⟨D.heap.size,1,none⟩=some (.int .i64 F.2):=(K.cell (p:=⟨D.heap.size,1,none⟩) (Yr O)).trans x1
        obtain ⟨z0,z1,z2,z3,z7,z8⟩:=a1.out J X.out
        clear K O x1 q7 a4 a7 a3 M a1
        clear Z y0 y1
        go_wp2_with fail
        refine (b0.out 2 _).mono ?_
        rintro e w4 ⟨rfl,a5⟩
        have N:=a6.out.below a5
        have b2:Hid (Below G.heap.size G w4):=X.out.trans (a5.mono X.out.size)
        have r0:=N.c0
        have r1:=N.c1
        have b5:=N.f0
        have b6:=N.f1
        obtain ⟨k0,k1⟩:=N.set 2 (-1)
        have a9:Hid (Below w.heap.size w ((w4.setCell ⟨w.heap.size+1,0,none⟩ (.int .i64 2)).setCell ⟨w.heap.size+1,1,none⟩ (.int .i64 (-1)))):=((a8.out.trans ((b2.out).mono a8.out.size)).setCell (by show w.heap.size<=w.heap.size+1;omega) _).setCell (by show w.heap.size<=w.heap.size+1;omega) _
        clear N a5 a6 b0 X z0 z1 z2 z3 z7 z8
        go_wp2
        exact bodyPost_ret (v:=.agg #[.int .i64 2,.int .i64 (-1)]) (by simp [results,results11,go_sem,k0,k1]) rfl ⟨rfl,a9.out⟩
       ·rw [KZ hp hn (by unfold eT.fits;refine ⟨by omega,by omega,by omega,by omega,fun h=>?_⟩;rcases Nat.lt_or_ge 1000 b.text.size with h2 | h2;exact absurd ⟨h,h2⟩ b4;exact h2)]
        have d4:decide (b.who < 0)=false:=decide_eq_false d2
        have d7:decide (6<=b.who)=false:=decide_eq_false I
        have e0:decide (b.op < 0)=false:=decide_eq_false ho
        have e6:decide (b.config < 0)=false:=decide_eq_false e2
        have d1:decide (0 < (Jg b.c).1)=false:=decide_eq_false hp
        rw [h0] at d1 Y
        obtain ⟨F,hF⟩:∃ F:Int×Int,F=(0,-1):=⟨_,rfl⟩
        rw [<- hF] at d1 Y
        have b7:Hid (F=(0,-1)):=hF
        clear hF h0 hp hn HD
        cases e7:b.put with
        | false =>
         rw [e7] at a1 b1 b4
         clear b4
         go_enter func11,ntmps11
         go_wp2_with (rw [<- b1.out])
         refine Y.mono ?_
         rintro e D ⟨rfl,Q⟩
         obtain ⟨y,I⟩:∃ y,y=D.alloc (.cells #[.int .i64 F.1,.int .i64 F.2] 39):=⟨_,rfl⟩
         have a2:Below D.heap.size D y:=by rw [I];exact (Below.refl _ _).alloc (Nat.le_refl _) _
         have U:Below G.heap.size G y:=Q.trans (a2.mono Q.size)
         have O:y.cell? ⟨D.heap.size,0,none⟩=some (.int .i64 F.1):=by rw [I,World.cell?_alloc_at _ _ _ _ rfl];rfl
         have x1:y.cell? ⟨D.heap.size,1,none⟩=some (.int .i64 F.2):=by rw [I,World.cell?_alloc_at _ _ _ _ rfl];rfl
         have a3:Hid (y=D.alloc (.cells #[.int .i64 F.1,.int .i64 F.2] 39)):=I
         have M:Hid (Below G.heap.size G y):=U
         have a0:=b3.out.below U
         have a4:Hid (X4 y (w.heap.size+1) 0 0):=a0
         clear Y Q I a2 U g4 g5 g6
         have q7:=(a1.out y M.out).2.2.2.2.1
         clear a0
         go_wp2_with (first | rw [<- a3.out] | fail)
         refine (a7.out _).mono ?_
         rintro e J ⟨rfl,K⟩
         have X:Hid (Below G.heap.size G J):=M.out.trans (K.mono M.out.size)
         have Z:=a4.out.below K
         have a6:Hid (X4 J (w.heap.size+1) 0 0):=Z
         have y0:J.cell? ⟨D.heap.size,0,none⟩=some (.int .i64 F.1):=(K.cell (p:=⟨D.heap.size,0,none⟩) (Yr O)).trans O
         have y1:J.cell? ⟨D.heap.size,1,none⟩=some (.int .i64 F.2):=(K.cell (p:=⟨D.heap.size,1,none⟩) (Yr O)).trans x1
         obtain ⟨z0,z1,z2,z3,z7,z8⟩:=a1.out J X.out
         clear K O x1 q7 a4 a7 a3 M a1
         rw [b7.out] at y0 y1
         dsimp only at y0 y1
         have r0:=Z.c0
         have r1:=Z.c1
         have b5:=Z.f0
         have b6:=Z.f1
         obtain ⟨k0,k1⟩:=Z.set 0 (-1)
         have a9:Hid (Below w.heap.size w ((J.setCell ⟨w.heap.size+1,0,none⟩ (.int .i64 0)).setCell ⟨w.heap.size+1,1,none⟩ (.int .i64 (-1)))):=((a8.out.trans ((X.out).mono a8.out.size)).setCell (by show w.heap.size<=w.heap.size+1;omega) _).setCell (by show w.heap.size<=w.heap.size+1;omega) _
         clear Z a6 b0
         go_wp2
         exact bodyPost_ret (v:=.agg #[.int .i64 0,.int .i64 (-1)]) (by simp [results,results11,go_sem,k0,k1]) rfl ⟨rfl,a9.out⟩
        | true =>
         rw [e7] at a1 b1 b4
         have e9:b.text.size<=1000:=by rcases Nat.lt_or_ge 1000 b.text.size with h2 | h2;exact absurd ⟨rfl,h2⟩ b4;exact h2
         have e8:decide ((1000:Int) < (b.text.size:Int))=false:=decide_eq_false (by omega)
         clear b4
         go_enter func11,ntmps11
         go_wp2_with (rw [<- b1.out])
         refine Y.mono ?_
         rintro e D ⟨rfl,Q⟩
         obtain ⟨y,I⟩:∃ y,y=D.alloc (.cells #[.int .i64 F.1,.int .i64 F.2] 39):=⟨_,rfl⟩
         have a2:Below D.heap.size D y:=by rw [I];exact (Below.refl _ _).alloc (Nat.le_refl _) _
         have U:Below G.heap.size G y:=Q.trans (a2.mono Q.size)
         have O:y.cell? ⟨D.heap.size,0,none⟩=some (.int .i64 F.1):=by rw [I,World.cell?_alloc_at _ _ _ _ rfl];rfl
         have x1:y.cell? ⟨D.heap.size,1,none⟩=some (.int .i64 F.2):=by rw [I,World.cell?_alloc_at _ _ _ _ rfl];rfl
         have a3:Hid (y=D.alloc (.cells #[.int .i64 F.1,.int .i64 F.2] 39)):=I
         have M:Hid (Below G.heap.size G y):=U
         have a0:=b3.out.below U
         have a4:Hid (X4 y (w.heap.size+1) 0 0):=a0
         clear Y Q I a2 U g4 g5 g6
         have q7:=(a1.out y M.out).2.2.2.2.1
         clear a0
         go_wp2_with (first | rw [<- a3.out] | fail)
         refine (a7.out _).mono ?_
         rintro e J ⟨rfl,K⟩
         have X:Hid (Below G.heap.size G J):=M.out.trans (K.mono M.out.size)
         have Z:=a4.out.below K
         have a6:Hid (X4 J (w.heap.size+1) 0 0):=Z
         have y0:J.cell? ⟨D.heap.size,0,none⟩=some (.int .i64 F.1):=(K.cell (p:=⟨D.heap.size,0,none⟩) (Yr O)).trans O
         have y1:J.cell? ⟨D.heap.size,1,none⟩=some (.int .i64 F.2):=(K.cell (p:=⟨D.heap.size,1,none⟩) (Yr O)).trans x1
         obtain ⟨z0,z1,z2,z3,z7,z8⟩:=a1.out J X.out
         clear K O x1 q7 a4 a7 a3 M a1
         rw [b7.out] at y0 y1
         dsimp only at y0 y1
         have r0:=Z.c0
         have r1:=Z.c1
         have b5:=Z.f0
         have b6:=Z.f1
         obtain ⟨k0,k1⟩:=Z.set 0 (-1)
         have a9:Hid (Below w.heap.size w ((J.setCell ⟨w.heap.size+1,0,none⟩ (.int .i64 0)).setCell ⟨w.heap.size+1,1,none⟩ (.int .i64 (-1)))):=((a8.out.trans ((X.out).mono a8.out.size)).setCell (by show w.heap.size<=w.heap.size+1;omega) _).setCell (by show w.heap.size<=w.heap.size+1;omega) _
         clear Z a6 b0
         go_wp2
         exact bodyPost_ret (v:=.agg #[.int .i64 0,.int .i64 (-1)]) (by simp [results,results11,go_sem,k0,k1]) rfl ⟨rfl,a9.out⟩
  ·have e3:Jo b.key=false:=by simpa using hn
   rw [LI hp e3]
   rw [e3] at a7
   have d1:decide (0 < (Jg b.c).1)=false:=decide_eq_false hp
   rw [h0] at d1 Y
   obtain ⟨F,hF⟩:∃ F:Int×Int,F=(0,-1):=⟨_,rfl⟩
   rw [<- hF] at d1 Y
   clear hF h0 hp hn e3 HD
   go_enter func11,ntmps11
   go_wp2_with (rw [<- b1.out])
   refine Y.mono ?_
   rintro e D ⟨rfl,Q⟩
   obtain ⟨y,I⟩:∃ y,y=D.alloc (.cells #[.int .i64 F.1,.int .i64 F.2] 39):=⟨_,rfl⟩
   have a2:Below D.heap.size D y:=by rw [I];exact (Below.refl _ _).alloc (Nat.le_refl _) _
   have U:Below G.heap.size G y:=Q.trans (a2.mono Q.size)
   have O:y.cell? ⟨D.heap.size,0,none⟩=some (.int .i64 F.1):=by rw [I,World.cell?_alloc_at _ _ _ _ rfl];rfl
   have x1:y.cell? ⟨D.heap.size,1,none⟩=some (.int .i64 F.2):=by rw [I,World.cell?_alloc_at _ _ _ _ rfl];rfl
   have a3:Hid (y=D.alloc (.cells #[.int .i64 F.1,.int .i64 F.2] 39)):=I
   have M:Hid (Below G.heap.size G y):=U
   have a0:=b3.out.below U
   have a4:Hid (X4 y (w.heap.size+1) 0 0):=a0
   clear Y Q I a2 U g4 g5 g6
   have q7:=(a1.out y M.out).2.2.2.2.1
   clear a0
   go_wp2_with (first | rw [<- a3.out] | fail)
   refine (a7.out _).mono ?_
   rintro e J ⟨rfl,K⟩
   have X:Hid (Below G.heap.size G J):=M.out.trans (K.mono M.out.size)
   have Z:=a4.out.below K
   have a6:Hid (X4 J (w.heap.size+1) 0 0):=Z
   have y0:J.cell? ⟨D.heap.size,0,none⟩=some (.int .i64 F.1):=(K.cell (p:=⟨D.heap.size,0,none⟩) (Yr O)).trans O
   have y1:J.cell? ⟨D.heap.size,1,none⟩=some (.int .i64 F.2):=(K.cell (p:=⟨D.heap.size,1,none⟩) (Yr O)).trans x1
   obtain ⟨z0,z1,z2,z3,z7,z8⟩:=a1.out J X.out
   clear K O x1 q7 a4 a7 a3 M a1
   clear Z y0 y1
   go_wp2_with fail
   refine (b0.out 4 _).mono ?_
   rintro e w4 ⟨rfl,a5⟩
   have N:=a6.out.below a5
   have b2:Hid (Below G.heap.size G w4):=X.out.trans (a5.mono X.out.size)
   have r0:=N.c0
   have r1:=N.c1
   have b5:=N.f0
   have b6:=N.f1
   obtain ⟨k0,k1⟩:=N.set 4 (-1)
   have a9:Hid (Below w.heap.size w ((w4.setCell ⟨w.heap.size+1,0,none⟩ (.int .i64 4)).setCell ⟨w.heap.size+1,1,none⟩ (.int .i64 (-1)))):=((a8.out.trans ((b2.out).mono a8.out.size)).setCell (by show w.heap.size<=w.heap.size+1;omega) _).setCell (by show w.heap.size<=w.heap.size+1;omega) _
   clear N a5 a6 b0 X z0 z1 z2 z3 z7 z8
   go_wp2
   exact bodyPost_ret (v:=.agg #[.int .i64 4,.int .i64 (-1)]) (by simp [results,results11,go_sem,k0,k1]) rfl ⟨rfl,a9.out⟩
def jH (c:Xg) (LL:List (List Yb)):Int×Int:=if 0 < (Jg c).1 then Jg c else if c.n < (LL.length:Int) then (3,-1) else (0,-1)
def jB (c:Xg) (LL:List (List Yb)):(Int×Int)×ByteArray×Bool:=if 0 < (jH c LL).1 then ((0,0),⟨#[]⟩,false) else Ys c.n.toNat c.k.toNat LL.flatten LL.flatten
theorem P0  (h:0 < (Jg c).1):jH c LL=Jg c/\jB c LL=((0,0),⟨#[]⟩,false):=by
 have e:jH c LL=Jg c:=if_pos h
 exact ⟨e,by unfold jB;rw [e,if_pos h]⟩
theorem LD  (h:¬ 0 < (Jg c).1) (j:c.n < (LL.length:Int)):jH c LL=(3,-1)/\jB c LL=((0,0),⟨#[]⟩,false):=by
 have e:jH c LL=(3,-1):=by unfold jH;rw [if_neg h,if_pos j]
 exact ⟨e,by unfold jB;rw [e];rfl⟩
theorem CM  (h:¬ 0 < (Jg c).1) (j:¬ c.n < (LL.length:Int)):jH c LL=(0,-1)/\jB c LL=Ys c.n.toNat c.k.toNat LL.flatten LL.flatten:=by
 have e:jH c LL=(0,-1):=by unfold jH;rw [if_neg h,if_neg j]
 exact ⟨e,by unfold jB;rw [e];rfl⟩
def JY (who:Int):ByteArray:=Jp [99,48+who.toNat]
def eT.ask (b:eT):Za:=⟨JY b.who,b.key,b.who,b.op,b.config,b.c,⟨0,0,[]⟩,b.put,false,.looking,[],[],(0,0),if b.put then b.text else ⟨#[]⟩,false⟩
def pP (y:World->Nat->Nat->(Nat->Prop)->Za->Prop) (ad:Nat->Addr) (b:eT) (B:Nat) (e:Ending) (w':World):Prop :=
 ∃ j,Jd w' ad j (JX b).1 (JX b).2/\((0 < (JX b).1/\e=.returned (.tuple #[.pointer none,j]))∨¬ 0 < (JX b).1/\∃ h S,e=.returned (.tuple #[.pointer (some ⟨h,0,none⟩),j])/\y w' B h S b.ask)
structure WS (ad:Nat->Addr) (X:World->Prop) (Ak:World->Nat->Nat->(Nat->Prop)->Za->Prop):Prop where
 dH:∀ {w B h S a},Ak w B h S a->∀ k,S k->B<=k/\k < w.heap.size
 aS:∀ {w w' B h S a},Ak w B h S a->Below B w w'->(∀ k,S k->w'.heap[k]?=w.heap[k]?)->Ak w' B h S a
 put:∀ (b:eT) (p:Option Addr) (cap:Nat) (w:World),Yn w b.c p cap->b.put=true->b.key.size<=1000->b.text.size<=3000->Zt b.who->Zt b.op->Zt b.config->Zp w ad->X w->Calls prog 8 #[.int .i64 b.who,.int .i64 b.op,iE b.c (.slice p b.c.L.length cap),.int .i64 b.config,.string b.key,.string b.text] w fun e w'=>pP Ak ad b w.heap.size e w'/\Below w.heap.size w w'
 get:∀ (b:eT) (p:Option Addr) (cap:Nat) (w:World),Yn w b.c p cap->b.put=false->b.key.size<=1000->Zt b.who->Zt b.op->Zt b.config->Zp w ad->X w->Calls prog 10 #[.int .i64 b.who,.int .i64 b.op,iE b.c (.slice p b.c.L.length cap),.int .i64 b.config,.string b.key] w fun e w'=>pP Ak ad b w.heap.size e w'/\Below w.heap.size w w'
 begin:∀ {w B h S a},Ak w B h S a->X w->Calls prog 16 #[.pointer (some ⟨h,0,none⟩)] w fun e w'=>(∃ p c,e=.returned (.slice p a.begin.length c)/\pD w.heap.size w' p a.begin)/\∃ S',Ak w' B h S' a/\Yd S S' w w'
 aD:∀ {w B h S a} (x:Zb×Lv),Ak w B h S a->Jn w x->a.small x.1->(∀ v ∈ x.1.L,Jt v)->(∀ W:World,w.heap.size<=W.heap.size->(∀ k,k < w.heap.size->¬ S k->W.heap[k]?=w.heap[k]?)->Zp W ad/\X W)->Calls prog 18 #[.pointer (some ⟨h,0,none⟩),Z1 x.1 (fI x.2)] w fun e w'=>(∃ p c,e=.returned (.slice p (a.aD x.1).2.length c)/\pD w.heap.size w' p (a.aD x.1).2)/\∃ S',Ak w' B h S' (a.aD x.1).1/\Yd S S' w w'
 state:∀ {w B h S a},Ak w B h S a->Calls prog 21 #[.pointer (some ⟨h,0,none⟩)] w fun e w'=>e=.returned (.string a.st.word)/\Below w.heap.size w w'
 answer:∀ {w B h S a},Ak w B h S a->Calls prog 22 #[.pointer (some ⟨h,0,none⟩)] w fun e w'=>e=.returned (if a.st=.done/\a.found=true then .tuple #[.agg #[.int .i64 a.tag.1,.int .i64 a.tag.2],.string a.text,.bool true] else .tuple #[.agg #[.int .i64 0,.int .i64 0],.string ⟨#[]⟩,.bool false])/\Below w.heap.size w w'
def fU (a:Za):Za×List Zb:=if a.from_.length < Jh a.c then (a,[]) else if a.bR.found=false then ({ a.bR with st:=.done },[]) else (a.bR.keeps,a.bR.keeps.send JJ true)
theorem pW  (h:a.aM m=false):a.aD m=(a,[]):=if_pos h
theorem qQ  (h:a.aM m=true) (j:m.shut=true) (y:a.st≠.sealing):a.aD m=({ a with st:=.refused },[]):=by
 unfold Za.aD
 rw [if_neg (by rw [h];decide),if_pos ⟨j,y⟩]
theorem H8  (h:a.aM m=true) (y:m.shut=false) (D:a.st=.looking):a.aD m=fU (a.heard m):=by
 unfold Za.aD fU
 rw [if_neg (by rw [h];decide),if_neg (fun e=>by rw [y] at e;cases e.1)]
 by_cases j:(a.heard m).from_.length < Jh a.c
 ·rw [if_pos j]
  exact (if_pos j).symm
 ·rw [if_neg j,if_neg (by rw [D];intro e;cases e)]
  exact (if_neg j).symm
theorem uB  (h:a.aM m=true) (y:m.shut=false) (D:a.st=.keeping):a.aD m=(if (a.heard m).from_.length < Jh a.c then a.heard m else { a.heard m with st:=.done },[]):=by
 unfold Za.aD
 rw [if_neg (by rw [h];decide),if_neg (fun e=>by rw [y] at e;cases e.1)]
 by_cases j:(a.heard m).from_.length < Jh a.c
 ·rw [if_pos j,if_pos j]
 ·rw [if_neg j,if_neg j,if_pos D]
structure JU (a:Za):Prop where
 cfg:¬ 0 < (Jg a.c).1
 key:a.key.size<=100
 name:a.name.size<=100
 still:a.aI=false
 kW:0<=a.who/\a.who < 6
 tJ:0<=a.op/\a.op<=9223372036854775807
 sD:0<=a.config/\a.config<=9223372036854775807
 text:a.text.size<=1000
 st:a.st≠.sealing
 nodup:a.from_.Nodup
 sub:∀ x ∈ a.from_,x ∈ a.c.L
 both:a.from_.length=a.L.length
 aS:a.st=.keeping->a.found=true
 cM:∀ l ∈ a.L,∀ v ∈ l,Jt v
theorem EB  (J:a.st≠.sealing) (h:a.aM m=true):(a.st=.looking∨a.st=.keeping)/\m.from_ ∈ a.c.L/\m.from_ ∉ a.from_:=by
 unfold Za.aM at h
 rw [Bool.and_eq_true,Bool.and_eq_true] at h
 obtain ⟨D,G,y⟩:=h
 refine ⟨?_,Zl.1 G,fun I=>by rw [Zl.2 I] at y;cases y⟩
 have j:=(of_decide_eq_true D).1
 cases e:a.st with
 | looking=>exact Or.inl rfl
 | sealing=>exact absurd e J
 | keeping=>exact Or.inr rfl
 | done=>rw [e] at j;exact absurd rfl j
 | refused=>rw [e] at j;exact absurd rfl j
theorem JU.heard  (h:JU a) (K:a.aM m=true) (M:∀ v ∈ m.L,Jt v):JU (a.heard m):=by
 obtain ⟨_,G,I⟩:=EB h.st K
 refine ⟨h.cfg,h.key,h.name,h.still,h.kW,h.tJ,h.sD,h.text,h.st,?_,?_,?_,h.aS,?_⟩
 ·show (a.from_ ++ [m.from_]).Nodup
  rw [List.nodup_append]
  exact ⟨h.nodup,by simp,fun x j y J=>by rw [List.mem_singleton.1 J];intro e;exact I (e ▸ j)⟩
 ·intro x j
  rcases List.mem_append.1 j with j | j
  ·exact h.sub x j
  ·rw [List.mem_singleton.1 j];exact G
 ·show (a.from_ ++ [m.from_]).length=(a.L ++ [m.L]).length
  simp [h.both]
 ·intro l D
  rcases List.mem_append.1 D with D | D
  ·exact h.cM l D
  ·rw [List.mem_singleton.1 D];exact M
theorem Jop (h:JU a):a.bR.text.size<=1000:=by
 unfold Za.bR
 split
 ·exact h.text
 ·obtain ⟨⟨j,_,_⟩,_⟩:=Xm h.cfg
  exact y9 (by omega) _ _ (by decide)
theorem JU.ended (h:JU a) {st:St} (j:st=.done∨st=.refused):JU { a with st:=st }:=⟨h.cfg,h.key,h.name,h.still,h.kW,h.tJ,h.sD,h.text,(by intro e;rcases j with j | j <;> rw [j] at e <;> cases e),h.nodup,h.sub,h.both,(fun e=>by rcases j with j | j <;> rw [j] at e <;> cases e),h.cM⟩
theorem JU.found (h:JU a) (Q:a.st=.looking):JU a.bR:=by
 obtain ⟨y,I,J,K,M,N,O,D,j,G,_⟩:=YE a
 exact ⟨by rw [y];exact h.cfg,by rw [I];exact h.key,by rw [J];exact h.name,by rw [K];exact h.still,by rw [M];exact h.kW,by rw [N];exact h.tJ,by rw [O];exact h.sD,Jop h,by rw [D];exact h.st,by rw [j];exact h.nodup,by rw [j,y];exact h.sub,by rw [j,G];exact h.both,(fun e=>by rw [D,Q] at e;cases e),by rw [G];exact h.cM⟩
theorem MG (h:a.aI=false):a.keeps={ a with st:=.keeping,from_:=[],L:=[] }:=by
 unfold Za.keeps
 rw [h]
 rfl
theorem JU.keeps (h:JU a) (D:a.found=true):JU a.keeps:=by
 rw [MG h.still]
 exact ⟨h.cfg,h.key,h.name,h.still,h.kW,h.tJ,h.sD,h.text,(by intro e;cases e),List.nodup_nil,(fun x j=>by cases j),rfl,(fun _=>D),(fun l y=>by cases y)⟩
theorem Jqd (ad:Nat->Addr) (p:Option Addr) (l:List ByteArray) (c:Nat) (w:World) (D:l.length<=1000) (G:l.length<=c) (I:Strs w p l) (j:Zp w ad) :
 Calls prog 102 #[.slice p l.length c] w fun e w'=>(∃ y,e=.returned y/\Jd w' ad y (Xj l).1 (Xj l).2)/\Below w.heap.size w w':=by
 exact IF ad p l c w D G I ⟨j.c1,j.c3,j.c5⟩
structure k8 (w:World) (b:Nat) (c:Xg) (lv:Value):Prop where
 f0:w.cell? ⟨b,0,none⟩=some (.int .i64 c.n)
 f1:w.cell? ⟨b,1,none⟩=some (.int .i64 c.k)
 f2:w.cell? ⟨b,2,none⟩=some lv
theorem k8.below  {lv:Value} (h:k8 w b c lv) (j:Below w.heap.size w w'):k8 w' b c lv :=
 ⟨(j.cell (Yl h.f0)).trans h.f0,(j.cell (Yl h.f0)).trans h.f1,(j.cell (Yl h.f0)).trans h.f2⟩
theorem AA (w:World) (c:Xg) (lv:Value) (t:TypeId):k8 (w.alloc (.cells #[.int .i64 c.n,.int .i64 c.k,lv] t)) w.heap.size c lv :=
 ⟨by rw [World.cell?_alloc_at _ _ _ _ rfl];rfl,by rw [World.cell?_alloc_at _ _ _ _ rfl];rfl,by rw [World.cell?_alloc_at _ _ _ _ rfl];rfl⟩
theorem qU (ad:Nat->Addr) (c:Xg) (p:Option Addr) (K:Nat) (w:World) (O:Yn w c p K) (hE:Zp w ad) :
 Calls prog 73 #[iE c (.slice p c.L.length K)] w fun e w'=>(∃ I,e=.returned I/\Jd w' ad I (Jg c).1 (Jg c).2)/\Below w.heap.size w w':=by
 obtain ⟨j,Q⟩:∃ j,j=w.alloc (.cells #[.int .i64 c.n,.int .i64 c.k,.slice p c.L.length K] 24):=⟨_,rfl⟩
 have U:Below w.heap.size w j:=by rw [Q];exact (Below.refl _ _).alloc (Nat.le_refl _) _
 have X:k8 j w.heap.size c (.slice p c.L.length K):=by rw [Q];exact AA w c _ _
 have Y:=hE.below U
 have Z:Hid (Calls prog 102 #[.slice p c.L.length K] j fun e w'=>(∃ I,e=.returned I/\Jd w' ad I (Xj c.L).1 (Xj c.L).2)/\Below j.heap.size j w'):=Jqd ad p c.L K j O.len O.room (O.strs.below U) Y
 have a1:Hid (j=w.alloc (.cells #[.int .i64 c.n,.int .i64 c.k,.slice p c.L.length K] 24)):=Q
 have a0:Hid (Below w.heap.size w j):=U
 have M:Hid (∀ W,Calls prog 101 #[.int .i64 c.n,.int .i64 c.k] W fun e w'=>e=.returned (.bool (decide (1<=c.k/\c.k<=c.n/\c.n<=12)))/\w'=W):=fun W=>xC c.n c.k W
 have q1:=Y.c1
 have q2:=Y.c2
 have f0:=X.f0
 have f1:=X.f1
 have f2:=X.f2
 have a4:Hid (∀ W,Jd W ad (.iface 252 (.pointer (some (ad 1)))) 2 (-1)):=fun W=>Jd.b8 1 (by decide)
 have a5:Hid (∀ W,Jd W ad (.iface 252 (.pointer (some (ad 2)))) 3 (-1)):=fun W=>Jd.b8 2 (by decide)
 have a8:=O.len
 unfold iE
 clear Q U X Y hE O
 by_cases y:1<=c.k/\c.k<=c.n/\c.n<=12
 ·have J:Hid (∀ W,Calls prog 101 #[.int .i64 c.n,.int .i64 c.k] W fun e w'=>e=.returned (.bool true)/\w'=W):=fun W=>by have:=M.out W;rw [decide_eq_true y] at this;exact this
  by_cases hn:(c.L.length:Int)=c.n
  ·have D:Hid (Jg c=Xj c.L):=wU y hn
   rw [D.out]
   obtain ⟨n,k,L⟩:=c
   dsimp only at *
   subst hn
   clear M D y
   generalize Xj L=R at *
   go_enter func73,ntmps73
   go_wp2_with fail
   rw [<- a1.out]
   refine (J.out _).mono ?_
   rintro e N ⟨rfl,G⟩
   rw [G]
   clear G N J
   go_wp2_with fail
   refine Z.out.mono ?_
   rintro e w3 ⟨⟨I,rfl,a2⟩,a3⟩
   have a6:Hid (Below w.heap.size w w3):=a0.out.trans (a3.mono a0.out.size)
   have a7:Hid (Jd w3 ad I R.1 R.2):=a2
   clear a2 a3 Z
   go_wp2
   go_ret
   exact ⟨⟨_,rfl,a7.out⟩,a6.out⟩
  ·have D:Hid (Jg c=(3,-1)):=FM y hn
   rw [D.out]
   obtain ⟨n,k,L⟩:=c
   dsimp only at *
   clear M D y Z
   go_enter func73,ntmps73
   go_wp2_with fail
   rw [<- a1.out]
   refine (J.out _).mono ?_
   rintro e N ⟨rfl,G⟩
   rw [G]
   clear G N J
   go_wp2
   go_ret
   exact ⟨⟨_,rfl,a5.out _⟩,a0.out⟩
 ·have D:Hid (Jg c=(2,-1)):=vZ y
  have J:Hid (∀ W,Calls prog 101 #[.int .i64 c.n,.int .i64 c.k] W fun e w'=>e=.returned (.bool false)/\w'=W):=fun W=>by have:=M.out W;rw [decide_eq_false y] at this;exact this
  rw [D.out]
  obtain ⟨n,k,L⟩:=c
  dsimp only at *
  clear M D y Z
  go_enter func73,ntmps73
  go_wp2_with fail
  rw [<- a1.out]
  refine (J.out _).mono ?_
  rintro e N ⟨rfl,G⟩
  rw [G]
  clear G N J
  go_wp2
  go_ret
  exact ⟨⟨_,rfl,a4.out _⟩,a0.out⟩
theorem JlQ (ad:Nat->Addr) (c:Xg) (p:Option Addr) (y:Nat) (w:World) (hc:Yn w c p y) (hE:Zp w ad) :
 Calls prog 105 #[iE c (.slice p c.L.length y)] w fun e w'=>(∃ K,e=.returned (.tuple #[.int .i64 ((if 0 < (Jg c).1 then 0 else Jh c:Nat):Int),K])/\Jd w' ad K (Jg c).1 (Jg c).2)/\Below w.heap.size w w':=by
 obtain ⟨j,N⟩:∃ j,j=w.alloc (.cells #[.int .i64 c.n,.int .i64 c.k,.slice p c.L.length y] 24):=⟨_,rfl⟩
 have O:Below w.heap.size w j:=by rw [N];exact (Below.refl _ _).alloc (Nat.le_refl _) _
 have M:k8 j w.heap.size c (.slice p c.L.length y):=by rw [N];exact AA w c _ _
 have D:=qU ad c p y j (hc.below O) (hE.below O)
 have a0:Hid (j=w.alloc (.cells #[.int .i64 c.n,.int .i64 c.k,.slice p c.L.length y] 24)):=N
 have Q:Hid (Below w.heap.size w j):=O
 have a1:Hid (k8 j w.heap.size c (.slice p c.L.length y)):=M
 have f0:=M.f0
 have f1:=M.f1
 have f2:=M.f2
 unfold iE at D ⊢
 clear N O M hE hc
 by_cases G:0 < (Jg c).1
 ·rw [if_pos G]
  have HP:Hid (0 < (Jg c).1):=G
  clear G
  generalize Jg c=R at *
  obtain ⟨n,k,L⟩:=c
  dsimp only at *
  go_enter func105,ntmps105
  go_wp2_with fail
  rw [<- a0.out]
  refine D.mono ?_
  rintro e U ⟨⟨K,rfl,I⟩,J⟩
  have X:Hid (Below w.heap.size w U):=Q.out.trans (J.mono Q.out.size)
  have a2:Hid (Jd U ad K R.1 R.2):=I
  obtain ⟨et,eu,rfl⟩:=I.some HP.out
  clear I J D
  go_wp2
  go_ret2
  exact ⟨⟨_,rfl,a2.out⟩,X.out⟩
 ·obtain ⟨W,hn,Y,_,_⟩:=Xm G
  rw [if_neg G,Y]
  rw [Y] at D
  have a3:Hid ((c.n+c.k+1) / 2=((Jh c:Nat):Int)):=by
   show _=_
   unfold Jh
   omega
  have a4:1<=c.k:=W.1
  have a5:c.k<=c.n:=W.2.1
  have a6:c.n<=12:=W.2.2
  clear G hn Y W
  generalize Jh c=en at *
  obtain ⟨n,k,L⟩:=c
  dsimp only at *
  go_enter func105,ntmps105
  go_wp2_with fail
  rw [<- a0.out]
  refine D.mono ?_
  rintro e U ⟨⟨K,rfl,I⟩,J⟩
  have X:Hid (Below w.heap.size w U):=Q.out.trans (J.mono Q.out.size)
  have Z:=a1.out.below J
  have g0:=Z.f0
  have g1:=Z.f1
  dsimp only at g0 g1
  obtain rfl:=Jd.isNil I
  clear I J D Z f0 f1 f2
  go_wp2
  go_ret2
  exact ⟨⟨_,by rw [a3.out];rfl,Jd.nil _ _⟩,X.out⟩
theorem X8 {a b:Int×Int}:Qd a b=true↔a.1 < b.1∨a.1=b.1/\a.2 < b.2:=by simp [Qd]
theorem yQ {a b c:Int×Int} (j:Qd a b=true) (y:Qd b c=true):Qd a c=true:=by
 rw [X8] at *
 omega
theorem IL {a b:Int×Int} (j:Qd a b=false) (y:Qd b a=false):a=b:=by
 have D:¬ (a.1 < b.1∨a.1=b.1/\a.2 < b.2):=fun h=>by rw [X8.2 h] at j;cases j
 have G:¬ (b.1 < a.1∨b.1=a.1/\b.2 < a.2):=fun h=>by rw [X8.2 h] at y;cases y
 exact Prod.ext (by omega) (by omega)
def Xp (n k:Nat) (all:List Yb) (t:Int×Int):Prop:=k<=(Zf n k t all).2.length
def mP (n k:Nat) (all:List Yb) (t:Int×Int):ByteArray:=gB k (Zf n k t all).1.toNat (Qg k (Zf n k t all).2 (Zf n k t all).2.length)
theorem DG {n k:Nat} {t:Int×Int}:∀ (L:List Yb) (S:Int×List (Int×ByteArray)),(∀ v ∈ L,(v.n,v.who)≠t)->L.foldl (ZT n k t) S=S
 | [],_,_=>rfl
 | v :: L,S,h=>by
  rw [List.foldl_cons,oL (fun j=>h v (by simp) (Prod.ext j.1 j.2.1))]
  exact DG L S fun u y=>h u (by simp [y])
theorem nZ  (D:1<=k) (h:Xp n k all t):∃ v ∈ all,(v.n,v.who)=t:=by
 by_cases j:∃ v ∈ all,(v.n,v.who)=t
 ·exact j
 ·exfalso
  have e:Zf n k t all=(-1,[]):=DG all _ fun v y e=>j ⟨v,y,e⟩
  unfold Xp at h
  rw [e] at h
  simp at h
  omega
structure yX (n k:Nat) (all L:List Yb) (S:(Int×Int)×ByteArray×Bool):Prop where
 no:S.2.2=false->S=((0,0),⟨#[]⟩,false)/\∀ v ∈ L,¬ Xp n k all (v.n,v.who)
 yes:S.2.2=true->Xp n k all S.1/\S.2.1=mP n k all S.1/\∀ v ∈ L,Xp n k all (v.n,v.who)->Qd S.1 (v.n,v.who)=false
theorem RE {L:List Yb} {S:(Int×Int)×ByteArray×Bool} (v:Yb) (h:yX n k all L S):yX n k all (L ++ [v]) (XH n k all S v):=by
 by_cases I:S.2.2=true/\Qd S.1 (v.n,v.who)=false
 ·rw [Jkh I]
  refine ⟨fun j=>(by rw [I.1] at j;cases j),fun j=>⟨(h.yes j).1,(h.yes j).2.1,fun u D G=>?_⟩⟩
  rcases List.mem_append.1 D with e | e
  ·exact (h.yes j).2.2 u e G
  ·rw [List.mem_singleton.1 e];exact I.2
 ·by_cases j:(Zf n k (v.n,v.who) all).2.length < k
  ·rw [Jki I j]
   have M:¬ Xp n k all (v.n,v.who):=by unfold Xp;omega
   refine ⟨fun y=>⟨(h.no y).1,fun u D=>?_⟩,fun y=>⟨(h.yes y).1,(h.yes y).2.1,fun u D G=>?_⟩⟩
   ·rcases List.mem_append.1 D with e | e
    ·exact (h.no y).2 u e
    ·rw [List.mem_singleton.1 e];exact M
   ·rcases List.mem_append.1 D with e | e
    ·exact (h.yes y).2.2 u e G
    ·rw [List.mem_singleton.1 e] at G;exact absurd G M
  ·rw [S6 I j]
   have G:Xp n k all (v.n,v.who):=by unfold Xp;omega
   refine ⟨fun y=>(by cases y),fun _=>⟨G,rfl,fun u D N=>?_⟩⟩
   rcases List.mem_append.1 D with e | e
   ·cases J:S.2.2 with
    | false=>exact absurd N ((h.no J).2 u e)
    | true =>
     have K:Qd S.1 (v.n,v.who)=true:=by
      cases K:Qd S.1 (v.n,v.who) with
      | true=>rfl
      | false=>exact absurd ⟨J,K⟩ I
     cases O:Qd (v.n,v.who) (u.n,u.who) with
     | false=>rfl
     | true =>
      have:=(h.yes J).2.2 u e N
      rw [yQ K O] at this
      cases this
   ·rw [List.mem_singleton.1 e]
    show Qd (v.n,v.who) (v.n,v.who)=false
    simp [Qd]
theorem wG (n k:Nat) (all:List Yb):∀ i,i<=all.length->yX n k all (all.take i) (Ys n k all (all.take i))
 | 0,_=>⟨fun _=>⟨rfl,fun v j=>(by simp at j)⟩,fun h=>(by cases h)⟩
 | i+1,hi=>by
  have ih:=RE (Xd all i) (wG n k all i (by omega))
  rw [OP (by omega)]
  have e:all.take (i+1)=all.take i ++ [Xd all i]:=by rw [List.take_add_one,Xx (by omega)];rfl
  rw [e]
  exact ih
theorem GP  (h:∀ v ∈ all,¬ Xp n k all (v.n,v.who)):Ys n k all all=((0,0),⟨#[]⟩,false):=by
 have y:=wG n k all all.length (Nat.le_refl _)
 rw [List.take_length] at y
 cases j:(Ys n k all all).2.2 with
 | false=>exact (y.no j).1
 | true =>
  exfalso
  obtain ⟨D,K,M⟩:=y.yes j
  by_cases I:1<=k
  ·obtain ⟨v,J,e⟩:=nZ I D
   exact h v J (by rw [e];exact D)
  ·cases G:all with
   | nil=>rw [G] at j;cases j
   | cons v r=>exact h v (by rw [G];simp) (by unfold Xp;omega)
theorem IS  (M:1<=k) (h:Xp n k all t) (N:∀ u,Xp n k all u->Qd t u=false):Ys n k all all=(t,mP n k all t,true):=by
 have j:=wG n k all all.length (Nat.le_refl _)
 rw [List.take_length] at j
 obtain ⟨v,D,e⟩:=nZ M h
 cases y:(Ys n k all all).2.2 with
 | false=>exact absurd h (by rw [<- e];exact (j.no y).2 v D)
 | true =>
  obtain ⟨J,G,K⟩:=j.yes y
  have I:(Ys n k all all).1=t:=IL (by have:=K v D (by rw [e];exact h);rw [e] at this;exact this) (N _ J)
  rw [I] at G
  exact Prod.ext I (Prod.ext G y)
theorem BR  (L:List Yb):((Zf n k t L).1 < 0↔(Zf n k t L).2=[]):=by
 have I:∀ (L:List Yb) (S:Int×List (Int×ByteArray)),(S.1 < 0↔S.2=[])->((L.foldl (ZT n k t) S).1 < 0↔(L.foldl (ZT n k t) S).2=[]):=by
  intro L
  induction L with
  | nil=>intro S h;exact h
  | cons v L ih =>
   intro S h
   rw [List.foldl_cons]
   refine ih _ ?_
   by_cases D:v.n=t.1/\v.who=t.2/\YO n k v=true
   ·have G:=D.2.2
    unfold YO at G
    rw [Bool.and_eq_true] at G
    have c1:=(of_decide_eq_true G.2).1
    by_cases y:S.1 < 0
    ·rw [ZO (z:=v.size) D (by rw [if_pos y]),h.1 y]
     simp
     omega
    ·rw [ZO (z:=S.1) D (by rw [if_neg y])]
     have J:S.2≠[]:=fun e=>y (h.2 e)
     constructor
     ·intro j;exact absurd j y
     ·intro j
      dsimp only at j
      split at j
      ·simp at j
      ·exact absurd j J
   ·rw [oL D]
    exact h
 exact I L _ ⟨fun _=>rfl,fun _=>by decide⟩
theorem uX  (L:List Yb) (v:Yb):Zf n k t (L ++ [v])=ZT n k t (Zf n k t L) v:=by
 unfold Zf
 rw [List.foldl_append]
 rfl
section
def iO (t:Int×Int):Value:=.agg #[.int .i64 t.1,.int .i64 t.2]
def YD (t:Int×Int):Lit:=.string (keyBytes [.int .i64 t.1,.int .i64 t.2])
def Jr (t:Int×Int):Prop:=(-9223372036854775808<=t.1/\t.1<=9223372036854775807)/\-9223372036854775808<=t.2/\t.2<=9223372036854775807
theorem PN:laidOutB prog=true:=by kernel_rfl
theorem WK:(46:TypeId) < prog.types.size:=of_decide_eq_true (by kernel_rfl)
theorem JtC:(match prog.underlying 46 with | some (.array _ _) | some (.struct _)=>true | _=>false)=true:=by rw [underlying46]
theorem qN:Maps.Keyed prog 46:=Maps.Keyed.of_law (deep_law_laid PN (m:=3) (by omega) WK (by kernel_rfl) JtC)
theorem ER:prog.keyType 46=true:=by kernel_rfl
theorem yU:prog.cellsOf 46=2:=by kernel_rfl
theorem PF:prog.cellsOf 3=1:=by kernel_rfl
theorem UZ:prog.types.size=283:=by kernel_rfl
theorem uA {a:Int}:(Lit.int .i64 a).wf=true↔-9223372036854775808<=a/\a<=9223372036854775807:=by
 simp [Lit.wf,IntKind.min,IntKind.max,IntKind.bits,IntKind.signed]
theorem Ja7 (m:Nat) (c:Value) (j:List Lit):prog.keyLits (m+1) 3 [c]=some j↔∃ a,c=.int .i64 a/\(Lit.int .i64 a).wf=true/\j=[.int .i64 a]:=by
 constructor
 ·intro h
  cases c <;> simp [Program.keyLits,underlying3] at h
  obtain ⟨⟨rfl,y⟩,rfl⟩:=h
  exact ⟨_,rfl,y,rfl⟩
 ·rintro ⟨a,rfl,h,rfl⟩
  simp [Program.keyLits,underlying3,h]
theorem IX (c0 c1:Value) (J:List Lit):prog.keyLits (prog.types.size+1) 46 [c0,c1]=some J↔∃ a b,c0=.int .i64 a/\c1=.int .i64 b/\(Lit.int .i64 a).wf=true/\(Lit.int .i64 b).wf=true/\J=[.int .i64 a,.int .i64 b]:=by
 obtain ⟨m,K⟩:∃ m,prog.types.size=m+1:=⟨283 - 1,by rw [UZ]⟩
 rw [K]
 unfold Program.keyLits
 rw [underlying46]
 simp only [List.length_cons,List.length_nil,yU,PF,List.mapM_cons,List.mapM_nil,List.drop_zero,List.take_succ_cons,List.take_zero,List.drop_succ_cons]
 constructor
 ·intro h
  cases j:prog.keyLits (m+1) 3 [c0] with
  | none=>simp [j] at h
  | some M =>
   cases y:prog.keyLits (m+1) 3 [c1] with
   | none=>simp [j,y] at h
   | some N =>
    obtain ⟨a,rfl,G,rfl⟩:=(Ja7 m c0 M).1 j
    obtain ⟨b,rfl,I,rfl⟩:=(Ja7 m c1 N).1 y
    simp [j,y] at h
    exact ⟨a,b,rfl,rfl,G,I,h.symm⟩
 ·rintro ⟨a,b,rfl,rfl,G,I,rfl⟩
  simp [(Ja7 m _ _).2 ⟨a,rfl,G,rfl⟩,(Ja7 m _ _).2 ⟨b,rfl,I,rfl⟩]
theorem sO (h:Jr t):keyOf prog 46 (iO t)=some (YD t):=by
 have j:(iO t).formed prog 46=true:=by simp [iO,Value.formed,underlying46,yU]
 have y:=(IX (.int .i64 t.1) (.int .i64 t.2) _).2 ⟨t.1,t.2,rfl,rfl,uA.2 h.1,uA.2 h.2,rfl⟩
 have G:(iO t).cells.toList=[.int .i64 t.1,.int .i64 t.2]:=by simp [iO,Value.cells]
 unfold keyOf
 rw [underlying46]
 simp only [ER,j,Bool.and_self,if_true,G,y]
 rfl
theorem CC {l:Lit} (h:keyOf prog 46 v=some l):∃ t,v=iO t/\l=YD t/\Jr t:=by
 unfold keyOf at h
 rw [underlying46] at h
 simp only [ER,Bool.true_and] at h
 split at h
 ·rename_i j
  obtain ⟨y,G,rfl⟩:=Option.map_eq_some_iff.1 h
  cases v <;> simp [Value.formed,underlying46,yU] at j
  rename_i I
  obtain ⟨J⟩:=I
  match J,j with
  | [c0,c1],_ =>
   have K:prog.keyLits (prog.types.size+1) 46 [c0,c1]=some y:=by simpa [Value.cells] using G
   obtain ⟨a,b,rfl,rfl,M,N,rfl⟩:=(IX c0 c1 y).1 K
   exact ⟨(a,b),rfl,rfl,uA.1 M,uA.1 N⟩
 ·cases h
theorem xX {u:Int×Int} (j:Jr t) (y:Jr u) (h:YD t=YD u):t=u:=by
 have:=qN.inj (sO j) (by rw [h];exact sO y)
 unfold iO at this
 simp at this
 exact Prod.ext this.1 this.2
theorem D6 (t:Int×Int):WideAt.IsKeyLit (YD t):=trivial
def YR:Value->Option (DataW Value×List MemPlace)
 | .agg ⟨[.int .i64 z,.slice p n c]⟩=>some (.held (.agg #[.int .i64 z,.slice p n c]),[])
 | _=>none
def X7 (x:Int×Option Addr×Nat×Nat):Value:=.agg #[.int .i64 x.1,.slice x.2.1 x.2.2.1 x.2.2.2]
theorem zY (x:Int×Option Addr×Nat×Nat):YR (X7 x)=some (.held (X7 x),[]):=rfl
theorem FP {y:DataW Value×List MemPlace} (h:YR v=some y):∃ x,v=X7 x/\y=(.held (X7 x),[]):=by
 unfold YR at h
 split at h
 ·rename_i z p n c
  injection h with h
  exact ⟨(z,p,n,c),rfl,h.symm⟩
 ·cases h
abbrev sR (w:World) (b m:Nat) (D:DataW Value):Prop:=w.ownsMap prog 46 YR b m D
theorem sR.same  (h:sR w b n D) (J:w'.heap[b]?=w.heap[b]?):sR w' b n D:=by
 obtain ⟨j,y,G,I⟩:=h
 exact ⟨j,y,J.trans G,I⟩
theorem rZ {r j:Nat} {left:Lit->Bool} (h:w.ranges prog 46 YR b r n D left j) (U:w'.heap[b]?=w.heap[b]?) (W:w'.heap[r]?=w.heap[r]?):w'.ranges prog 46 YR b r n D left j:=by
 obtain ⟨y,G,I,J,c0,K,F,M,N,O,Q⟩:=h
 exact ⟨y,G,I,J,c0,U.trans K,F,M,N,W.trans O,Q⟩
structure Y1 (w:World) (B b n k:Nat) (L:List Yb) (D:DataW Value) (row:Int×Int->Value) (dT:Int×Int->Nat):Prop where
 map:∃ m,m<=L.length/\sR w b m D
 aO:B<=b
 has:∀ t,Jr t->Maps.has D (YD t)=decide ((Zf n k t L).2≠[])
 at_:∀ t,Jr t->(Zf n k t L).2≠[]->∀ z,D.atKey (YD t) z=.held (.agg #[.int .i64 (Zf n k t L).1,row t])
 own:∀ t,Jr t->w.ownsRow B 74 2 (row t) (Zf n k t L).2.length (Js (Zf n k t L).2)
 eB:∀ t,Jr t->(Zf n k t L).2=[]->row t=.slice none 0 0
 eA:∀ t,Jr t->(Zf n k t L).2≠[]->(row t).ownBlock=some (dT t)/\dT t≠b
 apart:∀ t u,Jr t->Jr u->(Zf n k t L).2≠[]->(Zf n k u L).2≠[]->t≠u->dT t≠dT u
variable {w w':World} {B b n k:Nat} {L:List Yb} {D:DataW Value} {row:Int×Int->Value} {dT:Int×Int->Nat}
theorem Y1.lt (h:Y1 w B b n k L D row dT):b < w.heap.size:=by
 obtain ⟨m,_,j⟩:=h.map
 exact World.ownsMap.lt j
theorem Y1.below (h:Y1 w B b n k L D row dT) (j:Below w.heap.size w w'):Y1 w' B b n k L D row dT:=by
 obtain ⟨m,y,G⟩:=h.map
 refine ⟨⟨m,y,G.same (j.block b h.lt)⟩,h.aO,h.has,h.at_,fun t I=>World.ownsRow.kept (row:=none) (h.own t I) (QD j none) (by cases (row t).ownBlock <;> simp),h.eB,h.eA,h.apart⟩
theorem W5 (w:World) (n k:Nat):Y1 (w.alloc (.map #[] 0)) w.heap.size w.heap.size n k [] (.map []) (fun _=>.slice none 0 0) (fun _=>0):=by
 refine ⟨⟨0,Nat.le_refl _,World.ownsMap_made w _ _ _⟩,Nat.le_refl _,fun t _=>rfl,fun t _ h=>absurd rfl h,fun t _=>World.ownsRow_nil _ _ _ _,fun _ _ _=>rfl,fun t _ h=>absurd rfl h,fun t _ _ _ h=>absurd rfl h⟩
def kH (S:Int×List (Int×ByteArray)):Int:=if S.2=[] then 0 else S.1
theorem Y1.look (h:Y1 w B b n k L D row dT) (y:Jr t):(Instr.lookup 140 (.map (some b)) (iO t) false).run prog w=.ok (.agg #[.int .i64 (kH (Zf n k t L)),row t]) w:=by
 have G:(zeroValue 143).run prog w=.ok (X7 (0,none,0,0)) w:=by kernel_rfl
 obtain ⟨m,_,I⟩:=h.map
 obtain ⟨v,ps,J,K⟩:=World.ownsMap.lookup I qN underlying140 G (zd:=.held (X7 (0,none,0,0))) (zp:=[]) (zY _) (sO y)
 rw [J]
 obtain ⟨x,rfl,M⟩:=FP K
 have e:D.atKey (YD t) (.held (X7 (0,none,0,0)))=.held (X7 x):=congrArg Prod.fst M
 unfold kH
 by_cases j:(Zf n k t L).2=[]
 ·rw [Maps.atKey_of_not_has (by rw [h.has t y];simp [j])] at e
  injection e with e
  rw [if_pos j,h.eB t y j,<- e]
  rfl
 ·rw [h.at_ t y j] at e
  injection e with e
  rw [if_neg j,e]
theorem yP {w:World} {B:Nat} {T:TypeId} {l:List (Int×ByteArray)} (h:w.ownsRow B T 2 v l.length (Js l)) (I:l≠[]):∃ g,v.ownBlock=some g/\B<=g/\g < w.heap.size:=by
 rcases h.2 with ⟨_,j⟩ | ⟨g,J,K,rfl,y,G,_⟩
 ·exact absurd (List.length_eq_zero_iff.1 j) I
 ·exact ⟨g,rfl,y,(Array.getElem?_eq_some_iff.1 G).1⟩
theorem Y1.pass (h:Y1 w B b n k L D row dT) {v:Yb} (G:YO n k v=false):Y1 w B b n k (L ++ [v]) D row dT:=by
 have e:∀ t,Zf n k t (L ++ [v])=Zf n k t L:=fun t=>by rw [uX,oL (fun j=>by rw [G] at j;cases j.2.2)]
 obtain ⟨m,I,y⟩:=h.map
 refine ⟨⟨m,by rw [List.length_append];omega,y⟩,h.aO,?_,?_,?_,?_,?_,?_⟩
 ·intro t;rw [e];exact h.has t
 ·intro t;rw [e];exact h.at_ t
 ·intro t;rw [e];exact h.own t
 ·intro t;rw [e];exact h.eB t
 ·intro t;rw [e];exact h.eA t
 ·intro t u;rw [e,e];exact h.apart t u
theorem WG {n k:Nat} {S:Int×List (Int×ByteArray)} {v:Yb} (y:S.1 < 0↔S.2=[]) (G:v.n=t.1/\v.who=t.2/\YO n k v=true):(ZT n k t S v).2≠[]:=by
 by_cases j:S.1 < 0
 ·rw [ZO (z:=v.size) G (by rw [if_pos j]),y.1 j]
  simp
 ·rw [ZO (z:=S.1) G (by rw [if_neg j])]
  have I:S.2≠[]:=fun e=>j (y.2 e)
  try dsimp only
  split
  ·simp
  ·exact I
theorem Y1.put (h:Y1 w B b n k L D row dT) {v:Yb} (hc:YO n k v=true) (M:Jr (v.n,v.who)) (hB:B<=w.heap.size) {Z:World} {a0:Value} {S':Int×List (Int×ByteArray)} (hS:S'=ZT n k (v.n,v.who) (Zf n k (v.n,v.who) L) v)
 (a2:w.grownBy Z (row (v.n,v.who)).ownBlock) (b0:Z.ownsRow B 74 2 a0 S'.2.length (Js S'.2)) (b1:a0.ownBlock=(row (v.n,v.who)).ownBlock∨∃ g,a0.ownBlock=some g/\w.heap.size<=g) (d4:∃ p c,a0=.slice p S'.2.length c) (d8:L.length < 1000000) :
 ∃ X,(Instr.mapUpdate 140 (.map (some b)) (iO (v.n,v.who)) (.agg #[.int .i64 S'.1,a0])).run prog Z=.ok () X/\Below B w X/\∃ D' b2 b3,Y1 X B b n k (L ++ [v]) D' b2 b3:=by
 obtain ⟨m,hm,h3⟩:=h.map
 have a3:S'.2≠[]:=by rw [hS];exact WG (BR L) ⟨rfl,rfl,hc⟩
 have a6:some b≠(row (v.n,v.who)).ownBlock:=by
  by_cases J:(Zf n k (v.n,v.who) L).2=[]
  ·rw [h.eB _ M J];simp [Value.ownBlock]
  ·obtain ⟨N,K⟩:=h.eA _ M J
   rw [N]
   simp
   exact fun e=>K e.symm
 obtain ⟨p,c,rfl⟩:=d4
 have b4:sR Z b m D:=World.ownsMap.kept h3 a2 a6
 obtain ⟨X,b5,b6,a4⟩:=World.ownsMap.update b4 qN underlying140 (by show m < maxLen;unfold maxLen;omega) (sO M) (zY (S'.1,p,S'.2.length,c))
 have b7:=a2.size
 have d0:Below B w X:=by
  have d1:Below B w Z:=(Below.refl _ _).grown a2 hB (fun j Y=>by
   by_cases J:(Zf n k (v.n,v.who) L).2=[]
   ·rw [h.eB _ M J] at Y;cases Y
   ·obtain ⟨g,N,K,_⟩:=yP (h.own _ M) J
    rw [N] at Y
    cases Y
    exact K)
  exact d1.trans ((Below.refl _ _).grown a4 (Nat.le_trans hB b7) (fun j Y=>by cases Y;exact h.aO))
 obtain ⟨g',Q,d5,d6⟩:=yP b0 a3
 have a7:g'≠b:=by
  rcases b1 with e | ⟨g,N,K⟩
  ·rw [Q] at e
   exact fun K=>a6 (by rw [<- e,K])
  ·rw [Q] at N
   cases N
   have:=h.lt
   omega
 have N:Zf n k (v.n,v.who) (L ++ [v])=S':=by rw [uX,hS]
 have K:∀ u,u≠(v.n,v.who)->Zf n k u (L ++ [v])=Zf n k u L:=fun u G=>by rw [uX,oL (fun hh=>G (Prod.ext hh.1.symm hh.2.1.symm))]
 refine ⟨X,b5,d0,D.put (YD (v.n,v.who)) (.held (X7 (S'.1,p,S'.2.length,c))),fun u=>if u=(v.n,v.who) then .slice p S'.2.length c else row u,fun u=>if u=(v.n,v.who) then g' else dT u,⟨⟨m+1,by rw [List.length_append,List.length_singleton];omega,b6⟩,h.aO,?_,?_,?_,?_,?_,?_⟩⟩
 ·intro u G
  by_cases e:u=(v.n,v.who)
  ·rw [e,Maps.has_put_same (World.ownsMap.isMap h3) (D6 _),N]
   simp [a3]
  ·rw [Maps.has_put_other (fun I=>e (xX G M I)),K u e]
   exact h.has u G
 ·intro u G J z
  by_cases e:u=(v.n,v.who)
  ·subst e
   rw [Maps.atKey_put_same (World.ownsMap.isMap h3) (D6 _),N,if_pos rfl]
   rfl
  ·rw [K u e] at J ⊢
   rw [Maps.atKey_put_other (fun I=>e (xX G M I)),if_neg e]
   exact h.at_ u G J z
 ·intro u G
  try dsimp only
  by_cases e:u=(v.n,v.who)
  ·subst e
   rw [N,if_pos rfl]
   refine World.ownsRow.kept b0 a4 ?_
   rw [Q]
   refine Or.inr fun e=>a7 ?_
   injection e
  ·rw [K u e,if_neg e]
   have d2:Z.ownsRow B 74 2 (row u) (Zf n k u L).2.length (Js (Zf n k u L).2):=by
    refine World.ownsRow.kept (h.own u G) a2 ?_
    by_cases O:(Zf n k u L).2=[]
    ·rw [h.eB u G O];exact Or.inl rfl
    ·refine Or.inr ?_
     rw [(h.eA u G O).1]
     by_cases U:(Zf n k (v.n,v.who) L).2=[]
     ·rw [h.eB _ M U];simp [Value.ownBlock]
     ·rw [(h.eA _ M U).1]
      intro I
      injection I with I
      exact h.apart u _ G M O U e I
   refine World.ownsRow.kept d2 a4 ?_
   by_cases O:(Zf n k u L).2=[]
   ·rw [h.eB u G O];exact Or.inl rfl
   ·refine Or.inr ?_
    rw [(h.eA u G O).1]
    intro I
    injection I with I
    exact (h.eA u G O).2 I
 ·intro u G J
  try dsimp only
  by_cases e:u=(v.n,v.who)
  ·subst e
   rw [N] at J
   exact absurd J a3
  ·rw [K u e] at J
   rw [if_neg e]
   exact h.eB u G J
 ·intro u G J
  try dsimp only
  by_cases e:u=(v.n,v.who)
  ·subst e
   rw [if_pos rfl,if_pos rfl]
   exact ⟨Q,a7⟩
  ·rw [K u e] at J
   rw [if_neg e,if_neg e]
   exact h.eA u G J
 ·intro u x G hx O a1 a8
  try dsimp only
  have a9:∀ y,Jr y->y≠(v.n,v.who)->(Zf n k y L).2≠[]->dT y≠g':=fun y hy d3 a5 e=>by
   obtain ⟨g,q1,q2,q3⟩:=yP (h.own y hy) a5
   rw [(h.eA y hy a5).1] at q1
   injection q1 with q1
   rcases b1 with I | ⟨g2,I,d7⟩
   ·by_cases U:(Zf n k (v.n,v.who) L).2=[]
    ·rw [h.eB _ M U,Q] at I;cases I
    ·rw [Q,(h.eA _ M U).1] at I
     injection I with I
     exact h.apart y _ hy M a5 U d3 (e.trans I)
   ·rw [Q] at I
    injection I with I
    omega
  by_cases eu:u=(v.n,v.who)
  ·have W:x≠(v.n,v.who):=fun e=>a8 (eu.trans e.symm)
   rw [if_pos eu,if_neg W]
   rw [K x W] at a1
   exact fun e=>a9 x hx W a1 e.symm
  ·rw [K u eu] at O
   rw [if_neg eu]
   by_cases W:x=(v.n,v.who)
   ·rw [if_pos W]
    exact a9 u G eu O
   ·rw [K x W] at a1
    rw [if_neg W]
    exact h.apart u x G hx O a1 a8
end
end Go.Proofs.YtmikbldbfnlfjaaGreatDoor
