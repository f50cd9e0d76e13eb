import Derived.Test.YtghpdhegfnhmkaaGreatDoorR8
import Derived.Test.YtghpdhegfnhmkaaGreatDoorR6
import Derived.Test.YtghpdhegfnhmkaaGreatDoorR7
import Derived.Test.YtghpdhegfnhmkaaGreatDoorR0
import Derived.BigQuiet
import Derived.Sort.Grow
import Derived.StillTailTactics
import Derived.ProofKit
import Derived.OpenShut
import Derived.ChangeOld
import Derived.Deep.SlicePairs
import Derived.Lib.SmallJoins
namespace Go.Proofs.YtghpdhegfnhmkaaGreatDoor
open Go.RowKit
theorem errIs_fault {w w':World} {ad:Nat->Addr} {t:TypeId} (i:Nat) (hi:i < 12) (at_:Int) (hw:w'=w.alloc (.cells #[.int .i64 at_,.iface 218 (.pointer (some (ad i)))] t)):ErrIs w' ad (.iface 121 (.pointer (some ⟨w.heap.size,0,none⟩))) ((i+1:Nat):Int) at_:=by
 subst hw
 refine Or.inr (Or.inr ⟨i,w.heap.size,hi,rfl,rfl,?_,?_⟩)
 ·rw [World.cell?_alloc_at _ _ _ _ rfl];rfl
 ·rw [World.cell?_alloc_at _ _ _ _ rfl];rfl
set_option maxRecDepth 10000 in
set_option maxHeartbeats 1000000 in
theorem check_bound (ad:Nat->Addr) (p:Option Addr) (l:List ByteArray) (c:Nat) (w:World) (hl:l.length<=1000) (hE:ErrsQ w ad) (h:l.length < 1∨16 < l.length) :
 Calls Tryz.prog 76 #[.slice p l.length c] w fun e w'=>(∃ ev,e=.returned ev/\ErrIs w' ad ev 2 (-1))/\Below w.heap.size w w':=by
 have q1:=hE.c1
 have HI:Hid (∀ W,ErrIs W ad (.iface 218 (.pointer (some (ad 1)))) 2 (-1)):=fun W=>ErrIs.sent 1 (by decide)
 clear hE
 rcases h with h | h
 ·have d1:decide ((l.length:Int) < 1)=true:=decide_eq_true (by omega)
  go_enter Tryz.func76,Tryz.ntmps76
  go_wp2
  go_ret
  exact ⟨⟨_,rfl,HI.out _⟩,Below.refl _ _⟩
 ·have d1:decide ((l.length:Int) < 1)=false:=decide_eq_false (by omega)
  have d2:decide (16 < (l.length:Int))=true:=decide_eq_true (by omega)
  go_enter Tryz.func76,Tryz.ntmps76
  go_wp2
  go_ret
  exact ⟨⟨_,rfl,HI.out _⟩,Below.refl _ _⟩
set_option maxRecDepth 10000 in
set_option maxHeartbeats 4000000 in
theorem check_scan (ad:Nat->Addr) (p:Option Addr) (l:List ByteArray) (c:Nat) (w:World) (h1:¬ l.length < 1) (h2:¬ 16 < l.length) (hc:l.length<=c) (hs:Strs w p l) (hE:ErrsQ w ad) :
 Calls Tryz.prog 76 #[.slice p l.length c] w fun e w'=>(∃ ev,e=.returned ev/\ErrIs w' ad ev (scanF l 0 l.length).1 (scanF l 0 l.length).2)/\Below w.heap.size w w':=by
 have HS:Hid (Strs w p l):=hs
 have HE:Hid (ErrsQ w ad):=hE
 have g1:decide ((l.length:Int) < 1)=false:=decide_eq_false (by omega)
 have g2:decide (16 < (l.length:Int))=false:=decide_eq_false (by omega)
 obtain ⟨b,o,rfl⟩:∃ b o,p=some ⟨b,o,none⟩:=by
  rcases hs with h0 | ⟨b,o,hp,_⟩
  ·rw [h0] at h1;exact absurd (by decide) h1
  ·exact ⟨b,o,hp⟩
 clear hs hE
 obtain ⟨R,hR⟩:∃ R,R=scanF l 0 l.length:=⟨_,rfl⟩
 rw [<- hR]
 have HR:Hid (R=scanF l 0 l.length):=hR
 clear hR
 go_enter Tryz.func76,Tryz.ntmps76
 go_wp2
 go_loopw [16] (fun x wq=>∃ i:Nat,i<=l.length/\x=.int .i64 i/\scanF l i (l.length - i)=R/\Below w.heap.size w wq) (fun x _=>l.length - (intOf x).toNat)
 case atStart=>exact ⟨0,Nat.zero_le _,rfl,HR.out.symm,Below.refl _ _⟩
 case round =>
  obtain ⟨i,hi,rfl,hsc,hbq⟩:=hrel
  obtain ⟨w1,rfl⟩:∃ w1,w1=wr:=⟨_,rfl⟩
  have HSC:Hid (scanF l i (l.length - i)=R):=hsc
  have HBW:Hid (Below w.heap.size w w1):=hbq
  have HS1:Hid (Strs w1 (some ⟨b,o,none⟩) l):=HS.out.below hbq
  have HE1:Hid (ErrsQ w1 ad):=HE.out.below hbq
  clear hsc hbq HR HS HE
  by_cases hil:i < l.length
  ·have q3 : w1.cell? ⟨b, o + i, none⟩ = some (.string (txt l i)) := by
    rcases HS1.out with h0 | ⟨b',o',hp,_,hcell⟩
    ·rw [h0] at hil;exact absurd hil (Nat.not_lt_zero _)
    ·obtain ⟨rfl,rfl⟩:b=b'/\o=o':=by simpa using hp
     exact hcell i hil
   have HNAME:Hid (∀ W,Calls Tryz.prog 32 #[.string (txt l i)] W fun e w'=>e=.returned (.bool (isN (txt l i)))/\Below W.heap.size W w'):=fun W=>pname_any _ W
   have HSUC:Hid (scanF l i (l.length - i)=if faultAt l i=0 then scanF l (i+1) (l.length - (i+1)) else (((faultAt l i:Nat):Int),(i:Int))):=by
    show _=_
    rw [show l.length - i=(l.length - (i+1))+1 by omega]
    rfl
   by_cases hN:isN (txt l i)=true
   ·have HCON:Hid (∀ W,Strs W (some ⟨b,o,none⟩) (l.take i)->Calls Tryz.prog 91 #[.slice (some ⟨b,o,none⟩) (l.take i).length c,.string (txt l i)] W fun e w'=>e=.returned (.bool (inL (l.take i) (txt l i)))/\w'=W):=fun W hW=>scont_any _ _ c _ W (by rw [List.length_take];omega) hW
    rw [show (l.take i).length=i by rw [List.length_take];omega] at HCON
    rw [hN] at HNAME
    by_cases hM:txt l i ∈ l.take i
    ·have HA : Hid (R = (6, (i : Int))) := by
      show _=_
      rw [<- HSC.out,HSUC.out,faultAt_twice hN hM,if_neg (by decide)]
      rfl
     rw [inL_iff.2 hM] at HCON
     clear HSC HSUC hN hM
     generalize txt l i=t at *
     go_wp2_with fail
     refine (HNAME.out _).mono ?_
     rintro e w2 ⟨rfl,hb2⟩
     have HB2:Hid (Below w.heap.size w w2):=HBW.out.trans (hb2.mono HBW.out.size)
     have HS2:Hid (Strs w2 (some ⟨b,o,none⟩) (l.take i)):=(HS1.out.below hb2).take i
     have hE2:ErrsQ w2 ad:=HE1.out.below hb2
     have q4:=hE2.c5
     clear hE2 hb2 HNAME q3
     go_wp2_with fail
     refine (HCON.out _ HS2.out).mono ?_
     rintro e w3 ⟨rfl,hw3⟩
     rw [hw3]
     clear hw3 w3 HCON HS2
     go_wp2
     go_ret
     exact ⟨⟨_,rfl,by rw [HA.out];exact errIs_fault (w:=w2) 5 (by decide) (i:Int) rfl⟩,HB2.out.alloc HB2.out.size _⟩
    ·have HA : Hid (scanF l (i + 1) (l.length - (i + 1)) = R) := by
      show _=_
      rw [<- HSC.out,HSUC.out,faultAt_fine hN hM,if_pos rfl]
     rw [Bool.eq_false_iff.2 (fun h=>hM (inL_iff.1 h))] at HCON
     clear HSC HSUC hN hM
     generalize txt l i=t at *
     go_wp2_with fail
     refine (HNAME.out _).mono ?_
     rintro e w2 ⟨rfl,hb2⟩
     have HB2:Hid (Below w.heap.size w w2):=HBW.out.trans (hb2.mono HBW.out.size)
     have HS2:Hid (Strs w2 (some ⟨b,o,none⟩) (l.take i)):=(HS1.out.below hb2).take i
     clear hb2 HNAME q3
     go_wp2_with fail
     refine (HCON.out _ HS2.out).mono ?_
     rintro e w3 ⟨rfl,hw3⟩
     rw [hw3]
     clear hw3 w3 HCON HS2
     go_wp2
     go_roundw
     case rel=>exact ⟨i+1,by omega,by go_num,HA.out,HB2.out⟩
     case measure=>simp [intOf];omega
   ·have hN':isN (txt l i)=false:=Bool.eq_false_iff.2 hN
    have HA:Hid (R=(4,(i:Int))):=by
     show _=_
     rw [<- HSC.out,HSUC.out,faultAt_name hN',if_neg (by decide)]
     rfl
    rw [hN'] at HNAME
    clear HSC HSUC hN hN'
    generalize txt l i=t at *
    go_wp2_with fail
    refine (HNAME.out _).mono ?_
    rintro e w2 ⟨rfl,hb2⟩
    have HB2:Hid (Below w.heap.size w w2):=HBW.out.trans (hb2.mono HBW.out.size)
    have hE2:ErrsQ w2 ad:=HE1.out.below hb2
    have q4:=hE2.c3
    clear hE2 hb2 HNAME q3
    go_wp2
    go_ret
    exact ⟨⟨_,rfl,by rw [HA.out];exact errIs_fault (w:=w2) 3 (by decide) (i:Int) rfl⟩,HB2.out.alloc HB2.out.size _⟩
  ·have hie:i=l.length:=by omega
   subst hie
   have HA:Hid (R=(0,-1)):=by
    show _=_
    rw [<- HSC.out,Nat.sub_self]
    rfl
   clear HSC
   go_wp2
   go_ret
   exact ⟨⟨_,rfl,by rw [HA.out];exact ErrIs.nil _ _⟩,HBW.out⟩
theorem check_any (ad:Nat->Addr) (p:Option Addr) (l:List ByteArray) (c:Nat) (w:World) (hl:l.length<=1000) (hc:l.length<=c) (hs:Strs w p l) (hE:ErrsQ w ad) :
 Calls Tryz.prog 76 #[.slice p l.length c] w fun e w'=>(∃ ev,e=.returned ev/\ErrIs w' ad ev (nodesF l).1 (nodesF l).2)/\Below w.heap.size w w':=by
 by_cases h:l.length < 1∨16 < l.length
 ·rw [nodesF_bound h]
  exact check_bound ad p l c w hl hE h
 ·rw [nodesF_scan (by omega) (by omega)]
  exact check_scan ad p l c w (by omega) (by omega) hc hs hE
structure CfgBox (w:World) (b:Nat) (c:Cfg) (lv:Value):Prop where
 f0:w.cell? ⟨b,0,none⟩=some (.int .i64 c.n)
 f1:w.cell? ⟨b,1,none⟩=some (.int .i64 c.k)
 f2:w.cell? ⟨b,2,none⟩=some lv
theorem CfgBox.below {w w':World} {b:Nat} {c:Cfg} {lv:Value} (h:CfgBox w b c lv) (hb:Below w.heap.size w w'):CfgBox w' b c lv :=
 ⟨(hb.cell (lt_of_cellE h.f0)).trans h.f0,(hb.cell (lt_of_cellE h.f0)).trans h.f1,(hb.cell (lt_of_cellE h.f0)).trans h.f2⟩
theorem cfgBox_made (w:World) (c:Cfg) (lv:Value) (t:TypeId):CfgBox (w.alloc (.cells #[.int .i64 c.n,.int .i64 c.k,lv] t)) w.heap.size c lv :=
 ⟨by rw [World.cell?_alloc_at _ _ _ _ rfl];rfl,by rw [World.cell?_alloc_at _ _ _ _ rfl];rfl,by rw [World.cell?_alloc_at _ _ _ _ rfl];rfl⟩
set_option maxRecDepth 10000 in
set_option maxHeartbeats 4000000 in
theorem qcheck_any (ad:Nat->Addr) (c:Cfg) (p:Option Addr) (cap:Nat) (w:World) (hc:CfgAt w c p cap) (hE:ErrsQ w ad) :
 Calls Tryz.prog 60 #[cfgA c (.slice p c.L.length cap)] w fun e w'=>(∃ ev,e=.returned ev/\ErrIs w' ad ev (cfgF c).1 (cfgF c).2)/\Below w.heap.size w w':=by
 obtain ⟨w1,hw1⟩:∃ w1,w1=w.alloc (.cells #[.int .i64 c.n,.int .i64 c.k,.slice p c.L.length cap] 24):=⟨_,rfl⟩
 have hb1:Below w.heap.size w w1:=by rw [hw1];exact (Below.refl _ _).alloc (Nat.le_refl _) _
 have hx1:CfgBox w1 w.heap.size c (.slice p c.L.length cap):=by rw [hw1];exact cfgBox_made w c _ _
 have hE1:=hE.below hb1
 have HCK:Hid (Calls Tryz.prog 76 #[.slice p c.L.length cap] w1 fun e w'=>(∃ ev,e=.returned ev/\ErrIs w' ad ev (nodesF c.L).1 (nodesF c.L).2)/\Below w1.heap.size w1 w'):=check_any ad p c.L cap w1 hc.len hc.room (hc.strs.below hb1) hE1
 have HW1:Hid (w1=w.alloc (.cells #[.int .i64 c.n,.int .i64 c.k,.slice p c.L.length cap] 24)):=hw1
 have HB1:Hid (Below w.heap.size w w1):=hb1
 have HMF:Hid (∀ W,Calls Tryz.prog 75 #[.int .i64 c.n,.int .i64 c.k] W fun e w'=>e=.returned (.bool (decide (1<=c.k/\c.k<=c.n/\c.n<=12)))/\w'=W):=fun W=>mfits_any c.n c.k W
 have q1:=hE1.c1
 have q2:=hE1.c2
 have f0:=hx1.f0
 have f1:=hx1.f1
 have f2:=hx1.f2
 have HI1:Hid (∀ W,ErrIs W ad (.iface 218 (.pointer (some (ad 1)))) 2 (-1)):=fun W=>ErrIs.sent 1 (by decide)
 have HI2:Hid (∀ W,ErrIs W ad (.iface 218 (.pointer (some (ad 2)))) 3 (-1)):=fun W=>ErrIs.sent 2 (by decide)
 have hl1:=hc.len
 unfold cfgA
 clear hw1 hb1 hx1 hE1 hE hc
 by_cases hf:1<=c.k/\c.k<=c.n/\c.n<=12
 ·have HMF1:Hid (∀ W,Calls Tryz.prog 75 #[.int .i64 c.n,.int .i64 c.k] W fun e w'=>e=.returned (.bool true)/\w'=W):=fun W=>by have:=HMF.out W;rw [decide_eq_true hf] at this;exact this
  by_cases hn:(c.L.length:Int)=c.n
  ·have HF:Hid (cfgF c=nodesF c.L):=cfgF_nodes hf hn
   rw [HF.out]
   obtain ⟨n,k,L⟩:=c
   dsimp only at *
   subst hn
   clear HMF HF hf
   generalize nodesF L=R at *
   go_enter Tryz.func60,Tryz.ntmps60
   go_wp2_with fail
   rw [<- HW1.out]
   refine (HMF1.out _).mono ?_
   rintro e w2 ⟨rfl,hw2⟩
   rw [hw2]
   clear hw2 w2 HMF1
   go_wp2_with fail
   refine HCK.out.mono ?_
   rintro e w3 ⟨⟨ev,rfl,hev⟩,hb3⟩
   have HB3:Hid (Below w.heap.size w w3):=HB1.out.trans (hb3.mono HB1.out.size)
   have HEV:Hid (ErrIs w3 ad ev R.1 R.2):=hev
   clear hev hb3 HCK
   go_wp2
   go_ret
   exact ⟨⟨_,rfl,HEV.out⟩,HB3.out⟩
  ·have HF:Hid (cfgF c=(3,-1)):=cfgF_shape hf hn
   rw [HF.out]
   obtain ⟨n,k,L⟩:=c
   dsimp only at *
   clear HMF HF hf HCK
   go_enter Tryz.func60,Tryz.ntmps60
   go_wp2_with fail
   rw [<- HW1.out]
   refine (HMF1.out _).mono ?_
   rintro e w2 ⟨rfl,hw2⟩
   rw [hw2]
   clear hw2 w2 HMF1
   go_wp2
   go_ret
   exact ⟨⟨_,rfl,HI2.out _⟩,HB1.out⟩
 ·have HF:Hid (cfgF c=(2,-1)):=cfgF_bound hf
  have HMF1:Hid (∀ W,Calls Tryz.prog 75 #[.int .i64 c.n,.int .i64 c.k] W fun e w'=>e=.returned (.bool false)/\w'=W):=fun W=>by have:=HMF.out W;rw [decide_eq_false hf] at this;exact this
  rw [HF.out]
  obtain ⟨n,k,L⟩:=c
  dsimp only at *
  clear HMF HF hf HCK
  go_enter Tryz.func60,Tryz.ntmps60
  go_wp2_with fail
  rw [<- HW1.out]
  refine (HMF1.out _).mono ?_
  rintro e w2 ⟨rfl,hw2⟩
  rw [hw2]
  clear hw2 w2 HMF1
  go_wp2
  go_ret
  exact ⟨⟨_,rfl,HI1.out _⟩,HB1.out⟩
theorem ver_parts {x y:Ver} (h:x≠y):((x.n==y.n)=false)∨x.n=y.n/\(((x.who==y.who)=false)∨x.who=y.who/\(((x.size==y.size)=false)∨x.size=y.size/\(((x.at_==y.at_)=false)∨x.at_=y.at_/\x.text≠y.text))):=by
 obtain ⟨xn,xw,xs,xa,xt⟩:=x
 obtain ⟨yn,yw,ys,ya,yt⟩:=y
 by_cases h1:xn=yn
 ·refine Or.inr ⟨h1,?_⟩
  by_cases h2:xw=yw
  ·refine Or.inr ⟨h2,?_⟩
   by_cases h3:xs=ys
   ·refine Or.inr ⟨h3,?_⟩
    by_cases h4:xa=ya
    ·exact Or.inr ⟨h4,fun h5=>h (by simp only at h1 h2 h3 h4 h5;rw [h1,h2,h3,h4,h5])⟩
    ·exact Or.inl (beq_eq_false_iff_ne.2 h4)
   ·exact Or.inl (beq_eq_false_iff_ne.2 h3)
  ·exact Or.inl (beq_eq_false_iff_ne.2 h2)
 ·exact Or.inl (beq_eq_false_iff_ne.2 h1)
theorem mem_of_verAt {l:List Ver} {i:Nat} (hi:i < l.length):verAt l i ∈ l:=List.mem_of_getElem? (verAt_get hi)
theorem verAt_of_mem {l:List Ver} {v:Ver} (h:v ∈ l):∃ i,i < l.length/\verAt l i=v:=by
 obtain ⟨i,hi,e⟩:=List.getElem_of_mem h
 refine ⟨i,hi,?_⟩
 have:=verAt_get hi
 rw [List.getElem?_eq_getElem hi] at this
 rw [<- e]
 exact (Option.some.inj this).symm
set_option maxRecDepth 10000 in
set_option maxHeartbeats 2000000 in
theorem vindex_any (p:Option Addr) (l:List Ver) (c:Nat) (v:Ver) (w:World) (hl:l.length<=1000000) (hr:Rec verE w p l) :
 Calls Tryz.prog 79 #[.slice p l.length c,verA v] w fun e w'=>(∃ z:Int,e=.returned (.int .i64 z)/\decide (0<=z)=decide (v ∈ l))/\Below w.heap.size w w':=by
 have HYES:Hid (∀ i,i < l.length->verAt l i=v->decide (0<=(i:Int))=decide (v ∈ l)):=fun i hi e=>by
  rw [decide_eq_true (by omega),decide_eq_true (by rw [<- e];exact mem_of_verAt hi)]
 have HNO:Hid ((∀ j,j < l.length->verAt l j≠v)->decide (0<=(-1:Int))=decide (v ∈ l)):=fun h=>by
  rw [decide_eq_false (by omega),decide_eq_false (fun hm=>by obtain ⟨i,hi,e⟩:=verAt_of_mem hm;exact h i hi e)]
 obtain ⟨xn,xw,xs,xa,xt⟩:=v
 generalize decide ((⟨xn,xw,xs,xa,xt⟩:Ver) ∈ l)=r at *
 obtain ⟨w1,hw1⟩:∃ w1,w1=w.alloc (.cells #[.int .i64 xn,.int .i64 xw,.int .i64 xs,.int .i64 xa,.string xt] 47):=⟨_,rfl⟩
 have hb1:Below w.heap.size w w1:=by rw [hw1];exact (Below.refl _ _).alloc (Nat.le_refl _) _
 have HW1:Hid (w1=w.alloc (.cells #[.int .i64 xn,.int .i64 xw,.int .i64 xs,.int .i64 xa,.string xt] 47)):=hw1
 have q0:w1.cell? ⟨w.heap.size,0,none⟩=some (.int .i64 xn):=by rw [hw1,World.cell?_alloc_at _ _ _ _ rfl];rfl
 have q1:w1.cell? ⟨w.heap.size,1,none⟩=some (.int .i64 xw):=by rw [hw1,World.cell?_alloc_at _ _ _ _ rfl];rfl
 have q2:w1.cell? ⟨w.heap.size,2,none⟩=some (.int .i64 xs):=by rw [hw1,World.cell?_alloc_at _ _ _ _ rfl];rfl
 have q3:w1.cell? ⟨w.heap.size,3,none⟩=some (.int .i64 xa):=by rw [hw1,World.cell?_alloc_at _ _ _ _ rfl];rfl
 have q4:w1.cell? ⟨w.heap.size,4,none⟩=some (.string xt):=by rw [hw1,World.cell?_alloc_at _ _ _ _ rfl];rfl
 have HQ:Hid (w1.cell? ⟨w.heap.size,0,none⟩=some (.int .i64 xn)/\w1.cell? ⟨w.heap.size,1,none⟩=some (.int .i64 xw)/\w1.cell? ⟨w.heap.size,2,none⟩=some (.int .i64 xs)/\w1.cell? ⟨w.heap.size,3,none⟩=some (.int .i64 xa)/\w1.cell? ⟨w.heap.size,4,none⟩=some (.string xt)):=⟨q0,q1,q2,q3,q4⟩
 have HR:Hid (Rec verE w1 p l):=hr.below hb1
 have HB1:Hid (Below w.heap.size w w1):=hb1
 clear hw1 hb1 hr q0 q1 q2 q3 q4
 go_enter Tryz.func79,Tryz.ntmps79
 unfold verA
 go_wp2
 rw [<- HW1.out]
 go_loopw [8] (fun x wq=>∃ i:Nat,i<=l.length/\x=.int .i64 i/\(∀ j,j < i->verAt l j≠⟨xn,xw,xs,xa,xt⟩)/\∃ n,wq=w1.drewN n) (fun x _=>l.length - (intOf x).toNat)
 case atStart=>exact ⟨0,Nat.zero_le _,rfl,fun j hj=>absurd hj (Nat.not_lt_zero _),0,rfl⟩
 case round =>
  obtain ⟨i,hi,rfl,hall,n,hw⟩:=hrel
  obtain ⟨w2,rfl⟩:∃ w2,w2=wr:=⟨_,rfl⟩
  have HALL:Hid (∀ j,j < i->verAt l j≠⟨xn,xw,xs,xa,xt⟩):=hall
  have HW:Hid (∃ n,w2=w1.drewN n):=⟨n,hw⟩
  have HA:Hid (Rec verE w2 p l):=by show Rec verE w2 p l;rw [hw];exact HR.out.drewN n
  have HB2:Hid (Below w.heap.size w w2):=by show Below w.heap.size w w2;rw [hw];exact below_drewN HB1.out n
  have q0:w2.cell? ⟨w.heap.size,0,none⟩=some (.int .i64 xn):=by rw [hw];exact HQ.out.1
  have q1:w2.cell? ⟨w.heap.size,1,none⟩=some (.int .i64 xw):=by rw [hw];exact HQ.out.2.1
  have q2:w2.cell? ⟨w.heap.size,2,none⟩=some (.int .i64 xs):=by rw [hw];exact HQ.out.2.2.1
  have q3:w2.cell? ⟨w.heap.size,3,none⟩=some (.int .i64 xa):=by rw [hw];exact HQ.out.2.2.2.1
  have q4:w2.cell? ⟨w.heap.size,4,none⟩=some (.string xt):=by rw [hw];exact HQ.out.2.2.2.2
  clear hw hall
  by_cases hil:i < l.length
  ·obtain ⟨b1,o1,hp1,_,a0,a1,a2,a3,a4⟩:=ver_cells HA.out hil
   subst hp1
   by_cases he:verAt l i=⟨xn,xw,xs,xa,xt⟩
   ·have HZ:Hid (decide (0<=(i:Int))=r):=HYES.out i hil he
    rw [he] at a0 a1 a2 a3 a4
    clear he HALL HYES HNO
    simp only at a0 a1 a2 a3 a4
    go_wp2
    go_quiet (fail)
    go_wp2
    go_ret
    exact ⟨⟨_,rfl,HZ.out⟩,below_drewN HB2.out _⟩
   ·have HNX : Hid (∀ j, j < i + 1 -> verAt l j ≠ ⟨xn, xw, xs, xa, xt⟩) := fun j hj => by
     rcases Nat.lt_or_ge j i with h | h
     ·exact HALL.out j h
     ·obtain rfl:j=i:=by omega
      exact he
    have walk:=ver_parts (Ne.symm he)
    clear he HALL
    generalize verAt l i=y at *
    obtain ⟨yn,yw,ys,ya,yt⟩:=y
    simp only at walk a0 a1 a2 a3 a4
    rcases walk with h1 | ⟨rfl,h1 | ⟨rfl,h1 | ⟨rfl,h1 | ⟨rfl,h1⟩⟩⟩⟩
    all_goals
     first
      | (have h2:=toList_ne h1;have h3:=toList_beq h1;have h4:=bytes_beq h1)
      | skip
    all_goals
     go_wp2
     go_quiet (fail)
     go_wp2
     go_roundw
     case rel=>exact ⟨i+1,by omega,by go_num,HNX.out,by obtain ⟨n,hn⟩:=HW.out;exact ⟨_,by rw [hn,World.drewN_drewN]⟩⟩
     case measure=>simp [intOf];omega
  ·have HZ:=HNO.out (fun j hj=>HALL.out j (by omega))
   go_wp2
   go_ret
   exact ⟨⟨_,rfl,HZ⟩,HB2.out⟩
theorem vcont_any (p:Option Addr) (l:List Ver) (c:Nat) (v:Ver) (w:World) (hl:l.length<=1000000) (hr:Rec verE w p l) :
 Calls Tryz.prog 63 #[.slice p l.length c,verA v] w fun e w'=>e=.returned (.bool (decide (v ∈ l)))/\Below w.heap.size w w':=by
 obtain ⟨w1,hw1⟩:∃ w1,w1=w.alloc (.cells #[.int .i64 v.n,.int .i64 v.who,.int .i64 v.size,.int .i64 v.at_,.string v.text] 47):=⟨_,rfl⟩
 have hb1:Below w.heap.size w w1:=by rw [hw1];exact (Below.refl _ _).alloc (Nat.le_refl _) _
 have HI:=vindex_any p l c v w1 hl (hr.below hb1)
 have HW1:Hid (w1=w.alloc (.cells #[.int .i64 v.n,.int .i64 v.who,.int .i64 v.size,.int .i64 v.at_,.string v.text] 47)):=hw1
 have HB1:Hid (Below w.heap.size w w1):=hb1
 clear hw1 hb1 hr
 generalize decide (v ∈ l)=r at *
 obtain ⟨xn,xw,xs,xa,xt⟩:=v
 unfold verA at *
 simp only at HI HW1 ⊢
 go_enter Tryz.func63,Tryz.ntmps63
 go_wp2_with fail
 rw [<- HW1.out]
 refine HI.mono ?_
 rintro e w2 ⟨⟨z,rfl,hz⟩,hb2⟩
 have HB2:Hid (Below w.heap.size w w2):=HB1.out.trans (hb2.mono HB1.out.size)
 have HZ:Hid (decide (0<=z)=r):=hz
 clear hz hb2 HI HB1 HW1
 go_wp2
 go_ret
 exact ⟨by rw [<- HZ.out];rfl,HB2.out⟩
end Go.Proofs.YtghpdhegfnhmkaaGreatDoor
namespace Go.Proofs.YtghpdhegfnhmkaaGreatDoor
open Go.RowKit Go.Sort
def cmpZ (a b:Int):Int:=if a < b then -1 else if b < a then 1 else 0
set_option maxRecDepth 10000 in
theorem nanZ (a:Int) (w:World):Calls Tryz.prog 89 #[.int .i64 a] w fun e w'=>e=.returned (.bool false)/\w'=w:=by
 go_enter Tryz.func89,Tryz.ntmps89
 go_wp2
 go_ret
 exact ⟨rfl,rfl⟩
set_option maxRecDepth 10000 in
set_option maxHeartbeats 1000000 in
theorem cmpZ_any (a b:Int) (w:World):Calls Tryz.prog 72 #[.int .i64 a,.int .i64 b] w fun e w'=>e=.returned (.int .i64 (cmpZ a b))/\w'=w:=by
 have h1:=fun W=>nanZ a W
 have h2:=fun W=>nanZ b W
 rcases Int.lt_trichotomy a b with h | h | h
 ·have HE:Hid (cmpZ a b=-1):=if_pos h
  rw [HE.out]
  go_enter Tryz.func72,Tryz.ntmps72
  go_wp2_with fail
  refine (h1 _).mono ?_
  rintro e w1 ⟨rfl,hw1⟩
  rw [hw1]
  clear hw1 w1
  go_wp2_with fail
  refine (h2 _).mono ?_
  rintro e w1 ⟨rfl,hw1⟩
  rw [hw1]
  clear hw1 w1
  go_wp2
  go_ret
  exact ⟨rfl,rfl⟩
 ·subst h
  have HE:Hid (cmpZ a a=0):=by show _=_;unfold cmpZ;rw [if_neg (Int.lt_irrefl _),if_neg (Int.lt_irrefl _)]
  rw [HE.out]
  go_enter Tryz.func72,Tryz.ntmps72
  go_wp2_with fail
  refine (h1 _).mono ?_
  rintro e w1 ⟨rfl,hw1⟩
  rw [hw1]
  clear hw1 w1
  go_wp2_with fail
  refine (h2 _).mono ?_
  rintro e w1 ⟨rfl,hw1⟩
  rw [hw1]
  clear hw1 w1
  go_wp2
  go_ret
  exact ⟨rfl,rfl⟩
 ·have HE:Hid (cmpZ a b=1):=by show _=_;unfold cmpZ;rw [if_neg (by omega),if_pos h]
  have d1:decide (a < b)=false:=decide_eq_false (by omega)
  rw [HE.out]
  go_enter Tryz.func72,Tryz.ntmps72
  go_wp2_with fail
  refine (h1 _).mono ?_
  rintro e w1 ⟨rfl,hw1⟩
  rw [hw1]
  clear hw1 w1
  go_wp2_with fail
  refine (h2 _).mono ?_
  rintro e w1 ⟨rfl,hw1⟩
  rw [hw1]
  clear hw1 w1
  go_wp2
  go_ret
  exact ⟨rfl,rfl⟩
def orZ (a b:Int):Int:=if a≠0 then a else b
set_option maxRecDepth 10000 in
set_option maxHeartbeats 1000000 in
theorem or_two (g o:Nat) (a b:Int) (w:World) (h0:w.cell? ⟨g,o,none⟩=some (.int .i64 a)) (h1:w.cell? ⟨g,o+1,none⟩=some (.int .i64 b)) :
 Calls Tryz.prog 71 #[.slice (some ⟨g,o,none⟩) 2 2] w fun e w'=>e=.returned (.int .i64 (orZ a b))/\w'=w:=by
 obtain ⟨f,hf⟩:∃ f:Nat->Int,f=fun i=>if i=0 then a else b:=⟨_,rfl⟩
 have HC:Hid (∀ i,i < 2->w.cell? ⟨g,o+i,none⟩=some (.int .i64 (f i))):=fun i hi=>by
  rw [hf]
  match i,hi with
  | 0,_=>exact h0
  | 1,_=>exact h1
 obtain ⟨r,hr⟩:∃ r,r=orZ a b:=⟨_,rfl⟩
 have HR:Hid (∀ i,i < 2->(∀ j,j < i->f j=0)->f i≠0->r=f i):=fun i hi hall hne=>by
  rw [hr,hf]
  unfold orZ
  match i,hi with
  | 0,_=>rw [hf] at hne;have hne':a≠0:=hne;rw [if_pos hne'];rfl
  | 1,_ =>
   have:=hall 0 (by omega)
   rw [hf] at this
   have ha:a=0:=this
   rw [if_neg (by rw [ha];decide)];rfl
 have HZ:Hid ((∀ j,j < 2->f j=0)->r=0):=fun hall=>by
  have t0:=hall 0 (by omega)
  have t1:=hall 1 (by omega)
  rw [hf] at t0 t1
  have ha:a=0:=t0
  have hb:b=0:=t1
  rw [hr,ha,hb]
  decide
 rw [<- hr]
 clear hf hr h0 h1
 go_enter Tryz.func71,Tryz.ntmps71
 go_wp2
 go_loop [8] (fun x=>∃ i:Nat,i<=2/\x=.int .i64 i/\∀ j,j < i->f j=0) (fun x=>2 - (intOf x).toNat)
 case atStart=>exact ⟨0,by omega,rfl,fun j hj=>absurd hj (Nat.not_lt_zero _)⟩
 case round =>
  obtain ⟨i,hi,rfl,hall⟩:=hrel
  have HALL:Hid (∀ j,j < i->f j=0):=hall
  clear hall
  by_cases hil:i < 2
  ·have q1:=HC.out i hil
   have HRI:Hid (f i≠0->r=f i):=HR.out i hil HALL.out
   have HN:Hid (f i=0->∀ j,j < i+1->f j=0):=fun h j hj=>by
    rcases Nat.lt_or_ge j i with h' | h'
    ·exact HALL.out j h'
    ·obtain rfl:j=i:=by omega
     exact h
   clear HALL HR HC HZ
   generalize f i=y at *
   by_cases hy:y=0
   ·have HNX:=HN.out hy
    subst hy
    have HNX':Hid (∀ j,j < i+1->f j=0):=HNX
    clear HNX HN HRI
    go_wp2
    go_round
    case rel=>exact ⟨i+1,by omega,by go_num,HNX'.out⟩
    case measure=>simp [intOf];omega
   ·have HE:Hid (r=y):=HRI.out hy
    have d1:(y==0)=false:=by rw [beq_eq_false_iff_ne];exact hy
    have d2:(y != 0)=true:=by rw [bne_iff_ne];exact hy
    clear HRI HN
    go_wp2
    go_ret
    exact ⟨by rw [HE.out];rfl,rfl⟩
  ·have HE:Hid (r=0):=HZ.out (fun j hj=>HALL.out j (by omega))
   go_wp2
   go_ret
   exact ⟨by rw [HE.out];rfl,rfl⟩
def tagC (a b:Int×Int):Int:=orZ (cmpZ a.1 b.1) (cmpZ a.2 b.2)
theorem tagC_lt {a b:Int×Int}:decide (tagC a b < 0)=lessB a b:=by
 unfold tagC orZ cmpZ lessB
 by_cases h1:a.1 < b.1
 ·simp [h1]
 ·by_cases h2:b.1 < a.1
  ·have h3:¬ a.1=b.1:=by omega
   simp [h1,h2,h3]
  ·have h3:a.1=b.1:=by omega
   simp only [h3]
   by_cases h4:a.2 < b.2
   ·simp [h4]
   ·by_cases h5:b.2 < a.2 <;> simp [h4,h5]
theorem tagC_zero {a b:Int×Int}:tagC a b=0↔a=b:=by
 obtain ⟨a1,a2⟩:=a
 obtain ⟨b1,b2⟩:=b
 unfold tagC orZ cmpZ
 simp only [Prod.mk.injEq]
 by_cases h1:a1 < b1
 ·simp [h1];omega
 ·by_cases h2:b1 < a1
  ·simp [h1,h2];omega
  ·have h3:a1=b1:=by omega
   subst h3
   by_cases h4:a2 < b2
   ·simp [h4];omega
   ·by_cases h5:b2 < a2
    ·simp [h4,h5];omega
    ·simp [h4,h5];omega
set_option maxRecDepth 10000 in
set_option maxHeartbeats 1000000 in
theorem compare_any (a b:Int×Int) (W:World):Calls Tryz.prog 56 #[.agg #[.int .i64 a.1,.int .i64 a.2],.agg #[.int .i64 b.1,.int .i64 b.2]] W fun e w'=>e=.returned (.int .i64 (tagC a b))/\∃ n os,w'=grow (W.drewN n) os:=by
 obtain ⟨a1,a2⟩:=a
 obtain ⟨b1,b2⟩:=b
 obtain ⟨W2,hW2⟩:∃ W2,W2=(W.alloc (.cells #[.int .i64 a1,.int .i64 a2] 43)).alloc (.cells #[.int .i64 b1,.int .i64 b2] 43):=⟨_,rfl⟩
 have HG:Hid (∃ os,W2=grow W os):=⟨_,by rw [hW2,alloc_eq_grow,alloc_eq_grow,grow_grow]⟩
 have q1:W2.cell? ⟨W.heap.size,0,none⟩=some (.int .i64 a1):=by rw [hW2];simp
 have q2:W2.cell? ⟨W.heap.size,1,none⟩=some (.int .i64 a2):=by rw [hW2];simp
 have q4:W2.cell? ⟨W.heap.size+1,0,none⟩=some (.int .i64 b1):=by rw [hW2];simp
 have q5:W2.cell? ⟨W.heap.size+1,1,none⟩=some (.int .i64 b2):=by rw [hW2];simp
 have HW2:Hid (W2=(W.alloc (.cells #[.int .i64 a1,.int .i64 a2] 43)).alloc (.cells #[.int .i64 b1,.int .i64 b2] 43)):=hW2
 clear hW2
 show Calls Tryz.prog 56 #[.agg #[.int .i64 a1,.int .i64 a2],.agg #[.int .i64 b1,.int .i64 b2]] W fun e w'=>e=.returned (.int .i64 (orZ (cmpZ a1 b1) (cmpZ a2 b2)))/\∃ n os,w'=grow (W.drewN n) os
 have c1:=fun W=>cmpZ_any a1 b1 W
 have c2:=fun W=>cmpZ_any a2 b2 W
 have c4:=fun g W h0 h1=>or_two g 0 (cmpZ a1 b1) (cmpZ a2 b2) W h0 h1
 generalize cmpZ a1 b1=r1 at *
 generalize cmpZ a2 b2=r2 at *
 generalize orZ r1 r2=r at *
 have C1:Hid (∀ W,Calls Tryz.prog 72 #[.int .i64 a1,.int .i64 b1] W fun e w'=>e=.returned (.int .i64 r1)/\w'=W):=c1
 have C2:Hid (∀ W,Calls Tryz.prog 72 #[.int .i64 a2,.int .i64 b2] W fun e w'=>e=.returned (.int .i64 r2)/\w'=W):=c2
 have C4:Hid (∀ g W,W.cell? ⟨g,0,none⟩=some (.int .i64 r1)->W.cell? ⟨g,1,none⟩=some (.int .i64 r2)->Calls Tryz.prog 71 #[.slice (some ⟨g,0,none⟩) 2 2] W fun e w'=>e=.returned (.int .i64 r)/\w'=W):=c4
 clear c1 c2 c4
 go_enter Tryz.func56,Tryz.ntmps56
 go_wp2
 rw [<- HW2.out]
 clear HW2
 refine wp_region_still_tail 10 (by kernel_rfl) (by kernel_rfl) ?_
 simp only [List.take_succ_cons,List.take_zero,List.drop_succ_cons,List.drop_zero]
 still_step
 still_step
 still_step
 still_step
 still_call (C1.out _)
 still_step
 still_step
 still_step
 still_step
 still_call (C2.out _)
 refine wpStill_nil ?_
 change wpList _ _ _ _ _ (W2.drewN 1)
 have HG3:Hid (∃ os,W2.drewN 1=grow (W.drewN 1) os):=by
  obtain ⟨os,h⟩:=HG.out
  exact ⟨os,by rw [h];rfl⟩
 generalize W2.drewN 1=W3 at HG3 ⊢
 clear q1 q2 q4 q5
 go_wp2_with (go_at_call 71;refine (C4.out _ _ (by simp) (by simp)).mono ?_;rintro e w' ⟨rfl,rfl⟩)
 go_ret
 obtain ⟨os,h⟩:=HG3.out
 exact ⟨rfl,1,_,by rw [h,alloc_eq_grow,grow_grow]⟩
theorem grow_drewN (w:World) (os:Array Obj) (n:Nat):(grow w os).drewN n=grow (w.drewN n) os:=rfl
end Go.Proofs.YtghpdhegfnhmkaaGreatDoor
namespace Go.Proofs.YtghpdhegfnhmkaaGreatDoor
open Go.RowKit Go.Sort
set_option maxRecDepth 10000 in
set_option maxHeartbeats 1000000 in
theorem less_any (a b:Int×Int) (w:World):Calls Tryz.prog 93 #[.agg #[.int .i64 a.1,.int .i64 a.2],.agg #[.int .i64 b.1,.int .i64 b.2]] w fun e w'=>e=.returned (.bool (lessB a b))/\∃ q os,w'=grow (w.drewN q) os:=by
 have HC:Hid (∀ W,Calls Tryz.prog 56 #[.agg #[.int .i64 a.1,.int .i64 a.2],.agg #[.int .i64 b.1,.int .i64 b.2]] W fun e w'=>e=.returned (.int .i64 (tagC a b))/\∃ n os,w'=grow (W.drewN n) os):=fun W=>compare_any a b W
 have HR:Hid (decide (tagC a b < 0)=lessB a b):=tagC_lt
 generalize tagC a b=c at *
 generalize lessB a b=r at *
 obtain ⟨a1,a2⟩:=a
 obtain ⟨b1,b2⟩:=b
 have HG:Hid (∃ os,(w.alloc (.cells #[.int .i64 a1,.int .i64 a2] 43)).alloc (.cells #[.int .i64 b1,.int .i64 b2] 43)=grow w os):=⟨_,by rw [alloc_eq_grow,alloc_eq_grow,grow_grow]⟩
 go_enter Tryz.func93,Tryz.ntmps93
 go_wp2_with fail
 refine (HC.out _).mono ?_
 rintro e w2 ⟨rfl,n,os,hw2⟩
 have HE:Hid (∃ q os,w2=grow (w.drewN q) os):=by
  obtain ⟨os0,h0⟩:=HG.out
  exact ⟨n,os0 ++ os,by rw [hw2,h0,grow_drewN,grow_grow]⟩
 clear hw2 HG
 go_wp2
 go_ret
 exact ⟨by rw [<- HR.out];rfl,HE.out⟩
end Go.Proofs.YtghpdhegfnhmkaaGreatDoor
namespace Go.Proofs.YtghpdhegfnhmkaaGreatDoor
open Go.ChangeShapes Go.WideShapes Go.ChangeAt Go.RowKit
theorem vCellsInt:Tryz.prog.cellsOf 3=1:=by kernel_rfl
theorem qVerFields:∃ f0 f1 f2,Tryz.prog.underlying 47=some (.struct #[f0,f1,f2])/\f0.offset=0/\f1.offset=2/\f2.offset=3/\f0.type=43/\f1.type=3/\f2.type=45:=⟨_,_,_,Tryz.underlying47,rfl,rfl,rfl,rfl,rfl,rfl⟩
theorem qTagFields:∃ f0 f1,Tryz.prog.underlying 43=some (.struct #[f0,f1])/\f0.offset=0/\f1.offset=1/\f0.type=3/\f1.type=3:=⟨_,_,Tryz.underlying43,rfl,rfl,rfl,rfl⟩
theorem qShardFields:∃ f0 f1,Tryz.prog.underlying 45=some (.struct #[f0,f1])/\f0.offset=0/\f1.offset=1/\f0.type=3/\f1.type=9:=⟨_,_,Tryz.underlying45,rfl,rfl,rfl,rfl⟩
theorem qCellsVer:Tryz.prog.cellsOf 47=5:=by kernel_rfl
theorem qCellsTag:Tryz.prog.cellsOf 43=2:=by kernel_rfl
theorem qCellsShard:Tryz.prog.cellsOf 45=2:=by kernel_rfl
theorem qCellsStr:Tryz.prog.cellsOf 9=1:=by kernel_rfl
theorem qCellsVers:Tryz.prog.cellsOf 62=1:=by kernel_rfl
theorem wBytesVer:Tryz.prog.bytesOf 47=48:=by kernel_rfl
def WtOk {H:Type} (t:TypeId) (d:DataW H):Prop:=(d.weights Tryz.prog t).all (·<=reachBytes)=true
theorem wt_str {H:Type} {t:TypeId} {l:List UInt8} (h:WtOk (H:=H) t (.lit (.string l))):l.length<=140737488351232:=by
 unfold WtOk at h
 simp only [DataW.weights,List.all_cons,List.all_nil,Bool.and_true] at h
 exact of_decide_eq_true h
theorem wt_str' {H:Type} {t:TypeId} {s:ByteArray} (h:WtOk (H:=H) t (.lit (.string s.data.toList))):s.size<=140737488351232:=by
 have e:s.data.toList.length=s.size:=by simp
 have:=wt_str h
 omega
theorem wt_each {H:Type}:∀ {ts:List TypeId} {ds:List (DataW H)} {i:Nat} {t:TypeId} {d:DataW H},(DataW.weightsEach Tryz.prog ts ds).all (·<=reachBytes)=true->ts[i]?=some t->ds[i]?=some d->WtOk t d
 | [],_,_,_,_,_,ht,_=>by cases ht
 | _ :: _,[],_,_,_,_,_,hd=>by cases hd
 | t0 :: ts,d0 :: ds,0,t,d,h,ht,hd=>by
  simp only [DataW.weightsEach,List.all_append,Bool.and_eq_true] at h
  simp only [List.getElem?_cons_zero,Option.some.injEq] at ht hd
  subst ht hd
  exact h.1
 | t0 :: ts,d0 :: ds,i+1,t,d,h,ht,hd=>by
  simp only [DataW.weightsEach,List.all_append,Bool.and_eq_true] at h
  simp only [List.getElem?_cons_succ] at ht hd
  exact wt_each h.2 ht hd
theorem wt_agg {H:Type} {t:TypeId} {fs:Array Field} {parts:List (DataW H)} (hu:Tryz.prog.underlying t=some (.struct fs)) (h:WtOk t (.agg parts)) {i:Nat} {f:Field} {d:DataW H} (hf:fs[i]?=some f) (hd:parts[i]?=some d):WtOk f.type d:=by
 unfold WtOk at h
 simp only [DataW.weights,hu] at h
 exact wt_each (i:=i) h (by rw [List.getElem?_map,Array.getElem?_toList,hf];rfl) hd
theorem wt_all {H:Type} {e:TypeId}:∀ {l:List (DataW H)},(DataW.weightsAll Tryz.prog e l).all (·<=reachBytes)=true->∀ d ∈ l,WtOk e d
 | [],_,_,hd=>by cases hd
 | x :: r,h,d,hd=>by
  simp only [DataW.weightsAll,List.all_append,Bool.and_eq_true] at h
  rcases List.mem_cons.1 hd with e | e
  ·subst e;exact h.1
  ·exact wt_all h.2 d e
theorem wt_slice {H:Type} {t e:TypeId} {es sp:List (DataW H)} (hu:Tryz.prog.underlying t=some (.slice e)) (h:WtOk t (.slice es sp)):(es.length+sp.length)*Tryz.prog.bytesOf e<=140737488351232/\∀ d ∈ es,WtOk e d:=by
 unfold WtOk at h
 simp only [DataW.weights,hu,List.all_cons,List.all_append,Bool.and_eq_true] at h
 exact ⟨of_decide_eq_true h.1,wt_all h.2.1⟩
set_option maxRecDepth 100000 in
theorem ver_elemW {H:Type} {enc:TypeId×Value->H} {W:World} {fuel:Nat} {cs:List Value} {y:DataW H×List MemPlace} (h:DataW.trod enc Tryz.prog W 0 (fun _=>true) true fuel 47 cs=some y):∃ x:Ver,cs=verC x/\VerI64 x/\(WtOk 47 y.1->x.text.size<=140737488351232):=by
 obtain ⟨g0,g1,g2,hsv,p0,p1,p2,u0,u1,u2⟩:=qVerFields
 obtain ⟨a0,a1,hta,b0,b1,c0,c1⟩:=qTagFields
 obtain ⟨d0,d1,hsh,e0,e1,i0,i1⟩:=qShardFields
 obtain ⟨z0,z1,z2,n2,rfl,hlen,k0,k1,k2⟩:=Deep.trod_struct3 hsv h
 rw [qCellsVer] at hlen
 match cs,hlen with
 | [v0,v1,v2,v3,v4],_ =>
  rw [u0,p0,qCellsTag] at k0
  rw [u1,p1,vCellsInt] at k1
  rw [u2,p2,qCellsShard] at k2
  obtain ⟨xs,hxs,_,ws⟩:=DataW.trod_int Tryz.underlying3 k1
  obtain ⟨r0,r1,n3,_,_,l0,l1⟩:=trod_struct2 hta k0
  rw [c0,b0,vCellsInt] at l0
  rw [c1,b1,vCellsInt] at l1
  obtain ⟨xn,hxn,_,wn⟩:=DataW.trod_int Tryz.underlying3 l0
  obtain ⟨xw,hxw,_,ww⟩:=DataW.trod_int Tryz.underlying3 l1
  obtain ⟨q0,q1,n4,hz2,_,m0,m1⟩:=trod_struct2 hsh k2
  rw [i0,e0,vCellsInt] at m0
  rw [i1,e1,qCellsStr] at m1
  obtain ⟨xa,hxa,_,wa⟩:=DataW.trod_int Tryz.underlying3 m0
  obtain ⟨xt,hxt,hq1,hzt⟩:=DataW.trod_string Tryz.underlying9 m1
  simp at hxs hxn hxw hxa hxt
  subst hxs hxn hxw hxa hxt
  refine ⟨⟨xn,xw,xs,xa,xt⟩,rfl,⟨bounds_i64 wn,bounds_i64 ww,bounds_i64 ws,bounds_i64 wa⟩,fun hw=>?_⟩
  have h1:WtOk g2.type z2.1:=wt_agg (i:=2) hsv (show WtOk 47 (DataW.agg [z0.1,z1.1,z2.1]) from hw) rfl rfl
  rw [u2,hz2] at h1
  have h2:WtOk d1.type q1.1:=wt_agg (i:=1) hsh (show WtOk 45 (DataW.agg [q0.1,q1.1]) from h1) rfl rfl
  rw [hq1] at h2
  exact wt_str' h2
set_option maxRecDepth 100000 in
theorem vers_argW {H:Type} {enc:TypeId×Value->H} {W:World} {fuel:Nat} {v:Value} {y:DataW H×List MemPlace} (h:DataW.trod enc Tryz.prog W 0 (fun _=>true) true fuel 62 [v]=some y) :
 ∃ p l cap,v=.slice p l.length cap/\Rec verE W p l/\l.length<=cap/\(p=none->l=[]/\cap=0)/\(∀ x ∈ l,VerI64 x)/\(WtOk 62 y.1->l.length<=2932031007317/\∀ x ∈ l,x.text.size<=140737488351232):=by
 rcases Deep.open_slice Tryz.underlying62 h with ⟨hcs,_⟩ | ⟨a,len0,cap0,m0,nn,D,Pl,hcs,_,hle,hcm,hm,hy,hx⟩
 ·simp at hcs
  subst hcs
  exact ⟨none,[],0,rfl,Or.inl rfl,Nat.le_refl _,fun _=>⟨rfl,rfl⟩,(fun x hx=>by cases hx),fun _=>⟨Nat.zero_le _,fun x hx=>by cases hx⟩⟩
 ·simp at hcs
  subst hcs
  have hlm:len0<=m0:=by rw [hm];split <;> omega
  have hsub:WtOk 62 y.1->len0*48<=140737488351232/\∀ i,i < len0->WtOk 47 (D i):=fun hw=>by
   rw [hy] at hw
   obtain ⟨h1,h2⟩:=wt_slice Tryz.underlying62 hw
   rw [wBytesVer,List.length_map,List.length_range] at h1
   exact ⟨by omega,fun i hi=>h2 _ (List.mem_map.2 ⟨i,List.mem_range.2 hi,rfl⟩)⟩
  have hv:∀ i,∃ x:Ver,i < len0->(∀ j u,(verC x)[j]?=some u->W.cell? ((a.add (i*5)).add j)=some u)/\VerI64 x/\(WtOk 47 (D i)->x.text.size<=140737488351232):=fun i=>by
   by_cases hi:i < len0
   ·obtain ⟨cs',h1,h2⟩:=hx i (by omega)
    obtain ⟨x,hcx,hfx,hbx⟩:=ver_elemW h2
    rw [qCellsVer] at h1
    obtain ⟨_,hlen,hcell⟩:=World.cells?_some h1
    refine ⟨x,fun _=>⟨fun j u hj=>?_,hfx,hbx⟩⟩
    have hj8:j < 5:=(List.getElem?_eq_some_iff.1 hj).1
    have:=hcell j (by omega)
    rw [this,hcx]
    exact hj
   ·exact ⟨⟨0,0,0,0,⟨#[]⟩⟩,fun h=>absurd h hi⟩
  have hlen:((List.range len0).map fun i=>Classical.choose (hv i)).length=len0:=by simp
  have hat:∀ i,i < len0->((List.range len0).map fun i=>Classical.choose (hv i))[i]?=some (Classical.choose (hv i)):=fun i hi=>by
   rw [List.getElem?_map,List.getElem?_range hi]
   rfl
  refine ⟨some a,(List.range len0).map fun i=>Classical.choose (hv i),cap0,by rw [hlen],?_,by rw [hlen];omega,(fun e=>by cases e),fun x hxm=>?_,fun hw=>⟨by rw [hlen];have:=(hsub hw).1;omega,fun x hxm=>?_⟩⟩
  ·by_cases h0:len0=0
   ·exact Or.inl (List.length_eq_zero_iff.1 (by rw [hlen];exact h0))
   ·obtain ⟨u0,hx0⟩:∃ u,W.cell? ((a.add (0*5)).add 0)=some u:=⟨_,(Classical.choose_spec (hv 0) (by omega)).1 0 _ rfl⟩
    obtain ⟨b,off,sp⟩:=a
    have hsp:sp=none:=by
     cases sp with
     | none=>rfl
     | some q =>
      exfalso
      simp [Addr.add,World.cell?] at hx0
      revert hx0
      split <;> intro h9 <;> cases h9
    subst hsp
    refine Or.inr ⟨b,off,rfl,?_,fun i x hxi j u hj=>?_⟩
    ·rw [Addr.add_lit,Addr.add_lit] at hx0
     rcases Nat.lt_or_ge b W.heap.size with h' | h'
     ·exact h'
     ·simp [World.cell?,Array.getElem?_eq_none h'] at hx0
    ·have hi:i < len0:=by have:=(List.getElem?_eq_some_iff.1 hxi).1;rw [hlen] at this;exact this
     rw [hat i hi] at hxi
     have e:=Option.some.inj hxi
     have hc:=(Classical.choose_spec (hv i) hi).1 j u (by rw [e];exact hj)
     rw [Addr.add_lit,Addr.add_lit] at hc
     exact hc
  ·obtain ⟨i,hi,rfl⟩:=List.mem_map.1 hxm
   exact (Classical.choose_spec (hv i) (List.mem_range.1 hi)).2.1
  ·obtain ⟨i,hi,rfl⟩:=List.mem_map.1 hxm
   exact (Classical.choose_spec (hv i) (List.mem_range.1 hi)).2.2 ((hsub hw).2 i (List.mem_range.1 hi))
end Go.Proofs.YtghpdhegfnhmkaaGreatDoor
namespace Go.Proofs.YtghpdhegfnhmkaaGreatDoor
open Go.RowKit
set_option maxRecDepth 10000 in
theorem bare_any (c:Int) (w:World):Calls Tryz.prog 18 #[.int .i64 c] w fun e w'=>e=.returned (.agg #[.int .i64 c,.int .i64 (-1)])/\Below w.heap.size w w':=by
 go_enter Tryz.func18,Tryz.ntmps18
 go_wp2
 refine bodyPost_ret (v:=.agg #[.int .i64 c,.int .i64 (-1)]) (by simp [results,Tryz.results18,go_sem]) rfl ⟨rfl,?_⟩
 exact (Below.refl _ _).alloc (Nat.le_refl _) _
set_option maxRecDepth 10000 in
theorem fine_any (w:World):Calls Tryz.prog 46 #[] w fun e w'=>e=.returned (.agg #[.int .i64 0,.int .i64 (-1)])/\Below w.heap.size w w':=by
 go_enter Tryz.func46,Tryz.ntmps46
 go_wp2
 refine bodyPost_ret (v:=.agg #[.int .i64 0,.int .i64 (-1)]) (by simp [results,Tryz.results46,go_sem]) rfl ⟨rfl,?_⟩
 exact (Below.refl _ _).alloc (Nat.le_refl _) _
theorem pair_kept (w:World) (t:TypeId) (wq:World) (hb:Below (w.alloc (.cells #[.int .i64 0,.int .i64 0] t)).heap.size (w.alloc (.cells #[.int .i64 0,.int .i64 0] t)) wq) :
 wq.cell? ⟨w.heap.size,0,none⟩=some (.int .i64 0)/\wq.cell? ⟨w.heap.size,1,none⟩=some (.int .i64 0)/\wq.frozen? ⟨w.heap.size,0,none⟩=false/\wq.frozen? ⟨w.heap.size,1,none⟩=false:=by
 have hlt:w.heap.size < (w.alloc (.cells #[.int .i64 0,.int .i64 0] t)).heap.size:=by simp
 refine ⟨(hb.cell (p:=⟨w.heap.size,0,none⟩) hlt).trans ?_,(hb.cell (p:=⟨w.heap.size,1,none⟩) hlt).trans ?_,(hb.frozen (p:=⟨w.heap.size,0,none⟩) hlt).trans ?_,(hb.frozen (p:=⟨w.heap.size,1,none⟩) hlt).trans ?_⟩
 ·rw [World.cell?_alloc_at _ _ _ _ rfl];rfl
 ·rw [World.cell?_alloc_at _ _ _ _ rfl];rfl
 ·unfold World.frozen?;rw [heap_alloc_new];rfl
 ·unfold World.frozen?;rw [heap_alloc_new];rfl
theorem pair_below {w wq:World} {t:TypeId} (hb:Below (w.alloc (.cells #[.int .i64 0,.int .i64 0] t)).heap.size (w.alloc (.cells #[.int .i64 0,.int .i64 0] t)) wq):Below w.heap.size w wq :=
 ((Below.refl _ w).alloc (Nat.le_refl _) _).trans (hb.mono (by simp))
theorem pair_set {w wq:World} (hb:Below w.heap.size w wq) (a b:Value):Below w.heap.size w ((wq.setCell ⟨w.heap.size,0,none⟩ a).setCell ⟨w.heap.size,1,none⟩ b):=by
 refine (hb.setCell ?_ _).setCell ?_ _ <;> exact Nat.le_refl _
set_option maxRecDepth 10000 in
set_option maxHeartbeats 4000000 in
theorem nodesFault_bound (p:Option Addr) (l:List ByteArray) (c:Nat) (w:World) (hl:l.length<=1000000) (h:l.length < 1∨16 < l.length) :
 Calls Tryz.prog 27 #[.slice p l.length c] w fun e w'=>e=.returned (.agg #[.int .i64 2,.int .i64 (-1)])/\Below w.heap.size w w':=by
 rcases h with h | h
 ·go_enter Tryz.func27,Tryz.ntmps27
  go_wp2_with fail
  refine (bare_any 2 _).mono ?_
  rintro e w1 ⟨rfl,hb1⟩
  obtain ⟨q1,q2,f1,f2⟩:=pair_kept w _ w1 hb1
  have HB:Hid (Below w.heap.size w w1):=pair_below hb1
  clear hb1
  go_wp2
  refine bodyPost_ret (v:=.agg #[.int .i64 2,.int .i64 (-1)]) (by simp [results,Tryz.results27,go_sem,q1,q2]) rfl ⟨rfl,pair_set HB.out _ _⟩
 ·go_enter Tryz.func27,Tryz.ntmps27
  go_wp2_with fail
  refine (bare_any 2 _).mono ?_
  rintro e w1 ⟨rfl,hb1⟩
  obtain ⟨q1,q2,f1,f2⟩:=pair_kept w _ w1 hb1
  have HB:Hid (Below w.heap.size w w1):=pair_below hb1
  clear hb1
  go_wp2
  refine bodyPost_ret (v:=.agg #[.int .i64 2,.int .i64 (-1)]) (by simp [results,Tryz.results27,go_sem,q1,q2]) rfl ⟨rfl,pair_set HB.out _ _⟩
set_option maxRecDepth 10000 in
set_option maxHeartbeats 4000000 in
theorem nodesFault_scan (p:Option Addr) (l:List ByteArray) (c:Nat) (w:World) (h1:¬ l.length < 1) (h2:¬ 16 < l.length) (hc:l.length<=c) (ht:∀ x ∈ l,x.size<=1000000) (hs:Strs w p l) :
 Calls Tryz.prog 27 #[.slice p l.length c] w fun e w'=>e=.returned (.agg #[.int .i64 (scanF l 0 l.length).1,.int .i64 (scanF l 0 l.length).2])/\Below w.heap.size w w':=by
 have HT:Hid (∀ i,i < l.length->(txt l i).size<=1000000):=fun i hi=>ht _ (txt_mem hi)
 have HS:Hid (Strs w p l):=hs
 have g1:decide ((l.length:Int) < 1)=false:=decide_eq_false (by omega)
 have g2:decide (16 < (l.length:Int))=false:=decide_eq_false (by omega)
 obtain ⟨b,o,rfl⟩:∃ b o,p=some ⟨b,o,none⟩:=by
  rcases hs with h0 | ⟨b,o,hp,_⟩
  ·rw [h0] at h1;exact absurd (by decide) h1
  ·exact ⟨b,o,hp⟩
 clear hs ht
 obtain ⟨R,hR⟩:∃ R,R=scanF l 0 l.length:=⟨_,rfl⟩
 rw [<- hR]
 have HR:Hid (R=scanF l 0 l.length):=hR
 clear hR
 go_enter Tryz.func27,Tryz.ntmps27
 go_wp2
 have HB0:Hid (Below (w.alloc (.cells #[.int .i64 0,.int .i64 0] 30)).heap.size (w.alloc (.cells #[.int .i64 0,.int .i64 0] 30)) (w.alloc (.cells #[.int .i64 0,.int .i64 0] 30))):=Below.refl _ _
 have HK:Hid (∀ wq,Below (w.alloc (.cells #[.int .i64 0,.int .i64 0] 30)).heap.size (w.alloc (.cells #[.int .i64 0,.int .i64 0] 30)) wq->(wq.cell? ⟨w.heap.size,0,none⟩=some (.int .i64 0)/\wq.cell? ⟨w.heap.size,1,none⟩=some (.int .i64 0)/\wq.frozen? ⟨w.heap.size,0,none⟩=false/\wq.frozen? ⟨w.heap.size,1,none⟩=false)/\Below w.heap.size w wq):=fun wq h=>⟨pair_kept w _ wq h,pair_below h⟩
 generalize w.alloc (.cells #[.int .i64 0,.int .i64 0] 30)=w0 at HB0 HK ⊢
 go_loopw [3] (fun x wq=>∃ i:Nat,i<=l.length/\x=.int .i64 i/\scanF l i (l.length - i)=R/\Below w0.heap.size w0 wq) (fun x _=>l.length - (intOf x).toNat)
 case atStart=>exact ⟨0,Nat.zero_le _,rfl,HR.out.symm,HB0.out⟩
 case round =>
  obtain ⟨i,hi,rfl,hsc,hbq⟩:=hrel
  obtain ⟨w1,rfl⟩:∃ w1,w1=wr:=⟨_,rfl⟩
  have HSC:Hid (scanF l i (l.length - i)=R):=hsc
  have HBQ:Hid (Below w0.heap.size w0 w1):=hbq
  obtain ⟨⟨q1,q2,f1,f2⟩,hbw⟩:=HK.out w1 hbq
  have HBW:Hid (Below w.heap.size w w1):=hbw
  have HS1:Hid (Strs w1 (some ⟨b,o,none⟩) l):=HS.out.below hbw
  clear hsc hbq hbw HR
  by_cases hil:i < l.length
  ·have q3 : w1.cell? ⟨b, o + i, none⟩ = some (.string (txt l i)) := by
    rcases HS1.out with h0 | ⟨b',o',hp,_,hcell⟩
    ·rw [h0] at hil;exact absurd hil (Nat.not_lt_zero _)
    ·obtain ⟨rfl,rfl⟩:b=b'/\o=o':=by simpa using hp
     exact hcell i hil
   have HNAME:Hid (∀ W,Calls Tryz.prog 7 #[.string (txt l i)] W fun e w'=>e=.returned (.bool (isN (txt l i)))/\w'=W):=fun W=>isName_any _ W (HT.out i hil)
   have HTAKE:Hid ((l.take i).length=i):=by show _=_;rw [List.length_take];omega
   have HSUC:Hid (scanF l i (l.length - i)=if faultAt l i=0 then scanF l (i+1) (l.length - (i+1)) else (((faultAt l i:Nat):Int),(i:Int))):=by
    show _=_
    rw [show l.length - i=(l.length - (i+1))+1 by omega]
    rfl
   by_cases hN:isN (txt l i)=true
   ·by_cases hM:txt l i ∈ l.take i
    ·have HA : Hid (R = (6, (i : Int))) := by
      show _=_
      rw [<- HSC.out,HSUC.out,faultAt_twice hN hM,if_neg (by decide)]
      rfl
     have HIX:Hid (∀ W,Strs W (some ⟨b,o,none⟩) (l.take i)->Calls Tryz.prog 45 #[.slice (some ⟨b,o,none⟩) (l.take i).length c,.string (txt l i)] W fun e w'=>e=.returned (.int .i64 ((idxN (l.take i) (txt l i):Nat):Int))/\w'=W):=fun W hW=>index_hit _ _ c _ W (by rw [List.length_take];omega) hW hM
     rw [hN] at HNAME
     rw [HTAKE.out] at HIX
     have HST:Hid (Strs w1 (some ⟨b,o,none⟩) (l.take i)):=HS1.out.take i
     clear HSC HSUC HT HTAKE hN hM
     generalize idxN (l.take i) (txt l i)=k at *
     generalize txt l i=t at *
     go_wp2_with fail
     refine (HNAME.out _).mono ?_
     rintro e w2 ⟨rfl,hw2⟩
     rw [hw2]
     clear hw2 w2 HNAME
     go_wp2
     go_quiet ((go_at_call 45;exact Calls.quiet_of_same (HIX.out _ (HST.out.drewN _))))
     go_wp2
     refine bodyPost_ret (v:=.agg #[.int .i64 R.1,.int .i64 R.2]) (by rw [HA.out];simp [results,Tryz.results27,go_sem,q1,q2]) rfl ⟨rfl,?_⟩
     exact pair_set (below_drewN HBW.out _) _ _
    ·have HA : Hid (scanF l (i + 1) (l.length - (i + 1)) = R) := by
      show _=_
      rw [<- HSC.out,HSUC.out,faultAt_fine hN hM,if_pos rfl]
     have HIX:Hid (∀ W,Strs W (some ⟨b,o,none⟩) (l.take i)->Calls Tryz.prog 45 #[.slice (some ⟨b,o,none⟩) (l.take i).length c,.string (txt l i)] W fun e w'=>e=.returned (.int .i64 (-1))/\w'=W):=fun W hW=>index_miss _ _ c _ W (by rw [List.length_take];omega) hW hM
     rw [hN] at HNAME
     rw [HTAKE.out] at HIX
     have HST:Hid (Strs w1 (some ⟨b,o,none⟩) (l.take i)):=HS1.out.take i
     clear HSC HSUC HT HTAKE hN hM
     generalize txt l i=t at *
     go_wp2_with fail
     refine (HNAME.out _).mono ?_
     rintro e w2 ⟨rfl,hw2⟩
     rw [hw2]
     clear hw2 w2 HNAME
     go_wp2
     go_quiet ((go_at_call 45;exact Calls.quiet_of_same (HIX.out _ (HST.out.drewN _))))
     go_wp2
     go_roundw
     case rel=>exact ⟨i+1,by omega,by go_num,HA.out,below_drewN HBQ.out _⟩
     case measure=>simp [intOf];omega
   ·have hN':isN (txt l i)=false:=Bool.eq_false_iff.2 hN
    have HA:Hid (R=(4,(i:Int))):=by
     show _=_
     rw [<- HSC.out,HSUC.out,faultAt_name hN',if_neg (by decide)]
     rfl
    rw [hN'] at HNAME
    clear HSC HSUC HT HTAKE hN hN'
    generalize txt l i=t at *
    go_wp2_with fail
    refine (HNAME.out _).mono ?_
    rintro e w2 ⟨rfl,hw2⟩
    rw [hw2]
    clear hw2 w2 HNAME
    go_wp2
    refine bodyPost_ret (v:=.agg #[.int .i64 R.1,.int .i64 R.2]) (by rw [HA.out];simp [results,Tryz.results27,go_sem,q1,q2]) rfl ⟨rfl,?_⟩
    exact pair_set HBW.out _ _
  ·have hie:i=l.length:=by omega
   subst hie
   have HA:Hid (R=(0,-1)):=by
    show _=_
    rw [<- HSC.out,Nat.sub_self]
    rfl
   clear HSC
   go_wp2_with fail
   refine (fine_any _).mono ?_
   rintro e w2 ⟨rfl,hb2⟩
   obtain ⟨⟨r1,r2,e1,e2⟩,hbw⟩:=HK.out w2 (HBQ.out.trans (hb2.mono HBQ.out.size))
   clear q1 q2 f1 f2 hb2
   go_wp2
   refine bodyPost_ret (v:=.agg #[.int .i64 R.1,.int .i64 R.2]) (by rw [HA.out];simp [results,Tryz.results27,go_sem,r1,r2]) rfl ⟨rfl,?_⟩
   exact pair_set hbw _ _
theorem nodesFault_any (p:Option Addr) (l:List ByteArray) (c:Nat) (w:World) (hl:l.length<=1000000) (hc:l.length<=c) (ht:∀ x ∈ l,x.size<=1000000) (hs:Strs w p l) :
 Calls Tryz.prog 27 #[.slice p l.length c] w fun e w'=>e=.returned (.agg #[.int .i64 (nodesF l).1,.int .i64 (nodesF l).2])/\Below w.heap.size w w':=by
 by_cases h:l.length < 1∨16 < l.length
 ·rw [nodesF_bound h]
  exact nodesFault_bound p l c w hl h
 ·rw [nodesF_scan (by omega) (by omega)]
  exact nodesFault_scan p l c w (by omega) (by omega) hc ht hs
theorem box_set {w wq:World} (hb:Below w.heap.size w wq) (a b:Value):Below w.heap.size w ((wq.setCell ⟨w.heap.size+1,0,none⟩ a).setCell ⟨w.heap.size+1,1,none⟩ b) :=
 (hb.setCell (p:=⟨w.heap.size+1,0,none⟩) (by show w.heap.size<=w.heap.size+1;omega) _).setCell (p:=⟨w.heap.size+1,1,none⟩) (by show w.heap.size<=w.heap.size+1;omega) _
set_option maxRecDepth 10000 in
set_option maxHeartbeats 4000000 in
theorem rcfg_any (c:Cfg) (p:Option Addr) (cap:Nat) (w:World) (hc:CfgAt w c p cap) :
 Calls Tryz.prog 8 #[cfgA c (.slice p c.L.length cap)] w fun e w'=>e=.returned (.agg #[.int .i64 (cfgF c).1,.int .i64 (cfgF c).2])/\Below w.heap.size w w':=by
 obtain ⟨hs,hcap,hnn,hlen,hsz,hin⟩:=hc
 obtain ⟨w1,hw1⟩:∃ w1,w1=(w.alloc (.cells #[.int .i64 c.n,.int .i64 c.k,.slice p c.L.length cap] 24)).alloc (.cells #[.int .i64 0,.int .i64 0] 30):=⟨_,rfl⟩
 have HW1:Hid (w1=(w.alloc (.cells #[.int .i64 c.n,.int .i64 c.k,.slice p c.L.length cap] 24)).alloc (.cells #[.int .i64 0,.int .i64 0] 30)):=hw1
 have e2:(w.alloc (.cells #[.int .i64 c.n,.int .i64 c.k,.slice p c.L.length cap] 24)).heap.size=w.heap.size+1:=by simp
 have hb1:Below w.heap.size w w1:=by rw [hw1];exact ((Below.refl _ _).alloc (Nat.le_refl _) _).alloc (by rw [e2];omega) _
 have hx1:w1.heap[w.heap.size]?=some (.cells #[.int .i64 c.n,.int .i64 c.k,.slice p c.L.length cap] 24 (0,0)):=by
  rw [hw1,heap_alloc_old _ _ (by rw [e2];omega)]
  exact heap_alloc_new _ _
 have hy1:w1.heap[w.heap.size+1]?=some (.cells #[.int .i64 0,.int .i64 0] 30 (0,0)):=by
  rw [hw1,<- e2]
  exact heap_alloc_new _ _
 have hl1:=(Array.getElem?_eq_some_iff.1 hy1).1
 have HKE:Hid (∀ W,Below w1.heap.size w1 W->W.cell? ⟨w.heap.size+1,0,none⟩=some (.int .i64 0)/\W.cell? ⟨w.heap.size+1,1,none⟩=some (.int .i64 0)/\(∀ i,W.frozen? ⟨w.heap.size+1,i,none⟩=false)/\Below w.heap.size w W):=fun W hW=>by
  have hy:=(hW.block _ hl1).trans hy1
  exact ⟨by simp [World.cell?,hy],by simp [World.cell?,hy],fun i=>by simp [World.frozen?,hy],hb1.trans (hW.mono hb1.size)⟩
 have q0:w1.cell? ⟨w.heap.size,0,none⟩=some (.int .i64 c.n):=by simp [World.cell?,hx1]
 have q1:w1.cell? ⟨w.heap.size,1,none⟩=some (.int .i64 c.k):=by simp [World.cell?,hx1]
 have q2:w1.cell? ⟨w.heap.size,2,none⟩=some (.slice p c.L.length cap):=by simp [World.cell?,hx1]
 have HBA:Hid (∀ (x:Int) (W:World),Calls Tryz.prog 18 #[.int .i64 x] W fun e w'=>e=.returned (.agg #[.int .i64 x,.int .i64 (-1)])/\Below W.heap.size W w'):=fun x W=>bare_any x W
 by_cases h1:1<=c.k/\c.k<=c.n/\c.n<=12
 ·have HIS:Hid (Calls Tryz.prog 26 #[.int .i64 c.n,.int .i64 c.k] w1 fun e w'=>e=.returned (.bool true)/\w'=w1):=isSpread_yes c.n c.k w1 h1.1 h1.2.1 h1.2.2
  by_cases h2:(c.L.length:Int)=c.n
  ·have HNF:Hid (Calls Tryz.prog 27 #[.slice p c.L.length cap] w1 fun e w'=>e=.returned (.agg #[.int .i64 (nodesF c.L).1,.int .i64 (nodesF c.L).2])/\Below w1.heap.size w1 w'):=nodesFault_any p c.L cap w1 (by omega) hcap (fun x hx=>by have:=hsz x hx;omega) (hs.below hb1)
   rw [cfgF_nodes h1 h2]
   clear hw1 hb1 hx1 hy1 hl1 e2 hs hin HBA
   generalize nodesF c.L=F at *
   obtain ⟨cn,ck,L⟩:=c
   obtain ⟨F1,F2⟩:=F
   unfold cfgA
   simp only [] at *
   have d1:((L.length:Int)==cn)=true:=by simpa using h2
   go_enter Tryz.func8,Tryz.ntmps8
   go_wp2_with fail
   rw [<- HW1.out]
   refine HIS.out.mono ?_
   rintro e w2 ⟨rfl,hw2⟩
   rw [hw2]
   clear hw2 w2 HIS
   go_wp2_with fail
   refine HNF.out.mono ?_
   rintro e w3 ⟨rfl,hb3⟩
   obtain ⟨z0,z1,z2,hlow⟩:=HKE.out w3 hb3
   have HB3:Hid (Below w.heap.size w w3):=hlow
   clear hb3 hlow HNF
   go_wp2
   refine bodyPost_ret (v:=.agg #[.int .i64 F1,.int .i64 F2]) (by simp [results,Tryz.results8,go_sem,z0,z1]) rfl ⟨rfl,box_set HB3.out _ _⟩
  ·rw [cfgF_shape h1 h2]
   clear hw1 hb1 hx1 hy1 hl1 e2 hs hin
   obtain ⟨cn,ck,L⟩:=c
   unfold cfgA
   simp only [] at *
   have d1:((L.length:Int)==cn)=false:=by simpa using h2
   have d2:((L.length:Int) != cn)=true:=by simpa using h2
   go_enter Tryz.func8,Tryz.ntmps8
   go_wp2_with fail
   rw [<- HW1.out]
   refine HIS.out.mono ?_
   rintro e w2 ⟨rfl,hw2⟩
   rw [hw2]
   clear hw2 w2 HIS
   go_wp2_with fail
   refine (HBA.out 3 w1).mono ?_
   rintro e w3 ⟨rfl,hb3⟩
   obtain ⟨z0,z1,z2,hlow⟩:=HKE.out w3 hb3
   have HB3:Hid (Below w.heap.size w w3):=hlow
   clear hb3 hlow
   go_wp2
   refine bodyPost_ret (v:=.agg #[.int .i64 3,.int .i64 (-1)]) (by simp [results,Tryz.results8,go_sem,z0,z1]) rfl ⟨rfl,box_set HB3.out _ _⟩
 ·have HIS:Hid (Calls Tryz.prog 26 #[.int .i64 c.n,.int .i64 c.k] w1 fun e w'=>e=.returned (.bool false)/\w'=w1):=isSpread_no c.n c.k w1 h1
  rw [cfgF_bound h1]
  clear hw1 hb1 hx1 hy1 hl1 e2 hs hin h1
  obtain ⟨cn,ck,L⟩:=c
  unfold cfgA
  simp only [] at *
  go_enter Tryz.func8,Tryz.ntmps8
  go_wp2_with fail
  rw [<- HW1.out]
  refine HIS.out.mono ?_
  rintro e w2 ⟨rfl,hw2⟩
  rw [hw2]
  clear hw2 w2 HIS
  go_wp2_with fail
  refine (HBA.out 2 w1).mono ?_
  rintro e w3 ⟨rfl,hb3⟩
  obtain ⟨z0,z1,z2,hlow⟩:=HKE.out w3 hb3
  have HB3:Hid (Below w.heap.size w w3):=hlow
  clear hb3 hlow
  go_wp2
  refine bodyPost_ret (v:=.agg #[.int .i64 2,.int .i64 (-1)]) (by simp [results,Tryz.results8,go_sem,z0,z1]) rfl ⟨rfl,box_set HB3.out _ _⟩
end Go.Proofs.YtghpdhegfnhmkaaGreatDoor
