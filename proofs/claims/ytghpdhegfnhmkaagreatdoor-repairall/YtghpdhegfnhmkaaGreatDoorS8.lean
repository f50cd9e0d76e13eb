import Derived.Test.YtghpdhegfnhmkaaGreatDoorS7
import Derived.Test.YtghpdhegfnhmkaaGreatDoorS0
import Derived.Test.YtghpdhegfnhmkaaGreatDoorS5
import Derived.BigQuiet
import Derived.Sort.Grow
import Derived.StillTailTactics
namespace Go.Proofs.YtghpdhegfnhmkaaGreatDoor
open Go.RowKit
structure CfgBox (w:World) (b:Nat) (c:Cfg) (lv:Value):Prop where
 f0:w.cell? ⟨b,0,none⟩=some (.int .i64 c.n)
 f1:w.cell? ⟨b,1,none⟩=some (.int .i64 c.k)
 f2:w.cell? ⟨b,2,none⟩=some lv
theorem CfgBox.below {w w':World} {b:Nat} {c:Cfg} {lv:Value} (h:CfgBox w b c lv) (hb:Below w.heap.size w w'):CfgBox w' b c lv :=
 ⟨(hb.cell (lt_of_cellE h.f0)).trans h.f0,(hb.cell (lt_of_cellE h.f0)).trans h.f1,(hb.cell (lt_of_cellE h.f0)).trans h.f2⟩
theorem cfgBox_made (w:World) (c:Cfg) (lv:Value) (t:TypeId):CfgBox (w.alloc (.cells #[.int .i64 c.n,.int .i64 c.k,lv] t)) w.heap.size c lv :=
 ⟨by rw [World.cell?_alloc_at _ _ _ _ rfl];rfl,by rw [World.cell?_alloc_at _ _ _ _ rfl];rfl,by rw [World.cell?_alloc_at _ _ _ _ rfl];rfl⟩
set_option maxRecDepth 10000 in
set_option maxHeartbeats 4000000 in
theorem qcheck_any (ad:Nat->Addr) (c:Cfg) (p:Option Addr) (cap:Nat) (w:World) (hc:CfgAt w c p cap) (hE:ErrsQ w ad) :
 Calls Tryz.prog 60 #[cfgA c (.slice p c.L.length cap)] w fun e w'=>(∃ ev,e=.returned ev/\ErrIs w' ad ev (cfgF c).1 (cfgF c).2)/\Below w.heap.size w w':=by
 obtain ⟨w1,hw1⟩:∃ w1,w1=w.alloc (.cells #[.int .i64 c.n,.int .i64 c.k,.slice p c.L.length cap] 24):=⟨_,rfl⟩
 have hb1:Below w.heap.size w w1:=by rw [hw1];exact (Below.refl _ _).alloc (Nat.le_refl _) _
 have hx1:CfgBox w1 w.heap.size c (.slice p c.L.length cap):=by rw [hw1];exact cfgBox_made w c _ _
 have hE1:=hE.below hb1
 have HCK:Hid (Calls Tryz.prog 76 #[.slice p c.L.length cap] w1 fun e w'=>(∃ ev,e=.returned ev/\ErrIs w' ad ev (nodesF c.L).1 (nodesF c.L).2)/\Below w1.heap.size w1 w'):=check_any ad p c.L cap w1 hc.len hc.room (hc.strs.below hb1) hE1
 have HW1:Hid (w1=w.alloc (.cells #[.int .i64 c.n,.int .i64 c.k,.slice p c.L.length cap] 24)):=hw1
 have HB1:Hid (Below w.heap.size w w1):=hb1
 have HMF:Hid (∀ W,Calls Tryz.prog 75 #[.int .i64 c.n,.int .i64 c.k] W fun e w'=>e=.returned (.bool (decide (1<=c.k/\c.k<=c.n/\c.n<=12)))/\w'=W):=fun W=>mfits_any c.n c.k W
 have q1:=hE1.c1
 have q2:=hE1.c2
 have f0:=hx1.f0
 have f1:=hx1.f1
 have f2:=hx1.f2
 have HI1:Hid (∀ W,ErrIs W ad (.iface 218 (.pointer (some (ad 1)))) 2 (-1)):=fun W=>ErrIs.sent 1 (by decide)
 have HI2:Hid (∀ W,ErrIs W ad (.iface 218 (.pointer (some (ad 2)))) 3 (-1)):=fun W=>ErrIs.sent 2 (by decide)
 have hl1:=hc.len
 unfold cfgA
 clear hw1 hb1 hx1 hE1 hE hc
 by_cases hf:1<=c.k/\c.k<=c.n/\c.n<=12
 ·have HMF1:Hid (∀ W,Calls Tryz.prog 75 #[.int .i64 c.n,.int .i64 c.k] W fun e w'=>e=.returned (.bool true)/\w'=W):=fun W=>by have:=HMF.out W;rw [decide_eq_true hf] at this;exact this
  by_cases hn:(c.L.length:Int)=c.n
  ·have HF:Hid (cfgF c=nodesF c.L):=cfgF_nodes hf hn
   rw [HF.out]
   obtain ⟨n,k,L⟩:=c
   dsimp only at *
   subst hn
   clear HMF HF hf
   generalize nodesF L=R at *
   go_enter Tryz.func60,Tryz.ntmps60
   go_wp2_with fail
   rw [<- HW1.out]
   refine (HMF1.out _).mono ?_
   rintro e w2 ⟨rfl,hw2⟩
   rw [hw2]
   clear hw2 w2 HMF1
   go_wp2_with fail
   refine HCK.out.mono ?_
   rintro e w3 ⟨⟨ev,rfl,hev⟩,hb3⟩
   have HB3:Hid (Below w.heap.size w w3):=HB1.out.trans (hb3.mono HB1.out.size)
   have HEV:Hid (ErrIs w3 ad ev R.1 R.2):=hev
   clear hev hb3 HCK
   go_wp2
   go_ret
   exact ⟨⟨_,rfl,HEV.out⟩,HB3.out⟩
  ·have HF:Hid (cfgF c=(3,-1)):=cfgF_shape hf hn
   rw [HF.out]
   obtain ⟨n,k,L⟩:=c
   dsimp only at *
   clear HMF HF hf HCK
   go_enter Tryz.func60,Tryz.ntmps60
   go_wp2_with fail
   rw [<- HW1.out]
   refine (HMF1.out _).mono ?_
   rintro e w2 ⟨rfl,hw2⟩
   rw [hw2]
   clear hw2 w2 HMF1
   go_wp2
   go_ret
   exact ⟨⟨_,rfl,HI2.out _⟩,HB1.out⟩
 ·have HF:Hid (cfgF c=(2,-1)):=cfgF_bound hf
  have HMF1:Hid (∀ W,Calls Tryz.prog 75 #[.int .i64 c.n,.int .i64 c.k] W fun e w'=>e=.returned (.bool false)/\w'=W):=fun W=>by have:=HMF.out W;rw [decide_eq_false hf] at this;exact this
  rw [HF.out]
  obtain ⟨n,k,L⟩:=c
  dsimp only at *
  clear HMF HF hf HCK
  go_enter Tryz.func60,Tryz.ntmps60
  go_wp2_with fail
  rw [<- HW1.out]
  refine (HMF1.out _).mono ?_
  rintro e w2 ⟨rfl,hw2⟩
  rw [hw2]
  clear hw2 w2 HMF1
  go_wp2
  go_ret
  exact ⟨⟨_,rfl,HI1.out _⟩,HB1.out⟩
theorem ver_parts {x y:Ver} (h:x≠y):((x.n==y.n)=false)∨x.n=y.n/\(((x.who==y.who)=false)∨x.who=y.who/\(((x.size==y.size)=false)∨x.size=y.size/\(((x.at_==y.at_)=false)∨x.at_=y.at_/\x.text≠y.text))):=by
 obtain ⟨xn,xw,xs,xa,xt⟩:=x
 obtain ⟨yn,yw,ys,ya,yt⟩:=y
 by_cases h1:xn=yn
 ·refine Or.inr ⟨h1,?_⟩
  by_cases h2:xw=yw
  ·refine Or.inr ⟨h2,?_⟩
   by_cases h3:xs=ys
   ·refine Or.inr ⟨h3,?_⟩
    by_cases h4:xa=ya
    ·exact Or.inr ⟨h4,fun h5=>h (by simp only at h1 h2 h3 h4 h5;rw [h1,h2,h3,h4,h5])⟩
    ·exact Or.inl (beq_eq_false_iff_ne.2 h4)
   ·exact Or.inl (beq_eq_false_iff_ne.2 h3)
  ·exact Or.inl (beq_eq_false_iff_ne.2 h2)
 ·exact Or.inl (beq_eq_false_iff_ne.2 h1)
theorem mem_of_verAt {l:List Ver} {i:Nat} (hi:i < l.length):verAt l i ∈ l:=List.mem_of_getElem? (verAt_get hi)
theorem verAt_of_mem {l:List Ver} {v:Ver} (h:v ∈ l):∃ i,i < l.length/\verAt l i=v:=by
 obtain ⟨i,hi,e⟩:=List.getElem_of_mem h
 refine ⟨i,hi,?_⟩
 have:=verAt_get hi
 rw [List.getElem?_eq_getElem hi] at this
 rw [<- e]
 exact (Option.some.inj this).symm
set_option maxRecDepth 10000 in
set_option maxHeartbeats 2000000 in
theorem vindex_any (p:Option Addr) (l:List Ver) (c:Nat) (v:Ver) (w:World) (hl:l.length<=1000000) (hr:Rec verE w p l) :
 Calls Tryz.prog 79 #[.slice p l.length c,verA v] w fun e w'=>(∃ z:Int,e=.returned (.int .i64 z)/\decide (0<=z)=decide (v ∈ l))/\Below w.heap.size w w':=by
 have HYES:Hid (∀ i,i < l.length->verAt l i=v->decide (0<=(i:Int))=decide (v ∈ l)):=fun i hi e=>by
  rw [decide_eq_true (by omega),decide_eq_true (by rw [<- e];exact mem_of_verAt hi)]
 have HNO:Hid ((∀ j,j < l.length->verAt l j≠v)->decide (0<=(-1:Int))=decide (v ∈ l)):=fun h=>by
  rw [decide_eq_false (by omega),decide_eq_false (fun hm=>by obtain ⟨i,hi,e⟩:=verAt_of_mem hm;exact h i hi e)]
 obtain ⟨xn,xw,xs,xa,xt⟩:=v
 generalize decide ((⟨xn,xw,xs,xa,xt⟩:Ver) ∈ l)=r at *
 obtain ⟨w1,hw1⟩:∃ w1,w1=w.alloc (.cells #[.int .i64 xn,.int .i64 xw,.int .i64 xs,.int .i64 xa,.string xt] 47):=⟨_,rfl⟩
 have hb1:Below w.heap.size w w1:=by rw [hw1];exact (Below.refl _ _).alloc (Nat.le_refl _) _
 have HW1:Hid (w1=w.alloc (.cells #[.int .i64 xn,.int .i64 xw,.int .i64 xs,.int .i64 xa,.string xt] 47)):=hw1
 have q0:w1.cell? ⟨w.heap.size,0,none⟩=some (.int .i64 xn):=by rw [hw1,World.cell?_alloc_at _ _ _ _ rfl];rfl
 have q1:w1.cell? ⟨w.heap.size,1,none⟩=some (.int .i64 xw):=by rw [hw1,World.cell?_alloc_at _ _ _ _ rfl];rfl
 have q2:w1.cell? ⟨w.heap.size,2,none⟩=some (.int .i64 xs):=by rw [hw1,World.cell?_alloc_at _ _ _ _ rfl];rfl
 have q3:w1.cell? ⟨w.heap.size,3,none⟩=some (.int .i64 xa):=by rw [hw1,World.cell?_alloc_at _ _ _ _ rfl];rfl
 have q4:w1.cell? ⟨w.heap.size,4,none⟩=some (.string xt):=by rw [hw1,World.cell?_alloc_at _ _ _ _ rfl];rfl
 have HQ:Hid (w1.cell? ⟨w.heap.size,0,none⟩=some (.int .i64 xn)/\w1.cell? ⟨w.heap.size,1,none⟩=some (.int .i64 xw)/\w1.cell? ⟨w.heap.size,2,none⟩=some (.int .i64 xs)/\w1.cell? ⟨w.heap.size,3,none⟩=some (.int .i64 xa)/\w1.cell? ⟨w.heap.size,4,none⟩=some (.string xt)):=⟨q0,q1,q2,q3,q4⟩
 have HR:Hid (Rec verE w1 p l):=hr.below hb1
 have HB1:Hid (Below w.heap.size w w1):=hb1
 clear hw1 hb1 hr q0 q1 q2 q3 q4
 go_enter Tryz.func79,Tryz.ntmps79
 unfold verA
 go_wp2
 rw [<- HW1.out]
 go_loopw [8] (fun x wq=>∃ i:Nat,i<=l.length/\x=.int .i64 i/\(∀ j,j < i->verAt l j≠⟨xn,xw,xs,xa,xt⟩)/\∃ n,wq=w1.drewN n) (fun x _=>l.length - (intOf x).toNat)
 case atStart=>exact ⟨0,Nat.zero_le _,rfl,fun j hj=>absurd hj (Nat.not_lt_zero _),0,rfl⟩
 case round =>
  obtain ⟨i,hi,rfl,hall,n,hw⟩:=hrel
  obtain ⟨w2,rfl⟩:∃ w2,w2=wr:=⟨_,rfl⟩
  have HALL:Hid (∀ j,j < i->verAt l j≠⟨xn,xw,xs,xa,xt⟩):=hall
  have HW:Hid (∃ n,w2=w1.drewN n):=⟨n,hw⟩
  have HA:Hid (Rec verE w2 p l):=by show Rec verE w2 p l;rw [hw];exact HR.out.drewN n
  have HB2:Hid (Below w.heap.size w w2):=by show Below w.heap.size w w2;rw [hw];exact below_drewN HB1.out n
  have q0:w2.cell? ⟨w.heap.size,0,none⟩=some (.int .i64 xn):=by rw [hw];exact HQ.out.1
  have q1:w2.cell? ⟨w.heap.size,1,none⟩=some (.int .i64 xw):=by rw [hw];exact HQ.out.2.1
  have q2:w2.cell? ⟨w.heap.size,2,none⟩=some (.int .i64 xs):=by rw [hw];exact HQ.out.2.2.1
  have q3:w2.cell? ⟨w.heap.size,3,none⟩=some (.int .i64 xa):=by rw [hw];exact HQ.out.2.2.2.1
  have q4:w2.cell? ⟨w.heap.size,4,none⟩=some (.string xt):=by rw [hw];exact HQ.out.2.2.2.2
  clear hw hall
  by_cases hil:i < l.length
  ·obtain ⟨b1,o1,hp1,_,a0,a1,a2,a3,a4⟩:=ver_cells HA.out hil
   subst hp1
   by_cases he:verAt l i=⟨xn,xw,xs,xa,xt⟩
   ·have HZ:Hid (decide (0<=(i:Int))=r):=HYES.out i hil he
    rw [he] at a0 a1 a2 a3 a4
    clear he HALL HYES HNO
    simp only at a0 a1 a2 a3 a4
    go_wp2
    go_quiet (fail)
    go_wp2
    go_ret
    exact ⟨⟨_,rfl,HZ.out⟩,below_drewN HB2.out _⟩
   ·have HNX : Hid (∀ j, j < i + 1 -> verAt l j ≠ ⟨xn, xw, xs, xa, xt⟩) := fun j hj => by
     rcases Nat.lt_or_ge j i with h | h
     ·exact HALL.out j h
     ·obtain rfl:j=i:=by omega
      exact he
    have walk:=ver_parts (Ne.symm he)
    clear he HALL
    generalize verAt l i=y at *
    obtain ⟨yn,yw,ys,ya,yt⟩:=y
    simp only at walk a0 a1 a2 a3 a4
    rcases walk with h1 | ⟨rfl,h1 | ⟨rfl,h1 | ⟨rfl,h1 | ⟨rfl,h1⟩⟩⟩⟩
    all_goals
     first
      | (have h2:=toList_ne h1;have h3:=toList_beq h1;have h4:=bytes_beq h1)
      | skip
    all_goals
     go_wp2
     go_quiet (fail)
     go_wp2
     go_roundw
     case rel=>exact ⟨i+1,by omega,by go_num,HNX.out,by obtain ⟨n,hn⟩:=HW.out;exact ⟨_,by rw [hn,World.drewN_drewN]⟩⟩
     case measure=>simp [intOf];omega
  ·have HZ:=HNO.out (fun j hj=>HALL.out j (by omega))
   go_wp2
   go_ret
   exact ⟨⟨_,rfl,HZ⟩,HB2.out⟩
theorem vcont_any (p:Option Addr) (l:List Ver) (c:Nat) (v:Ver) (w:World) (hl:l.length<=1000000) (hr:Rec verE w p l) :
 Calls Tryz.prog 63 #[.slice p l.length c,verA v] w fun e w'=>e=.returned (.bool (decide (v ∈ l)))/\Below w.heap.size w w':=by
 obtain ⟨w1,hw1⟩:∃ w1,w1=w.alloc (.cells #[.int .i64 v.n,.int .i64 v.who,.int .i64 v.size,.int .i64 v.at_,.string v.text] 47):=⟨_,rfl⟩
 have hb1:Below w.heap.size w w1:=by rw [hw1];exact (Below.refl _ _).alloc (Nat.le_refl _) _
 have HI:=vindex_any p l c v w1 hl (hr.below hb1)
 have HW1:Hid (w1=w.alloc (.cells #[.int .i64 v.n,.int .i64 v.who,.int .i64 v.size,.int .i64 v.at_,.string v.text] 47)):=hw1
 have HB1:Hid (Below w.heap.size w w1):=hb1
 clear hw1 hb1 hr
 generalize decide (v ∈ l)=r at *
 obtain ⟨xn,xw,xs,xa,xt⟩:=v
 unfold verA at *
 simp only at HI HW1 ⊢
 go_enter Tryz.func63,Tryz.ntmps63
 go_wp2_with fail
 rw [<- HW1.out]
 refine HI.mono ?_
 rintro e w2 ⟨⟨z,rfl,hz⟩,hb2⟩
 have HB2:Hid (Below w.heap.size w w2):=HB1.out.trans (hb2.mono HB1.out.size)
 have HZ:Hid (decide (0<=z)=r):=hz
 clear hz hb2 HI HB1 HW1
 go_wp2
 go_ret
 exact ⟨by rw [<- HZ.out];rfl,HB2.out⟩
end Go.Proofs.YtghpdhegfnhmkaaGreatDoor
namespace Go.Proofs.YtghpdhegfnhmkaaGreatDoor
open Go.RowKit Go.Sort
def cmpZ (a b:Int):Int:=if a < b then -1 else if b < a then 1 else 0
set_option maxRecDepth 10000 in
theorem nanZ (a:Int) (w:World):Calls Tryz.prog 89 #[.int .i64 a] w fun e w'=>e=.returned (.bool false)/\w'=w:=by
 go_enter Tryz.func89,Tryz.ntmps89
 go_wp2
 go_ret
 exact ⟨rfl,rfl⟩
set_option maxRecDepth 10000 in
set_option maxHeartbeats 1000000 in
theorem cmpZ_any (a b:Int) (w:World):Calls Tryz.prog 72 #[.int .i64 a,.int .i64 b] w fun e w'=>e=.returned (.int .i64 (cmpZ a b))/\w'=w:=by
 have h1:=fun W=>nanZ a W
 have h2:=fun W=>nanZ b W
 rcases Int.lt_trichotomy a b with h | h | h
 ·have HE:Hid (cmpZ a b=-1):=if_pos h
  rw [HE.out]
  go_enter Tryz.func72,Tryz.ntmps72
  go_wp2_with fail
  refine (h1 _).mono ?_
  rintro e w1 ⟨rfl,hw1⟩
  rw [hw1]
  clear hw1 w1
  go_wp2_with fail
  refine (h2 _).mono ?_
  rintro e w1 ⟨rfl,hw1⟩
  rw [hw1]
  clear hw1 w1
  go_wp2
  go_ret
  exact ⟨rfl,rfl⟩
 ·subst h
  have HE:Hid (cmpZ a a=0):=by show _=_;unfold cmpZ;rw [if_neg (Int.lt_irrefl _),if_neg (Int.lt_irrefl _)]
  rw [HE.out]
  go_enter Tryz.func72,Tryz.ntmps72
  go_wp2_with fail
  refine (h1 _).mono ?_
  rintro e w1 ⟨rfl,hw1⟩
  rw [hw1]
  clear hw1 w1
  go_wp2_with fail
  refine (h2 _).mono ?_
  rintro e w1 ⟨rfl,hw1⟩
  rw [hw1]
  clear hw1 w1
  go_wp2
  go_ret
  exact ⟨rfl,rfl⟩
 ·have HE:Hid (cmpZ a b=1):=by show _=_;unfold cmpZ;rw [if_neg (by omega),if_pos h]
  have d1:decide (a < b)=false:=decide_eq_false (by omega)
  rw [HE.out]
  go_enter Tryz.func72,Tryz.ntmps72
  go_wp2_with fail
  refine (h1 _).mono ?_
  rintro e w1 ⟨rfl,hw1⟩
  rw [hw1]
  clear hw1 w1
  go_wp2_with fail
  refine (h2 _).mono ?_
  rintro e w1 ⟨rfl,hw1⟩
  rw [hw1]
  clear hw1 w1
  go_wp2
  go_ret
  exact ⟨rfl,rfl⟩
def orZ (a b:Int):Int:=if a≠0 then a else b
set_option maxRecDepth 10000 in
set_option maxHeartbeats 1000000 in
theorem or_two (g o:Nat) (a b:Int) (w:World) (h0:w.cell? ⟨g,o,none⟩=some (.int .i64 a)) (h1:w.cell? ⟨g,o+1,none⟩=some (.int .i64 b)) :
 Calls Tryz.prog 71 #[.slice (some ⟨g,o,none⟩) 2 2] w fun e w'=>e=.returned (.int .i64 (orZ a b))/\w'=w:=by
 obtain ⟨f,hf⟩:∃ f:Nat->Int,f=fun i=>if i=0 then a else b:=⟨_,rfl⟩
 have HC:Hid (∀ i,i < 2->w.cell? ⟨g,o+i,none⟩=some (.int .i64 (f i))):=fun i hi=>by
  rw [hf]
  match i,hi with
  | 0,_=>exact h0
  | 1,_=>exact h1
 obtain ⟨r,hr⟩:∃ r,r=orZ a b:=⟨_,rfl⟩
 have HR:Hid (∀ i,i < 2->(∀ j,j < i->f j=0)->f i≠0->r=f i):=fun i hi hall hne=>by
  rw [hr,hf]
  unfold orZ
  match i,hi with
  | 0,_=>rw [hf] at hne;have hne':a≠0:=hne;rw [if_pos hne'];rfl
  | 1,_ =>
   have:=hall 0 (by omega)
   rw [hf] at this
   have ha:a=0:=this
   rw [if_neg (by rw [ha];decide)];rfl
 have HZ:Hid ((∀ j,j < 2->f j=0)->r=0):=fun hall=>by
  have t0:=hall 0 (by omega)
  have t1:=hall 1 (by omega)
  rw [hf] at t0 t1
  have ha:a=0:=t0
  have hb:b=0:=t1
  rw [hr,ha,hb]
  decide
 rw [<- hr]
 clear hf hr h0 h1
 go_enter Tryz.func71,Tryz.ntmps71
 go_wp2
 go_loop [8] (fun x=>∃ i:Nat,i<=2/\x=.int .i64 i/\∀ j,j < i->f j=0) (fun x=>2 - (intOf x).toNat)
 case atStart=>exact ⟨0,by omega,rfl,fun j hj=>absurd hj (Nat.not_lt_zero _)⟩
 case round =>
  obtain ⟨i,hi,rfl,hall⟩:=hrel
  have HALL:Hid (∀ j,j < i->f j=0):=hall
  clear hall
  by_cases hil:i < 2
  ·have q1:=HC.out i hil
   have HRI:Hid (f i≠0->r=f i):=HR.out i hil HALL.out
   have HN:Hid (f i=0->∀ j,j < i+1->f j=0):=fun h j hj=>by
    rcases Nat.lt_or_ge j i with h' | h'
    ·exact HALL.out j h'
    ·obtain rfl:j=i:=by omega
     exact h
   clear HALL HR HC HZ
   generalize f i=y at *
   by_cases hy:y=0
   ·have HNX:=HN.out hy
    subst hy
    have HNX':Hid (∀ j,j < i+1->f j=0):=HNX
    clear HNX HN HRI
    go_wp2
    go_round
    case rel=>exact ⟨i+1,by omega,by go_num,HNX'.out⟩
    case measure=>simp [intOf];omega
   ·have HE:Hid (r=y):=HRI.out hy
    have d1:(y==0)=false:=by rw [beq_eq_false_iff_ne];exact hy
    have d2:(y != 0)=true:=by rw [bne_iff_ne];exact hy
    clear HRI HN
    go_wp2
    go_ret
    exact ⟨by rw [HE.out];rfl,rfl⟩
  ·have HE:Hid (r=0):=HZ.out (fun j hj=>HALL.out j (by omega))
   go_wp2
   go_ret
   exact ⟨by rw [HE.out];rfl,rfl⟩
def tagC (a b:Int×Int):Int:=orZ (cmpZ a.1 b.1) (cmpZ a.2 b.2)
theorem tagC_lt {a b:Int×Int}:decide (tagC a b < 0)=lessB a b:=by
 unfold tagC orZ cmpZ lessB
 by_cases h1:a.1 < b.1
 ·simp [h1]
 ·by_cases h2:b.1 < a.1
  ·have h3:¬ a.1=b.1:=by omega
   simp [h1,h2,h3]
  ·have h3:a.1=b.1:=by omega
   simp only [h3]
   by_cases h4:a.2 < b.2
   ·simp [h4]
   ·by_cases h5:b.2 < a.2 <;> simp [h4,h5]
theorem tagC_zero {a b:Int×Int}:tagC a b=0↔a=b:=by
 obtain ⟨a1,a2⟩:=a
 obtain ⟨b1,b2⟩:=b
 unfold tagC orZ cmpZ
 simp only [Prod.mk.injEq]
 by_cases h1:a1 < b1
 ·simp [h1];omega
 ·by_cases h2:b1 < a1
  ·simp [h1,h2];omega
  ·have h3:a1=b1:=by omega
   subst h3
   by_cases h4:a2 < b2
   ·simp [h4];omega
   ·by_cases h5:b2 < a2
    ·simp [h4,h5];omega
    ·simp [h4,h5];omega
set_option maxRecDepth 10000 in
set_option maxHeartbeats 1000000 in
theorem compare_any (a b:Int×Int) (W:World):Calls Tryz.prog 56 #[.agg #[.int .i64 a.1,.int .i64 a.2],.agg #[.int .i64 b.1,.int .i64 b.2]] W fun e w'=>e=.returned (.int .i64 (tagC a b))/\∃ n os,w'=grow (W.drewN n) os:=by
 obtain ⟨a1,a2⟩:=a
 obtain ⟨b1,b2⟩:=b
 obtain ⟨W2,hW2⟩:∃ W2,W2=(W.alloc (.cells #[.int .i64 a1,.int .i64 a2] 43)).alloc (.cells #[.int .i64 b1,.int .i64 b2] 43):=⟨_,rfl⟩
 have HG:Hid (∃ os,W2=grow W os):=⟨_,by rw [hW2,alloc_eq_grow,alloc_eq_grow,grow_grow]⟩
 have q1:W2.cell? ⟨W.heap.size,0,none⟩=some (.int .i64 a1):=by rw [hW2];simp
 have q2:W2.cell? ⟨W.heap.size,1,none⟩=some (.int .i64 a2):=by rw [hW2];simp
 have q4:W2.cell? ⟨W.heap.size+1,0,none⟩=some (.int .i64 b1):=by rw [hW2];simp
 have q5:W2.cell? ⟨W.heap.size+1,1,none⟩=some (.int .i64 b2):=by rw [hW2];simp
 have HW2:Hid (W2=(W.alloc (.cells #[.int .i64 a1,.int .i64 a2] 43)).alloc (.cells #[.int .i64 b1,.int .i64 b2] 43)):=hW2
 clear hW2
 show Calls Tryz.prog 56 #[.agg #[.int .i64 a1,.int .i64 a2],.agg #[.int .i64 b1,.int .i64 b2]] W fun e w'=>e=.returned (.int .i64 (orZ (cmpZ a1 b1) (cmpZ a2 b2)))/\∃ n os,w'=grow (W.drewN n) os
 have c1:=fun W=>cmpZ_any a1 b1 W
 have c2:=fun W=>cmpZ_any a2 b2 W
 have c4:=fun g W h0 h1=>or_two g 0 (cmpZ a1 b1) (cmpZ a2 b2) W h0 h1
 generalize cmpZ a1 b1=r1 at *
 generalize cmpZ a2 b2=r2 at *
 generalize orZ r1 r2=r at *
 have C1:Hid (∀ W,Calls Tryz.prog 72 #[.int .i64 a1,.int .i64 b1] W fun e w'=>e=.returned (.int .i64 r1)/\w'=W):=c1
 have C2:Hid (∀ W,Calls Tryz.prog 72 #[.int .i64 a2,.int .i64 b2] W fun e w'=>e=.returned (.int .i64 r2)/\w'=W):=c2
 have C4:Hid (∀ g W,W.cell? ⟨g,0,none⟩=some (.int .i64 r1)->W.cell? ⟨g,1,none⟩=some (.int .i64 r2)->Calls Tryz.prog 71 #[.slice (some ⟨g,0,none⟩) 2 2] W fun e w'=>e=.returned (.int .i64 r)/\w'=W):=c4
 clear c1 c2 c4
 go_enter Tryz.func56,Tryz.ntmps56
 go_wp2
 rw [<- HW2.out]
 clear HW2
 refine wp_region_still_tail 10 (by kernel_rfl) (by kernel_rfl) ?_
 simp only [List.take_succ_cons,List.take_zero,List.drop_succ_cons,List.drop_zero]
 still_step
 still_step
 still_step
 still_step
 still_call (C1.out _)
 still_step
 still_step
 still_step
 still_step
 still_call (C2.out _)
 refine wpStill_nil ?_
 change wpList _ _ _ _ _ (W2.drewN 1)
 have HG3:Hid (∃ os,W2.drewN 1=grow (W.drewN 1) os):=by
  obtain ⟨os,h⟩:=HG.out
  exact ⟨os,by rw [h];rfl⟩
 generalize W2.drewN 1=W3 at HG3 ⊢
 clear q1 q2 q4 q5
 go_wp2_with (go_at_call 71;refine (C4.out _ _ (by simp) (by simp)).mono ?_;rintro e w' ⟨rfl,rfl⟩)
 go_ret
 obtain ⟨os,h⟩:=HG3.out
 exact ⟨rfl,1,_,by rw [h,alloc_eq_grow,grow_grow]⟩
theorem grow_drewN (w:World) (os:Array Obj) (n:Nat):(grow w os).drewN n=grow (w.drewN n) os:=rfl
end Go.Proofs.YtghpdhegfnhmkaaGreatDoor
namespace Go.Proofs.YtghpdhegfnhmkaaGreatDoor
open Go.RowKit Go.Sort
set_option maxRecDepth 10000 in
set_option maxHeartbeats 1000000 in
theorem less_any (a b:Int×Int) (w:World):Calls Tryz.prog 93 #[.agg #[.int .i64 a.1,.int .i64 a.2],.agg #[.int .i64 b.1,.int .i64 b.2]] w fun e w'=>e=.returned (.bool (lessB a b))/\∃ q os,w'=grow (w.drewN q) os:=by
 have HC:Hid (∀ W,Calls Tryz.prog 56 #[.agg #[.int .i64 a.1,.int .i64 a.2],.agg #[.int .i64 b.1,.int .i64 b.2]] W fun e w'=>e=.returned (.int .i64 (tagC a b))/\∃ n os,w'=grow (W.drewN n) os):=fun W=>compare_any a b W
 have HR:Hid (decide (tagC a b < 0)=lessB a b):=tagC_lt
 generalize tagC a b=c at *
 generalize lessB a b=r at *
 obtain ⟨a1,a2⟩:=a
 obtain ⟨b1,b2⟩:=b
 have HG:Hid (∃ os,(w.alloc (.cells #[.int .i64 a1,.int .i64 a2] 43)).alloc (.cells #[.int .i64 b1,.int .i64 b2] 43)=grow w os):=⟨_,by rw [alloc_eq_grow,alloc_eq_grow,grow_grow]⟩
 go_enter Tryz.func93,Tryz.ntmps93
 go_wp2_with fail
 refine (HC.out _).mono ?_
 rintro e w2 ⟨rfl,n,os,hw2⟩
 have HE:Hid (∃ q os,w2=grow (w.drewN q) os):=by
  obtain ⟨os0,h0⟩:=HG.out
  exact ⟨n,os0 ++ os,by rw [hw2,h0,grow_drewN,grow_grow]⟩
 clear hw2 HG
 go_wp2
 go_ret
 exact ⟨by rw [<- HR.out];rfl,HE.out⟩
end Go.Proofs.YtghpdhegfnhmkaaGreatDoor
