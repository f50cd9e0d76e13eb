import Derived.Test.YtghpdhegfnhmkaaGreatDoorR32
namespace Go.Proofs.YtghpdhegfnhmkaaGreatDoor
open Go.RowKit
def Vss (w:World) (p:Option Addr) (LL:List (List Ver)):Prop :=
 LL=[]∨∃ b o,p=some ⟨b,o,none⟩/\b < w.heap.size/\∀ i,i < LL.length->∃ q c,w.cell? ⟨b,o+i,none⟩=some (.slice q (LL.getD i []).length c)/\Rec verE w q (LL.getD i [])/\(LL.getD i []).length<=c/\(q=none->LL.getD i []=[]/\c=0)
theorem Vss.below {w w':World} {p:Option Addr} {LL:List (List Ver)} (h:Vss w p LL) (hb:Below w.heap.size w w'):Vss w' p LL:=by
 rcases h with h | ⟨b,o,hp,hlt,hc⟩
 ·exact Or.inl h
 ·refine Or.inr ⟨b,o,hp,Nat.lt_of_lt_of_le hlt hb.size,fun i hi=>?_⟩
  obtain ⟨q,c,h1,h2,h3,h4⟩:=hc i hi
  exact ⟨q,c,(hb.cell (p:=⟨b,o+i,none⟩) hlt).trans h1,h2.below hb,h3,h4⟩
structure TagAt (w:World) (b:Nat) (a:Int×Int):Prop where
 n:w.cell? ⟨b,0,none⟩=some (.int .i64 a.1)
 who:w.cell? ⟨b,1,none⟩=some (.int .i64 a.2)
 f0:w.frozen? ⟨b,0,none⟩=false
 f1:w.frozen? ⟨b,1,none⟩=false
theorem TagAt.below {w w':World} {b:Nat} {a:Int×Int} (h:TagAt w b a) (hb:Below w.heap.size w w'):TagAt w' b a :=
 have hlt:=lt_of_cellH h.n
 ⟨(hb.cell (p:=⟨b,0,none⟩) hlt).trans h.n,(hb.cell (p:=⟨b,1,none⟩) hlt).trans h.who,(hb.frozen (p:=⟨b,0,none⟩) hlt).trans h.f0,(hb.frozen (p:=⟨b,1,none⟩) hlt).trans h.f1⟩
theorem TagAt.set {w:World} {b:Nat} {a:Int×Int} (h:TagAt w b a) (x y:Int):TagAt ((w.setCell ⟨b,0,none⟩ (.int .i64 x)).setCell ⟨b,1,none⟩ (.int .i64 y)) b (x,y):=by
 refine ⟨?_,?_,by simp [h.f0],by simp [h.f1]⟩
 ·rw [World.cell?_setCell_other _ _ _ _ (fun e=>by have h2:(1:Nat)=0:=congrArg Addr.off e;omega)]
  exact World.cell?_setCell_same _ _ _ h.n
 ·refine World.cell?_setCell_same _ _ _ (u:=.int .i64 a.2) ?_
  rw [World.cell?_setCell_other _ _ _ _ (fun e=>by have h2:(0:Nat)=1:=congrArg Addr.off e;omega)]
  exact h.who
theorem TagAt.alloc (w:World) (x y:Int) (T:TypeId):TagAt (w.alloc (.cells #[.int .i64 x,.int .i64 y] T)) w.heap.size (x,y):=by
 exact ⟨by rw [World.cell?_alloc_at _ _ _ _ rfl];rfl,by rw [World.cell?_alloc_at _ _ _ _ rfl];rfl,World.frozen?_alloc_at _ _ _ _ rfl,World.frozen?_alloc_at _ _ _ _ rfl⟩
theorem flatten_take_succ {LL:List (List Ver)} {i:Nat} (hi:i < LL.length):(LL.take (i+1)).flatten=(LL.take i).flatten ++ LL.getD i []:=by
 rw [List.take_succ_eq_append_getElem hi,List.flatten_append,List.getD_eq_getElem?_getD,List.getElem?_eq_getElem hi]
 simp
theorem flatten_take_le (LL:List (List Ver)) (i:Nat):(LL.take i).flatten.length<=LL.flatten.length:=by
 have h:LL.flatten=(LL.take i).flatten ++ (LL.drop i).flatten:=by rw [<- List.flatten_append,List.take_append_drop]
 rw [h,List.length_append]
 omega
theorem flatten_at_le (LL:List (List Ver)) {i:Nat} (hi:i < LL.length):(LL.take i).flatten.length+(LL.getD i []).length<=LL.flatten.length:=by
 have h:=flatten_take_le LL (i+1)
 rw [flatten_take_succ hi,List.length_append] at h
 exact h
set_option maxRecDepth 10000 in
set_option maxHeartbeats 8000000 in
theorem rbest_any (n k:Nat) (p0:Option Addr) (l0 c0:Nat) (p:Option Addr) (LL:List (List Ver)) (cap:Nat) (w:World) (hk1:1<=k) (hkn:k<=n) (hn:n<=12) (hl:LL.length<=1000) (hl2:LL.flatten.length<=1000) (hL:Vss w p LL) :
 Calls Tryz.prog 42 #[.agg #[.int .i64 (n:Int),.int .i64 (k:Int),.slice p0 l0 c0],.slice p LL.length cap] w fun e w'=>e=.returned (.tuple #[.agg #[.int .i64 (bestF n k LL.flatten LL.flatten).1.1,.int .i64 (bestF n k LL.flatten LL.flatten).1.2],.string (bestF n k LL.flatten LL.flatten).2.1,.bool (bestF n k LL.flatten LL.flatten).2.2])/\Below w.heap.size w w':=by
 obtain ⟨wc,hwc⟩:∃ wc,wc=w.alloc (.cells #[.int .i64 (n:Int),.int .i64 (k:Int),.slice p0 l0 c0] 24):=⟨_,rfl⟩
 have e1:wc.heap.size=w.heap.size+1:=by rw [hwc];simp
 obtain ⟨w0,hw0⟩:∃ w0,w0=wc.alloc (.cells #[.int .i64 0,.int .i64 0] 43):=⟨_,rfl⟩
 have hbc:Below w.heap.size w wc:=by rw [hwc];exact (Below.refl _ _).alloc (Nat.le_refl _) _
 have hb0c:Below wc.heap.size wc w0:=by rw [hw0];exact (Below.refl _ _).alloc (Nat.le_refl _) _
 have HB0:Hid (Below w.heap.size w w0):=hbc.trans (hb0c.mono hbc.size)
 have a0:w0.cell? ⟨w.heap.size,0,none⟩=some (.int .i64 (n:Int)):=(hb0c.cell (p:=⟨w.heap.size,0,none⟩) (by show w.heap.size < _;omega)).trans (by rw [hwc,World.cell?_alloc_at _ _ _ _ rfl];rfl)
 have a1:w0.cell? ⟨w.heap.size,1,none⟩=some (.int .i64 (k:Int)):=(hb0c.cell (p:=⟨w.heap.size,1,none⟩) (by show w.heap.size < _;omega)).trans (by rw [hwc,World.cell?_alloc_at _ _ _ _ rfl];rfl)
 have a2:w0.cell? ⟨w.heap.size,2,none⟩=some (.slice p0 l0 c0):=(hb0c.cell (p:=⟨w.heap.size,2,none⟩) (by show w.heap.size < _;omega)).trans (by rw [hwc,World.cell?_alloc_at _ _ _ _ rfl];rfl)
 have tg:TagAt w0 (w.heap.size+1) (0,0):=by rw [hw0,<- e1];exact TagAt.alloc _ _ _ _
 have HALL:Hid (∀ W,Below w0.heap.size w0 W->(W.cell? ⟨w.heap.size,0,none⟩=some (.int .i64 (n:Int))/\W.cell? ⟨w.heap.size,1,none⟩=some (.int .i64 (k:Int))/\W.cell? ⟨w.heap.size,2,none⟩=some (.slice p0 l0 c0))/\TagAt W (w.heap.size+1) (0,0)/\Vss W p LL/\Below w.heap.size w W):=fun W hW=>by
  have hy:w.heap.size < w0.heap.size:=lt_of_cellH a0
  exact ⟨⟨(hW.cell (p:=⟨w.heap.size,0,none⟩) hy).trans a0,(hW.cell (p:=⟨w.heap.size,1,none⟩) hy).trans a1,(hW.cell (p:=⟨w.heap.size,2,none⟩) hy).trans a2⟩,tg.below hW,(hL.below HB0.out).below hW,HB0.out.trans (hW.mono HB0.out.size)⟩
 have HW0:Hid (w0=(w.alloc (.cells #[.int .i64 (n:Int),.int .i64 (k:Int),.slice p0 l0 c0] 24)).alloc (.cells #[.int .i64 0,.int .i64 0] 43)):=by rw [<- hwc];exact hw0
 have HFS:Hid (∀ i,i < LL.length->(LL.take (i+1)).flatten=(LL.take i).flatten ++ LL.getD i []):=fun i hi=>flatten_take_succ hi
 have HFL:Hid (∀ i,i < LL.length->(LL.take i).flatten.length+(LL.getD i []).length<=1000):=fun i hi=>Nat.le_trans (flatten_at_le LL hi) hl2
 have HFN:Hid ((LL.take LL.length).flatten=LL.flatten):=by show _=_;rw [List.take_length]
 have HF0:Hid ((LL.take 0).flatten=[]):=by show _=_;rfl
 have HSO:Hid (∀ (t:Int×Int) (q:Option Addr) (A:List Ver) (c:Nat) (W:World),A.length<=1000->Rec verE W q A->Calls Tryz.prog 66 #[.agg #[.int .i64 (n:Int),.int .i64 (k:Int),.slice p0 l0 c0],.slice q A.length c,.agg #[.int .i64 t.1,.int .i64 t.2]] W fun e w'=>(∃ v,e=.returned (.tuple #[.int .i64 (shOf n k t A).1,v])/\w'.ownsRow W.heap.size 45 2 v (shOf n k t A).2.length (shVals (shOf n k t A).2))/\Below W.heap.size W w'):=fun t q A c W hA hr=>shardsOf_any n k p0 l0 c0 q A c t W hk1 (by omega) (by omega) hr
 clear hwc hw0 hbc hb0c e1 a0 a1 a2 tg hL
 generalize LL.flatten=A at *
 go_enter Tryz.func42,Tryz.ntmps42
 go_wp2_with (rw [<- HW0.out])
 go_loopw [7,8] (fun v x wr=>∃ i:Nat,i<=LL.length/\x=.int .i64 i/\OwnR verE 47 wr w0.heap.size v (LL.take i).flatten/\Below w0.heap.size w0 wr) (fun _ x _=>LL.length - (intOf x).toNat)
 case atStart=>exact ⟨0,Nat.zero_le _,rfl,by rw [HF0.out];exact OwnR.nil _ _ _,Below.refl _ _⟩
 case round =>
  obtain ⟨i,hi,rfl,hO,hB⟩:=hrel
  obtain ⟨w1,rfl⟩:∃ w1,w1=wr:=⟨_,rfl⟩
  obtain ⟨⟨k0,k1,k2⟩,htg,hvs,hbw⟩:=HALL.out w1 hB
  have HO:Hid (OwnR verE 47 w1 w0.heap.size u7 (LL.take i).flatten):=hO
  have HB:Hid (Below w0.heap.size w0 w1):=hB
  have HVS:Hid (Vss w1 p LL):=hvs
  have hz1:w0.heap.size<=w1.heap.size:=hB.size
  clear hO hB hvs hbw
  by_cases hil:i < LL.length
  ·rcases HVS.out with h0 | ⟨b,o,rfl,hblt,hc⟩
   ·rw [h0] at hil;simp at hil
   obtain ⟨q,c,hcell,hrec,hlc,hqn⟩:=hc i hil
   have HR:Hid (Rec verE w1 q (LL.getD i [])):=hrec
   have HQN:Hid (q=none->LL.getD i []=[]/\c=0):=hqn
   have hfl:=HFL.out i hil
   have HNX:Hid ((LL.take (i+1)).flatten=(LL.take i).flatten ++ LL.getD i []):=HFS.out i hil
   clear hc hrec hqn htg k0 k1 k2
   generalize LL.getD i []=ri at *
   generalize (LL.take i).flatten=li at *
   go_wp2_with (first | (at_builtin;refine wpList_append_recs (E:=verE) rfl (.tmp 24) (.tmp 28) 62 47 rfl (.agg #[.int .i64 0,.int .i64 0,.int .i64 0,.int .i64 0,.string ⟨#[]⟩]) 48 Tryz.underlying62 verinfo rfl w0.heap.size u7 li rfl HO.out q ri c rfl HR.out HQN.out (by unfold maxLen;omega) (by omega) hz1 ?_;intro v' w3 hO3 hb3))
   go_roundw
   case rel=>exact ⟨i+1,by omega,by go_num,by rw [HNX.out];exact hO3,HB.out.trans hb3⟩
   case measure=>simp [intOf];omega
  ·have hie:i=LL.length:=by omega
   have HOA:Hid (OwnR verE 47 w1 w0.heap.size u7 A):=by
    show OwnR _ _ _ _ _ _
    rw [<- HFN.out,<- hie]
    exact HO.out
   clear HO HFS HFL HFN HF0 HVS hie
   obtain ⟨pa,ca,rfl,hra,hlca,hnca,hbca⟩:=HOA.out.form
   have HRA:Hid (Rec verE w1 pa A):=hra
   clear HOA hra hnca hbca
   obtain ⟨w2,hw2⟩:∃ w2,w2=w1.alloc (.cells #[.int .i64 0,.int .i64 0] 43):=⟨_,rfl⟩
   have HW2:Hid (w2=w1.alloc (.cells #[.int .i64 0,.int .i64 0] 43)):=hw2
   have hb2:Below w1.heap.size w1 w2:=by rw [hw2];exact (Below.refl _ _).alloc (Nat.le_refl _) _
   have HT2:Hid (TagAt w2 w1.heap.size (0,0)):=by show TagAt _ _ _;rw [hw2];exact TagAt.alloc _ _ _ _
   have HB2:Hid (Below w1.heap.size w1 w2):=hb2
   have hlt2:w1.heap.size < w2.heap.size:=lt_of_cellH HT2.out.n
   have HI0:Hid (bestF n k A (A.take 0)=((0,0),⟨#[]⟩,false)):=by show _=_;rfl
   have HSU:Hid (∀ i,i < A.length->bestF n k A (A.take (i+1))=bestStep n k A (bestF n k A (A.take i)) (verAt A i)):=fun i hi=>bestF_succ hi
   have HFI:Hid (bestF n k A (A.take A.length)=bestF n k A A):=by show _=_;rw [List.take_length]
   have H1:Hid (∀ W,Below w1.heap.size w1 W->(W.cell? ⟨w.heap.size,0,none⟩=some (.int .i64 (n:Int))/\W.cell? ⟨w.heap.size,1,none⟩=some (.int .i64 (k:Int))/\W.cell? ⟨w.heap.size,2,none⟩=some (.slice p0 l0 c0))/\TagAt W (w.heap.size+1) (0,0)/\Rec verE W pa A/\Below w.heap.size w W):=fun W hW=>by
    obtain ⟨q1,q2,_,q4⟩:=HALL.out W (HB.out.trans (hW.mono hz1))
    exact ⟨q1,q2,HRA.out.below hW,q4⟩
   clear hw2 hb2 HALL HRA HB HW0 htg k0 k1 k2
   go_wp2
   rw [<- HW2.out]
   go_loopw [10,11,12] (fun tx fo x wr=>∃ i:Nat,i<=A.length/\x=.int .i64 i/\tx=.string (bestF n k A (A.take i)).2.1/\fo=.bool (bestF n k A (A.take i)).2.2/\TagAt wr w1.heap.size (bestF n k A (A.take i)).1/\w1.heap.size < wr.heap.size/\Below w1.heap.size w1 wr) (fun _ _ x _=>A.length - (intOf x).toNat)
   case atStart=>exact ⟨0,Nat.zero_le _,rfl,by rw [HI0.out],by rw [HI0.out],by rw [HI0.out];exact HT2.out,hlt2,HB2.out⟩
   case round =>
    obtain ⟨i,hi,rfl,rfl,rfl,hT,hlt,hB⟩:=hrel
    obtain ⟨w3,rfl⟩:∃ w3,w3=wr:=⟨_,rfl⟩
    obtain ⟨⟨k0,k1,k2⟩,htg,hra,hbw⟩:=H1.out w3 hB
    have HB:Hid (Below w1.heap.size w1 w3):=hB
    have HT:Hid (TagAt w3 w1.heap.size (bestF n k A (A.take i)).1):=hT
    have HRA:Hid (Rec verE w3 pa A):=hra
    have HTG:Hid (TagAt w3 (w.heap.size+1) (0,0)):=htg
    have HBW:Hid (Below w.heap.size w w3):=hbw
    have hsu:=HSU.out i
    have HFIN:Hid (i=A.length->bestF n k A A=bestF n k A (A.take i)):=fun h=>by rw [<- HFI.out,h]
    have HNXT:Hid (∀ (S':(Int×Int)×ByteArray×Bool) (W:World),bestF n k A (A.take (i+1))=S'->TagAt W w1.heap.size S'.1->w1.heap.size < W.heap.size->Below w1.heap.size w1 W->i+1<=A.length->∃ j:Nat,j<=A.length/\(.int .i64 ((i:Int)+1):Value)=.int .i64 j/\(.string S'.2.1:Value)=.string (bestF n k A (A.take j)).2.1/\(.bool S'.2.2:Value)=.bool (bestF n k A (A.take j)).2.2/\TagAt W w1.heap.size (bestF n k A (A.take j)).1/\w1.heap.size < W.heap.size/\Below w1.heap.size w1 W):=fun S' W hS hT hl hb hlt=>⟨i+1,hlt,by rw [Int.natCast_add];rfl,by rw [hS],by rw [hS],by rw [hS];exact hT,hl,hb⟩
    generalize bestF n k A (A.take (i+1))=S1 at *
    generalize bestF n k A (A.take i)=S at *
    obtain ⟨⟨sn,sw⟩,stx,sf⟩:=S
    dsimp only at hsu HT
    clear hB hT hra htg hbw HSU HI0 HFI HT2 HB2
    by_cases hil:i < A.length
    ·obtain ⟨b,o,hpp,hblt,d0,d1,_,_,_⟩:=ver_cells HRA.out hil
     subst hpp
     have hs1:=hsu hil
     clear hsu HFIN
     generalize verAt A i=x at *
     obtain ⟨xn,xw,xs,xa,xt⟩:=x
     dsimp only at d0 d1
     obtain ⟨w4,hw4⟩:∃ w4,w4=w3.alloc (.cells #[.int .i64 xn,.int .i64 xw] 43):=⟨_,rfl⟩
     have HW4:Hid (w4=w3.alloc (.cells #[.int .i64 xn,.int .i64 xw] 43)):=hw4
     have hb4:Below w3.heap.size w3 w4:=by rw [hw4];exact (Below.refl _ _).alloc (Nat.le_refl _) _
     have HX4:Hid (TagAt w4 w3.heap.size (xn,xw)):=by show TagAt _ _ _;rw [hw4];exact TagAt.alloc _ _ _ _
     have H4:Hid (∀ W,Below w4.heap.size w4 W->(W.cell? ⟨w.heap.size,0,none⟩=some (.int .i64 (n:Int))/\W.cell? ⟨w.heap.size,1,none⟩=some (.int .i64 (k:Int))/\W.cell? ⟨w.heap.size,2,none⟩=some (.slice p0 l0 c0))/\TagAt W w3.heap.size (xn,xw)/\TagAt W w1.heap.size (sn,sw)/\Rec verE W (some ⟨b,o,none⟩) A/\w1.heap.size < W.heap.size/\Below w1.heap.size w1 W):=fun W hW=>by
      have h3W:Below w3.heap.size w3 W:=hb4.trans (hW.mono hb4.size)
      have h1W:Below w1.heap.size w1 W:=HB.out.trans (h3W.mono HB.out.size)
      obtain ⟨q1,_,q3,_⟩:=H1.out W h1W
      exact ⟨q1,HX4.out.below hW,HT.out.below h3W,q3,Nat.lt_of_lt_of_le hlt h3W.size,h1W⟩
     clear hw4 hb4 k0 k1 k2 HT HRA HTG HBW HB H1
     obtain ⟨⟨k0,k1,k2⟩,x4,t4,r4,hl4,b4⟩:=H4.out w4 (Below.refl _ _)
     have x0:=x4.n
     have x1:=x4.who
     have t0:=t4.n
     have t1:=t4.who
     have HT4:Hid (TagAt w4 w1.heap.size (sn,sw)):=t4
     have HB4:Hid (Below w1.heap.size w1 w4):=b4
     dsimp only at x0 x1 t0 t1
     clear x4 t4 r4 b4
     cases sf with
     | true =>
      go_wp2_with (rw [<- HW4.out])
      refine (rless_any (sn,sw) (xn,xw) _).mono ?_
      rintro e w5 ⟨rfl,hb5⟩
      have H5:Hid (∀ W,Below w5.heap.size w5 W->(W.cell? ⟨w.heap.size,0,none⟩=some (.int .i64 (n:Int))/\W.cell? ⟨w.heap.size,1,none⟩=some (.int .i64 (k:Int))/\W.cell? ⟨w.heap.size,2,none⟩=some (.slice p0 l0 c0))/\TagAt W w3.heap.size (xn,xw)/\TagAt W w1.heap.size (sn,sw)/\Rec verE W (some ⟨b,o,none⟩) A/\w1.heap.size < W.heap.size/\Below w1.heap.size w1 W):=fun W hW=>H4.out W (hb5.trans (hW.mono hb5.size))
      clear hb5 H4 HT4 HB4 k0 k1 k2 x0 x1 t0 t1 hl4
      by_cases hless:lessB (sn,sw) (xn,xw)=false
      ·have HN:Hid (S1=((sn,sw),stx,true)):=by show _=_;rw [hs1];exact bestStep_old ⟨rfl,hless⟩
       rw [hless]
       obtain ⟨_,_,t5,_,hl5,b5⟩:=H5.out w5 (Below.refl _ _)
       have HT5:Hid (TagAt w5 w1.heap.size (sn,sw)):=t5
       have HB5:Hid (Below w1.heap.size w1 w5):=b5
       clear hless hs1 t5 b5
       go_wp2
       go_roundw
       case rel=>exact HNXT.out _ _ HN.out HT5.out hl5 HB5.out hil
       case measure=>simp [intOf];omega
      ·have HFEW:Hid ((shOf n k (xn,xw) A).2.length < k->S1=((sn,sw),stx,true)):=fun h=>by rw [hs1];exact bestStep_few (fun h2=>hless h2.2) h
       have HNEW:Hid (¬ (shOf n k (xn,xw) A).2.length < k->S1=((xn,xw),decT k (shOf n k (xn,xw) A).1.toNat (pickN k (shOf n k (xn,xw) A).2 (shOf n k (xn,xw) A).2.length),true)):=fun h=>by rw [hs1];exact bestStep_new (fun h2=>hless h2.2) h
       rw [Bool.not_eq_false] at hless
       rw [hless]
       clear hless
       obtain ⟨⟨k0,k1,k2⟩,x5,t5,r5,hl5,b5⟩:=H5.out w5 (Below.refl _ _)
       have x0:=x5.n
       have x1:=x5.who
       dsimp only at x0 x1
       clear x5 t5 b5 hl5
       have HC:=HSO.out (xn,xw) (some ⟨b,o,none⟩) A ca w5 (by omega) r5
       have HC':=HC
       dsimp only at HC
       clear r5 HC'
       go_wp2_with fail
       refine HC.mono ?_
       rintro e w6 ⟨⟨v6,rfl,ho6⟩,hb6⟩
       clear HC
       obtain ⟨p6,c6,rfl,hsh6⟩:=shs_of_own ho6
       have H6:Hid (∀ W,Below w6.heap.size w6 W->(W.cell? ⟨w.heap.size,0,none⟩=some (.int .i64 (n:Int))/\W.cell? ⟨w.heap.size,1,none⟩=some (.int .i64 (k:Int))/\W.cell? ⟨w.heap.size,2,none⟩=some (.slice p0 l0 c0))/\TagAt W w3.heap.size (xn,xw)/\TagAt W w1.heap.size (sn,sw)/\Rec verE W (some ⟨b,o,none⟩) A/\w1.heap.size < W.heap.size/\Below w1.heap.size w1 W):=fun W hW=>H5.out W (hb6.trans (hW.mono hb6.size))
       clear k0 k1 k2 x0 x1 H5 hb6 ho6
       obtain ⟨⟨k0,k1,k2⟩,_,t6,_,hl6,b6⟩:=H6.out w6 (Below.refl _ _)
       have HT6:Hid (TagAt w6 w1.heap.size (sn,sw)):=t6
       have HB6:Hid (Below w1.heap.size w1 w6):=b6
       have HSH6:Hid (Shs w6 p6 (shOf n k (xn,xw) A).2):=hsh6
       clear t6 b6 hsh6
       by_cases hfew:(shOf n k (xn,xw) A).2.length < k
       ·have HN:Hid (S1=((sn,sw),stx,true)):=HFEW.out hfew
        clear hs1 HFEW HNEW HSH6
        generalize shOf n k (xn,xw) A=Z at *
        go_wp2
        go_roundw
        case rel=>exact HNXT.out _ _ HN.out HT6.out hl6 HB6.out hil
        case measure=>simp [intOf];omega
       ·have HN:Hid (S1=((xn,xw),decT k (shOf n k (xn,xw) A).1.toNat (pickN k (shOf n k (xn,xw) A).2 (shOf n k (xn,xw) A).2.length),true)):=HNEW.out hfew
        obtain ⟨z1,z2,z3,z4⟩:=shOf_fits hk1 hfew
        have hlen:(shOf n k (xn,xw) A).2.length<=A.length:=by have:=shOf_le (n:=n) (k:=k) (t:=(xn,xw)) A A.length;rw [List.take_length] at this;exact this
        clear hs1 HFEW HNEW
        generalize shOf n k (xn,xw) A=Z at *
        obtain ⟨zs,zl⟩:=Z
        dsimp only at hfew z1 z2 z3 z4 hlen HSH6 HN
        have HD:=rdecode_ok n k zs.toNat p6 zl c6 w6 hk1 hkn hn z2 (by omega) z4 z3 HSH6.out
        rw [z1] at HD
        generalize decT k zs.toNat (pickN k zl zl.length)=dt at *
        clear z1 z2 z3 z4 HSH6
        go_wp2_with fail
        refine HD.mono ?_
        rintro e w7 ⟨rfl,hb7⟩
        clear HD k0 k1 k2 HT6 HB6 hl6
        obtain ⟨_,x7,t7,_,hl7,b7⟩:=H6.out w7 hb7
        have x0:=x7.n
        have x1:=x7.who
        have t0:=t7.n
        have t1:=t7.who
        have t2:=t7.f0
        have t3:=t7.f1
        have HT7:Hid (TagAt w7 w1.heap.size (sn,sw)):=t7
        have HB7:Hid (Below w1.heap.size w1 w7):=b7
        dsimp only at x0 x1 t0 t1
        clear x7 t7 b7 hb7 H6
        go_wp2
        go_roundw
        case rel=>exact HNXT.out _ _ HN.out (HT7.out.set xn xw) (by simpa using hl7) ((HB7.out.setCell (Nat.le_refl _) _).setCell (Nat.le_refl _) _) hil
        case measure=>simp [intOf];omega
     | false =>
      have HFEW:Hid ((shOf n k (xn,xw) A).2.length < k->S1=((sn,sw),stx,false)):=fun h=>by rw [hs1];exact bestStep_few (fun h2=>by cases h2.1) h
      have HNEW:Hid (¬ (shOf n k (xn,xw) A).2.length < k->S1=((xn,xw),decT k (shOf n k (xn,xw) A).1.toNat (pickN k (shOf n k (xn,xw) A).2 (shOf n k (xn,xw) A).2.length),true)):=fun h=>by rw [hs1];exact bestStep_new (fun h2=>by cases h2.1) h
      have H5:Hid (∀ W,Below w4.heap.size w4 W->(W.cell? ⟨w.heap.size,0,none⟩=some (.int .i64 (n:Int))/\W.cell? ⟨w.heap.size,1,none⟩=some (.int .i64 (k:Int))/\W.cell? ⟨w.heap.size,2,none⟩=some (.slice p0 l0 c0))/\TagAt W w3.heap.size (xn,xw)/\TagAt W w1.heap.size (sn,sw)/\Rec verE W (some ⟨b,o,none⟩) A/\w1.heap.size < W.heap.size/\Below w1.heap.size w1 W):=H4.out
      clear H4 HT4 HB4 hl4
      obtain ⟨_,_,_,r5,_,_⟩:=H5.out w4 (Below.refl _ _)
      have HC:=HSO.out (xn,xw) (some ⟨b,o,none⟩) A ca w4 (by omega) r5
      have HC':=HC
      dsimp only at HC
      clear r5 HC'
      go_wp2_with (rw [<- HW4.out])
      refine HC.mono ?_
      rintro e w6 ⟨⟨v6,rfl,ho6⟩,hb6⟩
      clear HC
      obtain ⟨p6,c6,rfl,hsh6⟩:=shs_of_own ho6
      have H6:Hid (∀ W,Below w6.heap.size w6 W->(W.cell? ⟨w.heap.size,0,none⟩=some (.int .i64 (n:Int))/\W.cell? ⟨w.heap.size,1,none⟩=some (.int .i64 (k:Int))/\W.cell? ⟨w.heap.size,2,none⟩=some (.slice p0 l0 c0))/\TagAt W w3.heap.size (xn,xw)/\TagAt W w1.heap.size (sn,sw)/\Rec verE W (some ⟨b,o,none⟩) A/\w1.heap.size < W.heap.size/\Below w1.heap.size w1 W):=fun W hW=>H5.out W (hb6.trans (hW.mono hb6.size))
      clear k0 k1 k2 x0 x1 t0 t1 H5 hb6 ho6
      obtain ⟨⟨k0,k1,k2⟩,_,t6,_,hl6,b6⟩:=H6.out w6 (Below.refl _ _)
      have HT6:Hid (TagAt w6 w1.heap.size (sn,sw)):=t6
      have HB6:Hid (Below w1.heap.size w1 w6):=b6
      have HSH6:Hid (Shs w6 p6 (shOf n k (xn,xw) A).2):=hsh6
      clear t6 b6 hsh6
      by_cases hfew:(shOf n k (xn,xw) A).2.length < k
      ·have HN:Hid (S1=((sn,sw),stx,false)):=HFEW.out hfew
       clear hs1 HFEW HNEW HSH6
       generalize shOf n k (xn,xw) A=Z at *
       go_wp2
       go_roundw
       case rel=>exact HNXT.out _ _ HN.out HT6.out hl6 HB6.out hil
       case measure=>simp [intOf];omega
      ·have HN:Hid (S1=((xn,xw),decT k (shOf n k (xn,xw) A).1.toNat (pickN k (shOf n k (xn,xw) A).2 (shOf n k (xn,xw) A).2.length),true)):=HNEW.out hfew
       obtain ⟨z1,z2,z3,z4⟩:=shOf_fits hk1 hfew
       have hlen:(shOf n k (xn,xw) A).2.length<=A.length:=by have:=shOf_le (n:=n) (k:=k) (t:=(xn,xw)) A A.length;rw [List.take_length] at this;exact this
       clear hs1 HFEW HNEW
       generalize shOf n k (xn,xw) A=Z at *
       obtain ⟨zs,zl⟩:=Z
       dsimp only at hfew z1 z2 z3 z4 hlen HSH6 HN
       have HD:=rdecode_ok n k zs.toNat p6 zl c6 w6 hk1 hkn hn z2 (by omega) z4 z3 HSH6.out
       rw [z1] at HD
       generalize decT k zs.toNat (pickN k zl zl.length)=dt at *
       clear z1 z2 z3 z4 HSH6
       go_wp2_with fail
       refine HD.mono ?_
       rintro e w7 ⟨rfl,hb7⟩
       clear HD k0 k1 k2 HT6 HB6 hl6
       obtain ⟨_,x7,t7,_,hl7,b7⟩:=H6.out w7 hb7
       have x0:=x7.n
       have x1:=x7.who
       have t0:=t7.n
       have t1:=t7.who
       have t2:=t7.f0
       have t3:=t7.f1
       have HT7:Hid (TagAt w7 w1.heap.size (sn,sw)):=t7
       have HB7:Hid (Below w1.heap.size w1 w7):=b7
       dsimp only at x0 x1 t0 t1
       clear x7 t7 b7 hb7 H6
       go_wp2
       go_roundw
       case rel=>exact HNXT.out _ _ HN.out (HT7.out.set xn xw) (by simpa using hl7) ((HB7.out.setCell (Nat.le_refl _) _).setCell (Nat.le_refl _) _) hil
       case measure=>simp [intOf];omega
    ·have hie:i=A.length:=by omega
     have HE:Hid (bestF n k A A=((sn,sw),stx,sf)):=HFIN.out hie
     have t0:=HT.out.n
     have t1:=HT.out.who
     have g0:=HTG.out.n
     have g1:=HTG.out.who
     have g2:=HTG.out.f0
     have g3:=HTG.out.f1
     dsimp only at t0 t1 g0 g1
     clear hsu HFIN HNXT hie k0 k1 k2
     have HF:Hid (TagAt ((w3.setCell ⟨w.heap.size+1,0,none⟩ (.int .i64 sn)).setCell ⟨w.heap.size+1,1,none⟩ (.int .i64 sw)) (w.heap.size+1) (sn,sw)):=HTG.out.set sn sw
     have HBF:Hid (Below w.heap.size w ((w3.setCell ⟨w.heap.size+1,0,none⟩ (.int .i64 sn)).setCell ⟨w.heap.size+1,1,none⟩ (.int .i64 sw))):=(HBW.out.setCell (p:=⟨w.heap.size+1,0,none⟩) (by show w.heap.size<=w.heap.size+1;omega) _).setCell (p:=⟨w.heap.size+1,1,none⟩) (by show w.heap.size<=w.heap.size+1;omega) _
     go_wp2
     generalize (w3.setCell ⟨w.heap.size+1,0,none⟩ (.int .i64 sn)).setCell ⟨w.heap.size+1,1,none⟩ (.int .i64 sw)=wf at HF HBF ⊢
     have c1:=HF.out.n
     have c2:=HF.out.who
     dsimp only at c1 c2
     refine bodyPost_ret (v:=.tuple #[.agg #[.int .i64 sn,.int .i64 sw],.string stx,.bool sf]) (by simp [results,Tryz.results42,go_sem,c1,c2]) rfl ⟨by rw [HE.out],HBF.out⟩
end Go.Proofs.YtghpdhegfnhmkaaGreatDoor
