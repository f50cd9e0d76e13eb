import Derived.Test.YtghpdhegfnhmkaaGreatDoorS31
import Derived.Test.YtghpdhegfnhmkaaGreatDoorS38
import Derived.Test.YtghpdhegfnhmkaaGreatDoorS21
namespace Go.Proofs.YtghpdhegfnhmkaaGreatDoor
open Go.RowKit
set_option maxRecDepth 10000 in
set_option maxHeartbeats 8000000 in
theorem rpall_any (ad:Nat->Addr) (c:Cfg) (p:Option Addr) (cap:Nat) (LL:List (List Ver)) (pl:Option Addr) (cl:Nat) (w:World) (hc:CfgAt w c p cap) (hf:¬ 0 < (cfgF c).1) (hlen:(LL.length:Int)=c.n) (hL:Vss w pl LL) (hm:LL.flatten.length<=1000) (hin:∀ v ∈ LL.flatten,VerI64 v) (hE:ErrsQ w ad) (z:Addr) (hZ:w.cell? ⟨11,0,none⟩=some (.iface 218 (.pointer (some z)))) :
 Calls Tryz.prog 62 #[cfgA c (.slice p c.L.length cap),.slice pl LL.length cl] w fun e w'=>(∃ q d,e=.returned (.tuple #[.slice q (wholeF c.n.toNat c.k.toNat LL).length d,.nilIface])/\Rec verE w' q (wholeF c.n.toNat c.k.toNat LL)/\∀ b o,q=some ⟨b,o,none⟩->w.heap.size<=b)/\Below w.heap.size w w':=by
 obtain ⟨hfit,hcn,hf0,_,_⟩:=cfgF_fine hf
 obtain ⟨w0,hw0⟩:∃ w0,w0=w.alloc (.cells #[.int .i64 c.n,.int .i64 c.k,.slice p c.L.length cap] 24):=⟨_,rfl⟩
 have hb0:Below w.heap.size w w0:=by rw [hw0];exact (Below.refl _ _).alloc (Nat.le_refl _) _
 have hx0:CfgBox w0 w.heap.size c (.slice p c.L.length cap):=by rw [hw0];exact cfgBox_made w c _ _
 obtain ⟨hbe,hbt⟩:=bestE_fine (LL:=LL) hf (by omega)
 have HBEST:=best_any ad c p cap LL pl cl w0 (hc.below hb0) (hL.below hb0) (by omega) hm hin (hE.below hb0) z ((hb0.cell (p:=⟨11,0,none⟩) (lt_of_cellE hZ)).trans hZ)
 rw [hbe,hbt] at HBEST
 have HW0:Hid (w0=w.alloc (.cells #[.int .i64 c.n,.int .i64 c.k,.slice p c.L.length cap] 24)):=hw0
 have HB0:Hid (Below w.heap.size w w0):=hb0
 have HX0:Hid (CfgBox w0 w.heap.size c (.slice p c.L.length cap)):=hx0
 have HZ0:Hid (w0.cell? ⟨11,0,none⟩=some (.iface 218 (.pointer (some z)))):=(hb0.cell (p:=⟨11,0,none⟩) (lt_of_cellE hZ)).trans hZ
 have f0:=hx0.f0
 have f1:=hx0.f1
 have f2:=hx0.f2
 have hs0:w0.heap.size=w.heap.size+1:=by rw [hw0];simp
 obtain ⟨n,hn⟩:∃ n:Nat,c.n=(n:Int):=⟨c.n.toNat,by omega⟩
 obtain ⟨k,hk⟩:∃ k:Nat,c.k=(k:Int):=⟨c.k.toNat,by omega⟩
 have hk1:1<=k:=by omega
 have hkn:k<=n:=by omega
 have hn12:n<=12:=by omega
 have HSZ:Hid ((bestF c.n.toNat c.k.toNat LL.flatten LL.flatten).2.1.size<=1000):=bestF_size1 (by omega) _
 have HWH:Hid (wholeF c.n.toNat c.k.toNat LL=if (bestF c.n.toNat c.k.toNat LL.flatten LL.flatten).2.2 then wholeL n k (bestF c.n.toNat c.k.toNat LL.flatten LL.flatten).1 (bestF c.n.toNat c.k.toNat LL.flatten LL.flatten).2.1 else []):=by
  show _=_
  unfold wholeF
  rw [show c.n.toNat=n by omega,show c.k.toNat=k by omega]
 rw [HWH.out]
 clear HWH hw0 hb0 hx0 hbe hbt hc hL hm hin hE hZ hfit hcn hf0 hf hlen
 generalize bestF c.n.toNat c.k.toNat LL.flatten LL.flatten=R at *
 obtain ⟨⟨t1,t2⟩,tx,fd⟩:=R
 obtain ⟨cn,ck,L⟩:=c
 dsimp only at *
 subst hn hk
 obtain ⟨WL,hWL⟩:∃ WL,WL=if fd=true then wholeL n k (t1,t2) tx else []:=⟨_,rfl⟩
 rw [<- hWL]
 unfold cfgA at *
 have HB0':Hid (Below w.heap.size w w0):=HB0.out
 go_enter Tryz.func62,Tryz.ntmps62
 go_wp2_with fail
 rw [<- HW0.out]
 refine HBEST.mono ?_
 rintro e w2 ⟨⟨ev,rfl,hev⟩,hb2⟩
 obtain rfl:=ErrIs.isNil hev
 have hx2:=HX0.out.below hb2
 have HB2:Hid (Below w.heap.size w w2):=HB0.out.trans (hb2.mono HB0.out.size)
 have hz2:w0.heap.size<=w2.heap.size:=hb2.size
 obtain ⟨w3,hw3⟩:∃ w3,w3=w2.alloc (.cells #[.int .i64 t1,.int .i64 t2] 43):=⟨_,rfl⟩
 have hb3:Below w2.heap.size w2 w3:=by rw [hw3];exact (Below.refl _ _).alloc (Nat.le_refl _) _
 have hx3:=hx2.below hb3
 have hs3:w3.heap.size=w2.heap.size+1:=by rw [hw3];simp
 have HT3:Hid (w3.cell? ⟨w2.heap.size,0,none⟩=some (.int .i64 t1)/\w3.cell? ⟨w2.heap.size,1,none⟩=some (.int .i64 t2)):=⟨by rw [hw3,World.cell?_alloc_at _ _ _ _ rfl];rfl,by rw [hw3,World.cell?_alloc_at _ _ _ _ rfl];rfl⟩
 have HW3:Hid (w3=w2.alloc (.cells #[.int .i64 t1,.int .i64 t2] 43)):=hw3
 have HB3:Hid (Below w.heap.size w w3):=HB2.out.trans (hb3.mono HB2.out.size)
 have HZ3:Hid (w3.cell? ⟨11,0,none⟩=some (.iface 218 (.pointer (some z)))):=by
  have h1:=(hb2.cell (p:=⟨11,0,none⟩) (lt_of_cellE HZ0.out)).trans HZ0.out
  exact (hb3.cell (p:=⟨11,0,none⟩) (lt_of_cellE h1)).trans h1
 have g0:=hx3.f0
 have g1:=hx3.f1
 dsimp only at g0 g1
 clear hev hb2 hx2 hb3 hx3 hw3 HBEST HX0 f0 f1 f2 HW0 HB0' HZ0
 cases fd with
 | false =>
  rw [if_neg (by simp)] at hWL
  subst hWL
  go_wp2_with (first | rw [<- HW3.out] | fail)
  go_ret2
  exact ⟨⟨none,_,rfl,Rec.nil _ _,fun _ _ e=>by cases e⟩,HB3.out⟩
 | true =>
  rw [if_pos rfl] at hWL
  have HENC:=encode_ok n k tx z w3 hk1 hkn hn12 HSZ.out HZ3.out
  go_wp2_with (first | rw [<- HW3.out] | fail)
  refine HENC.mono ?_
  rintro e w4 ⟨⟨g,hg,rfl,hsh⟩,hb4⟩
  have HSH:Hid (ShRow w4 g n (encS k tx)):=hsh
  have HT4:Hid (w4.cell? ⟨w2.heap.size,0,none⟩=some (.int .i64 t1)/\w4.cell? ⟨w2.heap.size,1,none⟩=some (.int .i64 t2)):=⟨(hb4.cell (p:=⟨w2.heap.size,0,none⟩) (by show w2.heap.size < _;omega)).trans HT3.out.1,(hb4.cell (p:=⟨w2.heap.size,1,none⟩) (by show w2.heap.size < _;omega)).trans HT3.out.2⟩
  have HB4:Hid (Below w.heap.size w w4):=HB3.out.trans (hb4.mono HB3.out.size)
  have hgl:g < w4.heap.size:=hsh.lt
  have hz4:w3.heap.size<=w4.heap.size:=hb4.size
  have HWL:Hid (∀ i,i < n->WL.take (i+1)=WL.take i ++ [⟨t1,t2,(tx.size:Int),(i:Int),encT k tx i⟩]):=fun i hi=>by rw [hWL];exact wholeL_take hi
  have HWN:Hid (WL.length=n):=by show _=_;rw [hWL];exact wholeL_length _ _ _ _
  clear hWL
  have HES:Hid (∀ i,encS k tx i=((i:Int),encT k tx i)):=fun i=>rfl
  have hsz:=HSZ.out
  clear hsh hb4 HENC HT3 HZ3 g0 g1
  go_wp2
  go_loopw [11,43] (fun v x wr=>∃ i:Nat,i<=n/\x=.int .i64 i/\OwnR verE 47 wr w4.heap.size v (WL.take i)/\Below w4.heap.size w4 wr) (fun _ x _=>n - (intOf x).toNat)
  case atStart=>exact ⟨0,by omega,rfl,by simpa using OwnR.nil _ _ _,Below.refl _ _⟩
  case round =>
   obtain ⟨i,hi,rfl,hO,hB⟩:=hrel
   obtain ⟨w6,rfl⟩:∃ w6,w6=wr:=⟨_,rfl⟩
   obtain ⟨v,rfl⟩:∃ v,v=u11:=⟨_,rfl⟩
   have HO:Hid (OwnR verE 47 w6 w4.heap.size v (WL.take i)):=hO
   have HB:Hid (Below w4.heap.size w4 w6):=hB
   have hz6:w4.heap.size<=w6.heap.size:=hB.size
   clear hO hB
   by_cases hil:i < n
   ·have q0 : w6.cell? ⟨g, i * 2, none⟩ = some (.int .i64 (i : Int)) := by
     rw [HB.out.cell (p:=⟨g,i*2,none⟩) hgl,HSH.out.at_ hil,HES.out i]
    have q1:w6.cell? ⟨g,i*2+1,none⟩=some (.string (encT k tx i)):=by
     rw [HB.out.cell (p:=⟨g,i*2+1,none⟩) hgl,HSH.out.text hil,HES.out i]
    have HNX:Hid (WL.take (i+1)=WL.take i ++ [⟨t1,t2,(tx.size:Int),(i:Int),encT k tx i⟩]):=HWL.out i hil
    have hgs:(WL.take i).length<=12:=by rw [List.length_take];omega
    clear HWL HES
    generalize encT k tx i=et at *
    generalize WL.take i=gs at *
    obtain ⟨w7,hw7⟩:∃ w7,w7=w6.alloc (.cells #[.int .i64 (i:Int),.string et] 45):=⟨_,rfl⟩
    have HW7:Hid (w7=w6.alloc (.cells #[.int .i64 (i:Int),.string et] 45)):=hw7
    have hb7:Below w6.heap.size w6 w7:=by rw [hw7];exact (Below.refl _ _).alloc (Nat.le_refl _) _
    have hs7:w7.heap.size=w6.heap.size+1:=by rw [hw7];simp
    have r0:w7.cell? ⟨w6.heap.size,0,none⟩=some (.int .i64 (i:Int)):=by rw [hw7,World.cell?_alloc_at _ _ _ _ rfl];rfl
    have r1:w7.cell? ⟨w6.heap.size,1,none⟩=some (.string et):=by rw [hw7,World.cell?_alloc_at _ _ _ _ rfl];rfl
    have hb47:Below w4.heap.size w4 w7:=HB.out.trans (hb7.mono hz6)
    have t0:w7.cell? ⟨w2.heap.size,0,none⟩=some (.int .i64 t1):=(hb47.cell (p:=⟨w2.heap.size,0,none⟩) (by show w2.heap.size < _;omega)).trans HT4.out.1
    have t1':w7.cell? ⟨w2.heap.size,1,none⟩=some (.int .i64 t2):=(hb47.cell (p:=⟨w2.heap.size,1,none⟩) (by show w2.heap.size < _;omega)).trans HT4.out.2
    have HB47:Hid (Below w4.heap.size w4 w7):=hb47
    have HO2:Hid (OwnR verE 47 (w7.alloc (.cells #[.int .i64 t1,.int .i64 t2,.int .i64 (tx.size:Int),.int .i64 (i:Int),.string et] 47)) w4.heap.size v gs):=(HO.out.kept hb7).kept ((Below.refl _ _).alloc (Nat.le_refl _) _)
    have HNW:Hid (∀ j u,(verE.enc ⟨t1,t2,(tx.size:Int),(i:Int),et⟩)[j]?=some u->(w7.alloc (.cells #[.int .i64 t1,.int .i64 t2,.int .i64 (tx.size:Int),.int .i64 (i:Int),.string et] 47)).cell? ⟨w7.heap.size,0+j,none⟩=some u):=fun j u hj=>by
     rw [Nat.zero_add,World.cell?_alloc_at _ _ _ _ rfl]
     match j,hj with
     | 0,hj=>exact hj
     | 1,hj=>exact hj
     | 2,hj=>exact hj
     | 3,hj=>exact hj
     | 4,hj=>exact hj
    have HB8:Hid (Below w4.heap.size w4 (w7.alloc (.cells #[.int .i64 t1,.int .i64 t2,.int .i64 (tx.size:Int),.int .i64 (i:Int),.string et] 47))):=hb47.alloc hb47.size _
    clear hw7 hb7 hb47 HT4 hs7
    go_wp2_with (first | rw [<- HW7.out] | (at_builtin;refine wpList_append_rec rfl (.tmp 47) (.tmp 53) 62 47 rfl (.agg #[.int .i64 0,.int .i64 0,.int .i64 0,.int .i64 0,.string ⟨#[]⟩]) 48 Tryz.underlying62 verinfo rfl w4.heap.size v gs rfl HO2.out w7.heap.size 0 1 ⟨t1,t2,(tx.size:Int),(i:Int),et⟩ rfl HNW.out (by unfold maxLen;omega) (by omega) HB8.out.size (by simp) ?_;intro v9 w9 hO9 hb9))
    have HO9:Hid (OwnR verE 47 w9 w4.heap.size v9 (gs ++ [⟨t1,t2,(tx.size:Int),(i:Int),et⟩])):=hO9
    have HB9:Hid (Below w4.heap.size w4 w9):=HB8.out.trans hb9
    clear hO9 hb9
    go_wp2
    go_roundw
    case rel=>exact ⟨i+1,by omega,by go_num,by rw [HNX.out];exact HO9.out,HB9.out⟩
    case measure=>simp [intOf];omega
   ·have hie:i=n:=by omega
    have HE:Hid (WL.take i=WL):=by show _=_;rw [hie,<- HWN.out,List.take_length]
    have hO:=HO.out
    rw [HE.out] at hO
    obtain ⟨q,d,rfl,hr,_,_,hqb⟩:=hO.form
    have HQB:Hid (∀ b o,q=some ⟨b,o,none⟩->w.heap.size<=b):=fun b o e=>by have:=(hqb b o e).1;have:=HB4.out.size;omega
    clear hqb
    have HR:Hid (Rec verE w6 q WL):=hr
    have HBB:Hid (Below w.heap.size w w6):=HB4.out.trans (HB.out.mono HB4.out.size)
    clear hO hr HO HB
    go_wp2
    go_ret2
    exact ⟨⟨_,_,rfl,HR.out,HQB.out⟩,HBB.out⟩
end Go.Proofs.YtghpdhegfnhmkaaGreatDoor
