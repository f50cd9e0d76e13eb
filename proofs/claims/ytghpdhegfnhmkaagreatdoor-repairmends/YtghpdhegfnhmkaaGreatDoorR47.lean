import Derived.Test.YtghpdhegfnhmkaaGreatDoorR32
import Derived.Test.YtghpdhegfnhmkaaGreatDoorR9
import Derived.Test.YtghpdhegfnhmkaaGreatDoorR35
import Derived.Test.YtghpdhegfnhmkaaGreatDoorR45
import Derived.Test.YtghpdhegfnhmkaaGreatDoorR34
import Derived.Test.YtghpdhegfnhmkaaGreatDoorR7
import Derived.Test.YtghpdhegfnhmkaaGreatDoorR21
import Derived.Deep.RegionHeld3
import Derived.BigQuiet
namespace Go.Proofs.YtghpdhegfnhmkaaGreatDoor
open Go.RowKit
theorem inTake_succ {l:List Ver} {v:Ver} {k:Nat} (hk:k < l.length):decide (v ∈ l.take (k+1))=(decide (v ∈ l.take k) || decide (verAt l k=v)):=by
 rw [List.take_add_one,verAt_get hk]
 by_cases h1:v ∈ l.take k
 ·rw [decide_eq_true h1,decide_eq_true (List.mem_append_left _ h1)];rfl
 ·rw [decide_eq_false h1]
  by_cases h2:verAt l k=v
  ·rw [decide_eq_true h2,decide_eq_true (by rw [<- h2];simp)];rfl
  ·rw [decide_eq_false h2, decide_eq_false (fun h => by
    rcases List.mem_append.1 h with h | h
    ·exact h1 h
    ·simp at h;exact h2 h.symm)];rfl
set_option maxRecDepth 10000 in
set_option maxHeartbeats 8000000 in
theorem rlack_any (n k:Nat) (p0:Option Addr) (l0 c0:Nat) (key:ByteArray) (Kb:List (Option (List Kep))) (hm:Nat->Nat) (pb:Option Addr) (cb:Nat) (w:World) (hk1:1<=k) (hkn:k<=n) (hn:n<=12) (hlen:Kb.length=n) (hg:GoodK Kb) (hr:Rec ptoE w pb (ptL hm Kb)) (ho:∀ i L,Kb[i]?=some (some L)->MHold w (hm i) L false) :
 Calls Tryz.prog 20 #[.agg #[.int .i64 (n:Int),.int .i64 (k:Int),.slice p0 l0 c0],.string key,.slice pb Kb.length cb] w fun e w'=>(∃ q1 d1 q2 d2,e=.returned (.tuple #[.slice q1 (wholeF n k (tellL key Kb)).length d1,.slice q2 (missF (wholeF n k (tellL key Kb)) (tellL key Kb)).length d2])/\Rec verE w' q1 (wholeF n k (tellL key Kb))/\Rec natE w' q2 (missF (wholeF n k (tellL key Kb)) (tellL key Kb))/\(∀ b o,q1=some ⟨b,o,none⟩->w.heap.size<=b)/\∀ b o,q2=some ⟨b,o,none⟩->w.heap.size<=b)/\Below w.heap.size w w':=by
 obtain ⟨i1,hi1,hy0,hy1,hy2⟩:=info_parts versinfo
 obtain ⟨w0,hw0⟩:∃ w0,w0=w.alloc (.cells #[.int .i64 (n:Int),.int .i64 (k:Int),.slice p0 l0 c0] 24):=⟨_,rfl⟩
 have hb0:Below w.heap.size w w0:=by rw [hw0];exact (Below.refl _ _).alloc (Nat.le_refl _) _
 have hf0:w0.cell? ⟨w.heap.size,0,none⟩=some (.int .i64 (n:Int)):=by rw [hw0,World.cell?_alloc_at _ _ _ _ rfl];rfl
 have hf1:w0.cell? ⟨w.heap.size,1,none⟩=some (.int .i64 (k:Int)):=by rw [hw0,World.cell?_alloc_at _ _ _ _ rfl];rfl
 have hf2:w0.cell? ⟨w.heap.size,2,none⟩=some (.slice p0 l0 c0):=by rw [hw0,World.cell?_alloc_at _ _ _ _ rfl];rfl
 have HBX:Hid (∀ W,Below w0.heap.size w0 W->W.cell? ⟨w.heap.size,0,none⟩=some (.int .i64 (n:Int))/\W.cell? ⟨w.heap.size,1,none⟩=some (.int .i64 (k:Int))/\W.cell? ⟨w.heap.size,2,none⟩=some (.slice p0 l0 c0)):=fun W hW=>by
  have hlt:=lt_of_cellH hf0
  exact ⟨(hW.cell (p:=⟨w.heap.size,0,none⟩) hlt).trans hf0,(hW.cell (p:=⟨w.heap.size,1,none⟩) hlt).trans hf1,(hW.cell (p:=⟨w.heap.size,2,none⟩) hlt).trans hf2⟩
 have HW0:Hid (w0=w.alloc (.cells #[.int .i64 (n:Int),.int .i64 (k:Int),.slice p0 l0 c0] 24)):=hw0
 have HB0:Hid (Below w.heap.size w w0):=hb0
 have HGET:Hid (∀ i,i < n->∀ W,Below w.heap.size w W->∃ b o x,pb=some ⟨b,o,none⟩/\W.cell? ⟨b,o+i,none⟩=some (.pointer x)/\(x=none->(tellL key Kb).getD i []=[])/\∀ a,x=some a->Calls Tryz.prog 25 #[.pointer (some a),.string key] W fun e w'=>(∃ v,e=.returned v/\OwnR verE 47 w' W.heap.size v ((tellL key Kb).getD i []))/\Below W.heap.size W w'):=fun i hi W hW=>by
  obtain ⟨x,hx⟩:∃ x,Kb[i]?=some x:=⟨_,List.getElem?_eq_getElem (by omega)⟩
  obtain ⟨b,o,h1,_,h3⟩:=pto_cell (hr.below hW) hx
  rw [tellL_at hx]
  refine ⟨b,o,_,h1,h3,fun e=>?_,fun ad e=>?_⟩
  ·cases x with
   | none=>rfl
   | some L=>cases e
  ·cases x with
   | none=>cases e
   | some L =>
    obtain rfl:=Option.some.inj e
    have hfew:=(hg L (List.mem_of_getElem? hx)).1
    exact rget_any (hm i) L false key W (by omega) ((ho i L hx).below hW)
 have hfl:=tellL_flat_len key hg
 have HLL:Hid ((tellL key Kb).length=n):=(tellL_length _ _).trans hlen
 have HFL:Hid ((tellL key Kb).flatten.length<=1000):=by show _<=_;omega
 have HRL:Hid (∀ i,i < n->((tellL key Kb).getD i []).length<=1000):=fun i hi=>by
  have h1:=flatten_at_le (tellL key Kb) (i:=i) (by rw [HLL.out];exact hi)
  have:=HFL.out
  omega
 have HWC:Hid (wholeF n k (tellL key Kb)=if (bestF n k (tellL key Kb).flatten (tellL key Kb).flatten).2.2 then wholeL n k (bestF n k (tellL key Kb).flatten (tellL key Kb).flatten).1 (bestF n k (tellL key Kb).flatten (tellL key Kb).flatten).2.1 else []):=rfl
 have HSZ:Hid ((bestF n k (tellL key Kb).flatten (tellL key Kb).flatten).2.1.size<=1000):=bestF_size1 hk1 _
 have HMF:Hid (missF (wholeF n k (tellL key Kb)) (tellL key Kb)=missN (wholeF n k (tellL key Kb)) (tellL key Kb) (wholeF n k (tellL key Kb)).length):=rfl
 rw [hlen]
 clear hw0 hb0 hf0 hf1 hf2 hlen hg hr ho hfl
 generalize tellL key Kb=LL at *
 obtain ⟨WL,hWL⟩:∃ WL,WL=wholeF n k LL:=⟨_,rfl⟩
 obtain ⟨M,hM⟩:∃ M,M=missF WL LL:=⟨_,rfl⟩
 rw [<- hWL] at HWC HMF ⊢
 rw [<- hM] at HMF ⊢
 clear hWL hM
 have HTS:Hid (∀ i,i < n->LL.take (i+1)=LL.take i ++ [LL.getD i []]):=fun i hi=>take_succ_vs (by rw [HLL.out];exact hi)
 have HTL:Hid (∀ i,i<=n->(LL.take i).length=i):=fun i hi=>by rw [List.length_take,HLL.out];omega
 have HTN:Hid (LL.take n=LL):=by show _=_;rw [<- HLL.out,List.take_length]
 go_enter Tryz.func20,Tryz.ntmps20
 go_wp2
 rw [<- HW0.out]
 go_loopw [8,9] (fun v x wr=>∃ i:Nat,i<=n/\x=.int .i64 i/\(∃ vs,OwnVsV w0.heap.size wr 62 v vs (LL.take i))/\Below w0.heap.size w0 wr) (fun _ x _=>n - (intOf x).toNat)
 case atStart=>exact ⟨0,Nat.zero_le _,rfl,⟨[],OwnVsV.nil _ _ _⟩,Below.refl _ _⟩
 case round =>
  obtain ⟨i,hi,rfl,⟨vs,hM⟩,hB⟩:=hrel
  obtain ⟨w3,rfl⟩:∃ w3,w3=wr:=⟨_,rfl⟩
  obtain ⟨u,rfl⟩:∃ u,u=u8:=⟨_,rfl⟩
  have HM:Hid (OwnVsV w0.heap.size w3 62 u vs (LL.take i)):=hM
  have HV:Hid (OwnV w3 w0.heap.size 62 u vs):=hM.1
  have HVL:Hid (vs.length=i):=hM.2.1.trans (HTL.out i hi)
  have HB:Hid (Below w0.heap.size w0 w3):=hB
  have hz3:w0.heap.size<=w3.heap.size:=hB.size
  clear hM hB
  by_cases hil:i < n
  ·have HNX:Hid (LL.take (i+1)=LL.take i ++ [LL.getD i []]):=HTS.out i hil
   obtain ⟨b,o,x,rfl,hcell,hx1,hx2⟩:=HGET.out i hil w3 (HB0.out.trans (HB.out.mono HB0.out.size))
   cases x with
   | none =>
    have HE:Hid (LL.getD i []=[]):=hx1 rfl
    clear hx1 hx2 HTS HTL HTN HGET
    go_wp2_with (first | (at_builtin;refine wpList_append_val rfl (.tmp 38) (.tmp 40) 96 rfl w0.heap.size 62 i1 (.slice none 0 0) 24 Tryz.underlying96 hi1 hy0 rfl hy1 hy2 (by decide) u vs rfl (HV.out.kept (World.grownBy_alloc w3 _ none) (by cases hv:u.ownBlock <;> simp)) ⟨w3.heap.size,0,none⟩ 1 (.slice none 0 0) rfl rfl (by simp) (by have:=HVL.out;omega) (by simp;omega) ?_;intro v' w8 hV' hg' hw'))
    have hmv3:=HM.out.snoc hz3 (OwnR.nil (E:=verE) (T:=47) w3 w3.heap.size) (Below.refl _ _) hV' hg' hw'
    have hb8:Below w0.heap.size w0 w8:=(HB.out.alloc hz3 _).grown hg' (by simp;omega) (fun k' hk'=>(HV.out.block hk').1)
    go_roundw
    case rel=>exact ⟨i+1,by omega,by go_num,⟨_,by rw [HNX.out,HE.out];exact hmv3⟩,hb8⟩
    case measure=>simp [intOf];omega
   | some a =>
    have HC:=hx2 a rfl
    have hfl:=HRL.out i hil
    clear hx1 hx2 HTS HTL HTN HGET HRL
    generalize LL.getD i []=row at *
    go_wp2_with fail
    refine HC.mono ?_
    rintro e w5 ⟨⟨v5,rfl,hO5⟩,hb5⟩
    obtain ⟨p5,c5,rfl,_⟩:=hO5.form
    have HO5:Hid (OwnR verE 47 w5 w3.heap.size (.slice p5 row.length c5) row):=hO5
    have HB5:Hid (Below w3.heap.size w3 w5):=hb5
    clear hO5 hb5 HC hcell
    go_wp2_with (first | (at_builtin;refine wpList_append_val rfl (.tmp 38) (.tmp 40) 96 rfl w0.heap.size 62 i1 (.slice none 0 0) 24 Tryz.underlying96 hi1 hy0 rfl hy1 hy2 (by decide) u vs rfl (((HV.out.kept (row:=none) ⟨HB5.out.os,HB5.out.tape,HB5.out.output,HB5.out.size,fun k hk _=>HB5.out.block k hk⟩ (by cases hv:u.ownBlock <;> simp))).kept (World.grownBy_alloc w5 _ none) (by cases hv:u.ownBlock <;> simp)) ⟨w5.heap.size,0,none⟩ 1 (.slice p5 row.length c5) rfl rfl (by simp) (by have:=HVL.out;omega) (by have:=HB5.out.size;simp;omega) ?_;intro v' w8 hV' hg' hw'))
    have hmv3:=HM.out.snoc hz3 HO5.out HB5.out hV' hg' hw'
    have hb8:Below w0.heap.size w0 w8:=((HB.out.trans (HB5.out.mono hz3)).alloc (by have:=HB5.out.size;omega) _).grown hg' (by have:=HB5.out.size;simp;omega) (fun k' hk'=>(HV.out.block hk').1)
    go_roundw
    case rel=>exact ⟨i+1,by omega,by go_num,⟨_,by rw [HNX.out];exact hmv3⟩,hb8⟩
    case measure=>simp [intOf];omega
  ·have hie:i=n:=by omega
   obtain ⟨p',c',hv,hvs⟩:=HM.out.vss
   rw [HTL.out i hi] at hv
   subst hv
   have HVS:Hid (Vss w3 p' LL):=by
    show Vss _ _ _
    have:=hvs
    rw [hie,HTN.out] at this
    exact this
   clear HM HV hvs HGET HTS HTL HTN
   subst hie
   obtain ⟨g0,g1,g2⟩:=HBX.out w3 HB.out
   have hbest:=rbest_any i k p0 l0 c0 p' LL c' w3 hk1 hkn hn (by have:=HLL.out;omega) HFL.out HVS.out
   rw [HLL.out] at hbest
   have HBST:Hid (Calls Tryz.prog 42 #[.agg #[.int .i64 (i:Int),.int .i64 (k:Int),.slice p0 l0 c0],.slice p' i c'] w3 fun e w'=>e=.returned (.tuple #[.agg #[.int .i64 (bestF i k LL.flatten LL.flatten).1.1,.int .i64 (bestF i k LL.flatten LL.flatten).1.2],.string (bestF i k LL.flatten LL.flatten).2.1,.bool (bestF i k LL.flatten LL.flatten).2.2])/\Below w3.heap.size w3 w'):=hbest
   clear hbest HFL hi
   obtain ⟨BF,hBF⟩:∃ BF,BF=bestF i k LL.flatten LL.flatten:=⟨_,rfl⟩
   rw [<- hBF] at HBST HWC HSZ
   clear hBF
   obtain ⟨⟨t1,t2⟩,tx,fd⟩:=BF
   dsimp only at HBST HWC HSZ
   go_wp2_with fail
   refine HBST.out.mono ?_
   rintro e w4 ⟨rfl,hb4⟩
   have hz34:w3.heap.size<=w4.heap.size:=hb4.size
   obtain ⟨w5,hw5⟩:∃ w5,w5=w4.alloc (.cells #[.int .i64 t1,.int .i64 t2] 43):=⟨_,rfl⟩
   have hb5:Below w4.heap.size w4 w5:=by rw [hw5];exact (Below.refl _ _).alloc (Nat.le_refl _) _
   have HW5:Hid (w5=w4.alloc (.cells #[.int .i64 t1,.int .i64 t2] 43)):=hw5
   have tg0:w5.cell? ⟨w4.heap.size,0,none⟩=some (.int .i64 t1):=by rw [hw5,World.cell?_alloc_at _ _ _ _ rfl];rfl
   have tg1:w5.cell? ⟨w4.heap.size,1,none⟩=some (.int .i64 t2):=by rw [hw5,World.cell?_alloc_at _ _ _ _ rfl];rfl
   have hlt5:w4.heap.size < w5.heap.size:=lt_of_cellH tg0
   have hb35:Below w3.heap.size w3 w5:=hb4.trans (hb5.mono hz34)
   have HB05:Hid (Below w0.heap.size w0 w5):=HB.out.trans (hb35.mono HB.out.size)
   have HBW5:Hid (Below w.heap.size w w5):=HB0.out.trans (HB05.out.mono HB0.out.size)
   have HV5:Hid (Vss w5 p' LL):=HVS.out.below hb35
   have HTG:Hid (∀ W,Below w5.heap.size w5 W->W.cell? ⟨w4.heap.size,0,none⟩=some (.int .i64 t1)/\W.cell? ⟨w4.heap.size,1,none⟩=some (.int .i64 t2)/\Vss W p' LL):=fun W hW=>⟨(hW.cell (p:=⟨w4.heap.size,0,none⟩) hlt5).trans tg0,(hW.cell (p:=⟨w4.heap.size,1,none⟩) hlt5).trans tg1,HV5.out.below hW⟩
   obtain ⟨j0,j1,j2⟩:=HBX.out w5 HB05.out
   have hz05:w.heap.size<=w5.heap.size:=HBW5.out.size
   clear hw5 hb4 hb5 hb35 tg0 tg1 HBST HVS g0 g1 g2 HB HB05 HBX HW0 HV5
   cases fd with
   | false =>
    have hW:=HWC.out
    rw [if_neg (by simp)] at hW
    subst hW
    have hM:=HMF.out
    have hM:M=[]:=hM
    subst hM
    clear HMF HWC
    go_wp2_with (first | rw [<- HW5.out] | fail)
    go_ret2
    exact ⟨⟨none,0,none,0,rfl,Rec.nil _ _,Rec.nil _ _,(fun _ _ e=>by cases e),fun _ _ e=>by cases e⟩,HBW5.out⟩
   | true =>
    have hW:=HWC.out
    rw [if_pos rfl] at hW
    have HWLT:Hid (∀ j,j < i->WL.take (j+1)=WL.take j ++ [⟨t1,t2,(tx.size:Int),(j:Int),encT k tx j⟩]):=fun j hj=>by rw [hW];exact wholeL_take hj
    have HWLA:Hid (∀ j,j < i->verAt WL j=⟨t1,t2,(tx.size:Int),(j:Int),encT k tx j⟩):=fun j hj=>by rw [hW];exact wholeL_at hj
    have HWLN:Hid (WL.length=i):=by show _=_;rw [hW];exact wholeL_length _ _ _ _
    have HWLE:Hid (WL.take i=WL):=by show _=_;rw [<- HWLN.out,List.take_length]
    have HMN:Hid (M=missN WL LL i):=by show _=_;rw [HMF.out,HWLN.out]
    have hsz:=HSZ.out
    have HENC:=rencode_shs i k tx w5 hk1 hkn hn (by omega)
    clear hW HWC HMF
    go_wp2_with (first | rw [<- HW5.out] | fail)
    refine HENC.mono ?_
    rintro e w6 ⟨⟨ps,cs,rfl,hsh⟩,hb6⟩
    have HSH:Hid (∀ j,j < i->∃ b o,ps=some ⟨b,o,none⟩/\∀ W,Below w6.heap.size w6 W->W.cell? ⟨b,o+j*2,none⟩=some (.int .i64 (j:Int))/\W.cell? ⟨b,o+j*2+1,none⟩=some (.string (encT k tx j))):=fun j hj=>by
     have hl:(encL i k tx).length=i:=encL_length _ _ _
     have he:shAt (encL i k tx) j=((j:Int),encT k tx j):=by
      unfold shAt encL
      rw [List.getD_eq_getElem?_getD,List.getElem?_map,List.getElem?_range hj]
      rfl
     rcases hsh with h0 | ⟨b,o,hp,hlt,hc⟩
     ·rw [h0] at hl;simp at hl;omega
     ·obtain ⟨c1,c2⟩:=hc j (by rw [hl];exact hj)
      rw [he] at c1 c2
      exact ⟨b,o,hp,fun W hW=>⟨(hW.cell (p:=⟨b,o+j*2,none⟩) hlt).trans c1,(hW.cell (p:=⟨b,o+j*2+1,none⟩) hlt).trans c2⟩⟩
    have HTG6:Hid (∀ W,Below w6.heap.size w6 W->W.cell? ⟨w4.heap.size,0,none⟩=some (.int .i64 t1)/\W.cell? ⟨w4.heap.size,1,none⟩=some (.int .i64 t2)/\Vss W p' LL):=fun W hW=>HTG.out W (hb6.trans (hW.mono hb6.size))
    have HBW6:Hid (Below w.heap.size w w6):=HBW5.out.trans (hb6.mono hz05)
    have HT0:Hid (TwoRows verE natE 47 3 w6 w6.heap.size (.slice none 0 0) (.slice none 0 0) (WL.take 0) (missN WL LL 0)):=⟨OwnR.nil _ _ _,OwnR.nil _ _ _,(fun g h=>by cases h),Nat.le_refl _⟩
    clear hsh hb6 HENC j0 j1 j2 HTG HBW5 HW5
    go_wp2
    go_loopw [15,16,17] (fun vm vl x wr=>∃ j:Nat,j<=i/\x=.int .i64 j/\(∃ q1 n1 c1 q2 n2 c2,vm=.slice q1 n1 c1/\vl=.slice q2 n2 c2/\TwoRows verE natE 47 3 wr w6.heap.size vm vl (WL.take j) (missN WL LL j))/\Below w6.heap.size w6 wr) (fun _ _ x _=>i - (intOf x).toNat)
    case atStart=>exact ⟨0,Nat.zero_le _,rfl,⟨none,0,0,none,0,0,rfl,rfl,HT0.out⟩,Below.refl _ _⟩
    case round =>
     obtain ⟨j,hj,rfl,⟨q1,n1,c1,q2,n2,c2,rfl,rfl,hT⟩,hB⟩:=hrel
     obtain ⟨w7,rfl⟩:∃ w7,w7=wr:=⟨_,rfl⟩
     have HT:Hid (TwoRows verE natE 47 3 w7 w6.heap.size (.slice q1 n1 c1) (.slice q2 n2 c2) (WL.take j) (missN WL LL j)):=hT
     have HB:Hid (Below w6.heap.size w6 w7):=hB
     clear hT hB HT0
     by_cases hji:j < i
     ·obtain ⟨bs,os,rfl,hshc⟩:=HSH.out j hji
      have HV:Hid (verAt WL j=⟨t1,t2,(tx.size:Int),(j:Int),encT k tx j⟩):=HWLA.out j hji
      have HNX:Hid (WL.take (j+1)=WL.take j ++ [⟨t1,t2,(tx.size:Int),(j:Int),encT k tx j⟩]):=HWLT.out j hji
      have HYES:Hid (decide (verAt WL j ∈ LL.getD j [])=true->missN WL LL (j+1)=missN WL LL j):=fun h=>missN_no (by unfold lackB;rw [h];rfl)
      have HNO:Hid (decide (verAt WL j ∈ LL.getD j [])=false->missN WL LL (j+1)=missN WL LL j ++ [j]):=fun h=>missN_yes (by unfold lackB;rw [h];rfl)
      rw [HV.out] at HYES HNO
      have hml:(missN WL LL j).length<=12:=by have:=missN_le WL LL j;omega
      have hwl:(WL.take j).length<=12:=by rw [List.length_take];omega
      have hrl:=HRL.out j hji
      have HROW:Hid (∀ W,Below w6.heap.size w6 W->∃ b o q c,p'=some ⟨b,o,none⟩/\W.cell? ⟨b,o+j,none⟩=some (.slice q (LL.getD j []).length c)/\Rec verE W q (LL.getD j [])):=fun W hW=>by
       rcases (HTG6.out W hW).2.2 with h0 | ⟨b,o,hbo,_,hcc⟩
       ·exfalso;have:=HLL.out;rw [h0] at this;simp at this;omega
       ·obtain ⟨q,c,e1,e2,_⟩:=hcc j (by rw [HLL.out];exact hji)
        exact ⟨b,o,q,c,hbo,e1,e2⟩
      have HCELLS:Hid (∀ W,Below w7.heap.size w7 W->(W.cell? ⟨w4.heap.size,0,none⟩=some (.int .i64 t1)/\W.cell? ⟨w4.heap.size,1,none⟩=some (.int .i64 t2)/\W.cell? ⟨bs,os+j*2,none⟩=some (.int .i64 (j:Int))/\W.cell? ⟨bs,os+j*2+1,none⟩=some (.string (encT k tx j))/\Below w7.heap.size w7 W)):=fun W hW=>by
       have hW6:=HB.out.trans (hW.mono HB.out.size)
       obtain ⟨e1,e2,_⟩:=HTG6.out W hW6
       obtain ⟨e3,e4⟩:=hshc W hW6
       exact ⟨e1,e2,e3,e4,hW⟩
      have hj12:j<=12:=by omega
      clear hshc HSH HWLA HWLT HWLN HV
      generalize encT k tx j=et at *
      generalize WL.take j=wl at *
      generalize missN WL LL j=ml at *
      generalize LL.getD j []=row at *
      go_wp2
      go_cut [18] from 57 to 98 (fun v W=>v=.pointer (some ⟨w7.heap.size,0,none⟩)/\W=(w7.alloc (.cells #[.int .i64 t1,.int .i64 t2,.int .i64 (tx.size:Int),.int .i64 (j:Int),.string et] 47)).drew)
      case first =>
       go_region_held3 (fun W=>(W.cell? ⟨w4.heap.size,0,none⟩=some (.int .i64 t1)/\W.cell? ⟨w4.heap.size,1,none⟩=some (.int .i64 t2)/\W.cell? ⟨bs,os+j*2,none⟩=some (.int .i64 (j:Int))/\W.cell? ⟨bs,os+j*2+1,none⟩=some (.string et)/\Below w7.heap.size w7 W)) (first | assumption | exact HCELLS.out _ (Below.refl _ _).drew | exact HCELLS.out _ ((Below.refl _ _).alloc (Nat.le_refl _) _).drew) (fail)
       all_goals (go_wp2_with fail;go_meet)
       all_goals exact ⟨rfl,rfl⟩
      case rest =>
       obtain ⟨rfl,hwc⟩:=hcut
       obtain ⟨w8,rfl⟩:∃ w8,w8=wc:=⟨_,rfl⟩
       have hb8:Below w7.heap.size w7 w8:=by rw [hwc];exact ((Below.refl _ _).alloc (Nat.le_refl _) _).drew
       have hx:∀ q u,[Value.int .i64 t1,.int .i64 t2,.int .i64 (tx.size:Int),.int .i64 (j:Int),.string et][q]?=some u->w8.cell? ⟨w7.heap.size,q,none⟩=some u:=fun q u hq=>by
        rw [hwc]
        show (w7.alloc _).cell? _=_
        rw [World.cell?_alloc_at _ _ _ _ rfl]
        match q,hq with
        | 0,hq=>exact hq
        | 1,hq=>exact hq
        | 2,hq=>exact hq
        | 3,hq=>exact hq
        | 4,hq=>exact hq
       have hbs:w7.heap.size < w8.heap.size:=by rw [hwc];show _ < (w7.alloc _).heap.size;simp
       have hbk:(some w7.heap.size:Option Nat)≠(Value.slice q1 n1 c1).ownBlock:=fun e=>by have:=(HT.out.r1.block e.symm).2;omega
       have hbA:Below w8.heap.size w8 (w8.alloc (.cells #[.int .i64 t1,.int .i64 t2,.int .i64 (tx.size:Int),.int .i64 (j:Int),.string et] 47)):=(Below.refl _ _).alloc (Nat.le_refl _) _
       obtain ⟨v',w9,a1,⟨qa,na,ca,rfl⟩,hT9,hB9,hG9⟩:=((HT.out.below hb8).below hbA).push 62 (.agg #[.int .i64 0,.int .i64 0,.int .i64 0,.int .i64 0,.string ⟨#[]⟩]) 48 Tryz.underlying62 verinfo rfl (b:=w8.heap.size) (y:=(⟨t1,t2,(tx.size:Int),(j:Int),et⟩:Ver)) (by simp) (fun q u hq=>by
        rw [World.cell?_alloc_at _ _ _ _ rfl]
        match q,hq with
        | 0,hq=>exact hq
        | 1,hq=>exact hq
        | 2,hq=>exact hq
        | 3,hq=>exact hq
        | 4,hq=>exact hq) (by unfold maxLen;omega) (by omega)
       have HA1:Hid (∀ ty,(Builtin.append_ #[62,62] ty #[.slice q1 n1 c1,.slice (some ⟨w8.heap.size,0,none⟩) 1 1]).run Tryz.prog (w8.alloc (.cells #[.int .i64 t1,.int .i64 t2,.int .i64 (tx.size:Int),.int .i64 (j:Int),.string et] 47))=.ok (.slice qa na ca) w9):=a1
       have hx9:∀ q u,[Value.int .i64 t1,.int .i64 t2,.int .i64 (tx.size:Int),.int .i64 (j:Int),.string et][q]?=some u->w9.cell? ⟨w7.heap.size,q,none⟩=some u:=fun q u hq=>by
        rw [<- hx q u hq]
        have h1:=hG9.block w7.heap.size (by simp;omega) hbk
        have h2:=hbA.block w7.heap.size hbs
        exact World.cell?_of_block (a:=⟨w7.heap.size,q,none⟩) (h1.trans h2)
       have HX9:Hid (∀ q u,[Value.int .i64 t1,.int .i64 t2,.int .i64 (tx.size:Int),.int .i64 (j:Int),.string et][q]?=some u->w9.cell? ⟨w7.heap.size,q,none⟩=some u):=hx9
       have HT9:Hid (TwoRows verE natE 47 3 w9 w6.heap.size (.slice qa na ca) (.slice q2 n2 c2) (wl ++ [⟨t1,t2,(tx.size:Int),(j:Int),et⟩]) ml):=hT9
       have HB9:Hid (Below w6.heap.size w6 w9):=HB.out.trans ((hb8.mono HB.out.size).trans ((hbA.mono (Nat.le_trans HB.out.size hb8.size)).trans hB9))
       have y0:=hx 0 _ rfl
       have y1:=hx 1 _ rfl
       have y2:=hx 2 _ rfl
       have y3:=hx 3 _ rfl
       have y4:=hx 4 _ rfl
       clear hwc hb8 hx hbs hbk hbA a1 hT9 hB9 hG9 hx9 HT HCELLS
       go_wp2_with (at_builtin;refine wpList_append_run rfl (.tmp 71) (.tmp 73) 62 rfl rfl rfl HA1.out ?_;clear y0 y1 y2 y3 y4 HA1)
       obtain ⟨rb,ro,rq,rc,rfl,hrw,hrr⟩:=HROW.out w9 HB9.out
       have HRR:Hid (∀ n,Rec verE (w9.drewN n) rq row):=fun n=>hrr.drewN n
       have HRW:Hid (∀ n,(w9.drewN n).cell? ⟨rb,ro+j,none⟩=some (.slice rq row.length rc)):=fun n=>hrw
       have HIN:Hid (∀ q,q < row.length->decide ((⟨t1,t2,(tx.size:Int),(j:Int),et⟩:Ver) ∈ row.take (q+1))=(decide ((⟨t1,t2,(tx.size:Int),(j:Int),et⟩:Ver) ∈ row.take q) || decide (verAt row q=⟨t1,t2,(tx.size:Int),(j:Int),et⟩))):=fun q hq=>inTake_succ hq
       have HINE:Hid (row.take row.length=row):=by show _=_;exact List.take_length
       clear hrr
       go_loopw [19,20] (fun b x wr=>∃ q:Nat,q<=row.length/\x=.int .i64 q/\b=.bool (decide ((⟨t1,t2,(tx.size:Int),(j:Int),et⟩:Ver) ∈ row.take q))/\∃ n,wr=w9.drewN n) (fun _ x _=>row.length - (intOf x).toNat)
       case atStart=>exact ⟨0,Nat.zero_le _,rfl,by simp,0,rfl⟩
       case round =>
        obtain ⟨q,hq,rfl,rfl,nn,hwr⟩:=hrel
        obtain ⟨w10,rfl⟩:∃ w10,w10=wr:=⟨_,rfl⟩
        have HW10:Hid (∃ n,w10=w9.drewN n):=⟨nn,hwr⟩
        have z0:w10.cell? ⟨w7.heap.size,0,none⟩=some (.int .i64 t1):=by rw [hwr];exact HX9.out 0 _ rfl
        have z1:w10.cell? ⟨w7.heap.size,1,none⟩=some (.int .i64 t2):=by rw [hwr];exact HX9.out 1 _ rfl
        have z2:w10.cell? ⟨w7.heap.size,2,none⟩=some (.int .i64 (tx.size:Int)):=by rw [hwr];exact HX9.out 2 _ rfl
        have z3:w10.cell? ⟨w7.heap.size,3,none⟩=some (.int .i64 (j:Int)):=by rw [hwr];exact HX9.out 3 _ rfl
        have z4:w10.cell? ⟨w7.heap.size,4,none⟩=some (.string et):=by rw [hwr];exact HX9.out 4 _ rfl
        have zr:w10.cell? ⟨rb,ro+j,none⟩=some (.slice rq row.length rc):=by rw [hwr];exact HRW.out nn
        have HR10:Hid (Rec verE w10 rq row):=by rw [hwr];exact HRR.out nn
        have HT10:Hid (TwoRows verE natE 47 3 w10 w6.heap.size (.slice qa na ca) (.slice q2 n2 c2) (wl ++ [⟨t1,t2,(tx.size:Int),(j:Int),et⟩]) ml):=by rw [hwr];exact HT9.out.below (below_drewN (Below.refl _ _) nn)
        have HB10:Hid (Below w6.heap.size w6 w10):=by rw [hwr];exact below_drewN HB9.out nn
        clear hwr
        by_cases hql:q < row.length
        ·have HIN1:=HIN.out q hql
         have HIN2:Hid (decide ((⟨t1,t2,(tx.size:Int),(j:Int),et⟩:Ver) ∈ row.take (q+1))=(decide ((⟨t1,t2,(tx.size:Int),(j:Int),et⟩:Ver) ∈ row.take q) || decide (verAt row q=⟨t1,t2,(tx.size:Int),(j:Int),et⟩))):=HIN1
         clear HIN1 HIN HINE HX9 HRR HRW HT9 HB9 HYES HNO
         obtain ⟨b2,o2,rfl,_,a0,a1,a2,a3,a4⟩:=ver_cells HR10.out hql
         generalize decide ((⟨t1,t2,(tx.size:Int),(j:Int),et⟩:Ver) ∈ row.take q)=bb at *
         by_cases he:verAt row q=⟨t1,t2,(tx.size:Int),(j:Int),et⟩
         ·have HI3:Hid (decide ((⟨t1,t2,(tx.size:Int),(j:Int),et⟩:Ver) ∈ row.take (q+1))=true):=by show _=_;rw [HIN2.out,decide_eq_true he,Bool.or_true]
          rw [he] at a0 a1 a2 a3 a4
          dsimp only at a0 a1 a2 a3 a4
          clear he HIN2 HR10 HT10 HB10
          go_wp2
          go_quiet (fail)
          go_wp2
          go_roundw
          case rel=>exact ⟨q+1,by omega,by go_num,by rw [HI3.out],by obtain ⟨n,hn⟩:=HW10.out;exact ⟨_,by rw [hn,World.drewN_drewN]⟩⟩
          case measure=>simp [intOf];omega
         ·have HI3:Hid (decide ((⟨t1,t2,(tx.size:Int),(j:Int),et⟩:Ver) ∈ row.take (q+1))=bb):=by show _=_;rw [HIN2.out,decide_eq_false he,Bool.or_false]
          have walk:=ver_parts he
          clear he HIN2 HR10 HT10 HB10
          dsimp only at walk
          generalize verAt row q=y at *
          obtain ⟨yn,yw,ys,ya,yt⟩:=y
          dsimp only at walk a0 a1 a2 a3 a4
          rcases walk with g | ⟨e1,g | ⟨e2,g | ⟨e3,g | ⟨e4,g⟩⟩⟩⟩
          rotate_right
          ·have e1':=e1.symm
           have e2':=e2.symm
           have e3':=e3.symm
           have e4':=e4.symm
           subst e1' e2' e3' e4'
           have d1:=toList_ne g
           have d2:=toList_beq g
           have d3:=bytes_beq g
           clear g e1 e2 e3 e4
           go_wp2
           go_quiet (fail)
           go_wp2
           go_roundw
           case rel=>exact ⟨q+1,by omega,by go_num,by rw [HI3.out],by obtain ⟨n,hn⟩:=HW10.out;exact ⟨_,by rw [hn,World.drewN_drewN]⟩⟩
           case measure=>simp [intOf];omega
          ·go_wp2
           go_quiet (fail)
           go_wp2
           go_roundw
           case rel=>exact ⟨q+1,by omega,by go_num,by rw [HI3.out],by obtain ⟨n,hn⟩:=HW10.out;exact ⟨_,by rw [hn,World.drewN_drewN]⟩⟩
           case measure=>simp [intOf];omega
          ·have e1':=e1.symm
           subst e1'
           clear e1
           go_wp2
           go_quiet (fail)
           go_wp2
           go_roundw
           case rel=>exact ⟨q+1,by omega,by go_num,by rw [HI3.out],by obtain ⟨n,hn⟩:=HW10.out;exact ⟨_,by rw [hn,World.drewN_drewN]⟩⟩
           case measure=>simp [intOf];omega
          ·have e1':=e1.symm
           have e2':=e2.symm
           subst e1' e2'
           clear e1 e2
           go_wp2
           go_quiet (fail)
           go_wp2
           go_roundw
           case rel=>exact ⟨q+1,by omega,by go_num,by rw [HI3.out],by obtain ⟨n,hn⟩:=HW10.out;exact ⟨_,by rw [hn,World.drewN_drewN]⟩⟩
           case measure=>simp [intOf];omega
          ·have e1':=e1.symm
           have e2':=e2.symm
           have e3':=e3.symm
           subst e1' e2' e3'
           clear e1 e2 e3
           go_wp2
           go_quiet (fail)
           go_wp2
           go_roundw
           case rel=>exact ⟨q+1,by omega,by go_num,by rw [HI3.out],by obtain ⟨n,hn⟩:=HW10.out;exact ⟨_,by rw [hn,World.drewN_drewN]⟩⟩
           case measure=>simp [intOf];omega
        ·have hqe:q=row.length:=by omega
         subst hqe
         rw [HINE.out]
         clear HINE HIN HX9 HRR HRW HT9 HB9 z0 z1 z2 z3 z4 HR10
         generalize decide ((⟨t1,t2,(tx.size:Int),(j:Int),et⟩:Ver) ∈ row)=bb at *
         cases bb with
         | true =>
          have HN:=HYES.out rfl
          clear HYES HNO
          go_wp2
          go_roundw
          case rel=>exact ⟨j+1,by omega,by go_num,⟨qa,na,ca,q2,n2,c2,rfl,rfl,by rw [HNX.out,HN];exact HT10.out⟩,HB10.out⟩
          case measure=>simp [intOf];omega
         | false =>
          have HN:=HNO.out rfl
          have HN':Hid (missN WL LL (j+1)=ml ++ [j]):=HN
          obtain ⟨v',w11,a1,⟨qb,nb,cb,rfl⟩,hT11,hB11,_⟩:=((HT10.out.swap).below ((Below.refl _ w10).alloc (Nat.le_refl _) (.cells #[.int .i64 (j:Int)] 3))).push 25 (.int .i64 0) 8 Tryz.underlying25 intinfoR rfl (b:=w10.heap.size) (y:=j) (by simp) (fun q u hq=>by
           rw [World.cell?_alloc_at _ _ _ _ rfl]
           match q,hq with
           | 0,hq=>exact hq) (by unfold maxLen;omega) (by omega)
          have HA1:Hid (∀ ty,(Builtin.append_ #[25,25] ty #[.slice q2 n2 c2,.slice (some ⟨w10.heap.size,0,none⟩) 1 1]).run Tryz.prog (w10.alloc (.cells #[.int .i64 (j:Int)] 3))=.ok (.slice qb nb cb) w11):=a1
          have HT11:Hid (TwoRows verE natE 47 3 w11 w6.heap.size (.slice qa na ca) (.slice qb nb cb) (wl ++ [⟨t1,t2,(tx.size:Int),(j:Int),et⟩]) (ml ++ [j])):=hT11.swap
          have HB11:Hid (Below w6.heap.size w6 w11):=(HB10.out.alloc HB10.out.size _).trans hB11
          clear HYES HNO HN a1 hT11 hB11
          go_wp2_with (at_builtin;refine wpList_append_run rfl (.tmp 95) (.tmp 97) 25 rfl rfl rfl HA1.out ?_)
          go_roundw
          case rel=>exact ⟨j+1,by omega,by go_num,⟨qa,na,ca,qb,nb,cb,rfl,rfl,by rw [HNX.out,HN'.out];exact HT11.out⟩,HB11.out⟩
          case measure=>simp [intOf];omega
     ·have hje:j=i:=by omega
      subst hje
      have hT:=HT.out
      rw [HWLE.out,<- HMN.out] at hT
      obtain ⟨f1,f2,hf1,g1,_,_,g2⟩:=hT.r1.form
      obtain ⟨f3,f4,hf3,g3,_,_,g4⟩:=hT.r2.form
      have HBW7:Hid (Below w.heap.size w w7):=HBW6.out.trans (HB.out.mono HBW6.out.size)
      have HG1:Hid (Rec verE w7 f1 WL/\∀ b o,f1=some ⟨b,o,none⟩->w.heap.size<=b):=⟨g1,fun b o e=>by have:=(g2 b o e).1;have:=HBW6.out.size;omega⟩
      have HG3:Hid (Rec natE w7 f3 M/\∀ b o,f3=some ⟨b,o,none⟩->w.heap.size<=b):=⟨g3,fun b o e=>by have:=(g4 b o e).1;have:=HBW6.out.size;omega⟩
      obtain ⟨rfl,rfl,rfl⟩:=Value.slice.inj hf1
      obtain ⟨rfl,rfl,rfl⟩:=Value.slice.inj hf3
      clear hT g1 g2 g3 g4 HT HB hf1 hf3
      go_wp2
      go_ret2
      exact ⟨⟨_,_,_,_,rfl,HG1.out.1,HG3.out.1,HG1.out.2,HG3.out.2⟩,HBW7.out⟩
end Go.Proofs.YtghpdhegfnhmkaaGreatDoor
