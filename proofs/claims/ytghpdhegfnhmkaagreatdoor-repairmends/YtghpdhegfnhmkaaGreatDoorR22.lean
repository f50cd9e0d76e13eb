import Derived.Test.YtghpdhegfnhmkaaGreatDoorR12
import Derived.Test.YtghpdhegfnhmkaaGreatDoorR7
import Derived.Deep.CutRange
import Derived.BigQuiet
import Derived.Shelf.SlSortCmp.QuietGrown
namespace Go.Proofs.YtghpdhegfnhmkaaGreatDoor
open Go.RowKit Go.Sort
set_option maxRecDepth 10000 in
set_option maxHeartbeats 8000000 in
theorem rput_in (h:Nat) (L:List Kep) (s:Bool) (key:ByteArray) (v:Ver) (w:World) (hl:L.length<=900000) (htx:v.text.size<=maxLen) (hm:MHold w h L s) (h0:putErr L s key v=0) :
 Calls Tryz.prog 22 #[.pointer (some ⟨h,0,none⟩),.string key,.agg #[.int .i64 v.n,.int .i64 v.who,.int .i64 v.size,.int .i64 v.at_,.string v.text]] w fun e w'=>e=.returned (.int .i64 0)/\MHold w' h (putL L key v) s/\Turn h w w':=by
 have HM:Hid (MHold w h L s):=hm
 obtain ⟨p,c,q0,hrec,hc,hn,hne⟩:=hm.row
 have hlt:=lt_of_cellH q0
 have HREC:Hid (Rec kepE w p L):=hrec
 have HN:Hid (p=none->L=[]/\c=0):=hn
 obtain ⟨w0,hw0⟩:∃ w0,w0=w.alloc (.cells #[.int .i64 v.n,.int .i64 v.who,.int .i64 v.size,.int .i64 v.at_,.string v.text] 47):=⟨_,rfl⟩
 have hb0:RowKit.Below w.heap.size w w0:=by rw [hw0];exact (RowKit.Below.refl _ _).alloc (Nat.le_refl _) _
 have b0:w0.cell? ⟨w.heap.size,0,none⟩=some (.int .i64 v.n):=by rw [hw0,World.cell?_alloc_at _ _ _ _ rfl];rfl
 have b1:w0.cell? ⟨w.heap.size,1,none⟩=some (.int .i64 v.who):=by rw [hw0,World.cell?_alloc_at _ _ _ _ rfl];rfl
 have b2:w0.cell? ⟨w.heap.size,2,none⟩=some (.int .i64 v.size):=by rw [hw0,World.cell?_alloc_at _ _ _ _ rfl];rfl
 have b3:w0.cell? ⟨w.heap.size,3,none⟩=some (.int .i64 v.at_):=by rw [hw0,World.cell?_alloc_at _ _ _ _ rfl];rfl
 have b4:w0.cell? ⟨w.heap.size,4,none⟩=some (.string v.text):=by rw [hw0,World.cell?_alloc_at _ _ _ _ rfl];rfl
 have HPE:=putErr_any h L s key v w0 (by omega) htx (hm.below hb0)
 rw [h0] at HPE
 have HALL:Hid (∀ W,RowKit.Below w0.heap.size w0 W->(W.cell? ⟨h,0,none⟩=some (.slice p L.length c)/\W.cell? ⟨w.heap.size,0,none⟩=some (.int .i64 v.n)/\W.cell? ⟨w.heap.size,1,none⟩=some (.int .i64 v.who)/\W.cell? ⟨w.heap.size,2,none⟩=some (.int .i64 v.size)/\W.cell? ⟨w.heap.size,3,none⟩=some (.int .i64 v.at_)/\W.cell? ⟨w.heap.size,4,none⟩=some (.string v.text))/\Rec kepE W p L/\RowKit.Below w.heap.size w W):=fun W hW=>by
  have hx:w.heap.size < w0.heap.size:=lt_of_cellH b0
  have hy:h < w0.heap.size:=Nat.lt_of_lt_of_le hlt hb0.size
  exact ⟨⟨(hW.cell (p:=⟨h,0,none⟩) hy).trans ((hb0.cell (p:=⟨h,0,none⟩) hlt).trans q0),(hW.cell (p:=⟨w.heap.size,0,none⟩) hx).trans b0,(hW.cell (p:=⟨w.heap.size,1,none⟩) hx).trans b1,(hW.cell (p:=⟨w.heap.size,2,none⟩) hx).trans b2,(hW.cell (p:=⟨w.heap.size,3,none⟩) hx).trans b3,(hW.cell (p:=⟨w.heap.size,4,none⟩) hx).trans b4⟩,(HREC.out.below hb0).below hW,hb0.trans (hW.mono hb0.size)⟩
 have HW0:Hid (w0=w.alloc (.cells #[.int .i64 v.n,.int .i64 v.who,.int .i64 v.size,.int .i64 v.at_,.string v.text] 47)):=hw0
 obtain ⟨K,hK⟩:∃ K,K=placeN L key v:=⟨_,rfl⟩
 have HKL:Hid (K<=L.length):=by show _<=_;rw [hK];exact placeN_le L key v
 have HPL:Hid (L.take K ++ [(key,v)] ++ L.drop K=putL L key v):=by show _=_;rw [hK];rfl
 have HBEF:Hid (∀ x:Kep,beforeB x key v=(Op.bytesLess x.1.toList key.toList || (decide (x.1=key) && lessB (x.2.n,x.2.who) (v.n,v.who)))):=fun _=>rfl
 have HLO:Hid (∀ j,j < K->beforeB (kepAt L j) key v=true):=fun j hj=>placeN_before (by rw [<- hK];exact hj)
 have HHI:Hid (K < L.length->beforeB (kepAt L K) key v=false):=fun hj=>by rw [hK] at hj ⊢;exact placeN_here hj
 generalize putL L key v=PL at *
 clear hrec hm q0 hne hn b0 b1 b2 b3 b4 hw0 hb0 h0 hK
 go_enter Tryz.func22,Tryz.ntmps22
 obtain ⟨⟨k0,k1,k2,k3,k4,k5⟩,_,_⟩:=HALL.out w0 (RowKit.Below.refl _ _)
 go_wp2_with (rw [<- HW0.out])
 refine HPE.mono ?_
 rintro e w1 ⟨rfl,hb1⟩
 have HB1:Hid (RowKit.Below w0.heap.size w0 w1):=hb1
 clear HPE hb1 k0 k1 k2 k3 k4 k5
 go_wp2
 go_loopw [8] (fun x wq=>∃ k:Nat,k<=K/\x=.int .i64 k/\RowKit.Below w0.heap.size w0 wq) (fun x _=>K - (intOf x).toNat)
 case atStart=>exact ⟨0,Nat.zero_le _,rfl,HB1.out⟩
 case round =>
  obtain ⟨k,hk,rfl,hb2⟩:=hrel
  obtain ⟨w2,rfl⟩:∃ w2,w2=wr:=⟨_,rfl⟩
  have HB2:Hid (RowKit.Below w0.heap.size w0 w2):=hb2
  obtain ⟨⟨k0,k1,k2,k3,k4,k5⟩,hrc,hbw⟩:=HALL.out w2 hb2
  have HRC:Hid (Rec kepE w2 p L):=hrc
  have hkL:=HKL.out
  clear hb2 hrc hbw
  go_upto_region 7 with fail
  go_cut [63] from 19 to 65 (fun b wc=>b=.bool (decide (k < K))/\RowKit.Below w0.heap.size w0 wc)
  case first =>
   by_cases hkl:k < L.length
   ·obtain ⟨b,o,hpp,hblt,c0,c1,c2,c3,c4,c5⟩:=kep_cells HRC.out hkl
    have HC:Hid (decide (k < K)=beforeB (kepAt L k) key v):=by
     show _=_
     by_cases hkK:k < K
     ·rw [HLO.out k hkK,decide_eq_true hkK]
     ·obtain rfl:k=K:=by omega
      rw [HHI.out hkl,decide_eq_false hkK]
    have hbf:=HBEF.out (kepAt L k)
    rw [hbf] at HC
    subst hpp
    clear hbf
    generalize kepAt L k=y at *
    obtain ⟨yk,y⟩:=y
    cases hbl:Op.bytesLess yk.toList key.toList with
    | true =>
     have HC':Hid (decide (k < K)=true):=by show _=_;rw [HC.out,hbl];rfl
     clear HC
     go_wp2
     go_quiet (fail)
     go_wp2
     go_meet
     exact ⟨by rw [HC'.out],below_drewN HB2.out _⟩
    | false =>
     by_cases hye:yk=key
     ·subst hye
      have HC':Hid (decide (k < K)=lessB (y.n,y.who) (v.n,v.who)):=by show _=_;rw [HC.out,hbl];simp
      have HLS:Hid (∀ W,Calls Tryz.prog 44 #[.agg #[.int .i64 y.n,.int .i64 y.who],.agg #[.int .i64 v.n,.int .i64 v.who]] W fun e w'=>e=.returned (.bool (lessB (y.n,y.who) (v.n,v.who)))/\∃ q os,w'=grow (W.drewN q) os):=fun W=>rless_grow (y.n,y.who) (v.n,v.who) W
      have mixed:Tryz.prog.follows .mixedOrders=true:=by kernel_rfl
      have j0:=cell_grown (lt_of_cellH k0) k0
      have j1:=cell_grown (lt_of_cellH k1) k1
      have j2:=cell_grown (lt_of_cellH k2) k2
      have i0:=cell_grown (lt_of_cellH c0) c0
      have i1:=cell_grown (lt_of_cellH c1) c1
      have i2:=cell_grown (lt_of_cellH c2) c2
      generalize lessB (y.n,y.who) (v.n,v.who)=r at *
      clear HC
      go_wp2
      go_quiet_grown ((go_at_call 44;exact Calls.grown_of (HLS.out _)))
      go_wp2
      go_meet
      exact ⟨by rw [HC'.out],HB2.out.trans ((below_grow w2 _ _).mono HB2.out.size)⟩
     ·have HC':Hid (decide (k < K)=false):=by show _=_;rw [HC.out,hbl];simp [hye]
      have d1:=toList_ne hye
      have d2:=toList_beq hye
      have d3:=bytes_beq hye
      clear HC hye
      go_wp2
      go_quiet (fail)
      go_wp2
      go_meet
      exact ⟨by rw [HC'.out],below_drewN HB2.out _⟩
   ·have HC':Hid (decide (k < K)=false):=by show _=_;exact decide_eq_false (by omega)
    go_wp2
    go_quiet (fail)
    go_wp2
    go_meet
    exact ⟨by rw [HC'.out],below_drewN HB2.out _⟩
  case rest =>
   obtain ⟨rfl,hbc⟩:=hcut
   have HBC:Hid (RowKit.Below w0.heap.size w0 wc):=hbc
   obtain ⟨⟨x0,x1,x2,x3,x4,x5⟩,hrx,hbx⟩:=HALL.out wc hbc
   have HRX:Hid (Rec kepE wc p L):=hrx
   have HBX:Hid (RowKit.Below w.heap.size w wc):=hbx
   clear hbc hrx hbx k0 k1 k2 k3 k4 k5 HRC
   by_cases hkK:k < K
   ·rw [decide_eq_true hkK]
    clear x0 x1 x2 x3 x4 x5
    go_wp2
    go_roundw
    case rel=>exact ⟨k+1,by omega,by go_num,HBC.out⟩
    case measure=>simp [intOf];omega
   ·rw [decide_eq_false hkK]
    have hke:k=K:=by omega
    subst hke
    have HTL:Hid ((L.take k).length=k):=by show _=_;rw [List.length_take];omega
    have HDL:Hid ((L.drop k).length=L.length - k):=List.length_drop
    have HTK:Hid (p=none->L.take k=[]/\c=0):=fun e=>⟨by rw [(HN.out e).1,List.take_nil],(HN.out e).2⟩
    have HTR:Hid (Rec kepE wc p (L.take k)):=HRX.out.take k
    have HDR:Hid (Rec kepE wc (if c=k then p else p.map (·.add (k*6))) (L.drop k)/\((if c=k then p else p.map (·.add (k*6)))=none->L.drop k=[]/\c - k=0)):=HRX.out.drop (c:=c) hkL hc HN.out
    have hlt1:(L.take k).length<=900000:=by rw [List.length_take];omega
    have hld1:(L.drop k).length<=900000:=by rw [List.length_drop];omega
    clear hkK HRX HLO HHI HBEF
    have HQQ:Hid (∀ W,RowKit.Below wc.heap.size wc W->W.cell? ⟨h,0,none⟩=some (.slice p L.length c)/\W.cell? ⟨w.heap.size,0,none⟩=some (.int .i64 v.n)/\W.cell? ⟨w.heap.size,1,none⟩=some (.int .i64 v.who)/\W.cell? ⟨w.heap.size,2,none⟩=some (.int .i64 v.size)/\W.cell? ⟨w.heap.size,3,none⟩=some (.int .i64 v.at_)/\W.cell? ⟨w.heap.size,4,none⟩=some (.string v.text)):=fun W hW=>(HALL.out W (HBC.out.trans (hW.mono HBC.out.size))).1
    have HDR1:Hid (∀ W,RowKit.Below wc.heap.size wc W->Rec kepE W (if c=k then p else p.map (·.add (k*6))) (L.drop k)):=fun W hW=>HDR.out.1.below hW
    have HKN:Hid (∀ z1:World,∀ j u,(kepE.enc (key,v))[j]?=some u->(z1.alloc (.cells #[.string key,.int .i64 v.n,.int .i64 v.who,.int .i64 v.size,.int .i64 v.at_,.string v.text] 100)).cell? ⟨z1.heap.size,0+j,none⟩=some u):=fun z1=>kep_new key v z1
    go_wp2_with (first | (at_builtin;refine wpList_append_recs (E:=kepE) rfl (.tmp 66) (.tmp 72) 93 100 rfl (.agg #[.string ⟨#[]⟩,.int .i64 0,.int .i64 0,.int .i64 0,.int .i64 0,.string ⟨#[]⟩]) 64 Tryz.underlying93 kepinfo rfl wc.heap.size (.slice none 0 0) [] rfl (OwnR.nil _ _ _) p (L.take k) c (by rw [HTL.out];rfl) HTR.out HTK.out (by show 0+(L.take k).length<=maxLen;unfold maxLen;omega) (by show (0+(L.take k).length)*64<=_;omega) (Nat.le_refl _) ?_;intro y1 z1 hy1 hd1;rw [List.nil_append] at hy1;obtain ⟨n0,n1,n2,n3,n4,n5⟩:=HQQ.out z1 hd1;have HZ1:Hid (RowKit.Below wc.heap.size wc z1):=hd1;have HY1:Hid (OwnR kepE 100 (z1.alloc (.cells #[.string key,.int .i64 v.n,.int .i64 v.who,.int .i64 v.size,.int .i64 v.at_,.string v.text] 100)) wc.heap.size y1 (L.take k)):=hy1.kept ((RowKit.Below.refl _ _).alloc (Nat.le_refl _) _);have HZA:Hid (RowKit.Below wc.heap.size wc (z1.alloc (.cells #[.string key,.int .i64 v.n,.int .i64 v.who,.int .i64 v.size,.int .i64 v.at_,.string v.text] 100))):=hd1.alloc hd1.size _;clear hy1 hd1 x0 x1 x2 x3 x4 x5) | (at_builtin;refine wpList_append_rec (E:=kepE) rfl (.tmp 74) (.tmp 78) 93 100 rfl (.agg #[.string ⟨#[]⟩,.int .i64 0,.int .i64 0,.int .i64 0,.int .i64 0,.string ⟨#[]⟩]) 64 Tryz.underlying93 kepinfo rfl wc.heap.size y1 (L.take k) rfl HY1.out z1.heap.size 0 1 (key,v) rfl (HKN.out z1) (by unfold maxLen;omega) (by omega) HZA.out.size (by simp) ?_;intro y2 z2 hy2 hd2;have HZ2:Hid (RowKit.Below wc.heap.size wc z2):=HZA.out.trans hd2;obtain ⟨m0,m1,m2,m3,m4,m5⟩:=HQQ.out z2 HZ2.out;have HY2:Hid (OwnR kepE 100 z2 wc.heap.size y2 (L.take k ++ [(key,v)])):=hy2;clear hy2 hd2 n0 n1 n2 n3 n4 n5) | (at_builtin;refine wpList_append_recs (E:=kepE) rfl (.tmp 81) (.tmp 87) 93 100 rfl (.agg #[.string ⟨#[]⟩,.int .i64 0,.int .i64 0,.int .i64 0,.int .i64 0,.string ⟨#[]⟩]) 64 Tryz.underlying93 kepinfo rfl wc.heap.size y2 (L.take k ++ [(key,v)]) rfl HY2.out (if c=k then p else p.map (·.add (k*6))) (L.drop k) (c - k) (by rw [HDL.out];rfl) (HDR1.out z2 HZ2.out) HDR.out.2 (by rw [List.length_append];show (L.take k).length+1+(L.drop k).length<=maxLen;unfold maxLen;omega) (by rw [List.length_append];show ((L.take k).length+1+(L.drop k).length)*64<=_;omega) HZ2.out.size ?_;intro y3 z3 hy3 hd3;obtain ⟨l0,l1,l2,l3,l4,l5⟩:=HQQ.out z3 (HZ2.out.trans hd3);have hb3:RowKit.Below w.heap.size w z3:=HBX.out.trans ((HZ2.out.trans hd3).mono HBX.out.size);have hfr:z3.frozen? ⟨h,0,none⟩=false:=(HM.out.below hb3).free0;have HST:Hid (MHold (z3.setCell ⟨h,0,none⟩ y3) h PL s/\Turn h w (z3.setCell ⟨h,0,none⟩ y3)):=HM.out.store hb3 (by have h9:=hy3.base HBX.out.size;rw [HPL.out] at h9;exact h9);obtain ⟨p3,c3,hy3v,_⟩:=hy3.form;obtain ⟨m3,hm3⟩:∃ m3,m3=(L.take k ++ [(key,v)] ++ L.drop k).length:=⟨_,rfl⟩;rw [<- hm3] at hy3v;subst hy3v;clear hm3 hy3 hd3 hb3))
    all_goals (go_ret;exact ⟨rfl,HST.out⟩)
set_option maxRecDepth 10000 in
set_option maxHeartbeats 2000000 in
theorem rput_not (h:Nat) (L:List Kep) (s:Bool) (key:ByteArray) (v:Ver) (w:World) (hl:L.length<=900000) (htx:v.text.size<=maxLen) (hm:MHold w h L s) (h0:putErr L s key v≠0) :
 Calls Tryz.prog 22 #[.pointer (some ⟨h,0,none⟩),.string key,.agg #[.int .i64 v.n,.int .i64 v.who,.int .i64 v.size,.int .i64 v.at_,.string v.text]] w fun e w'=>e=.returned (.int .i64 (putR L s key v).1)/\RowKit.Below w.heap.size w w':=by
 obtain ⟨w0,hw0⟩:∃ w0,w0=w.alloc (.cells #[.int .i64 v.n,.int .i64 v.who,.int .i64 v.size,.int .i64 v.at_,.string v.text] 47):=⟨_,rfl⟩
 have hb0:RowKit.Below w.heap.size w w0:=by rw [hw0];exact (RowKit.Below.refl _ _).alloc (Nat.le_refl _) _
 have b0:w0.cell? ⟨w.heap.size,0,none⟩=some (.int .i64 v.n):=by rw [hw0,World.cell?_alloc_at _ _ _ _ rfl];rfl
 have b1:w0.cell? ⟨w.heap.size,1,none⟩=some (.int .i64 v.who):=by rw [hw0,World.cell?_alloc_at _ _ _ _ rfl];rfl
 have b2:w0.cell? ⟨w.heap.size,2,none⟩=some (.int .i64 v.size):=by rw [hw0,World.cell?_alloc_at _ _ _ _ rfl];rfl
 have b3:w0.cell? ⟨w.heap.size,3,none⟩=some (.int .i64 v.at_):=by rw [hw0,World.cell?_alloc_at _ _ _ _ rfl];rfl
 have b4:w0.cell? ⟨w.heap.size,4,none⟩=some (.string v.text):=by rw [hw0,World.cell?_alloc_at _ _ _ _ rfl];rfl
 have HPE:=putErr_any h L s key v w0 (by omega) htx (hm.below hb0)
 have HW0:Hid (w0=w.alloc (.cells #[.int .i64 v.n,.int .i64 v.who,.int .i64 v.size,.int .i64 v.at_,.string v.text] 47)):=hw0
 have HB0:Hid (RowKit.Below w.heap.size w w0):=hb0
 by_cases hneg:putErr L s key v < 0
 ·have HR:Hid ((putR L s key v).1=0):=by show _=_;unfold putR;rw [if_neg h0,if_pos hneg]
  rw [HR.out]
  generalize putErr L s key v=e0 at *
  have d1:decide (e0 < 0)=true:=decide_eq_true hneg
  clear hm hw0 hb0
  go_enter Tryz.func22,Tryz.ntmps22
  go_wp2_with (rw [<- HW0.out])
  refine HPE.mono ?_
  rintro e w1 ⟨rfl,hb1⟩
  clear HPE
  go_wp2
  go_ret
  exact ⟨rfl,HB0.out.trans (hb1.mono HB0.out.size)⟩
 ·have HR:Hid ((putR L s key v).1=putErr L s key v):=by show _=_;unfold putR;rw [if_neg h0,if_neg hneg]
  rw [HR.out]
  clear HR
  generalize putErr L s key v=e0 at *
  have d1:decide (e0 < 0)=false:=decide_eq_false hneg
  have d2:decide (0 < e0)=true:=decide_eq_true (by omega)
  clear hm hw0 hb0
  go_enter Tryz.func22,Tryz.ntmps22
  go_wp2_with (rw [<- HW0.out])
  refine HPE.mono ?_
  rintro e w1 ⟨rfl,hb1⟩
  clear HPE
  go_wp2
  go_ret
  exact ⟨rfl,HB0.out.trans (hb1.mono HB0.out.size)⟩
theorem rput_any (h:Nat) (L:List Kep) (s:Bool) (key:ByteArray) (v:Ver) (w:World) (hl:L.length<=900000) (htx:v.text.size<=maxLen) (hm:MHold w h L s) :
 Calls Tryz.prog 22 #[.pointer (some ⟨h,0,none⟩),.string key,.agg #[.int .i64 v.n,.int .i64 v.who,.int .i64 v.size,.int .i64 v.at_,.string v.text]] w fun e w'=>e=.returned (.int .i64 (putR L s key v).1)/\MHold w' h (putR L s key v).2 s/\Turn h w w':=by
 by_cases h0:putErr L s key v=0
 ·have e1:putR L s key v=(0,putL L key v):=if_pos h0
  rw [e1]
  exact rput_in h L s key v w hl htx hm h0
 ·refine (rput_not h L s key v w hl htx hm h0).mono ?_
  rintro e w' ⟨rfl,hb⟩
  have e2:(putR L s key v).2=L:=by unfold putR;rw [if_neg h0];split <;> rfl
  rw [e2]
  obtain ⟨p,c,q0,_⟩:=hm.row
  exact ⟨rfl,hm.below hb,Turn.of_below (lt_of_cellH q0) hb⟩
end Go.Proofs.YtghpdhegfnhmkaaGreatDoor
