import Derived.Test.YtmhoiodfppdlnaaGreatDoorAq19
import Derived.Test.YtmhoiodfppdlnaaGreatDoorAq34
import Derived.Test.YtmhoiodfppdlnaaGreatDoorAq15
import Derived.Deep.RegionHeld3
set_option maxRecDepth 10000
set_option maxHeartbeats 4000000
namespace Go.Proofs.YtmhoiodfppdlnaaGreatDoor
open Go.RowKit
theorem ebest_any (ad:Nat->Addr)(z:Addr)(c:Cfg)(mp:Option Addr)(mc:Nat)(p:Option Addr)(LL:List (List Ver))(cl:Nat)(w:World)(ht:TldOk w ad z c mp mc p LL) :
 Calls Tryz.prog 37 (#[.agg #[.int .i64 c.n,.int .i64 c.k,.slice mp c.L.length mc],.slice p LL.length cl] ++ #[]) w fun e w'=>e=.returned (chosen false 0 ⟨#[]⟩ c LL)/\Below w.heap.size w w':=by
 show Calls Tryz.prog 37 #[.agg #[.int .i64 c.n,.int .i64 c.k,.slice mp c.L.length mc],.slice p LL.length cl] w _
 obtain⟨hc,hf,hL,hn,hm1,hm2,_,hin,hE,hZ⟩:=ht
 have hch:chosen false 0 ⟨#[]⟩ c LL=.agg #[.int .i64 (bestF c.n.toNat c.k.toNat LL.flatten LL.flatten).1.1,.int .i64 (bestF c.n.toNat c.k.toNat LL.flatten LL.flatten).1.2,.string (bestF c.n.toNat c.k.toNat LL.flatten LL.flatten).2.1,.bool (bestF c.n.toNat c.k.toNat LL.flatten LL.flatten).2.2]:=rfl
 rw [hch]
 obtain⟨wa,hwa⟩:∃ wa,wa=w.alloc (.cells #[.int .i64 c.n,.int .i64 c.k,.slice mp c.L.length mc] 24):=⟨_,rfl⟩
 have hba:Below w.heap.size w wa:=zBe hwa
 have hza:wa.heap.size=w.heap.size+1:=by rw [hwa];simp
 obtain⟨w0,hw0⟩:∃ w0,w0=wa.alloc (.cells #[.int .i64 0,.int .i64 0,.string ⟨#[]⟩,.bool false] 80):=⟨_,rfl⟩
 have hba0:Below wa.heap.size wa w0:=zBe hw0
 have hb0:Below w.heap.size w w0:=hba.trans (hba0.mono hba.size)
 have hlt0:w.heap.size+1 < w0.heap.size:=by rw [hw0];simp [hza]
 have hbl0:w0.heap[w.heap.size+1]?=some (.cells #[.int .i64 0,.int .i64 0,.string ⟨#[]⟩,.bool false] 80 (0,0)):=by
  rw [hw0,<- hza]
  show(wa.heap.push _)[wa.heap.size]?=_
  simp
 have hcb:w0.heap[w.heap.size]?=some (.cells #[.int .i64 c.n,.int .i64 c.k,.slice mp c.L.length mc] 24 (0,0)):=by
  rw [hba0.block _ (by omega),hwa]
  show(w.heap.push _)[w.heap.size]?=_
  simp
 have g0:w0.cell? ⟨w.heap.size,0,none⟩=some (.int .i64 c.n):=by simp [World.cell?,hcb]
 have g1:w0.cell? ⟨w.heap.size,1,none⟩=some (.int .i64 c.k):=by simp [World.cell?,hcb]
 have g2:w0.cell? ⟨w.heap.size,2,none⟩=some (.slice mp c.L.length mc):=by simp [World.cell?,hcb]
 have hZ0:w0.cell? ⟨11,0,none⟩=some (.iface 252 (.pointer (some z))):=(hb0.cell (p:=⟨11,0,none⟩) (lt_cellE hZ)).trans hZ
 obtain⟨e1,e2⟩:=bestE_fine hf hn
 have HBS:=best_any ad c mp mc LL p cl w0 (hc.below hb0) (hL.below hb0) hm1 hm2 hin (hE.below hb0) z hZ0
 rw [e1,e2] at HBS
 unfold cfgA at HBS
 generalize bestF c.n.toNat c.k.toNat LL.flatten LL.flatten=R at *
 obtain⟨⟨t1,t2⟩,tx,fd⟩:=R
 dsimp only at *
 have HBT:Hid (Calls Tryz.prog 58 #[.agg #[.int .i64 c.n,.int .i64 c.k,.slice mp c.L.length mc],.slice p LL.length cl] w0 fun e w'=>e=.returned (.tuple #[.agg #[.int .i64 t1,.int .i64 t2],.string tx,.bool fd,.nilIface])/\Below w.heap.size w w'/\w'.heap[w.heap.size+1]?=some (.cells #[.int .i64 0,.int .i64 0,.string ⟨#[]⟩,.bool false] 80 (0,0))):=HBS.mono fun e w' hp=>by
  obtain⟨⟨ev,h1,h2⟩,h3⟩:=hp
  obtain rfl:=ErrIs.isNil h2
  exact⟨h1,hb0.trans (h3.mono hb0.size),(h3.block _ hlt0).trans hbl0⟩
 have HWA:Hid (wa=w.alloc (.cells #[.int .i64 c.n,.int .i64 c.k,.slice mp c.L.length mc] 24)):=hwa
 have HW0:Hid (w0=wa.alloc (.cells #[.int .i64 0,.int .i64 0,.string ⟨#[]⟩,.bool false] 80)):=hw0
 have HZA:Hid (wa.heap.size=w.heap.size+1):=hza
 clear HBS hc hL hin hE hZ hZ0 hw0 hb0 hbl0 hlt0 e1 e2 hf hn hwa hba hza hba0 hcb hch
 go_enter Tryz.func37,Tryz.ntmps37
 go_wp2_with (first | rw [<- HWA.out] | rw [<- HW0.out,HZA.out] | fail)
 refine HBT.out.mono ?_
 rintro e w1 ⟨rfl,hb1,hbl1⟩
 obtain⟨w2,hw2⟩:∃ w2,w2=w1.alloc (.cells #[.int .i64 t1,.int .i64 t2] 46):=⟨_,rfl⟩
 have hz1:w.heap.size+1 < w1.heap.size:=by
  rcases Nat.lt_or_ge (w.heap.size+1) w1.heap.size with h | h
  ·exact h
  ·rw [Array.getElem?_eq_none h] at hbl1;cases hbl1
 have hb2:Below w1.heap.size w1 w2:=zBe hw2
 have hbl2:=(hb2.block _ hz1).trans hbl1
 have c0:w2.cell? ⟨w1.heap.size,0,none⟩=some (.int .i64 t1):=zAc hw2 rfl
 have c1:w2.cell? ⟨w1.heap.size,1,none⟩=some (.int .i64 t2):=zAc hw2 rfl
 have k0:w2.cell? ⟨w.heap.size+1,0,none⟩=some (.int .i64 0):=by simp [World.cell?,hbl2]
 have k1:w2.cell? ⟨w.heap.size+1,1,none⟩=some (.int .i64 0):=by simp [World.cell?,hbl2]
 have k2:w2.cell? ⟨w.heap.size+1,2,none⟩=some (.string ⟨#[]⟩):=by simp [World.cell?,hbl2]
 have k3:w2.cell? ⟨w.heap.size+1,3,none⟩=some (.bool false):=by simp [World.cell?,hbl2]
 have f0:w2.frozen? ⟨w.heap.size+1,0,none⟩=false:=by simp [World.frozen?,hbl2]
 have f1:w2.frozen? ⟨w.heap.size+1,1,none⟩=false:=by simp [World.frozen?,hbl2]
 have f2:w2.frozen? ⟨w.heap.size+1,2,none⟩=false:=by simp [World.frozen?,hbl2]
 have f3:w2.frozen? ⟨w.heap.size+1,3,none⟩=false:=by simp [World.frozen?,hbl2]
 have HB9:Hid (Below w.heap.size w ((((w2.setCell ⟨w.heap.size+1,0,none⟩ (.int .i64 t1)).setCell ⟨w.heap.size+1,1,none⟩ (.int .i64 t2)).setCell ⟨w.heap.size+1,2,none⟩ (.string tx)).setCell ⟨w.heap.size+1,3,none⟩ (.bool fd))):=((((hb1.trans (hb2.mono hb1.size)).setCell (by show w.heap.size<=w.heap.size+1;omega) _).setCell (by show w.heap.size<=w.heap.size+1;omega) _).setCell (by show w.heap.size<=w.heap.size+1;omega) _).setCell (by show w.heap.size<=w.heap.size+1;omega) _
 have HW2:Hid (w2=w1.alloc (.cells #[.int .i64 t1,.int .i64 t2] 46)):=hw2
 clear hw2 hb2 hbl1 hbl2 hb1 HBT g0 g1 g2
 go_wp2_with (first | rw [<- HW2.out] | fail)
 exact bodyPost_ret (v:=.agg #[.int .i64 t1,.int .i64 t2,.string tx,.bool fd]) (by simp [results,Tryz.results37,go_sem,k0,k1,k2,k3]) rfl ⟨rfl,HB9.out⟩
theorem best_do (w:World)(S0:Nat->Prop)(who:Int)(text:ByteArray):ChDo w S0 false who text (.func (.func 37) #[] #[]) :=
 ⟨_,_,rfl,fun args W=>by kernel_rfl,fun W _ ad z c mp mc p LL cl ht=>ebest_any ad z c mp mc p LL cl W ht⟩
theorem maxStep_tag {n:Int}(h:0<=n)(v:Ver):maxStep n v=if tagOk v.n 0=true then max n v.n else n:=by
 have ht:tagOk v.n 0=decide (0<=v.n/\v.n<=1099511627776):=by unfold tagOk;simp
 rw [ht]
 unfold maxStep
 by_cases h1:0<=v.n/\v.n<=1099511627776
 ·rw [decide_eq_true h1,if_pos (rfl:true=true)]
  by_cases h2:n < v.n
  ·rw [if_pos ⟨h2,h1.2⟩];omega
  ·rw [if_neg (fun h=>h2 h.1)];omega
 ·rw [decide_eq_false h1,if_neg (fun h=>h1 (by omega)),if_neg (by decide)]
theorem greatest_any (p:Option Addr)(LL:List (List Ver))(c:Nat)(w:World)(hL:Vss w p LL)(h1:LL.length<=1000)(h2:∀ l ∈ LL,l.length<=1000):Calls Tryz.prog 36 #[.slice p LL.length c] w fun e w'=>e=.returned (.int .i64 (maxN LL))/\Below w.heap.size w w':=by
 have HL:Hid (Vss w p LL):=hL
 have H2:Hid (∀ l ∈ LL,l.length<=1000):=h2
 have HIT:Hid (∀ a W,Calls Tryz.prog 57 #[.agg #[.int .i64 a,.int .i64 0]] W fun e w'=>e=.returned (.bool (tagOk a 0))/\Below W.heap.size W w'):=fun a W=>istag_any a 0 W
 clear hL h2
 go_enter Tryz.func36,Tryz.ntmps36
 go_wp2
 go_loopw [3,10] (fun x y wr=>∃ i:Nat,i<=LL.length/\y=.int .i64 i/\x=.int .i64 (maxN (LL.take i))/\Below w.heap.size w wr) (fun _ y _=>LL.length - (intOf y).toNat)
 case atStart=>exact⟨0,Nat.zero_le _,rfl,rfl,Below.refl _ _⟩
 case round =>
  obtain⟨i,hi,rfl,rfl,hB⟩:=hrel
  obtain⟨w1,rfl⟩:∃ w1,w1=wr:=⟨_,rfl⟩
  have HB:Hid (Below w.heap.size w w1):=hB
  by_cases hil:i < LL.length
  ·rcases HL.out.below hB with h0 | ⟨b,o,hpp,hblt,hcs⟩
   ·rw [h0] at hil;exact absurd hil (Nat.not_lt_zero _)
   obtain⟨rq,rc,hrcell,hrrec,hrle,hrn⟩:=hcs i hil
   have HTS:Hid (maxN (LL.take (i+1))=(LL.getD i []).foldl maxStep (maxN (LL.take i))):=maxN_take_succ hil
   have hM0:=maxN_bounds (LL.take i)
   have hrl:(LL.getD i []).length<=1000:=by
    have e:LL.getD i []=LL[i]:=by rw [List.getD_eq_getElem?_getD,List.getElem?_eq_getElem hil];rfl
    rw [e];exact H2.out _ (List.getElem_mem _)
   have HRR:Hid (Rec verE w1 rq (LL.getD i [])):=hrrec
   subst hpp
   clear hcs hrrec hrn hB
   generalize LL.getD i []=rw_ at *
   generalize maxN (LL.take i)=M at *
   go_wp2
   go_loopw [3,16] (fun x y wr=>∃ j:Nat,j<=rw_.length/\y=.int .i64 j/\x=.int .i64 ((rw_.take j).foldl maxStep M)/\Below w1.heap.size w1 wr) (fun _ y _=>rw_.length - (intOf y).toNat)
   case atStart=>exact⟨0,Nat.zero_le _,rfl,rfl,Below.refl _ _⟩
   case round =>
    obtain⟨j,hj,rfl,rfl,hB2⟩:=hrel
    obtain⟨w2,rfl⟩:∃ w2,w2=wr:=⟨_,rfl⟩
    have HB2:Hid (Below w1.heap.size w1 w2):=hB2
    by_cases hjl:j < rw_.length
    ·obtain⟨vb,vo,hvp,hvlt,v0,v1,v2,v3,v4⟩:=ver_cells (HRR.out.below hB2) hjl
     have HFS:Hid ((rw_.take (j+1)).foldl maxStep M=maxStep ((rw_.take j).foldl maxStep M) (verAt rw_ j)):=fold_take_succ hjl M
     have hA0:0<=(rw_.take j).foldl maxStep M:=Int.le_trans hM0.1 (foldl_maxStep_ge _ _)
     have HMS:Hid (maxStep ((rw_.take j).foldl maxStep M) (verAt rw_ j)=if tagOk (verAt rw_ j).n 0=true then max ((rw_.take j).foldl maxStep M) (verAt rw_ j).n else (rw_.take j).foldl maxStep M):=maxStep_tag hA0 _
     have HIX:=HIT.out (verAt rw_ j).n
     subst hvp
     clear hA0 hB2
     generalize (rw_.take j).foldl maxStep M=acc at *
     generalize verAt rw_ j=x at *
     obtain⟨xn,xw,xs,xa,xt⟩:=x
     dsimp only at v0 v1 v2 v3 v4 HMS HIX
     obtain⟨w3,hw3⟩:∃ w3,w3=w2.alloc (.cells #[.int .i64 xn,.int .i64 xw,.int .i64 xs,.int .i64 xa,.string xt] 76):=⟨_,rfl⟩
     have hb3:Below w2.heap.size w2 w3:=zBe hw3
     have g0:w3.cell? ⟨w2.heap.size,0,none⟩=some (.int .i64 xn):=zAc hw3 rfl
     have hlt3:w2.heap.size < w3.heap.size:=by rw [hw3];simp
     have HW3:Hid (w3=w2.alloc (.cells #[.int .i64 xn,.int .i64 xw,.int .i64 xs,.int .i64 xa,.string xt] 76)):=hw3
     have HB3:Hid (Below w1.heap.size w1 w3):=HB2.out.trans (hb3.mono HB2.out.size)
     have HI3:Hid (Calls Tryz.prog 57 #[.agg #[.int .i64 xn,.int .i64 0]] w3 fun e w'=>e=.returned (.bool (tagOk xn 0))/\Below w3.heap.size w3 w'):=HIX w3
     clear hw3 hb3 HIX
     by_cases ht:tagOk xn 0=true
     ·rw [ht] at HI3
      rw [if_pos ht] at HMS
      go_wp2_with (first | rw [<- HW3.out] | fail)
      refine HI3.out.mono ?_
      rintro e w4 ⟨rfl,hb4⟩
      have g4:w4.cell? ⟨w2.heap.size,0,none⟩=some (.int .i64 xn):=(hb4.cell (p:=⟨w2.heap.size,0,none⟩) hlt3).trans g0
      have HB4:Hid (Below w1.heap.size w1 w4):=HB3.out.trans (hb4.mono HB3.out.size)
      clear hb4 v0 v1 v2 v3 v4
      go_wp2
      go_roundw
      case rel=>exact⟨j+1,by omega,by go_num,by rw [HFS.out,HMS.out],HB4.out⟩
      case measure=>simp [intOf];omega
     ·rw [if_neg ht] at HMS
      have ht':tagOk xn 0=false:=Bool.eq_false_iff.2 ht
      rw [ht'] at HI3
      go_wp2_with (first | rw [<- HW3.out] | fail)
      refine HI3.out.mono ?_
      rintro e w4 ⟨rfl,hb4⟩
      have HB4:Hid (Below w1.heap.size w1 w4):=HB3.out.trans (hb4.mono HB3.out.size)
      clear hb4 v0 v1 v2 v3 v4
      go_wp2
      go_roundw
      case rel=>exact⟨j+1,by omega,by go_num,by rw [HFS.out,HMS.out],HB4.out⟩
      case measure=>simp [intOf];omega
    ·have HJE:Hid (rw_.take j=rw_):=by show _=_;exact List.take_of_length_le (by omega)
     rw [HJE.out]
     have HB9:Hid (Below w.heap.size w w2):=HB.out.trans (HB2.out.mono HB.out.size)
     clear hB2
     go_wp2
     go_roundw
     case rel=>exact⟨i+1,by omega,by go_num,by rw [HTS.out],HB9.out⟩
     case measure=>simp [intOf];omega
  ·have HIE:Hid (LL.take i=LL):=by show _=_;exact List.take_of_length_le (by omega)
   rw [HIE.out]
   clear hB
   go_wp2
   go_ret
   exact⟨rfl,HB.out⟩
theorem put1_any (cn ck:Int)(cv:Value)(hcv:∃ a n m,cv=.slice a n m)(wb tb:Nat)(who:Int)(text:ByteArray)(p:Option Addr)(LL:List (List Ver))(c:Nat)(w:World)(hL:Vss w p LL)(h1:LL.length<=1000)(h2:∀ l ∈ LL,l.length<=1000)(q0:w.cell? ⟨wb,0,none⟩=some (.int .i64 who))(q1:w.cell? ⟨tb,0,none⟩=some (.string text)) :
 Calls Tryz.prog 35 (#[.agg #[.int .i64 cn,.int .i64 ck,cv],.slice p LL.length c] ++ #[.pointer (some ⟨wb,0,none⟩),.pointer (some ⟨tb,0,none⟩)]) w fun e w'=>e=.returned (.agg #[.int .i64 (maxN LL+1),.int .i64 who,.string text,.bool true])/\Below w.heap.size w w':=by
 show Calls Tryz.prog 35 #[.agg #[.int .i64 cn,.int .i64 ck,cv],.slice p LL.length c,.pointer (some ⟨wb,0,none⟩),.pointer (some ⟨tb,0,none⟩)] w _
 obtain⟨ca,cm,cx,rfl⟩:=hcv
 have hwb:wb < w.heap.size:=lt_cellE q0
 have htb:tb < w.heap.size:=lt_cellE q1
 obtain⟨wa,hwa⟩:∃ wa,wa=w.alloc (.cells #[.int .i64 cn,.int .i64 ck,.slice ca cm cx] 24):=⟨_,rfl⟩
 have hba:Below w.heap.size w wa:=zBe hwa
 have hza:wa.heap.size=w.heap.size+1:=by rw [hwa];simp
 obtain⟨w0,hw0⟩:∃ w0,w0=wa.alloc (.cells #[.int .i64 0,.int .i64 0,.string ⟨#[]⟩,.bool false] 80):=⟨_,rfl⟩
 have hba0:Below wa.heap.size wa w0:=zBe hw0
 have hb0:Below w.heap.size w w0:=hba.trans (hba0.mono hba.size)
 have hlt0:w.heap.size+1 < w0.heap.size:=by rw [hw0];simp [hza]
 have hbl0:w0.heap[w.heap.size+1]?=some (.cells #[.int .i64 0,.int .i64 0,.string ⟨#[]⟩,.bool false] 80 (0,0)):=by
  rw [hw0,<- hza]
  show(wa.heap.push _)[wa.heap.size]?=_
  simp
 have hMb:=maxN_bounds LL
 have HS:Hid (∀ W,Below w.heap.size w W->(W.cell? ⟨wb,0,none⟩=some (.int .i64 who)/\W.cell? ⟨tb,0,none⟩=some (.string text)/\Below w.heap.size w W)):=fun W hW=>⟨(hW.cell (p:=⟨wb,0,none⟩) hwb).trans q0,(hW.cell (p:=⟨tb,0,none⟩) htb).trans q1,hW⟩
 have HG:Hid (Calls Tryz.prog 36 #[.slice p LL.length c] w0.drew fun e w'=>e=.returned (.int .i64 (maxN LL))/\(w'.cell? ⟨wb,0,none⟩=some (.int .i64 who)/\w'.cell? ⟨tb,0,none⟩=some (.string text)/\Below w.heap.size w w')/\(w'.cell? ⟨w.heap.size+1,0,none⟩=some (.int .i64 0)/\w'.cell? ⟨w.heap.size+1,1,none⟩=some (.int .i64 0)/\w'.cell? ⟨w.heap.size+1,2,none⟩=some (.string ⟨#[]⟩)/\w'.cell? ⟨w.heap.size+1,3,none⟩=some (.bool false))/\(w'.frozen? ⟨w.heap.size+1,0,none⟩=false/\w'.frozen? ⟨w.heap.size+1,1,none⟩=false/\w'.frozen? ⟨w.heap.size+1,2,none⟩=false/\w'.frozen? ⟨w.heap.size+1,3,none⟩=false)):=(greatest_any p LL c w0.drew (hL.below hb0.drew) h1 h2).mono fun e w' hp=>by
  have hb:Below w0.heap.size w0 w':=(Below.refl _ w0).drew.trans hp.2
  have hbl:=(hb.block _ hlt0).trans hbl0
  exact⟨hp.1,HS.out w' (hb0.trans (hb.mono hb0.size)),⟨by simp [World.cell?,hbl],by simp [World.cell?,hbl],by simp [World.cell?,hbl],by simp [World.cell?,hbl]⟩,by simp [World.frozen?,hbl],by simp [World.frozen?,hbl],by simp [World.frozen?,hbl],by simp [World.frozen?,hbl]⟩
 have HS0:=HS.out w0.drew hb0.drew
 have HWA:Hid (wa=w.alloc (.cells #[.int .i64 cn,.int .i64 ck,.slice ca cm cx] 24)):=hwa
 have HW0:Hid (w0=wa.alloc (.cells #[.int .i64 0,.int .i64 0,.string ⟨#[]⟩,.bool false] 80)):=hw0
 clear hL h2 hw0 hb0 hbl0 hlt0 q0 q1 hwa hba hza hba0
 generalize maxN LL=M at *
 have hwr:IntKind.i64.wrap (M+1)=M+1:=by rw [IntKind.wrap_i64];omega
 go_enter Tryz.func35,Tryz.ntmps35
 go_wp2
 rw [<- HWA.out,<- HW0.out]
 go_region_held3 (fun W=>(W.cell? ⟨wb,0,none⟩=some (.int .i64 who)/\W.cell? ⟨tb,0,none⟩=some (.string text)/\Below w.heap.size w W)) (first | assumption | exact HS0 | exact HS.out _ ((((hS1.2.2.setCell (Nat.le_succ _) _).setCell (Nat.le_succ _) _).setCell (Nat.le_succ _) _).setCell (Nat.le_succ _) _)) (first | (go_at_call 36;refine HG.out.mono ?_;rintro e w1 ⟨rfl,hS1,⟨k0,k1,k2,k3⟩,f0,f1,f2,f3⟩))
 have HB9:Hid (Below w.heap.size w ((((w1.setCell ⟨w.heap.size+1,0,none⟩ (.int .i64 (M+1))).setCell ⟨w.heap.size+1,1,none⟩ (.int .i64 who)).setCell ⟨w.heap.size+1,2,none⟩ (.string text)).setCell ⟨w.heap.size+1,3,none⟩ (.bool true))):=(((hS1.2.2.setCell (Nat.le_succ _) _).setCell (Nat.le_succ _) _).setCell (Nat.le_succ _) _).setCell (Nat.le_succ _) _
 go_wp2
 exact bodyPost_ret (v:=.agg #[.int .i64 (M+1),.int .i64 who,.string text,.bool true]) (by simp [results,Tryz.results35,go_sem,k0,k1,k2,k3]) rfl ⟨rfl,HB9.out⟩
theorem put_do {w:World}{S0:Nat->Prop}{wb tb:Nat}{who:Int}{text:ByteArray}(h1:S0 wb)(h2:S0 tb)(q0:w.cell? ⟨wb,0,none⟩=some (.int .i64 who))(q1:w.cell? ⟨tb,0,none⟩=some (.string text)):ChDo w S0 true who text (.func (.func 35) #[] #[.pointer (some ⟨wb,0,none⟩),.pointer (some ⟨tb,0,none⟩)]) :=
 ⟨_,_,rfl,fun args W=>by kernel_rfl,fun W hW ad z c mp mc p LL cl ht=>put1_any c.n c.k _ ⟨_,_,_,rfl⟩ wb tb who text p LL cl W ht.vss ht.m1 ht.m3 ((World.cell?_of_block (a:=⟨wb,0,none⟩) (hW wb h1)).trans q0) ((World.cell?_of_block (a:=⟨tb,0,none⟩) (hW tb h2)).trans q1)⟩
end Go.Proofs.YtmhoiodfppdlnaaGreatDoor
