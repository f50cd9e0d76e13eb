import Derived.Test.YtmhoiodfppdlnaaGreatDoorAq40
set_option maxRecDepth 20000
set_option maxHeartbeats 40000000
namespace Go.Proofs.YtmhoiodfppdlnaaGreatDoor
open Go.RowKit
variable {ad:Nat->Addr} {X:World->Prop} {Ak:World->Nat->Nat->(Nat->Prop)->MAsk->Prop}
theorem askHears_put_bad (hO:AskOk ad X Ak)(b:Bid)(p:Option Addr)(cap:Nat)(l:List Msg)(lp:Option Addr)(lcap:Nat)(w:World)(hi:LawIn ad X b p cap l lp w)(h1:longC b.c=false)(h2:¬ 100 < b.key.size)(h3:b.text.size<=100∨1000 < b.text.size/\b.text.size<=2000)(h4:fitsM l=true)(h5:b.put=true)(h6:0 < (bidF b).1):Calls Tryz.prog 3 #[.agg #[.bool b.put,.int .i64 b.who,.int .i64 b.op,.int .i64 b.config,.int .i64 b.c.n,.int .i64 b.c.k,.slice p b.c.L.length cap,.string b.key,.string b.text],.slice lp l.length lcap] w fun e w'=>e=.returned (.bool true)/\Below w.heap.size w w':=by
 rw [h5]
 obtain⟨w1,hw1⟩:∃ w1,w1=w.alloc (.cells #[.bool true,.int .i64 b.who,.int .i64 b.op,.int .i64 b.config,.int .i64 b.c.n,.int .i64 b.c.k,.slice p b.c.L.length cap,.string b.key,.string b.text] 26):=⟨_,rfl⟩
 have hb1:Below w.heap.size w w1:=zBe hw1
 have hlt1:w.heap.size < w1.heap.size:=by rw [hw1];simp
 have hbl1:w1.heap[w.heap.size]?=some (.cells #[.bool true,.int .i64 b.who,.int .i64 b.op,.int .i64 b.config,.int .i64 b.c.n,.int .i64 b.c.k,.slice p b.c.L.length cap,.string b.key,.string b.text] 26 (0,0)):=by
  rw [hw1]
  show(w.heap.push _)[w.heap.size]?=_
  simp
 have HCE:Hid (∀ W,Below w1.heap.size w1 W->(W.cell? ⟨w.heap.size,0,none⟩=some (.bool true)/\W.cell? ⟨w.heap.size,1,none⟩=some (.int .i64 b.who)/\W.cell? ⟨w.heap.size,2,none⟩=some (.int .i64 b.op)/\W.cell? ⟨w.heap.size,3,none⟩=some (.int .i64 b.config)/\W.cell? ⟨w.heap.size,4,none⟩=some (.int .i64 b.c.n)/\W.cell? ⟨w.heap.size,5,none⟩=some (.int .i64 b.c.k)/\W.cell? ⟨w.heap.size,6,none⟩=some (.slice p b.c.L.length cap)/\W.cell? ⟨w.heap.size,7,none⟩=some (.string b.key)/\W.cell? ⟨w.heap.size,8,none⟩=some (.string b.text)/\Below w1.heap.size w1 W)):=fun W hW=>by
  have hb:=(hW.block _ hlt1).trans hbl1
  exact⟨(rblk_cell hb 0).1,(rblk_cell hb 1).1,(rblk_cell hb 2).1,(rblk_cell hb 3).1,(rblk_cell hb 4).1,(rblk_cell hb 5).1,(rblk_cell hb 6).1,(rblk_cell hb 7).1,(rblk_cell hb 8).1,hW⟩
 have HAS:=asked_any hO w1 (fun V hV=>(hi.ok (hb1.trans (hV.mono hb1.size))).1) (fun V hV=>(hi.ok (hb1.trans (hV.mono hb1.size))).2)
 have HLC:Hid (∀ W,Below w1.heap.size w1 W->Calls Tryz.prog 6 #[.agg #[.int .i64 b.c.n,.int .i64 b.c.k,.slice p b.c.L.length cap]] W fun e w'=>e=.returned (.bool (longC b.c))/\Below w1.heap.size w1 w'):=fun W hW=>(longConfig_any b.c p cap W hi.len hi.size ((hi.strs.below hb1).below hW)).mono fun e w' hq=>⟨hq.1,hW.trans (hq.2.mono hW.size)⟩
 have HMF:Hid (∀ W,Below w1.heap.size w1 W->Calls Tryz.prog 7 #[.slice lp l.length lcap] W fun e w'=>e=.returned (.bool (fitsM l))/\Below w1.heap.size w1 w'):=fun W hW=>(messagesFit_any lp l lcap W hi.much ((hi.msgs.below hb1).below hW)).mono fun e w' hq=>⟨hq.1,hW.trans (hq.2.mono hW.size)⟩
 have HW1:Hid (w1=w.alloc (.cells #[.bool true,.int .i64 b.who,.int .i64 b.op,.int .i64 b.config,.int .i64 b.c.n,.int .i64 b.c.k,.slice p b.c.L.length cap,.string b.key,.string b.text] 26)):=hw1
 have HB1:Hid (Below w.heap.size w w1):=hb1
 rw [h1] at HLC
 rw [h4] at HMF
 obtain⟨n1,n2⟩:=longC_fine h1
 have HST1:Hid (∀ W,Below w1.heap.size w1 W->Strs W p b.c.L):=fun W hW=>(hi.strs.below hb1).below hW
 have HCFA:Hid (∀ W q d,Strs W q b.c.L->b.c.L.length<=d->(q=none->b.c.L=[]/\d=0)->CfgAt W b.c q d):=fun W q d g1 g2 g3=>cfgAt_of g1 g2 g3 h1 hi.ints
 have HOC:Hid (∀ W,(W.cell? ⟨w.heap.size,0,none⟩=some (.bool true)/\W.cell? ⟨w.heap.size,1,none⟩=some (.int .i64 b.who)/\W.cell? ⟨w.heap.size,2,none⟩=some (.int .i64 b.op)/\W.cell? ⟨w.heap.size,3,none⟩=some (.int .i64 b.config)/\W.cell? ⟨w.heap.size,4,none⟩=some (.int .i64 b.c.n)/\W.cell? ⟨w.heap.size,5,none⟩=some (.int .i64 b.c.k)/\W.cell? ⟨w.heap.size,6,none⟩=some (.slice p b.c.L.length cap)/\W.cell? ⟨w.heap.size,7,none⟩=some (.string b.key)/\W.cell? ⟨w.heap.size,8,none⟩=some (.string b.text)/\Below w1.heap.size w1 W)->Calls Tryz.prog 9 #[.agg #[.int .i64 b.c.n,.int .i64 b.c.k,.slice p b.c.L.length cap]] W fun e w'=>∃ q d,e=.returned (.agg #[.int .i64 b.c.n,.int .i64 b.c.k,.slice q b.c.L.length d])/\Hid (CfgAt w' b.c q d)/\(w'.cell? ⟨w.heap.size,0,none⟩=some (.bool true)/\w'.cell? ⟨w.heap.size,1,none⟩=some (.int .i64 b.who)/\w'.cell? ⟨w.heap.size,2,none⟩=some (.int .i64 b.op)/\w'.cell? ⟨w.heap.size,3,none⟩=some (.int .i64 b.config)/\w'.cell? ⟨w.heap.size,4,none⟩=some (.int .i64 b.c.n)/\w'.cell? ⟨w.heap.size,5,none⟩=some (.int .i64 b.c.k)/\w'.cell? ⟨w.heap.size,6,none⟩=some (.slice p b.c.L.length cap)/\w'.cell? ⟨w.heap.size,7,none⟩=some (.string b.key)/\w'.cell? ⟨w.heap.size,8,none⟩=some (.string b.text)/\Below w1.heap.size w1 w')):=fun W hW=>(ownConfig_any b.c p cap W (by omega) (HST1.out W hW.2.2.2.2.2.2.2.2.2) hi.empty).mono fun e w' hq=>by
  obtain⟨⟨q,d,e1,e2,e3,e4⟩,e5⟩:=hq
  exact⟨q,d,e1,HCFA.out w' q d e2 e3 e4,HCE.out w' (hW.2.2.2.2.2.2.2.2.2.trans (e5.mono hW.2.2.2.2.2.2.2.2.2.size))⟩
 have HOKX:Hid (∀ W,Below w1.heap.size w1 W->ErrsQ W ad/\X W):=fun W hW=>hi.ok (hb1.trans (hW.mono hb1.size))
 have HPT:Hid (∀ W q d,Hid (CfgAt W b.c q d)->(W.cell? ⟨w.heap.size,0,none⟩=some (.bool true)/\W.cell? ⟨w.heap.size,1,none⟩=some (.int .i64 b.who)/\W.cell? ⟨w.heap.size,2,none⟩=some (.int .i64 b.op)/\W.cell? ⟨w.heap.size,3,none⟩=some (.int .i64 b.config)/\W.cell? ⟨w.heap.size,4,none⟩=some (.int .i64 b.c.n)/\W.cell? ⟨w.heap.size,5,none⟩=some (.int .i64 b.c.k)/\W.cell? ⟨w.heap.size,6,none⟩=some (.slice p b.c.L.length cap)/\W.cell? ⟨w.heap.size,7,none⟩=some (.string b.key)/\W.cell? ⟨w.heap.size,8,none⟩=some (.string b.text)/\Below w1.heap.size w1 W)->Calls Tryz.prog 8 #[.int .i64 b.who,.int .i64 b.op,.agg #[.int .i64 b.c.n,.int .i64 b.c.k,.slice q b.c.L.length d],.int .i64 b.config,.string b.key,.string b.text] W fun e w'=>∃ et eu,e=.returned (.tuple #[.pointer none,.iface et eu])/\Hid (ErrIs w' ad (.iface et eu) (bidF b).1 (bidF b).2)/\(w'.cell? ⟨w.heap.size,0,none⟩=some (.bool true)/\w'.cell? ⟨w.heap.size,1,none⟩=some (.int .i64 b.who)/\w'.cell? ⟨w.heap.size,2,none⟩=some (.int .i64 b.op)/\w'.cell? ⟨w.heap.size,3,none⟩=some (.int .i64 b.config)/\w'.cell? ⟨w.heap.size,4,none⟩=some (.int .i64 b.c.n)/\w'.cell? ⟨w.heap.size,5,none⟩=some (.int .i64 b.c.k)/\w'.cell? ⟨w.heap.size,6,none⟩=some (.slice p b.c.L.length cap)/\w'.cell? ⟨w.heap.size,7,none⟩=some (.string b.key)/\w'.cell? ⟨w.heap.size,8,none⟩=some (.string b.text)/\Below w1.heap.size w1 w')):=fun W q d hc hW=>(hO.put b q d W hc.out h5 (by omega) (by omega) hi.who hi.op hi.config (HOKX.out W hW.2.2.2.2.2.2.2.2.2).1 (HOKX.out W hW.2.2.2.2.2.2.2.2.2).2).mono fun e w' hq=>by
  obtain⟨⟨ev,g1,g2⟩,g3⟩:=hq
  obtain⟨et,eu,rfl⟩:=g1.some h6
  rcases g2 with ⟨_,g4⟩ | ⟨g4,_⟩
  ·exact⟨et,eu,g4,g1,HCE.out w' (hW.2.2.2.2.2.2.2.2.2.trans (g3.mono hW.2.2.2.2.2.2.2.2.2.size))⟩
  ·exact absurd h6 g4
 have HBF:Hid (∀ W,Below w1.heap.size w1 W->Calls Tryz.prog 11 #[.agg #[.bool true,.int .i64 b.who,.int .i64 b.op,.int .i64 b.config,.int .i64 b.c.n,.int .i64 b.c.k,.slice p b.c.L.length cap,.string b.key,.string b.text]] W fun e w'=>e=.returned (.agg #[.int .i64 (bidF b).1,.int .i64 (bidF b).2])/\Below W.heap.size W w'):=fun W hW=>by
  have hbf:=bidFault_any b p cap W (HCFA.out W p cap (HST1.out W hW) hi.room hi.empty) (by omega)
  unfold bidA at hbf
  rw [h5] at hbf
  exact hbf
 have HFT:Hid (∀ W et eu,Below w1.heap.size w1 W->Hid (ErrIs W ad (.iface et eu) (bidF b).1 (bidF b).2)->Calls Tryz.prog 12 #[.iface et eu,.agg #[.int .i64 (bidF b).1,.int .i64 (bidF b).2]] W fun e w'=>e=.returned (.bool true)/\Below w1.heap.size w1 w'):=fun W et eu hW he=>(faulted2_any ad (.iface et eu) (bidF b).1 (bidF b).2 W (hi.sent W (hb1.trans (hW.mono hb1.size))) he.out).mono fun e w' hq=>⟨hq.1,hW.trans (hq.2.mono hW.size)⟩
 have h6':decide ((0:Int) < (bidF b).1)=true:=decide_eq_true h6
 have HS9:Hid (∀ W,Below w1.heap.size w1 W->(W.cell? ⟨w.heap.size,0,none⟩=some (.bool true)/\W.cell? ⟨w.heap.size,1,none⟩=some (.int .i64 b.who)/\W.cell? ⟨w.heap.size,2,none⟩=some (.int .i64 b.op)/\W.cell? ⟨w.heap.size,3,none⟩=some (.int .i64 b.config)/\W.cell? ⟨w.heap.size,4,none⟩=some (.int .i64 b.c.n)/\W.cell? ⟨w.heap.size,5,none⟩=some (.int .i64 b.c.k)/\W.cell? ⟨w.heap.size,6,none⟩=some (.slice p b.c.L.length cap)/\W.cell? ⟨w.heap.size,7,none⟩=some (.string b.key)/\W.cell? ⟨w.heap.size,8,none⟩=some (.string b.text)/\Below w1.heap.size w1 W)):=HCE.out
 have H5:Hid (b.put=true):=h5
 clear h1 h4 h5 h6
 clear hi hO hw1 hb1 hlt1 hbl1 n2 HCFA HST1 HOKX
 generalize bidF b=F at *
 go_enter Tryz.func3,Tryz.ntmps3
 go_wp2_with (first | rw [<- HW1.out] | fail)
 refine HAS.mono ?_
 rintro e w2 ⟨rfl,hb2⟩
 have HB2:Hid (Below w1.heap.size w1 w2):=hb2
 clear hb2 HAS
 go_upto_region 2 with fail
 go_cut [50] from 15 to 50 (fun v W=>v=.bool false/\Below w1.heap.size w1 W)
 case first =>
  obtain⟨d0,d1,d2,d3,d4,d5,d6,d7,d8,_⟩:=HCE.out w2 HB2.out
  rcases h3 with h3 | h3
  ·skip
   have q1:decide ((100:Int) < (b.key.size:Int))=false:=decide_eq_false (by omega)
   have q2:decide ((100:Int) < (b.text.size:Int))=false:=decide_eq_false (by omega)
   have q4:decide ((2000:Int) < (b.text.size:Int))=false:=decide_eq_false (by omega)
   go_wp2_with fail
   refine(HLC.out w2 HB2.out).mono ?_
   rintro e w3 ⟨rfl,hb3⟩
   clear d0 d1 d2 d3 d4 d5 d6 d7 d8
   obtain⟨d0,d1,d2,d3,d4,d5,d6,d7,d8,_⟩:=HCE.out w3 hb3
   have HB3:Hid (Below w1.heap.size w1 w3):=hb3
   clear hb3
   go_wp2_with fail
   refine(HMF.out w3 HB3.out).mono ?_
   rintro e w4 ⟨rfl,hb4⟩
   have HB4:Hid (Below w1.heap.size w1 w4):=hb4
   clear d0 d1 d2 d3 d4 d5 d6 d7 d8 hb4
   go_wp2_with fail
   go_meet
   exact⟨rfl,HB4.out⟩
  ·skip
   have q1:decide ((100:Int) < (b.key.size:Int))=false:=decide_eq_false (by omega)
   have q2:decide ((100:Int) < (b.text.size:Int))=true:=decide_eq_true (by omega)
   have q3:decide ((b.text.size:Int)<=1000)=false:=decide_eq_false (by omega)
   have q4:decide ((2000:Int) < (b.text.size:Int))=false:=decide_eq_false (by omega)
   go_wp2_with fail
   refine(HLC.out w2 HB2.out).mono ?_
   rintro e w3 ⟨rfl,hb3⟩
   clear d0 d1 d2 d3 d4 d5 d6 d7 d8
   obtain⟨d0,d1,d2,d3,d4,d5,d6,d7,d8,_⟩:=HCE.out w3 hb3
   have HB3:Hid (Below w1.heap.size w1 w3):=hb3
   clear hb3
   go_wp2_with fail
   refine(HMF.out w3 HB3.out).mono ?_
   rintro e w4 ⟨rfl,hb4⟩
   have HB4:Hid (Below w1.heap.size w1 w4):=hb4
   clear d0 d1 d2 d3 d4 d5 d6 d7 d8 hb4
   go_wp2_with fail
   go_meet
   exact⟨rfl,HB4.out⟩
 case rest =>
  obtain⟨rfl,hb4⟩:=hcut
  obtain⟨w4,rfl⟩:∃ w4,w4=wc:=⟨_,rfl⟩
  have HB4:Hid (Below w1.heap.size w1 w4):=hb4
  have d0:=(HCE.out w4 hb4).1
  have HS40:=HS9.out w4.drew hb4.drew
  clear hb4 HLC HMF h3 HB2
  go_wp2
  go_region_held3 (fun W=>(W.cell? ⟨w.heap.size,0,none⟩=some (.bool true)/\W.cell? ⟨w.heap.size,1,none⟩=some (.int .i64 b.who)/\W.cell? ⟨w.heap.size,2,none⟩=some (.int .i64 b.op)/\W.cell? ⟨w.heap.size,3,none⟩=some (.int .i64 b.config)/\W.cell? ⟨w.heap.size,4,none⟩=some (.int .i64 b.c.n)/\W.cell? ⟨w.heap.size,5,none⟩=some (.int .i64 b.c.k)/\W.cell? ⟨w.heap.size,6,none⟩=some (.slice p b.c.L.length cap)/\W.cell? ⟨w.heap.size,7,none⟩=some (.string b.key)/\W.cell? ⟨w.heap.size,8,none⟩=some (.string b.text)/\Below w1.heap.size w1 W)) (first | assumption | exact HS40) (first | (go_at_call 9;refine(HOC.out _ (by assumption)).mono ?_;rintro e w5 ⟨q5,d5,rfl,hC5,hS5⟩) | (go_at_call 8;refine(HPT.out _ _ _ (by assumption) (by assumption)).mono ?_;rintro e w6 ⟨et,eu,rfl,hE6,hS6⟩))
  obtain⟨e0,e1,e2,e3,e4,e5,e6,e7,e8,hb6⟩:=hS6
  have HB6:Hid (Below w1.heap.size w1 w6):=hb6
  have HB6F:=HBF.out w6 hb6
  clear hb6 HS40 HOC HPT hC5 hS5 d0 HBF
  go_wp2_with fail
  refine HB6F.mono ?_
  rintro e w7 ⟨rfl,hb7⟩
  obtain⟨w8,hw8⟩:∃ w8,w8=w7.alloc (.cells #[.int .i64 F.1,.int .i64 F.2] 39):=⟨_,rfl⟩
  have hb78:Below w7.heap.size w7 w8:=zBe hw8
  have k0:w8.cell? ⟨w7.heap.size,0,none⟩=some (.int .i64 F.1):=zAc hw8 rfl
  have k1:w8.cell? ⟨w7.heap.size,1,none⟩=some (.int .i64 F.2):=zAc hw8 rfl
  have hb68:Below w6.heap.size w6 w8:=hb7.trans (hb78.mono hb7.size)
  have hb18:Below w1.heap.size w1 w8:=HB6.out.trans (hb68.mono HB6.out.size)
  have HB18:Hid (Below w1.heap.size w1 w8):=hb18
  have HW8:Hid (w8=w7.alloc (.cells #[.int .i64 F.1,.int .i64 F.2] 39)):=hw8
  have HE8:Hid (ErrIs w8 ad (.iface et eu) F.1 F.2):=hE6.out.below hb68
  have HFX:=HFT.out w8 et eu hb18 HE8
  clear hE6 hw8 hb78 hb68 hb18 hb7 HB6F HFT
  go_wp2_with (first | rw [<- HW8.out] | fail)
  refine HFX.mono ?_
  rintro e w9 ⟨rfl,hb9⟩
  have HB9:Hid (Below w1.heap.size w1 w9):=hb9
  clear hb9 HFX
  go_wp2
  go_ret
  exact⟨rfl,HB1.out.trans (HB9.out.mono HB1.out.size)⟩
theorem askHears_get_bad (hO:AskOk ad X Ak)(b:Bid)(p:Option Addr)(cap:Nat)(l:List Msg)(lp:Option Addr)(lcap:Nat)(w:World)(hi:LawIn ad X b p cap l lp w)(h1:longC b.c=false)(h2:¬ 100 < b.key.size)(h3:b.text.size<=100∨1000 < b.text.size/\b.text.size<=2000)(h4:fitsM l=true)(h5:b.put=false)(h6:0 < (bidF b).1):Calls Tryz.prog 3 #[.agg #[.bool b.put,.int .i64 b.who,.int .i64 b.op,.int .i64 b.config,.int .i64 b.c.n,.int .i64 b.c.k,.slice p b.c.L.length cap,.string b.key,.string b.text],.slice lp l.length lcap] w fun e w'=>e=.returned (.bool true)/\Below w.heap.size w w':=by
 rw [h5]
 obtain⟨w1,hw1⟩:∃ w1,w1=w.alloc (.cells #[.bool false,.int .i64 b.who,.int .i64 b.op,.int .i64 b.config,.int .i64 b.c.n,.int .i64 b.c.k,.slice p b.c.L.length cap,.string b.key,.string b.text] 26):=⟨_,rfl⟩
 have hb1:Below w.heap.size w w1:=zBe hw1
 have hlt1:w.heap.size < w1.heap.size:=by rw [hw1];simp
 have hbl1:w1.heap[w.heap.size]?=some (.cells #[.bool false,.int .i64 b.who,.int .i64 b.op,.int .i64 b.config,.int .i64 b.c.n,.int .i64 b.c.k,.slice p b.c.L.length cap,.string b.key,.string b.text] 26 (0,0)):=by
  rw [hw1]
  show(w.heap.push _)[w.heap.size]?=_
  simp
 have HCE:Hid (∀ W,Below w1.heap.size w1 W->(W.cell? ⟨w.heap.size,0,none⟩=some (.bool false)/\W.cell? ⟨w.heap.size,1,none⟩=some (.int .i64 b.who)/\W.cell? ⟨w.heap.size,2,none⟩=some (.int .i64 b.op)/\W.cell? ⟨w.heap.size,3,none⟩=some (.int .i64 b.config)/\W.cell? ⟨w.heap.size,4,none⟩=some (.int .i64 b.c.n)/\W.cell? ⟨w.heap.size,5,none⟩=some (.int .i64 b.c.k)/\W.cell? ⟨w.heap.size,6,none⟩=some (.slice p b.c.L.length cap)/\W.cell? ⟨w.heap.size,7,none⟩=some (.string b.key)/\W.cell? ⟨w.heap.size,8,none⟩=some (.string b.text)/\Below w1.heap.size w1 W)):=fun W hW=>by
  have hb:=(hW.block _ hlt1).trans hbl1
  exact⟨(rblk_cell hb 0).1,(rblk_cell hb 1).1,(rblk_cell hb 2).1,(rblk_cell hb 3).1,(rblk_cell hb 4).1,(rblk_cell hb 5).1,(rblk_cell hb 6).1,(rblk_cell hb 7).1,(rblk_cell hb 8).1,hW⟩
 have HAS:=asked_any hO w1 (fun V hV=>(hi.ok (hb1.trans (hV.mono hb1.size))).1) (fun V hV=>(hi.ok (hb1.trans (hV.mono hb1.size))).2)
 have HLC:Hid (∀ W,Below w1.heap.size w1 W->Calls Tryz.prog 6 #[.agg #[.int .i64 b.c.n,.int .i64 b.c.k,.slice p b.c.L.length cap]] W fun e w'=>e=.returned (.bool (longC b.c))/\Below w1.heap.size w1 w'):=fun W hW=>(longConfig_any b.c p cap W hi.len hi.size ((hi.strs.below hb1).below hW)).mono fun e w' hq=>⟨hq.1,hW.trans (hq.2.mono hW.size)⟩
 have HMF:Hid (∀ W,Below w1.heap.size w1 W->Calls Tryz.prog 7 #[.slice lp l.length lcap] W fun e w'=>e=.returned (.bool (fitsM l))/\Below w1.heap.size w1 w'):=fun W hW=>(messagesFit_any lp l lcap W hi.much ((hi.msgs.below hb1).below hW)).mono fun e w' hq=>⟨hq.1,hW.trans (hq.2.mono hW.size)⟩
 have HW1:Hid (w1=w.alloc (.cells #[.bool false,.int .i64 b.who,.int .i64 b.op,.int .i64 b.config,.int .i64 b.c.n,.int .i64 b.c.k,.slice p b.c.L.length cap,.string b.key,.string b.text] 26)):=hw1
 have HB1:Hid (Below w.heap.size w w1):=hb1
 rw [h1] at HLC
 rw [h4] at HMF
 obtain⟨n1,n2⟩:=longC_fine h1
 have HST1:Hid (∀ W,Below w1.heap.size w1 W->Strs W p b.c.L):=fun W hW=>(hi.strs.below hb1).below hW
 have HCFA:Hid (∀ W q d,Strs W q b.c.L->b.c.L.length<=d->(q=none->b.c.L=[]/\d=0)->CfgAt W b.c q d):=fun W q d g1 g2 g3=>cfgAt_of g1 g2 g3 h1 hi.ints
 have HOC:Hid (∀ W,(W.cell? ⟨w.heap.size,0,none⟩=some (.bool false)/\W.cell? ⟨w.heap.size,1,none⟩=some (.int .i64 b.who)/\W.cell? ⟨w.heap.size,2,none⟩=some (.int .i64 b.op)/\W.cell? ⟨w.heap.size,3,none⟩=some (.int .i64 b.config)/\W.cell? ⟨w.heap.size,4,none⟩=some (.int .i64 b.c.n)/\W.cell? ⟨w.heap.size,5,none⟩=some (.int .i64 b.c.k)/\W.cell? ⟨w.heap.size,6,none⟩=some (.slice p b.c.L.length cap)/\W.cell? ⟨w.heap.size,7,none⟩=some (.string b.key)/\W.cell? ⟨w.heap.size,8,none⟩=some (.string b.text)/\Below w1.heap.size w1 W)->Calls Tryz.prog 9 #[.agg #[.int .i64 b.c.n,.int .i64 b.c.k,.slice p b.c.L.length cap]] W fun e w'=>∃ q d,e=.returned (.agg #[.int .i64 b.c.n,.int .i64 b.c.k,.slice q b.c.L.length d])/\Hid (CfgAt w' b.c q d)/\(w'.cell? ⟨w.heap.size,0,none⟩=some (.bool false)/\w'.cell? ⟨w.heap.size,1,none⟩=some (.int .i64 b.who)/\w'.cell? ⟨w.heap.size,2,none⟩=some (.int .i64 b.op)/\w'.cell? ⟨w.heap.size,3,none⟩=some (.int .i64 b.config)/\w'.cell? ⟨w.heap.size,4,none⟩=some (.int .i64 b.c.n)/\w'.cell? ⟨w.heap.size,5,none⟩=some (.int .i64 b.c.k)/\w'.cell? ⟨w.heap.size,6,none⟩=some (.slice p b.c.L.length cap)/\w'.cell? ⟨w.heap.size,7,none⟩=some (.string b.key)/\w'.cell? ⟨w.heap.size,8,none⟩=some (.string b.text)/\Below w1.heap.size w1 w')):=fun W hW=>(ownConfig_any b.c p cap W (by omega) (HST1.out W hW.2.2.2.2.2.2.2.2.2) hi.empty).mono fun e w' hq=>by
  obtain⟨⟨q,d,e1,e2,e3,e4⟩,e5⟩:=hq
  exact⟨q,d,e1,HCFA.out w' q d e2 e3 e4,HCE.out w' (hW.2.2.2.2.2.2.2.2.2.trans (e5.mono hW.2.2.2.2.2.2.2.2.2.size))⟩
 have HOKX:Hid (∀ W,Below w1.heap.size w1 W->ErrsQ W ad/\X W):=fun W hW=>hi.ok (hb1.trans (hW.mono hb1.size))
 have HPT:Hid (∀ W q d,Hid (CfgAt W b.c q d)->(W.cell? ⟨w.heap.size,0,none⟩=some (.bool false)/\W.cell? ⟨w.heap.size,1,none⟩=some (.int .i64 b.who)/\W.cell? ⟨w.heap.size,2,none⟩=some (.int .i64 b.op)/\W.cell? ⟨w.heap.size,3,none⟩=some (.int .i64 b.config)/\W.cell? ⟨w.heap.size,4,none⟩=some (.int .i64 b.c.n)/\W.cell? ⟨w.heap.size,5,none⟩=some (.int .i64 b.c.k)/\W.cell? ⟨w.heap.size,6,none⟩=some (.slice p b.c.L.length cap)/\W.cell? ⟨w.heap.size,7,none⟩=some (.string b.key)/\W.cell? ⟨w.heap.size,8,none⟩=some (.string b.text)/\Below w1.heap.size w1 W)->Calls Tryz.prog 10 #[.int .i64 b.who,.int .i64 b.op,.agg #[.int .i64 b.c.n,.int .i64 b.c.k,.slice q b.c.L.length d],.int .i64 b.config,.string b.key] W fun e w'=>∃ et eu,e=.returned (.tuple #[.pointer none,.iface et eu])/\Hid (ErrIs w' ad (.iface et eu) (bidF b).1 (bidF b).2)/\(w'.cell? ⟨w.heap.size,0,none⟩=some (.bool false)/\w'.cell? ⟨w.heap.size,1,none⟩=some (.int .i64 b.who)/\w'.cell? ⟨w.heap.size,2,none⟩=some (.int .i64 b.op)/\w'.cell? ⟨w.heap.size,3,none⟩=some (.int .i64 b.config)/\w'.cell? ⟨w.heap.size,4,none⟩=some (.int .i64 b.c.n)/\w'.cell? ⟨w.heap.size,5,none⟩=some (.int .i64 b.c.k)/\w'.cell? ⟨w.heap.size,6,none⟩=some (.slice p b.c.L.length cap)/\w'.cell? ⟨w.heap.size,7,none⟩=some (.string b.key)/\w'.cell? ⟨w.heap.size,8,none⟩=some (.string b.text)/\Below w1.heap.size w1 w')):=fun W q d hc hW=>(hO.get b q d W hc.out h5 (by omega) hi.who hi.op hi.config (HOKX.out W hW.2.2.2.2.2.2.2.2.2).1 (HOKX.out W hW.2.2.2.2.2.2.2.2.2).2).mono fun e w' hq=>by
  obtain⟨⟨ev,g1,g2⟩,g3⟩:=hq
  obtain⟨et,eu,rfl⟩:=g1.some h6
  rcases g2 with ⟨_,g4⟩ | ⟨g4,_⟩
  ·exact⟨et,eu,g4,g1,HCE.out w' (hW.2.2.2.2.2.2.2.2.2.trans (g3.mono hW.2.2.2.2.2.2.2.2.2.size))⟩
  ·exact absurd h6 g4
 have HBF:Hid (∀ W,Below w1.heap.size w1 W->Calls Tryz.prog 11 #[.agg #[.bool false,.int .i64 b.who,.int .i64 b.op,.int .i64 b.config,.int .i64 b.c.n,.int .i64 b.c.k,.slice p b.c.L.length cap,.string b.key,.string b.text]] W fun e w'=>e=.returned (.agg #[.int .i64 (bidF b).1,.int .i64 (bidF b).2])/\Below W.heap.size W w'):=fun W hW=>by
  have hbf:=bidFault_any b p cap W (HCFA.out W p cap (HST1.out W hW) hi.room hi.empty) (by omega)
  unfold bidA at hbf
  rw [h5] at hbf
  exact hbf
 have HFT:Hid (∀ W et eu,Below w1.heap.size w1 W->Hid (ErrIs W ad (.iface et eu) (bidF b).1 (bidF b).2)->Calls Tryz.prog 12 #[.iface et eu,.agg #[.int .i64 (bidF b).1,.int .i64 (bidF b).2]] W fun e w'=>e=.returned (.bool true)/\Below w1.heap.size w1 w'):=fun W et eu hW he=>(faulted2_any ad (.iface et eu) (bidF b).1 (bidF b).2 W (hi.sent W (hb1.trans (hW.mono hb1.size))) he.out).mono fun e w' hq=>⟨hq.1,hW.trans (hq.2.mono hW.size)⟩
 have h6':decide ((0:Int) < (bidF b).1)=true:=decide_eq_true h6
 have HS9:Hid (∀ W,Below w1.heap.size w1 W->(W.cell? ⟨w.heap.size,0,none⟩=some (.bool false)/\W.cell? ⟨w.heap.size,1,none⟩=some (.int .i64 b.who)/\W.cell? ⟨w.heap.size,2,none⟩=some (.int .i64 b.op)/\W.cell? ⟨w.heap.size,3,none⟩=some (.int .i64 b.config)/\W.cell? ⟨w.heap.size,4,none⟩=some (.int .i64 b.c.n)/\W.cell? ⟨w.heap.size,5,none⟩=some (.int .i64 b.c.k)/\W.cell? ⟨w.heap.size,6,none⟩=some (.slice p b.c.L.length cap)/\W.cell? ⟨w.heap.size,7,none⟩=some (.string b.key)/\W.cell? ⟨w.heap.size,8,none⟩=some (.string b.text)/\Below w1.heap.size w1 W)):=HCE.out
 have H5:Hid (b.put=false):=h5
 clear h1 h4 h5 h6
 clear hi hO hw1 hb1 hlt1 hbl1 n2 HCFA HST1 HOKX
 generalize bidF b=F at *
 go_enter Tryz.func3,Tryz.ntmps3
 go_wp2_with (first | rw [<- HW1.out] | fail)
 refine HAS.mono ?_
 rintro e w2 ⟨rfl,hb2⟩
 have HB2:Hid (Below w1.heap.size w1 w2):=hb2
 clear hb2 HAS
 go_upto_region 2 with fail
 go_cut [50] from 15 to 50 (fun v W=>v=.bool false/\Below w1.heap.size w1 W)
 case first =>
  obtain⟨d0,d1,d2,d3,d4,d5,d6,d7,d8,_⟩:=HCE.out w2 HB2.out
  rcases h3 with h3 | h3
  ·skip
   have q1:decide ((100:Int) < (b.key.size:Int))=false:=decide_eq_false (by omega)
   have q2:decide ((100:Int) < (b.text.size:Int))=false:=decide_eq_false (by omega)
   have q4:decide ((2000:Int) < (b.text.size:Int))=false:=decide_eq_false (by omega)
   go_wp2_with fail
   refine(HLC.out w2 HB2.out).mono ?_
   rintro e w3 ⟨rfl,hb3⟩
   clear d0 d1 d2 d3 d4 d5 d6 d7 d8
   obtain⟨d0,d1,d2,d3,d4,d5,d6,d7,d8,_⟩:=HCE.out w3 hb3
   have HB3:Hid (Below w1.heap.size w1 w3):=hb3
   clear hb3
   go_wp2_with fail
   refine(HMF.out w3 HB3.out).mono ?_
   rintro e w4 ⟨rfl,hb4⟩
   have HB4:Hid (Below w1.heap.size w1 w4):=hb4
   clear d0 d1 d2 d3 d4 d5 d6 d7 d8 hb4
   go_wp2_with fail
   go_meet
   exact⟨rfl,HB4.out⟩
  ·skip
   have q1:decide ((100:Int) < (b.key.size:Int))=false:=decide_eq_false (by omega)
   have q2:decide ((100:Int) < (b.text.size:Int))=true:=decide_eq_true (by omega)
   have q3:decide ((b.text.size:Int)<=1000)=false:=decide_eq_false (by omega)
   have q4:decide ((2000:Int) < (b.text.size:Int))=false:=decide_eq_false (by omega)
   go_wp2_with fail
   refine(HLC.out w2 HB2.out).mono ?_
   rintro e w3 ⟨rfl,hb3⟩
   clear d0 d1 d2 d3 d4 d5 d6 d7 d8
   obtain⟨d0,d1,d2,d3,d4,d5,d6,d7,d8,_⟩:=HCE.out w3 hb3
   have HB3:Hid (Below w1.heap.size w1 w3):=hb3
   clear hb3
   go_wp2_with fail
   refine(HMF.out w3 HB3.out).mono ?_
   rintro e w4 ⟨rfl,hb4⟩
   have HB4:Hid (Below w1.heap.size w1 w4):=hb4
   clear d0 d1 d2 d3 d4 d5 d6 d7 d8 hb4
   go_wp2_with fail
   go_meet
   exact⟨rfl,HB4.out⟩
 case rest =>
  obtain⟨rfl,hb4⟩:=hcut
  obtain⟨w4,rfl⟩:∃ w4,w4=wc:=⟨_,rfl⟩
  have HB4:Hid (Below w1.heap.size w1 w4):=hb4
  have d0:=(HCE.out w4 hb4).1
  have HS40:=HS9.out w4.drew hb4.drew
  clear hb4 HLC HMF h3 HB2
  go_wp2
  go_region_held3 (fun W=>(W.cell? ⟨w.heap.size,0,none⟩=some (.bool false)/\W.cell? ⟨w.heap.size,1,none⟩=some (.int .i64 b.who)/\W.cell? ⟨w.heap.size,2,none⟩=some (.int .i64 b.op)/\W.cell? ⟨w.heap.size,3,none⟩=some (.int .i64 b.config)/\W.cell? ⟨w.heap.size,4,none⟩=some (.int .i64 b.c.n)/\W.cell? ⟨w.heap.size,5,none⟩=some (.int .i64 b.c.k)/\W.cell? ⟨w.heap.size,6,none⟩=some (.slice p b.c.L.length cap)/\W.cell? ⟨w.heap.size,7,none⟩=some (.string b.key)/\W.cell? ⟨w.heap.size,8,none⟩=some (.string b.text)/\Below w1.heap.size w1 W)) (first | assumption | exact HS40) (first | (go_at_call 9;refine(HOC.out _ (by assumption)).mono ?_;rintro e w5 ⟨q5,d5,rfl,hC5,hS5⟩) | (go_at_call 10;refine(HPT.out _ _ _ (by assumption) (by assumption)).mono ?_;rintro e w6 ⟨et,eu,rfl,hE6,hS6⟩))
  obtain⟨e0,e1,e2,e3,e4,e5,e6,e7,e8,hb6⟩:=hS6
  have HB6:Hid (Below w1.heap.size w1 w6):=hb6
  have HB6F:=HBF.out w6 hb6
  clear hb6 HS40 HOC HPT hC5 hS5 d0 HBF
  go_wp2_with fail
  refine HB6F.mono ?_
  rintro e w7 ⟨rfl,hb7⟩
  obtain⟨w8,hw8⟩:∃ w8,w8=w7.alloc (.cells #[.int .i64 F.1,.int .i64 F.2] 39):=⟨_,rfl⟩
  have hb78:Below w7.heap.size w7 w8:=zBe hw8
  have k0:w8.cell? ⟨w7.heap.size,0,none⟩=some (.int .i64 F.1):=zAc hw8 rfl
  have k1:w8.cell? ⟨w7.heap.size,1,none⟩=some (.int .i64 F.2):=zAc hw8 rfl
  have hb68:Below w6.heap.size w6 w8:=hb7.trans (hb78.mono hb7.size)
  have hb18:Below w1.heap.size w1 w8:=HB6.out.trans (hb68.mono HB6.out.size)
  have HB18:Hid (Below w1.heap.size w1 w8):=hb18
  have HW8:Hid (w8=w7.alloc (.cells #[.int .i64 F.1,.int .i64 F.2] 39)):=hw8
  have HE8:Hid (ErrIs w8 ad (.iface et eu) F.1 F.2):=hE6.out.below hb68
  have HFX:=HFT.out w8 et eu hb18 HE8
  clear hE6 hw8 hb78 hb68 hb18 hb7 HB6F HFT
  go_wp2_with (first | rw [<- HW8.out] | fail)
  refine HFX.mono ?_
  rintro e w9 ⟨rfl,hb9⟩
  have HB9:Hid (Below w1.heap.size w1 w9):=hb9
  clear hb9 HFX
  go_wp2
  go_ret
  exact⟨rfl,HB1.out.trans (HB9.out.mono HB1.out.size)⟩
end Go.Proofs.YtmhoiodfppdlnaaGreatDoor
