import Derived.Test.YtmhoiodfppdlnaaGreatDoorAq40
set_option maxRecDepth 20000
set_option maxHeartbeats 40000000
namespace Go.Proofs.YtmhoiodfppdlnaaGreatDoor
open Go.RowKit
variable {ad:Nat->Addr} {X:World->Prop} {Ak:World->Nat->Nat->(Nat->Prop)->MAsk->Prop}
theorem askHears_get_fine (hO:AskOk ad X Ak)(b:Bid)(p:Option Addr)(cap:Nat)(l:List Msg)(lp:Option Addr)(lcap:Nat)(w:World)(hi:LawIn ad X b p cap l lp w)(hF:∀ {w B h S a},Ak w B h S a->AFine a)(h1:longC b.c=false)(h2:¬ 100 < b.key.size)(h3:b.text.size<=100∨1000 < b.text.size/\b.text.size<=2000)(h4:fitsM l=true)(h5:b.put=false)(h6:¬ 0 < (bidF b).1):Calls Tryz.prog 3 #[.agg #[.bool b.put,.int .i64 b.who,.int .i64 b.op,.int .i64 b.config,.int .i64 b.c.n,.int .i64 b.c.k,.slice p b.c.L.length cap,.string b.key,.string b.text],.slice lp l.length lcap] w fun e w'=>e=.returned (.bool true)/\Below w.heap.size w w':=by
 rw [h5]
 obtain⟨w1,hw1⟩:∃ w1,w1=w.alloc (.cells #[.bool false,.int .i64 b.who,.int .i64 b.op,.int .i64 b.config,.int .i64 b.c.n,.int .i64 b.c.k,.slice p b.c.L.length cap,.string b.key,.string b.text] 26):=⟨_,rfl⟩
 have hb1:Below w.heap.size w w1:=zBe hw1
 have hlt1:w.heap.size < w1.heap.size:=by rw [hw1];simp
 have hbl1:w1.heap[w.heap.size]?=some (.cells #[.bool false,.int .i64 b.who,.int .i64 b.op,.int .i64 b.config,.int .i64 b.c.n,.int .i64 b.c.k,.slice p b.c.L.length cap,.string b.key,.string b.text] 26 (0,0)):=by
  rw [hw1]
  show(w.heap.push _)[w.heap.size]?=_
  simp
 have HCE:Hid (∀ W,Below w1.heap.size w1 W->(W.cell? ⟨w.heap.size,0,none⟩=some (.bool false)/\W.cell? ⟨w.heap.size,1,none⟩=some (.int .i64 b.who)/\W.cell? ⟨w.heap.size,2,none⟩=some (.int .i64 b.op)/\W.cell? ⟨w.heap.size,3,none⟩=some (.int .i64 b.config)/\W.cell? ⟨w.heap.size,4,none⟩=some (.int .i64 b.c.n)/\W.cell? ⟨w.heap.size,5,none⟩=some (.int .i64 b.c.k)/\W.cell? ⟨w.heap.size,6,none⟩=some (.slice p b.c.L.length cap)/\W.cell? ⟨w.heap.size,7,none⟩=some (.string b.key)/\W.cell? ⟨w.heap.size,8,none⟩=some (.string b.text)/\Below w1.heap.size w1 W)):=fun W hW=>by
  have hb:=(hW.block _ hlt1).trans hbl1
  exact⟨(rblk_cell hb 0).1,(rblk_cell hb 1).1,(rblk_cell hb 2).1,(rblk_cell hb 3).1,(rblk_cell hb 4).1,(rblk_cell hb 5).1,(rblk_cell hb 6).1,(rblk_cell hb 7).1,(rblk_cell hb 8).1,hW⟩
 have HAS:=asked_any hO w1 (fun V hV=>(hi.ok (hb1.trans (hV.mono hb1.size))).1) (fun V hV=>(hi.ok (hb1.trans (hV.mono hb1.size))).2)
 have HLC:Hid (∀ W,Below w1.heap.size w1 W->Calls Tryz.prog 6 #[.agg #[.int .i64 b.c.n,.int .i64 b.c.k,.slice p b.c.L.length cap]] W fun e w'=>e=.returned (.bool (longC b.c))/\Below w1.heap.size w1 w'):=fun W hW=>(longConfig_any b.c p cap W hi.len hi.size ((hi.strs.below hb1).below hW)).mono fun e w' hq=>⟨hq.1,hW.trans (hq.2.mono hW.size)⟩
 have HMF:Hid (∀ W,Below w1.heap.size w1 W->Calls Tryz.prog 7 #[.slice lp l.length lcap] W fun e w'=>e=.returned (.bool (fitsM l))/\Below w1.heap.size w1 w'):=fun W hW=>(messagesFit_any lp l lcap W hi.much ((hi.msgs.below hb1).below hW)).mono fun e w' hq=>⟨hq.1,hW.trans (hq.2.mono hW.size)⟩
 have HW1:Hid (w1=w.alloc (.cells #[.bool false,.int .i64 b.who,.int .i64 b.op,.int .i64 b.config,.int .i64 b.c.n,.int .i64 b.c.k,.slice p b.c.L.length cap,.string b.key,.string b.text] 26)):=hw1
 have HB1:Hid (Below w.heap.size w w1):=hb1
 rw [h1] at HLC
 rw [h4] at HMF
 obtain⟨n1,n2⟩:=longC_fine h1
 have HST1:Hid (∀ W,Below w1.heap.size w1 W->Strs W p b.c.L):=fun W hW=>(hi.strs.below hb1).below hW
 have HCFA:Hid (∀ W q d,Strs W q b.c.L->b.c.L.length<=d->(q=none->b.c.L=[]/\d=0)->CfgAt W b.c q d):=fun W q d g1 g2 g3=>cfgAt_of g1 g2 g3 h1 hi.ints
 have HOC:Hid (∀ W,(W.cell? ⟨w.heap.size,0,none⟩=some (.bool false)/\W.cell? ⟨w.heap.size,1,none⟩=some (.int .i64 b.who)/\W.cell? ⟨w.heap.size,2,none⟩=some (.int .i64 b.op)/\W.cell? ⟨w.heap.size,3,none⟩=some (.int .i64 b.config)/\W.cell? ⟨w.heap.size,4,none⟩=some (.int .i64 b.c.n)/\W.cell? ⟨w.heap.size,5,none⟩=some (.int .i64 b.c.k)/\W.cell? ⟨w.heap.size,6,none⟩=some (.slice p b.c.L.length cap)/\W.cell? ⟨w.heap.size,7,none⟩=some (.string b.key)/\W.cell? ⟨w.heap.size,8,none⟩=some (.string b.text)/\Below w1.heap.size w1 W)->Calls Tryz.prog 9 #[.agg #[.int .i64 b.c.n,.int .i64 b.c.k,.slice p b.c.L.length cap]] W fun e w'=>∃ q d,e=.returned (.agg #[.int .i64 b.c.n,.int .i64 b.c.k,.slice q b.c.L.length d])/\Hid (CfgAt w' b.c q d)/\(w'.cell? ⟨w.heap.size,0,none⟩=some (.bool false)/\w'.cell? ⟨w.heap.size,1,none⟩=some (.int .i64 b.who)/\w'.cell? ⟨w.heap.size,2,none⟩=some (.int .i64 b.op)/\w'.cell? ⟨w.heap.size,3,none⟩=some (.int .i64 b.config)/\w'.cell? ⟨w.heap.size,4,none⟩=some (.int .i64 b.c.n)/\w'.cell? ⟨w.heap.size,5,none⟩=some (.int .i64 b.c.k)/\w'.cell? ⟨w.heap.size,6,none⟩=some (.slice p b.c.L.length cap)/\w'.cell? ⟨w.heap.size,7,none⟩=some (.string b.key)/\w'.cell? ⟨w.heap.size,8,none⟩=some (.string b.text)/\Below w1.heap.size w1 w')):=fun W hW=>(ownConfig_any b.c p cap W (by omega) (HST1.out W hW.2.2.2.2.2.2.2.2.2) hi.empty).mono fun e w' hq=>by
  obtain⟨⟨q,d,e1,e2,e3,e4⟩,e5⟩:=hq
  exact⟨q,d,e1,HCFA.out w' q d e2 e3 e4,HCE.out w' (hW.2.2.2.2.2.2.2.2.2.trans (e5.mono hW.2.2.2.2.2.2.2.2.2.size))⟩
 have HOKX:Hid (∀ W,Below w1.heap.size w1 W->ErrsQ W ad/\X W):=fun W hW=>hi.ok (hb1.trans (hW.mono hb1.size))
 obtain⟨c1,c2,c3⟩:=bidF_fine' h6
 have HPT:Hid (∀ W q d,Hid (CfgAt W b.c q d)->(W.cell? ⟨w.heap.size,0,none⟩=some (.bool false)/\W.cell? ⟨w.heap.size,1,none⟩=some (.int .i64 b.who)/\W.cell? ⟨w.heap.size,2,none⟩=some (.int .i64 b.op)/\W.cell? ⟨w.heap.size,3,none⟩=some (.int .i64 b.config)/\W.cell? ⟨w.heap.size,4,none⟩=some (.int .i64 b.c.n)/\W.cell? ⟨w.heap.size,5,none⟩=some (.int .i64 b.c.k)/\W.cell? ⟨w.heap.size,6,none⟩=some (.slice p b.c.L.length cap)/\W.cell? ⟨w.heap.size,7,none⟩=some (.string b.key)/\W.cell? ⟨w.heap.size,8,none⟩=some (.string b.text)/\Below w1.heap.size w1 W)->Calls Tryz.prog 10 #[.int .i64 b.who,.int .i64 b.op,.agg #[.int .i64 b.c.n,.int .i64 b.c.k,.slice q b.c.L.length d],.int .i64 b.config,.string b.key] W fun e w'=>∃ h,e=.returned (.tuple #[.pointer (some ⟨h,0,none⟩),.nilIface])/\Hid (AkB Ak w w' h b.ask)/\(w'.cell? ⟨w.heap.size,0,none⟩=some (.bool false)/\w'.cell? ⟨w.heap.size,1,none⟩=some (.int .i64 b.who)/\w'.cell? ⟨w.heap.size,2,none⟩=some (.int .i64 b.op)/\w'.cell? ⟨w.heap.size,3,none⟩=some (.int .i64 b.config)/\w'.cell? ⟨w.heap.size,4,none⟩=some (.int .i64 b.c.n)/\w'.cell? ⟨w.heap.size,5,none⟩=some (.int .i64 b.c.k)/\w'.cell? ⟨w.heap.size,6,none⟩=some (.slice p b.c.L.length cap)/\w'.cell? ⟨w.heap.size,7,none⟩=some (.string b.key)/\w'.cell? ⟨w.heap.size,8,none⟩=some (.string b.text)/\Below w1.heap.size w1 w')):=fun W q d hc hW=>(hO.get b q d W hc.out h5 (by omega) hi.who hi.op hi.config (HOKX.out W hW.2.2.2.2.2.2.2.2.2).1 (HOKX.out W hW.2.2.2.2.2.2.2.2.2).2).mono fun e w' hq=>by
  obtain⟨⟨ev,g1,g2⟩,g3⟩:=hq
  rw [c3] at g1 g2
  obtain rfl:=ErrIs.isNil g1
  have hbw:Below w1.heap.size w1 w':=hW.2.2.2.2.2.2.2.2.2.trans (g3.mono hW.2.2.2.2.2.2.2.2.2.size)
  rcases g2 with ⟨g2,_⟩ | ⟨_,h,S1,g4,g5⟩
  ·exact absurd g2 (by decide)
  ·exact⟨h,g4,⟨_,S1,g5,g3.size,Nat.le_trans hb1.size hW.2.2.2.2.2.2.2.2.2.size⟩,HCE.out w' hbw⟩
 have HBF:Hid (∀ W,Below w1.heap.size w1 W->Calls Tryz.prog 11 #[.agg #[.bool false,.int .i64 b.who,.int .i64 b.op,.int .i64 b.config,.int .i64 b.c.n,.int .i64 b.c.k,.slice p b.c.L.length cap,.string b.key,.string b.text]] W fun e w'=>e=.returned (.agg #[.int .i64 (bidF b).1,.int .i64 (bidF b).2])/\Below W.heap.size W w'):=fun W hW=>by
  have hbf:=bidFault_any b p cap W (HCFA.out W p cap (HST1.out W hW) hi.room hi.empty) (by omega)
  unfold bidA at hbf
  rw [h5] at hbf
  exact hbf
 rw [c3] at HBF
 obtain⟨wn,hwn⟩:∃ wn:Nat,b.who=(wn:Int):=⟨b.who.toNat,by have:=c2.1;omega⟩
 have hwn6:wn < 6:=by have:=c2.2.1;omega
 have hdig:∀ W,Calls Tryz.prog 13 #[.int .i64 b.who] W fun e w'=>e=.returned (.string (strOf [48+wn]))/\Below W.heap.size W w':=fun W=>by rw [hwn];exact decimal_digit wn (by omega) W
 have HDC:Hid (∀ W h,(W.cell? ⟨w.heap.size,0,none⟩=some (.bool false)/\W.cell? ⟨w.heap.size,1,none⟩=some (.int .i64 b.who)/\W.cell? ⟨w.heap.size,2,none⟩=some (.int .i64 b.op)/\W.cell? ⟨w.heap.size,3,none⟩=some (.int .i64 b.config)/\W.cell? ⟨w.heap.size,4,none⟩=some (.int .i64 b.c.n)/\W.cell? ⟨w.heap.size,5,none⟩=some (.int .i64 b.c.k)/\W.cell? ⟨w.heap.size,6,none⟩=some (.slice p b.c.L.length cap)/\W.cell? ⟨w.heap.size,7,none⟩=some (.string b.key)/\W.cell? ⟨w.heap.size,8,none⟩=some (.string b.text)/\Below w1.heap.size w1 W)->Hid (AkB Ak w W h b.ask)->Calls Tryz.prog 13 #[.int .i64 b.who] W fun e w'=>e=.returned (.string (strOf [48+wn]))/\Hid (AkB Ak w w' h b.ask)/\(w'.cell? ⟨w.heap.size,0,none⟩=some (.bool false)/\w'.cell? ⟨w.heap.size,1,none⟩=some (.int .i64 b.who)/\w'.cell? ⟨w.heap.size,2,none⟩=some (.int .i64 b.op)/\w'.cell? ⟨w.heap.size,3,none⟩=some (.int .i64 b.config)/\w'.cell? ⟨w.heap.size,4,none⟩=some (.int .i64 b.c.n)/\w'.cell? ⟨w.heap.size,5,none⟩=some (.int .i64 b.c.k)/\w'.cell? ⟨w.heap.size,6,none⟩=some (.slice p b.c.L.length cap)/\w'.cell? ⟨w.heap.size,7,none⟩=some (.string b.key)/\w'.cell? ⟨w.heap.size,8,none⟩=some (.string b.text)/\Below w1.heap.size w1 w')):=fun W h hW hA=>(hdig W).mono fun e w' hq=>⟨hq.1,hA.out.below hO hq.2,HCE.out w' (hW.2.2.2.2.2.2.2.2.2.trans (hq.2.mono hW.2.2.2.2.2.2.2.2.2.size))⟩
 have hsum:∀ W:World,Sem.run Tryz.prog (Op.stringOp .add ⟨#[99]⟩ (strOf [48+wn])) W=.ok (.string (clientN b.who)) W:=fun W=>by
  rw [hwn,<- client_sum hwn6]
  exact run_string_add_sum W _ _ (by rw [strOf_size];show 1+1<=_;omega)
 have hfit:weighM l < 6000:=by unfold fitsM at h4;rw [Bool.and_eq_true] at h4;exact of_decide_eq_true h4.2
 have HVI:Hid (∀ m ∈ l,∀ v ∈ m.L,VerI64 v):=hi.vers
 have HGG:Hid (∀ V:World,w.heap.size<=V.heap.size->(∀ k,k < w.heap.size->V.heap[k]?=w.heap[k]?)->ErrsQ V ad/\X V):=hi.errs
 have HBIDF:Hid (¬ 0 < (cfgF b.c).1):=c1
 have HST0:Hid (Strs w p b.c.L/\b.c.L.length<=cap/\(p=none->b.c.L=[]/\cap=0)):=⟨hi.strs,hi.room,hi.empty⟩
 have HOO:Hid (AskOk ad X Ak):=hO
 have HFF:Hid (∀ (w:World) (B h:Nat) (S:Nat->Prop) (a:MAsk),Ak w B h S a->AFine a):=fun w B h S a hA=>hF hA
 have HMS:Hid (MsgsAt w lp l):=hi.msgs
 have HFIT:Hid (weighM l < 6000):=hfit
 have hln:l.length<=6000:=Nat.le_trans (weighM_len l) (by omega)
 clear c2 c3 hF hfit
 have HS9:Hid (∀ W,Below w1.heap.size w1 W->(W.cell? ⟨w.heap.size,0,none⟩=some (.bool false)/\W.cell? ⟨w.heap.size,1,none⟩=some (.int .i64 b.who)/\W.cell? ⟨w.heap.size,2,none⟩=some (.int .i64 b.op)/\W.cell? ⟨w.heap.size,3,none⟩=some (.int .i64 b.config)/\W.cell? ⟨w.heap.size,4,none⟩=some (.int .i64 b.c.n)/\W.cell? ⟨w.heap.size,5,none⟩=some (.int .i64 b.c.k)/\W.cell? ⟨w.heap.size,6,none⟩=some (.slice p b.c.L.length cap)/\W.cell? ⟨w.heap.size,7,none⟩=some (.string b.key)/\W.cell? ⟨w.heap.size,8,none⟩=some (.string b.text)/\Below w1.heap.size w1 W)):=HCE.out
 have H5:Hid (b.put=false):=h5
 clear h1 h4 h5 h6
 clear hwn
 clear hi hO hw1 hb1 hlt1 hbl1 n2 HCFA HST1 HOKX
 go_enter Tryz.func3,Tryz.ntmps3
 go_wp2_with (first | rw [<- HW1.out] | fail)
 refine HAS.mono ?_
 rintro e w2 ⟨rfl,hb2⟩
 have HB2:Hid (Below w1.heap.size w1 w2):=hb2
 clear hb2 HAS
 go_upto_region 2 with fail
 go_cut [50] from 15 to 50 (fun v W=>v=.bool false/\Below w1.heap.size w1 W)
 case first =>
  obtain⟨d0,d1,d2,d3,d4,d5,d6,d7,d8,_⟩:=HCE.out w2 HB2.out
  rcases h3 with h3 | h3
  ·skip
   have q1:decide ((100:Int) < (b.key.size:Int))=false:=decide_eq_false (by omega)
   have q2:decide ((100:Int) < (b.text.size:Int))=false:=decide_eq_false (by omega)
   have q4:decide ((2000:Int) < (b.text.size:Int))=false:=decide_eq_false (by omega)
   go_wp2_with fail
   refine(HLC.out w2 HB2.out).mono ?_
   rintro e w3 ⟨rfl,hb3⟩
   clear d0 d1 d2 d3 d4 d5 d6 d7 d8
   obtain⟨d0,d1,d2,d3,d4,d5,d6,d7,d8,_⟩:=HCE.out w3 hb3
   have HB3:Hid (Below w1.heap.size w1 w3):=hb3
   clear hb3
   go_wp2_with fail
   refine(HMF.out w3 HB3.out).mono ?_
   rintro e w4 ⟨rfl,hb4⟩
   have HB4:Hid (Below w1.heap.size w1 w4):=hb4
   clear d0 d1 d2 d3 d4 d5 d6 d7 d8 hb4
   go_wp2_with fail
   go_meet
   exact⟨rfl,HB4.out⟩
  ·skip
   have q1:decide ((100:Int) < (b.key.size:Int))=false:=decide_eq_false (by omega)
   have q2:decide ((100:Int) < (b.text.size:Int))=true:=decide_eq_true (by omega)
   have q3:decide ((b.text.size:Int)<=1000)=false:=decide_eq_false (by omega)
   have q4:decide ((2000:Int) < (b.text.size:Int))=false:=decide_eq_false (by omega)
   go_wp2_with fail
   refine(HLC.out w2 HB2.out).mono ?_
   rintro e w3 ⟨rfl,hb3⟩
   clear d0 d1 d2 d3 d4 d5 d6 d7 d8
   obtain⟨d0,d1,d2,d3,d4,d5,d6,d7,d8,_⟩:=HCE.out w3 hb3
   have HB3:Hid (Below w1.heap.size w1 w3):=hb3
   clear hb3
   go_wp2_with fail
   refine(HMF.out w3 HB3.out).mono ?_
   rintro e w4 ⟨rfl,hb4⟩
   have HB4:Hid (Below w1.heap.size w1 w4):=hb4
   clear d0 d1 d2 d3 d4 d5 d6 d7 d8 hb4
   go_wp2_with fail
   go_meet
   exact⟨rfl,HB4.out⟩
 case rest =>
  obtain⟨rfl,hb4⟩:=hcut
  obtain⟨w4,rfl⟩:∃ w4,w4=wc:=⟨_,rfl⟩
  have HB4:Hid (Below w1.heap.size w1 w4):=hb4
  have d0:=(HCE.out w4 hb4).1
  have HS40:=HS9.out w4.drew hb4.drew
  clear hb4 HLC HMF h3 HB2
  go_wp2
  go_region_held3 (fun W=>(W.cell? ⟨w.heap.size,0,none⟩=some (.bool false)/\W.cell? ⟨w.heap.size,1,none⟩=some (.int .i64 b.who)/\W.cell? ⟨w.heap.size,2,none⟩=some (.int .i64 b.op)/\W.cell? ⟨w.heap.size,3,none⟩=some (.int .i64 b.config)/\W.cell? ⟨w.heap.size,4,none⟩=some (.int .i64 b.c.n)/\W.cell? ⟨w.heap.size,5,none⟩=some (.int .i64 b.c.k)/\W.cell? ⟨w.heap.size,6,none⟩=some (.slice p b.c.L.length cap)/\W.cell? ⟨w.heap.size,7,none⟩=some (.string b.key)/\W.cell? ⟨w.heap.size,8,none⟩=some (.string b.text)/\Below w1.heap.size w1 W)) (first | assumption | exact HS40) (first | (go_at_call 9;refine(HOC.out _ (by assumption)).mono ?_;rintro e w5 ⟨q5,d5,rfl,hC5,hS5⟩) | (go_at_call 10;refine(HPT.out _ _ _ (by assumption) (by assumption)).mono ?_;rintro e w6 ⟨h,rfl,hA6,hS6⟩))
  obtain⟨e0,e1,e2,e3,e4,e5,e6,e7,e8,hb6⟩:=hS6
  have HB6:Hid (Below w1.heap.size w1 w6):=hb6
  have HB6F:=HBF.out w6 hb6
  clear hb6 HS40 HOC HPT hC5 hS5 d0 HBF
  go_wp2_with fail
  refine HB6F.mono ?_
  rintro e w7 ⟨rfl,hb7⟩
  obtain⟨w8,hw8⟩:∃ w8,w8=w7.alloc (.cells #[.int .i64 0,.int .i64 (-1)] 39):=⟨_,rfl⟩
  have hb78:Below w7.heap.size w7 w8:=zBe hw8
  have k0:w8.cell? ⟨w7.heap.size,0,none⟩=some (.int .i64 0):=zAc hw8 rfl
  have hb68:Below w6.heap.size w6 w8:=hb7.trans (hb78.mono hb7.size)
  have hb18:Below w1.heap.size w1 w8:=HB6.out.trans (hb68.mono HB6.out.size)
  have HB18:Hid (Below w1.heap.size w1 w8):=hb18
  have HW8:Hid (w8=w7.alloc (.cells #[.int .i64 0,.int .i64 (-1)] 39)):=hw8
  have HA8:Hid (AkB Ak w w8.drew h b.ask):=(hA6.out.below HOO.out hb68).below HOO.out (Below.refl _ _).drew
  obtain⟨e0,e1,e2,e3,e4,e5,e6,e7,e8,_⟩:=HS9.out w8 hb18
  have HS80:=HS9.out w8.drew hb18.drew
  clear hA6 hw8 hb78 hb68 hb18 hb7 HB6F
  go_wp2_with (first | rw [<- HW8.out] | fail)
  go_region_held3 (fun W=>(W.cell? ⟨w.heap.size,0,none⟩=some (.bool false)/\W.cell? ⟨w.heap.size,1,none⟩=some (.int .i64 b.who)/\W.cell? ⟨w.heap.size,2,none⟩=some (.int .i64 b.op)/\W.cell? ⟨w.heap.size,3,none⟩=some (.int .i64 b.config)/\W.cell? ⟨w.heap.size,4,none⟩=some (.int .i64 b.c.n)/\W.cell? ⟨w.heap.size,5,none⟩=some (.int .i64 b.c.k)/\W.cell? ⟨w.heap.size,6,none⟩=some (.slice p b.c.L.length cap)/\W.cell? ⟨w.heap.size,7,none⟩=some (.string b.key)/\W.cell? ⟨w.heap.size,8,none⟩=some (.string b.text)/\Below w1.heap.size w1 W)) (first | assumption | exact HS80 | exact HS9.out _ (hS9x.2.2.2.2.2.2.2.2.2.alloc hS9x.2.2.2.2.2.2.2.2.2.size _)) (first | (go_at_call 13;refine(HDC.out _ _ (by assumption) (by assumption)).mono ?_;rintro e w9 ⟨rfl,hA9,hS9x⟩))
  have hb19:Below w1.heap.size w1 w9:=hS9x.2.2.2.2.2.2.2.2.2
  have hlt9:w.heap.size < w9.heap.size:=Nat.lt_of_lt_of_le (by have:=HW1.out;rw [this];simp) hb19.size
  have hbA:Below w9.heap.size w9 (w9.alloc (.cells #[.string (clientN b.who),.string b.key,.int .i64 b.who,.int .i64 b.op,.int .i64 b.config,.int .i64 b.c.n,.int .i64 b.c.k,.slice p b.c.L.length cap,.int .i64 0,.int .i64 0,.slice none 0 0,.bool false,.bool false,.string ⟨#[108,111,111,107,105,110,103]⟩,.slice none 0 0,.slice none 0 0,.int .i64 0,.int .i64 0,.string ⟨#[]⟩,.bool false] 48)):=(Below.refl _ _).alloc (Nat.le_refl _) _
  have y0:(w9.alloc (.cells #[.string (clientN b.who),.string b.key,.int .i64 b.who,.int .i64 b.op,.int .i64 b.config,.int .i64 b.c.n,.int .i64 b.c.k,.slice p b.c.L.length cap,.int .i64 0,.int .i64 0,.slice none 0 0,.bool false,.bool false,.string ⟨#[108,111,111,107,105,110,103]⟩,.slice none 0 0,.slice none 0 0,.int .i64 0,.int .i64 0,.string ⟨#[]⟩,.bool false] 48)).cell? ⟨w.heap.size,0,none⟩=some (.bool false):=by rw [hbA.cell (p:=⟨w.heap.size,0,none⟩) hlt9,hS9x.1]
  have y8:(w9.alloc (.cells #[.string (clientN b.who),.string b.key,.int .i64 b.who,.int .i64 b.op,.int .i64 b.config,.int .i64 b.c.n,.int .i64 b.c.k,.slice p b.c.L.length cap,.int .i64 0,.int .i64 0,.slice none 0 0,.bool false,.bool false,.string ⟨#[108,111,111,107,105,110,103]⟩,.slice none 0 0,.slice none 0 0,.int .i64 0,.int .i64 0,.string ⟨#[]⟩,.bool false] 48)).cell? ⟨w.heap.size,8,none⟩=some (.string b.text):=by rw [hbA.cell (p:=⟨w.heap.size,8,none⟩) hlt9];exact hS9x.2.2.2.2.2.2.2.2.1
  obtain⟨w10,hw10⟩:∃ w10,w10=w9.alloc (.cells #[.string (clientN b.who),.string b.key,.int .i64 b.who,.int .i64 b.op,.int .i64 b.config,.int .i64 b.c.n,.int .i64 b.c.k,.slice p b.c.L.length cap,.int .i64 0,.int .i64 0,.slice none 0 0,.bool false,.bool false,.string ⟨#[108,111,111,107,105,110,103]⟩,.slice none 0 0,.slice none 0 0,.int .i64 0,.int .i64 0,.string ⟨#[]⟩,.bool false] 48):=⟨_,rfl⟩
  have z0:w10.cell? ⟨w.heap.size,0,none⟩=some (.bool false):=by rw [hw10];exact y0
  have hb910:Below w9.heap.size w9 w10:=zBe hw10
  have hz10:w10.heap.size=w9.heap.size+1:=by rw [hw10];simp
  have hb110:Below w1.heap.size w1 w10:=hb19.trans (hb910.mono hb19.size)
  have hb010:Below w.heap.size w w10:=HB1.out.trans (hb110.mono HB1.out.size)
  have hblk:w10.heap[w9.heap.size]?=some (.cells #[.string (clientN b.who),.string b.key,.int .i64 b.who,.int .i64 b.op,.int .i64 b.config,.int .i64 b.c.n,.int .i64 b.c.k,.slice p b.c.L.length cap,.int .i64 0,.int .i64 0,.slice none 0 0,.bool false,.bool false,.string ⟨#[108,111,111,107,105,110,103]⟩,.slice none 0 0,.slice none 0 0,.int .i64 0,.int .i64 0,.string ⟨#[]⟩,.bool false] 48 (0,0)):=by rw [hw10];show(w9.heap.push _)[w9.heap.size]?=_;simp
  obtain⟨⟨_,_,m12⟩,mln,_,_,_⟩:=cfgF_fine (c:=b.c) (by have:=HBIDF.out;omega)
  have HMID:Hid (∃ B,Mid Ak w.heap.size B h w9.heap.size (.slice p b.c.L.length cap) (.slice none 0 0) w10.heap.size w10 b.ask b.ask):=by
   obtain⟨B,S,g1,g2,g3⟩:=hA9.out.below HOO.out hb910
   obtain⟨B',S',g1',g2',g3'⟩:=hA9.out
   have hRA:RAk w10 w.heap.size (fun k=>k=w9.heap.size) w9.heap.size b.ask (.slice p b.c.L.length cap) (.slice none 0 0) (.slice none 0 0) (.slice none 0 0) []:=by
    refine⟨hblk.trans ?_,⟨p,cap,rfl,HST0.out.1.below hb010,HST0.out.2.1,HST0.out.2.2,fun b' o' e'=>?_⟩,⟨none,0,rfl,Or.inl rfl,Nat.le_refl _,fun _=>⟨rfl,rfl⟩,(fun b' o' e'=>by cases e')⟩,OwnT.nil _ _,⟨OwnV.nil _ _ _,rfl,fun i hi=>absurd hi (Nat.not_lt_zero _)⟩,rfl,(fun k hk=>by cases hk),(fun k hk=>by cases hk),(fun v hv=>by cases hv),fun k hk=>⟨by rw [hk];omega,by rw [hk];omega⟩⟩
    ·unfold akCells Bid.ask
     rw [H5.out]
     rfl
    ·rcases HST0.out.1 with e0 | ⟨b2,o2,e2,e3,_⟩
     ·rw [e0] at mln;simp at mln;omega
     ·rw [e2] at e';injection e' with e';injection e' with e4;omega
   refine⟨B',S',(fun k=>k=w9.heap.size),.slice none 0 0,.slice none 0 0,[],HOO.out.keep g1' (hb910.mono g2') (fun k hk=>hb910.block k (HOO.out.inS g1' k hk).2),hRA,fun k hk hk'=>by have:=(HOO.out.inS g1' k hk).2;omega,fun k hk=>⟨by rw [hk];exact g2',by rw [hk];omega⟩,by omega,g3',Nat.le_refl _⟩
  have HW10:Hid (w10=w9.alloc (.cells #[.string (clientN b.who),.string b.key,.int .i64 b.who,.int .i64 b.op,.int .i64 b.config,.int .i64 b.c.n,.int .i64 b.c.k,.slice p b.c.L.length cap,.int .i64 0,.int .i64 0,.slice none 0 0,.bool false,.bool false,.string ⟨#[108,111,111,107,105,110,103]⟩,.slice none 0 0,.slice none 0 0,.int .i64 0,.int .i64 0,.string ⟨#[]⟩,.bool false] 48)):=hw10
  have HB010:Hid (Below w.heap.size w w10):=hb010
  have hab:=hlt9
  clear hA9 hS9x hbA hw10 hb910 hb110 hb010 hblk HDC HS80 HA8 e0 e1 e2 e3 e4 e5 e6 e7 e8 k0 hb19 HST0 hsum hdig hz10 m12 mln HW8 HB18 HB6
  obtain⟨B,hMid⟩:=HMID.out
  have HM10:Hid (Mid Ak w.heap.size B h w9.heap.size (.slice p b.c.L.length cap) (.slice none 0 0) w10.heap.size w10 b.ask b.ask):=hMid
  have HX10:=(HGG.out w10 HB010.out.size (fun k hk=>HB010.out.block k hk)).2
  have HBG:=mid_begin HOO.out rfl HB010.out HX10 hMid
  obtain⟨bs1,bs2⟩:=begin_short b
  have HBS:Hid (b.ask.begin.length<=1000/\∀ m ∈ b.ask.begin,m.L.length<=1000000):=⟨by omega,bs2⟩
  have HFA:Hid (AFine b.ask):=by obtain⟨S,S',fv,lv,vs,g1,_⟩:=hMid;exact HFF.out _ _ _ _ _ g1
  clear hMid HMID bs1 bs2 HX10
  obtain⟨BG,hBG⟩:∃ BG,BG=b.ask.begin:=⟨_,rfl⟩
  rw [<- hBG] at HBG HBS
  have HBGE:Hid (b.ask.begin=BG):=hBG.symm
  clear hBG
  go_wp2_with (first | rw [<- HW10.out] | fail)
  refine HBG.mono ?_
  rintro e w11 ⟨p11,c11,rfl,hM11,hb11⟩
  have HBW:=backWires_any w10.heap.size p11 BG c11 w11 HBS.out.1 (by obtain⟨_,_,_,_,_,_,_,_,_,_,_,g⟩:=hM11.out.2;exact g) hM11.out.1
  have HM11:Hid (Mid Ak w.heap.size B h w9.heap.size (.slice p b.c.L.length cap) (.slice none 0 0) w10.heap.size w11 b.ask b.ask):=hM11.out.2
  have HB11:Hid (Below w.heap.size w w11):=hb11
  clear hM11 hb11 HBG y0 y8 HM10 HB010
  go_wp2_with fail
  refine HBW.mono ?_
  rintro e w12 ⟨⟨p12,c12,rfl,hN12⟩,hb12⟩
  have HN12:Hid (MsgsN w10.heap.size w12 p12 BG):=hN12
  have hM12:=HM11.out.below HOO.out hb12
  have HM12:Hid (Mid Ak w.heap.size B h w9.heap.size (.slice p b.c.L.length cap) (.slice none 0 0) w10.heap.size w12 b.ask b.ask):=hM12
  have HB12:Hid (Below w.heap.size w w12):=HB11.out.trans (hb12.mono HB11.out.size)
  have HRB:Hid (Calls Tryz.prog 17 #[.pointer (some ⟨w9.heap.size,0,none⟩)] w12 fun e w'=>(∃ p c,e=.returned (.slice p BG.length c)/\MsgsAt w' p BG)/\Below w12.heap.size w12 w'):=by
   obtain⟨S,S',fv,lv,vs,_,g2,_⟩:=hM12
   have:=rbegin_any g2 (by show b.c.L.length<=1000;omega)
   rw [HBGE.out] at this
   exact this
  clear hN12 hb12 hM12 HBW HM11 HB11
  go_wp2_with fail
  refine HRB.out.mono ?_
  rintro e w13 ⟨⟨p13,c13,rfl,hm13⟩,hb13⟩
  have HSM:=sameMsgs_yes p12 p13 BG c12 c13 w13 HBS.out.1 HBS.out.2 (HN12.out.below hb13).at_ hm13
  have HM13:Hid (Mid Ak w.heap.size B h w9.heap.size (.slice p b.c.L.length cap) (.slice none 0 0) w10.heap.size w13 b.ask b.ask):=HM12.out.below HOO.out hb13
  have HB13:Hid (Below w.heap.size w w13):=HB12.out.trans (hb13.mono HB12.out.size)
  clear hm13 hb13 HRB HM12 HB12 HN12
  go_wp2_with fail
  refine HSM.mono ?_
  rintro e w14 ⟨rfl,hb14⟩
  have HM14:Hid (Mid Ak w.heap.size B h w9.heap.size (.slice p b.c.L.length cap) (.slice none 0 0) w14.heap.size w14 b.ask b.ask):=(HM13.out.below HOO.out hb14).up
  have HB14:Hid (Below w.heap.size w w14):=HB13.out.trans (hb14.mono HB13.out.size)
  clear hb14 HSM HM13 HB13 HBS
  go_wp2
  generalize w9.heap.size=ab at *
  clear HCE HW1 HS9 H5 HBIDF HB4 HW10 HBGE
  go_loopw [10] (fun x wr=>∃ i:Nat,i<=l.length/\x=.int .i64 i/\(∃ a,Mid Ak w.heap.size B h ab (.slice p b.c.L.length cap) (.slice none 0 0) wr.heap.size wr a a/\AFine a/\bulkV a.L.flatten<=weighM (l.take i))/\Below w.heap.size w wr) (fun x _=>l.length - (intOf x).toNat)
  case atStart=>exact⟨0,Nat.zero_le _,rfl,⟨b.ask,HM14.out,HFA.out,Nat.zero_le _⟩,HB14.out⟩
  case round =>
   obtain⟨i,hi,rfl,⟨a,hM,hA,hbk⟩,hB⟩:=hrel
   obtain⟨w20,rfl⟩:∃ w20,w20=wr:=⟨_,rfl⟩
   have HB20:Hid (Below w.heap.size w w20):=hB
   clear HM14 HB14 HFA
   by_cases hil:i < l.length
   ·obtain⟨mb,mo,m1,m2,m3,m4,m5,m6,m7,mL,lq,lc,r1,r2,rl,sw,fd,t1,t2,tx,hmp,HSC,HWO,HHE,HBW,HRH,HSM,HSS,halt,HFA2,HNB⟩:=rnd_all (w20:=w20) (B:=B) (h:=h) (ab:=ab) (mv:=(.slice p b.c.L.length cap)) (nv:=(.slice none 0 0)) HOO.out HFF.out HGG.out HMS.out HVI.out HFIT.out hil hA hbk
    have HS0:=HSC.out w20.drew HB20.out.drew
    have HMD0:Hid (Mid Ak w.heap.size B h ab (.slice p b.c.L.length cap) (.slice none 0 0) w20.heap.size w20.drew a a):=hM.below HOO.out (Below.refl _ _).drew
    subst hmp
    have HAL:Hid ((Hid (sw=⟨#[100,111,110,101]⟩/\fd=true)/\Hid (∀ W,Below w.heap.size w W->Mid Ak w.heap.size B h ab (.slice p b.c.L.length cap) (.slice none 0 0) W.heap.size W r1 r1->Calls Tryz.prog 22 #[.pointer (some ⟨h,0,none⟩)] W fun e w'=>e=.returned (.tuple #[.agg #[.int .i64 t1,.int .i64 t2],.string tx,.bool true])/\(w'.cell? ⟨ab,13,none⟩=some (.string sw)/\w'.cell? ⟨ab,19,none⟩=some (.bool fd)/\w'.cell? ⟨ab,16,none⟩=some (.int .i64 t1)/\w'.cell? ⟨ab,17,none⟩=some (.int .i64 t2)/\w'.cell? ⟨ab,18,none⟩=some (.string tx))/\Mid Ak w.heap.size B h ab (.slice p b.c.L.length cap) (.slice none 0 0) w'.heap.size w' r1 r1/\Below w.heap.size w w'))∨(Hid (¬ sw.toList=[100,111,110,101]∨fd=false)/\Hid (∀ W,Below w.heap.size w W->Mid Ak w.heap.size B h ab (.slice p b.c.L.length cap) (.slice none 0 0) W.heap.size W r1 r1->Calls Tryz.prog 22 #[.pointer (some ⟨h,0,none⟩)] W fun e w'=>e=.returned (.tuple #[.agg #[.int .i64 0,.int .i64 0],.string ⟨#[]⟩,.bool false])/\(w'.cell? ⟨ab,13,none⟩=some (.string sw)/\w'.cell? ⟨ab,19,none⟩=some (.bool fd)/\w'.cell? ⟨ab,16,none⟩=some (.int .i64 t1)/\w'.cell? ⟨ab,17,none⟩=some (.int .i64 t2)/\w'.cell? ⟨ab,18,none⟩=some (.string tx))/\Mid Ak w.heap.size B h ab (.slice p b.c.L.length cap) (.slice none 0 0) w'.heap.size w' r1 r1/\Below w.heap.size w w'))):=halt
    clear hM hA hbk hB halt HMS HVI HFIT HGG HFF
    go_upto_region 22 with fail
    go_cut [166] from 136 to 212 (fun v W=>v=.bool false/\Mid Ak w.heap.size B h ab (.slice p b.c.L.length cap) (.slice none 0 0) W.heap.size W r1 r1/\Below w.heap.size w W)
    case first =>
     clear HAL HFA2 HNB HOO HSC
     refine wp_region_held_drew (S:=fun W=>(W.cell? ⟨mb,mo+i*8,none⟩=some (.string m1)/\W.cell? ⟨mb,mo+i*8+1,none⟩=some (.string m2)/\W.cell? ⟨mb,mo+i*8+2,none⟩=some (.string m3)/\W.cell? ⟨mb,mo+i*8+3,none⟩=some (.string m4)/\W.cell? ⟨mb,mo+i*8+4,none⟩=some (.int .i64 m5)/\W.cell? ⟨mb,mo+i*8+5,none⟩=some (.int .i64 m6)/\W.cell? ⟨mb,mo+i*8+6,none⟩=some (.bool m7)/\W.cell? ⟨mb,mo+i*8+7,none⟩=some (.slice lq mL.length lc)/\Below w.heap.size w W)) (by kernel_rfl) HS0 (fun hHeld=>?_)
     refine wpAnyH_take (i:=0) (oi:={ dst:=some 142,op:=Op.move (Operand.tmp 6),type:=31,pos := "parts.go:490",after:=#[],guard:=none }) (v:=?_) rfl (by kernel_rfl) (by kernel_rfl) (by kernel_rfl) (fun _ _ _ h=>h) (Or.inl ⟨by rfl,?_⟩) hHeld ?_
     rotate_left
     ·(intro w hSw;(try dsimp only at hSw);go_simp;try with_reducible rfl)
     try simp only [Act.put,sA,sZ,sS]
     refine wpAnyH_take (i:=1) (oi:={ dst:=some 143,op:=Op.move (Operand.tmp 1),type:=27,pos := "parts.go:490",after:=#[],guard:=none }) (v:=?_) rfl (by kernel_rfl) (by kernel_rfl) (by kernel_rfl) (fun _ _ _ h=>h) (Or.inl ⟨by rfl,?_⟩) hHeld ?_
     rotate_left
     ·(intro w hSw;(try dsimp only at hSw);go_simp;try with_reducible rfl)
     try simp only [Act.put,sA,sZ,sS]
     refine wpAnyH_take (i:=2) (oi:={ dst:=some 144,op:=Op.move (Operand.tmp 10),type:=3,pos := "parts.go:490",after:=#[],guard:=none }) (v:=?_) rfl (by kernel_rfl) (by kernel_rfl) (by kernel_rfl) (fun _ _ _ h=>h) (Or.inl ⟨by rfl,?_⟩) hHeld ?_
     rotate_left
     ·(intro w hSw;(try dsimp only at hSw);go_simp;try with_reducible rfl)
     try simp only [Act.put,sA,sZ,sS]
     refine wpAnyH_take (i:=3) (oi:={ dst:=some 145,op:=Op.indexAddr 27 (Operand.tmp 143) (Operand.tmp 144),type:=0,pos := "parts.go:490",after:=#[{ on:=1,ground:=Ground.data },{ on:=2,ground:=Ground.data }],guard:=none }) (v:=?_) rfl (by kernel_rfl) (by kernel_rfl) (by kernel_rfl) (fun _ _ _ h=>h) (Or.inl ⟨by rfl,?_⟩) hHeld ?_
     rotate_left
     ·(intro w hSw;(try dsimp only at hSw);go_simp;try with_reducible rfl)
     try simp only [Act.put,sA,sZ,sS]
     refine wpAnyH_take (i:=4) (oi:={ dst:=some 146,op:=Op.load 59 (Operand.tmp 145),type:=59,pos := "parts.go:490",after:=#[{ on:=3,ground:=Ground.data }],guard:=none }) (v:=?_) rfl (by kernel_rfl) (by kernel_rfl) (by kernel_rfl) (fun _ _ _ h=>h) (Or.inl ⟨by rfl,?_⟩) hHeld ?_
     rotate_left
     ·(intro w hSw;(try dsimp only at hSw);go_simp;try with_reducible rfl)
     try simp only [Act.put,sA,sZ,sS]
     refine wpAnyH_take (i:=8) (oi:={ dst:=some 150,op:=Op.move (Operand.tmp 9),type:=42,pos := "parts.go:490",after:=#[],guard:=none }) (v:=?_) rfl (by kernel_rfl) (by kernel_rfl) (by kernel_rfl) (fun _ _ _ h=>h) (Or.inl ⟨by rfl,?_⟩) hHeld ?_
     rotate_left
     ·(intro w hSw;(try dsimp only at hSw);go_simp;try with_reducible rfl)
     try simp only [Act.put,sA,sZ,sS]
     refine wpAnyH_take (i:=9) (oi:={ dst:=some 151,op:=Op.move (Operand.tmp 1),type:=27,pos := "parts.go:490",after:=#[],guard:=none }) (v:=?_) rfl (by kernel_rfl) (by kernel_rfl) (by kernel_rfl) (fun _ _ _ h=>h) (Or.inl ⟨by rfl,?_⟩) hHeld ?_
     rotate_left
     ·(intro w hSw;(try dsimp only at hSw);go_simp;try with_reducible rfl)
     try simp only [Act.put,sA,sZ,sS]
     refine wpAnyH_take (i:=10) (oi:={ dst:=some 152,op:=Op.move (Operand.tmp 10),type:=3,pos := "parts.go:490",after:=#[],guard:=none }) (v:=?_) rfl (by kernel_rfl) (by kernel_rfl) (by kernel_rfl) (fun _ _ _ h=>h) (Or.inl ⟨by rfl,?_⟩) hHeld ?_
     rotate_left
     ·(intro w hSw;(try dsimp only at hSw);go_simp;try with_reducible rfl)
     try simp only [Act.put,sA,sZ,sS]
     refine wpAnyH_take (i:=11) (oi:={ dst:=some 153,op:=Op.indexAddr 27 (Operand.tmp 151) (Operand.tmp 152),type:=0,pos := "parts.go:490",after:=#[{ on:=9,ground:=Ground.data },{ on:=10,ground:=Ground.data }],guard:=none }) (v:=?_) rfl (by kernel_rfl) (by kernel_rfl) (by kernel_rfl) (fun _ _ _ h=>h) (Or.inl ⟨by rfl,?_⟩) hHeld ?_
     rotate_left
     ·(intro w hSw;(try dsimp only at hSw);go_simp;try with_reducible rfl)
     try simp only [Act.put,sA,sZ,sS]
     refine wpAnyH_take (i:=12) (oi:={ dst:=some 154,op:=Op.load 59 (Operand.tmp 153),type:=59,pos := "parts.go:490",after:=#[{ on:=11,ground:=Ground.data }],guard:=none }) (v:=?_) rfl (by kernel_rfl) (by kernel_rfl) (by kernel_rfl) (fun _ _ _ h=>h) (Or.inl ⟨by rfl,?_⟩) hHeld ?_
     rotate_left
     ·(intro w hSw;(try dsimp only at hSw);go_simp;try with_reducible rfl)
     try simp only [Act.put,sA,sZ,sS]
     refine wpAnyH_ready (rs:=[5]) (by kernel_rfl) (by simp) ?_
     refine AllReadyH.cons (o:={ dst:=some 147,op:=Op.call { callee:=Callee.value (Operand.func 19),args:=#[Operand.tmp 146],argTypes:=#[59] },type:=57,pos := "parts.go:490",after:=#[{ on:=4,ground:=Ground.data }],guard:=none }) rfl (fun K hK=>?_) AllReadyH.nil
     go_simp
     (go_at_call 19;refine(HWO.out _ (by assumption) (by assumption)).mono ?_;rintro e v1 ⟨q1,d1,rfl,hT1,hS1⟩)
     first | (refine hK.out _ _ ?_ (fun hHeld=>?_)) | (go_wp2_with fail;refine hK.out _ _ ?_ (fun hHeld=>?_))
     ·exact hS1
     clear hK K
     try simp only [Act.put,sA,sZ,sS]
     refine wpAnyH_ready (rs:=[6]) (by kernel_rfl) (by simp) ?_
     refine AllReadyH.cons (o:={ dst:=some 148,op:=Op.call { callee:=Callee.value (Operand.func 18),args:=#[Operand.tmp 142,Operand.tmp 147],argTypes:=#[31,57] },type:=51,pos := "parts.go:490",after:=#[{ on:=0,ground:=Ground.data },{ on:=5,ground:=Ground.data },{ on:=5,ground:=Ground.chain }],guard:=none }) rfl (fun K hK=>?_) AllReadyH.nil
     go_simp
     (go_at_call 18;refine(HHE.out _ _ _ (by assumption) (by assumption)).mono ?_;rintro e v2 ⟨p2,c2,rfl,hT2,hS2⟩)
     first | (refine hK.out _ _ ?_ (fun hHeld=>?_)) | (go_wp2_with fail;refine hK.out _ _ ?_ (fun hHeld=>?_))
     ·exact hS2
     clear hK K
     try simp only [Act.put,sA,sZ,sS]
     refine wpAnyH_ready (rs:=[7]) (by kernel_rfl) (by simp) ?_
     refine AllReadyH.cons (o:={ dst:=some 149,op:=Op.call { callee:=Callee.value (Operand.func 15),args:=#[Operand.tmp 148],argTypes:=#[51] },type:=27,pos := "parts.go:490",after:=#[{ on:=6,ground:=Ground.data },{ on:=6,ground:=Ground.chain }],guard:=none }) rfl (fun K hK=>?_) AllReadyH.nil
     go_simp
     (go_at_call 15;refine(HBW.out _ _ _ (by assumption) (by assumption)).mono ?_;rintro e v3 ⟨p3,c3,rfl,hT3,hS3⟩)
     first | (refine hK.out _ _ ?_ (fun hHeld=>?_)) | (go_wp2_with fail;refine hK.out _ _ ?_ (fun hHeld=>?_))
     ·exact hS3
     clear hK K
     try simp only [Act.put,sA,sZ,sS]
     refine wpAnyH_ready (rs:=[13]) (by kernel_rfl) (by simp) ?_
     refine AllReadyH.cons (o:={ dst:=some 155,op:=Op.call { callee:=Callee.value (Operand.func 20),args:=#[Operand.tmp 150,Operand.tmp 154],argTypes:=#[42,59] },type:=27,pos := "parts.go:490",after:=#[{ on:=8,ground:=Ground.data },{ on:=12,ground:=Ground.data },{ on:=7,ground:=Ground.chain }],guard:=none }) rfl (fun K hK=>?_) AllReadyH.nil
     go_simp
     (go_at_call 20;refine(HRH.out _ p3 (by assumption) (by assumption)).mono ?_;rintro e v4 ⟨q4,d4,rfl,hT4,hS4⟩)
     first | (refine hK.out _ _ ?_ (fun hHeld=>?_)) | (go_wp2_with fail;refine hK.out _ _ ?_ (fun hHeld=>?_))
     ·exact hS4
     clear hK K
     try simp only [Act.put,sA,sZ,sS]
     refine wpAnyH_ready (rs:=[14]) (by kernel_rfl) (by simp) ?_
     refine AllReadyH.cons (o:={ dst:=some 156,op:=Op.call { callee:=Callee.value (Operand.func 14),args:=#[Operand.tmp 149,Operand.tmp 155],argTypes:=#[27,27] },type:=4,pos := "parts.go:490",after:=#[{ on:=7,ground:=Ground.data },{ on:=13,ground:=Ground.data },{ on:=13,ground:=Ground.chain }],guard:=none }) rfl (fun K hK=>?_) AllReadyH.nil
     go_simp
     (go_at_call 14;refine(HSM.out _ _ _ _ _ (by assumption) (by assumption)).mono ?_;rintro e v5 ⟨rfl,hT5,hS5,hc5⟩)
     first | (refine hK.out _ _ ?_ (fun hHeld=>?_)) | (go_wp2_with fail;refine hK.out _ _ ?_ (fun hHeld=>?_))
     ·exact hS5
     clear hK K
     try simp only [Act.put,sA,sZ,sS]
     refine wpAnyH_weak (S':=fun W=>(W.cell? ⟨mb,mo+i*8,none⟩=some (.string m1)/\W.cell? ⟨mb,mo+i*8+1,none⟩=some (.string m2)/\W.cell? ⟨mb,mo+i*8+2,none⟩=some (.string m3)/\W.cell? ⟨mb,mo+i*8+3,none⟩=some (.string m4)/\W.cell? ⟨mb,mo+i*8+4,none⟩=some (.int .i64 m5)/\W.cell? ⟨mb,mo+i*8+5,none⟩=some (.int .i64 m6)/\W.cell? ⟨mb,mo+i*8+6,none⟩=some (.bool m7)/\W.cell? ⟨mb,mo+i*8+7,none⟩=some (.slice lq mL.length lc)/\Below w.heap.size w W)/\W.cell? ⟨ab,13,none⟩=some (.string sw)) (fun w h=>h.1) _ _ _ _ ?_
     refine wpAnyH_take (i:=15) (oi:={ dst:=some 157,op:=Op.unOp UnOp.not 4 (Operand.tmp 156),type:=4,pos := "parts.go:490",after:=#[{ on:=14,ground:=Ground.data }],guard:=none }) (v:=?_) rfl (by kernel_rfl) (by kernel_rfl) (by kernel_rfl) (fun _ _ _ h=>h) (Or.inl ⟨by rfl,?_⟩) ⟨hS5,hc5⟩ ?_
     rotate_left
     ·(intro w hSw;(try dsimp only at hSw);go_simp;try with_reducible rfl)
     try simp only [Act.put,sA,sZ,sS]
     refine wpAnyH_take (i:=16) (oi:={ dst:=some 158,op:=Op.move (Operand.tmp 157),type:=4,pos := "parts.go:490",after:=#[{ on:=15,ground:=Ground.data },{ on:=14,ground:=Ground.chain }],guard:=none }) (v:=?_) rfl (by kernel_rfl) (by kernel_rfl) (by kernel_rfl) (fun _ _ _ h=>h) (Or.inl ⟨by rfl,?_⟩) ⟨hS5,hc5⟩ ?_
     rotate_left
     ·(intro w hSw;(try dsimp only at hSw);go_simp;try with_reducible rfl)
     try simp only [Act.put,sA,sZ,sS]
     refine wpAnyH_take (i:=17) (oi:={ dst:=some 159,op:=Op.move (Operand.tmp 6),type:=31,pos := "parts.go:490",after:=#[{ on:=16,ground:=Ground.guard }],guard:=some (16,false) }) (v:=?_) rfl (by kernel_rfl) (by kernel_rfl) (by kernel_rfl) (fun _ _ _ h=>h) (Or.inl ⟨by rfl,?_⟩) ⟨hS5,hc5⟩ ?_
     rotate_left
     ·(intro w hSw;(try dsimp only at hSw);go_simp;try with_reducible rfl)
     try simp only [Act.put,sA,sZ,sS]
     refine wpAnyH_take (i:=19) (oi:={ dst:=some 161,op:=Op.move (Operand.tmp 9),type:=42,pos := "parts.go:490",after:=#[{ on:=16,ground:=Ground.guard }],guard:=some (16,false) }) (v:=?_) rfl (by kernel_rfl) (by kernel_rfl) (by kernel_rfl) (fun _ _ _ h=>h) (Or.inl ⟨by rfl,?_⟩) ⟨hS5,hc5⟩ ?_
     rotate_left
     ·(intro w hSw;(try dsimp only at hSw);go_simp;try with_reducible rfl)
     try simp only [Act.put,sA,sZ,sS]
     refine wpAnyH_take (i:=20) (oi:={ dst:=some 162,op:=Op.nilCheck (Operand.tmp 161),type:=0,pos := "parts.go:490",after:=#[{ on:=19,ground:=Ground.data },{ on:=16,ground:=Ground.guard }],guard:=some (16,false) }) (v:=?_) rfl (by kernel_rfl) (by kernel_rfl) (by kernel_rfl) (fun _ _ _ h=>h) (Or.inl ⟨by rfl,?_⟩) ⟨hS5,hc5⟩ ?_
     rotate_left
     ·(intro w hSw;(try dsimp only at hSw);go_simp;try with_reducible rfl)
     try simp only [Act.put,sA,sZ,sS]
     refine wpAnyH_take (i:=21) (oi:={ dst:=some 163,op:=Op.fieldAddr 48 (Operand.tmp 162) 9,type:=0,pos := "parts.go:490",after:=#[{ on:=20,ground:=Ground.data },{ on:=16,ground:=Ground.guard }],guard:=some (16,false) }) (v:=?_) rfl (by kernel_rfl) (by kernel_rfl) (by kernel_rfl) (fun _ _ _ h=>h) (Or.inl ⟨by rfl,?_⟩) ⟨hS5,hc5⟩ ?_
     rotate_left
     ·(intro w hSw;(try dsimp only at hSw);go_simp;try with_reducible rfl)
     try simp only [Act.put,sA,sZ,sS]
     refine wpAnyH_take (i:=22) (oi:={ dst:=some 164,op:=Op.load 9 (Operand.tmp 163),type:=9,pos := "parts.go:490",after:=#[{ on:=21,ground:=Ground.data },{ on:=16,ground:=Ground.guard }],guard:=some (16,false) }) (v:=?_) rfl (by kernel_rfl) (by kernel_rfl) (by kernel_rfl) (fun _ _ _ h=>h) (Or.inl ⟨by rfl,?_⟩) ⟨hS5,hc5⟩ ?_
     rotate_left
     ·(intro w hSw;(try dsimp only at hSw);go_simp;try with_reducible rfl)
     try simp only [Act.put,sA,sZ,sS]
     refine wpAnyH_ready (rs:=[18]) (by kernel_rfl) (by simp) ?_
     refine AllReadyH.cons (o:={ dst:=some 160,op:=Op.call { callee:=Callee.value (Operand.func 21),args:=#[Operand.tmp 159],argTypes:=#[31] },type:=9,pos := "parts.go:490",after:=#[{ on:=17,ground:=Ground.data },{ on:=16,ground:=Ground.chain },{ on:=16,ground:=Ground.guard }],guard:=some (16,false) }) rfl (fun K hK=>?_) AllReadyH.nil
     go_simp
     (go_at_call 21;refine(HSS.out _ (by assumption) (by assumption)).mono ?_;rintro e v6 ⟨rfl,hT6,hS6,hc6⟩)
     first | (refine hK.out _ _ ?_ (fun hHeld=>?_)) | (go_wp2_with fail;refine hK.out _ _ ?_ (fun hHeld=>?_))
     ·exact⟨hS6,hc6⟩
     clear hK K
     try simp only [Act.put,sA,sZ,sS]
     refine wpAnyH_take (i:=23) (oi:={ dst:=some 165,op:=Op.binOp BinOp.neq 9 (Operand.tmp 160) (Operand.tmp 164) 9,type:=4,pos := "parts.go:490",after:=#[{ on:=18,ground:=Ground.data },{ on:=22,ground:=Ground.data },{ on:=16,ground:=Ground.guard }],guard:=some (16,false) }) (v:=?_) rfl (by kernel_rfl) (by kernel_rfl) (by kernel_rfl) (fun _ _ _ h=>h) (Or.inl ⟨by rfl,?_⟩) ⟨hS6,hc6⟩ ?_
     rotate_left
     ·(intro w hSw;(try dsimp only at hSw);go_simp;try with_reducible rfl)
     try simp only [Act.put,sA,sZ,sS]
     refine wpAnyH_take (i:=24) (oi:={ dst:=some 166,op:=Op.pick (Operand.tmp 158) (Operand.const (Value.bool true)) (Operand.tmp 165),type:=4,pos := "parts.go:490",after:=#[{ on:=16,ground:=Ground.data },{ on:=23,ground:=Ground.data }],guard:=none }) (v:=?_) rfl (by kernel_rfl) (by kernel_rfl) (by kernel_rfl) (fun _ _ _ h=>h) (Or.inl ⟨by rfl,?_⟩) ⟨hS6,hc6⟩ ?_
     rotate_left
     ·(intro w hSw;(try dsimp only at hSw);go_simp;try with_reducible rfl)
     try simp only [Act.put,sA,sZ,sS]
     refine wpAnyH_done (by kernel_rfl) ?_ _
     all_goals (go_wp2_with fail;go_meet)
     all_goals exact⟨by first | rfl | simp,hT6.out,hS6.2.2.2.2.2.2.2.2⟩
    case rest =>
     obtain⟨rfl,hm,hb⟩:=hcut
     obtain⟨w30,rfl⟩:∃ w30,w30=wc:=⟨_,rfl⟩
     clear HWO HHE HBW HRH HSM HSS HS0 HMD0 HSC HB20
     rcases HAL.out with ⟨HC,HAN⟩ | ⟨HC,HAN⟩
     ·have HA30:=HAN.out w30 hb hm
      obtain⟨rfl,rfl⟩:=HC.out
      clear HAL HAN HC hm hb
      go_wp2_with fail
      refine HA30.mono ?_
      rintro e w31 ⟨rfl,⟨x13,x19,x16,x17,x18⟩,hm31,hb31⟩
      obtain⟨w32,hw32⟩:∃ w32,w32=w31.alloc (.cells #[.int .i64 t1,.int .i64 t2] 46):=⟨_,rfl⟩
      have hb32:Below w31.heap.size w31 w32:=zBe hw32
      have s0:w32.cell? ⟨w31.heap.size,0,none⟩=some (.int .i64 t1):=by rw [hw32];simp
      have s1:w32.cell? ⟨w31.heap.size,1,none⟩=some (.int .i64 t2):=by rw [hw32];simp
      have hlt:=lt_of_cellH x13
      have y13:=(hb32.cell (p:=⟨ab,13,none⟩) hlt).trans x13
      have y19:=(hb32.cell (p:=⟨ab,19,none⟩) hlt).trans x19
      have y16:=(hb32.cell (p:=⟨ab,16,none⟩) hlt).trans x16
      have y17:=(hb32.cell (p:=⟨ab,17,none⟩) hlt).trans x17
      have y18:=(hb32.cell (p:=⟨ab,18,none⟩) hlt).trans x18
      have HM32:Hid (Mid Ak w.heap.size B h ab (.slice p b.c.L.length cap) (.slice none 0 0) w32.heap.size w32 r1 r1):=(hm31.below HOO.out hb32).up
      have HB32:Hid (Below w.heap.size w w32):=hb31.trans (hb32.mono hb31.size)
      have HW32:Hid (w32=w31.alloc (.cells #[.int .i64 t1,.int .i64 t2] 46)):=hw32
      clear hw32 hb32 hlt x13 x19 x16 x17 x18 hm31 hb31 HA30
      go_upto_region 28 with (first | rw [<- HW32.out] | fail)
      go_cut [212] from 136 to 212 (fun v W=>v=.bool false/\Below w32.heap.size w32 W)
      case first =>
       go_quiet (fail)
       all_goals (go_wp2_with fail;go_meet)
       all_goals exact⟨by first | rfl | simp,below_drewN (Below.refl _ _) _⟩
      case rest =>
       obtain⟨rfl,hbx⟩:=hcut
       have HBX:Hid (Below w32.heap.size w32 wc):=hbx
       clear hbx
       go_wp2
       go_roundw
       case rel=>exact⟨i+1,by omega,by go_num,⟨r1,(HM32.out.below HOO.out HBX.out).up,HFA2.out _ HM32.out,HNB.out⟩,HB32.out.trans (HBX.out.mono HB32.out.size)⟩
       case measure=>simp [intOf];omega
     ·have HA30:=HAN.out w30 hb hm
      have HC':=HC.out
      clear HAL HAN HC hm hb
      go_wp2_with fail
      refine HA30.mono ?_
      rintro e w31 ⟨rfl,⟨x13,x19,x16,x17,x18⟩,hm31,hb31⟩
      obtain⟨w32,hw32⟩:∃ w32,w32=w31.alloc (.cells #[.int .i64 0,.int .i64 0] 46):=⟨_,rfl⟩
      have hb32:Below w31.heap.size w31 w32:=zBe hw32
      have s0:w32.cell? ⟨w31.heap.size,0,none⟩=some (.int .i64 0):=by rw [hw32];simp
      have s1:w32.cell? ⟨w31.heap.size,1,none⟩=some (.int .i64 0):=by rw [hw32];simp
      have hlt:=lt_of_cellH x13
      have y13:=(hb32.cell (p:=⟨ab,13,none⟩) hlt).trans x13
      have y19:=(hb32.cell (p:=⟨ab,19,none⟩) hlt).trans x19
      have y16:=(hb32.cell (p:=⟨ab,16,none⟩) hlt).trans x16
      have y17:=(hb32.cell (p:=⟨ab,17,none⟩) hlt).trans x17
      have y18:=(hb32.cell (p:=⟨ab,18,none⟩) hlt).trans x18
      have HM32:Hid (Mid Ak w.heap.size B h ab (.slice p b.c.L.length cap) (.slice none 0 0) w32.heap.size w32 r1 r1):=(hm31.below HOO.out hb32).up
      have HB32:Hid (Below w.heap.size w w32):=hb31.trans (hb32.mono hb31.size)
      have HW32:Hid (w32=w31.alloc (.cells #[.int .i64 0,.int .i64 0] 46)):=hw32
      clear hw32 hb32 hlt x13 x19 x16 x17 x18 hm31 hb31 HA30 HOO
      rcases HC' with HC' | HC'
      ·skip
       go_upto_region 25 with fail
       rw [<- HW32.out]
       go_wp2
       all_goals (go_roundw;(case rel=>exact⟨i+1,by omega,by go_num,⟨r1,HM32.out,HFA2.out _ HM32.out,HNB.out⟩,HB32.out⟩);(case measure=>simp [intOf];omega))
      ·subst HC'
       go_upto_region 25 with fail
       rw [<- HW32.out]
       go_wp2
       all_goals (go_roundw;(case rel=>exact⟨i+1,by omega,by go_num,⟨r1,HM32.out,HFA2.out _ HM32.out,HNB.out⟩,HB32.out⟩);(case measure=>simp [intOf];omega))
   ·clear hM hA hbk hB
    go_wp2
    go_ret
    exact⟨rfl,HB20.out⟩
end Go.Proofs.YtmhoiodfppdlnaaGreatDoor
