import Derived.Test.YtmhoiodfppdlnaaGreatDoorCy46
namespace Go.Proofs.YtmhoiodfppdlnaaGreatDoor
open Go.RowKit
variable {ad:Nat->Addr} {X:World->Prop} {Ck:World->Nat->Nat->(Nat->Prop)->MAsk->Prop}
set_option maxRecDepth 10000 in
set_option maxHeartbeats 16000000 in
theorem carryHears_fine (hO:CarryOk ad X Ck) (b:Lift) (p:Option Addr) (cap:Nat) (q:Option Addr) (cap2:Nat) (l:List Msg) (lp:Option Addr) (lcap:Nat) (w:World) (hi:LiftIn ad X b p cap q cap2 l lp w) (h1:longC b.f=false) (h2:longC b.t=false) (h3:¬ 100 < b.key.size) (h4:fitsM l=true) (g1:¬ 0 < (cfgF b.f).1) (g2:¬ 0 < (cfgF b.t).1) (g3:isN b.key=true) (g4:b.fits):Calls Tryz.prog 4 #[.int .i64 b.op,.agg #[.int .i64 b.f.n,.int .i64 b.f.k,.slice p b.f.L.length cap],.agg #[.int .i64 b.t.n,.int .i64 b.t.k,.slice q b.t.L.length cap2],.int .i64 b.config,.string b.key,.slice lp l.length lcap] w fun e w'=>e=.returned (.bool true)/\Below w.heap.size w w':=by
 have hfin:=carF_0 g1 g2 g3 g4
 have h6:¬ 0 < (carF b).1:=by rw [hfin];decide
 obtain ⟨w1,hw1⟩:∃ w1,w1=(w.alloc (.cells #[.int .i64 b.f.n,.int .i64 b.f.k,.slice p b.f.L.length cap] 24)).alloc (.cells #[.int .i64 b.t.n,.int .i64 b.t.k,.slice q b.t.L.length cap2] 24):=⟨_,rfl⟩
 have hb1:Below w.heap.size w w1:=by rw [hw1];exact ((Below.refl _ _).alloc (Nat.le_refl _) _).alloc (by simp) _
 have hz1:w1.heap.size=w.heap.size+2:=by rw [hw1];simp
 have hblF:w1.heap[w.heap.size]?=some (.cells #[.int .i64 b.f.n,.int .i64 b.f.k,.slice p b.f.L.length cap] 24 (0,0)):=by rw [hw1,heap_alloc_old _ _ (by simp)];exact heap_alloc_new _ _
 have hblT:w1.heap[w.heap.size+1]?=some (.cells #[.int .i64 b.t.n,.int .i64 b.t.k,.slice q b.t.L.length cap2] 24 (0,0)):=by
  have e:w.heap.size+1=(w.alloc (.cells #[.int .i64 b.f.n,.int .i64 b.f.k,.slice p b.f.L.length cap] 24)).heap.size:=by simp
  rw [hw1,e]
  exact heap_alloc_new _ _
 have HS9:Hid (∀ V,Below w1.heap.size w1 V->(V.cell? ⟨w.heap.size,0,none⟩=some (.int .i64 b.f.n)/\V.cell? ⟨w.heap.size,1,none⟩=some (.int .i64 b.f.k)/\V.cell? ⟨w.heap.size,2,none⟩=some (.slice p b.f.L.length cap)/\V.cell? ⟨w.heap.size+1,0,none⟩=some (.int .i64 b.t.n)/\V.cell? ⟨w.heap.size+1,1,none⟩=some (.int .i64 b.t.k)/\V.cell? ⟨w.heap.size+1,2,none⟩=some (.slice q b.t.L.length cap2)/\Below w1.heap.size w1 V)):=fun V hV=>by
  have hF:=(hV.block _ (by omega)).trans hblF
  have hT:=(hV.block _ (by omega)).trans hblT
  exact ⟨(rblk_cell hF 0).1,(rblk_cell hF 1).1,(rblk_cell hF 2).1,(rblk_cell hT 0).1,(rblk_cell hT 1).1,(rblk_cell hT 2).1,hV⟩
 have HAS:=carried_any hO w1 (fun V hV=>(hi.ok (hb1.trans (hV.mono hb1.size))).1) (fun V hV=>(hi.ok (hb1.trans (hV.mono hb1.size))).2)
 have HL1:Hid (∀ V,Below w1.heap.size w1 V->Calls Tryz.prog 6 #[.agg #[.int .i64 b.f.n,.int .i64 b.f.k,.slice p b.f.L.length cap]] V fun e w'=>e=.returned (.bool (longC b.f))/\Below w1.heap.size w1 w'):=fun V hV=>(longConfig_any b.f p cap V hi.lenF hi.sizeF ((hi.strsF.below hb1).below hV)).mono fun e w' hq=>⟨hq.1,hV.trans (hq.2.mono hV.size)⟩
 have HL2:Hid (∀ V,Below w1.heap.size w1 V->Calls Tryz.prog 6 #[.agg #[.int .i64 b.t.n,.int .i64 b.t.k,.slice q b.t.L.length cap2]] V fun e w'=>e=.returned (.bool (longC b.t))/\Below w1.heap.size w1 w'):=fun V hV=>(longConfig_any b.t q cap2 V hi.lenT hi.sizeT ((hi.strsT.below hb1).below hV)).mono fun e w' hq=>⟨hq.1,hV.trans (hq.2.mono hV.size)⟩
 have HMF:Hid (∀ V,Below w1.heap.size w1 V->Calls Tryz.prog 7 #[.slice lp l.length lcap] V fun e w'=>e=.returned (.bool (fitsM l))/\Below w1.heap.size w1 w'):=fun V hV=>(messagesFit_any lp l lcap V hi.much ((hi.msgs.below hb1).below hV)).mono fun e w' hq=>⟨hq.1,hV.trans (hq.2.mono hV.size)⟩
 have HW1:Hid (w1=(w.alloc (.cells #[.int .i64 b.f.n,.int .i64 b.f.k,.slice p b.f.L.length cap] 24)).alloc (.cells #[.int .i64 b.t.n,.int .i64 b.t.k,.slice q b.t.L.length cap2] 24)):=hw1
 have HB1:Hid (Below w.heap.size w w1):=hb1
 obtain ⟨nf1,nf2⟩:=longC_fine h1
 obtain ⟨nt1,nt2⟩:=longC_fine h2
 have HCFF:Hid (∀ V u d,Strs V u b.f.L->b.f.L.length<=d->(u=none->b.f.L=[]/\d=0)->CfgAt V b.f u d):=fun V u d g1 g2 g3=>cfgAt_of g1 g2 g3 h1 hi.intsF
 have HCFT:Hid (∀ V u d,Strs V u b.t.L->b.t.L.length<=d->(u=none->b.t.L=[]/\d=0)->CfgAt V b.t u d):=fun V u d g1 g2 g3=>cfgAt_of g1 g2 g3 h2 hi.intsT
 have HOC1:Hid (∀ V,(V.cell? ⟨w.heap.size,0,none⟩=some (.int .i64 b.f.n)/\V.cell? ⟨w.heap.size,1,none⟩=some (.int .i64 b.f.k)/\V.cell? ⟨w.heap.size,2,none⟩=some (.slice p b.f.L.length cap)/\V.cell? ⟨w.heap.size+1,0,none⟩=some (.int .i64 b.t.n)/\V.cell? ⟨w.heap.size+1,1,none⟩=some (.int .i64 b.t.k)/\V.cell? ⟨w.heap.size+1,2,none⟩=some (.slice q b.t.L.length cap2)/\Below w1.heap.size w1 V)->Calls Tryz.prog 9 #[.agg #[.int .i64 b.f.n,.int .i64 b.f.k,.slice p b.f.L.length cap]] V fun e w'=>∃ u d,e=.returned (.agg #[.int .i64 b.f.n,.int .i64 b.f.k,.slice u b.f.L.length d])/\Hid (CfgAt w' b.f u d)/\(w'.cell? ⟨w.heap.size,0,none⟩=some (.int .i64 b.f.n)/\w'.cell? ⟨w.heap.size,1,none⟩=some (.int .i64 b.f.k)/\w'.cell? ⟨w.heap.size,2,none⟩=some (.slice p b.f.L.length cap)/\w'.cell? ⟨w.heap.size+1,0,none⟩=some (.int .i64 b.t.n)/\w'.cell? ⟨w.heap.size+1,1,none⟩=some (.int .i64 b.t.k)/\w'.cell? ⟨w.heap.size+1,2,none⟩=some (.slice q b.t.L.length cap2)/\Below w1.heap.size w1 w')):=fun V hV=>(ownConfig_any b.f p cap V (by omega) ((hi.strsF.below hb1).below hV.2.2.2.2.2.2) hi.emptyF).mono fun e w' hq=>by
  obtain ⟨⟨u,d,e1,e2,e3,e4⟩,e5⟩:=hq
  exact ⟨u,d,e1,HCFF.out w' u d e2 e3 e4,HS9.out w' (hV.2.2.2.2.2.2.trans (e5.mono hV.2.2.2.2.2.2.size))⟩
 have HOC2:Hid (∀ V u d,Hid (CfgAt V b.f u d)->(V.cell? ⟨w.heap.size,0,none⟩=some (.int .i64 b.f.n)/\V.cell? ⟨w.heap.size,1,none⟩=some (.int .i64 b.f.k)/\V.cell? ⟨w.heap.size,2,none⟩=some (.slice p b.f.L.length cap)/\V.cell? ⟨w.heap.size+1,0,none⟩=some (.int .i64 b.t.n)/\V.cell? ⟨w.heap.size+1,1,none⟩=some (.int .i64 b.t.k)/\V.cell? ⟨w.heap.size+1,2,none⟩=some (.slice q b.t.L.length cap2)/\Below w1.heap.size w1 V)->Calls Tryz.prog 9 #[.agg #[.int .i64 b.t.n,.int .i64 b.t.k,.slice q b.t.L.length cap2]] V fun e w'=>∃ u2 d2,e=.returned (.agg #[.int .i64 b.t.n,.int .i64 b.t.k,.slice u2 b.t.L.length d2])/\Hid (CfgAt w' b.f u d/\CfgAt w' b.t u2 d2)/\(w'.cell? ⟨w.heap.size,0,none⟩=some (.int .i64 b.f.n)/\w'.cell? ⟨w.heap.size,1,none⟩=some (.int .i64 b.f.k)/\w'.cell? ⟨w.heap.size,2,none⟩=some (.slice p b.f.L.length cap)/\w'.cell? ⟨w.heap.size+1,0,none⟩=some (.int .i64 b.t.n)/\w'.cell? ⟨w.heap.size+1,1,none⟩=some (.int .i64 b.t.k)/\w'.cell? ⟨w.heap.size+1,2,none⟩=some (.slice q b.t.L.length cap2)/\Below w1.heap.size w1 w')):=fun V u d hC hV=>(ownConfig_any b.t q cap2 V (by omega) ((hi.strsT.below hb1).below hV.2.2.2.2.2.2) hi.emptyT).mono fun e w' hq=>by
  obtain ⟨⟨u2,d2,e1,e2,e3,e4⟩,e5⟩:=hq
  exact ⟨u2,d2,e1,⟨hC.out.below e5,HCFT.out w' u2 d2 e2 e3 e4⟩,HS9.out w' (hV.2.2.2.2.2.2.trans (e5.mono hV.2.2.2.2.2.2.size))⟩
 have HOKX:Hid (∀ V,Below w1.heap.size w1 V->ErrsQ V ad/\X V):=fun V hV=>hi.ok (hb1.trans (hV.mono hb1.size))
 have HPT:Hid (∀ V u d u2 d2,Hid (CfgAt V b.f u d/\CfgAt V b.t u2 d2)->(V.cell? ⟨w.heap.size,0,none⟩=some (.int .i64 b.f.n)/\V.cell? ⟨w.heap.size,1,none⟩=some (.int .i64 b.f.k)/\V.cell? ⟨w.heap.size,2,none⟩=some (.slice p b.f.L.length cap)/\V.cell? ⟨w.heap.size+1,0,none⟩=some (.int .i64 b.t.n)/\V.cell? ⟨w.heap.size+1,1,none⟩=some (.int .i64 b.t.k)/\V.cell? ⟨w.heap.size+1,2,none⟩=some (.slice q b.t.L.length cap2)/\Below w1.heap.size w1 V)->Calls Tryz.prog 24 #[.int .i64 b.op,.agg #[.int .i64 b.f.n,.int .i64 b.f.k,.slice u b.f.L.length d],.agg #[.int .i64 b.t.n,.int .i64 b.t.k,.slice u2 b.t.L.length d2],.int .i64 b.config,.string b.key] V fun e w'=>∃ h,e=.returned (.tuple #[.pointer (some ⟨h,0,none⟩),.nilIface])/\Hid (CkB Ck w w' h b.mover)/\(w'.cell? ⟨w.heap.size,0,none⟩=some (.int .i64 b.f.n)/\w'.cell? ⟨w.heap.size,1,none⟩=some (.int .i64 b.f.k)/\w'.cell? ⟨w.heap.size,2,none⟩=some (.slice p b.f.L.length cap)/\w'.cell? ⟨w.heap.size+1,0,none⟩=some (.int .i64 b.t.n)/\w'.cell? ⟨w.heap.size+1,1,none⟩=some (.int .i64 b.t.k)/\w'.cell? ⟨w.heap.size+1,2,none⟩=some (.slice q b.t.L.length cap2)/\Below w1.heap.size w1 w')):=fun V u d u2 d2 hC hV=>(hO.new b u d u2 d2 V hC.out.1 hC.out.2 (by omega) hi.op hi.config (HOKX.out V hV.2.2.2.2.2.2).1 (HOKX.out V hV.2.2.2.2.2.2).2).mono fun e w' hq=>by
  obtain ⟨⟨ev,g1,g2⟩,g3⟩:=hq
  have hbv:=hV.2.2.2.2.2.2
  rcases g2 with ⟨g4,_⟩ | ⟨_,h,S,g4,g5⟩
  ·exact absurd g4 h6
  ·rw [hfin] at g1
   have:=g1.isNil
   subst this
   exact ⟨h,g4,⟨V.heap.size,S,g5,g3.size,by have:=hbv.size;omega⟩,HS9.out w' (hbv.trans (g3.mono hbv.size))⟩
 have HC1:Hid (∀ V,Below w1.heap.size w1 V->Calls Tryz.prog 25 #[.agg #[.int .i64 b.f.n,.int .i64 b.f.k,.slice p b.f.L.length cap]] V fun e w'=>e=.returned (.agg #[.int .i64 (cfgF b.f).1,.int .i64 (cfgF b.f).2])/\Below V.heap.size V w'):=fun V hV=>rcfg_any b.f p cap V (HCFF.out V p cap ((hi.strsF.below hb1).below hV) hi.roomF hi.emptyF)
 have HC2:Hid (∀ V,Below w1.heap.size w1 V->Calls Tryz.prog 25 #[.agg #[.int .i64 b.t.n,.int .i64 b.t.k,.slice q b.t.L.length cap2]] V fun e w'=>e=.returned (.agg #[.int .i64 (cfgF b.t).1,.int .i64 (cfgF b.t).2])/\Below V.heap.size V w'):=fun V hV=>rcfg_any b.t q cap2 V (HCFT.out V q cap2 ((hi.strsT.below hb1).below hV) hi.roomT hi.emptyT)
 have HNM:Hid (∀ V,Calls Tryz.prog 26 #[.string b.key] V fun e w'=>e=.returned (.bool (isN b.key))/\w'=V):=fun V=>isName_any b.key V (by omega)
 have HBR:Hid (∀ x V,Calls Tryz.prog 27 #[.int .i64 x] V fun e w'=>e=.returned (.agg #[.int .i64 x,.int .i64 (-1)])/\Below V.heap.size V w'):=fun x V=>bare_any x V
 rw [h1] at HL1
 rw [h2] at HL2
 rw [h4] at HMF
 rw [g3] at HNM
 have n3:decide ((100:Int) < (b.key.size:Int))=false:=decide_eq_false (by omega)
 have n8:decide (b.op < 0)=false:=decide_eq_false (by have:=g4.1;omega)
 have n9:decide (b.config < 0)=false:=decide_eq_false (by have:=g4.2.1;omega)
 have n10:(b.config==9223372036854775807)=false:=by have:=g4.2.2;simp;omega
 have HC1':Hid (∀ V,Below w1.heap.size w1 V->Calls Tryz.prog 25 #[.agg #[.int .i64 b.f.n,.int .i64 b.f.k,.slice p b.f.L.length cap]] V fun e w'=>e=.returned (.agg #[.int .i64 0,.int .i64 (-1)])/\Below V.heap.size V w'):=by have:=HC1;rw [(cfgF_fine g1).2.2.1] at this;exact this
 have HC2':Hid (∀ V,Below w1.heap.size w1 V->Calls Tryz.prog 25 #[.agg #[.int .i64 b.t.n,.int .i64 b.t.k,.slice q b.t.L.length cap2]] V fun e w'=>e=.returned (.agg #[.int .i64 0,.int .i64 (-1)])/\Below V.heap.size V w'):=by have:=HC2;rw [(cfgF_fine g2).2.2.1] at this;exact this
 obtain ⟨⟨p1,p2,p3⟩,p4,_⟩:=cfgF_fine g1
 obtain ⟨⟨q1,q2,q3⟩,q4,_⟩:=cfgF_fine g2
 have HSF0:Hid (Strs w p b.f.L/\b.f.L.length<=cap/\(p=none->b.f.L=[]/\cap=0)):=⟨hi.strsF,hi.roomF,hi.emptyF⟩
 have HST0:Hid (Strs w q b.t.L/\b.t.L.length<=cap2/\(q=none->b.t.L=[]/\cap2=0)):=⟨hi.strsT,hi.roomT,hi.emptyT⟩
 have HNEF:Hid (b.f.L≠[]/\b.t.L≠[]):=⟨fun e=>by rw [e] at p4;simp at p4;omega,fun e=>by rw [e] at q4;simp at q4;omega⟩
 have hfit:weighM l < 6000:=by unfold fitsM at h4;rw [Bool.and_eq_true] at h4;simpa using h4.2
 have HFA0:Hid (MvFine b.mover):=⟨g1,g2,by show b.key.size<=100;omega,(by decide:wMover.size<=100),rfl,rfl,⟨g4.1,hi.op.2⟩,⟨g4.2.1,hi.config.2⟩,fun _=>g4.2.2,Nat.zero_le 1000,(by intro e;cases e),List.nodup_nil,(fun x hx=>by cases hx),rfl,(by intro e;cases e),(fun l hl=>by cases hl)⟩
 have HGG:Hid (∀ V:World,w.heap.size<=V.heap.size->(∀ k,k < w.heap.size->V.heap[k]?=w.heap[k]?)->ErrsQ V ad/\X V):=hi.errs
 have HOO:Hid (CarryOk ad X Ck):=hO
 have HMS:Hid (MsgsAt w lp l):=hi.msgs
 have HVI:Hid (∀ m ∈ l,∀ v ∈ m.L,VerI64 v):=hi.vers
 have HFIT:Hid (weighM l < 6000):=hfit
 have hln:l.length<=6000:=Nat.le_trans (weighM_len l) (by omega)
 have hfl30:b.f.L.length<=30:=nf1
 clear hi hO hw1 hb1 hz1 hblF hblT HCFF HCFT HOKX nf1 nf2 nt1 nt2 h1 h2 h3 h4 h6 hfin hfit g1 g2 g3 g4 HC1 HC2 p1 p2 p3 p4 q1 q2 q3 q4
 go_enter Tryz.func4,Tryz.ntmps4
 go_wp2_with (first | rw [<- HW1.out] | fail)
 refine HAS.mono ?_
 rintro e w2 ⟨rfl,hb2⟩
 obtain ⟨d0,d1,d2,d3,d4,d5,_⟩:=HS9.out w2 hb2
 have HB2:Hid (Below w1.heap.size w1 w2):=hb2
 clear hb2 HAS
 go_wp2_with fail
 refine (HL1.out w2 HB2.out).mono ?_
 rintro e w3 ⟨rfl,hb3⟩
 clear d0 d1 d2 d3 d4 d5
 obtain ⟨d0,d1,d2,d3,d4,d5,_⟩:=HS9.out w3 hb3
 have HB3:Hid (Below w1.heap.size w1 w3):=hb3
 clear hb3
 go_wp2_with fail
 refine (HL2.out w3 HB3.out).mono ?_
 rintro e w4 ⟨rfl,hb4⟩
 clear d0 d1 d2 d3 d4 d5
 obtain ⟨d0,d1,d2,d3,d4,d5,_⟩:=HS9.out w4 hb4
 have HB4:Hid (Below w1.heap.size w1 w4):=hb4
 clear hb4
 go_wp2_with fail
 refine (HMF.out w4 HB4.out).mono ?_
 rintro e w5 ⟨rfl,hb5⟩
 clear d0 d1 d2 d3 d4 d5
 obtain ⟨d0,d1,d2,d3,d4,d5,_⟩:=HS9.out w5 hb5
 have HB5:Hid (Below w1.heap.size w1 w5):=hb5
 clear hb5
 have HS50:=HS9.out w5.drew HB5.out.drew
 clear d0 d1 d2 d3 d4 d5 HL1 HL2 HMF
 go_wp2
 go_region_held3 (fun V=>(V.cell? ⟨w.heap.size,0,none⟩=some (.int .i64 b.f.n)/\V.cell? ⟨w.heap.size,1,none⟩=some (.int .i64 b.f.k)/\V.cell? ⟨w.heap.size,2,none⟩=some (.slice p b.f.L.length cap)/\V.cell? ⟨w.heap.size+1,0,none⟩=some (.int .i64 b.t.n)/\V.cell? ⟨w.heap.size+1,1,none⟩=some (.int .i64 b.t.k)/\V.cell? ⟨w.heap.size+1,2,none⟩=some (.slice q b.t.L.length cap2)/\Below w1.heap.size w1 V)) (first | assumption | exact HS50) (first | (go_at_call 9;with_reducible refine (HOC1.out _ (by assumption)).mono ?_;rintro e w6 ⟨u6,d6,rfl,hC6,hS6⟩) | (go_at_call 9;with_reducible refine (HOC2.out _ _ _ hC6 (by assumption)).mono ?_;rintro e w7 ⟨u7,d7,rfl,hC7,hS7⟩) | (go_at_call 24;refine (HPT.out _ _ _ _ _ hC7 (by assumption)).mono ?_;rintro e w8 ⟨h,rfl,hA8,hS8⟩))
 have HB8:Hid (Below w1.heap.size w1 w8):=hS8.2.2.2.2.2.2
 obtain ⟨d0,d1,d2,d3,d4,d5,_⟩:=hS8
 have HC18:=HC1'.out w8 HB8.out
 clear HS50 hC6 hC7 hS6 hS7 HOC1 HOC2 HPT
 go_wp2_with fail
 refine HC18.mono ?_
 rintro e w9 ⟨rfl,hb9⟩
 obtain ⟨w10,hw10⟩:∃ w10,w10=w9.alloc (.cells #[.int .i64 0,.int .i64 (-1)] 39):=⟨_,rfl⟩
 have hv10:w10.heap[w9.heap.size]?=some (.cells #[.int .i64 0,.int .i64 (-1)] 39 (0,0)):=by rw [hw10];exact heap_alloc_new _ _
 have hb810:Below w8.heap.size w8 w10:=by rw [hw10];exact hb9.alloc hb9.size _
 have HG9:Hid (w8.heap.size<=w9.heap.size):=hb9.size
 have HV10:Hid (w10.heap[w9.heap.size]?=some (.cells #[.int .i64 0,.int .i64 (-1)] 39 (0,0))):=hv10
 have k0:w10.cell? ⟨w9.heap.size,0,none⟩=some (.int .i64 (0)):=(rblk_cell hv10 0).1
 have k1:w10.cell? ⟨w9.heap.size,1,none⟩=some (.int .i64 ((-1))):=(rblk_cell hv10 1).1
 have HB810:Hid (Below w8.heap.size w8 w10):=hb810
 have HW10:Hid (w10=w9.alloc (.cells #[.int .i64 0,.int .i64 (-1)] 39)):=hw10
 clear d0 d1 d2 d3 d4 d5
 obtain ⟨d0,d1,d2,d3,d4,d5,_⟩:=HS9.out w10 (HB8.out.trans (hb810.mono HB8.out.size))
 clear hw10 hb9 hv10 hb810 HC18
 go_wp2_with (first | rw [<- HW10.out] | fail)
 refine (HC2'.out w10 (HB8.out.trans (HB810.out.mono HB8.out.size))).mono ?_
 rintro e w11 ⟨rfl,hbc⟩
 clear k0 k1
 have hvc:=(hbc.block w9.heap.size (lt_of_row HV10.out)).trans HV10.out
 have k0:w11.cell? ⟨w9.heap.size,0,none⟩=some (.int .i64 (0)):=(rblk_cell hvc 0).1
 have k1:w11.cell? ⟨w9.heap.size,1,none⟩=some (.int .i64 (-1)):=(rblk_cell hvc 1).1
 have fz:∀ j,w11.frozen? ⟨w9.heap.size,j,none⟩=false:=fun j=>(rblk_cell hvc j).2
 obtain ⟨w12,hwn⟩:∃ v,v=(w11.setCell ⟨w9.heap.size,0,none⟩ (.int .i64 (0))).setCell ⟨w9.heap.size,1,none⟩ (.int .i64 (-1)):=⟨_,rfl⟩
 have hvn:w12.heap[w9.heap.size]?=some (.cells #[.int .i64 (0),.int .i64 (-1)] 39 (0,0)):=by rw [hwn];exact blk_setG (blk_setG hvc 0 _) 1 _
 have hbn:Below w8.heap.size w8 w12:=by rw [hwn];exact ((HB810.out.trans (hbc.mono HB810.out.size)).setCell (p:=⟨w9.heap.size,0,none⟩) HG9.out _).setCell (p:=⟨w9.heap.size,1,none⟩) HG9.out _
 have m0:w12.cell? ⟨w9.heap.size,0,none⟩=some (.int .i64 (0)):=(rblk_cell hvn 0).1
 have m1:w12.cell? ⟨w9.heap.size,1,none⟩=some (.int .i64 (-1)):=(rblk_cell hvn 1).1
 have HV12:Hid (w12.heap[w9.heap.size]?=some (.cells #[.int .i64 (0),.int .i64 (-1)] 39 (0,0))):=hvn
 have HB812:Hid (Below w8.heap.size w8 w12):=hbn
 have HW12:Hid (w12=(w11.setCell ⟨w9.heap.size,0,none⟩ (.int .i64 (0))).setCell ⟨w9.heap.size,1,none⟩ (.int .i64 (-1))):=hwn
 clear d0 d1 d2 d3 d4 d5
 obtain ⟨d0,d1,d2,d3,d4,d5,_⟩:=HS9.out w12 (HB8.out.trans (hbn.mono HB8.out.size))
 clear hwn hvn hbn hvc hbc
 go_wp2_with (first | rw [<- HW12.out] | fail)
 refine (HNM.out w12).mono ?_
 rintro e w13 ⟨rfl,hw13⟩
 rw [hw13]
 clear hw13 w13 k0 k1 fz
 obtain ⟨wa,hwa⟩:∃ wa,wa=w12.alloc (.cells #[.string ⟨#[109,111,118,101,114]⟩,.string b.key,.int .i64 0,.int .i64 b.op,.int .i64 b.config,.int .i64 b.f.n,.int .i64 b.f.k,.slice p b.f.L.length cap,.int .i64 b.t.n,.int .i64 b.t.k,.slice q b.t.L.length cap2,.bool false,.bool true,.string ⟨#[115,101,97,108,105,110,103]⟩,.slice none 0 0,.slice none 0 0,.int .i64 0,.int .i64 0,.string ⟨#[]⟩,.bool false] 48):=⟨_,rfl⟩
 have hb12a:Below w12.heap.size w12 wa:=by rw [hwa];exact (Below.refl _ _).alloc (Nat.le_refl _) _
 have hza:wa.heap.size=w12.heap.size+1:=by rw [hwa];simp
 have hb1a:Below w1.heap.size w1 wa:=(HB8.out.trans (HB812.out.mono HB8.out.size)).trans (hb12a.mono (by have:=HB8.out.size;have:=HB812.out.size;omega))
 have hb0a:Below w.heap.size w wa:=HB1.out.trans (hb1a.mono HB1.out.size)
 have hblk:wa.heap[w12.heap.size]?=some (.cells #[.string ⟨#[109,111,118,101,114]⟩,.string b.key,.int .i64 0,.int .i64 b.op,.int .i64 b.config,.int .i64 b.f.n,.int .i64 b.f.k,.slice p b.f.L.length cap,.int .i64 b.t.n,.int .i64 b.t.k,.slice q b.t.L.length cap2,.bool false,.bool true,.string ⟨#[115,101,97,108,105,110,103]⟩,.slice none 0 0,.slice none 0 0,.int .i64 0,.int .i64 0,.string ⟨#[]⟩,.bool false] 48 (0,0)):=by rw [hwa];exact heap_alloc_new _ _
 have HMID:Hid (∃ B,MidC Ck w.heap.size B h w12.heap.size (.slice q b.t.L.length cap2) wa.heap.size wa b.mover b.mover):=by
  obtain ⟨B,S,g1,g2,g3⟩:=hA8.out.below HOO.out HB812.out
  have hlt12:w.heap.size<=w12.heap.size:=by have:=HB1.out.size;have:=HB8.out.size;have:=HB812.out.size;omega
  have hRA:RAk wa w.heap.size (fun k=>k=w12.heap.size) w12.heap.size b.mover (.slice p b.f.L.length cap) (.slice q b.t.L.length cap2) (.slice none 0 0) (.slice none 0 0) []:=by
   refine ⟨hblk,⟨p,cap,rfl,HSF0.out.1.below hb0a,HSF0.out.2.1,HSF0.out.2.2,fun b' o' e'=>?_⟩,⟨q,cap2,rfl,HST0.out.1.below hb0a,HST0.out.2.1,HST0.out.2.2,fun b' o' e'=>?_⟩,OwnT.nil _ _,⟨OwnV.nil _ _ _,rfl,fun i hi=>absurd hi (Nat.not_lt_zero _)⟩,rfl,(fun k hk=>by cases hk),(fun k hk=>by cases hk),(fun v hv=>by cases hv),fun k hk=>by subst hk;exact ⟨hlt12,by omega⟩⟩
   ·rcases HSF0.out.1 with e0 | ⟨b2,o2,e2,e3,_⟩
    ·exact absurd e0 HNEF.out.1
    ·rw [e2] at e';injection e' with e';injection e' with e4;omega
   ·rcases HST0.out.1 with e0 | ⟨b2,o2,e2,e3,_⟩
    ·exact absurd e0 HNEF.out.2
    ·rw [e2] at e';injection e' with e';injection e' with e4;omega
  exact ⟨B,S,(fun k=>k=w12.heap.size),.slice p b.f.L.length cap,.slice none 0 0,.slice none 0 0,[],HOO.out.keep g1 (hb12a.mono g2) (fun k hk=>hb12a.block k (HOO.out.inS g1 k hk).2),hRA,fun k hk hk'=>by have:=(HOO.out.inS g1 k hk).2;omega,fun k hk=>by subst hk;exact ⟨g2,by omega⟩,Nat.le_trans g2 hb12a.size,g3,Nat.le_refl _⟩
 have HWA:Hid (wa=w12.alloc (.cells #[.string ⟨#[109,111,118,101,114]⟩,.string b.key,.int .i64 0,.int .i64 b.op,.int .i64 b.config,.int .i64 b.f.n,.int .i64 b.f.k,.slice p b.f.L.length cap,.int .i64 b.t.n,.int .i64 b.t.k,.slice q b.t.L.length cap2,.bool false,.bool true,.string ⟨#[115,101,97,108,105,110,103]⟩,.slice none 0 0,.slice none 0 0,.int .i64 0,.int .i64 0,.string ⟨#[]⟩,.bool false] 48)):=hwa
 have HB010:Hid (Below w.heap.size w wa):=hb0a
 clear hwa hb12a hza hb1a hb0a hblk hA8 HSF0 HST0
 obtain ⟨B,hMid⟩:=HMID.out
 have HM10:Hid (MidC Ck w.heap.size B h w12.heap.size (.slice q b.t.L.length cap2) wa.heap.size wa b.mover b.mover):=hMid
 have HX10:=(HGG.out wa HB010.out.size (fun k hk=>HB010.out.block k hk)).2
 have HBG:=cmid_begin HOO.out rfl HB010.out HX10 hMid
 obtain ⟨bs1,bs2⟩:=cbegin_short b
 have HBS:Hid (b.mover.begin.length<=1000/\∀ m ∈ b.mover.begin,m.L.length<=1000000):=⟨by omega,bs2⟩
 have HFA:Hid (MvFine b.mover):=HFA0
 clear hMid HMID bs1 bs2 HX10
 obtain ⟨BG,hBG⟩:∃ BG,BG=b.mover.begin:=⟨_,rfl⟩
 rw [<- hBG] at HBG HBS
 have HBGE:Hid (b.mover.begin=BG):=hBG.symm
 clear hBG
 go_wp2_with (first | rw [<- HWA.out] | fail)
 refine HBG.mono ?_
 rintro e x11 ⟨p11,c11,rfl,hM11,hb11⟩
 have HBW:=backWires_any wa.heap.size p11 BG c11 x11 HBS.out.1 (by obtain ⟨_,_,_,_,_,_,_,_,_,_,_,_,g⟩:=hM11.out.2;exact g) hM11.out.1
 have HM11:Hid (MidC Ck w.heap.size B h w12.heap.size (.slice q b.t.L.length cap2) wa.heap.size x11 b.mover b.mover):=hM11.out.2
 have HB11:Hid (Below w.heap.size w x11):=hb11
 clear hM11 hb11 HBG HM10 HB010
 go_wp2_with fail
 refine HBW.mono ?_
 rintro e x12 ⟨⟨p12,c12,rfl,hN12⟩,hb12⟩
 have HN12:Hid (MsgsN wa.heap.size x12 p12 BG):=hN12
 have hM12:=HM11.out.below HOO.out hb12
 have HM12:Hid (MidC Ck w.heap.size B h w12.heap.size (.slice q b.t.L.length cap2) wa.heap.size x12 b.mover b.mover):=hM12
 have HB12:Hid (Below w.heap.size w x12):=HB11.out.trans (hb12.mono HB11.out.size)
 have HRB:Hid (Calls Tryz.prog 17 #[.pointer (some ⟨w12.heap.size,0,none⟩)] x12 fun e w'=>(∃ p c,e=.returned (.slice p BG.length c)/\MsgsAt w' p BG)/\Below x12.heap.size x12 w'):=by
  obtain ⟨S,S',mv,fv,lv,vs,_,g2,_⟩:=hM12
  have:=rbegin_any g2 (by show b.f.L.length<=1000;omega)
  rw [HBGE.out] at this
  exact this
 clear hN12 hb12 hM12 HBW HM11 HB11
 go_wp2_with fail
 refine HRB.out.mono ?_
 rintro e x13 ⟨⟨p13,c13,rfl,hm13⟩,hb13⟩
 have HSM:=sameMsgs_yes p12 p13 BG c12 c13 x13 HBS.out.1 HBS.out.2 (HN12.out.below hb13).at_ hm13
 have HM13:Hid (MidC Ck w.heap.size B h w12.heap.size (.slice q b.t.L.length cap2) wa.heap.size x13 b.mover b.mover):=HM12.out.below HOO.out hb13
 have HB13:Hid (Below w.heap.size w x13):=HB12.out.trans (hb13.mono HB12.out.size)
 clear hm13 hb13 HRB HM12 HB12 HN12
 go_wp2_with fail
 refine HSM.mono ?_
 rintro e x14 ⟨rfl,hb14⟩
 have HM14:Hid (MidC Ck w.heap.size B h w12.heap.size (.slice q b.t.L.length cap2) x14.heap.size x14 b.mover b.mover):=(HM13.out.below HOO.out hb14).up
 have HB14:Hid (Below w.heap.size w x14):=HB13.out.trans (hb14.mono HB13.out.size)
 clear hb14 HSM HM13 HB13 HBS
 go_wp2
 generalize w12.heap.size=ab at *
 clear HWA HBGE
 go_loopw [18] (fun x wr=>∃ i:Nat,i<=l.length/\x=.int .i64 i/\(∃ a,MidC Ck w.heap.size B h ab (.slice q b.t.L.length cap2) wr.heap.size wr a a/\MvFine a/\bulkV a.L.flatten<=weighM (l.take i))/\Below w.heap.size w wr) (fun x _=>l.length - (intOf x).toNat)
 case atStart=>exact ⟨0,Nat.zero_le _,rfl,⟨b.mover,HM14.out,HFA.out,Nat.zero_le _⟩,HB14.out⟩
 case round =>
  obtain ⟨i,hi,rfl,⟨a,hM,hA,hbk⟩,hB⟩:=hrel
  obtain ⟨w20,rfl⟩:∃ w20,w20=wr:=⟨_,rfl⟩
  have HB20:Hid (Below w.heap.size w w20):=hB
  clear HM14 HB14 HFA
  by_cases hil:i < l.length
  ·obtain ⟨mb,mo,m1,m2,m3,m4,m5,m6,m7,mL,lq,lc,r1,r2,rl,sw,fd,t1,t2,tx,hmp,HSC,HWO,HHE,HBW,HRH,HSM,HSS,halt,HFA2,HNB⟩:=crnd_all (w20:=w20) (B:=B) (h:=h) (ab:=ab) (nv:=(.slice q b.t.L.length cap2)) HOO.out HGG.out HMS.out HVI.out HFIT.out hil hA hbk
   have HS0:=HSC.out w20.drew HB20.out.drew
   have HMD0:Hid (MidC Ck w.heap.size B h ab (.slice q b.t.L.length cap2) w20.heap.size w20.drew a a):=hM.below HOO.out (Below.refl _ _).drew
   subst hmp
   have HAL:Hid ((Hid (sw=⟨#[100,111,110,101]⟩/\fd=true)/\Hid (∀ W,Below w.heap.size w W->MidC Ck w.heap.size B h ab (.slice q b.t.L.length cap2) W.heap.size W r1 r1->Calls Tryz.prog 31 #[.pointer (some ⟨h,0,none⟩)] W fun e w'=>e=.returned (.tuple #[.agg #[.int .i64 t1,.int .i64 t2],.string tx,.bool true])/\(w'.cell? ⟨ab,13,none⟩=some (.string sw)/\w'.cell? ⟨ab,19,none⟩=some (.bool fd)/\w'.cell? ⟨ab,16,none⟩=some (.int .i64 t1)/\w'.cell? ⟨ab,17,none⟩=some (.int .i64 t2)/\w'.cell? ⟨ab,18,none⟩=some (.string tx))/\MidC Ck w.heap.size B h ab (.slice q b.t.L.length cap2) w'.heap.size w' r1 r1/\Below w.heap.size w w'))∨(Hid (¬ sw.toList=[100,111,110,101]∨fd=false)/\Hid (∀ W,Below w.heap.size w W->MidC Ck w.heap.size B h ab (.slice q b.t.L.length cap2) W.heap.size W r1 r1->Calls Tryz.prog 31 #[.pointer (some ⟨h,0,none⟩)] W fun e w'=>e=.returned (.tuple #[.agg #[.int .i64 0,.int .i64 0],.string ⟨#[]⟩,.bool false])/\(w'.cell? ⟨ab,13,none⟩=some (.string sw)/\w'.cell? ⟨ab,19,none⟩=some (.bool fd)/\w'.cell? ⟨ab,16,none⟩=some (.int .i64 t1)/\w'.cell? ⟨ab,17,none⟩=some (.int .i64 t2)/\w'.cell? ⟨ab,18,none⟩=some (.string tx))/\MidC Ck w.heap.size B h ab (.slice q b.t.L.length cap2) w'.heap.size w' r1 r1/\Below w.heap.size w w'))):=halt
   clear hM hA hbk hB halt HMS HVI HFIT HGG
   go_upto_region 22 with fail
   go_cut [147] from 117 to 193 (fun v W=>v=.bool false/\MidC Ck w.heap.size B h ab (.slice q b.t.L.length cap2) W.heap.size W r1 r1/\Below w.heap.size w W)
   case first =>
    clear HAL HFA2 HNB HOO HSC
    refine wp_region_held_drew (S:=fun W=>(W.cell? ⟨mb,mo+i*8,none⟩=some (.string m1)/\W.cell? ⟨mb,mo+i*8+1,none⟩=some (.string m2)/\W.cell? ⟨mb,mo+i*8+2,none⟩=some (.string m3)/\W.cell? ⟨mb,mo+i*8+3,none⟩=some (.string m4)/\W.cell? ⟨mb,mo+i*8+4,none⟩=some (.int .i64 m5)/\W.cell? ⟨mb,mo+i*8+5,none⟩=some (.int .i64 m6)/\W.cell? ⟨mb,mo+i*8+6,none⟩=some (.bool m7)/\W.cell? ⟨mb,mo+i*8+7,none⟩=some (.slice lq mL.length lc)/\Below w.heap.size w W)) (by kernel_rfl) HS0 (fun hHeld=>?_)
    refine wpAnyH_take (i:=0) (oi:={ dst:=some 123,op:=Op.move (Operand.tmp 14),type:=65,pos := "parts.go:618",after:=#[],guard:=none }) (v:=?_) rfl (by kernel_rfl) (by kernel_rfl) (by kernel_rfl) (fun _ _ _ h=>h) (Or.inl ⟨by rfl,?_⟩) hHeld ?_
    rotate_left
    ·(intro w hSw;(try dsimp only at hSw);go_simp;try with_reducible rfl)
    try simp only [Act.put,List.setIfInBounds_toArray,List.set_cons_zero,List.set_cons_succ]
    refine wpAnyH_take (i:=1) (oi:={ dst:=some 124,op:=Op.move (Operand.tmp 5),type:=27,pos := "parts.go:618",after:=#[],guard:=none }) (v:=?_) rfl (by kernel_rfl) (by kernel_rfl) (by kernel_rfl) (fun _ _ _ h=>h) (Or.inl ⟨by rfl,?_⟩) hHeld ?_
    rotate_left
    ·(intro w hSw;(try dsimp only at hSw);go_simp;try with_reducible rfl)
    try simp only [Act.put,List.setIfInBounds_toArray,List.set_cons_zero,List.set_cons_succ]
    refine wpAnyH_take (i:=2) (oi:={ dst:=some 125,op:=Op.move (Operand.tmp 18),type:=3,pos := "parts.go:618",after:=#[],guard:=none }) (v:=?_) rfl (by kernel_rfl) (by kernel_rfl) (by kernel_rfl) (fun _ _ _ h=>h) (Or.inl ⟨by rfl,?_⟩) hHeld ?_
    rotate_left
    ·(intro w hSw;(try dsimp only at hSw);go_simp;try with_reducible rfl)
    try simp only [Act.put,List.setIfInBounds_toArray,List.set_cons_zero,List.set_cons_succ]
    refine wpAnyH_take (i:=3) (oi:={ dst:=some 126,op:=Op.indexAddr 27 (Operand.tmp 124) (Operand.tmp 125),type:=0,pos := "parts.go:618",after:=#[{ on:=1,ground:=Ground.data },{ on:=2,ground:=Ground.data }],guard:=none }) (v:=?_) rfl (by kernel_rfl) (by kernel_rfl) (by kernel_rfl) (fun _ _ _ h=>h) (Or.inl ⟨by rfl,?_⟩) hHeld ?_
    rotate_left
    ·(intro w hSw;(try dsimp only at hSw);go_simp;try with_reducible rfl)
    try simp only [Act.put,List.setIfInBounds_toArray,List.set_cons_zero,List.set_cons_succ]
    refine wpAnyH_take (i:=4) (oi:={ dst:=some 127,op:=Op.load 59 (Operand.tmp 126),type:=59,pos := "parts.go:618",after:=#[{ on:=3,ground:=Ground.data }],guard:=none }) (v:=?_) rfl (by kernel_rfl) (by kernel_rfl) (by kernel_rfl) (fun _ _ _ h=>h) (Or.inl ⟨by rfl,?_⟩) hHeld ?_
    rotate_left
    ·(intro w hSw;(try dsimp only at hSw);go_simp;try with_reducible rfl)
    try simp only [Act.put,List.setIfInBounds_toArray,List.set_cons_zero,List.set_cons_succ]
    refine wpAnyH_take (i:=8) (oi:={ dst:=some 131,op:=Op.move (Operand.tmp 17),type:=42,pos := "parts.go:618",after:=#[],guard:=none }) (v:=?_) rfl (by kernel_rfl) (by kernel_rfl) (by kernel_rfl) (fun _ _ _ h=>h) (Or.inl ⟨by rfl,?_⟩) hHeld ?_
    rotate_left
    ·(intro w hSw;(try dsimp only at hSw);go_simp;try with_reducible rfl)
    try simp only [Act.put,List.setIfInBounds_toArray,List.set_cons_zero,List.set_cons_succ]
    refine wpAnyH_take (i:=9) (oi:={ dst:=some 132,op:=Op.move (Operand.tmp 5),type:=27,pos := "parts.go:618",after:=#[],guard:=none }) (v:=?_) rfl (by kernel_rfl) (by kernel_rfl) (by kernel_rfl) (fun _ _ _ h=>h) (Or.inl ⟨by rfl,?_⟩) hHeld ?_
    rotate_left
    ·(intro w hSw;(try dsimp only at hSw);go_simp;try with_reducible rfl)
    try simp only [Act.put,List.setIfInBounds_toArray,List.set_cons_zero,List.set_cons_succ]
    refine wpAnyH_take (i:=10) (oi:={ dst:=some 133,op:=Op.move (Operand.tmp 18),type:=3,pos := "parts.go:618",after:=#[],guard:=none }) (v:=?_) rfl (by kernel_rfl) (by kernel_rfl) (by kernel_rfl) (fun _ _ _ h=>h) (Or.inl ⟨by rfl,?_⟩) hHeld ?_
    rotate_left
    ·(intro w hSw;(try dsimp only at hSw);go_simp;try with_reducible rfl)
    try simp only [Act.put,List.setIfInBounds_toArray,List.set_cons_zero,List.set_cons_succ]
    refine wpAnyH_take (i:=11) (oi:={ dst:=some 134,op:=Op.indexAddr 27 (Operand.tmp 132) (Operand.tmp 133),type:=0,pos := "parts.go:618",after:=#[{ on:=9,ground:=Ground.data },{ on:=10,ground:=Ground.data }],guard:=none }) (v:=?_) rfl (by kernel_rfl) (by kernel_rfl) (by kernel_rfl) (fun _ _ _ h=>h) (Or.inl ⟨by rfl,?_⟩) hHeld ?_
    rotate_left
    ·(intro w hSw;(try dsimp only at hSw);go_simp;try with_reducible rfl)
    try simp only [Act.put,List.setIfInBounds_toArray,List.set_cons_zero,List.set_cons_succ]
    refine wpAnyH_take (i:=12) (oi:={ dst:=some 135,op:=Op.load 59 (Operand.tmp 134),type:=59,pos := "parts.go:618",after:=#[{ on:=11,ground:=Ground.data }],guard:=none }) (v:=?_) rfl (by kernel_rfl) (by kernel_rfl) (by kernel_rfl) (fun _ _ _ h=>h) (Or.inl ⟨by rfl,?_⟩) hHeld ?_
    rotate_left
    ·(intro w hSw;(try dsimp only at hSw);go_simp;try with_reducible rfl)
    try simp only [Act.put,List.setIfInBounds_toArray,List.set_cons_zero,List.set_cons_succ]
    refine wpAnyH_ready (rs:=[5]) (by kernel_rfl) (by simp) ?_
    refine AllReadyH.cons (o:={ dst:=some 128,op:=Op.call { callee:=Callee.value (Operand.func 19),args:=#[Operand.tmp 127],argTypes:=#[59] },type:=57,pos := "parts.go:618",after:=#[{ on:=4,ground:=Ground.data }],guard:=none }) rfl (fun K hK=>?_) AllReadyH.nil
    go_simp
    (go_at_call 19;refine (HWO.out _ (by assumption) (by assumption)).mono ?_;rintro e v1 ⟨q1,d1,rfl,hT1,hS1⟩)
    first | (refine hK.out _ _ ?_ (fun hHeld=>?_)) | (go_wp2_with fail;refine hK.out _ _ ?_ (fun hHeld=>?_))
    ·exact hS1
    clear hK K
    try simp only [Act.put,List.setIfInBounds_toArray,List.set_cons_zero,List.set_cons_succ]
    refine wpAnyH_ready (rs:=[6]) (by kernel_rfl) (by simp) ?_
    refine AllReadyH.cons (o:={ dst:=some 129,op:=Op.call { callee:=Callee.value (Operand.func 29),args:=#[Operand.tmp 123,Operand.tmp 128],argTypes:=#[65,57] },type:=51,pos := "parts.go:618",after:=#[{ on:=0,ground:=Ground.data },{ on:=5,ground:=Ground.data },{ on:=5,ground:=Ground.chain }],guard:=none }) rfl (fun K hK=>?_) AllReadyH.nil
    go_simp
    (go_at_call 29;refine (HHE.out _ _ _ (by assumption) (by assumption)).mono ?_;rintro e v2 ⟨p2,c2,rfl,hT2,hS2⟩)
    first | (refine hK.out _ _ ?_ (fun hHeld=>?_)) | (go_wp2_with fail;refine hK.out _ _ ?_ (fun hHeld=>?_))
    ·exact hS2
    clear hK K
    try simp only [Act.put,List.setIfInBounds_toArray,List.set_cons_zero,List.set_cons_succ]
    refine wpAnyH_ready (rs:=[7]) (by kernel_rfl) (by simp) ?_
    refine AllReadyH.cons (o:={ dst:=some 130,op:=Op.call { callee:=Callee.value (Operand.func 15),args:=#[Operand.tmp 129],argTypes:=#[51] },type:=27,pos := "parts.go:618",after:=#[{ on:=6,ground:=Ground.data },{ on:=6,ground:=Ground.chain }],guard:=none }) rfl (fun K hK=>?_) AllReadyH.nil
    go_simp
    (go_at_call 15;refine (HBW.out _ _ _ (by assumption) (by assumption)).mono ?_;rintro e v3 ⟨p3,c3,rfl,hT3,hS3⟩)
    first | (refine hK.out _ _ ?_ (fun hHeld=>?_)) | (go_wp2_with fail;refine hK.out _ _ ?_ (fun hHeld=>?_))
    ·exact hS3
    clear hK K
    try simp only [Act.put,List.setIfInBounds_toArray,List.set_cons_zero,List.set_cons_succ]
    refine wpAnyH_ready (rs:=[13]) (by kernel_rfl) (by simp) ?_
    refine AllReadyH.cons (o:={ dst:=some 136,op:=Op.call { callee:=Callee.value (Operand.func 20),args:=#[Operand.tmp 131,Operand.tmp 135],argTypes:=#[42,59] },type:=27,pos := "parts.go:618",after:=#[{ on:=8,ground:=Ground.data },{ on:=12,ground:=Ground.data },{ on:=7,ground:=Ground.chain }],guard:=none }) rfl (fun K hK=>?_) AllReadyH.nil
    go_simp
    (go_at_call 20;refine (HRH.out _ p3 (by assumption) (by assumption)).mono ?_;rintro e v4 ⟨q4,d4,rfl,hT4,hS4⟩)
    first | (refine hK.out _ _ ?_ (fun hHeld=>?_)) | (go_wp2_with fail;refine hK.out _ _ ?_ (fun hHeld=>?_))
    ·exact hS4
    clear hK K
    try simp only [Act.put,List.setIfInBounds_toArray,List.set_cons_zero,List.set_cons_succ]
    refine wpAnyH_ready (rs:=[14]) (by kernel_rfl) (by simp) ?_
    refine AllReadyH.cons (o:={ dst:=some 137,op:=Op.call { callee:=Callee.value (Operand.func 14),args:=#[Operand.tmp 130,Operand.tmp 136],argTypes:=#[27,27] },type:=4,pos := "parts.go:618",after:=#[{ on:=7,ground:=Ground.data },{ on:=13,ground:=Ground.data },{ on:=13,ground:=Ground.chain }],guard:=none }) rfl (fun K hK=>?_) AllReadyH.nil
    go_simp
    (go_at_call 14;refine (HSM.out _ _ _ _ _ (by assumption) (by assumption)).mono ?_;rintro e v5 ⟨rfl,hT5,hS5,hc5⟩)
    first | (refine hK.out _ _ ?_ (fun hHeld=>?_)) | (go_wp2_with fail;refine hK.out _ _ ?_ (fun hHeld=>?_))
    ·exact hS5
    clear hK K
    try simp only [Act.put,List.setIfInBounds_toArray,List.set_cons_zero,List.set_cons_succ]
    refine cwpAnyH_weak (S':=fun W=>(W.cell? ⟨mb,mo+i*8,none⟩=some (.string m1)/\W.cell? ⟨mb,mo+i*8+1,none⟩=some (.string m2)/\W.cell? ⟨mb,mo+i*8+2,none⟩=some (.string m3)/\W.cell? ⟨mb,mo+i*8+3,none⟩=some (.string m4)/\W.cell? ⟨mb,mo+i*8+4,none⟩=some (.int .i64 m5)/\W.cell? ⟨mb,mo+i*8+5,none⟩=some (.int .i64 m6)/\W.cell? ⟨mb,mo+i*8+6,none⟩=some (.bool m7)/\W.cell? ⟨mb,mo+i*8+7,none⟩=some (.slice lq mL.length lc)/\Below w.heap.size w W)/\W.cell? ⟨ab,13,none⟩=some (.string sw)) (fun w h=>h.1) _ _ _ _ ?_
    refine wpAnyH_take (i:=15) (oi:={ dst:=some 138,op:=Op.unOp UnOp.not 4 (Operand.tmp 137),type:=4,pos := "parts.go:618",after:=#[{ on:=14,ground:=Ground.data }],guard:=none }) (v:=?_) rfl (by kernel_rfl) (by kernel_rfl) (by kernel_rfl) (fun _ _ _ h=>h) (Or.inl ⟨by rfl,?_⟩) ⟨hS5,hc5⟩ ?_
    rotate_left
    ·(intro w hSw;(try dsimp only at hSw);go_simp;try with_reducible rfl)
    try simp only [Act.put,List.setIfInBounds_toArray,List.set_cons_zero,List.set_cons_succ]
    refine wpAnyH_take (i:=16) (oi:={ dst:=some 139,op:=Op.move (Operand.tmp 138),type:=4,pos := "parts.go:618",after:=#[{ on:=15,ground:=Ground.data },{ on:=14,ground:=Ground.chain }],guard:=none }) (v:=?_) rfl (by kernel_rfl) (by kernel_rfl) (by kernel_rfl) (fun _ _ _ h=>h) (Or.inl ⟨by rfl,?_⟩) ⟨hS5,hc5⟩ ?_
    rotate_left
    ·(intro w hSw;(try dsimp only at hSw);go_simp;try with_reducible rfl)
    try simp only [Act.put,List.setIfInBounds_toArray,List.set_cons_zero,List.set_cons_succ]
    refine wpAnyH_take (i:=17) (oi:={ dst:=some 140,op:=Op.move (Operand.tmp 14),type:=65,pos := "parts.go:618",after:=#[{ on:=16,ground:=Ground.guard }],guard:=some (16,false) }) (v:=?_) rfl (by kernel_rfl) (by kernel_rfl) (by kernel_rfl) (fun _ _ _ h=>h) (Or.inl ⟨by rfl,?_⟩) ⟨hS5,hc5⟩ ?_
    rotate_left
    ·(intro w hSw;(try dsimp only at hSw);go_simp;try with_reducible rfl)
    try simp only [Act.put,List.setIfInBounds_toArray,List.set_cons_zero,List.set_cons_succ]
    refine wpAnyH_take (i:=19) (oi:={ dst:=some 142,op:=Op.move (Operand.tmp 17),type:=42,pos := "parts.go:618",after:=#[{ on:=16,ground:=Ground.guard }],guard:=some (16,false) }) (v:=?_) rfl (by kernel_rfl) (by kernel_rfl) (by kernel_rfl) (fun _ _ _ h=>h) (Or.inl ⟨by rfl,?_⟩) ⟨hS5,hc5⟩ ?_
    rotate_left
    ·(intro w hSw;(try dsimp only at hSw);go_simp;try with_reducible rfl)
    try simp only [Act.put,List.setIfInBounds_toArray,List.set_cons_zero,List.set_cons_succ]
    refine wpAnyH_take (i:=20) (oi:={ dst:=some 143,op:=Op.nilCheck (Operand.tmp 142),type:=0,pos := "parts.go:618",after:=#[{ on:=19,ground:=Ground.data },{ on:=16,ground:=Ground.guard }],guard:=some (16,false) }) (v:=?_) rfl (by kernel_rfl) (by kernel_rfl) (by kernel_rfl) (fun _ _ _ h=>h) (Or.inl ⟨by rfl,?_⟩) ⟨hS5,hc5⟩ ?_
    rotate_left
    ·(intro w hSw;(try dsimp only at hSw);go_simp;try with_reducible rfl)
    try simp only [Act.put,List.setIfInBounds_toArray,List.set_cons_zero,List.set_cons_succ]
    refine wpAnyH_take (i:=21) (oi:={ dst:=some 144,op:=Op.fieldAddr 48 (Operand.tmp 143) 9,type:=0,pos := "parts.go:618",after:=#[{ on:=20,ground:=Ground.data },{ on:=16,ground:=Ground.guard }],guard:=some (16,false) }) (v:=?_) rfl (by kernel_rfl) (by kernel_rfl) (by kernel_rfl) (fun _ _ _ h=>h) (Or.inl ⟨by rfl,?_⟩) ⟨hS5,hc5⟩ ?_
    rotate_left
    ·(intro w hSw;(try dsimp only at hSw);go_simp;try with_reducible rfl)
    try simp only [Act.put,List.setIfInBounds_toArray,List.set_cons_zero,List.set_cons_succ]
    refine wpAnyH_take (i:=22) (oi:={ dst:=some 145,op:=Op.load 9 (Operand.tmp 144),type:=9,pos := "parts.go:618",after:=#[{ on:=21,ground:=Ground.data },{ on:=16,ground:=Ground.guard }],guard:=some (16,false) }) (v:=?_) rfl (by kernel_rfl) (by kernel_rfl) (by kernel_rfl) (fun _ _ _ h=>h) (Or.inl ⟨by rfl,?_⟩) ⟨hS5,hc5⟩ ?_
    rotate_left
    ·(intro w hSw;(try dsimp only at hSw);go_simp;try with_reducible rfl)
    try simp only [Act.put,List.setIfInBounds_toArray,List.set_cons_zero,List.set_cons_succ]
    refine wpAnyH_ready (rs:=[18]) (by kernel_rfl) (by simp) ?_
    refine AllReadyH.cons (o:={ dst:=some 141,op:=Op.call { callee:=Callee.value (Operand.func 30),args:=#[Operand.tmp 140],argTypes:=#[65] },type:=9,pos := "parts.go:618",after:=#[{ on:=17,ground:=Ground.data },{ on:=16,ground:=Ground.chain },{ on:=16,ground:=Ground.guard }],guard:=some (16,false) }) rfl (fun K hK=>?_) AllReadyH.nil
    go_simp
    (go_at_call 30;refine (HSS.out _ (by assumption) (by assumption)).mono ?_;rintro e v6 ⟨rfl,hT6,hS6,hc6⟩)
    first | (refine hK.out _ _ ?_ (fun hHeld=>?_)) | (go_wp2_with fail;refine hK.out _ _ ?_ (fun hHeld=>?_))
    ·exact ⟨hS6,hc6⟩
    clear hK K
    try simp only [Act.put,List.setIfInBounds_toArray,List.set_cons_zero,List.set_cons_succ]
    refine wpAnyH_take (i:=23) (oi:={ dst:=some 146,op:=Op.binOp BinOp.neq 9 (Operand.tmp 141) (Operand.tmp 145) 9,type:=4,pos := "parts.go:618",after:=#[{ on:=18,ground:=Ground.data },{ on:=22,ground:=Ground.data },{ on:=16,ground:=Ground.guard }],guard:=some (16,false) }) (v:=?_) rfl (by kernel_rfl) (by kernel_rfl) (by kernel_rfl) (fun _ _ _ h=>h) (Or.inl ⟨by rfl,?_⟩) ⟨hS6,hc6⟩ ?_
    rotate_left
    ·(intro w hSw;(try dsimp only at hSw);go_simp;try with_reducible rfl)
    try simp only [Act.put,List.setIfInBounds_toArray,List.set_cons_zero,List.set_cons_succ]
    refine wpAnyH_take (i:=24) (oi:={ dst:=some 147,op:=Op.pick (Operand.tmp 139) (Operand.const (Value.bool true)) (Operand.tmp 146),type:=4,pos := "parts.go:618",after:=#[{ on:=16,ground:=Ground.data },{ on:=23,ground:=Ground.data }],guard:=none }) (v:=?_) rfl (by kernel_rfl) (by kernel_rfl) (by kernel_rfl) (fun _ _ _ h=>h) (Or.inl ⟨by rfl,?_⟩) ⟨hS6,hc6⟩ ?_
    rotate_left
    ·(intro w hSw;(try dsimp only at hSw);go_simp;try with_reducible rfl)
    try simp only [Act.put,List.setIfInBounds_toArray,List.set_cons_zero,List.set_cons_succ]
    refine wpAnyH_done (by kernel_rfl) ?_ _
    all_goals (go_wp2_with fail;go_meet)
    all_goals exact ⟨by first | rfl | simp,hT6.out,hS6.2.2.2.2.2.2.2.2⟩
   case rest =>
    obtain ⟨rfl,hm,hb⟩:=hcut
    obtain ⟨w30,rfl⟩:∃ w30,w30=wc:=⟨_,rfl⟩
    clear HWO HHE HBW HRH HSM HSS HS0 HMD0 HSC HB20
    rcases HAL.out with ⟨HC,HAN⟩ | ⟨HC,HAN⟩
    ·have HA30:=HAN.out w30 hb hm
     obtain ⟨rfl,rfl⟩:=HC.out
     clear HAL HAN HC hm hb
     go_wp2_with fail
     refine HA30.mono ?_
     rintro e w31 ⟨rfl,⟨x13,x19,x16,x17,x18⟩,hm31,hb31⟩
     obtain ⟨w32,hw32⟩:∃ w32,w32=w31.alloc (.cells #[.int .i64 t1,.int .i64 t2] 46):=⟨_,rfl⟩
     have hb32:Below w31.heap.size w31 w32:=by rw [hw32];exact (Below.refl _ _).alloc (Nat.le_refl _) _
     have s0:w32.cell? ⟨w31.heap.size,0,none⟩=some (.int .i64 t1):=by rw [hw32];simp
     have s1:w32.cell? ⟨w31.heap.size,1,none⟩=some (.int .i64 t2):=by rw [hw32];simp
     have hlt:=lt_of_cellH x13
     have y13:=(hb32.cell (p:=⟨ab,13,none⟩) hlt).trans x13
     have y19:=(hb32.cell (p:=⟨ab,19,none⟩) hlt).trans x19
     have y16:=(hb32.cell (p:=⟨ab,16,none⟩) hlt).trans x16
     have y17:=(hb32.cell (p:=⟨ab,17,none⟩) hlt).trans x17
     have y18:=(hb32.cell (p:=⟨ab,18,none⟩) hlt).trans x18
     have HM32:Hid (MidC Ck w.heap.size B h ab (.slice q b.t.L.length cap2) w32.heap.size w32 r1 r1):=(hm31.below HOO.out hb32).up
     have HB32:Hid (Below w.heap.size w w32):=hb31.trans (hb32.mono hb31.size)
     have HW32:Hid (w32=w31.alloc (.cells #[.int .i64 t1,.int .i64 t2] 46)):=hw32
     clear hw32 hb32 hlt x13 x19 x16 x17 x18 hm31 hb31 HA30
     go_upto_region 28 with (first | rw [<- HW32.out] | fail)
     go_cut [193] from 117 to 193 (fun v W=>v=.bool false/\Below w32.heap.size w32 W)
     case first =>
      go_quiet (fail)
      all_goals (go_wp2_with fail;go_meet)
      all_goals exact ⟨by first | rfl | simp,below_drewN (Below.refl _ _) _⟩
     case rest =>
      obtain ⟨rfl,hbx⟩:=hcut
      have HBX:Hid (Below w32.heap.size w32 wc):=hbx
      clear hbx
      go_wp2
      go_roundw
      case rel=>exact ⟨i+1,by omega,by go_num,⟨r1,(HM32.out.below HOO.out HBX.out).up,HFA2.out,HNB.out⟩,HB32.out.trans (HBX.out.mono HB32.out.size)⟩
      case measure=>simp [intOf];omega
    ·have HA30:=HAN.out w30 hb hm
     have HC':=HC.out
     clear HAL HAN HC hm hb
     go_wp2_with fail
     refine HA30.mono ?_
     rintro e w31 ⟨rfl,⟨x13,x19,x16,x17,x18⟩,hm31,hb31⟩
     obtain ⟨w32,hw32⟩:∃ w32,w32=w31.alloc (.cells #[.int .i64 0,.int .i64 0] 46):=⟨_,rfl⟩
     have hb32:Below w31.heap.size w31 w32:=by rw [hw32];exact (Below.refl _ _).alloc (Nat.le_refl _) _
     have s0:w32.cell? ⟨w31.heap.size,0,none⟩=some (.int .i64 0):=by rw [hw32];simp
     have s1:w32.cell? ⟨w31.heap.size,1,none⟩=some (.int .i64 0):=by rw [hw32];simp
     have hlt:=lt_of_cellH x13
     have y13:=(hb32.cell (p:=⟨ab,13,none⟩) hlt).trans x13
     have y19:=(hb32.cell (p:=⟨ab,19,none⟩) hlt).trans x19
     have y16:=(hb32.cell (p:=⟨ab,16,none⟩) hlt).trans x16
     have y17:=(hb32.cell (p:=⟨ab,17,none⟩) hlt).trans x17
     have y18:=(hb32.cell (p:=⟨ab,18,none⟩) hlt).trans x18
     have HM32:Hid (MidC Ck w.heap.size B h ab (.slice q b.t.L.length cap2) w32.heap.size w32 r1 r1):=(hm31.below HOO.out hb32).up
     have HB32:Hid (Below w.heap.size w w32):=hb31.trans (hb32.mono hb31.size)
     have HW32:Hid (w32=w31.alloc (.cells #[.int .i64 0,.int .i64 0] 46)):=hw32
     clear hw32 hb32 hlt x13 x19 x16 x17 x18 hm31 hb31 HA30 HOO
     rcases HC' with HC' | HC'
     ·skip
      go_upto_region 25 with fail
      rw [<- HW32.out]
      go_wp2
      all_goals (go_roundw;(case rel=>exact ⟨i+1,by omega,by go_num,⟨r1,HM32.out,HFA2.out,HNB.out⟩,HB32.out⟩);(case measure=>simp [intOf];omega))
     ·subst HC'
      go_upto_region 25 with fail
      rw [<- HW32.out]
      go_wp2
      all_goals (go_roundw;(case rel=>exact ⟨i+1,by omega,by go_num,⟨r1,HM32.out,HFA2.out,HNB.out⟩,HB32.out⟩);(case measure=>simp [intOf];omega))
  ·clear hM hA hbk hB
   go_wp2
   go_ret
   exact ⟨rfl,HB20.out⟩
theorem carryHears_any (hO:CarryOk ad X Ck) (b:Lift) (p:Option Addr) (cap:Nat) (q:Option Addr) (cap2:Nat) (l:List Msg) (lp:Option Addr) (lcap:Nat) (w:World) (hi:LiftIn ad X b p cap q cap2 l lp w):Calls Tryz.prog 4 #[.int .i64 b.op,.agg #[.int .i64 b.f.n,.int .i64 b.f.k,.slice p b.f.L.length cap],.agg #[.int .i64 b.t.n,.int .i64 b.t.k,.slice q b.t.L.length cap2],.int .i64 b.config,.string b.key,.slice lp l.length lcap] w fun e w'=>e=.returned (.bool true)/\Below w.heap.size w w':=by
 cases h1:longC b.f with
 | true=>exact carryHears_longF hO b p cap q cap2 l lp lcap w hi h1
 | false =>
  cases h2:longC b.t with
  | true=>exact carryHears_longT hO b p cap q cap2 l lp lcap w hi h1 h2
  | false =>
   by_cases h3:100 < b.key.size
   ·exact carryHears_key hO b p cap q cap2 l lp lcap w hi h1 h2 h3
   ·cases h4:fitsM l with
    | false=>exact carryHears_much hO b p cap q cap2 l lp lcap w hi h1 h2 h3 h4
    | true =>
     by_cases g1:0 < (cfgF b.f).1
     ·exact carryHears_badF hO b p cap q cap2 l lp lcap w hi h1 h2 h3 h4 g1
     ·by_cases g2:0 < (cfgF b.t).1
      ·exact carryHears_badT hO b p cap q cap2 l lp lcap w hi h1 h2 h3 h4 g1 g2
      ·cases g3:isN b.key with
       | false=>exact carryHears_badK hO b p cap q cap2 l lp lcap w hi h1 h2 h3 h4 g1 g2 g3
       | true =>
        by_cases g5:b.op < 0
        ·exact carryHears_badO hO b p cap q cap2 l lp lcap w hi h1 h2 h3 h4 g1 g2 g3 g5
        ·by_cases g7:b.config < 0
         ·exact carryHears_badC hO b p cap q cap2 l lp lcap w hi h1 h2 h3 h4 g1 g2 g3 g5 g7
         ·by_cases g8:b.config=9223372036854775807
          ·exact carryHears_badM hO b p cap q cap2 l lp lcap w hi h1 h2 h3 h4 g1 g2 g3 g5 g7 g8
          ·exact carryHears_fine hO b p cap q cap2 l lp lcap w hi h1 h2 h3 h4 g1 g2 g3 ⟨by omega,by omega,by have:=hi.config.2;omega⟩
end Go.Proofs.YtmhoiodfppdlnaaGreatDoor
