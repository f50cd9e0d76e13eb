import Derived.Test.YtmhoiodfppdlnaaGreatDoorCy42
import Derived.Test.YtmhoiodfppdlnaaGreatDoorCy43
import Derived.Test.YtmhoiodfppdlnaaGreatDoorCy2
import Derived.Test.YtmhoiodfppdlnaaGreatDoorCy7
import Derived.Test.YtmhoiodfppdlnaaGreatDoorCy4
namespace Go.Proofs.YtmhoiodfppdlnaaGreatDoor
open Go.RowKit
variable {ad:Nat->Addr} {X:World->Prop} {Ck:World->Nat->Nat->(Nat->Prop)->MAsk->Prop}
theorem carF_f {b:Lift} (h:0 < (cfgF b.f).1):carF b=cfgF b.f:=if_pos h
theorem carF_t {b:Lift} (h:¬ 0 < (cfgF b.f).1) (h2:0 < (cfgF b.t).1):carF b=cfgF b.t:=by unfold carF;rw [if_neg h,if_pos h2]
theorem carF_k {b:Lift} (h:¬ 0 < (cfgF b.f).1) (h2:¬ 0 < (cfgF b.t).1) (h3:isN b.key=false):carF b=(4,-1):=by unfold carF;rw [if_neg h,if_neg h2,if_pos h3]
theorem carF_b {b:Lift} (h:¬ 0 < (cfgF b.f).1) (h2:¬ 0 < (cfgF b.t).1) (h3:isN b.key=true) (h4:¬ b.fits):carF b=(2,-1):=by unfold carF;rw [if_neg h,if_neg h2,if_neg (by rw [h3];decide)];exact if_neg h4
theorem carF_0 {b:Lift} (h:¬ 0 < (cfgF b.f).1) (h2:¬ 0 < (cfgF b.t).1) (h3:isN b.key=true) (h4:b.fits):carF b=(0,-1):=by unfold carF;rw [if_neg h,if_neg h2,if_neg (by rw [h3];decide)];exact if_pos h4
set_option maxRecDepth 10000 in
set_option maxHeartbeats 8000000 in
theorem carryHears_badF (hO:CarryOk ad X Ck) (b:Lift) (p:Option Addr) (cap:Nat) (q:Option Addr) (cap2:Nat) (l:List Msg) (lp:Option Addr) (lcap:Nat) (w:World) (hi:LiftIn ad X b p cap q cap2 l lp w) (h1:longC b.f=false) (h2:longC b.t=false) (h3:¬ 100 < b.key.size) (h4:fitsM l=true) (g1:0 < (cfgF b.f).1):Calls Tryz.prog 4 #[.int .i64 b.op,.agg #[.int .i64 b.f.n,.int .i64 b.f.k,.slice p b.f.L.length cap],.agg #[.int .i64 b.t.n,.int .i64 b.t.k,.slice q b.t.L.length cap2],.int .i64 b.config,.string b.key,.slice lp l.length lcap] w fun e w'=>e=.returned (.bool true)/\Below w.heap.size w w':=by
 have h6:0 < (carF b).1:=by rw [carF_f g1];exact g1
 obtain ⟨w1,hw1⟩:∃ w1,w1=(w.alloc (.cells #[.int .i64 b.f.n,.int .i64 b.f.k,.slice p b.f.L.length cap] 24)).alloc (.cells #[.int .i64 b.t.n,.int .i64 b.t.k,.slice q b.t.L.length cap2] 24):=⟨_,rfl⟩
 have hb1:Below w.heap.size w w1:=by rw [hw1];exact ((Below.refl _ _).alloc (Nat.le_refl _) _).alloc (by simp) _
 have hz1:w1.heap.size=w.heap.size+2:=by rw [hw1];simp
 have hblF:w1.heap[w.heap.size]?=some (.cells #[.int .i64 b.f.n,.int .i64 b.f.k,.slice p b.f.L.length cap] 24 (0,0)):=by rw [hw1,heap_alloc_old _ _ (by simp)];exact heap_alloc_new _ _
 have hblT:w1.heap[w.heap.size+1]?=some (.cells #[.int .i64 b.t.n,.int .i64 b.t.k,.slice q b.t.L.length cap2] 24 (0,0)):=by
  have e:w.heap.size+1=(w.alloc (.cells #[.int .i64 b.f.n,.int .i64 b.f.k,.slice p b.f.L.length cap] 24)).heap.size:=by simp
  rw [hw1,e]
  exact heap_alloc_new _ _
 have HS9:Hid (∀ V,Below w1.heap.size w1 V->(V.cell? ⟨w.heap.size,0,none⟩=some (.int .i64 b.f.n)/\V.cell? ⟨w.heap.size,1,none⟩=some (.int .i64 b.f.k)/\V.cell? ⟨w.heap.size,2,none⟩=some (.slice p b.f.L.length cap)/\V.cell? ⟨w.heap.size+1,0,none⟩=some (.int .i64 b.t.n)/\V.cell? ⟨w.heap.size+1,1,none⟩=some (.int .i64 b.t.k)/\V.cell? ⟨w.heap.size+1,2,none⟩=some (.slice q b.t.L.length cap2)/\Below w1.heap.size w1 V)):=fun V hV=>by
  have hF:=(hV.block _ (by omega)).trans hblF
  have hT:=(hV.block _ (by omega)).trans hblT
  exact ⟨(rblk_cell hF 0).1,(rblk_cell hF 1).1,(rblk_cell hF 2).1,(rblk_cell hT 0).1,(rblk_cell hT 1).1,(rblk_cell hT 2).1,hV⟩
 have HAS:=carried_any hO w1 (fun V hV=>(hi.ok (hb1.trans (hV.mono hb1.size))).1) (fun V hV=>(hi.ok (hb1.trans (hV.mono hb1.size))).2)
 have HL1:Hid (∀ V,Below w1.heap.size w1 V->Calls Tryz.prog 6 #[.agg #[.int .i64 b.f.n,.int .i64 b.f.k,.slice p b.f.L.length cap]] V fun e w'=>e=.returned (.bool (longC b.f))/\Below w1.heap.size w1 w'):=fun V hV=>(longConfig_any b.f p cap V hi.lenF hi.sizeF ((hi.strsF.below hb1).below hV)).mono fun e w' hq=>⟨hq.1,hV.trans (hq.2.mono hV.size)⟩
 have HL2:Hid (∀ V,Below w1.heap.size w1 V->Calls Tryz.prog 6 #[.agg #[.int .i64 b.t.n,.int .i64 b.t.k,.slice q b.t.L.length cap2]] V fun e w'=>e=.returned (.bool (longC b.t))/\Below w1.heap.size w1 w'):=fun V hV=>(longConfig_any b.t q cap2 V hi.lenT hi.sizeT ((hi.strsT.below hb1).below hV)).mono fun e w' hq=>⟨hq.1,hV.trans (hq.2.mono hV.size)⟩
 have HMF:Hid (∀ V,Below w1.heap.size w1 V->Calls Tryz.prog 7 #[.slice lp l.length lcap] V fun e w'=>e=.returned (.bool (fitsM l))/\Below w1.heap.size w1 w'):=fun V hV=>(messagesFit_any lp l lcap V hi.much ((hi.msgs.below hb1).below hV)).mono fun e w' hq=>⟨hq.1,hV.trans (hq.2.mono hV.size)⟩
 have HW1:Hid (w1=(w.alloc (.cells #[.int .i64 b.f.n,.int .i64 b.f.k,.slice p b.f.L.length cap] 24)).alloc (.cells #[.int .i64 b.t.n,.int .i64 b.t.k,.slice q b.t.L.length cap2] 24)):=hw1
 have HB1:Hid (Below w.heap.size w w1):=hb1
 obtain ⟨nf1,nf2⟩:=longC_fine h1
 obtain ⟨nt1,nt2⟩:=longC_fine h2
 have HCFF:Hid (∀ V u d,Strs V u b.f.L->b.f.L.length<=d->(u=none->b.f.L=[]/\d=0)->CfgAt V b.f u d):=fun V u d g1 g2 g3=>cfgAt_of g1 g2 g3 h1 hi.intsF
 have HCFT:Hid (∀ V u d,Strs V u b.t.L->b.t.L.length<=d->(u=none->b.t.L=[]/\d=0)->CfgAt V b.t u d):=fun V u d g1 g2 g3=>cfgAt_of g1 g2 g3 h2 hi.intsT
 have HOC1:Hid (∀ V,(V.cell? ⟨w.heap.size,0,none⟩=some (.int .i64 b.f.n)/\V.cell? ⟨w.heap.size,1,none⟩=some (.int .i64 b.f.k)/\V.cell? ⟨w.heap.size,2,none⟩=some (.slice p b.f.L.length cap)/\V.cell? ⟨w.heap.size+1,0,none⟩=some (.int .i64 b.t.n)/\V.cell? ⟨w.heap.size+1,1,none⟩=some (.int .i64 b.t.k)/\V.cell? ⟨w.heap.size+1,2,none⟩=some (.slice q b.t.L.length cap2)/\Below w1.heap.size w1 V)->Calls Tryz.prog 9 #[.agg #[.int .i64 b.f.n,.int .i64 b.f.k,.slice p b.f.L.length cap]] V fun e w'=>∃ u d,e=.returned (.agg #[.int .i64 b.f.n,.int .i64 b.f.k,.slice u b.f.L.length d])/\Hid (CfgAt w' b.f u d)/\(w'.cell? ⟨w.heap.size,0,none⟩=some (.int .i64 b.f.n)/\w'.cell? ⟨w.heap.size,1,none⟩=some (.int .i64 b.f.k)/\w'.cell? ⟨w.heap.size,2,none⟩=some (.slice p b.f.L.length cap)/\w'.cell? ⟨w.heap.size+1,0,none⟩=some (.int .i64 b.t.n)/\w'.cell? ⟨w.heap.size+1,1,none⟩=some (.int .i64 b.t.k)/\w'.cell? ⟨w.heap.size+1,2,none⟩=some (.slice q b.t.L.length cap2)/\Below w1.heap.size w1 w')):=fun V hV=>(ownConfig_any b.f p cap V (by omega) ((hi.strsF.below hb1).below hV.2.2.2.2.2.2) hi.emptyF).mono fun e w' hq=>by
  obtain ⟨⟨u,d,e1,e2,e3,e4⟩,e5⟩:=hq
  exact ⟨u,d,e1,HCFF.out w' u d e2 e3 e4,HS9.out w' (hV.2.2.2.2.2.2.trans (e5.mono hV.2.2.2.2.2.2.size))⟩
 have HOC2:Hid (∀ V u d,Hid (CfgAt V b.f u d)->(V.cell? ⟨w.heap.size,0,none⟩=some (.int .i64 b.f.n)/\V.cell? ⟨w.heap.size,1,none⟩=some (.int .i64 b.f.k)/\V.cell? ⟨w.heap.size,2,none⟩=some (.slice p b.f.L.length cap)/\V.cell? ⟨w.heap.size+1,0,none⟩=some (.int .i64 b.t.n)/\V.cell? ⟨w.heap.size+1,1,none⟩=some (.int .i64 b.t.k)/\V.cell? ⟨w.heap.size+1,2,none⟩=some (.slice q b.t.L.length cap2)/\Below w1.heap.size w1 V)->Calls Tryz.prog 9 #[.agg #[.int .i64 b.t.n,.int .i64 b.t.k,.slice q b.t.L.length cap2]] V fun e w'=>∃ u2 d2,e=.returned (.agg #[.int .i64 b.t.n,.int .i64 b.t.k,.slice u2 b.t.L.length d2])/\Hid (CfgAt w' b.f u d/\CfgAt w' b.t u2 d2)/\(w'.cell? ⟨w.heap.size,0,none⟩=some (.int .i64 b.f.n)/\w'.cell? ⟨w.heap.size,1,none⟩=some (.int .i64 b.f.k)/\w'.cell? ⟨w.heap.size,2,none⟩=some (.slice p b.f.L.length cap)/\w'.cell? ⟨w.heap.size+1,0,none⟩=some (.int .i64 b.t.n)/\w'.cell? ⟨w.heap.size+1,1,none⟩=some (.int .i64 b.t.k)/\w'.cell? ⟨w.heap.size+1,2,none⟩=some (.slice q b.t.L.length cap2)/\Below w1.heap.size w1 w')):=fun V u d hC hV=>(ownConfig_any b.t q cap2 V (by omega) ((hi.strsT.below hb1).below hV.2.2.2.2.2.2) hi.emptyT).mono fun e w' hq=>by
  obtain ⟨⟨u2,d2,e1,e2,e3,e4⟩,e5⟩:=hq
  exact ⟨u2,d2,e1,⟨hC.out.below e5,HCFT.out w' u2 d2 e2 e3 e4⟩,HS9.out w' (hV.2.2.2.2.2.2.trans (e5.mono hV.2.2.2.2.2.2.size))⟩
 have HOKX:Hid (∀ V,Below w1.heap.size w1 V->ErrsQ V ad/\X V):=fun V hV=>hi.ok (hb1.trans (hV.mono hb1.size))
 have HPT:Hid (∀ V u d u2 d2,Hid (CfgAt V b.f u d/\CfgAt V b.t u2 d2)->(V.cell? ⟨w.heap.size,0,none⟩=some (.int .i64 b.f.n)/\V.cell? ⟨w.heap.size,1,none⟩=some (.int .i64 b.f.k)/\V.cell? ⟨w.heap.size,2,none⟩=some (.slice p b.f.L.length cap)/\V.cell? ⟨w.heap.size+1,0,none⟩=some (.int .i64 b.t.n)/\V.cell? ⟨w.heap.size+1,1,none⟩=some (.int .i64 b.t.k)/\V.cell? ⟨w.heap.size+1,2,none⟩=some (.slice q b.t.L.length cap2)/\Below w1.heap.size w1 V)->Calls Tryz.prog 24 #[.int .i64 b.op,.agg #[.int .i64 b.f.n,.int .i64 b.f.k,.slice u b.f.L.length d],.agg #[.int .i64 b.t.n,.int .i64 b.t.k,.slice u2 b.t.L.length d2],.int .i64 b.config,.string b.key] V fun e w'=>∃ et eu,e=.returned (.tuple #[.pointer none,.iface et eu])/\Hid (ErrIs w' ad (.iface et eu) (carF b).1 (carF b).2)/\(w'.cell? ⟨w.heap.size,0,none⟩=some (.int .i64 b.f.n)/\w'.cell? ⟨w.heap.size,1,none⟩=some (.int .i64 b.f.k)/\w'.cell? ⟨w.heap.size,2,none⟩=some (.slice p b.f.L.length cap)/\w'.cell? ⟨w.heap.size+1,0,none⟩=some (.int .i64 b.t.n)/\w'.cell? ⟨w.heap.size+1,1,none⟩=some (.int .i64 b.t.k)/\w'.cell? ⟨w.heap.size+1,2,none⟩=some (.slice q b.t.L.length cap2)/\Below w1.heap.size w1 w')):=fun V u d u2 d2 hC hV=>(hO.new b u d u2 d2 V hC.out.1 hC.out.2 (by omega) hi.op hi.config (HOKX.out V hV.2.2.2.2.2.2).1 (HOKX.out V hV.2.2.2.2.2.2).2).mono fun e w' hq=>by
  obtain ⟨⟨ev,g1,g2⟩,g3⟩:=hq
  obtain ⟨et,eu,rfl⟩:=g1.some h6
  rcases g2 with ⟨_,g4⟩ | ⟨g4,_⟩
  ·exact ⟨et,eu,g4,g1,HS9.out w' (hV.2.2.2.2.2.2.trans (g3.mono hV.2.2.2.2.2.2.size))⟩
  ·exact absurd h6 g4
 have HC1:Hid (∀ V,Below w1.heap.size w1 V->Calls Tryz.prog 25 #[.agg #[.int .i64 b.f.n,.int .i64 b.f.k,.slice p b.f.L.length cap]] V fun e w'=>e=.returned (.agg #[.int .i64 (cfgF b.f).1,.int .i64 (cfgF b.f).2])/\Below V.heap.size V w'):=fun V hV=>rcfg_any b.f p cap V (HCFF.out V p cap ((hi.strsF.below hb1).below hV) hi.roomF hi.emptyF)
 have HC2:Hid (∀ V,Below w1.heap.size w1 V->Calls Tryz.prog 25 #[.agg #[.int .i64 b.t.n,.int .i64 b.t.k,.slice q b.t.L.length cap2]] V fun e w'=>e=.returned (.agg #[.int .i64 (cfgF b.t).1,.int .i64 (cfgF b.t).2])/\Below V.heap.size V w'):=fun V hV=>rcfg_any b.t q cap2 V (HCFT.out V q cap2 ((hi.strsT.below hb1).below hV) hi.roomT hi.emptyT)
 have HNM:Hid (∀ V,Calls Tryz.prog 26 #[.string b.key] V fun e w'=>e=.returned (.bool (isN b.key))/\w'=V):=fun V=>isName_any b.key V (by omega)
 have HBR:Hid (∀ x V,Calls Tryz.prog 27 #[.int .i64 x] V fun e w'=>e=.returned (.agg #[.int .i64 x,.int .i64 (-1)])/\Below V.heap.size V w'):=fun x V=>bare_any x V
 have HFT:Hid (∀ V et eu,Below w1.heap.size w1 V->Hid (ErrIs V ad (.iface et eu) (carF b).1 (carF b).2)->Calls Tryz.prog 12 #[.iface et eu,.agg #[.int .i64 (carF b).1,.int .i64 (carF b).2]] V fun e w'=>e=.returned (.bool true)/\Below w1.heap.size w1 w'):=fun V et eu hV he=>(faulted2_any ad (.iface et eu) (carF b).1 (carF b).2 V (hi.sent V (hb1.trans (hV.mono hb1.size))) he.out).mono fun e w' hq=>⟨hq.1,hV.trans (hq.2.mono hV.size)⟩
 rw [h1] at HL1
 rw [h2] at HL2
 rw [h4] at HMF
 have n3:decide ((100:Int) < (b.key.size:Int))=false:=decide_eq_false (by omega)
 rw [carF_f g1] at HFT HPT
 have n6:((cfgF b.f).1==0)=false:=by simp;omega
 have n7:decide (0 < (cfgF b.f).1)=true:=decide_eq_true g1
 generalize cfgF b.f=F at *
 obtain ⟨c1,c2⟩:=F
 dsimp only at *
 clear HC2 HNM HBR g1
 clear hi hO hw1 hb1 hz1 hblF hblT HCFF HCFT HOKX nf1 nf2 nt1 nt2 h1 h2 h3 h4 h6
 go_enter Tryz.func4,Tryz.ntmps4
 go_wp2_with (first | rw [<- HW1.out] | fail)
 refine HAS.mono ?_
 rintro e w2 ⟨rfl,hb2⟩
 obtain ⟨d0,d1,d2,d3,d4,d5,_⟩:=HS9.out w2 hb2
 have HB2:Hid (Below w1.heap.size w1 w2):=hb2
 clear hb2 HAS
 go_wp2_with fail
 refine (HL1.out w2 HB2.out).mono ?_
 rintro e w3 ⟨rfl,hb3⟩
 clear d0 d1 d2 d3 d4 d5
 obtain ⟨d0,d1,d2,d3,d4,d5,_⟩:=HS9.out w3 hb3
 have HB3:Hid (Below w1.heap.size w1 w3):=hb3
 clear hb3
 go_wp2_with fail
 refine (HL2.out w3 HB3.out).mono ?_
 rintro e w4 ⟨rfl,hb4⟩
 clear d0 d1 d2 d3 d4 d5
 obtain ⟨d0,d1,d2,d3,d4,d5,_⟩:=HS9.out w4 hb4
 have HB4:Hid (Below w1.heap.size w1 w4):=hb4
 clear hb4
 go_wp2_with fail
 refine (HMF.out w4 HB4.out).mono ?_
 rintro e w5 ⟨rfl,hb5⟩
 clear d0 d1 d2 d3 d4 d5
 obtain ⟨d0,d1,d2,d3,d4,d5,_⟩:=HS9.out w5 hb5
 have HB5:Hid (Below w1.heap.size w1 w5):=hb5
 clear hb5
 have HS50:=HS9.out w5.drew HB5.out.drew
 clear d0 d1 d2 d3 d4 d5 HL1 HL2 HMF
 go_wp2
 go_region_held3 (fun V=>(V.cell? ⟨w.heap.size,0,none⟩=some (.int .i64 b.f.n)/\V.cell? ⟨w.heap.size,1,none⟩=some (.int .i64 b.f.k)/\V.cell? ⟨w.heap.size,2,none⟩=some (.slice p b.f.L.length cap)/\V.cell? ⟨w.heap.size+1,0,none⟩=some (.int .i64 b.t.n)/\V.cell? ⟨w.heap.size+1,1,none⟩=some (.int .i64 b.t.k)/\V.cell? ⟨w.heap.size+1,2,none⟩=some (.slice q b.t.L.length cap2)/\Below w1.heap.size w1 V)) (first | assumption | exact HS50) (first | (go_at_call 9;with_reducible refine (HOC1.out _ (by assumption)).mono ?_;rintro e w6 ⟨u6,d6,rfl,hC6,hS6⟩) | (go_at_call 9;with_reducible refine (HOC2.out _ _ _ hC6 (by assumption)).mono ?_;rintro e w7 ⟨u7,d7,rfl,hC7,hS7⟩) | (go_at_call 24;refine (HPT.out _ _ _ _ _ hC7 (by assumption)).mono ?_;rintro e w8 ⟨et,eu,rfl,hE8,hS8⟩))
 have HB8:Hid (Below w1.heap.size w1 w8):=hS8.2.2.2.2.2.2
 obtain ⟨d0,d1,d2,d3,d4,d5,_⟩:=hS8
 have HC18:=HC1.out w8 HB8.out
 clear HS50 hC6 hC7 hS6 hS7 HOC1 HOC2 HPT
 go_wp2_with fail
 refine HC18.mono ?_
 rintro e w9 ⟨rfl,hb9⟩
 obtain ⟨w10,hw10⟩:∃ w10,w10=w9.alloc (.cells #[.int .i64 c1,.int .i64 c2] 39):=⟨_,rfl⟩
 have hv10:w10.heap[w9.heap.size]?=some (.cells #[.int .i64 c1,.int .i64 c2] 39 (0,0)):=by rw [hw10];exact heap_alloc_new _ _
 have hb810:Below w8.heap.size w8 w10:=by rw [hw10];exact hb9.alloc hb9.size _
 have HG9:Hid (w8.heap.size<=w9.heap.size):=hb9.size
 have HV10:Hid (w10.heap[w9.heap.size]?=some (.cells #[.int .i64 c1,.int .i64 c2] 39 (0,0))):=hv10
 have k0:w10.cell? ⟨w9.heap.size,0,none⟩=some (.int .i64 (c1)):=(rblk_cell hv10 0).1
 have k1:w10.cell? ⟨w9.heap.size,1,none⟩=some (.int .i64 (c2)):=(rblk_cell hv10 1).1
 have HB810:Hid (Below w8.heap.size w8 w10):=hb810
 have HW10:Hid (w10=w9.alloc (.cells #[.int .i64 c1,.int .i64 c2] 39)):=hw10
 clear d0 d1 d2 d3 d4 d5
 obtain ⟨d0,d1,d2,d3,d4,d5,_⟩:=HS9.out w10 (HB8.out.trans (hb810.mono HB8.out.size))
 clear hw10 hb9 hv10 hb810 HC18
 go_wp2_with (first | rw [<- HW10.out] | fail)
 have HE9:=hE8.out.below HB810.out
 refine (HFT.out w10 et eu (HB8.out.trans (HB810.out.mono HB8.out.size)) HE9).mono ?_
 rintro e w20 ⟨rfl,hb20⟩
 have HB20:Hid (Below w.heap.size w w20):=HB1.out.trans (hb20.mono HB1.out.size)
 clear hb20
 go_wp2
 go_ret
 exact ⟨rfl,HB20.out⟩
set_option maxRecDepth 10000 in
set_option maxHeartbeats 8000000 in
theorem carryHears_badT (hO:CarryOk ad X Ck) (b:Lift) (p:Option Addr) (cap:Nat) (q:Option Addr) (cap2:Nat) (l:List Msg) (lp:Option Addr) (lcap:Nat) (w:World) (hi:LiftIn ad X b p cap q cap2 l lp w) (h1:longC b.f=false) (h2:longC b.t=false) (h3:¬ 100 < b.key.size) (h4:fitsM l=true) (g1:¬ 0 < (cfgF b.f).1) (g2:0 < (cfgF b.t).1):Calls Tryz.prog 4 #[.int .i64 b.op,.agg #[.int .i64 b.f.n,.int .i64 b.f.k,.slice p b.f.L.length cap],.agg #[.int .i64 b.t.n,.int .i64 b.t.k,.slice q b.t.L.length cap2],.int .i64 b.config,.string b.key,.slice lp l.length lcap] w fun e w'=>e=.returned (.bool true)/\Below w.heap.size w w':=by
 have h6:0 < (carF b).1:=by rw [carF_t g1 g2];exact g2
 obtain ⟨w1,hw1⟩:∃ w1,w1=(w.alloc (.cells #[.int .i64 b.f.n,.int .i64 b.f.k,.slice p b.f.L.length cap] 24)).alloc (.cells #[.int .i64 b.t.n,.int .i64 b.t.k,.slice q b.t.L.length cap2] 24):=⟨_,rfl⟩
 have hb1:Below w.heap.size w w1:=by rw [hw1];exact ((Below.refl _ _).alloc (Nat.le_refl _) _).alloc (by simp) _
 have hz1:w1.heap.size=w.heap.size+2:=by rw [hw1];simp
 have hblF:w1.heap[w.heap.size]?=some (.cells #[.int .i64 b.f.n,.int .i64 b.f.k,.slice p b.f.L.length cap] 24 (0,0)):=by rw [hw1,heap_alloc_old _ _ (by simp)];exact heap_alloc_new _ _
 have hblT:w1.heap[w.heap.size+1]?=some (.cells #[.int .i64 b.t.n,.int .i64 b.t.k,.slice q b.t.L.length cap2] 24 (0,0)):=by
  have e:w.heap.size+1=(w.alloc (.cells #[.int .i64 b.f.n,.int .i64 b.f.k,.slice p b.f.L.length cap] 24)).heap.size:=by simp
  rw [hw1,e]
  exact heap_alloc_new _ _
 have HS9:Hid (∀ V,Below w1.heap.size w1 V->(V.cell? ⟨w.heap.size,0,none⟩=some (.int .i64 b.f.n)/\V.cell? ⟨w.heap.size,1,none⟩=some (.int .i64 b.f.k)/\V.cell? ⟨w.heap.size,2,none⟩=some (.slice p b.f.L.length cap)/\V.cell? ⟨w.heap.size+1,0,none⟩=some (.int .i64 b.t.n)/\V.cell? ⟨w.heap.size+1,1,none⟩=some (.int .i64 b.t.k)/\V.cell? ⟨w.heap.size+1,2,none⟩=some (.slice q b.t.L.length cap2)/\Below w1.heap.size w1 V)):=fun V hV=>by
  have hF:=(hV.block _ (by omega)).trans hblF
  have hT:=(hV.block _ (by omega)).trans hblT
  exact ⟨(rblk_cell hF 0).1,(rblk_cell hF 1).1,(rblk_cell hF 2).1,(rblk_cell hT 0).1,(rblk_cell hT 1).1,(rblk_cell hT 2).1,hV⟩
 have HAS:=carried_any hO w1 (fun V hV=>(hi.ok (hb1.trans (hV.mono hb1.size))).1) (fun V hV=>(hi.ok (hb1.trans (hV.mono hb1.size))).2)
 have HL1:Hid (∀ V,Below w1.heap.size w1 V->Calls Tryz.prog 6 #[.agg #[.int .i64 b.f.n,.int .i64 b.f.k,.slice p b.f.L.length cap]] V fun e w'=>e=.returned (.bool (longC b.f))/\Below w1.heap.size w1 w'):=fun V hV=>(longConfig_any b.f p cap V hi.lenF hi.sizeF ((hi.strsF.below hb1).below hV)).mono fun e w' hq=>⟨hq.1,hV.trans (hq.2.mono hV.size)⟩
 have HL2:Hid (∀ V,Below w1.heap.size w1 V->Calls Tryz.prog 6 #[.agg #[.int .i64 b.t.n,.int .i64 b.t.k,.slice q b.t.L.length cap2]] V fun e w'=>e=.returned (.bool (longC b.t))/\Below w1.heap.size w1 w'):=fun V hV=>(longConfig_any b.t q cap2 V hi.lenT hi.sizeT ((hi.strsT.below hb1).below hV)).mono fun e w' hq=>⟨hq.1,hV.trans (hq.2.mono hV.size)⟩
 have HMF:Hid (∀ V,Below w1.heap.size w1 V->Calls Tryz.prog 7 #[.slice lp l.length lcap] V fun e w'=>e=.returned (.bool (fitsM l))/\Below w1.heap.size w1 w'):=fun V hV=>(messagesFit_any lp l lcap V hi.much ((hi.msgs.below hb1).below hV)).mono fun e w' hq=>⟨hq.1,hV.trans (hq.2.mono hV.size)⟩
 have HW1:Hid (w1=(w.alloc (.cells #[.int .i64 b.f.n,.int .i64 b.f.k,.slice p b.f.L.length cap] 24)).alloc (.cells #[.int .i64 b.t.n,.int .i64 b.t.k,.slice q b.t.L.length cap2] 24)):=hw1
 have HB1:Hid (Below w.heap.size w w1):=hb1
 obtain ⟨nf1,nf2⟩:=longC_fine h1
 obtain ⟨nt1,nt2⟩:=longC_fine h2
 have HCFF:Hid (∀ V u d,Strs V u b.f.L->b.f.L.length<=d->(u=none->b.f.L=[]/\d=0)->CfgAt V b.f u d):=fun V u d g1 g2 g3=>cfgAt_of g1 g2 g3 h1 hi.intsF
 have HCFT:Hid (∀ V u d,Strs V u b.t.L->b.t.L.length<=d->(u=none->b.t.L=[]/\d=0)->CfgAt V b.t u d):=fun V u d g1 g2 g3=>cfgAt_of g1 g2 g3 h2 hi.intsT
 have HOC1:Hid (∀ V,(V.cell? ⟨w.heap.size,0,none⟩=some (.int .i64 b.f.n)/\V.cell? ⟨w.heap.size,1,none⟩=some (.int .i64 b.f.k)/\V.cell? ⟨w.heap.size,2,none⟩=some (.slice p b.f.L.length cap)/\V.cell? ⟨w.heap.size+1,0,none⟩=some (.int .i64 b.t.n)/\V.cell? ⟨w.heap.size+1,1,none⟩=some (.int .i64 b.t.k)/\V.cell? ⟨w.heap.size+1,2,none⟩=some (.slice q b.t.L.length cap2)/\Below w1.heap.size w1 V)->Calls Tryz.prog 9 #[.agg #[.int .i64 b.f.n,.int .i64 b.f.k,.slice p b.f.L.length cap]] V fun e w'=>∃ u d,e=.returned (.agg #[.int .i64 b.f.n,.int .i64 b.f.k,.slice u b.f.L.length d])/\Hid (CfgAt w' b.f u d)/\(w'.cell? ⟨w.heap.size,0,none⟩=some (.int .i64 b.f.n)/\w'.cell? ⟨w.heap.size,1,none⟩=some (.int .i64 b.f.k)/\w'.cell? ⟨w.heap.size,2,none⟩=some (.slice p b.f.L.length cap)/\w'.cell? ⟨w.heap.size+1,0,none⟩=some (.int .i64 b.t.n)/\w'.cell? ⟨w.heap.size+1,1,none⟩=some (.int .i64 b.t.k)/\w'.cell? ⟨w.heap.size+1,2,none⟩=some (.slice q b.t.L.length cap2)/\Below w1.heap.size w1 w')):=fun V hV=>(ownConfig_any b.f p cap V (by omega) ((hi.strsF.below hb1).below hV.2.2.2.2.2.2) hi.emptyF).mono fun e w' hq=>by
  obtain ⟨⟨u,d,e1,e2,e3,e4⟩,e5⟩:=hq
  exact ⟨u,d,e1,HCFF.out w' u d e2 e3 e4,HS9.out w' (hV.2.2.2.2.2.2.trans (e5.mono hV.2.2.2.2.2.2.size))⟩
 have HOC2:Hid (∀ V u d,Hid (CfgAt V b.f u d)->(V.cell? ⟨w.heap.size,0,none⟩=some (.int .i64 b.f.n)/\V.cell? ⟨w.heap.size,1,none⟩=some (.int .i64 b.f.k)/\V.cell? ⟨w.heap.size,2,none⟩=some (.slice p b.f.L.length cap)/\V.cell? ⟨w.heap.size+1,0,none⟩=some (.int .i64 b.t.n)/\V.cell? ⟨w.heap.size+1,1,none⟩=some (.int .i64 b.t.k)/\V.cell? ⟨w.heap.size+1,2,none⟩=some (.slice q b.t.L.length cap2)/\Below w1.heap.size w1 V)->Calls Tryz.prog 9 #[.agg #[.int .i64 b.t.n,.int .i64 b.t.k,.slice q b.t.L.length cap2]] V fun e w'=>∃ u2 d2,e=.returned (.agg #[.int .i64 b.t.n,.int .i64 b.t.k,.slice u2 b.t.L.length d2])/\Hid (CfgAt w' b.f u d/\CfgAt w' b.t u2 d2)/\(w'.cell? ⟨w.heap.size,0,none⟩=some (.int .i64 b.f.n)/\w'.cell? ⟨w.heap.size,1,none⟩=some (.int .i64 b.f.k)/\w'.cell? ⟨w.heap.size,2,none⟩=some (.slice p b.f.L.length cap)/\w'.cell? ⟨w.heap.size+1,0,none⟩=some (.int .i64 b.t.n)/\w'.cell? ⟨w.heap.size+1,1,none⟩=some (.int .i64 b.t.k)/\w'.cell? ⟨w.heap.size+1,2,none⟩=some (.slice q b.t.L.length cap2)/\Below w1.heap.size w1 w')):=fun V u d hC hV=>(ownConfig_any b.t q cap2 V (by omega) ((hi.strsT.below hb1).below hV.2.2.2.2.2.2) hi.emptyT).mono fun e w' hq=>by
  obtain ⟨⟨u2,d2,e1,e2,e3,e4⟩,e5⟩:=hq
  exact ⟨u2,d2,e1,⟨hC.out.below e5,HCFT.out w' u2 d2 e2 e3 e4⟩,HS9.out w' (hV.2.2.2.2.2.2.trans (e5.mono hV.2.2.2.2.2.2.size))⟩
 have HOKX:Hid (∀ V,Below w1.heap.size w1 V->ErrsQ V ad/\X V):=fun V hV=>hi.ok (hb1.trans (hV.mono hb1.size))
 have HPT:Hid (∀ V u d u2 d2,Hid (CfgAt V b.f u d/\CfgAt V b.t u2 d2)->(V.cell? ⟨w.heap.size,0,none⟩=some (.int .i64 b.f.n)/\V.cell? ⟨w.heap.size,1,none⟩=some (.int .i64 b.f.k)/\V.cell? ⟨w.heap.size,2,none⟩=some (.slice p b.f.L.length cap)/\V.cell? ⟨w.heap.size+1,0,none⟩=some (.int .i64 b.t.n)/\V.cell? ⟨w.heap.size+1,1,none⟩=some (.int .i64 b.t.k)/\V.cell? ⟨w.heap.size+1,2,none⟩=some (.slice q b.t.L.length cap2)/\Below w1.heap.size w1 V)->Calls Tryz.prog 24 #[.int .i64 b.op,.agg #[.int .i64 b.f.n,.int .i64 b.f.k,.slice u b.f.L.length d],.agg #[.int .i64 b.t.n,.int .i64 b.t.k,.slice u2 b.t.L.length d2],.int .i64 b.config,.string b.key] V fun e w'=>∃ et eu,e=.returned (.tuple #[.pointer none,.iface et eu])/\Hid (ErrIs w' ad (.iface et eu) (carF b).1 (carF b).2)/\(w'.cell? ⟨w.heap.size,0,none⟩=some (.int .i64 b.f.n)/\w'.cell? ⟨w.heap.size,1,none⟩=some (.int .i64 b.f.k)/\w'.cell? ⟨w.heap.size,2,none⟩=some (.slice p b.f.L.length cap)/\w'.cell? ⟨w.heap.size+1,0,none⟩=some (.int .i64 b.t.n)/\w'.cell? ⟨w.heap.size+1,1,none⟩=some (.int .i64 b.t.k)/\w'.cell? ⟨w.heap.size+1,2,none⟩=some (.slice q b.t.L.length cap2)/\Below w1.heap.size w1 w')):=fun V u d u2 d2 hC hV=>(hO.new b u d u2 d2 V hC.out.1 hC.out.2 (by omega) hi.op hi.config (HOKX.out V hV.2.2.2.2.2.2).1 (HOKX.out V hV.2.2.2.2.2.2).2).mono fun e w' hq=>by
  obtain ⟨⟨ev,g1,g2⟩,g3⟩:=hq
  obtain ⟨et,eu,rfl⟩:=g1.some h6
  rcases g2 with ⟨_,g4⟩ | ⟨g4,_⟩
  ·exact ⟨et,eu,g4,g1,HS9.out w' (hV.2.2.2.2.2.2.trans (g3.mono hV.2.2.2.2.2.2.size))⟩
  ·exact absurd h6 g4
 have HC1:Hid (∀ V,Below w1.heap.size w1 V->Calls Tryz.prog 25 #[.agg #[.int .i64 b.f.n,.int .i64 b.f.k,.slice p b.f.L.length cap]] V fun e w'=>e=.returned (.agg #[.int .i64 (cfgF b.f).1,.int .i64 (cfgF b.f).2])/\Below V.heap.size V w'):=fun V hV=>rcfg_any b.f p cap V (HCFF.out V p cap ((hi.strsF.below hb1).below hV) hi.roomF hi.emptyF)
 have HC2:Hid (∀ V,Below w1.heap.size w1 V->Calls Tryz.prog 25 #[.agg #[.int .i64 b.t.n,.int .i64 b.t.k,.slice q b.t.L.length cap2]] V fun e w'=>e=.returned (.agg #[.int .i64 (cfgF b.t).1,.int .i64 (cfgF b.t).2])/\Below V.heap.size V w'):=fun V hV=>rcfg_any b.t q cap2 V (HCFT.out V q cap2 ((hi.strsT.below hb1).below hV) hi.roomT hi.emptyT)
 have HNM:Hid (∀ V,Calls Tryz.prog 26 #[.string b.key] V fun e w'=>e=.returned (.bool (isN b.key))/\w'=V):=fun V=>isName_any b.key V (by omega)
 have HBR:Hid (∀ x V,Calls Tryz.prog 27 #[.int .i64 x] V fun e w'=>e=.returned (.agg #[.int .i64 x,.int .i64 (-1)])/\Below V.heap.size V w'):=fun x V=>bare_any x V
 have HFT:Hid (∀ V et eu,Below w1.heap.size w1 V->Hid (ErrIs V ad (.iface et eu) (carF b).1 (carF b).2)->Calls Tryz.prog 12 #[.iface et eu,.agg #[.int .i64 (carF b).1,.int .i64 (carF b).2]] V fun e w'=>e=.returned (.bool true)/\Below w1.heap.size w1 w'):=fun V et eu hV he=>(faulted2_any ad (.iface et eu) (carF b).1 (carF b).2 V (hi.sent V (hb1.trans (hV.mono hb1.size))) he.out).mono fun e w' hq=>⟨hq.1,hV.trans (hq.2.mono hV.size)⟩
 rw [h1] at HL1
 rw [h2] at HL2
 rw [h4] at HMF
 have n3:decide ((100:Int) < (b.key.size:Int))=false:=decide_eq_false (by omega)
 rw [carF_t g1 g2] at HFT HPT
 have HC1':Hid (∀ V,Below w1.heap.size w1 V->Calls Tryz.prog 25 #[.agg #[.int .i64 b.f.n,.int .i64 b.f.k,.slice p b.f.L.length cap]] V fun e w'=>e=.returned (.agg #[.int .i64 0,.int .i64 (-1)])/\Below V.heap.size V w'):=by have:=HC1;rw [(cfgF_fine g1).2.2.1] at this;exact this
 have n6:((cfgF b.t).1==0)=false:=by simp;omega
 have n7:decide (0 < (cfgF b.t).1)=true:=decide_eq_true g2
 generalize cfgF b.t=F at *
 obtain ⟨c1,c2⟩:=F
 dsimp only at *
 clear HC1 HNM HBR g1 g2
 clear hi hO hw1 hb1 hz1 hblF hblT HCFF HCFT HOKX nf1 nf2 nt1 nt2 h1 h2 h3 h4 h6
 go_enter Tryz.func4,Tryz.ntmps4
 go_wp2_with (first | rw [<- HW1.out] | fail)
 refine HAS.mono ?_
 rintro e w2 ⟨rfl,hb2⟩
 obtain ⟨d0,d1,d2,d3,d4,d5,_⟩:=HS9.out w2 hb2
 have HB2:Hid (Below w1.heap.size w1 w2):=hb2
 clear hb2 HAS
 go_wp2_with fail
 refine (HL1.out w2 HB2.out).mono ?_
 rintro e w3 ⟨rfl,hb3⟩
 clear d0 d1 d2 d3 d4 d5
 obtain ⟨d0,d1,d2,d3,d4,d5,_⟩:=HS9.out w3 hb3
 have HB3:Hid (Below w1.heap.size w1 w3):=hb3
 clear hb3
 go_wp2_with fail
 refine (HL2.out w3 HB3.out).mono ?_
 rintro e w4 ⟨rfl,hb4⟩
 clear d0 d1 d2 d3 d4 d5
 obtain ⟨d0,d1,d2,d3,d4,d5,_⟩:=HS9.out w4 hb4
 have HB4:Hid (Below w1.heap.size w1 w4):=hb4
 clear hb4
 go_wp2_with fail
 refine (HMF.out w4 HB4.out).mono ?_
 rintro e w5 ⟨rfl,hb5⟩
 clear d0 d1 d2 d3 d4 d5
 obtain ⟨d0,d1,d2,d3,d4,d5,_⟩:=HS9.out w5 hb5
 have HB5:Hid (Below w1.heap.size w1 w5):=hb5
 clear hb5
 have HS50:=HS9.out w5.drew HB5.out.drew
 clear d0 d1 d2 d3 d4 d5 HL1 HL2 HMF
 go_wp2
 go_region_held3 (fun V=>(V.cell? ⟨w.heap.size,0,none⟩=some (.int .i64 b.f.n)/\V.cell? ⟨w.heap.size,1,none⟩=some (.int .i64 b.f.k)/\V.cell? ⟨w.heap.size,2,none⟩=some (.slice p b.f.L.length cap)/\V.cell? ⟨w.heap.size+1,0,none⟩=some (.int .i64 b.t.n)/\V.cell? ⟨w.heap.size+1,1,none⟩=some (.int .i64 b.t.k)/\V.cell? ⟨w.heap.size+1,2,none⟩=some (.slice q b.t.L.length cap2)/\Below w1.heap.size w1 V)) (first | assumption | exact HS50) (first | (go_at_call 9;with_reducible refine (HOC1.out _ (by assumption)).mono ?_;rintro e w6 ⟨u6,d6,rfl,hC6,hS6⟩) | (go_at_call 9;with_reducible refine (HOC2.out _ _ _ hC6 (by assumption)).mono ?_;rintro e w7 ⟨u7,d7,rfl,hC7,hS7⟩) | (go_at_call 24;refine (HPT.out _ _ _ _ _ hC7 (by assumption)).mono ?_;rintro e w8 ⟨et,eu,rfl,hE8,hS8⟩))
 have HB8:Hid (Below w1.heap.size w1 w8):=hS8.2.2.2.2.2.2
 obtain ⟨d0,d1,d2,d3,d4,d5,_⟩:=hS8
 have HC18:=HC1'.out w8 HB8.out
 clear HS50 hC6 hC7 hS6 hS7 HOC1 HOC2 HPT
 go_wp2_with fail
 refine HC18.mono ?_
 rintro e w9 ⟨rfl,hb9⟩
 obtain ⟨w10,hw10⟩:∃ w10,w10=w9.alloc (.cells #[.int .i64 0,.int .i64 (-1)] 39):=⟨_,rfl⟩
 have hv10:w10.heap[w9.heap.size]?=some (.cells #[.int .i64 0,.int .i64 (-1)] 39 (0,0)):=by rw [hw10];exact heap_alloc_new _ _
 have hb810:Below w8.heap.size w8 w10:=by rw [hw10];exact hb9.alloc hb9.size _
 have HG9:Hid (w8.heap.size<=w9.heap.size):=hb9.size
 have HV10:Hid (w10.heap[w9.heap.size]?=some (.cells #[.int .i64 0,.int .i64 (-1)] 39 (0,0))):=hv10
 have k0:w10.cell? ⟨w9.heap.size,0,none⟩=some (.int .i64 (0)):=(rblk_cell hv10 0).1
 have k1:w10.cell? ⟨w9.heap.size,1,none⟩=some (.int .i64 ((-1))):=(rblk_cell hv10 1).1
 have HB810:Hid (Below w8.heap.size w8 w10):=hb810
 have HW10:Hid (w10=w9.alloc (.cells #[.int .i64 0,.int .i64 (-1)] 39)):=hw10
 clear d0 d1 d2 d3 d4 d5
 obtain ⟨d0,d1,d2,d3,d4,d5,_⟩:=HS9.out w10 (HB8.out.trans (hb810.mono HB8.out.size))
 clear hw10 hb9 hv10 hb810 HC18
 go_wp2_with (first | rw [<- HW10.out] | fail)
 refine (HC2.out w10 (HB8.out.trans (HB810.out.mono HB8.out.size))).mono ?_
 rintro e w11 ⟨rfl,hbc⟩
 clear k0 k1
 have hvc:=(hbc.block w9.heap.size (lt_of_row HV10.out)).trans HV10.out
 have k0:w11.cell? ⟨w9.heap.size,0,none⟩=some (.int .i64 (0)):=(rblk_cell hvc 0).1
 have k1:w11.cell? ⟨w9.heap.size,1,none⟩=some (.int .i64 (-1)):=(rblk_cell hvc 1).1
 have fz:∀ j,w11.frozen? ⟨w9.heap.size,j,none⟩=false:=fun j=>(rblk_cell hvc j).2
 obtain ⟨w12,hwn⟩:∃ v,v=(w11.setCell ⟨w9.heap.size,0,none⟩ (.int .i64 (c1))).setCell ⟨w9.heap.size,1,none⟩ (.int .i64 (c2)):=⟨_,rfl⟩
 have hvn:w12.heap[w9.heap.size]?=some (.cells #[.int .i64 (c1),.int .i64 (c2)] 39 (0,0)):=by rw [hwn];exact blk_setG (blk_setG hvc 0 _) 1 _
 have hbn:Below w8.heap.size w8 w12:=by rw [hwn];exact ((HB810.out.trans (hbc.mono HB810.out.size)).setCell (p:=⟨w9.heap.size,0,none⟩) HG9.out _).setCell (p:=⟨w9.heap.size,1,none⟩) HG9.out _
 have m0:w12.cell? ⟨w9.heap.size,0,none⟩=some (.int .i64 (c1)):=(rblk_cell hvn 0).1
 have m1:w12.cell? ⟨w9.heap.size,1,none⟩=some (.int .i64 (c2)):=(rblk_cell hvn 1).1
 have HV12:Hid (w12.heap[w9.heap.size]?=some (.cells #[.int .i64 (c1),.int .i64 (c2)] 39 (0,0))):=hvn
 have HB812:Hid (Below w8.heap.size w8 w12):=hbn
 have HW12:Hid (w12=(w11.setCell ⟨w9.heap.size,0,none⟩ (.int .i64 (c1))).setCell ⟨w9.heap.size,1,none⟩ (.int .i64 (c2))):=hwn
 clear d0 d1 d2 d3 d4 d5
 obtain ⟨d0,d1,d2,d3,d4,d5,_⟩:=HS9.out w12 (HB8.out.trans (hbn.mono HB8.out.size))
 clear hwn hvn hbn hvc hbc
 go_wp2_with (first | rw [<- HW12.out] | fail)
 have HE9:=hE8.out.below HB812.out
 refine (HFT.out w12 et eu (HB8.out.trans (HB812.out.mono HB8.out.size)) HE9).mono ?_
 rintro e w20 ⟨rfl,hb20⟩
 have HB20:Hid (Below w.heap.size w w20):=HB1.out.trans (hb20.mono HB1.out.size)
 clear hb20
 go_wp2
 go_ret
 exact ⟨rfl,HB20.out⟩
set_option maxRecDepth 10000 in
set_option maxHeartbeats 8000000 in
theorem carryHears_badK (hO:CarryOk ad X Ck) (b:Lift) (p:Option Addr) (cap:Nat) (q:Option Addr) (cap2:Nat) (l:List Msg) (lp:Option Addr) (lcap:Nat) (w:World) (hi:LiftIn ad X b p cap q cap2 l lp w) (h1:longC b.f=false) (h2:longC b.t=false) (h3:¬ 100 < b.key.size) (h4:fitsM l=true) (g1:¬ 0 < (cfgF b.f).1) (g2:¬ 0 < (cfgF b.t).1) (g3:isN b.key=false):Calls Tryz.prog 4 #[.int .i64 b.op,.agg #[.int .i64 b.f.n,.int .i64 b.f.k,.slice p b.f.L.length cap],.agg #[.int .i64 b.t.n,.int .i64 b.t.k,.slice q b.t.L.length cap2],.int .i64 b.config,.string b.key,.slice lp l.length lcap] w fun e w'=>e=.returned (.bool true)/\Below w.heap.size w w':=by
 have h6:0 < (carF b).1:=by rw [carF_k g1 g2 g3];decide
 obtain ⟨w1,hw1⟩:∃ w1,w1=(w.alloc (.cells #[.int .i64 b.f.n,.int .i64 b.f.k,.slice p b.f.L.length cap] 24)).alloc (.cells #[.int .i64 b.t.n,.int .i64 b.t.k,.slice q b.t.L.length cap2] 24):=⟨_,rfl⟩
 have hb1:Below w.heap.size w w1:=by rw [hw1];exact ((Below.refl _ _).alloc (Nat.le_refl _) _).alloc (by simp) _
 have hz1:w1.heap.size=w.heap.size+2:=by rw [hw1];simp
 have hblF:w1.heap[w.heap.size]?=some (.cells #[.int .i64 b.f.n,.int .i64 b.f.k,.slice p b.f.L.length cap] 24 (0,0)):=by rw [hw1,heap_alloc_old _ _ (by simp)];exact heap_alloc_new _ _
 have hblT:w1.heap[w.heap.size+1]?=some (.cells #[.int .i64 b.t.n,.int .i64 b.t.k,.slice q b.t.L.length cap2] 24 (0,0)):=by
  have e:w.heap.size+1=(w.alloc (.cells #[.int .i64 b.f.n,.int .i64 b.f.k,.slice p b.f.L.length cap] 24)).heap.size:=by simp
  rw [hw1,e]
  exact heap_alloc_new _ _
 have HS9:Hid (∀ V,Below w1.heap.size w1 V->(V.cell? ⟨w.heap.size,0,none⟩=some (.int .i64 b.f.n)/\V.cell? ⟨w.heap.size,1,none⟩=some (.int .i64 b.f.k)/\V.cell? ⟨w.heap.size,2,none⟩=some (.slice p b.f.L.length cap)/\V.cell? ⟨w.heap.size+1,0,none⟩=some (.int .i64 b.t.n)/\V.cell? ⟨w.heap.size+1,1,none⟩=some (.int .i64 b.t.k)/\V.cell? ⟨w.heap.size+1,2,none⟩=some (.slice q b.t.L.length cap2)/\Below w1.heap.size w1 V)):=fun V hV=>by
  have hF:=(hV.block _ (by omega)).trans hblF
  have hT:=(hV.block _ (by omega)).trans hblT
  exact ⟨(rblk_cell hF 0).1,(rblk_cell hF 1).1,(rblk_cell hF 2).1,(rblk_cell hT 0).1,(rblk_cell hT 1).1,(rblk_cell hT 2).1,hV⟩
 have HAS:=carried_any hO w1 (fun V hV=>(hi.ok (hb1.trans (hV.mono hb1.size))).1) (fun V hV=>(hi.ok (hb1.trans (hV.mono hb1.size))).2)
 have HL1:Hid (∀ V,Below w1.heap.size w1 V->Calls Tryz.prog 6 #[.agg #[.int .i64 b.f.n,.int .i64 b.f.k,.slice p b.f.L.length cap]] V fun e w'=>e=.returned (.bool (longC b.f))/\Below w1.heap.size w1 w'):=fun V hV=>(longConfig_any b.f p cap V hi.lenF hi.sizeF ((hi.strsF.below hb1).below hV)).mono fun e w' hq=>⟨hq.1,hV.trans (hq.2.mono hV.size)⟩
 have HL2:Hid (∀ V,Below w1.heap.size w1 V->Calls Tryz.prog 6 #[.agg #[.int .i64 b.t.n,.int .i64 b.t.k,.slice q b.t.L.length cap2]] V fun e w'=>e=.returned (.bool (longC b.t))/\Below w1.heap.size w1 w'):=fun V hV=>(longConfig_any b.t q cap2 V hi.lenT hi.sizeT ((hi.strsT.below hb1).below hV)).mono fun e w' hq=>⟨hq.1,hV.trans (hq.2.mono hV.size)⟩
 have HMF:Hid (∀ V,Below w1.heap.size w1 V->Calls Tryz.prog 7 #[.slice lp l.length lcap] V fun e w'=>e=.returned (.bool (fitsM l))/\Below w1.heap.size w1 w'):=fun V hV=>(messagesFit_any lp l lcap V hi.much ((hi.msgs.below hb1).below hV)).mono fun e w' hq=>⟨hq.1,hV.trans (hq.2.mono hV.size)⟩
 have HW1:Hid (w1=(w.alloc (.cells #[.int .i64 b.f.n,.int .i64 b.f.k,.slice p b.f.L.length cap] 24)).alloc (.cells #[.int .i64 b.t.n,.int .i64 b.t.k,.slice q b.t.L.length cap2] 24)):=hw1
 have HB1:Hid (Below w.heap.size w w1):=hb1
 obtain ⟨nf1,nf2⟩:=longC_fine h1
 obtain ⟨nt1,nt2⟩:=longC_fine h2
 have HCFF:Hid (∀ V u d,Strs V u b.f.L->b.f.L.length<=d->(u=none->b.f.L=[]/\d=0)->CfgAt V b.f u d):=fun V u d g1 g2 g3=>cfgAt_of g1 g2 g3 h1 hi.intsF
 have HCFT:Hid (∀ V u d,Strs V u b.t.L->b.t.L.length<=d->(u=none->b.t.L=[]/\d=0)->CfgAt V b.t u d):=fun V u d g1 g2 g3=>cfgAt_of g1 g2 g3 h2 hi.intsT
 have HOC1:Hid (∀ V,(V.cell? ⟨w.heap.size,0,none⟩=some (.int .i64 b.f.n)/\V.cell? ⟨w.heap.size,1,none⟩=some (.int .i64 b.f.k)/\V.cell? ⟨w.heap.size,2,none⟩=some (.slice p b.f.L.length cap)/\V.cell? ⟨w.heap.size+1,0,none⟩=some (.int .i64 b.t.n)/\V.cell? ⟨w.heap.size+1,1,none⟩=some (.int .i64 b.t.k)/\V.cell? ⟨w.heap.size+1,2,none⟩=some (.slice q b.t.L.length cap2)/\Below w1.heap.size w1 V)->Calls Tryz.prog 9 #[.agg #[.int .i64 b.f.n,.int .i64 b.f.k,.slice p b.f.L.length cap]] V fun e w'=>∃ u d,e=.returned (.agg #[.int .i64 b.f.n,.int .i64 b.f.k,.slice u b.f.L.length d])/\Hid (CfgAt w' b.f u d)/\(w'.cell? ⟨w.heap.size,0,none⟩=some (.int .i64 b.f.n)/\w'.cell? ⟨w.heap.size,1,none⟩=some (.int .i64 b.f.k)/\w'.cell? ⟨w.heap.size,2,none⟩=some (.slice p b.f.L.length cap)/\w'.cell? ⟨w.heap.size+1,0,none⟩=some (.int .i64 b.t.n)/\w'.cell? ⟨w.heap.size+1,1,none⟩=some (.int .i64 b.t.k)/\w'.cell? ⟨w.heap.size+1,2,none⟩=some (.slice q b.t.L.length cap2)/\Below w1.heap.size w1 w')):=fun V hV=>(ownConfig_any b.f p cap V (by omega) ((hi.strsF.below hb1).below hV.2.2.2.2.2.2) hi.emptyF).mono fun e w' hq=>by
  obtain ⟨⟨u,d,e1,e2,e3,e4⟩,e5⟩:=hq
  exact ⟨u,d,e1,HCFF.out w' u d e2 e3 e4,HS9.out w' (hV.2.2.2.2.2.2.trans (e5.mono hV.2.2.2.2.2.2.size))⟩
 have HOC2:Hid (∀ V u d,Hid (CfgAt V b.f u d)->(V.cell? ⟨w.heap.size,0,none⟩=some (.int .i64 b.f.n)/\V.cell? ⟨w.heap.size,1,none⟩=some (.int .i64 b.f.k)/\V.cell? ⟨w.heap.size,2,none⟩=some (.slice p b.f.L.length cap)/\V.cell? ⟨w.heap.size+1,0,none⟩=some (.int .i64 b.t.n)/\V.cell? ⟨w.heap.size+1,1,none⟩=some (.int .i64 b.t.k)/\V.cell? ⟨w.heap.size+1,2,none⟩=some (.slice q b.t.L.length cap2)/\Below w1.heap.size w1 V)->Calls Tryz.prog 9 #[.agg #[.int .i64 b.t.n,.int .i64 b.t.k,.slice q b.t.L.length cap2]] V fun e w'=>∃ u2 d2,e=.returned (.agg #[.int .i64 b.t.n,.int .i64 b.t.k,.slice u2 b.t.L.length d2])/\Hid (CfgAt w' b.f u d/\CfgAt w' b.t u2 d2)/\(w'.cell? ⟨w.heap.size,0,none⟩=some (.int .i64 b.f.n)/\w'.cell? ⟨w.heap.size,1,none⟩=some (.int .i64 b.f.k)/\w'.cell? ⟨w.heap.size,2,none⟩=some (.slice p b.f.L.length cap)/\w'.cell? ⟨w.heap.size+1,0,none⟩=some (.int .i64 b.t.n)/\w'.cell? ⟨w.heap.size+1,1,none⟩=some (.int .i64 b.t.k)/\w'.cell? ⟨w.heap.size+1,2,none⟩=some (.slice q b.t.L.length cap2)/\Below w1.heap.size w1 w')):=fun V u d hC hV=>(ownConfig_any b.t q cap2 V (by omega) ((hi.strsT.below hb1).below hV.2.2.2.2.2.2) hi.emptyT).mono fun e w' hq=>by
  obtain ⟨⟨u2,d2,e1,e2,e3,e4⟩,e5⟩:=hq
  exact ⟨u2,d2,e1,⟨hC.out.below e5,HCFT.out w' u2 d2 e2 e3 e4⟩,HS9.out w' (hV.2.2.2.2.2.2.trans (e5.mono hV.2.2.2.2.2.2.size))⟩
 have HOKX:Hid (∀ V,Below w1.heap.size w1 V->ErrsQ V ad/\X V):=fun V hV=>hi.ok (hb1.trans (hV.mono hb1.size))
 have HPT:Hid (∀ V u d u2 d2,Hid (CfgAt V b.f u d/\CfgAt V b.t u2 d2)->(V.cell? ⟨w.heap.size,0,none⟩=some (.int .i64 b.f.n)/\V.cell? ⟨w.heap.size,1,none⟩=some (.int .i64 b.f.k)/\V.cell? ⟨w.heap.size,2,none⟩=some (.slice p b.f.L.length cap)/\V.cell? ⟨w.heap.size+1,0,none⟩=some (.int .i64 b.t.n)/\V.cell? ⟨w.heap.size+1,1,none⟩=some (.int .i64 b.t.k)/\V.cell? ⟨w.heap.size+1,2,none⟩=some (.slice q b.t.L.length cap2)/\Below w1.heap.size w1 V)->Calls Tryz.prog 24 #[.int .i64 b.op,.agg #[.int .i64 b.f.n,.int .i64 b.f.k,.slice u b.f.L.length d],.agg #[.int .i64 b.t.n,.int .i64 b.t.k,.slice u2 b.t.L.length d2],.int .i64 b.config,.string b.key] V fun e w'=>∃ et eu,e=.returned (.tuple #[.pointer none,.iface et eu])/\Hid (ErrIs w' ad (.iface et eu) (carF b).1 (carF b).2)/\(w'.cell? ⟨w.heap.size,0,none⟩=some (.int .i64 b.f.n)/\w'.cell? ⟨w.heap.size,1,none⟩=some (.int .i64 b.f.k)/\w'.cell? ⟨w.heap.size,2,none⟩=some (.slice p b.f.L.length cap)/\w'.cell? ⟨w.heap.size+1,0,none⟩=some (.int .i64 b.t.n)/\w'.cell? ⟨w.heap.size+1,1,none⟩=some (.int .i64 b.t.k)/\w'.cell? ⟨w.heap.size+1,2,none⟩=some (.slice q b.t.L.length cap2)/\Below w1.heap.size w1 w')):=fun V u d u2 d2 hC hV=>(hO.new b u d u2 d2 V hC.out.1 hC.out.2 (by omega) hi.op hi.config (HOKX.out V hV.2.2.2.2.2.2).1 (HOKX.out V hV.2.2.2.2.2.2).2).mono fun e w' hq=>by
  obtain ⟨⟨ev,g1,g2⟩,g3⟩:=hq
  obtain ⟨et,eu,rfl⟩:=g1.some h6
  rcases g2 with ⟨_,g4⟩ | ⟨g4,_⟩
  ·exact ⟨et,eu,g4,g1,HS9.out w' (hV.2.2.2.2.2.2.trans (g3.mono hV.2.2.2.2.2.2.size))⟩
  ·exact absurd h6 g4
 have HC1:Hid (∀ V,Below w1.heap.size w1 V->Calls Tryz.prog 25 #[.agg #[.int .i64 b.f.n,.int .i64 b.f.k,.slice p b.f.L.length cap]] V fun e w'=>e=.returned (.agg #[.int .i64 (cfgF b.f).1,.int .i64 (cfgF b.f).2])/\Below V.heap.size V w'):=fun V hV=>rcfg_any b.f p cap V (HCFF.out V p cap ((hi.strsF.below hb1).below hV) hi.roomF hi.emptyF)
 have HC2:Hid (∀ V,Below w1.heap.size w1 V->Calls Tryz.prog 25 #[.agg #[.int .i64 b.t.n,.int .i64 b.t.k,.slice q b.t.L.length cap2]] V fun e w'=>e=.returned (.agg #[.int .i64 (cfgF b.t).1,.int .i64 (cfgF b.t).2])/\Below V.heap.size V w'):=fun V hV=>rcfg_any b.t q cap2 V (HCFT.out V q cap2 ((hi.strsT.below hb1).below hV) hi.roomT hi.emptyT)
 have HNM:Hid (∀ V,Calls Tryz.prog 26 #[.string b.key] V fun e w'=>e=.returned (.bool (isN b.key))/\w'=V):=fun V=>isName_any b.key V (by omega)
 have HBR:Hid (∀ x V,Calls Tryz.prog 27 #[.int .i64 x] V fun e w'=>e=.returned (.agg #[.int .i64 x,.int .i64 (-1)])/\Below V.heap.size V w'):=fun x V=>bare_any x V
 have HFT:Hid (∀ V et eu,Below w1.heap.size w1 V->Hid (ErrIs V ad (.iface et eu) (carF b).1 (carF b).2)->Calls Tryz.prog 12 #[.iface et eu,.agg #[.int .i64 (carF b).1,.int .i64 (carF b).2]] V fun e w'=>e=.returned (.bool true)/\Below w1.heap.size w1 w'):=fun V et eu hV he=>(faulted2_any ad (.iface et eu) (carF b).1 (carF b).2 V (hi.sent V (hb1.trans (hV.mono hb1.size))) he.out).mono fun e w' hq=>⟨hq.1,hV.trans (hq.2.mono hV.size)⟩
 rw [h1] at HL1
 rw [h2] at HL2
 rw [h4] at HMF
 have n3:decide ((100:Int) < (b.key.size:Int))=false:=decide_eq_false (by omega)
 rw [carF_k g1 g2 g3] at HFT HPT
 dsimp only at HFT HPT
 have HC1':Hid (∀ V,Below w1.heap.size w1 V->Calls Tryz.prog 25 #[.agg #[.int .i64 b.f.n,.int .i64 b.f.k,.slice p b.f.L.length cap]] V fun e w'=>e=.returned (.agg #[.int .i64 0,.int .i64 (-1)])/\Below V.heap.size V w'):=by have:=HC1;rw [(cfgF_fine g1).2.2.1] at this;exact this
 have HC2':Hid (∀ V,Below w1.heap.size w1 V->Calls Tryz.prog 25 #[.agg #[.int .i64 b.t.n,.int .i64 b.t.k,.slice q b.t.L.length cap2]] V fun e w'=>e=.returned (.agg #[.int .i64 0,.int .i64 (-1)])/\Below V.heap.size V w'):=by have:=HC2;rw [(cfgF_fine g2).2.2.1] at this;exact this
 rw [g3] at HNM
 clear HC1 HC2 g1 g2 g3
 clear hi hO hw1 hb1 hz1 hblF hblT HCFF HCFT HOKX nf1 nf2 nt1 nt2 h1 h2 h3 h4 h6
 go_enter Tryz.func4,Tryz.ntmps4
 go_wp2_with (first | rw [<- HW1.out] | fail)
 refine HAS.mono ?_
 rintro e w2 ⟨rfl,hb2⟩
 obtain ⟨d0,d1,d2,d3,d4,d5,_⟩:=HS9.out w2 hb2
 have HB2:Hid (Below w1.heap.size w1 w2):=hb2
 clear hb2 HAS
 go_wp2_with fail
 refine (HL1.out w2 HB2.out).mono ?_
 rintro e w3 ⟨rfl,hb3⟩
 clear d0 d1 d2 d3 d4 d5
 obtain ⟨d0,d1,d2,d3,d4,d5,_⟩:=HS9.out w3 hb3
 have HB3:Hid (Below w1.heap.size w1 w3):=hb3
 clear hb3
 go_wp2_with fail
 refine (HL2.out w3 HB3.out).mono ?_
 rintro e w4 ⟨rfl,hb4⟩
 clear d0 d1 d2 d3 d4 d5
 obtain ⟨d0,d1,d2,d3,d4,d5,_⟩:=HS9.out w4 hb4
 have HB4:Hid (Below w1.heap.size w1 w4):=hb4
 clear hb4
 go_wp2_with fail
 refine (HMF.out w4 HB4.out).mono ?_
 rintro e w5 ⟨rfl,hb5⟩
 clear d0 d1 d2 d3 d4 d5
 obtain ⟨d0,d1,d2,d3,d4,d5,_⟩:=HS9.out w5 hb5
 have HB5:Hid (Below w1.heap.size w1 w5):=hb5
 clear hb5
 have HS50:=HS9.out w5.drew HB5.out.drew
 clear d0 d1 d2 d3 d4 d5 HL1 HL2 HMF
 go_wp2
 go_region_held3 (fun V=>(V.cell? ⟨w.heap.size,0,none⟩=some (.int .i64 b.f.n)/\V.cell? ⟨w.heap.size,1,none⟩=some (.int .i64 b.f.k)/\V.cell? ⟨w.heap.size,2,none⟩=some (.slice p b.f.L.length cap)/\V.cell? ⟨w.heap.size+1,0,none⟩=some (.int .i64 b.t.n)/\V.cell? ⟨w.heap.size+1,1,none⟩=some (.int .i64 b.t.k)/\V.cell? ⟨w.heap.size+1,2,none⟩=some (.slice q b.t.L.length cap2)/\Below w1.heap.size w1 V)) (first | assumption | exact HS50) (first | (go_at_call 9;with_reducible refine (HOC1.out _ (by assumption)).mono ?_;rintro e w6 ⟨u6,d6,rfl,hC6,hS6⟩) | (go_at_call 9;with_reducible refine (HOC2.out _ _ _ hC6 (by assumption)).mono ?_;rintro e w7 ⟨u7,d7,rfl,hC7,hS7⟩) | (go_at_call 24;refine (HPT.out _ _ _ _ _ hC7 (by assumption)).mono ?_;rintro e w8 ⟨et,eu,rfl,hE8,hS8⟩))
 have HB8:Hid (Below w1.heap.size w1 w8):=hS8.2.2.2.2.2.2
 obtain ⟨d0,d1,d2,d3,d4,d5,_⟩:=hS8
 have HC18:=HC1'.out w8 HB8.out
 clear HS50 hC6 hC7 hS6 hS7 HOC1 HOC2 HPT
 go_wp2_with fail
 refine HC18.mono ?_
 rintro e w9 ⟨rfl,hb9⟩
 obtain ⟨w10,hw10⟩:∃ w10,w10=w9.alloc (.cells #[.int .i64 0,.int .i64 (-1)] 39):=⟨_,rfl⟩
 have hv10:w10.heap[w9.heap.size]?=some (.cells #[.int .i64 0,.int .i64 (-1)] 39 (0,0)):=by rw [hw10];exact heap_alloc_new _ _
 have hb810:Below w8.heap.size w8 w10:=by rw [hw10];exact hb9.alloc hb9.size _
 have HG9:Hid (w8.heap.size<=w9.heap.size):=hb9.size
 have HV10:Hid (w10.heap[w9.heap.size]?=some (.cells #[.int .i64 0,.int .i64 (-1)] 39 (0,0))):=hv10
 have k0:w10.cell? ⟨w9.heap.size,0,none⟩=some (.int .i64 (0)):=(rblk_cell hv10 0).1
 have k1:w10.cell? ⟨w9.heap.size,1,none⟩=some (.int .i64 ((-1))):=(rblk_cell hv10 1).1
 have HB810:Hid (Below w8.heap.size w8 w10):=hb810
 have HW10:Hid (w10=w9.alloc (.cells #[.int .i64 0,.int .i64 (-1)] 39)):=hw10
 clear d0 d1 d2 d3 d4 d5
 obtain ⟨d0,d1,d2,d3,d4,d5,_⟩:=HS9.out w10 (HB8.out.trans (hb810.mono HB8.out.size))
 clear hw10 hb9 hv10 hb810 HC18
 go_wp2_with (first | rw [<- HW10.out] | fail)
 refine (HC2'.out w10 (HB8.out.trans (HB810.out.mono HB8.out.size))).mono ?_
 rintro e w11 ⟨rfl,hbc⟩
 clear k0 k1
 have hvc:=(hbc.block w9.heap.size (lt_of_row HV10.out)).trans HV10.out
 have k0:w11.cell? ⟨w9.heap.size,0,none⟩=some (.int .i64 (0)):=(rblk_cell hvc 0).1
 have k1:w11.cell? ⟨w9.heap.size,1,none⟩=some (.int .i64 (-1)):=(rblk_cell hvc 1).1
 have fz:∀ j,w11.frozen? ⟨w9.heap.size,j,none⟩=false:=fun j=>(rblk_cell hvc j).2
 obtain ⟨w12,hwn⟩:∃ v,v=(w11.setCell ⟨w9.heap.size,0,none⟩ (.int .i64 (0))).setCell ⟨w9.heap.size,1,none⟩ (.int .i64 (-1)):=⟨_,rfl⟩
 have hvn:w12.heap[w9.heap.size]?=some (.cells #[.int .i64 (0),.int .i64 (-1)] 39 (0,0)):=by rw [hwn];exact blk_setG (blk_setG hvc 0 _) 1 _
 have hbn:Below w8.heap.size w8 w12:=by rw [hwn];exact ((HB810.out.trans (hbc.mono HB810.out.size)).setCell (p:=⟨w9.heap.size,0,none⟩) HG9.out _).setCell (p:=⟨w9.heap.size,1,none⟩) HG9.out _
 have m0:w12.cell? ⟨w9.heap.size,0,none⟩=some (.int .i64 (0)):=(rblk_cell hvn 0).1
 have m1:w12.cell? ⟨w9.heap.size,1,none⟩=some (.int .i64 (-1)):=(rblk_cell hvn 1).1
 have HV12:Hid (w12.heap[w9.heap.size]?=some (.cells #[.int .i64 (0),.int .i64 (-1)] 39 (0,0))):=hvn
 have HB812:Hid (Below w8.heap.size w8 w12):=hbn
 have HW12:Hid (w12=(w11.setCell ⟨w9.heap.size,0,none⟩ (.int .i64 (0))).setCell ⟨w9.heap.size,1,none⟩ (.int .i64 (-1))):=hwn
 clear d0 d1 d2 d3 d4 d5
 obtain ⟨d0,d1,d2,d3,d4,d5,_⟩:=HS9.out w12 (HB8.out.trans (hbn.mono HB8.out.size))
 clear hwn hvn hbn hvc hbc
 go_wp2_with (first | rw [<- HW12.out] | fail)
 refine (HNM.out w12).mono ?_
 rintro e w13 ⟨rfl,hw13⟩
 rw [hw13]
 clear hw13 w13 k0 k1 fz
 go_wp2_with fail
 refine (HBR.out 4 w12).mono ?_
 rintro e w14 ⟨rfl,hbc⟩
 clear m0 m1
 have hvc:=(hbc.block w9.heap.size (lt_of_row HV12.out)).trans HV12.out
 have k0:w14.cell? ⟨w9.heap.size,0,none⟩=some (.int .i64 (0)):=(rblk_cell hvc 0).1
 have k1:w14.cell? ⟨w9.heap.size,1,none⟩=some (.int .i64 (-1)):=(rblk_cell hvc 1).1
 have fz:∀ j,w14.frozen? ⟨w9.heap.size,j,none⟩=false:=fun j=>(rblk_cell hvc j).2
 obtain ⟨w15,hwn⟩:∃ v,v=(w14.setCell ⟨w9.heap.size,0,none⟩ (.int .i64 (4))).setCell ⟨w9.heap.size,1,none⟩ (.int .i64 (-1)):=⟨_,rfl⟩
 have hvn:w15.heap[w9.heap.size]?=some (.cells #[.int .i64 (4),.int .i64 (-1)] 39 (0,0)):=by rw [hwn];exact blk_setG (blk_setG hvc 0 _) 1 _
 have hbn:Below w8.heap.size w8 w15:=by rw [hwn];exact ((HB812.out.trans (hbc.mono HB812.out.size)).setCell (p:=⟨w9.heap.size,0,none⟩) HG9.out _).setCell (p:=⟨w9.heap.size,1,none⟩) HG9.out _
 have m0:w15.cell? ⟨w9.heap.size,0,none⟩=some (.int .i64 (4)):=(rblk_cell hvn 0).1
 have m1:w15.cell? ⟨w9.heap.size,1,none⟩=some (.int .i64 (-1)):=(rblk_cell hvn 1).1
 have HV15:Hid (w15.heap[w9.heap.size]?=some (.cells #[.int .i64 (4),.int .i64 (-1)] 39 (0,0))):=hvn
 have HB815:Hid (Below w8.heap.size w8 w15):=hbn
 have HW15:Hid (w15=(w14.setCell ⟨w9.heap.size,0,none⟩ (.int .i64 (4))).setCell ⟨w9.heap.size,1,none⟩ (.int .i64 (-1))):=hwn
 clear d0 d1 d2 d3 d4 d5
 obtain ⟨d0,d1,d2,d3,d4,d5,_⟩:=HS9.out w15 (HB8.out.trans (hbn.mono HB8.out.size))
 clear hwn hvn hbn hvc hbc
 go_wp2_with (first | rw [<- HW15.out] | fail)
 have HE9:=hE8.out.below HB815.out
 refine (HFT.out w15 et eu (HB8.out.trans (HB815.out.mono HB8.out.size)) HE9).mono ?_
 rintro e w20 ⟨rfl,hb20⟩
 have HB20:Hid (Below w.heap.size w w20):=HB1.out.trans (hb20.mono HB1.out.size)
 clear hb20
 go_wp2
 go_ret
 exact ⟨rfl,HB20.out⟩
set_option maxRecDepth 10000 in
set_option maxHeartbeats 8000000 in
theorem carryHears_badO (hO:CarryOk ad X Ck) (b:Lift) (p:Option Addr) (cap:Nat) (q:Option Addr) (cap2:Nat) (l:List Msg) (lp:Option Addr) (lcap:Nat) (w:World) (hi:LiftIn ad X b p cap q cap2 l lp w) (h1:longC b.f=false) (h2:longC b.t=false) (h3:¬ 100 < b.key.size) (h4:fitsM l=true) (g1:¬ 0 < (cfgF b.f).1) (g2:¬ 0 < (cfgF b.t).1) (g3:isN b.key=true) (g5:b.op < 0):Calls Tryz.prog 4 #[.int .i64 b.op,.agg #[.int .i64 b.f.n,.int .i64 b.f.k,.slice p b.f.L.length cap],.agg #[.int .i64 b.t.n,.int .i64 b.t.k,.slice q b.t.L.length cap2],.int .i64 b.config,.string b.key,.slice lp l.length lcap] w fun e w'=>e=.returned (.bool true)/\Below w.heap.size w w':=by
 have h6:0 < (carF b).1:=by rw [carF_b g1 g2 g3 (fun hf=>by unfold Lift.fits at hf;omega)];decide
 obtain ⟨w1,hw1⟩:∃ w1,w1=(w.alloc (.cells #[.int .i64 b.f.n,.int .i64 b.f.k,.slice p b.f.L.length cap] 24)).alloc (.cells #[.int .i64 b.t.n,.int .i64 b.t.k,.slice q b.t.L.length cap2] 24):=⟨_,rfl⟩
 have hb1:Below w.heap.size w w1:=by rw [hw1];exact ((Below.refl _ _).alloc (Nat.le_refl _) _).alloc (by simp) _
 have hz1:w1.heap.size=w.heap.size+2:=by rw [hw1];simp
 have hblF:w1.heap[w.heap.size]?=some (.cells #[.int .i64 b.f.n,.int .i64 b.f.k,.slice p b.f.L.length cap] 24 (0,0)):=by rw [hw1,heap_alloc_old _ _ (by simp)];exact heap_alloc_new _ _
 have hblT:w1.heap[w.heap.size+1]?=some (.cells #[.int .i64 b.t.n,.int .i64 b.t.k,.slice q b.t.L.length cap2] 24 (0,0)):=by
  have e:w.heap.size+1=(w.alloc (.cells #[.int .i64 b.f.n,.int .i64 b.f.k,.slice p b.f.L.length cap] 24)).heap.size:=by simp
  rw [hw1,e]
  exact heap_alloc_new _ _
 have HS9:Hid (∀ V,Below w1.heap.size w1 V->(V.cell? ⟨w.heap.size,0,none⟩=some (.int .i64 b.f.n)/\V.cell? ⟨w.heap.size,1,none⟩=some (.int .i64 b.f.k)/\V.cell? ⟨w.heap.size,2,none⟩=some (.slice p b.f.L.length cap)/\V.cell? ⟨w.heap.size+1,0,none⟩=some (.int .i64 b.t.n)/\V.cell? ⟨w.heap.size+1,1,none⟩=some (.int .i64 b.t.k)/\V.cell? ⟨w.heap.size+1,2,none⟩=some (.slice q b.t.L.length cap2)/\Below w1.heap.size w1 V)):=fun V hV=>by
  have hF:=(hV.block _ (by omega)).trans hblF
  have hT:=(hV.block _ (by omega)).trans hblT
  exact ⟨(rblk_cell hF 0).1,(rblk_cell hF 1).1,(rblk_cell hF 2).1,(rblk_cell hT 0).1,(rblk_cell hT 1).1,(rblk_cell hT 2).1,hV⟩
 have HAS:=carried_any hO w1 (fun V hV=>(hi.ok (hb1.trans (hV.mono hb1.size))).1) (fun V hV=>(hi.ok (hb1.trans (hV.mono hb1.size))).2)
 have HL1:Hid (∀ V,Below w1.heap.size w1 V->Calls Tryz.prog 6 #[.agg #[.int .i64 b.f.n,.int .i64 b.f.k,.slice p b.f.L.length cap]] V fun e w'=>e=.returned (.bool (longC b.f))/\Below w1.heap.size w1 w'):=fun V hV=>(longConfig_any b.f p cap V hi.lenF hi.sizeF ((hi.strsF.below hb1).below hV)).mono fun e w' hq=>⟨hq.1,hV.trans (hq.2.mono hV.size)⟩
 have HL2:Hid (∀ V,Below w1.heap.size w1 V->Calls Tryz.prog 6 #[.agg #[.int .i64 b.t.n,.int .i64 b.t.k,.slice q b.t.L.length cap2]] V fun e w'=>e=.returned (.bool (longC b.t))/\Below w1.heap.size w1 w'):=fun V hV=>(longConfig_any b.t q cap2 V hi.lenT hi.sizeT ((hi.strsT.below hb1).below hV)).mono fun e w' hq=>⟨hq.1,hV.trans (hq.2.mono hV.size)⟩
 have HMF:Hid (∀ V,Below w1.heap.size w1 V->Calls Tryz.prog 7 #[.slice lp l.length lcap] V fun e w'=>e=.returned (.bool (fitsM l))/\Below w1.heap.size w1 w'):=fun V hV=>(messagesFit_any lp l lcap V hi.much ((hi.msgs.below hb1).below hV)).mono fun e w' hq=>⟨hq.1,hV.trans (hq.2.mono hV.size)⟩
 have HW1:Hid (w1=(w.alloc (.cells #[.int .i64 b.f.n,.int .i64 b.f.k,.slice p b.f.L.length cap] 24)).alloc (.cells #[.int .i64 b.t.n,.int .i64 b.t.k,.slice q b.t.L.length cap2] 24)):=hw1
 have HB1:Hid (Below w.heap.size w w1):=hb1
 obtain ⟨nf1,nf2⟩:=longC_fine h1
 obtain ⟨nt1,nt2⟩:=longC_fine h2
 have HCFF:Hid (∀ V u d,Strs V u b.f.L->b.f.L.length<=d->(u=none->b.f.L=[]/\d=0)->CfgAt V b.f u d):=fun V u d g1 g2 g3=>cfgAt_of g1 g2 g3 h1 hi.intsF
 have HCFT:Hid (∀ V u d,Strs V u b.t.L->b.t.L.length<=d->(u=none->b.t.L=[]/\d=0)->CfgAt V b.t u d):=fun V u d g1 g2 g3=>cfgAt_of g1 g2 g3 h2 hi.intsT
 have HOC1:Hid (∀ V,(V.cell? ⟨w.heap.size,0,none⟩=some (.int .i64 b.f.n)/\V.cell? ⟨w.heap.size,1,none⟩=some (.int .i64 b.f.k)/\V.cell? ⟨w.heap.size,2,none⟩=some (.slice p b.f.L.length cap)/\V.cell? ⟨w.heap.size+1,0,none⟩=some (.int .i64 b.t.n)/\V.cell? ⟨w.heap.size+1,1,none⟩=some (.int .i64 b.t.k)/\V.cell? ⟨w.heap.size+1,2,none⟩=some (.slice q b.t.L.length cap2)/\Below w1.heap.size w1 V)->Calls Tryz.prog 9 #[.agg #[.int .i64 b.f.n,.int .i64 b.f.k,.slice p b.f.L.length cap]] V fun e w'=>∃ u d,e=.returned (.agg #[.int .i64 b.f.n,.int .i64 b.f.k,.slice u b.f.L.length d])/\Hid (CfgAt w' b.f u d)/\(w'.cell? ⟨w.heap.size,0,none⟩=some (.int .i64 b.f.n)/\w'.cell? ⟨w.heap.size,1,none⟩=some (.int .i64 b.f.k)/\w'.cell? ⟨w.heap.size,2,none⟩=some (.slice p b.f.L.length cap)/\w'.cell? ⟨w.heap.size+1,0,none⟩=some (.int .i64 b.t.n)/\w'.cell? ⟨w.heap.size+1,1,none⟩=some (.int .i64 b.t.k)/\w'.cell? ⟨w.heap.size+1,2,none⟩=some (.slice q b.t.L.length cap2)/\Below w1.heap.size w1 w')):=fun V hV=>(ownConfig_any b.f p cap V (by omega) ((hi.strsF.below hb1).below hV.2.2.2.2.2.2) hi.emptyF).mono fun e w' hq=>by
  obtain ⟨⟨u,d,e1,e2,e3,e4⟩,e5⟩:=hq
  exact ⟨u,d,e1,HCFF.out w' u d e2 e3 e4,HS9.out w' (hV.2.2.2.2.2.2.trans (e5.mono hV.2.2.2.2.2.2.size))⟩
 have HOC2:Hid (∀ V u d,Hid (CfgAt V b.f u d)->(V.cell? ⟨w.heap.size,0,none⟩=some (.int .i64 b.f.n)/\V.cell? ⟨w.heap.size,1,none⟩=some (.int .i64 b.f.k)/\V.cell? ⟨w.heap.size,2,none⟩=some (.slice p b.f.L.length cap)/\V.cell? ⟨w.heap.size+1,0,none⟩=some (.int .i64 b.t.n)/\V.cell? ⟨w.heap.size+1,1,none⟩=some (.int .i64 b.t.k)/\V.cell? ⟨w.heap.size+1,2,none⟩=some (.slice q b.t.L.length cap2)/\Below w1.heap.size w1 V)->Calls Tryz.prog 9 #[.agg #[.int .i64 b.t.n,.int .i64 b.t.k,.slice q b.t.L.length cap2]] V fun e w'=>∃ u2 d2,e=.returned (.agg #[.int .i64 b.t.n,.int .i64 b.t.k,.slice u2 b.t.L.length d2])/\Hid (CfgAt w' b.f u d/\CfgAt w' b.t u2 d2)/\(w'.cell? ⟨w.heap.size,0,none⟩=some (.int .i64 b.f.n)/\w'.cell? ⟨w.heap.size,1,none⟩=some (.int .i64 b.f.k)/\w'.cell? ⟨w.heap.size,2,none⟩=some (.slice p b.f.L.length cap)/\w'.cell? ⟨w.heap.size+1,0,none⟩=some (.int .i64 b.t.n)/\w'.cell? ⟨w.heap.size+1,1,none⟩=some (.int .i64 b.t.k)/\w'.cell? ⟨w.heap.size+1,2,none⟩=some (.slice q b.t.L.length cap2)/\Below w1.heap.size w1 w')):=fun V u d hC hV=>(ownConfig_any b.t q cap2 V (by omega) ((hi.strsT.below hb1).below hV.2.2.2.2.2.2) hi.emptyT).mono fun e w' hq=>by
  obtain ⟨⟨u2,d2,e1,e2,e3,e4⟩,e5⟩:=hq
  exact ⟨u2,d2,e1,⟨hC.out.below e5,HCFT.out w' u2 d2 e2 e3 e4⟩,HS9.out w' (hV.2.2.2.2.2.2.trans (e5.mono hV.2.2.2.2.2.2.size))⟩
 have HOKX:Hid (∀ V,Below w1.heap.size w1 V->ErrsQ V ad/\X V):=fun V hV=>hi.ok (hb1.trans (hV.mono hb1.size))
 have HPT:Hid (∀ V u d u2 d2,Hid (CfgAt V b.f u d/\CfgAt V b.t u2 d2)->(V.cell? ⟨w.heap.size,0,none⟩=some (.int .i64 b.f.n)/\V.cell? ⟨w.heap.size,1,none⟩=some (.int .i64 b.f.k)/\V.cell? ⟨w.heap.size,2,none⟩=some (.slice p b.f.L.length cap)/\V.cell? ⟨w.heap.size+1,0,none⟩=some (.int .i64 b.t.n)/\V.cell? ⟨w.heap.size+1,1,none⟩=some (.int .i64 b.t.k)/\V.cell? ⟨w.heap.size+1,2,none⟩=some (.slice q b.t.L.length cap2)/\Below w1.heap.size w1 V)->Calls Tryz.prog 24 #[.int .i64 b.op,.agg #[.int .i64 b.f.n,.int .i64 b.f.k,.slice u b.f.L.length d],.agg #[.int .i64 b.t.n,.int .i64 b.t.k,.slice u2 b.t.L.length d2],.int .i64 b.config,.string b.key] V fun e w'=>∃ et eu,e=.returned (.tuple #[.pointer none,.iface et eu])/\Hid (ErrIs w' ad (.iface et eu) (carF b).1 (carF b).2)/\(w'.cell? ⟨w.heap.size,0,none⟩=some (.int .i64 b.f.n)/\w'.cell? ⟨w.heap.size,1,none⟩=some (.int .i64 b.f.k)/\w'.cell? ⟨w.heap.size,2,none⟩=some (.slice p b.f.L.length cap)/\w'.cell? ⟨w.heap.size+1,0,none⟩=some (.int .i64 b.t.n)/\w'.cell? ⟨w.heap.size+1,1,none⟩=some (.int .i64 b.t.k)/\w'.cell? ⟨w.heap.size+1,2,none⟩=some (.slice q b.t.L.length cap2)/\Below w1.heap.size w1 w')):=fun V u d u2 d2 hC hV=>(hO.new b u d u2 d2 V hC.out.1 hC.out.2 (by omega) hi.op hi.config (HOKX.out V hV.2.2.2.2.2.2).1 (HOKX.out V hV.2.2.2.2.2.2).2).mono fun e w' hq=>by
  obtain ⟨⟨ev,g1,g2⟩,g3⟩:=hq
  obtain ⟨et,eu,rfl⟩:=g1.some h6
  rcases g2 with ⟨_,g4⟩ | ⟨g4,_⟩
  ·exact ⟨et,eu,g4,g1,HS9.out w' (hV.2.2.2.2.2.2.trans (g3.mono hV.2.2.2.2.2.2.size))⟩
  ·exact absurd h6 g4
 have HC1:Hid (∀ V,Below w1.heap.size w1 V->Calls Tryz.prog 25 #[.agg #[.int .i64 b.f.n,.int .i64 b.f.k,.slice p b.f.L.length cap]] V fun e w'=>e=.returned (.agg #[.int .i64 (cfgF b.f).1,.int .i64 (cfgF b.f).2])/\Below V.heap.size V w'):=fun V hV=>rcfg_any b.f p cap V (HCFF.out V p cap ((hi.strsF.below hb1).below hV) hi.roomF hi.emptyF)
 have HC2:Hid (∀ V,Below w1.heap.size w1 V->Calls Tryz.prog 25 #[.agg #[.int .i64 b.t.n,.int .i64 b.t.k,.slice q b.t.L.length cap2]] V fun e w'=>e=.returned (.agg #[.int .i64 (cfgF b.t).1,.int .i64 (cfgF b.t).2])/\Below V.heap.size V w'):=fun V hV=>rcfg_any b.t q cap2 V (HCFT.out V q cap2 ((hi.strsT.below hb1).below hV) hi.roomT hi.emptyT)
 have HNM:Hid (∀ V,Calls Tryz.prog 26 #[.string b.key] V fun e w'=>e=.returned (.bool (isN b.key))/\w'=V):=fun V=>isName_any b.key V (by omega)
 have HBR:Hid (∀ x V,Calls Tryz.prog 27 #[.int .i64 x] V fun e w'=>e=.returned (.agg #[.int .i64 x,.int .i64 (-1)])/\Below V.heap.size V w'):=fun x V=>bare_any x V
 have HFT:Hid (∀ V et eu,Below w1.heap.size w1 V->Hid (ErrIs V ad (.iface et eu) (carF b).1 (carF b).2)->Calls Tryz.prog 12 #[.iface et eu,.agg #[.int .i64 (carF b).1,.int .i64 (carF b).2]] V fun e w'=>e=.returned (.bool true)/\Below w1.heap.size w1 w'):=fun V et eu hV he=>(faulted2_any ad (.iface et eu) (carF b).1 (carF b).2 V (hi.sent V (hb1.trans (hV.mono hb1.size))) he.out).mono fun e w' hq=>⟨hq.1,hV.trans (hq.2.mono hV.size)⟩
 rw [h1] at HL1
 rw [h2] at HL2
 rw [h4] at HMF
 have n3:decide ((100:Int) < (b.key.size:Int))=false:=decide_eq_false (by omega)
 rw [carF_b g1 g2 g3 (fun hf=>by unfold Lift.fits at hf;omega)] at HFT HPT
 dsimp only at HFT HPT
 have HC1':Hid (∀ V,Below w1.heap.size w1 V->Calls Tryz.prog 25 #[.agg #[.int .i64 b.f.n,.int .i64 b.f.k,.slice p b.f.L.length cap]] V fun e w'=>e=.returned (.agg #[.int .i64 0,.int .i64 (-1)])/\Below V.heap.size V w'):=by have:=HC1;rw [(cfgF_fine g1).2.2.1] at this;exact this
 have HC2':Hid (∀ V,Below w1.heap.size w1 V->Calls Tryz.prog 25 #[.agg #[.int .i64 b.t.n,.int .i64 b.t.k,.slice q b.t.L.length cap2]] V fun e w'=>e=.returned (.agg #[.int .i64 0,.int .i64 (-1)])/\Below V.heap.size V w'):=by have:=HC2;rw [(cfgF_fine g2).2.2.1] at this;exact this
 rw [g3] at HNM
 have n8:decide (b.op < 0)=true:=decide_eq_true g5
 clear HC1 HC2 g1 g2 g3 g5
 clear hi hO hw1 hb1 hz1 hblF hblT HCFF HCFT HOKX nf1 nf2 nt1 nt2 h1 h2 h3 h4 h6
 go_enter Tryz.func4,Tryz.ntmps4
 go_wp2_with (first | rw [<- HW1.out] | fail)
 refine HAS.mono ?_
 rintro e w2 ⟨rfl,hb2⟩
 obtain ⟨d0,d1,d2,d3,d4,d5,_⟩:=HS9.out w2 hb2
 have HB2:Hid (Below w1.heap.size w1 w2):=hb2
 clear hb2 HAS
 go_wp2_with fail
 refine (HL1.out w2 HB2.out).mono ?_
 rintro e w3 ⟨rfl,hb3⟩
 clear d0 d1 d2 d3 d4 d5
 obtain ⟨d0,d1,d2,d3,d4,d5,_⟩:=HS9.out w3 hb3
 have HB3:Hid (Below w1.heap.size w1 w3):=hb3
 clear hb3
 go_wp2_with fail
 refine (HL2.out w3 HB3.out).mono ?_
 rintro e w4 ⟨rfl,hb4⟩
 clear d0 d1 d2 d3 d4 d5
 obtain ⟨d0,d1,d2,d3,d4,d5,_⟩:=HS9.out w4 hb4
 have HB4:Hid (Below w1.heap.size w1 w4):=hb4
 clear hb4
 go_wp2_with fail
 refine (HMF.out w4 HB4.out).mono ?_
 rintro e w5 ⟨rfl,hb5⟩
 clear d0 d1 d2 d3 d4 d5
 obtain ⟨d0,d1,d2,d3,d4,d5,_⟩:=HS9.out w5 hb5
 have HB5:Hid (Below w1.heap.size w1 w5):=hb5
 clear hb5
 have HS50:=HS9.out w5.drew HB5.out.drew
 clear d0 d1 d2 d3 d4 d5 HL1 HL2 HMF
 go_wp2
 go_region_held3 (fun V=>(V.cell? ⟨w.heap.size,0,none⟩=some (.int .i64 b.f.n)/\V.cell? ⟨w.heap.size,1,none⟩=some (.int .i64 b.f.k)/\V.cell? ⟨w.heap.size,2,none⟩=some (.slice p b.f.L.length cap)/\V.cell? ⟨w.heap.size+1,0,none⟩=some (.int .i64 b.t.n)/\V.cell? ⟨w.heap.size+1,1,none⟩=some (.int .i64 b.t.k)/\V.cell? ⟨w.heap.size+1,2,none⟩=some (.slice q b.t.L.length cap2)/\Below w1.heap.size w1 V)) (first | assumption | exact HS50) (first | (go_at_call 9;with_reducible refine (HOC1.out _ (by assumption)).mono ?_;rintro e w6 ⟨u6,d6,rfl,hC6,hS6⟩) | (go_at_call 9;with_reducible refine (HOC2.out _ _ _ hC6 (by assumption)).mono ?_;rintro e w7 ⟨u7,d7,rfl,hC7,hS7⟩) | (go_at_call 24;refine (HPT.out _ _ _ _ _ hC7 (by assumption)).mono ?_;rintro e w8 ⟨et,eu,rfl,hE8,hS8⟩))
 have HB8:Hid (Below w1.heap.size w1 w8):=hS8.2.2.2.2.2.2
 obtain ⟨d0,d1,d2,d3,d4,d5,_⟩:=hS8
 have HC18:=HC1'.out w8 HB8.out
 clear HS50 hC6 hC7 hS6 hS7 HOC1 HOC2 HPT
 go_wp2_with fail
 refine HC18.mono ?_
 rintro e w9 ⟨rfl,hb9⟩
 obtain ⟨w10,hw10⟩:∃ w10,w10=w9.alloc (.cells #[.int .i64 0,.int .i64 (-1)] 39):=⟨_,rfl⟩
 have hv10:w10.heap[w9.heap.size]?=some (.cells #[.int .i64 0,.int .i64 (-1)] 39 (0,0)):=by rw [hw10];exact heap_alloc_new _ _
 have hb810:Below w8.heap.size w8 w10:=by rw [hw10];exact hb9.alloc hb9.size _
 have HG9:Hid (w8.heap.size<=w9.heap.size):=hb9.size
 have HV10:Hid (w10.heap[w9.heap.size]?=some (.cells #[.int .i64 0,.int .i64 (-1)] 39 (0,0))):=hv10
 have k0:w10.cell? ⟨w9.heap.size,0,none⟩=some (.int .i64 (0)):=(rblk_cell hv10 0).1
 have k1:w10.cell? ⟨w9.heap.size,1,none⟩=some (.int .i64 ((-1))):=(rblk_cell hv10 1).1
 have HB810:Hid (Below w8.heap.size w8 w10):=hb810
 have HW10:Hid (w10=w9.alloc (.cells #[.int .i64 0,.int .i64 (-1)] 39)):=hw10
 clear d0 d1 d2 d3 d4 d5
 obtain ⟨d0,d1,d2,d3,d4,d5,_⟩:=HS9.out w10 (HB8.out.trans (hb810.mono HB8.out.size))
 clear hw10 hb9 hv10 hb810 HC18
 go_wp2_with (first | rw [<- HW10.out] | fail)
 refine (HC2'.out w10 (HB8.out.trans (HB810.out.mono HB8.out.size))).mono ?_
 rintro e w11 ⟨rfl,hbc⟩
 clear k0 k1
 have hvc:=(hbc.block w9.heap.size (lt_of_row HV10.out)).trans HV10.out
 have k0:w11.cell? ⟨w9.heap.size,0,none⟩=some (.int .i64 (0)):=(rblk_cell hvc 0).1
 have k1:w11.cell? ⟨w9.heap.size,1,none⟩=some (.int .i64 (-1)):=(rblk_cell hvc 1).1
 have fz:∀ j,w11.frozen? ⟨w9.heap.size,j,none⟩=false:=fun j=>(rblk_cell hvc j).2
 obtain ⟨w12,hwn⟩:∃ v,v=(w11.setCell ⟨w9.heap.size,0,none⟩ (.int .i64 (0))).setCell ⟨w9.heap.size,1,none⟩ (.int .i64 (-1)):=⟨_,rfl⟩
 have hvn:w12.heap[w9.heap.size]?=some (.cells #[.int .i64 (0),.int .i64 (-1)] 39 (0,0)):=by rw [hwn];exact blk_setG (blk_setG hvc 0 _) 1 _
 have hbn:Below w8.heap.size w8 w12:=by rw [hwn];exact ((HB810.out.trans (hbc.mono HB810.out.size)).setCell (p:=⟨w9.heap.size,0,none⟩) HG9.out _).setCell (p:=⟨w9.heap.size,1,none⟩) HG9.out _
 have m0:w12.cell? ⟨w9.heap.size,0,none⟩=some (.int .i64 (0)):=(rblk_cell hvn 0).1
 have m1:w12.cell? ⟨w9.heap.size,1,none⟩=some (.int .i64 (-1)):=(rblk_cell hvn 1).1
 have HV12:Hid (w12.heap[w9.heap.size]?=some (.cells #[.int .i64 (0),.int .i64 (-1)] 39 (0,0))):=hvn
 have HB812:Hid (Below w8.heap.size w8 w12):=hbn
 have HW12:Hid (w12=(w11.setCell ⟨w9.heap.size,0,none⟩ (.int .i64 (0))).setCell ⟨w9.heap.size,1,none⟩ (.int .i64 (-1))):=hwn
 clear d0 d1 d2 d3 d4 d5
 obtain ⟨d0,d1,d2,d3,d4,d5,_⟩:=HS9.out w12 (HB8.out.trans (hbn.mono HB8.out.size))
 clear hwn hvn hbn hvc hbc
 go_wp2_with (first | rw [<- HW12.out] | fail)
 refine (HNM.out w12).mono ?_
 rintro e w13 ⟨rfl,hw13⟩
 rw [hw13]
 clear hw13 w13 k0 k1 fz
 go_wp2_with fail
 refine (HBR.out 2 w12).mono ?_
 rintro e w14 ⟨rfl,hbc⟩
 clear m0 m1
 have hvc:=(hbc.block w9.heap.size (lt_of_row HV12.out)).trans HV12.out
 have k0:w14.cell? ⟨w9.heap.size,0,none⟩=some (.int .i64 (0)):=(rblk_cell hvc 0).1
 have k1:w14.cell? ⟨w9.heap.size,1,none⟩=some (.int .i64 (-1)):=(rblk_cell hvc 1).1
 have fz:∀ j,w14.frozen? ⟨w9.heap.size,j,none⟩=false:=fun j=>(rblk_cell hvc j).2
 obtain ⟨w15,hwn⟩:∃ v,v=(w14.setCell ⟨w9.heap.size,0,none⟩ (.int .i64 (2))).setCell ⟨w9.heap.size,1,none⟩ (.int .i64 (-1)):=⟨_,rfl⟩
 have hvn:w15.heap[w9.heap.size]?=some (.cells #[.int .i64 (2),.int .i64 (-1)] 39 (0,0)):=by rw [hwn];exact blk_setG (blk_setG hvc 0 _) 1 _
 have hbn:Below w8.heap.size w8 w15:=by rw [hwn];exact ((HB812.out.trans (hbc.mono HB812.out.size)).setCell (p:=⟨w9.heap.size,0,none⟩) HG9.out _).setCell (p:=⟨w9.heap.size,1,none⟩) HG9.out _
 have m0:w15.cell? ⟨w9.heap.size,0,none⟩=some (.int .i64 (2)):=(rblk_cell hvn 0).1
 have m1:w15.cell? ⟨w9.heap.size,1,none⟩=some (.int .i64 (-1)):=(rblk_cell hvn 1).1
 have HV15:Hid (w15.heap[w9.heap.size]?=some (.cells #[.int .i64 (2),.int .i64 (-1)] 39 (0,0))):=hvn
 have HB815:Hid (Below w8.heap.size w8 w15):=hbn
 have HW15:Hid (w15=(w14.setCell ⟨w9.heap.size,0,none⟩ (.int .i64 (2))).setCell ⟨w9.heap.size,1,none⟩ (.int .i64 (-1))):=hwn
 clear d0 d1 d2 d3 d4 d5
 obtain ⟨d0,d1,d2,d3,d4,d5,_⟩:=HS9.out w15 (HB8.out.trans (hbn.mono HB8.out.size))
 clear hwn hvn hbn hvc hbc
 go_wp2_with (first | rw [<- HW15.out] | fail)
 have HE9:=hE8.out.below HB815.out
 refine (HFT.out w15 et eu (HB8.out.trans (HB815.out.mono HB8.out.size)) HE9).mono ?_
 rintro e w20 ⟨rfl,hb20⟩
 have HB20:Hid (Below w.heap.size w w20):=HB1.out.trans (hb20.mono HB1.out.size)
 clear hb20
 go_wp2
 go_ret
 exact ⟨rfl,HB20.out⟩
set_option maxRecDepth 10000 in
set_option maxHeartbeats 8000000 in
theorem carryHears_badC (hO:CarryOk ad X Ck) (b:Lift) (p:Option Addr) (cap:Nat) (q:Option Addr) (cap2:Nat) (l:List Msg) (lp:Option Addr) (lcap:Nat) (w:World) (hi:LiftIn ad X b p cap q cap2 l lp w) (h1:longC b.f=false) (h2:longC b.t=false) (h3:¬ 100 < b.key.size) (h4:fitsM l=true) (g1:¬ 0 < (cfgF b.f).1) (g2:¬ 0 < (cfgF b.t).1) (g3:isN b.key=true) (g5:¬ b.op < 0) (g7:b.config < 0):Calls Tryz.prog 4 #[.int .i64 b.op,.agg #[.int .i64 b.f.n,.int .i64 b.f.k,.slice p b.f.L.length cap],.agg #[.int .i64 b.t.n,.int .i64 b.t.k,.slice q b.t.L.length cap2],.int .i64 b.config,.string b.key,.slice lp l.length lcap] w fun e w'=>e=.returned (.bool true)/\Below w.heap.size w w':=by
 have h6:0 < (carF b).1:=by rw [carF_b g1 g2 g3 (fun hf=>by unfold Lift.fits at hf;omega)];decide
 obtain ⟨w1,hw1⟩:∃ w1,w1=(w.alloc (.cells #[.int .i64 b.f.n,.int .i64 b.f.k,.slice p b.f.L.length cap] 24)).alloc (.cells #[.int .i64 b.t.n,.int .i64 b.t.k,.slice q b.t.L.length cap2] 24):=⟨_,rfl⟩
 have hb1:Below w.heap.size w w1:=by rw [hw1];exact ((Below.refl _ _).alloc (Nat.le_refl _) _).alloc (by simp) _
 have hz1:w1.heap.size=w.heap.size+2:=by rw [hw1];simp
 have hblF:w1.heap[w.heap.size]?=some (.cells #[.int .i64 b.f.n,.int .i64 b.f.k,.slice p b.f.L.length cap] 24 (0,0)):=by rw [hw1,heap_alloc_old _ _ (by simp)];exact heap_alloc_new _ _
 have hblT:w1.heap[w.heap.size+1]?=some (.cells #[.int .i64 b.t.n,.int .i64 b.t.k,.slice q b.t.L.length cap2] 24 (0,0)):=by
  have e:w.heap.size+1=(w.alloc (.cells #[.int .i64 b.f.n,.int .i64 b.f.k,.slice p b.f.L.length cap] 24)).heap.size:=by simp
  rw [hw1,e]
  exact heap_alloc_new _ _
 have HS9:Hid (∀ V,Below w1.heap.size w1 V->(V.cell? ⟨w.heap.size,0,none⟩=some (.int .i64 b.f.n)/\V.cell? ⟨w.heap.size,1,none⟩=some (.int .i64 b.f.k)/\V.cell? ⟨w.heap.size,2,none⟩=some (.slice p b.f.L.length cap)/\V.cell? ⟨w.heap.size+1,0,none⟩=some (.int .i64 b.t.n)/\V.cell? ⟨w.heap.size+1,1,none⟩=some (.int .i64 b.t.k)/\V.cell? ⟨w.heap.size+1,2,none⟩=some (.slice q b.t.L.length cap2)/\Below w1.heap.size w1 V)):=fun V hV=>by
  have hF:=(hV.block _ (by omega)).trans hblF
  have hT:=(hV.block _ (by omega)).trans hblT
  exact ⟨(rblk_cell hF 0).1,(rblk_cell hF 1).1,(rblk_cell hF 2).1,(rblk_cell hT 0).1,(rblk_cell hT 1).1,(rblk_cell hT 2).1,hV⟩
 have HAS:=carried_any hO w1 (fun V hV=>(hi.ok (hb1.trans (hV.mono hb1.size))).1) (fun V hV=>(hi.ok (hb1.trans (hV.mono hb1.size))).2)
 have HL1:Hid (∀ V,Below w1.heap.size w1 V->Calls Tryz.prog 6 #[.agg #[.int .i64 b.f.n,.int .i64 b.f.k,.slice p b.f.L.length cap]] V fun e w'=>e=.returned (.bool (longC b.f))/\Below w1.heap.size w1 w'):=fun V hV=>(longConfig_any b.f p cap V hi.lenF hi.sizeF ((hi.strsF.below hb1).below hV)).mono fun e w' hq=>⟨hq.1,hV.trans (hq.2.mono hV.size)⟩
 have HL2:Hid (∀ V,Below w1.heap.size w1 V->Calls Tryz.prog 6 #[.agg #[.int .i64 b.t.n,.int .i64 b.t.k,.slice q b.t.L.length cap2]] V fun e w'=>e=.returned (.bool (longC b.t))/\Below w1.heap.size w1 w'):=fun V hV=>(longConfig_any b.t q cap2 V hi.lenT hi.sizeT ((hi.strsT.below hb1).below hV)).mono fun e w' hq=>⟨hq.1,hV.trans (hq.2.mono hV.size)⟩
 have HMF:Hid (∀ V,Below w1.heap.size w1 V->Calls Tryz.prog 7 #[.slice lp l.length lcap] V fun e w'=>e=.returned (.bool (fitsM l))/\Below w1.heap.size w1 w'):=fun V hV=>(messagesFit_any lp l lcap V hi.much ((hi.msgs.below hb1).below hV)).mono fun e w' hq=>⟨hq.1,hV.trans (hq.2.mono hV.size)⟩
 have HW1:Hid (w1=(w.alloc (.cells #[.int .i64 b.f.n,.int .i64 b.f.k,.slice p b.f.L.length cap] 24)).alloc (.cells #[.int .i64 b.t.n,.int .i64 b.t.k,.slice q b.t.L.length cap2] 24)):=hw1
 have HB1:Hid (Below w.heap.size w w1):=hb1
 obtain ⟨nf1,nf2⟩:=longC_fine h1
 obtain ⟨nt1,nt2⟩:=longC_fine h2
 have HCFF:Hid (∀ V u d,Strs V u b.f.L->b.f.L.length<=d->(u=none->b.f.L=[]/\d=0)->CfgAt V b.f u d):=fun V u d g1 g2 g3=>cfgAt_of g1 g2 g3 h1 hi.intsF
 have HCFT:Hid (∀ V u d,Strs V u b.t.L->b.t.L.length<=d->(u=none->b.t.L=[]/\d=0)->CfgAt V b.t u d):=fun V u d g1 g2 g3=>cfgAt_of g1 g2 g3 h2 hi.intsT
 have HOC1:Hid (∀ V,(V.cell? ⟨w.heap.size,0,none⟩=some (.int .i64 b.f.n)/\V.cell? ⟨w.heap.size,1,none⟩=some (.int .i64 b.f.k)/\V.cell? ⟨w.heap.size,2,none⟩=some (.slice p b.f.L.length cap)/\V.cell? ⟨w.heap.size+1,0,none⟩=some (.int .i64 b.t.n)/\V.cell? ⟨w.heap.size+1,1,none⟩=some (.int .i64 b.t.k)/\V.cell? ⟨w.heap.size+1,2,none⟩=some (.slice q b.t.L.length cap2)/\Below w1.heap.size w1 V)->Calls Tryz.prog 9 #[.agg #[.int .i64 b.f.n,.int .i64 b.f.k,.slice p b.f.L.length cap]] V fun e w'=>∃ u d,e=.returned (.agg #[.int .i64 b.f.n,.int .i64 b.f.k,.slice u b.f.L.length d])/\Hid (CfgAt w' b.f u d)/\(w'.cell? ⟨w.heap.size,0,none⟩=some (.int .i64 b.f.n)/\w'.cell? ⟨w.heap.size,1,none⟩=some (.int .i64 b.f.k)/\w'.cell? ⟨w.heap.size,2,none⟩=some (.slice p b.f.L.length cap)/\w'.cell? ⟨w.heap.size+1,0,none⟩=some (.int .i64 b.t.n)/\w'.cell? ⟨w.heap.size+1,1,none⟩=some (.int .i64 b.t.k)/\w'.cell? ⟨w.heap.size+1,2,none⟩=some (.slice q b.t.L.length cap2)/\Below w1.heap.size w1 w')):=fun V hV=>(ownConfig_any b.f p cap V (by omega) ((hi.strsF.below hb1).below hV.2.2.2.2.2.2) hi.emptyF).mono fun e w' hq=>by
  obtain ⟨⟨u,d,e1,e2,e3,e4⟩,e5⟩:=hq
  exact ⟨u,d,e1,HCFF.out w' u d e2 e3 e4,HS9.out w' (hV.2.2.2.2.2.2.trans (e5.mono hV.2.2.2.2.2.2.size))⟩
 have HOC2:Hid (∀ V u d,Hid (CfgAt V b.f u d)->(V.cell? ⟨w.heap.size,0,none⟩=some (.int .i64 b.f.n)/\V.cell? ⟨w.heap.size,1,none⟩=some (.int .i64 b.f.k)/\V.cell? ⟨w.heap.size,2,none⟩=some (.slice p b.f.L.length cap)/\V.cell? ⟨w.heap.size+1,0,none⟩=some (.int .i64 b.t.n)/\V.cell? ⟨w.heap.size+1,1,none⟩=some (.int .i64 b.t.k)/\V.cell? ⟨w.heap.size+1,2,none⟩=some (.slice q b.t.L.length cap2)/\Below w1.heap.size w1 V)->Calls Tryz.prog 9 #[.agg #[.int .i64 b.t.n,.int .i64 b.t.k,.slice q b.t.L.length cap2]] V fun e w'=>∃ u2 d2,e=.returned (.agg #[.int .i64 b.t.n,.int .i64 b.t.k,.slice u2 b.t.L.length d2])/\Hid (CfgAt w' b.f u d/\CfgAt w' b.t u2 d2)/\(w'.cell? ⟨w.heap.size,0,none⟩=some (.int .i64 b.f.n)/\w'.cell? ⟨w.heap.size,1,none⟩=some (.int .i64 b.f.k)/\w'.cell? ⟨w.heap.size,2,none⟩=some (.slice p b.f.L.length cap)/\w'.cell? ⟨w.heap.size+1,0,none⟩=some (.int .i64 b.t.n)/\w'.cell? ⟨w.heap.size+1,1,none⟩=some (.int .i64 b.t.k)/\w'.cell? ⟨w.heap.size+1,2,none⟩=some (.slice q b.t.L.length cap2)/\Below w1.heap.size w1 w')):=fun V u d hC hV=>(ownConfig_any b.t q cap2 V (by omega) ((hi.strsT.below hb1).below hV.2.2.2.2.2.2) hi.emptyT).mono fun e w' hq=>by
  obtain ⟨⟨u2,d2,e1,e2,e3,e4⟩,e5⟩:=hq
  exact ⟨u2,d2,e1,⟨hC.out.below e5,HCFT.out w' u2 d2 e2 e3 e4⟩,HS9.out w' (hV.2.2.2.2.2.2.trans (e5.mono hV.2.2.2.2.2.2.size))⟩
 have HOKX:Hid (∀ V,Below w1.heap.size w1 V->ErrsQ V ad/\X V):=fun V hV=>hi.ok (hb1.trans (hV.mono hb1.size))
 have HPT:Hid (∀ V u d u2 d2,Hid (CfgAt V b.f u d/\CfgAt V b.t u2 d2)->(V.cell? ⟨w.heap.size,0,none⟩=some (.int .i64 b.f.n)/\V.cell? ⟨w.heap.size,1,none⟩=some (.int .i64 b.f.k)/\V.cell? ⟨w.heap.size,2,none⟩=some (.slice p b.f.L.length cap)/\V.cell? ⟨w.heap.size+1,0,none⟩=some (.int .i64 b.t.n)/\V.cell? ⟨w.heap.size+1,1,none⟩=some (.int .i64 b.t.k)/\V.cell? ⟨w.heap.size+1,2,none⟩=some (.slice q b.t.L.length cap2)/\Below w1.heap.size w1 V)->Calls Tryz.prog 24 #[.int .i64 b.op,.agg #[.int .i64 b.f.n,.int .i64 b.f.k,.slice u b.f.L.length d],.agg #[.int .i64 b.t.n,.int .i64 b.t.k,.slice u2 b.t.L.length d2],.int .i64 b.config,.string b.key] V fun e w'=>∃ et eu,e=.returned (.tuple #[.pointer none,.iface et eu])/\Hid (ErrIs w' ad (.iface et eu) (carF b).1 (carF b).2)/\(w'.cell? ⟨w.heap.size,0,none⟩=some (.int .i64 b.f.n)/\w'.cell? ⟨w.heap.size,1,none⟩=some (.int .i64 b.f.k)/\w'.cell? ⟨w.heap.size,2,none⟩=some (.slice p b.f.L.length cap)/\w'.cell? ⟨w.heap.size+1,0,none⟩=some (.int .i64 b.t.n)/\w'.cell? ⟨w.heap.size+1,1,none⟩=some (.int .i64 b.t.k)/\w'.cell? ⟨w.heap.size+1,2,none⟩=some (.slice q b.t.L.length cap2)/\Below w1.heap.size w1 w')):=fun V u d u2 d2 hC hV=>(hO.new b u d u2 d2 V hC.out.1 hC.out.2 (by omega) hi.op hi.config (HOKX.out V hV.2.2.2.2.2.2).1 (HOKX.out V hV.2.2.2.2.2.2).2).mono fun e w' hq=>by
  obtain ⟨⟨ev,g1,g2⟩,g3⟩:=hq
  obtain ⟨et,eu,rfl⟩:=g1.some h6
  rcases g2 with ⟨_,g4⟩ | ⟨g4,_⟩
  ·exact ⟨et,eu,g4,g1,HS9.out w' (hV.2.2.2.2.2.2.trans (g3.mono hV.2.2.2.2.2.2.size))⟩
  ·exact absurd h6 g4
 have HC1:Hid (∀ V,Below w1.heap.size w1 V->Calls Tryz.prog 25 #[.agg #[.int .i64 b.f.n,.int .i64 b.f.k,.slice p b.f.L.length cap]] V fun e w'=>e=.returned (.agg #[.int .i64 (cfgF b.f).1,.int .i64 (cfgF b.f).2])/\Below V.heap.size V w'):=fun V hV=>rcfg_any b.f p cap V (HCFF.out V p cap ((hi.strsF.below hb1).below hV) hi.roomF hi.emptyF)
 have HC2:Hid (∀ V,Below w1.heap.size w1 V->Calls Tryz.prog 25 #[.agg #[.int .i64 b.t.n,.int .i64 b.t.k,.slice q b.t.L.length cap2]] V fun e w'=>e=.returned (.agg #[.int .i64 (cfgF b.t).1,.int .i64 (cfgF b.t).2])/\Below V.heap.size V w'):=fun V hV=>rcfg_any b.t q cap2 V (HCFT.out V q cap2 ((hi.strsT.below hb1).below hV) hi.roomT hi.emptyT)
 have HNM:Hid (∀ V,Calls Tryz.prog 26 #[.string b.key] V fun e w'=>e=.returned (.bool (isN b.key))/\w'=V):=fun V=>isName_any b.key V (by omega)
 have HBR:Hid (∀ x V,Calls Tryz.prog 27 #[.int .i64 x] V fun e w'=>e=.returned (.agg #[.int .i64 x,.int .i64 (-1)])/\Below V.heap.size V w'):=fun x V=>bare_any x V
 have HFT:Hid (∀ V et eu,Below w1.heap.size w1 V->Hid (ErrIs V ad (.iface et eu) (carF b).1 (carF b).2)->Calls Tryz.prog 12 #[.iface et eu,.agg #[.int .i64 (carF b).1,.int .i64 (carF b).2]] V fun e w'=>e=.returned (.bool true)/\Below w1.heap.size w1 w'):=fun V et eu hV he=>(faulted2_any ad (.iface et eu) (carF b).1 (carF b).2 V (hi.sent V (hb1.trans (hV.mono hb1.size))) he.out).mono fun e w' hq=>⟨hq.1,hV.trans (hq.2.mono hV.size)⟩
 rw [h1] at HL1
 rw [h2] at HL2
 rw [h4] at HMF
 have n3:decide ((100:Int) < (b.key.size:Int))=false:=decide_eq_false (by omega)
 rw [carF_b g1 g2 g3 (fun hf=>by unfold Lift.fits at hf;omega)] at HFT HPT
 dsimp only at HFT HPT
 have HC1':Hid (∀ V,Below w1.heap.size w1 V->Calls Tryz.prog 25 #[.agg #[.int .i64 b.f.n,.int .i64 b.f.k,.slice p b.f.L.length cap]] V fun e w'=>e=.returned (.agg #[.int .i64 0,.int .i64 (-1)])/\Below V.heap.size V w'):=by have:=HC1;rw [(cfgF_fine g1).2.2.1] at this;exact this
 have HC2':Hid (∀ V,Below w1.heap.size w1 V->Calls Tryz.prog 25 #[.agg #[.int .i64 b.t.n,.int .i64 b.t.k,.slice q b.t.L.length cap2]] V fun e w'=>e=.returned (.agg #[.int .i64 0,.int .i64 (-1)])/\Below V.heap.size V w'):=by have:=HC2;rw [(cfgF_fine g2).2.2.1] at this;exact this
 rw [g3] at HNM
 have n8:decide (b.op < 0)=false:=decide_eq_false g5
 have n9:decide (b.config < 0)=true:=decide_eq_true g7
 clear HC1 HC2 g1 g2 g3 g5 g7
 clear hi hO hw1 hb1 hz1 hblF hblT HCFF HCFT HOKX nf1 nf2 nt1 nt2 h1 h2 h3 h4 h6
 go_enter Tryz.func4,Tryz.ntmps4
 go_wp2_with (first | rw [<- HW1.out] | fail)
 refine HAS.mono ?_
 rintro e w2 ⟨rfl,hb2⟩
 obtain ⟨d0,d1,d2,d3,d4,d5,_⟩:=HS9.out w2 hb2
 have HB2:Hid (Below w1.heap.size w1 w2):=hb2
 clear hb2 HAS
 go_wp2_with fail
 refine (HL1.out w2 HB2.out).mono ?_
 rintro e w3 ⟨rfl,hb3⟩
 clear d0 d1 d2 d3 d4 d5
 obtain ⟨d0,d1,d2,d3,d4,d5,_⟩:=HS9.out w3 hb3
 have HB3:Hid (Below w1.heap.size w1 w3):=hb3
 clear hb3
 go_wp2_with fail
 refine (HL2.out w3 HB3.out).mono ?_
 rintro e w4 ⟨rfl,hb4⟩
 clear d0 d1 d2 d3 d4 d5
 obtain ⟨d0,d1,d2,d3,d4,d5,_⟩:=HS9.out w4 hb4
 have HB4:Hid (Below w1.heap.size w1 w4):=hb4
 clear hb4
 go_wp2_with fail
 refine (HMF.out w4 HB4.out).mono ?_
 rintro e w5 ⟨rfl,hb5⟩
 clear d0 d1 d2 d3 d4 d5
 obtain ⟨d0,d1,d2,d3,d4,d5,_⟩:=HS9.out w5 hb5
 have HB5:Hid (Below w1.heap.size w1 w5):=hb5
 clear hb5
 have HS50:=HS9.out w5.drew HB5.out.drew
 clear d0 d1 d2 d3 d4 d5 HL1 HL2 HMF
 go_wp2
 go_region_held3 (fun V=>(V.cell? ⟨w.heap.size,0,none⟩=some (.int .i64 b.f.n)/\V.cell? ⟨w.heap.size,1,none⟩=some (.int .i64 b.f.k)/\V.cell? ⟨w.heap.size,2,none⟩=some (.slice p b.f.L.length cap)/\V.cell? ⟨w.heap.size+1,0,none⟩=some (.int .i64 b.t.n)/\V.cell? ⟨w.heap.size+1,1,none⟩=some (.int .i64 b.t.k)/\V.cell? ⟨w.heap.size+1,2,none⟩=some (.slice q b.t.L.length cap2)/\Below w1.heap.size w1 V)) (first | assumption | exact HS50) (first | (go_at_call 9;with_reducible refine (HOC1.out _ (by assumption)).mono ?_;rintro e w6 ⟨u6,d6,rfl,hC6,hS6⟩) | (go_at_call 9;with_reducible refine (HOC2.out _ _ _ hC6 (by assumption)).mono ?_;rintro e w7 ⟨u7,d7,rfl,hC7,hS7⟩) | (go_at_call 24;refine (HPT.out _ _ _ _ _ hC7 (by assumption)).mono ?_;rintro e w8 ⟨et,eu,rfl,hE8,hS8⟩))
 have HB8:Hid (Below w1.heap.size w1 w8):=hS8.2.2.2.2.2.2
 obtain ⟨d0,d1,d2,d3,d4,d5,_⟩:=hS8
 have HC18:=HC1'.out w8 HB8.out
 clear HS50 hC6 hC7 hS6 hS7 HOC1 HOC2 HPT
 go_wp2_with fail
 refine HC18.mono ?_
 rintro e w9 ⟨rfl,hb9⟩
 obtain ⟨w10,hw10⟩:∃ w10,w10=w9.alloc (.cells #[.int .i64 0,.int .i64 (-1)] 39):=⟨_,rfl⟩
 have hv10:w10.heap[w9.heap.size]?=some (.cells #[.int .i64 0,.int .i64 (-1)] 39 (0,0)):=by rw [hw10];exact heap_alloc_new _ _
 have hb810:Below w8.heap.size w8 w10:=by rw [hw10];exact hb9.alloc hb9.size _
 have HG9:Hid (w8.heap.size<=w9.heap.size):=hb9.size
 have HV10:Hid (w10.heap[w9.heap.size]?=some (.cells #[.int .i64 0,.int .i64 (-1)] 39 (0,0))):=hv10
 have k0:w10.cell? ⟨w9.heap.size,0,none⟩=some (.int .i64 (0)):=(rblk_cell hv10 0).1
 have k1:w10.cell? ⟨w9.heap.size,1,none⟩=some (.int .i64 ((-1))):=(rblk_cell hv10 1).1
 have HB810:Hid (Below w8.heap.size w8 w10):=hb810
 have HW10:Hid (w10=w9.alloc (.cells #[.int .i64 0,.int .i64 (-1)] 39)):=hw10
 clear d0 d1 d2 d3 d4 d5
 obtain ⟨d0,d1,d2,d3,d4,d5,_⟩:=HS9.out w10 (HB8.out.trans (hb810.mono HB8.out.size))
 clear hw10 hb9 hv10 hb810 HC18
 go_wp2_with (first | rw [<- HW10.out] | fail)
 refine (HC2'.out w10 (HB8.out.trans (HB810.out.mono HB8.out.size))).mono ?_
 rintro e w11 ⟨rfl,hbc⟩
 clear k0 k1
 have hvc:=(hbc.block w9.heap.size (lt_of_row HV10.out)).trans HV10.out
 have k0:w11.cell? ⟨w9.heap.size,0,none⟩=some (.int .i64 (0)):=(rblk_cell hvc 0).1
 have k1:w11.cell? ⟨w9.heap.size,1,none⟩=some (.int .i64 (-1)):=(rblk_cell hvc 1).1
 have fz:∀ j,w11.frozen? ⟨w9.heap.size,j,none⟩=false:=fun j=>(rblk_cell hvc j).2
 obtain ⟨w12,hwn⟩:∃ v,v=(w11.setCell ⟨w9.heap.size,0,none⟩ (.int .i64 (0))).setCell ⟨w9.heap.size,1,none⟩ (.int .i64 (-1)):=⟨_,rfl⟩
 have hvn:w12.heap[w9.heap.size]?=some (.cells #[.int .i64 (0),.int .i64 (-1)] 39 (0,0)):=by rw [hwn];exact blk_setG (blk_setG hvc 0 _) 1 _
 have hbn:Below w8.heap.size w8 w12:=by rw [hwn];exact ((HB810.out.trans (hbc.mono HB810.out.size)).setCell (p:=⟨w9.heap.size,0,none⟩) HG9.out _).setCell (p:=⟨w9.heap.size,1,none⟩) HG9.out _
 have m0:w12.cell? ⟨w9.heap.size,0,none⟩=some (.int .i64 (0)):=(rblk_cell hvn 0).1
 have m1:w12.cell? ⟨w9.heap.size,1,none⟩=some (.int .i64 (-1)):=(rblk_cell hvn 1).1
 have HV12:Hid (w12.heap[w9.heap.size]?=some (.cells #[.int .i64 (0),.int .i64 (-1)] 39 (0,0))):=hvn
 have HB812:Hid (Below w8.heap.size w8 w12):=hbn
 have HW12:Hid (w12=(w11.setCell ⟨w9.heap.size,0,none⟩ (.int .i64 (0))).setCell ⟨w9.heap.size,1,none⟩ (.int .i64 (-1))):=hwn
 clear d0 d1 d2 d3 d4 d5
 obtain ⟨d0,d1,d2,d3,d4,d5,_⟩:=HS9.out w12 (HB8.out.trans (hbn.mono HB8.out.size))
 clear hwn hvn hbn hvc hbc
 go_wp2_with (first | rw [<- HW12.out] | fail)
 refine (HNM.out w12).mono ?_
 rintro e w13 ⟨rfl,hw13⟩
 rw [hw13]
 clear hw13 w13 k0 k1 fz
 go_wp2_with fail
 refine (HBR.out 2 w12).mono ?_
 rintro e w14 ⟨rfl,hbc⟩
 clear m0 m1
 have hvc:=(hbc.block w9.heap.size (lt_of_row HV12.out)).trans HV12.out
 have k0:w14.cell? ⟨w9.heap.size,0,none⟩=some (.int .i64 (0)):=(rblk_cell hvc 0).1
 have k1:w14.cell? ⟨w9.heap.size,1,none⟩=some (.int .i64 (-1)):=(rblk_cell hvc 1).1
 have fz:∀ j,w14.frozen? ⟨w9.heap.size,j,none⟩=false:=fun j=>(rblk_cell hvc j).2
 obtain ⟨w15,hwn⟩:∃ v,v=(w14.setCell ⟨w9.heap.size,0,none⟩ (.int .i64 (2))).setCell ⟨w9.heap.size,1,none⟩ (.int .i64 (-1)):=⟨_,rfl⟩
 have hvn:w15.heap[w9.heap.size]?=some (.cells #[.int .i64 (2),.int .i64 (-1)] 39 (0,0)):=by rw [hwn];exact blk_setG (blk_setG hvc 0 _) 1 _
 have hbn:Below w8.heap.size w8 w15:=by rw [hwn];exact ((HB812.out.trans (hbc.mono HB812.out.size)).setCell (p:=⟨w9.heap.size,0,none⟩) HG9.out _).setCell (p:=⟨w9.heap.size,1,none⟩) HG9.out _
 have m0:w15.cell? ⟨w9.heap.size,0,none⟩=some (.int .i64 (2)):=(rblk_cell hvn 0).1
 have m1:w15.cell? ⟨w9.heap.size,1,none⟩=some (.int .i64 (-1)):=(rblk_cell hvn 1).1
 have HV15:Hid (w15.heap[w9.heap.size]?=some (.cells #[.int .i64 (2),.int .i64 (-1)] 39 (0,0))):=hvn
 have HB815:Hid (Below w8.heap.size w8 w15):=hbn
 have HW15:Hid (w15=(w14.setCell ⟨w9.heap.size,0,none⟩ (.int .i64 (2))).setCell ⟨w9.heap.size,1,none⟩ (.int .i64 (-1))):=hwn
 clear d0 d1 d2 d3 d4 d5
 obtain ⟨d0,d1,d2,d3,d4,d5,_⟩:=HS9.out w15 (HB8.out.trans (hbn.mono HB8.out.size))
 clear hwn hvn hbn hvc hbc
 go_wp2_with (first | rw [<- HW15.out] | fail)
 have HE9:=hE8.out.below HB815.out
 refine (HFT.out w15 et eu (HB8.out.trans (HB815.out.mono HB8.out.size)) HE9).mono ?_
 rintro e w20 ⟨rfl,hb20⟩
 have HB20:Hid (Below w.heap.size w w20):=HB1.out.trans (hb20.mono HB1.out.size)
 clear hb20
 go_wp2
 go_ret
 exact ⟨rfl,HB20.out⟩
set_option maxRecDepth 10000 in
set_option maxHeartbeats 8000000 in
theorem carryHears_badM (hO:CarryOk ad X Ck) (b:Lift) (p:Option Addr) (cap:Nat) (q:Option Addr) (cap2:Nat) (l:List Msg) (lp:Option Addr) (lcap:Nat) (w:World) (hi:LiftIn ad X b p cap q cap2 l lp w) (h1:longC b.f=false) (h2:longC b.t=false) (h3:¬ 100 < b.key.size) (h4:fitsM l=true) (g1:¬ 0 < (cfgF b.f).1) (g2:¬ 0 < (cfgF b.t).1) (g3:isN b.key=true) (g5:¬ b.op < 0) (g7:¬ b.config < 0) (g8:b.config=9223372036854775807):Calls Tryz.prog 4 #[.int .i64 b.op,.agg #[.int .i64 b.f.n,.int .i64 b.f.k,.slice p b.f.L.length cap],.agg #[.int .i64 b.t.n,.int .i64 b.t.k,.slice q b.t.L.length cap2],.int .i64 b.config,.string b.key,.slice lp l.length lcap] w fun e w'=>e=.returned (.bool true)/\Below w.heap.size w w':=by
 have h6:0 < (carF b).1:=by rw [carF_b g1 g2 g3 (fun hf=>by unfold Lift.fits at hf;omega)];decide
 obtain ⟨w1,hw1⟩:∃ w1,w1=(w.alloc (.cells #[.int .i64 b.f.n,.int .i64 b.f.k,.slice p b.f.L.length cap] 24)).alloc (.cells #[.int .i64 b.t.n,.int .i64 b.t.k,.slice q b.t.L.length cap2] 24):=⟨_,rfl⟩
 have hb1:Below w.heap.size w w1:=by rw [hw1];exact ((Below.refl _ _).alloc (Nat.le_refl _) _).alloc (by simp) _
 have hz1:w1.heap.size=w.heap.size+2:=by rw [hw1];simp
 have hblF:w1.heap[w.heap.size]?=some (.cells #[.int .i64 b.f.n,.int .i64 b.f.k,.slice p b.f.L.length cap] 24 (0,0)):=by rw [hw1,heap_alloc_old _ _ (by simp)];exact heap_alloc_new _ _
 have hblT:w1.heap[w.heap.size+1]?=some (.cells #[.int .i64 b.t.n,.int .i64 b.t.k,.slice q b.t.L.length cap2] 24 (0,0)):=by
  have e:w.heap.size+1=(w.alloc (.cells #[.int .i64 b.f.n,.int .i64 b.f.k,.slice p b.f.L.length cap] 24)).heap.size:=by simp
  rw [hw1,e]
  exact heap_alloc_new _ _
 have HS9:Hid (∀ V,Below w1.heap.size w1 V->(V.cell? ⟨w.heap.size,0,none⟩=some (.int .i64 b.f.n)/\V.cell? ⟨w.heap.size,1,none⟩=some (.int .i64 b.f.k)/\V.cell? ⟨w.heap.size,2,none⟩=some (.slice p b.f.L.length cap)/\V.cell? ⟨w.heap.size+1,0,none⟩=some (.int .i64 b.t.n)/\V.cell? ⟨w.heap.size+1,1,none⟩=some (.int .i64 b.t.k)/\V.cell? ⟨w.heap.size+1,2,none⟩=some (.slice q b.t.L.length cap2)/\Below w1.heap.size w1 V)):=fun V hV=>by
  have hF:=(hV.block _ (by omega)).trans hblF
  have hT:=(hV.block _ (by omega)).trans hblT
  exact ⟨(rblk_cell hF 0).1,(rblk_cell hF 1).1,(rblk_cell hF 2).1,(rblk_cell hT 0).1,(rblk_cell hT 1).1,(rblk_cell hT 2).1,hV⟩
 have HAS:=carried_any hO w1 (fun V hV=>(hi.ok (hb1.trans (hV.mono hb1.size))).1) (fun V hV=>(hi.ok (hb1.trans (hV.mono hb1.size))).2)
 have HL1:Hid (∀ V,Below w1.heap.size w1 V->Calls Tryz.prog 6 #[.agg #[.int .i64 b.f.n,.int .i64 b.f.k,.slice p b.f.L.length cap]] V fun e w'=>e=.returned (.bool (longC b.f))/\Below w1.heap.size w1 w'):=fun V hV=>(longConfig_any b.f p cap V hi.lenF hi.sizeF ((hi.strsF.below hb1).below hV)).mono fun e w' hq=>⟨hq.1,hV.trans (hq.2.mono hV.size)⟩
 have HL2:Hid (∀ V,Below w1.heap.size w1 V->Calls Tryz.prog 6 #[.agg #[.int .i64 b.t.n,.int .i64 b.t.k,.slice q b.t.L.length cap2]] V fun e w'=>e=.returned (.bool (longC b.t))/\Below w1.heap.size w1 w'):=fun V hV=>(longConfig_any b.t q cap2 V hi.lenT hi.sizeT ((hi.strsT.below hb1).below hV)).mono fun e w' hq=>⟨hq.1,hV.trans (hq.2.mono hV.size)⟩
 have HMF:Hid (∀ V,Below w1.heap.size w1 V->Calls Tryz.prog 7 #[.slice lp l.length lcap] V fun e w'=>e=.returned (.bool (fitsM l))/\Below w1.heap.size w1 w'):=fun V hV=>(messagesFit_any lp l lcap V hi.much ((hi.msgs.below hb1).below hV)).mono fun e w' hq=>⟨hq.1,hV.trans (hq.2.mono hV.size)⟩
 have HW1:Hid (w1=(w.alloc (.cells #[.int .i64 b.f.n,.int .i64 b.f.k,.slice p b.f.L.length cap] 24)).alloc (.cells #[.int .i64 b.t.n,.int .i64 b.t.k,.slice q b.t.L.length cap2] 24)):=hw1
 have HB1:Hid (Below w.heap.size w w1):=hb1
 obtain ⟨nf1,nf2⟩:=longC_fine h1
 obtain ⟨nt1,nt2⟩:=longC_fine h2
 have HCFF:Hid (∀ V u d,Strs V u b.f.L->b.f.L.length<=d->(u=none->b.f.L=[]/\d=0)->CfgAt V b.f u d):=fun V u d g1 g2 g3=>cfgAt_of g1 g2 g3 h1 hi.intsF
 have HCFT:Hid (∀ V u d,Strs V u b.t.L->b.t.L.length<=d->(u=none->b.t.L=[]/\d=0)->CfgAt V b.t u d):=fun V u d g1 g2 g3=>cfgAt_of g1 g2 g3 h2 hi.intsT
 have HOC1:Hid (∀ V,(V.cell? ⟨w.heap.size,0,none⟩=some (.int .i64 b.f.n)/\V.cell? ⟨w.heap.size,1,none⟩=some (.int .i64 b.f.k)/\V.cell? ⟨w.heap.size,2,none⟩=some (.slice p b.f.L.length cap)/\V.cell? ⟨w.heap.size+1,0,none⟩=some (.int .i64 b.t.n)/\V.cell? ⟨w.heap.size+1,1,none⟩=some (.int .i64 b.t.k)/\V.cell? ⟨w.heap.size+1,2,none⟩=some (.slice q b.t.L.length cap2)/\Below w1.heap.size w1 V)->Calls Tryz.prog 9 #[.agg #[.int .i64 b.f.n,.int .i64 b.f.k,.slice p b.f.L.length cap]] V fun e w'=>∃ u d,e=.returned (.agg #[.int .i64 b.f.n,.int .i64 b.f.k,.slice u b.f.L.length d])/\Hid (CfgAt w' b.f u d)/\(w'.cell? ⟨w.heap.size,0,none⟩=some (.int .i64 b.f.n)/\w'.cell? ⟨w.heap.size,1,none⟩=some (.int .i64 b.f.k)/\w'.cell? ⟨w.heap.size,2,none⟩=some (.slice p b.f.L.length cap)/\w'.cell? ⟨w.heap.size+1,0,none⟩=some (.int .i64 b.t.n)/\w'.cell? ⟨w.heap.size+1,1,none⟩=some (.int .i64 b.t.k)/\w'.cell? ⟨w.heap.size+1,2,none⟩=some (.slice q b.t.L.length cap2)/\Below w1.heap.size w1 w')):=fun V hV=>(ownConfig_any b.f p cap V (by omega) ((hi.strsF.below hb1).below hV.2.2.2.2.2.2) hi.emptyF).mono fun e w' hq=>by
  obtain ⟨⟨u,d,e1,e2,e3,e4⟩,e5⟩:=hq
  exact ⟨u,d,e1,HCFF.out w' u d e2 e3 e4,HS9.out w' (hV.2.2.2.2.2.2.trans (e5.mono hV.2.2.2.2.2.2.size))⟩
 have HOC2:Hid (∀ V u d,Hid (CfgAt V b.f u d)->(V.cell? ⟨w.heap.size,0,none⟩=some (.int .i64 b.f.n)/\V.cell? ⟨w.heap.size,1,none⟩=some (.int .i64 b.f.k)/\V.cell? ⟨w.heap.size,2,none⟩=some (.slice p b.f.L.length cap)/\V.cell? ⟨w.heap.size+1,0,none⟩=some (.int .i64 b.t.n)/\V.cell? ⟨w.heap.size+1,1,none⟩=some (.int .i64 b.t.k)/\V.cell? ⟨w.heap.size+1,2,none⟩=some (.slice q b.t.L.length cap2)/\Below w1.heap.size w1 V)->Calls Tryz.prog 9 #[.agg #[.int .i64 b.t.n,.int .i64 b.t.k,.slice q b.t.L.length cap2]] V fun e w'=>∃ u2 d2,e=.returned (.agg #[.int .i64 b.t.n,.int .i64 b.t.k,.slice u2 b.t.L.length d2])/\Hid (CfgAt w' b.f u d/\CfgAt w' b.t u2 d2)/\(w'.cell? ⟨w.heap.size,0,none⟩=some (.int .i64 b.f.n)/\w'.cell? ⟨w.heap.size,1,none⟩=some (.int .i64 b.f.k)/\w'.cell? ⟨w.heap.size,2,none⟩=some (.slice p b.f.L.length cap)/\w'.cell? ⟨w.heap.size+1,0,none⟩=some (.int .i64 b.t.n)/\w'.cell? ⟨w.heap.size+1,1,none⟩=some (.int .i64 b.t.k)/\w'.cell? ⟨w.heap.size+1,2,none⟩=some (.slice q b.t.L.length cap2)/\Below w1.heap.size w1 w')):=fun V u d hC hV=>(ownConfig_any b.t q cap2 V (by omega) ((hi.strsT.below hb1).below hV.2.2.2.2.2.2) hi.emptyT).mono fun e w' hq=>by
  obtain ⟨⟨u2,d2,e1,e2,e3,e4⟩,e5⟩:=hq
  exact ⟨u2,d2,e1,⟨hC.out.below e5,HCFT.out w' u2 d2 e2 e3 e4⟩,HS9.out w' (hV.2.2.2.2.2.2.trans (e5.mono hV.2.2.2.2.2.2.size))⟩
 have HOKX:Hid (∀ V,Below w1.heap.size w1 V->ErrsQ V ad/\X V):=fun V hV=>hi.ok (hb1.trans (hV.mono hb1.size))
 have HPT:Hid (∀ V u d u2 d2,Hid (CfgAt V b.f u d/\CfgAt V b.t u2 d2)->(V.cell? ⟨w.heap.size,0,none⟩=some (.int .i64 b.f.n)/\V.cell? ⟨w.heap.size,1,none⟩=some (.int .i64 b.f.k)/\V.cell? ⟨w.heap.size,2,none⟩=some (.slice p b.f.L.length cap)/\V.cell? ⟨w.heap.size+1,0,none⟩=some (.int .i64 b.t.n)/\V.cell? ⟨w.heap.size+1,1,none⟩=some (.int .i64 b.t.k)/\V.cell? ⟨w.heap.size+1,2,none⟩=some (.slice q b.t.L.length cap2)/\Below w1.heap.size w1 V)->Calls Tryz.prog 24 #[.int .i64 b.op,.agg #[.int .i64 b.f.n,.int .i64 b.f.k,.slice u b.f.L.length d],.agg #[.int .i64 b.t.n,.int .i64 b.t.k,.slice u2 b.t.L.length d2],.int .i64 b.config,.string b.key] V fun e w'=>∃ et eu,e=.returned (.tuple #[.pointer none,.iface et eu])/\Hid (ErrIs w' ad (.iface et eu) (carF b).1 (carF b).2)/\(w'.cell? ⟨w.heap.size,0,none⟩=some (.int .i64 b.f.n)/\w'.cell? ⟨w.heap.size,1,none⟩=some (.int .i64 b.f.k)/\w'.cell? ⟨w.heap.size,2,none⟩=some (.slice p b.f.L.length cap)/\w'.cell? ⟨w.heap.size+1,0,none⟩=some (.int .i64 b.t.n)/\w'.cell? ⟨w.heap.size+1,1,none⟩=some (.int .i64 b.t.k)/\w'.cell? ⟨w.heap.size+1,2,none⟩=some (.slice q b.t.L.length cap2)/\Below w1.heap.size w1 w')):=fun V u d u2 d2 hC hV=>(hO.new b u d u2 d2 V hC.out.1 hC.out.2 (by omega) hi.op hi.config (HOKX.out V hV.2.2.2.2.2.2).1 (HOKX.out V hV.2.2.2.2.2.2).2).mono fun e w' hq=>by
  obtain ⟨⟨ev,g1,g2⟩,g3⟩:=hq
  obtain ⟨et,eu,rfl⟩:=g1.some h6
  rcases g2 with ⟨_,g4⟩ | ⟨g4,_⟩
  ·exact ⟨et,eu,g4,g1,HS9.out w' (hV.2.2.2.2.2.2.trans (g3.mono hV.2.2.2.2.2.2.size))⟩
  ·exact absurd h6 g4
 have HC1:Hid (∀ V,Below w1.heap.size w1 V->Calls Tryz.prog 25 #[.agg #[.int .i64 b.f.n,.int .i64 b.f.k,.slice p b.f.L.length cap]] V fun e w'=>e=.returned (.agg #[.int .i64 (cfgF b.f).1,.int .i64 (cfgF b.f).2])/\Below V.heap.size V w'):=fun V hV=>rcfg_any b.f p cap V (HCFF.out V p cap ((hi.strsF.below hb1).below hV) hi.roomF hi.emptyF)
 have HC2:Hid (∀ V,Below w1.heap.size w1 V->Calls Tryz.prog 25 #[.agg #[.int .i64 b.t.n,.int .i64 b.t.k,.slice q b.t.L.length cap2]] V fun e w'=>e=.returned (.agg #[.int .i64 (cfgF b.t).1,.int .i64 (cfgF b.t).2])/\Below V.heap.size V w'):=fun V hV=>rcfg_any b.t q cap2 V (HCFT.out V q cap2 ((hi.strsT.below hb1).below hV) hi.roomT hi.emptyT)
 have HNM:Hid (∀ V,Calls Tryz.prog 26 #[.string b.key] V fun e w'=>e=.returned (.bool (isN b.key))/\w'=V):=fun V=>isName_any b.key V (by omega)
 have HBR:Hid (∀ x V,Calls Tryz.prog 27 #[.int .i64 x] V fun e w'=>e=.returned (.agg #[.int .i64 x,.int .i64 (-1)])/\Below V.heap.size V w'):=fun x V=>bare_any x V
 have HFT:Hid (∀ V et eu,Below w1.heap.size w1 V->Hid (ErrIs V ad (.iface et eu) (carF b).1 (carF b).2)->Calls Tryz.prog 12 #[.iface et eu,.agg #[.int .i64 (carF b).1,.int .i64 (carF b).2]] V fun e w'=>e=.returned (.bool true)/\Below w1.heap.size w1 w'):=fun V et eu hV he=>(faulted2_any ad (.iface et eu) (carF b).1 (carF b).2 V (hi.sent V (hb1.trans (hV.mono hb1.size))) he.out).mono fun e w' hq=>⟨hq.1,hV.trans (hq.2.mono hV.size)⟩
 rw [h1] at HL1
 rw [h2] at HL2
 rw [h4] at HMF
 have n3:decide ((100:Int) < (b.key.size:Int))=false:=decide_eq_false (by omega)
 rw [carF_b g1 g2 g3 (fun hf=>by unfold Lift.fits at hf;omega)] at HFT HPT
 dsimp only at HFT HPT
 have HC1':Hid (∀ V,Below w1.heap.size w1 V->Calls Tryz.prog 25 #[.agg #[.int .i64 b.f.n,.int .i64 b.f.k,.slice p b.f.L.length cap]] V fun e w'=>e=.returned (.agg #[.int .i64 0,.int .i64 (-1)])/\Below V.heap.size V w'):=by have:=HC1;rw [(cfgF_fine g1).2.2.1] at this;exact this
 have HC2':Hid (∀ V,Below w1.heap.size w1 V->Calls Tryz.prog 25 #[.agg #[.int .i64 b.t.n,.int .i64 b.t.k,.slice q b.t.L.length cap2]] V fun e w'=>e=.returned (.agg #[.int .i64 0,.int .i64 (-1)])/\Below V.heap.size V w'):=by have:=HC2;rw [(cfgF_fine g2).2.2.1] at this;exact this
 rw [g3] at HNM
 have n8:decide (b.op < 0)=false:=decide_eq_false g5
 have n9:decide (b.config < 0)=false:=decide_eq_false g7
 have n10:(b.config==9223372036854775807)=true:=by rw [g8];decide
 clear HC1 HC2 g1 g2 g3 g5 g7 g8
 clear hi hO hw1 hb1 hz1 hblF hblT HCFF HCFT HOKX nf1 nf2 nt1 nt2 h1 h2 h3 h4 h6
 go_enter Tryz.func4,Tryz.ntmps4
 go_wp2_with (first | rw [<- HW1.out] | fail)
 refine HAS.mono ?_
 rintro e w2 ⟨rfl,hb2⟩
 obtain ⟨d0,d1,d2,d3,d4,d5,_⟩:=HS9.out w2 hb2
 have HB2:Hid (Below w1.heap.size w1 w2):=hb2
 clear hb2 HAS
 go_wp2_with fail
 refine (HL1.out w2 HB2.out).mono ?_
 rintro e w3 ⟨rfl,hb3⟩
 clear d0 d1 d2 d3 d4 d5
 obtain ⟨d0,d1,d2,d3,d4,d5,_⟩:=HS9.out w3 hb3
 have HB3:Hid (Below w1.heap.size w1 w3):=hb3
 clear hb3
 go_wp2_with fail
 refine (HL2.out w3 HB3.out).mono ?_
 rintro e w4 ⟨rfl,hb4⟩
 clear d0 d1 d2 d3 d4 d5
 obtain ⟨d0,d1,d2,d3,d4,d5,_⟩:=HS9.out w4 hb4
 have HB4:Hid (Below w1.heap.size w1 w4):=hb4
 clear hb4
 go_wp2_with fail
 refine (HMF.out w4 HB4.out).mono ?_
 rintro e w5 ⟨rfl,hb5⟩
 clear d0 d1 d2 d3 d4 d5
 obtain ⟨d0,d1,d2,d3,d4,d5,_⟩:=HS9.out w5 hb5
 have HB5:Hid (Below w1.heap.size w1 w5):=hb5
 clear hb5
 have HS50:=HS9.out w5.drew HB5.out.drew
 clear d0 d1 d2 d3 d4 d5 HL1 HL2 HMF
 go_wp2
 go_region_held3 (fun V=>(V.cell? ⟨w.heap.size,0,none⟩=some (.int .i64 b.f.n)/\V.cell? ⟨w.heap.size,1,none⟩=some (.int .i64 b.f.k)/\V.cell? ⟨w.heap.size,2,none⟩=some (.slice p b.f.L.length cap)/\V.cell? ⟨w.heap.size+1,0,none⟩=some (.int .i64 b.t.n)/\V.cell? ⟨w.heap.size+1,1,none⟩=some (.int .i64 b.t.k)/\V.cell? ⟨w.heap.size+1,2,none⟩=some (.slice q b.t.L.length cap2)/\Below w1.heap.size w1 V)) (first | assumption | exact HS50) (first | (go_at_call 9;with_reducible refine (HOC1.out _ (by assumption)).mono ?_;rintro e w6 ⟨u6,d6,rfl,hC6,hS6⟩) | (go_at_call 9;with_reducible refine (HOC2.out _ _ _ hC6 (by assumption)).mono ?_;rintro e w7 ⟨u7,d7,rfl,hC7,hS7⟩) | (go_at_call 24;refine (HPT.out _ _ _ _ _ hC7 (by assumption)).mono ?_;rintro e w8 ⟨et,eu,rfl,hE8,hS8⟩))
 have HB8:Hid (Below w1.heap.size w1 w8):=hS8.2.2.2.2.2.2
 obtain ⟨d0,d1,d2,d3,d4,d5,_⟩:=hS8
 have HC18:=HC1'.out w8 HB8.out
 clear HS50 hC6 hC7 hS6 hS7 HOC1 HOC2 HPT
 go_wp2_with fail
 refine HC18.mono ?_
 rintro e w9 ⟨rfl,hb9⟩
 obtain ⟨w10,hw10⟩:∃ w10,w10=w9.alloc (.cells #[.int .i64 0,.int .i64 (-1)] 39):=⟨_,rfl⟩
 have hv10:w10.heap[w9.heap.size]?=some (.cells #[.int .i64 0,.int .i64 (-1)] 39 (0,0)):=by rw [hw10];exact heap_alloc_new _ _
 have hb810:Below w8.heap.size w8 w10:=by rw [hw10];exact hb9.alloc hb9.size _
 have HG9:Hid (w8.heap.size<=w9.heap.size):=hb9.size
 have HV10:Hid (w10.heap[w9.heap.size]?=some (.cells #[.int .i64 0,.int .i64 (-1)] 39 (0,0))):=hv10
 have k0:w10.cell? ⟨w9.heap.size,0,none⟩=some (.int .i64 (0)):=(rblk_cell hv10 0).1
 have k1:w10.cell? ⟨w9.heap.size,1,none⟩=some (.int .i64 ((-1))):=(rblk_cell hv10 1).1
 have HB810:Hid (Below w8.heap.size w8 w10):=hb810
 have HW10:Hid (w10=w9.alloc (.cells #[.int .i64 0,.int .i64 (-1)] 39)):=hw10
 clear d0 d1 d2 d3 d4 d5
 obtain ⟨d0,d1,d2,d3,d4,d5,_⟩:=HS9.out w10 (HB8.out.trans (hb810.mono HB8.out.size))
 clear hw10 hb9 hv10 hb810 HC18
 go_wp2_with (first | rw [<- HW10.out] | fail)
 refine (HC2'.out w10 (HB8.out.trans (HB810.out.mono HB8.out.size))).mono ?_
 rintro e w11 ⟨rfl,hbc⟩
 clear k0 k1
 have hvc:=(hbc.block w9.heap.size (lt_of_row HV10.out)).trans HV10.out
 have k0:w11.cell? ⟨w9.heap.size,0,none⟩=some (.int .i64 (0)):=(rblk_cell hvc 0).1
 have k1:w11.cell? ⟨w9.heap.size,1,none⟩=some (.int .i64 (-1)):=(rblk_cell hvc 1).1
 have fz:∀ j,w11.frozen? ⟨w9.heap.size,j,none⟩=false:=fun j=>(rblk_cell hvc j).2
 obtain ⟨w12,hwn⟩:∃ v,v=(w11.setCell ⟨w9.heap.size,0,none⟩ (.int .i64 (0))).setCell ⟨w9.heap.size,1,none⟩ (.int .i64 (-1)):=⟨_,rfl⟩
 have hvn:w12.heap[w9.heap.size]?=some (.cells #[.int .i64 (0),.int .i64 (-1)] 39 (0,0)):=by rw [hwn];exact blk_setG (blk_setG hvc 0 _) 1 _
 have hbn:Below w8.heap.size w8 w12:=by rw [hwn];exact ((HB810.out.trans (hbc.mono HB810.out.size)).setCell (p:=⟨w9.heap.size,0,none⟩) HG9.out _).setCell (p:=⟨w9.heap.size,1,none⟩) HG9.out _
 have m0:w12.cell? ⟨w9.heap.size,0,none⟩=some (.int .i64 (0)):=(rblk_cell hvn 0).1
 have m1:w12.cell? ⟨w9.heap.size,1,none⟩=some (.int .i64 (-1)):=(rblk_cell hvn 1).1
 have HV12:Hid (w12.heap[w9.heap.size]?=some (.cells #[.int .i64 (0),.int .i64 (-1)] 39 (0,0))):=hvn
 have HB812:Hid (Below w8.heap.size w8 w12):=hbn
 have HW12:Hid (w12=(w11.setCell ⟨w9.heap.size,0,none⟩ (.int .i64 (0))).setCell ⟨w9.heap.size,1,none⟩ (.int .i64 (-1))):=hwn
 clear d0 d1 d2 d3 d4 d5
 obtain ⟨d0,d1,d2,d3,d4,d5,_⟩:=HS9.out w12 (HB8.out.trans (hbn.mono HB8.out.size))
 clear hwn hvn hbn hvc hbc
 go_wp2_with (first | rw [<- HW12.out] | fail)
 refine (HNM.out w12).mono ?_
 rintro e w13 ⟨rfl,hw13⟩
 rw [hw13]
 clear hw13 w13 k0 k1 fz
 go_wp2_with fail
 refine (HBR.out 2 w12).mono ?_
 rintro e w14 ⟨rfl,hbc⟩
 clear m0 m1
 have hvc:=(hbc.block w9.heap.size (lt_of_row HV12.out)).trans HV12.out
 have k0:w14.cell? ⟨w9.heap.size,0,none⟩=some (.int .i64 (0)):=(rblk_cell hvc 0).1
 have k1:w14.cell? ⟨w9.heap.size,1,none⟩=some (.int .i64 (-1)):=(rblk_cell hvc 1).1
 have fz:∀ j,w14.frozen? ⟨w9.heap.size,j,none⟩=false:=fun j=>(rblk_cell hvc j).2
 obtain ⟨w15,hwn⟩:∃ v,v=(w14.setCell ⟨w9.heap.size,0,none⟩ (.int .i64 (2))).setCell ⟨w9.heap.size,1,none⟩ (.int .i64 (-1)):=⟨_,rfl⟩
 have hvn:w15.heap[w9.heap.size]?=some (.cells #[.int .i64 (2),.int .i64 (-1)] 39 (0,0)):=by rw [hwn];exact blk_setG (blk_setG hvc 0 _) 1 _
 have hbn:Below w8.heap.size w8 w15:=by rw [hwn];exact ((HB812.out.trans (hbc.mono HB812.out.size)).setCell (p:=⟨w9.heap.size,0,none⟩) HG9.out _).setCell (p:=⟨w9.heap.size,1,none⟩) HG9.out _
 have m0:w15.cell? ⟨w9.heap.size,0,none⟩=some (.int .i64 (2)):=(rblk_cell hvn 0).1
 have m1:w15.cell? ⟨w9.heap.size,1,none⟩=some (.int .i64 (-1)):=(rblk_cell hvn 1).1
 have HV15:Hid (w15.heap[w9.heap.size]?=some (.cells #[.int .i64 (2),.int .i64 (-1)] 39 (0,0))):=hvn
 have HB815:Hid (Below w8.heap.size w8 w15):=hbn
 have HW15:Hid (w15=(w14.setCell ⟨w9.heap.size,0,none⟩ (.int .i64 (2))).setCell ⟨w9.heap.size,1,none⟩ (.int .i64 (-1))):=hwn
 clear d0 d1 d2 d3 d4 d5
 obtain ⟨d0,d1,d2,d3,d4,d5,_⟩:=HS9.out w15 (HB8.out.trans (hbn.mono HB8.out.size))
 clear hwn hvn hbn hvc hbc
 go_wp2_with (first | rw [<- HW15.out] | fail)
 have HE9:=hE8.out.below HB815.out
 refine (HFT.out w15 et eu (HB8.out.trans (HB815.out.mono HB8.out.size)) HE9).mono ?_
 rintro e w20 ⟨rfl,hb20⟩
 have HB20:Hid (Below w.heap.size w w20):=HB1.out.trans (hb20.mono HB1.out.size)
 clear hb20
 go_wp2
 go_ret
 exact ⟨rfl,HB20.out⟩
end Go.Proofs.YtmhoiodfppdlnaaGreatDoor
