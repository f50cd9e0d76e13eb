import Derived.Test.YtmhoiodfppdlnaaGreatDoorCy41
import Derived.Test.YtmhoiodfppdlnaaGreatDoorCy18
import Derived.Test.YtmhoiodfppdlnaaGreatDoorCy6
import Derived.Test.YtmhoiodfppdlnaaGreatDoorCy7
import Derived.Test.YtmhoiodfppdlnaaGreatDoorCy21
import Derived.Deep.RegionHeld3
import Derived.Deep.CutRange
import Derived.BigQuiet
namespace Go.Proofs.YtmhoiodfppdlnaaGreatDoor
open Go.RowKit
variable {ad:Nat->Addr} {X:World->Prop} {Ck:World->Nat->Nat->(Nat->Prop)->MAsk->Prop}
structure LiftIn (ad:Nat->Addr) (X:World->Prop) (b:Lift) (p:Option Addr) (cap:Nat) (q:Option Addr) (cap2:Nat) (l:List Msg) (lp:Option Addr) (w:World):Prop where
 errs:∀ V:World,w.heap.size<=V.heap.size->(∀ k,k < w.heap.size->V.heap[k]?=w.heap[k]?)->ErrsQ V ad/\X V
 sent:∀ V:World,Below w.heap.size w V->Sent V ad
 strsF:Strs w p b.f.L
 roomF:b.f.L.length<=cap
 emptyF:p=none->b.f.L=[]/\cap=0
 intsF:CfgIn b.f
 lenF:b.f.L.length<=maxLen
 sizeF:∀ x ∈ b.f.L,x.size<=maxLen
 strsT:Strs w q b.t.L
 roomT:b.t.L.length<=cap2
 emptyT:q=none->b.t.L=[]/\cap2=0
 intsT:CfgIn b.t
 lenT:b.t.L.length<=maxLen
 sizeT:∀ x ∈ b.t.L,x.size<=maxLen
 op:I64 b.op
 config:I64 b.config
 much:weighM l<=4611686018427387904
 msgs:MsgsAt w lp l
 vers:∀ m ∈ l,∀ v ∈ m.L,VerI64 v
theorem LiftIn.ok {b:Lift} {p q:Option Addr} {cap cap2:Nat} {l:List Msg} {lp:Option Addr} {w V:World} (h:LiftIn ad X b p cap q cap2 l lp w) (hb:Below w.heap.size w V):ErrsQ V ad/\X V:=h.errs V hb.size (fun k hk=>hb.block k hk)
set_option maxRecDepth 10000 in
set_option maxHeartbeats 8000000 in
theorem carryHears_longF (hO:CarryOk ad X Ck) (b:Lift) (p:Option Addr) (cap:Nat) (q:Option Addr) (cap2:Nat) (l:List Msg) (lp:Option Addr) (lcap:Nat) (w:World) (hi:LiftIn ad X b p cap q cap2 l lp w) (h1:longC b.f=true):Calls Tryz.prog 4 #[.int .i64 b.op,.agg #[.int .i64 b.f.n,.int .i64 b.f.k,.slice p b.f.L.length cap],.agg #[.int .i64 b.t.n,.int .i64 b.t.k,.slice q b.t.L.length cap2],.int .i64 b.config,.string b.key,.slice lp l.length lcap] w fun e w'=>e=.returned (.bool true)/\Below w.heap.size w w':=by
 obtain ⟨w1,hw1⟩:∃ w1,w1=(w.alloc (.cells #[.int .i64 b.f.n,.int .i64 b.f.k,.slice p b.f.L.length cap] 24)).alloc (.cells #[.int .i64 b.t.n,.int .i64 b.t.k,.slice q b.t.L.length cap2] 24):=⟨_,rfl⟩
 have hb1:Below w.heap.size w w1:=by rw [hw1];exact ((Below.refl _ _).alloc (Nat.le_refl _) _).alloc (by simp) _
 have hz1:w1.heap.size=w.heap.size+2:=by rw [hw1];simp
 have hblF:w1.heap[w.heap.size]?=some (.cells #[.int .i64 b.f.n,.int .i64 b.f.k,.slice p b.f.L.length cap] 24 (0,0)):=by rw [hw1,heap_alloc_old _ _ (by simp)];exact heap_alloc_new _ _
 have hblT:w1.heap[w.heap.size+1]?=some (.cells #[.int .i64 b.t.n,.int .i64 b.t.k,.slice q b.t.L.length cap2] 24 (0,0)):=by
  have e:w.heap.size+1=(w.alloc (.cells #[.int .i64 b.f.n,.int .i64 b.f.k,.slice p b.f.L.length cap] 24)).heap.size:=by simp
  rw [hw1,e]
  exact heap_alloc_new _ _
 have HS9:Hid (∀ V,Below w1.heap.size w1 V->(V.cell? ⟨w.heap.size,0,none⟩=some (.int .i64 b.f.n)/\V.cell? ⟨w.heap.size,1,none⟩=some (.int .i64 b.f.k)/\V.cell? ⟨w.heap.size,2,none⟩=some (.slice p b.f.L.length cap)/\V.cell? ⟨w.heap.size+1,0,none⟩=some (.int .i64 b.t.n)/\V.cell? ⟨w.heap.size+1,1,none⟩=some (.int .i64 b.t.k)/\V.cell? ⟨w.heap.size+1,2,none⟩=some (.slice q b.t.L.length cap2)/\Below w1.heap.size w1 V)):=fun V hV=>by
  have hF:=(hV.block _ (by omega)).trans hblF
  have hT:=(hV.block _ (by omega)).trans hblT
  exact ⟨(rblk_cell hF 0).1,(rblk_cell hF 1).1,(rblk_cell hF 2).1,(rblk_cell hT 0).1,(rblk_cell hT 1).1,(rblk_cell hT 2).1,hV⟩
 have HAS:=carried_any hO w1 (fun V hV=>(hi.ok (hb1.trans (hV.mono hb1.size))).1) (fun V hV=>(hi.ok (hb1.trans (hV.mono hb1.size))).2)
 have HL1:Hid (∀ V,Below w1.heap.size w1 V->Calls Tryz.prog 6 #[.agg #[.int .i64 b.f.n,.int .i64 b.f.k,.slice p b.f.L.length cap]] V fun e w'=>e=.returned (.bool (longC b.f))/\Below w1.heap.size w1 w'):=fun V hV=>(longConfig_any b.f p cap V hi.lenF hi.sizeF ((hi.strsF.below hb1).below hV)).mono fun e w' hq=>⟨hq.1,hV.trans (hq.2.mono hV.size)⟩
 have HL2:Hid (∀ V,Below w1.heap.size w1 V->Calls Tryz.prog 6 #[.agg #[.int .i64 b.t.n,.int .i64 b.t.k,.slice q b.t.L.length cap2]] V fun e w'=>e=.returned (.bool (longC b.t))/\Below w1.heap.size w1 w'):=fun V hV=>(longConfig_any b.t q cap2 V hi.lenT hi.sizeT ((hi.strsT.below hb1).below hV)).mono fun e w' hq=>⟨hq.1,hV.trans (hq.2.mono hV.size)⟩
 have HMF:Hid (∀ V,Below w1.heap.size w1 V->Calls Tryz.prog 7 #[.slice lp l.length lcap] V fun e w'=>e=.returned (.bool (fitsM l))/\Below w1.heap.size w1 w'):=fun V hV=>(messagesFit_any lp l lcap V hi.much ((hi.msgs.below hb1).below hV)).mono fun e w' hq=>⟨hq.1,hV.trans (hq.2.mono hV.size)⟩
 have HW1:Hid (w1=(w.alloc (.cells #[.int .i64 b.f.n,.int .i64 b.f.k,.slice p b.f.L.length cap] 24)).alloc (.cells #[.int .i64 b.t.n,.int .i64 b.t.k,.slice q b.t.L.length cap2] 24)):=hw1
 have HB1:Hid (Below w.heap.size w w1):=hb1
 rw [h1] at HL1
 clear hi hO hw1 hb1 hz1 hblF hblT HL2 HMF
 go_enter Tryz.func4,Tryz.ntmps4
 go_wp2_with (first | rw [<- HW1.out] | fail)
 refine HAS.mono ?_
 rintro e w2 ⟨rfl,hb2⟩
 obtain ⟨d0,d1,d2,d3,d4,d5,_⟩:=HS9.out w2 hb2
 have HB2:Hid (Below w1.heap.size w1 w2):=hb2
 clear hb2 HAS
 go_wp2_with fail
 refine (HL1.out w2 HB2.out).mono ?_
 rintro e w3 ⟨rfl,hb3⟩
 clear d0 d1 d2 d3 d4 d5
 obtain ⟨d0,d1,d2,d3,d4,d5,_⟩:=HS9.out w3 hb3
 have HB3:Hid (Below w1.heap.size w1 w3):=hb3
 clear hb3
 go_wp2
 go_ret
 exact ⟨rfl,HB1.out.trans (HB3.out.mono HB1.out.size)⟩
set_option maxRecDepth 10000 in
set_option maxHeartbeats 8000000 in
theorem carryHears_longT (hO:CarryOk ad X Ck) (b:Lift) (p:Option Addr) (cap:Nat) (q:Option Addr) (cap2:Nat) (l:List Msg) (lp:Option Addr) (lcap:Nat) (w:World) (hi:LiftIn ad X b p cap q cap2 l lp w) (h1:longC b.f=false) (h2:longC b.t=true):Calls Tryz.prog 4 #[.int .i64 b.op,.agg #[.int .i64 b.f.n,.int .i64 b.f.k,.slice p b.f.L.length cap],.agg #[.int .i64 b.t.n,.int .i64 b.t.k,.slice q b.t.L.length cap2],.int .i64 b.config,.string b.key,.slice lp l.length lcap] w fun e w'=>e=.returned (.bool true)/\Below w.heap.size w w':=by
 obtain ⟨w1,hw1⟩:∃ w1,w1=(w.alloc (.cells #[.int .i64 b.f.n,.int .i64 b.f.k,.slice p b.f.L.length cap] 24)).alloc (.cells #[.int .i64 b.t.n,.int .i64 b.t.k,.slice q b.t.L.length cap2] 24):=⟨_,rfl⟩
 have hb1:Below w.heap.size w w1:=by rw [hw1];exact ((Below.refl _ _).alloc (Nat.le_refl _) _).alloc (by simp) _
 have hz1:w1.heap.size=w.heap.size+2:=by rw [hw1];simp
 have hblF:w1.heap[w.heap.size]?=some (.cells #[.int .i64 b.f.n,.int .i64 b.f.k,.slice p b.f.L.length cap] 24 (0,0)):=by rw [hw1,heap_alloc_old _ _ (by simp)];exact heap_alloc_new _ _
 have hblT:w1.heap[w.heap.size+1]?=some (.cells #[.int .i64 b.t.n,.int .i64 b.t.k,.slice q b.t.L.length cap2] 24 (0,0)):=by
  have e:w.heap.size+1=(w.alloc (.cells #[.int .i64 b.f.n,.int .i64 b.f.k,.slice p b.f.L.length cap] 24)).heap.size:=by simp
  rw [hw1,e]
  exact heap_alloc_new _ _
 have HS9:Hid (∀ V,Below w1.heap.size w1 V->(V.cell? ⟨w.heap.size,0,none⟩=some (.int .i64 b.f.n)/\V.cell? ⟨w.heap.size,1,none⟩=some (.int .i64 b.f.k)/\V.cell? ⟨w.heap.size,2,none⟩=some (.slice p b.f.L.length cap)/\V.cell? ⟨w.heap.size+1,0,none⟩=some (.int .i64 b.t.n)/\V.cell? ⟨w.heap.size+1,1,none⟩=some (.int .i64 b.t.k)/\V.cell? ⟨w.heap.size+1,2,none⟩=some (.slice q b.t.L.length cap2)/\Below w1.heap.size w1 V)):=fun V hV=>by
  have hF:=(hV.block _ (by omega)).trans hblF
  have hT:=(hV.block _ (by omega)).trans hblT
  exact ⟨(rblk_cell hF 0).1,(rblk_cell hF 1).1,(rblk_cell hF 2).1,(rblk_cell hT 0).1,(rblk_cell hT 1).1,(rblk_cell hT 2).1,hV⟩
 have HAS:=carried_any hO w1 (fun V hV=>(hi.ok (hb1.trans (hV.mono hb1.size))).1) (fun V hV=>(hi.ok (hb1.trans (hV.mono hb1.size))).2)
 have HL1:Hid (∀ V,Below w1.heap.size w1 V->Calls Tryz.prog 6 #[.agg #[.int .i64 b.f.n,.int .i64 b.f.k,.slice p b.f.L.length cap]] V fun e w'=>e=.returned (.bool (longC b.f))/\Below w1.heap.size w1 w'):=fun V hV=>(longConfig_any b.f p cap V hi.lenF hi.sizeF ((hi.strsF.below hb1).below hV)).mono fun e w' hq=>⟨hq.1,hV.trans (hq.2.mono hV.size)⟩
 have HL2:Hid (∀ V,Below w1.heap.size w1 V->Calls Tryz.prog 6 #[.agg #[.int .i64 b.t.n,.int .i64 b.t.k,.slice q b.t.L.length cap2]] V fun e w'=>e=.returned (.bool (longC b.t))/\Below w1.heap.size w1 w'):=fun V hV=>(longConfig_any b.t q cap2 V hi.lenT hi.sizeT ((hi.strsT.below hb1).below hV)).mono fun e w' hq=>⟨hq.1,hV.trans (hq.2.mono hV.size)⟩
 have HMF:Hid (∀ V,Below w1.heap.size w1 V->Calls Tryz.prog 7 #[.slice lp l.length lcap] V fun e w'=>e=.returned (.bool (fitsM l))/\Below w1.heap.size w1 w'):=fun V hV=>(messagesFit_any lp l lcap V hi.much ((hi.msgs.below hb1).below hV)).mono fun e w' hq=>⟨hq.1,hV.trans (hq.2.mono hV.size)⟩
 have HW1:Hid (w1=(w.alloc (.cells #[.int .i64 b.f.n,.int .i64 b.f.k,.slice p b.f.L.length cap] 24)).alloc (.cells #[.int .i64 b.t.n,.int .i64 b.t.k,.slice q b.t.L.length cap2] 24)):=hw1
 have HB1:Hid (Below w.heap.size w w1):=hb1
 rw [h1] at HL1
 rw [h2] at HL2
 clear hi hO hw1 hb1 hz1 hblF hblT HMF
 go_enter Tryz.func4,Tryz.ntmps4
 go_wp2_with (first | rw [<- HW1.out] | fail)
 refine HAS.mono ?_
 rintro e w2 ⟨rfl,hb2⟩
 obtain ⟨d0,d1,d2,d3,d4,d5,_⟩:=HS9.out w2 hb2
 have HB2:Hid (Below w1.heap.size w1 w2):=hb2
 clear hb2 HAS
 go_wp2_with fail
 refine (HL1.out w2 HB2.out).mono ?_
 rintro e w3 ⟨rfl,hb3⟩
 clear d0 d1 d2 d3 d4 d5
 obtain ⟨d0,d1,d2,d3,d4,d5,_⟩:=HS9.out w3 hb3
 have HB3:Hid (Below w1.heap.size w1 w3):=hb3
 clear hb3
 go_wp2_with fail
 refine (HL2.out w3 HB3.out).mono ?_
 rintro e w4 ⟨rfl,hb4⟩
 clear d0 d1 d2 d3 d4 d5
 obtain ⟨d0,d1,d2,d3,d4,d5,_⟩:=HS9.out w4 hb4
 have HB4:Hid (Below w1.heap.size w1 w4):=hb4
 clear hb4
 go_wp2
 go_ret
 exact ⟨rfl,HB1.out.trans (HB4.out.mono HB1.out.size)⟩
set_option maxRecDepth 10000 in
set_option maxHeartbeats 8000000 in
theorem carryHears_key (hO:CarryOk ad X Ck) (b:Lift) (p:Option Addr) (cap:Nat) (q:Option Addr) (cap2:Nat) (l:List Msg) (lp:Option Addr) (lcap:Nat) (w:World) (hi:LiftIn ad X b p cap q cap2 l lp w) (h1:longC b.f=false) (h2:longC b.t=false) (h3:100 < b.key.size):Calls Tryz.prog 4 #[.int .i64 b.op,.agg #[.int .i64 b.f.n,.int .i64 b.f.k,.slice p b.f.L.length cap],.agg #[.int .i64 b.t.n,.int .i64 b.t.k,.slice q b.t.L.length cap2],.int .i64 b.config,.string b.key,.slice lp l.length lcap] w fun e w'=>e=.returned (.bool true)/\Below w.heap.size w w':=by
 obtain ⟨w1,hw1⟩:∃ w1,w1=(w.alloc (.cells #[.int .i64 b.f.n,.int .i64 b.f.k,.slice p b.f.L.length cap] 24)).alloc (.cells #[.int .i64 b.t.n,.int .i64 b.t.k,.slice q b.t.L.length cap2] 24):=⟨_,rfl⟩
 have hb1:Below w.heap.size w w1:=by rw [hw1];exact ((Below.refl _ _).alloc (Nat.le_refl _) _).alloc (by simp) _
 have hz1:w1.heap.size=w.heap.size+2:=by rw [hw1];simp
 have hblF:w1.heap[w.heap.size]?=some (.cells #[.int .i64 b.f.n,.int .i64 b.f.k,.slice p b.f.L.length cap] 24 (0,0)):=by rw [hw1,heap_alloc_old _ _ (by simp)];exact heap_alloc_new _ _
 have hblT:w1.heap[w.heap.size+1]?=some (.cells #[.int .i64 b.t.n,.int .i64 b.t.k,.slice q b.t.L.length cap2] 24 (0,0)):=by
  have e:w.heap.size+1=(w.alloc (.cells #[.int .i64 b.f.n,.int .i64 b.f.k,.slice p b.f.L.length cap] 24)).heap.size:=by simp
  rw [hw1,e]
  exact heap_alloc_new _ _
 have HS9:Hid (∀ V,Below w1.heap.size w1 V->(V.cell? ⟨w.heap.size,0,none⟩=some (.int .i64 b.f.n)/\V.cell? ⟨w.heap.size,1,none⟩=some (.int .i64 b.f.k)/\V.cell? ⟨w.heap.size,2,none⟩=some (.slice p b.f.L.length cap)/\V.cell? ⟨w.heap.size+1,0,none⟩=some (.int .i64 b.t.n)/\V.cell? ⟨w.heap.size+1,1,none⟩=some (.int .i64 b.t.k)/\V.cell? ⟨w.heap.size+1,2,none⟩=some (.slice q b.t.L.length cap2)/\Below w1.heap.size w1 V)):=fun V hV=>by
  have hF:=(hV.block _ (by omega)).trans hblF
  have hT:=(hV.block _ (by omega)).trans hblT
  exact ⟨(rblk_cell hF 0).1,(rblk_cell hF 1).1,(rblk_cell hF 2).1,(rblk_cell hT 0).1,(rblk_cell hT 1).1,(rblk_cell hT 2).1,hV⟩
 have HAS:=carried_any hO w1 (fun V hV=>(hi.ok (hb1.trans (hV.mono hb1.size))).1) (fun V hV=>(hi.ok (hb1.trans (hV.mono hb1.size))).2)
 have HL1:Hid (∀ V,Below w1.heap.size w1 V->Calls Tryz.prog 6 #[.agg #[.int .i64 b.f.n,.int .i64 b.f.k,.slice p b.f.L.length cap]] V fun e w'=>e=.returned (.bool (longC b.f))/\Below w1.heap.size w1 w'):=fun V hV=>(longConfig_any b.f p cap V hi.lenF hi.sizeF ((hi.strsF.below hb1).below hV)).mono fun e w' hq=>⟨hq.1,hV.trans (hq.2.mono hV.size)⟩
 have HL2:Hid (∀ V,Below w1.heap.size w1 V->Calls Tryz.prog 6 #[.agg #[.int .i64 b.t.n,.int .i64 b.t.k,.slice q b.t.L.length cap2]] V fun e w'=>e=.returned (.bool (longC b.t))/\Below w1.heap.size w1 w'):=fun V hV=>(longConfig_any b.t q cap2 V hi.lenT hi.sizeT ((hi.strsT.below hb1).below hV)).mono fun e w' hq=>⟨hq.1,hV.trans (hq.2.mono hV.size)⟩
 have HMF:Hid (∀ V,Below w1.heap.size w1 V->Calls Tryz.prog 7 #[.slice lp l.length lcap] V fun e w'=>e=.returned (.bool (fitsM l))/\Below w1.heap.size w1 w'):=fun V hV=>(messagesFit_any lp l lcap V hi.much ((hi.msgs.below hb1).below hV)).mono fun e w' hq=>⟨hq.1,hV.trans (hq.2.mono hV.size)⟩
 have HW1:Hid (w1=(w.alloc (.cells #[.int .i64 b.f.n,.int .i64 b.f.k,.slice p b.f.L.length cap] 24)).alloc (.cells #[.int .i64 b.t.n,.int .i64 b.t.k,.slice q b.t.L.length cap2] 24)):=hw1
 have HB1:Hid (Below w.heap.size w w1):=hb1
 rw [h1] at HL1
 rw [h2] at HL2
 have n3:decide ((100:Int) < (b.key.size:Int))=true:=decide_eq_true (by omega)
 clear hi hO hw1 hb1 hz1 hblF hblT HMF
 go_enter Tryz.func4,Tryz.ntmps4
 go_wp2_with (first | rw [<- HW1.out] | fail)
 refine HAS.mono ?_
 rintro e w2 ⟨rfl,hb2⟩
 obtain ⟨d0,d1,d2,d3,d4,d5,_⟩:=HS9.out w2 hb2
 have HB2:Hid (Below w1.heap.size w1 w2):=hb2
 clear hb2 HAS
 go_wp2_with fail
 refine (HL1.out w2 HB2.out).mono ?_
 rintro e w3 ⟨rfl,hb3⟩
 clear d0 d1 d2 d3 d4 d5
 obtain ⟨d0,d1,d2,d3,d4,d5,_⟩:=HS9.out w3 hb3
 have HB3:Hid (Below w1.heap.size w1 w3):=hb3
 clear hb3
 go_wp2_with fail
 refine (HL2.out w3 HB3.out).mono ?_
 rintro e w4 ⟨rfl,hb4⟩
 clear d0 d1 d2 d3 d4 d5
 obtain ⟨d0,d1,d2,d3,d4,d5,_⟩:=HS9.out w4 hb4
 have HB4:Hid (Below w1.heap.size w1 w4):=hb4
 clear hb4
 go_wp2
 go_ret
 exact ⟨rfl,HB1.out.trans (HB4.out.mono HB1.out.size)⟩
set_option maxRecDepth 10000 in
set_option maxHeartbeats 8000000 in
theorem carryHears_much (hO:CarryOk ad X Ck) (b:Lift) (p:Option Addr) (cap:Nat) (q:Option Addr) (cap2:Nat) (l:List Msg) (lp:Option Addr) (lcap:Nat) (w:World) (hi:LiftIn ad X b p cap q cap2 l lp w) (h1:longC b.f=false) (h2:longC b.t=false) (h3:¬ 100 < b.key.size) (h4:fitsM l=false):Calls Tryz.prog 4 #[.int .i64 b.op,.agg #[.int .i64 b.f.n,.int .i64 b.f.k,.slice p b.f.L.length cap],.agg #[.int .i64 b.t.n,.int .i64 b.t.k,.slice q b.t.L.length cap2],.int .i64 b.config,.string b.key,.slice lp l.length lcap] w fun e w'=>e=.returned (.bool true)/\Below w.heap.size w w':=by
 obtain ⟨w1,hw1⟩:∃ w1,w1=(w.alloc (.cells #[.int .i64 b.f.n,.int .i64 b.f.k,.slice p b.f.L.length cap] 24)).alloc (.cells #[.int .i64 b.t.n,.int .i64 b.t.k,.slice q b.t.L.length cap2] 24):=⟨_,rfl⟩
 have hb1:Below w.heap.size w w1:=by rw [hw1];exact ((Below.refl _ _).alloc (Nat.le_refl _) _).alloc (by simp) _
 have hz1:w1.heap.size=w.heap.size+2:=by rw [hw1];simp
 have hblF:w1.heap[w.heap.size]?=some (.cells #[.int .i64 b.f.n,.int .i64 b.f.k,.slice p b.f.L.length cap] 24 (0,0)):=by rw [hw1,heap_alloc_old _ _ (by simp)];exact heap_alloc_new _ _
 have hblT:w1.heap[w.heap.size+1]?=some (.cells #[.int .i64 b.t.n,.int .i64 b.t.k,.slice q b.t.L.length cap2] 24 (0,0)):=by
  have e:w.heap.size+1=(w.alloc (.cells #[.int .i64 b.f.n,.int .i64 b.f.k,.slice p b.f.L.length cap] 24)).heap.size:=by simp
  rw [hw1,e]
  exact heap_alloc_new _ _
 have HS9:Hid (∀ V,Below w1.heap.size w1 V->(V.cell? ⟨w.heap.size,0,none⟩=some (.int .i64 b.f.n)/\V.cell? ⟨w.heap.size,1,none⟩=some (.int .i64 b.f.k)/\V.cell? ⟨w.heap.size,2,none⟩=some (.slice p b.f.L.length cap)/\V.cell? ⟨w.heap.size+1,0,none⟩=some (.int .i64 b.t.n)/\V.cell? ⟨w.heap.size+1,1,none⟩=some (.int .i64 b.t.k)/\V.cell? ⟨w.heap.size+1,2,none⟩=some (.slice q b.t.L.length cap2)/\Below w1.heap.size w1 V)):=fun V hV=>by
  have hF:=(hV.block _ (by omega)).trans hblF
  have hT:=(hV.block _ (by omega)).trans hblT
  exact ⟨(rblk_cell hF 0).1,(rblk_cell hF 1).1,(rblk_cell hF 2).1,(rblk_cell hT 0).1,(rblk_cell hT 1).1,(rblk_cell hT 2).1,hV⟩
 have HAS:=carried_any hO w1 (fun V hV=>(hi.ok (hb1.trans (hV.mono hb1.size))).1) (fun V hV=>(hi.ok (hb1.trans (hV.mono hb1.size))).2)
 have HL1:Hid (∀ V,Below w1.heap.size w1 V->Calls Tryz.prog 6 #[.agg #[.int .i64 b.f.n,.int .i64 b.f.k,.slice p b.f.L.length cap]] V fun e w'=>e=.returned (.bool (longC b.f))/\Below w1.heap.size w1 w'):=fun V hV=>(longConfig_any b.f p cap V hi.lenF hi.sizeF ((hi.strsF.below hb1).below hV)).mono fun e w' hq=>⟨hq.1,hV.trans (hq.2.mono hV.size)⟩
 have HL2:Hid (∀ V,Below w1.heap.size w1 V->Calls Tryz.prog 6 #[.agg #[.int .i64 b.t.n,.int .i64 b.t.k,.slice q b.t.L.length cap2]] V fun e w'=>e=.returned (.bool (longC b.t))/\Below w1.heap.size w1 w'):=fun V hV=>(longConfig_any b.t q cap2 V hi.lenT hi.sizeT ((hi.strsT.below hb1).below hV)).mono fun e w' hq=>⟨hq.1,hV.trans (hq.2.mono hV.size)⟩
 have HMF:Hid (∀ V,Below w1.heap.size w1 V->Calls Tryz.prog 7 #[.slice lp l.length lcap] V fun e w'=>e=.returned (.bool (fitsM l))/\Below w1.heap.size w1 w'):=fun V hV=>(messagesFit_any lp l lcap V hi.much ((hi.msgs.below hb1).below hV)).mono fun e w' hq=>⟨hq.1,hV.trans (hq.2.mono hV.size)⟩
 have HW1:Hid (w1=(w.alloc (.cells #[.int .i64 b.f.n,.int .i64 b.f.k,.slice p b.f.L.length cap] 24)).alloc (.cells #[.int .i64 b.t.n,.int .i64 b.t.k,.slice q b.t.L.length cap2] 24)):=hw1
 have HB1:Hid (Below w.heap.size w w1):=hb1
 rw [h1] at HL1
 rw [h2] at HL2
 rw [h4] at HMF
 have n3:decide ((100:Int) < (b.key.size:Int))=false:=decide_eq_false (by omega)
 clear hi hO hw1 hb1 hz1 hblF hblT
 go_enter Tryz.func4,Tryz.ntmps4
 go_wp2_with (first | rw [<- HW1.out] | fail)
 refine HAS.mono ?_
 rintro e w2 ⟨rfl,hb2⟩
 obtain ⟨d0,d1,d2,d3,d4,d5,_⟩:=HS9.out w2 hb2
 have HB2:Hid (Below w1.heap.size w1 w2):=hb2
 clear hb2 HAS
 go_wp2_with fail
 refine (HL1.out w2 HB2.out).mono ?_
 rintro e w3 ⟨rfl,hb3⟩
 clear d0 d1 d2 d3 d4 d5
 obtain ⟨d0,d1,d2,d3,d4,d5,_⟩:=HS9.out w3 hb3
 have HB3:Hid (Below w1.heap.size w1 w3):=hb3
 clear hb3
 go_wp2_with fail
 refine (HL2.out w3 HB3.out).mono ?_
 rintro e w4 ⟨rfl,hb4⟩
 clear d0 d1 d2 d3 d4 d5
 obtain ⟨d0,d1,d2,d3,d4,d5,_⟩:=HS9.out w4 hb4
 have HB4:Hid (Below w1.heap.size w1 w4):=hb4
 clear hb4
 go_wp2_with fail
 refine (HMF.out w4 HB4.out).mono ?_
 rintro e w5 ⟨rfl,hb5⟩
 clear d0 d1 d2 d3 d4 d5
 obtain ⟨d0,d1,d2,d3,d4,d5,_⟩:=HS9.out w5 hb5
 have HB5:Hid (Below w1.heap.size w1 w5):=hb5
 clear hb5
 go_wp2
 go_ret
 exact ⟨rfl,HB1.out.trans (HB5.out.mono HB1.out.size)⟩
end Go.Proofs.YtmhoiodfppdlnaaGreatDoor
