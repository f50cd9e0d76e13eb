import Derived.Test.YtmhoiodfppdlnaaGreatDoorAq37
import Derived.Test.YtmhoiodfppdlnaaGreatDoorAq33
import Derived.Test.YtmhoiodfppdlnaaGreatDoorAq5
import Derived.Test.YtmhoiodfppdlnaaGreatDoorAq1
import Derived.Test.YtmhoiodfppdlnaaGreatDoorAq3
import Derived.Test.YtmhoiodfppdlnaaGreatDoorAq18
import Derived.Deep.RegionHeld3
import Derived.Deep.CutRange
import Derived.BigQuiet
set_option maxRecDepth 10000
set_option maxHeartbeats 8000000
namespace Go.Proofs.YtmhoiodfppdlnaaGreatDoor
open Go.RowKit
variable {ad:Nat->Addr} {X:World->Prop} {Ak:World->Nat->Nat->(Nat->Prop)->MAsk->Prop}
structure LawIn (ad:Nat->Addr) (X:World->Prop) (b:Bid) (p:Option Addr) (cap:Nat) (l:List Msg) (lp:Option Addr) (w:World):Prop where
 errs:∀ V:World,w.heap.size<=V.heap.size->(∀ k,k < w.heap.size->V.heap[k]?=w.heap[k]?)->ErrsQ V ad/\X V
 sent:∀ V:World,Below w.heap.size w V->Sent V ad
 strs:Strs w p b.c.L
 room:b.c.L.length<=cap
 empty:p=none->b.c.L=[]/\cap=0
 ints:CfgIn b.c
 who:I64 b.who
 op:I64 b.op
 config:I64 b.config
 len:b.c.L.length<=maxLen
 size:∀ x ∈ b.c.L,x.size<=maxLen
 much:weighM l<=4611686018427387904
 msgs:MsgsAt w lp l
 vers:∀ m ∈ l,∀ v ∈ m.L,VerI64 v
theorem LawIn.ok {b:Bid}{p:Option Addr}{cap:Nat}{l:List Msg}{lp:Option Addr}{w V:World}(h:LawIn ad X b p cap l lp w)(hb:Below w.heap.size w V):ErrsQ V ad/\X V:=h.errs V hb.size (fun k hk=>hb.block k hk)
theorem askHears_long (hO:AskOk ad X Ak)(b:Bid)(p:Option Addr)(cap:Nat)(l:List Msg)(lp:Option Addr)(lcap:Nat)(w:World)(hi:LawIn ad X b p cap l lp w)(h1:longC b.c=true):Calls Tryz.prog 3 #[.agg #[.bool b.put,.int .i64 b.who,.int .i64 b.op,.int .i64 b.config,.int .i64 b.c.n,.int .i64 b.c.k,.slice p b.c.L.length cap,.string b.key,.string b.text],.slice lp l.length lcap] w fun e w'=>e=.returned (.bool true)/\Below w.heap.size w w':=by
 obtain⟨w1,hw1⟩:∃ w1,w1=w.alloc (.cells #[.bool b.put,.int .i64 b.who,.int .i64 b.op,.int .i64 b.config,.int .i64 b.c.n,.int .i64 b.c.k,.slice p b.c.L.length cap,.string b.key,.string b.text] 26):=⟨_,rfl⟩
 have hb1:Below w.heap.size w w1:=zBe hw1
 have hlt1:w.heap.size < w1.heap.size:=by rw [hw1];simp
 have hbl1:w1.heap[w.heap.size]?=some (.cells #[.bool b.put,.int .i64 b.who,.int .i64 b.op,.int .i64 b.config,.int .i64 b.c.n,.int .i64 b.c.k,.slice p b.c.L.length cap,.string b.key,.string b.text] 26 (0,0)):=by
  rw [hw1]
  show(w.heap.push _)[w.heap.size]?=_
  simp
 have HCE:Hid (∀ W,Below w1.heap.size w1 W->(W.cell? ⟨w.heap.size,0,none⟩=some (.bool b.put)/\W.cell? ⟨w.heap.size,1,none⟩=some (.int .i64 b.who)/\W.cell? ⟨w.heap.size,2,none⟩=some (.int .i64 b.op)/\W.cell? ⟨w.heap.size,3,none⟩=some (.int .i64 b.config)/\W.cell? ⟨w.heap.size,4,none⟩=some (.int .i64 b.c.n)/\W.cell? ⟨w.heap.size,5,none⟩=some (.int .i64 b.c.k)/\W.cell? ⟨w.heap.size,6,none⟩=some (.slice p b.c.L.length cap)/\W.cell? ⟨w.heap.size,7,none⟩=some (.string b.key)/\W.cell? ⟨w.heap.size,8,none⟩=some (.string b.text)/\Below w1.heap.size w1 W)):=fun W hW=>by
  have hb:=(hW.block _ hlt1).trans hbl1
  exact⟨(rblk_cell hb 0).1,(rblk_cell hb 1).1,(rblk_cell hb 2).1,(rblk_cell hb 3).1,(rblk_cell hb 4).1,(rblk_cell hb 5).1,(rblk_cell hb 6).1,(rblk_cell hb 7).1,(rblk_cell hb 8).1,hW⟩
 have HAS:=asked_any hO w1 (fun V hV=>(hi.ok (hb1.trans (hV.mono hb1.size))).1) (fun V hV=>(hi.ok (hb1.trans (hV.mono hb1.size))).2)
 have HLC:Hid (∀ W,Below w1.heap.size w1 W->Calls Tryz.prog 6 #[.agg #[.int .i64 b.c.n,.int .i64 b.c.k,.slice p b.c.L.length cap]] W fun e w'=>e=.returned (.bool (longC b.c))/\Below w1.heap.size w1 w'):=fun W hW=>(longConfig_any b.c p cap W hi.len hi.size ((hi.strs.below hb1).below hW)).mono fun e w' hq=>⟨hq.1,hW.trans (hq.2.mono hW.size)⟩
 have HMF:Hid (∀ W,Below w1.heap.size w1 W->Calls Tryz.prog 7 #[.slice lp l.length lcap] W fun e w'=>e=.returned (.bool (fitsM l))/\Below w1.heap.size w1 w'):=fun W hW=>(messagesFit_any lp l lcap W hi.much ((hi.msgs.below hb1).below hW)).mono fun e w' hq=>⟨hq.1,hW.trans (hq.2.mono hW.size)⟩
 have HW1:Hid (w1=w.alloc (.cells #[.bool b.put,.int .i64 b.who,.int .i64 b.op,.int .i64 b.config,.int .i64 b.c.n,.int .i64 b.c.k,.slice p b.c.L.length cap,.string b.key,.string b.text] 26)):=hw1
 have HB1:Hid (Below w.heap.size w w1):=hb1
 rw [h1] at HLC
 clear hi hO hw1 hb1 hlt1 hbl1 HMF
 go_enter Tryz.func3,Tryz.ntmps3
 go_wp2_with (first | rw [<- HW1.out] | fail)
 refine HAS.mono ?_
 rintro e w2 ⟨rfl,hb2⟩
 obtain⟨d0,d1,d2,d3,d4,d5,d6,d7,d8,_⟩:=HCE.out w2 hb2
 have HB2:Hid (Below w1.heap.size w1 w2):=hb2
 clear hb2 HAS
 go_wp2_with fail
 refine(HLC.out w2 HB2.out).mono ?_
 rintro e w3 ⟨rfl,hb3⟩
 clear d0 d1 d2 d3 d4 d5 d6 d7 d8
 obtain⟨d0,d1,d2,d3,d4,d5,d6,d7,d8,_⟩:=HCE.out w3 hb3
 have HB3:Hid (Below w1.heap.size w1 w3):=hb3
 clear hb3
 go_wp2
 go_ret
 exact⟨rfl,HB1.out.trans (HB3.out.mono HB1.out.size)⟩
theorem askHears_key (hO:AskOk ad X Ak)(b:Bid)(p:Option Addr)(cap:Nat)(l:List Msg)(lp:Option Addr)(lcap:Nat)(w:World)(hi:LawIn ad X b p cap l lp w)(h1:longC b.c=false)(h2:100 < b.key.size):Calls Tryz.prog 3 #[.agg #[.bool b.put,.int .i64 b.who,.int .i64 b.op,.int .i64 b.config,.int .i64 b.c.n,.int .i64 b.c.k,.slice p b.c.L.length cap,.string b.key,.string b.text],.slice lp l.length lcap] w fun e w'=>e=.returned (.bool true)/\Below w.heap.size w w':=by
 obtain⟨w1,hw1⟩:∃ w1,w1=w.alloc (.cells #[.bool b.put,.int .i64 b.who,.int .i64 b.op,.int .i64 b.config,.int .i64 b.c.n,.int .i64 b.c.k,.slice p b.c.L.length cap,.string b.key,.string b.text] 26):=⟨_,rfl⟩
 have hb1:Below w.heap.size w w1:=zBe hw1
 have hlt1:w.heap.size < w1.heap.size:=by rw [hw1];simp
 have hbl1:w1.heap[w.heap.size]?=some (.cells #[.bool b.put,.int .i64 b.who,.int .i64 b.op,.int .i64 b.config,.int .i64 b.c.n,.int .i64 b.c.k,.slice p b.c.L.length cap,.string b.key,.string b.text] 26 (0,0)):=by
  rw [hw1]
  show(w.heap.push _)[w.heap.size]?=_
  simp
 have HCE:Hid (∀ W,Below w1.heap.size w1 W->(W.cell? ⟨w.heap.size,0,none⟩=some (.bool b.put)/\W.cell? ⟨w.heap.size,1,none⟩=some (.int .i64 b.who)/\W.cell? ⟨w.heap.size,2,none⟩=some (.int .i64 b.op)/\W.cell? ⟨w.heap.size,3,none⟩=some (.int .i64 b.config)/\W.cell? ⟨w.heap.size,4,none⟩=some (.int .i64 b.c.n)/\W.cell? ⟨w.heap.size,5,none⟩=some (.int .i64 b.c.k)/\W.cell? ⟨w.heap.size,6,none⟩=some (.slice p b.c.L.length cap)/\W.cell? ⟨w.heap.size,7,none⟩=some (.string b.key)/\W.cell? ⟨w.heap.size,8,none⟩=some (.string b.text)/\Below w1.heap.size w1 W)):=fun W hW=>by
  have hb:=(hW.block _ hlt1).trans hbl1
  exact⟨(rblk_cell hb 0).1,(rblk_cell hb 1).1,(rblk_cell hb 2).1,(rblk_cell hb 3).1,(rblk_cell hb 4).1,(rblk_cell hb 5).1,(rblk_cell hb 6).1,(rblk_cell hb 7).1,(rblk_cell hb 8).1,hW⟩
 have HAS:=asked_any hO w1 (fun V hV=>(hi.ok (hb1.trans (hV.mono hb1.size))).1) (fun V hV=>(hi.ok (hb1.trans (hV.mono hb1.size))).2)
 have HLC:Hid (∀ W,Below w1.heap.size w1 W->Calls Tryz.prog 6 #[.agg #[.int .i64 b.c.n,.int .i64 b.c.k,.slice p b.c.L.length cap]] W fun e w'=>e=.returned (.bool (longC b.c))/\Below w1.heap.size w1 w'):=fun W hW=>(longConfig_any b.c p cap W hi.len hi.size ((hi.strs.below hb1).below hW)).mono fun e w' hq=>⟨hq.1,hW.trans (hq.2.mono hW.size)⟩
 have HMF:Hid (∀ W,Below w1.heap.size w1 W->Calls Tryz.prog 7 #[.slice lp l.length lcap] W fun e w'=>e=.returned (.bool (fitsM l))/\Below w1.heap.size w1 w'):=fun W hW=>(messagesFit_any lp l lcap W hi.much ((hi.msgs.below hb1).below hW)).mono fun e w' hq=>⟨hq.1,hW.trans (hq.2.mono hW.size)⟩
 have HW1:Hid (w1=w.alloc (.cells #[.bool b.put,.int .i64 b.who,.int .i64 b.op,.int .i64 b.config,.int .i64 b.c.n,.int .i64 b.c.k,.slice p b.c.L.length cap,.string b.key,.string b.text] 26)):=hw1
 have HB1:Hid (Below w.heap.size w w1):=hb1
 rw [h1] at HLC
 have q1:decide ((100:Int) < (b.key.size:Int))=true:=decide_eq_true (by omega)
 clear hi hO hw1 hb1 hlt1 hbl1 HMF
 go_enter Tryz.func3,Tryz.ntmps3
 go_wp2_with (first | rw [<- HW1.out] | fail)
 refine HAS.mono ?_
 rintro e w2 ⟨rfl,hb2⟩
 obtain⟨d0,d1,d2,d3,d4,d5,d6,d7,d8,_⟩:=HCE.out w2 hb2
 have HB2:Hid (Below w1.heap.size w1 w2):=hb2
 clear hb2 HAS
 go_wp2_with fail
 refine(HLC.out w2 HB2.out).mono ?_
 rintro e w3 ⟨rfl,hb3⟩
 clear d0 d1 d2 d3 d4 d5 d6 d7 d8
 obtain⟨d0,d1,d2,d3,d4,d5,d6,d7,d8,_⟩:=HCE.out w3 hb3
 have HB3:Hid (Below w1.heap.size w1 w3):=hb3
 clear hb3
 go_wp2
 go_ret
 exact⟨rfl,HB1.out.trans (HB3.out.mono HB1.out.size)⟩
theorem askHears_text (hO:AskOk ad X Ak)(b:Bid)(p:Option Addr)(cap:Nat)(l:List Msg)(lp:Option Addr)(lcap:Nat)(w:World)(hi:LawIn ad X b p cap l lp w)(h1:longC b.c=false)(h2:¬ 100 < b.key.size)(h3:100 < b.text.size)(h4:b.text.size<=1000∨2000 < b.text.size):Calls Tryz.prog 3 #[.agg #[.bool b.put,.int .i64 b.who,.int .i64 b.op,.int .i64 b.config,.int .i64 b.c.n,.int .i64 b.c.k,.slice p b.c.L.length cap,.string b.key,.string b.text],.slice lp l.length lcap] w fun e w'=>e=.returned (.bool true)/\Below w.heap.size w w':=by
 obtain⟨w1,hw1⟩:∃ w1,w1=w.alloc (.cells #[.bool b.put,.int .i64 b.who,.int .i64 b.op,.int .i64 b.config,.int .i64 b.c.n,.int .i64 b.c.k,.slice p b.c.L.length cap,.string b.key,.string b.text] 26):=⟨_,rfl⟩
 have hb1:Below w.heap.size w w1:=zBe hw1
 have hlt1:w.heap.size < w1.heap.size:=by rw [hw1];simp
 have hbl1:w1.heap[w.heap.size]?=some (.cells #[.bool b.put,.int .i64 b.who,.int .i64 b.op,.int .i64 b.config,.int .i64 b.c.n,.int .i64 b.c.k,.slice p b.c.L.length cap,.string b.key,.string b.text] 26 (0,0)):=by
  rw [hw1]
  show(w.heap.push _)[w.heap.size]?=_
  simp
 have HCE:Hid (∀ W,Below w1.heap.size w1 W->(W.cell? ⟨w.heap.size,0,none⟩=some (.bool b.put)/\W.cell? ⟨w.heap.size,1,none⟩=some (.int .i64 b.who)/\W.cell? ⟨w.heap.size,2,none⟩=some (.int .i64 b.op)/\W.cell? ⟨w.heap.size,3,none⟩=some (.int .i64 b.config)/\W.cell? ⟨w.heap.size,4,none⟩=some (.int .i64 b.c.n)/\W.cell? ⟨w.heap.size,5,none⟩=some (.int .i64 b.c.k)/\W.cell? ⟨w.heap.size,6,none⟩=some (.slice p b.c.L.length cap)/\W.cell? ⟨w.heap.size,7,none⟩=some (.string b.key)/\W.cell? ⟨w.heap.size,8,none⟩=some (.string b.text)/\Below w1.heap.size w1 W)):=fun W hW=>by
  have hb:=(hW.block _ hlt1).trans hbl1
  exact⟨(rblk_cell hb 0).1,(rblk_cell hb 1).1,(rblk_cell hb 2).1,(rblk_cell hb 3).1,(rblk_cell hb 4).1,(rblk_cell hb 5).1,(rblk_cell hb 6).1,(rblk_cell hb 7).1,(rblk_cell hb 8).1,hW⟩
 have HAS:=asked_any hO w1 (fun V hV=>(hi.ok (hb1.trans (hV.mono hb1.size))).1) (fun V hV=>(hi.ok (hb1.trans (hV.mono hb1.size))).2)
 have HLC:Hid (∀ W,Below w1.heap.size w1 W->Calls Tryz.prog 6 #[.agg #[.int .i64 b.c.n,.int .i64 b.c.k,.slice p b.c.L.length cap]] W fun e w'=>e=.returned (.bool (longC b.c))/\Below w1.heap.size w1 w'):=fun W hW=>(longConfig_any b.c p cap W hi.len hi.size ((hi.strs.below hb1).below hW)).mono fun e w' hq=>⟨hq.1,hW.trans (hq.2.mono hW.size)⟩
 have HMF:Hid (∀ W,Below w1.heap.size w1 W->Calls Tryz.prog 7 #[.slice lp l.length lcap] W fun e w'=>e=.returned (.bool (fitsM l))/\Below w1.heap.size w1 w'):=fun W hW=>(messagesFit_any lp l lcap W hi.much ((hi.msgs.below hb1).below hW)).mono fun e w' hq=>⟨hq.1,hW.trans (hq.2.mono hW.size)⟩
 have HW1:Hid (w1=w.alloc (.cells #[.bool b.put,.int .i64 b.who,.int .i64 b.op,.int .i64 b.config,.int .i64 b.c.n,.int .i64 b.c.k,.slice p b.c.L.length cap,.string b.key,.string b.text] 26)):=hw1
 have HB1:Hid (Below w.heap.size w w1):=hb1
 rw [h1] at HLC
 have q1:decide ((100:Int) < (b.key.size:Int))=false:=decide_eq_false (by omega)
 have q2:decide ((100:Int) < (b.text.size:Int))=true:=decide_eq_true (by omega)
 clear hi hO hw1 hb1 hlt1 hbl1 HMF
 rcases h4 with h4 | h4
 ·have q3:decide ((b.text.size:Int)<=1000)=true:=decide_eq_true (by omega)
  go_enter Tryz.func3,Tryz.ntmps3
  go_wp2_with (first | rw [<- HW1.out] | fail)
  refine HAS.mono ?_
  rintro e w2 ⟨rfl,hb2⟩
  obtain⟨d0,d1,d2,d3,d4,d5,d6,d7,d8,_⟩:=HCE.out w2 hb2
  have HB2:Hid (Below w1.heap.size w1 w2):=hb2
  clear hb2 HAS
  go_wp2_with fail
  refine(HLC.out w2 HB2.out).mono ?_
  rintro e w3 ⟨rfl,hb3⟩
  clear d0 d1 d2 d3 d4 d5 d6 d7 d8
  obtain⟨d0,d1,d2,d3,d4,d5,d6,d7,d8,_⟩:=HCE.out w3 hb3
  have HB3:Hid (Below w1.heap.size w1 w3):=hb3
  clear hb3
  go_wp2
  go_ret
  exact⟨rfl,HB1.out.trans (HB3.out.mono HB1.out.size)⟩
 ·have q3:decide ((b.text.size:Int)<=1000)=false:=decide_eq_false (by omega)
  have q4:decide ((2000:Int) < (b.text.size:Int))=true:=decide_eq_true (by omega)
  go_enter Tryz.func3,Tryz.ntmps3
  go_wp2_with (first | rw [<- HW1.out] | fail)
  refine HAS.mono ?_
  rintro e w2 ⟨rfl,hb2⟩
  obtain⟨d0,d1,d2,d3,d4,d5,d6,d7,d8,_⟩:=HCE.out w2 hb2
  have HB2:Hid (Below w1.heap.size w1 w2):=hb2
  clear hb2 HAS
  go_wp2_with fail
  refine(HLC.out w2 HB2.out).mono ?_
  rintro e w3 ⟨rfl,hb3⟩
  clear d0 d1 d2 d3 d4 d5 d6 d7 d8
  obtain⟨d0,d1,d2,d3,d4,d5,d6,d7,d8,_⟩:=HCE.out w3 hb3
  have HB3:Hid (Below w1.heap.size w1 w3):=hb3
  clear hb3
  go_wp2
  go_ret
  exact⟨rfl,HB1.out.trans (HB3.out.mono HB1.out.size)⟩
theorem askHears_much (hO:AskOk ad X Ak)(b:Bid)(p:Option Addr)(cap:Nat)(l:List Msg)(lp:Option Addr)(lcap:Nat)(w:World)(hi:LawIn ad X b p cap l lp w)(h1:longC b.c=false)(h2:¬ 100 < b.key.size)(h3:b.text.size<=100∨1000 < b.text.size/\b.text.size<=2000)(h4:fitsM l=false):Calls Tryz.prog 3 #[.agg #[.bool b.put,.int .i64 b.who,.int .i64 b.op,.int .i64 b.config,.int .i64 b.c.n,.int .i64 b.c.k,.slice p b.c.L.length cap,.string b.key,.string b.text],.slice lp l.length lcap] w fun e w'=>e=.returned (.bool true)/\Below w.heap.size w w':=by
 obtain⟨w1,hw1⟩:∃ w1,w1=w.alloc (.cells #[.bool b.put,.int .i64 b.who,.int .i64 b.op,.int .i64 b.config,.int .i64 b.c.n,.int .i64 b.c.k,.slice p b.c.L.length cap,.string b.key,.string b.text] 26):=⟨_,rfl⟩
 have hb1:Below w.heap.size w w1:=zBe hw1
 have hlt1:w.heap.size < w1.heap.size:=by rw [hw1];simp
 have hbl1:w1.heap[w.heap.size]?=some (.cells #[.bool b.put,.int .i64 b.who,.int .i64 b.op,.int .i64 b.config,.int .i64 b.c.n,.int .i64 b.c.k,.slice p b.c.L.length cap,.string b.key,.string b.text] 26 (0,0)):=by
  rw [hw1]
  show(w.heap.push _)[w.heap.size]?=_
  simp
 have HCE:Hid (∀ W,Below w1.heap.size w1 W->(W.cell? ⟨w.heap.size,0,none⟩=some (.bool b.put)/\W.cell? ⟨w.heap.size,1,none⟩=some (.int .i64 b.who)/\W.cell? ⟨w.heap.size,2,none⟩=some (.int .i64 b.op)/\W.cell? ⟨w.heap.size,3,none⟩=some (.int .i64 b.config)/\W.cell? ⟨w.heap.size,4,none⟩=some (.int .i64 b.c.n)/\W.cell? ⟨w.heap.size,5,none⟩=some (.int .i64 b.c.k)/\W.cell? ⟨w.heap.size,6,none⟩=some (.slice p b.c.L.length cap)/\W.cell? ⟨w.heap.size,7,none⟩=some (.string b.key)/\W.cell? ⟨w.heap.size,8,none⟩=some (.string b.text)/\Below w1.heap.size w1 W)):=fun W hW=>by
  have hb:=(hW.block _ hlt1).trans hbl1
  exact⟨(rblk_cell hb 0).1,(rblk_cell hb 1).1,(rblk_cell hb 2).1,(rblk_cell hb 3).1,(rblk_cell hb 4).1,(rblk_cell hb 5).1,(rblk_cell hb 6).1,(rblk_cell hb 7).1,(rblk_cell hb 8).1,hW⟩
 have HAS:=asked_any hO w1 (fun V hV=>(hi.ok (hb1.trans (hV.mono hb1.size))).1) (fun V hV=>(hi.ok (hb1.trans (hV.mono hb1.size))).2)
 have HLC:Hid (∀ W,Below w1.heap.size w1 W->Calls Tryz.prog 6 #[.agg #[.int .i64 b.c.n,.int .i64 b.c.k,.slice p b.c.L.length cap]] W fun e w'=>e=.returned (.bool (longC b.c))/\Below w1.heap.size w1 w'):=fun W hW=>(longConfig_any b.c p cap W hi.len hi.size ((hi.strs.below hb1).below hW)).mono fun e w' hq=>⟨hq.1,hW.trans (hq.2.mono hW.size)⟩
 have HMF:Hid (∀ W,Below w1.heap.size w1 W->Calls Tryz.prog 7 #[.slice lp l.length lcap] W fun e w'=>e=.returned (.bool (fitsM l))/\Below w1.heap.size w1 w'):=fun W hW=>(messagesFit_any lp l lcap W hi.much ((hi.msgs.below hb1).below hW)).mono fun e w' hq=>⟨hq.1,hW.trans (hq.2.mono hW.size)⟩
 have HW1:Hid (w1=w.alloc (.cells #[.bool b.put,.int .i64 b.who,.int .i64 b.op,.int .i64 b.config,.int .i64 b.c.n,.int .i64 b.c.k,.slice p b.c.L.length cap,.string b.key,.string b.text] 26)):=hw1
 have HB1:Hid (Below w.heap.size w w1):=hb1
 rw [h1] at HLC
 rw [h4] at HMF
 clear hi hO hw1 hb1 hlt1 hbl1
 rcases h3 with h3 | h3
 ·skip
  have q1:decide ((100:Int) < (b.key.size:Int))=false:=decide_eq_false (by omega)
  have q2:decide ((100:Int) < (b.text.size:Int))=false:=decide_eq_false (by omega)
  have q4:decide ((2000:Int) < (b.text.size:Int))=false:=decide_eq_false (by omega)
  go_enter Tryz.func3,Tryz.ntmps3
  go_wp2_with (first | rw [<- HW1.out] | fail)
  refine HAS.mono ?_
  rintro e w2 ⟨rfl,hb2⟩
  obtain⟨d0,d1,d2,d3,d4,d5,d6,d7,d8,_⟩:=HCE.out w2 hb2
  have HB2:Hid (Below w1.heap.size w1 w2):=hb2
  clear hb2 HAS
  go_wp2_with fail
  refine(HLC.out w2 HB2.out).mono ?_
  rintro e w3 ⟨rfl,hb3⟩
  clear d0 d1 d2 d3 d4 d5 d6 d7 d8
  obtain⟨d0,d1,d2,d3,d4,d5,d6,d7,d8,_⟩:=HCE.out w3 hb3
  have HB3:Hid (Below w1.heap.size w1 w3):=hb3
  clear hb3
  go_wp2_with fail
  refine(HMF.out w3 HB3.out).mono ?_
  rintro e w4 ⟨rfl,hb4⟩
  clear d0 d1 d2 d3 d4 d5 d6 d7 d8
  have HB4:Hid (Below w1.heap.size w1 w4):=hb4
  clear hb4
  go_wp2
  go_ret
  exact⟨rfl,HB1.out.trans (HB4.out.mono HB1.out.size)⟩
 ·skip
  have q1:decide ((100:Int) < (b.key.size:Int))=false:=decide_eq_false (by omega)
  have q2:decide ((100:Int) < (b.text.size:Int))=true:=decide_eq_true (by omega)
  have q3:decide ((b.text.size:Int)<=1000)=false:=decide_eq_false (by omega)
  have q4:decide ((2000:Int) < (b.text.size:Int))=false:=decide_eq_false (by omega)
  go_enter Tryz.func3,Tryz.ntmps3
  go_wp2_with (first | rw [<- HW1.out] | fail)
  refine HAS.mono ?_
  rintro e w2 ⟨rfl,hb2⟩
  obtain⟨d0,d1,d2,d3,d4,d5,d6,d7,d8,_⟩:=HCE.out w2 hb2
  have HB2:Hid (Below w1.heap.size w1 w2):=hb2
  clear hb2 HAS
  go_wp2_with fail
  refine(HLC.out w2 HB2.out).mono ?_
  rintro e w3 ⟨rfl,hb3⟩
  clear d0 d1 d2 d3 d4 d5 d6 d7 d8
  obtain⟨d0,d1,d2,d3,d4,d5,d6,d7,d8,_⟩:=HCE.out w3 hb3
  have HB3:Hid (Below w1.heap.size w1 w3):=hb3
  clear hb3
  go_wp2_with fail
  refine(HMF.out w3 HB3.out).mono ?_
  rintro e w4 ⟨rfl,hb4⟩
  clear d0 d1 d2 d3 d4 d5 d6 d7 d8
  have HB4:Hid (Below w1.heap.size w1 w4):=hb4
  clear hb4
  go_wp2
  go_ret
  exact⟨rfl,HB1.out.trans (HB4.out.mono HB1.out.size)⟩
end Go.Proofs.YtmhoiodfppdlnaaGreatDoor
