import Derived.Test.YtghpdhegfnhmkaaGreatDoorS37
import Derived.Test.YtghpdhegfnhmkaaGreatDoorS29
import Derived.Test.YtghpdhegfnhmkaaGreatDoorS7
import Derived.Test.YtghpdhegfnhmkaaGreatDoorS0
import Derived.BigQuiet
namespace Go.Proofs.YtghpdhegfnhmkaaGreatDoor
open Go.RowKit
variable {h:Nat} {S:Nat->Prop} {L:List Kep} {s:Bool} {m:Option Nat} {D:DataW Value} {row:ByteArray->Value} {blk:ByteArray->Nat}
theorem bare_sent (ad:Nat->Addr) (i:Nat) (hi:i < 12):BareIs ad (.iface 218 (.pointer (some (ad i)))) ((i+1:Nat):Int):=Or.inr ⟨i,hi,rfl,rfl⟩
def PutNot (w:World) (ad:Nat->Addr) (c:Int) (e:Ending) (w':World):Prop:=(∃ ev,e=.returned ev/\BareIs ad ev c)/\Below w.heap.size w w'
set_option maxRecDepth 10000 in
set_option maxHeartbeats 1600000 in
theorem put_old {ad:Nat->Addr} {w:World} (hd:HdAt w h S L true m D row blk) (key:ByteArray) (v:Ver) (ht:v.text.size<=maxLen) (hE:HErrs w ad) :
 Calls Tryz.prog 10 #[.pointer (some ⟨h,0,none⟩),.string key,verA v] w fun e w'=>PutNot w ad 10 e w':=by
 obtain ⟨w1,hw1⟩:∃ w1,w1=w.alloc (.cells #[.int .i64 v.n,.int .i64 v.who,.int .i64 v.size,.int .i64 v.at_,.string v.text] 47):=⟨_,rfl⟩
 have HW1:Hid (w1=w.alloc (.cells #[.int .i64 v.n,.int .i64 v.who,.int .i64 v.size,.int .i64 v.at_,.string v.text] 47)):=hw1
 have hb1:Below w.heap.size w w1:=by rw [hw1];exact (Below.refl _ _).alloc (Nat.le_refl _) _
 have hs1:w.heap.size < w1.heap.size:=by rw [hw1];simp
 have b0:w1.cell? ⟨w.heap.size,0,none⟩=some (.int .i64 v.n):=by rw [hw1];simp
 have b1:w1.cell? ⟨w.heap.size,1,none⟩=some (.int .i64 v.who):=by rw [hw1];simp
 have b2:w1.cell? ⟨w.heap.size,2,none⟩=some (.int .i64 v.size):=by rw [hw1];simp
 have b3:w1.cell? ⟨w.heap.size,3,none⟩=some (.int .i64 v.at_):=by rw [hw1];simp
 have b4:w1.cell? ⟨w.heap.size,4,none⟩=some (.string v.text):=by rw [hw1];simp
 have HSE:Hid (Calls Tryz.prog 31 #[.pointer (some ⟨h,0,none⟩)] w1 fun e w'=>e=.returned (.bool true)/\w'=w1):=sealed_any (hd.below hb1)
 have HALL:Hid (∀ W,Below w1.heap.size w1 W->(W.cell? ⟨w.heap.size,0,none⟩=some (.int .i64 v.n)/\W.cell? ⟨w.heap.size,1,none⟩=some (.int .i64 v.who)/\W.cell? ⟨w.heap.size,2,none⟩=some (.int .i64 v.size)/\W.cell? ⟨w.heap.size,3,none⟩=some (.int .i64 v.at_)/\W.cell? ⟨w.heap.size,4,none⟩=some (.string v.text))/\HErrs W ad/\HdAt W h S L true m D row blk/\Below w.heap.size w W):=fun W hW=>⟨⟨(hW.cell (p:=⟨w.heap.size,0,none⟩) hs1).trans b0,(hW.cell (p:=⟨w.heap.size,1,none⟩) hs1).trans b1,(hW.cell (p:=⟨w.heap.size,2,none⟩) hs1).trans b2,(hW.cell (p:=⟨w.heap.size,3,none⟩) hs1).trans b3,(hW.cell (p:=⟨w.heap.size,4,none⟩) hs1).trans b4⟩,(hE.below hb1).below hW,(hd.below hb1).below hW,hb1.trans (hW.mono hb1.size)⟩
 have HCK:Hid (∀ W,Calls Tryz.prog 32 #[.string key] W fun e w'=>e=.returned (.bool (isN key))/\Below W.heap.size W w'):=fun W=>pname_any key W
 have HIB:Hid (∀ W,Calls Tryz.prog 33 #[.agg #[.int .i64 v.n,.int .i64 v.who,.int .i64 v.size,.int .i64 v.at_,.string v.text]] W fun e w'=>e=.returned (.bool (verOk v))/\Below W.heap.size W w'):=fun W=>inBounds_any v W ht
 have HB0:Hid (Below w.heap.size w w1):=hb1
 have e1:=(HALL.out w1 (Below.refl _ _)).2.1
 clear hw1 hb1 b0 b1 b2 b3 b4
 show Calls Tryz.prog 10 #[.pointer (some ⟨h,0,none⟩),.string key,.agg #[.int .i64 v.n,.int .i64 v.who,.int .i64 v.size,.int .i64 v.at_,.string v.text]] w _
 have q9:=e1.c9
 clear HIB HCK
 go_enter Tryz.func10,Tryz.ntmps10
 go_wp2_with fail
 rw [<- HW1.out]
 refine HSE.out.mono ?_
 rintro e w0 ⟨rfl,hw0⟩
 rw [hw0]
 clear hw0 w0 HSE HW1
 go_wp2
 go_ret
 exact ⟨⟨_,rfl,bare_sent ad 9 (by decide)⟩,HB0.out⟩
set_option maxRecDepth 10000 in
set_option maxHeartbeats 1600000 in
theorem put_name {ad:Nat->Addr} {w:World} (hd:HdAt w h S L false m D row blk) (key:ByteArray) (v:Ver) (ht:v.text.size<=maxLen) (hE:HErrs w ad) (hN:isN key=false) :
 Calls Tryz.prog 10 #[.pointer (some ⟨h,0,none⟩),.string key,verA v] w fun e w'=>PutNot w ad 4 e w':=by
 obtain ⟨w1,hw1⟩:∃ w1,w1=w.alloc (.cells #[.int .i64 v.n,.int .i64 v.who,.int .i64 v.size,.int .i64 v.at_,.string v.text] 47):=⟨_,rfl⟩
 have HW1:Hid (w1=w.alloc (.cells #[.int .i64 v.n,.int .i64 v.who,.int .i64 v.size,.int .i64 v.at_,.string v.text] 47)):=hw1
 have hb1:Below w.heap.size w w1:=by rw [hw1];exact (Below.refl _ _).alloc (Nat.le_refl _) _
 have hs1:w.heap.size < w1.heap.size:=by rw [hw1];simp
 have b0:w1.cell? ⟨w.heap.size,0,none⟩=some (.int .i64 v.n):=by rw [hw1];simp
 have b1:w1.cell? ⟨w.heap.size,1,none⟩=some (.int .i64 v.who):=by rw [hw1];simp
 have b2:w1.cell? ⟨w.heap.size,2,none⟩=some (.int .i64 v.size):=by rw [hw1];simp
 have b3:w1.cell? ⟨w.heap.size,3,none⟩=some (.int .i64 v.at_):=by rw [hw1];simp
 have b4:w1.cell? ⟨w.heap.size,4,none⟩=some (.string v.text):=by rw [hw1];simp
 have HSE:Hid (Calls Tryz.prog 31 #[.pointer (some ⟨h,0,none⟩)] w1 fun e w'=>e=.returned (.bool false)/\w'=w1):=sealed_any (hd.below hb1)
 have HALL:Hid (∀ W,Below w1.heap.size w1 W->(W.cell? ⟨w.heap.size,0,none⟩=some (.int .i64 v.n)/\W.cell? ⟨w.heap.size,1,none⟩=some (.int .i64 v.who)/\W.cell? ⟨w.heap.size,2,none⟩=some (.int .i64 v.size)/\W.cell? ⟨w.heap.size,3,none⟩=some (.int .i64 v.at_)/\W.cell? ⟨w.heap.size,4,none⟩=some (.string v.text))/\HErrs W ad/\HdAt W h S L false m D row blk/\Below w.heap.size w W):=fun W hW=>⟨⟨(hW.cell (p:=⟨w.heap.size,0,none⟩) hs1).trans b0,(hW.cell (p:=⟨w.heap.size,1,none⟩) hs1).trans b1,(hW.cell (p:=⟨w.heap.size,2,none⟩) hs1).trans b2,(hW.cell (p:=⟨w.heap.size,3,none⟩) hs1).trans b3,(hW.cell (p:=⟨w.heap.size,4,none⟩) hs1).trans b4⟩,(hE.below hb1).below hW,(hd.below hb1).below hW,hb1.trans (hW.mono hb1.size)⟩
 have HCK:Hid (∀ W,Calls Tryz.prog 32 #[.string key] W fun e w'=>e=.returned (.bool (isN key))/\Below W.heap.size W w'):=fun W=>pname_any key W
 have HIB:Hid (∀ W,Calls Tryz.prog 33 #[.agg #[.int .i64 v.n,.int .i64 v.who,.int .i64 v.size,.int .i64 v.at_,.string v.text]] W fun e w'=>e=.returned (.bool (verOk v))/\Below W.heap.size W w'):=fun W=>inBounds_any v W ht
 have HB0:Hid (Below w.heap.size w w1):=hb1
 have e1:=(HALL.out w1 (Below.refl _ _)).2.1
 clear hw1 hb1 b0 b1 b2 b3 b4
 show Calls Tryz.prog 10 #[.pointer (some ⟨h,0,none⟩),.string key,.agg #[.int .i64 v.n,.int .i64 v.who,.int .i64 v.size,.int .i64 v.at_,.string v.text]] w _
 rw [hN] at HCK
 clear HIB e1
 go_enter Tryz.func10,Tryz.ntmps10
 go_wp2_with fail
 rw [<- HW1.out]
 refine HSE.out.mono ?_
 rintro e w0 ⟨rfl,hw0⟩
 rw [hw0]
 clear hw0 w0 HSE HW1
 go_wp2_with fail
 refine (HCK.out _).mono ?_
 rintro e w3 ⟨rfl,hb3⟩
 have hb13:Below w1.heap.size w1 w3:=hb3
 obtain ⟨⟨c0,c1,c2,c3,c4⟩,he3,hd3,hbw3⟩:=HALL.out w3 hb13
 have q3:=he3.c3
 have HBW3:Hid (Below w.heap.size w w3):=hbw3
 clear hb3 hb13 he3 hd3 hbw3 c0 c1 c2 c3 c4
 go_wp2
 go_ret
 exact ⟨⟨_,rfl,bare_sent ad 3 (by decide)⟩,HBW3.out⟩
set_option maxRecDepth 10000 in
set_option maxHeartbeats 1600000 in
theorem put_bound {ad:Nat->Addr} {w:World} (hd:HdAt w h S L false m D row blk) (key:ByteArray) (v:Ver) (ht:v.text.size<=maxLen) (hE:HErrs w ad) (hN:isN key=true) (hV:verOk v=false) :
 Calls Tryz.prog 10 #[.pointer (some ⟨h,0,none⟩),.string key,verA v] w fun e w'=>PutNot w ad 2 e w':=by
 obtain ⟨w1,hw1⟩:∃ w1,w1=w.alloc (.cells #[.int .i64 v.n,.int .i64 v.who,.int .i64 v.size,.int .i64 v.at_,.string v.text] 47):=⟨_,rfl⟩
 have HW1:Hid (w1=w.alloc (.cells #[.int .i64 v.n,.int .i64 v.who,.int .i64 v.size,.int .i64 v.at_,.string v.text] 47)):=hw1
 have hb1:Below w.heap.size w w1:=by rw [hw1];exact (Below.refl _ _).alloc (Nat.le_refl _) _
 have hs1:w.heap.size < w1.heap.size:=by rw [hw1];simp
 have b0:w1.cell? ⟨w.heap.size,0,none⟩=some (.int .i64 v.n):=by rw [hw1];simp
 have b1:w1.cell? ⟨w.heap.size,1,none⟩=some (.int .i64 v.who):=by rw [hw1];simp
 have b2:w1.cell? ⟨w.heap.size,2,none⟩=some (.int .i64 v.size):=by rw [hw1];simp
 have b3:w1.cell? ⟨w.heap.size,3,none⟩=some (.int .i64 v.at_):=by rw [hw1];simp
 have b4:w1.cell? ⟨w.heap.size,4,none⟩=some (.string v.text):=by rw [hw1];simp
 have HSE:Hid (Calls Tryz.prog 31 #[.pointer (some ⟨h,0,none⟩)] w1 fun e w'=>e=.returned (.bool false)/\w'=w1):=sealed_any (hd.below hb1)
 have HALL:Hid (∀ W,Below w1.heap.size w1 W->(W.cell? ⟨w.heap.size,0,none⟩=some (.int .i64 v.n)/\W.cell? ⟨w.heap.size,1,none⟩=some (.int .i64 v.who)/\W.cell? ⟨w.heap.size,2,none⟩=some (.int .i64 v.size)/\W.cell? ⟨w.heap.size,3,none⟩=some (.int .i64 v.at_)/\W.cell? ⟨w.heap.size,4,none⟩=some (.string v.text))/\HErrs W ad/\HdAt W h S L false m D row blk/\Below w.heap.size w W):=fun W hW=>⟨⟨(hW.cell (p:=⟨w.heap.size,0,none⟩) hs1).trans b0,(hW.cell (p:=⟨w.heap.size,1,none⟩) hs1).trans b1,(hW.cell (p:=⟨w.heap.size,2,none⟩) hs1).trans b2,(hW.cell (p:=⟨w.heap.size,3,none⟩) hs1).trans b3,(hW.cell (p:=⟨w.heap.size,4,none⟩) hs1).trans b4⟩,(hE.below hb1).below hW,(hd.below hb1).below hW,hb1.trans (hW.mono hb1.size)⟩
 have HCK:Hid (∀ W,Calls Tryz.prog 32 #[.string key] W fun e w'=>e=.returned (.bool (isN key))/\Below W.heap.size W w'):=fun W=>pname_any key W
 have HIB:Hid (∀ W,Calls Tryz.prog 33 #[.agg #[.int .i64 v.n,.int .i64 v.who,.int .i64 v.size,.int .i64 v.at_,.string v.text]] W fun e w'=>e=.returned (.bool (verOk v))/\Below W.heap.size W w'):=fun W=>inBounds_any v W ht
 have HB0:Hid (Below w.heap.size w w1):=hb1
 have e1:=(HALL.out w1 (Below.refl _ _)).2.1
 clear hw1 hb1 b0 b1 b2 b3 b4
 show Calls Tryz.prog 10 #[.pointer (some ⟨h,0,none⟩),.string key,.agg #[.int .i64 v.n,.int .i64 v.who,.int .i64 v.size,.int .i64 v.at_,.string v.text]] w _
 rw [hN] at HCK
 rw [hV] at HIB
 clear e1
 go_enter Tryz.func10,Tryz.ntmps10
 go_wp2_with fail
 rw [<- HW1.out]
 refine HSE.out.mono ?_
 rintro e w0 ⟨rfl,hw0⟩
 rw [hw0]
 clear hw0 w0 HSE HW1
 go_wp2_with fail
 refine (HCK.out _).mono ?_
 rintro e w3 ⟨rfl,hb3⟩
 have hb13:Below w1.heap.size w1 w3:=hb3
 obtain ⟨⟨c0,c1,c2,c3,c4⟩,he3,hd3,hbw3⟩:=HALL.out w3 hb13
 clear hb3
 go_wp2_with fail
 refine (HIB.out _).mono ?_
 rintro e w4 ⟨rfl,hb4⟩
 have hb14:Below w1.heap.size w1 w4:=hb13.trans (hb4.mono hb13.size)
 obtain ⟨⟨d0,d1,d2,d3,d4⟩,he4,hd4,hbw4⟩:=HALL.out w4 hb14
 clear hb4 hb13 c0 c1 c2 c3 c4 he3 hd3 hbw3 HIB
 have q1:=he4.c1
 have HBW4:Hid (Below w.heap.size w w4):=hbw4
 clear hb14 d0 d1 d2 d3 d4 he4 hd4 hbw4
 go_wp2
 go_ret
 exact ⟨⟨_,rfl,bare_sent ad 1 (by decide)⟩,HBW4.out⟩
theorem found_at {L:List Kep} (hs:SortedK L) {key:ByteArray} {x v:Ver} (hx:x ∈ getL L key) (hxt:tagOf x=tagOf v):placeV (getL L key) (tagOf v) < (getL L key).length/\verAt (getL L key) (placeV (getL L key) (tagOf v))=x:=by
 obtain ⟨j,hj,rfl⟩:=List.getElem_of_mem hx
 have e:∀ k (hk:k < (getL L key).length),(getL L key)[k]=verAt (getL L key) k:=fun k hk=>by
  have:=verAt_get hk
  rw [List.getElem?_eq_getElem hk] at this
  exact Option.some.inj this
 have hss:=getL_sorted hs key
 have hp:placeV (getL L key) (tagOf v)=j:=by
  refine placeV_at (by omega) (fun i hi=>?_) (fun i hi1 hi2=>?_)
  ·have:=verAt_lt hss hi hj
   rw [<- e j hj,hxt] at this
   exact this
  ·cases hl:lessB (tagOf (verAt (getL L key) i)) (tagOf v)
   ·rfl
   ·rcases Nat.lt_or_ge j i with h1 | h1
    ·have:=verAt_lt hss h1 hi2
     rw [<- e j hj,hxt] at this
     have h2:=lessB_trans this hl
     rw [lessB_irrefl] at h2
     cases h2
    ·obtain rfl:i=j:=by omega
     rw [<- e i hj,hxt,lessB_irrefl] at hl
     cases hl
 rw [hp]
 exact ⟨hj,(e j hj).symm⟩
theorem foundV_true {l:List Ver} {x:Ver} {t:Int×Int} (hx:x ∈ l) (hxt:tagOf x=t):foundV l t=true:=List.any_eq_true.2 ⟨x,hx,decide_eq_true hxt⟩
theorem foundV_false {l:List Ver} {t:Int×Int} (hn:∀ x ∈ l,tagOf x≠t):foundV l t=false:=by
 unfold foundV
 rw [List.any_eq_false]
 intro x hx
 simpa using hn x hx
set_option maxRecDepth 10000 in
set_option maxHeartbeats 1600000 in
theorem put_same {ad:Nat->Addr} {w:World} (hd:HdAt w h S L false m D row blk) (key:ByteArray) (v:Ver) (hk:key.size<=maxLen) (ht:v.text.size<=maxLen) (hE:HErrs w ad) (hN:isN key=true) (hV:verOk v=true) {x:Ver} (hx:x ∈ getL L key) (hxt:tagOf x=tagOf v) (hxv:x=v) :
 Calls Tryz.prog 10 #[.pointer (some ⟨h,0,none⟩),.string key,verA v] w fun e w'=>PutNot w ad 0 e w':=by
 obtain ⟨w1,hw1⟩:∃ w1,w1=w.alloc (.cells #[.int .i64 v.n,.int .i64 v.who,.int .i64 v.size,.int .i64 v.at_,.string v.text] 47):=⟨_,rfl⟩
 have HW1:Hid (w1=w.alloc (.cells #[.int .i64 v.n,.int .i64 v.who,.int .i64 v.size,.int .i64 v.at_,.string v.text] 47)):=hw1
 have hb1:Below w.heap.size w w1:=by rw [hw1];exact (Below.refl _ _).alloc (Nat.le_refl _) _
 have hs1:w.heap.size < w1.heap.size:=by rw [hw1];simp
 have b0:w1.cell? ⟨w.heap.size,0,none⟩=some (.int .i64 v.n):=by rw [hw1];simp
 have b1:w1.cell? ⟨w.heap.size,1,none⟩=some (.int .i64 v.who):=by rw [hw1];simp
 have b2:w1.cell? ⟨w.heap.size,2,none⟩=some (.int .i64 v.size):=by rw [hw1];simp
 have b3:w1.cell? ⟨w.heap.size,3,none⟩=some (.int .i64 v.at_):=by rw [hw1];simp
 have b4:w1.cell? ⟨w.heap.size,4,none⟩=some (.string v.text):=by rw [hw1];simp
 have HSE:Hid (Calls Tryz.prog 31 #[.pointer (some ⟨h,0,none⟩)] w1 fun e w'=>e=.returned (.bool false)/\w'=w1):=sealed_any (hd.below hb1)
 have HALL:Hid (∀ W,Below w1.heap.size w1 W->(W.cell? ⟨w.heap.size,0,none⟩=some (.int .i64 v.n)/\W.cell? ⟨w.heap.size,1,none⟩=some (.int .i64 v.who)/\W.cell? ⟨w.heap.size,2,none⟩=some (.int .i64 v.size)/\W.cell? ⟨w.heap.size,3,none⟩=some (.int .i64 v.at_)/\W.cell? ⟨w.heap.size,4,none⟩=some (.string v.text))/\HErrs W ad/\HdAt W h S L false m D row blk/\Below w.heap.size w W):=fun W hW=>⟨⟨(hW.cell (p:=⟨w.heap.size,0,none⟩) hs1).trans b0,(hW.cell (p:=⟨w.heap.size,1,none⟩) hs1).trans b1,(hW.cell (p:=⟨w.heap.size,2,none⟩) hs1).trans b2,(hW.cell (p:=⟨w.heap.size,3,none⟩) hs1).trans b3,(hW.cell (p:=⟨w.heap.size,4,none⟩) hs1).trans b4⟩,(hE.below hb1).below hW,(hd.below hb1).below hW,hb1.trans (hW.mono hb1.size)⟩
 have HCK:Hid (∀ W,Calls Tryz.prog 32 #[.string key] W fun e w'=>e=.returned (.bool (isN key))/\Below W.heap.size W w'):=fun W=>pname_any key W
 have HIB:Hid (∀ W,Calls Tryz.prog 33 #[.agg #[.int .i64 v.n,.int .i64 v.who,.int .i64 v.size,.int .i64 v.at_,.string v.text]] W fun e w'=>e=.returned (.bool (verOk v))/\Below W.heap.size W w'):=fun W=>inBounds_any v W ht
 have HB0:Hid (Below w.heap.size w w1):=hb1
 have e1:=(HALL.out w1 (Below.refl _ _)).2.1
 clear hw1 hb1 b0 b1 b2 b3 b4
 show Calls Tryz.prog 10 #[.pointer (some ⟨h,0,none⟩),.string key,.agg #[.int .i64 v.n,.int .i64 v.who,.int .i64 v.size,.int .i64 v.at_,.string v.text]] w _
 rw [hN] at HCK
 rw [hV] at HIB
 clear e1
 go_enter Tryz.func10,Tryz.ntmps10
 go_wp2_with fail
 rw [<- HW1.out]
 refine HSE.out.mono ?_
 rintro e w0 ⟨rfl,hw0⟩
 rw [hw0]
 clear hw0 w0 HSE HW1
 go_wp2_with fail
 refine (HCK.out _).mono ?_
 rintro e w3 ⟨rfl,hb3⟩
 have hb13:Below w1.heap.size w1 w3:=hb3
 obtain ⟨⟨c0,c1,c2,c3,c4⟩,he3,hd3,hbw3⟩:=HALL.out w3 hb13
 clear hb3
 go_wp2_with fail
 refine (HIB.out _).mono ?_
 rintro e w4 ⟨rfl,hb4⟩
 have hb14:Below w1.heap.size w1 w4:=hb13.trans (hb4.mono hb13.size)
 obtain ⟨⟨d0,d1,d2,d3,d4⟩,he4,hd4,hbw4⟩:=HALL.out w4 hb14
 clear hb4 hb13 c0 c1 c2 c3 c4 he3 hd3 hbw3 HIB
 have HOF:Hid (Calls Tryz.prog 34 #[.pointer (some ⟨h,0,none⟩),.string key] w4 fun e w'=>e=.returned (row key)/\w'=w4):=of_any hd4 key hk
 obtain ⟨p,c,hrow,hrec,hlc,hpn,hpb⟩:=hd4.form key
 have HPL:Hid (Calls Tryz.prog 35 #[.slice p (getL L key).length c,.agg #[.int .i64 v.n,.int .i64 v.who]] w4 fun e w'=>e=.returned (.tuple #[.int .i64 ((placeV (getL L key) (tagOf v):Nat):Int),.bool (foundV (getL L key) (tagOf v))])/\Below w4.heap.size w4 w'):=place_any p (getL L key) c (tagOf v) w4 (by have:=getL_le L key;have:=hd.few;omega) (getL_sorted hd.sorted key) hrec
 have HROW:Hid (row key=.slice p (getL L key).length c):=hrow
 rw [hrow] at HOF
 go_wp2_with fail
 refine HOF.out.mono ?_
 rintro e w0 ⟨rfl,hw0⟩
 rw [hw0]
 clear hw0 w0 HOF
 go_wp2_with fail
 refine HPL.out.mono ?_
 rintro e w5 ⟨rfl,hb5⟩
 have hb15:Below w1.heap.size w1 w5:=hb14.trans (hb5.mono hb14.size)
 have HREC5:Hid (Rec verE w5 p (getL L key)):=hrec.below hb5
 obtain ⟨⟨f0,f1,f2,f3,f4⟩,he5,hd5,hbw5⟩:=HALL.out w5 hb15
 have HD5:Hid (HdAt w5 h S L false m D row blk):=hd5
 have HB15:Hid (Below w1.heap.size w1 w5):=hb15
 have HBW5:Hid (Below w.heap.size w w5):=hbw5
 clear hb5 hb14 hb15 d0 d1 d2 d3 d4 he4 hd4 hbw4 HPL hrow hrec hpn hpb hd5 hbw5 hlc
 have hlt2:placeV (getL L key) (tagOf v) < (getL L key).length:=(found_at hd.sorted hx hxt).1
 obtain ⟨bb,oo,hpp,hblt,g0,g1,g2,g3,g4⟩:=ver_cells HREC5.out hlt2
 rw [(found_at hd.sorted hx hxt).2] at g0 g1 g2 g3 g4
 rw [foundV_true hx hxt]
 have hfew:(getL L key).length<=60:=Nat.le_trans (getL_le _ _) hd.few
 subst hpp
 generalize placeV (getL L key) (tagOf v)=K at *
 generalize (getL L key).length=n at *
 have hi0:(0:Int)<=(K:Int):=by omega
 have hi1:(K:Int) < (n:Int):=by omega
 clear he5 HREC5 HROW HD5 hd HALL HB15
 subst hxv
 clear hx hxt
 obtain ⟨xn,xw,xs,xa,xt⟩:=x
 go_wp2
 go_quiet (fail)
 go_wp2
 go_ret
 exact ⟨⟨_,rfl,Or.inl ⟨rfl,rfl⟩⟩,HBW5.out.trans ⟨rfl,rfl,rfl,Nat.le_refl _,fun _ _=>rfl⟩⟩
set_option maxRecDepth 10000 in
set_option maxHeartbeats 1600000 in
theorem put_exist {ad:Nat->Addr} {w:World} (hd:HdAt w h S L false m D row blk) (key:ByteArray) (v:Ver) (hk:key.size<=maxLen) (ht:v.text.size<=maxLen) (hE:HErrs w ad) (hN:isN key=true) (hV:verOk v=true) {x:Ver} (hx:x ∈ getL L key) (hxt:tagOf x=tagOf v) (hxv:x≠v) :
 Calls Tryz.prog 10 #[.pointer (some ⟨h,0,none⟩),.string key,verA v] w fun e w'=>PutNot w ad 6 e w':=by
 obtain ⟨w1,hw1⟩:∃ w1,w1=w.alloc (.cells #[.int .i64 v.n,.int .i64 v.who,.int .i64 v.size,.int .i64 v.at_,.string v.text] 47):=⟨_,rfl⟩
 have HW1:Hid (w1=w.alloc (.cells #[.int .i64 v.n,.int .i64 v.who,.int .i64 v.size,.int .i64 v.at_,.string v.text] 47)):=hw1
 have hb1:Below w.heap.size w w1:=by rw [hw1];exact (Below.refl _ _).alloc (Nat.le_refl _) _
 have hs1:w.heap.size < w1.heap.size:=by rw [hw1];simp
 have b0:w1.cell? ⟨w.heap.size,0,none⟩=some (.int .i64 v.n):=by rw [hw1];simp
 have b1:w1.cell? ⟨w.heap.size,1,none⟩=some (.int .i64 v.who):=by rw [hw1];simp
 have b2:w1.cell? ⟨w.heap.size,2,none⟩=some (.int .i64 v.size):=by rw [hw1];simp
 have b3:w1.cell? ⟨w.heap.size,3,none⟩=some (.int .i64 v.at_):=by rw [hw1];simp
 have b4:w1.cell? ⟨w.heap.size,4,none⟩=some (.string v.text):=by rw [hw1];simp
 have HSE:Hid (Calls Tryz.prog 31 #[.pointer (some ⟨h,0,none⟩)] w1 fun e w'=>e=.returned (.bool false)/\w'=w1):=sealed_any (hd.below hb1)
 have HALL:Hid (∀ W,Below w1.heap.size w1 W->(W.cell? ⟨w.heap.size,0,none⟩=some (.int .i64 v.n)/\W.cell? ⟨w.heap.size,1,none⟩=some (.int .i64 v.who)/\W.cell? ⟨w.heap.size,2,none⟩=some (.int .i64 v.size)/\W.cell? ⟨w.heap.size,3,none⟩=some (.int .i64 v.at_)/\W.cell? ⟨w.heap.size,4,none⟩=some (.string v.text))/\HErrs W ad/\HdAt W h S L false m D row blk/\Below w.heap.size w W):=fun W hW=>⟨⟨(hW.cell (p:=⟨w.heap.size,0,none⟩) hs1).trans b0,(hW.cell (p:=⟨w.heap.size,1,none⟩) hs1).trans b1,(hW.cell (p:=⟨w.heap.size,2,none⟩) hs1).trans b2,(hW.cell (p:=⟨w.heap.size,3,none⟩) hs1).trans b3,(hW.cell (p:=⟨w.heap.size,4,none⟩) hs1).trans b4⟩,(hE.below hb1).below hW,(hd.below hb1).below hW,hb1.trans (hW.mono hb1.size)⟩
 have HCK:Hid (∀ W,Calls Tryz.prog 32 #[.string key] W fun e w'=>e=.returned (.bool (isN key))/\Below W.heap.size W w'):=fun W=>pname_any key W
 have HIB:Hid (∀ W,Calls Tryz.prog 33 #[.agg #[.int .i64 v.n,.int .i64 v.who,.int .i64 v.size,.int .i64 v.at_,.string v.text]] W fun e w'=>e=.returned (.bool (verOk v))/\Below W.heap.size W w'):=fun W=>inBounds_any v W ht
 have HB0:Hid (Below w.heap.size w w1):=hb1
 have e1:=(HALL.out w1 (Below.refl _ _)).2.1
 clear hw1 hb1 b0 b1 b2 b3 b4
 show Calls Tryz.prog 10 #[.pointer (some ⟨h,0,none⟩),.string key,.agg #[.int .i64 v.n,.int .i64 v.who,.int .i64 v.size,.int .i64 v.at_,.string v.text]] w _
 rw [hN] at HCK
 rw [hV] at HIB
 clear e1
 go_enter Tryz.func10,Tryz.ntmps10
 go_wp2_with fail
 rw [<- HW1.out]
 refine HSE.out.mono ?_
 rintro e w0 ⟨rfl,hw0⟩
 rw [hw0]
 clear hw0 w0 HSE HW1
 go_wp2_with fail
 refine (HCK.out _).mono ?_
 rintro e w3 ⟨rfl,hb3⟩
 have hb13:Below w1.heap.size w1 w3:=hb3
 obtain ⟨⟨c0,c1,c2,c3,c4⟩,he3,hd3,hbw3⟩:=HALL.out w3 hb13
 clear hb3
 go_wp2_with fail
 refine (HIB.out _).mono ?_
 rintro e w4 ⟨rfl,hb4⟩
 have hb14:Below w1.heap.size w1 w4:=hb13.trans (hb4.mono hb13.size)
 obtain ⟨⟨d0,d1,d2,d3,d4⟩,he4,hd4,hbw4⟩:=HALL.out w4 hb14
 clear hb4 hb13 c0 c1 c2 c3 c4 he3 hd3 hbw3 HIB
 have HOF:Hid (Calls Tryz.prog 34 #[.pointer (some ⟨h,0,none⟩),.string key] w4 fun e w'=>e=.returned (row key)/\w'=w4):=of_any hd4 key hk
 obtain ⟨p,c,hrow,hrec,hlc,hpn,hpb⟩:=hd4.form key
 have HPL:Hid (Calls Tryz.prog 35 #[.slice p (getL L key).length c,.agg #[.int .i64 v.n,.int .i64 v.who]] w4 fun e w'=>e=.returned (.tuple #[.int .i64 ((placeV (getL L key) (tagOf v):Nat):Int),.bool (foundV (getL L key) (tagOf v))])/\Below w4.heap.size w4 w'):=place_any p (getL L key) c (tagOf v) w4 (by have:=getL_le L key;have:=hd.few;omega) (getL_sorted hd.sorted key) hrec
 have HROW:Hid (row key=.slice p (getL L key).length c):=hrow
 rw [hrow] at HOF
 go_wp2_with fail
 refine HOF.out.mono ?_
 rintro e w0 ⟨rfl,hw0⟩
 rw [hw0]
 clear hw0 w0 HOF
 go_wp2_with fail
 refine HPL.out.mono ?_
 rintro e w5 ⟨rfl,hb5⟩
 have hb15:Below w1.heap.size w1 w5:=hb14.trans (hb5.mono hb14.size)
 have HREC5:Hid (Rec verE w5 p (getL L key)):=hrec.below hb5
 obtain ⟨⟨f0,f1,f2,f3,f4⟩,he5,hd5,hbw5⟩:=HALL.out w5 hb15
 have HD5:Hid (HdAt w5 h S L false m D row blk):=hd5
 have HB15:Hid (Below w1.heap.size w1 w5):=hb15
 have HBW5:Hid (Below w.heap.size w w5):=hbw5
 clear hb5 hb14 hb15 d0 d1 d2 d3 d4 he4 hd4 hbw4 HPL hrow hrec hpn hpb hd5 hbw5 hlc
 have hlt2:placeV (getL L key) (tagOf v) < (getL L key).length:=(found_at hd.sorted hx hxt).1
 obtain ⟨bb,oo,hpp,hblt,g0,g1,g2,g3,g4⟩:=ver_cells HREC5.out hlt2
 rw [(found_at hd.sorted hx hxt).2] at g0 g1 g2 g3 g4
 rw [foundV_true hx hxt]
 have hfew:(getL L key).length<=60:=Nat.le_trans (getL_le _ _) hd.few
 subst hpp
 generalize placeV (getL L key) (tagOf v)=K at *
 generalize (getL L key).length=n at *
 have hi0:(0:Int)<=(K:Int):=by omega
 have hi1:(K:Int) < (n:Int):=by omega
 have q5:=he5.c5
 clear he5 HREC5 HROW HD5 hd HALL HB15
 obtain ⟨xn,xw,xs,xa,xt⟩:=x
 obtain ⟨yn,yw,ys,ya,yt⟩:=v
 have hnw:xn=yn/\xw=yw:=by simpa [tagOf] using hxt
 obtain ⟨rfl,rfl⟩:=hnw
 have walk:((xs==ys)=false)∨xs=ys/\(((xa==ya)=false)∨xa=ya/\xt≠yt):=by
  by_cases h3:xs=ys
  ·refine Or.inr ⟨h3,?_⟩
   by_cases h4:xa=ya
   ·refine Or.inr ⟨h4,fun h5=>hxv (by rw [h3,h4,h5])⟩
   ·exact Or.inl (beq_eq_false_iff_ne.2 h4)
  ·exact Or.inl (beq_eq_false_iff_ne.2 h3)
 clear hxv hx hxt
 rcases walk with g | ⟨rfl,g | ⟨rfl,g⟩⟩
 rotate_right
 ·have d1:=toList_ne g
  have d2:=toList_beq g
  have d3:=bytes_beq g
  clear g
  go_wp2
  go_quiet (fail)
  go_wp2
  go_ret
  exact ⟨⟨_,rfl,bare_sent ad 5 (by decide)⟩,HBW5.out.trans ⟨rfl,rfl,rfl,Nat.le_refl _,fun _ _=>rfl⟩⟩
 all_goals
  go_wp2
  go_quiet (fail)
  go_wp2
  go_ret
  exact ⟨⟨_,rfl,bare_sent ad 5 (by decide)⟩,HBW5.out.trans ⟨rfl,rfl,rfl,Nat.le_refl _,fun _ _=>rfl⟩⟩
set_option maxRecDepth 10000 in
set_option maxHeartbeats 1600000 in
theorem put_full {ad:Nat->Addr} {w:World} (hd:HdAt w h S L false m D row blk) (key:ByteArray) (v:Ver) (hk:key.size<=maxLen) (ht:v.text.size<=maxLen) (hE:HErrs w ad) (hN:isN key=true) (hV:verOk v=true) (hn:∀ x ∈ getL L key,tagOf x≠tagOf v) (hF:60<=L.length) :
 Calls Tryz.prog 10 #[.pointer (some ⟨h,0,none⟩),.string key,verA v] w fun e w'=>PutNot w ad 7 e w':=by
 obtain ⟨w1,hw1⟩:∃ w1,w1=w.alloc (.cells #[.int .i64 v.n,.int .i64 v.who,.int .i64 v.size,.int .i64 v.at_,.string v.text] 47):=⟨_,rfl⟩
 have HW1:Hid (w1=w.alloc (.cells #[.int .i64 v.n,.int .i64 v.who,.int .i64 v.size,.int .i64 v.at_,.string v.text] 47)):=hw1
 have hb1:Below w.heap.size w w1:=by rw [hw1];exact (Below.refl _ _).alloc (Nat.le_refl _) _
 have hs1:w.heap.size < w1.heap.size:=by rw [hw1];simp
 have b0:w1.cell? ⟨w.heap.size,0,none⟩=some (.int .i64 v.n):=by rw [hw1];simp
 have b1:w1.cell? ⟨w.heap.size,1,none⟩=some (.int .i64 v.who):=by rw [hw1];simp
 have b2:w1.cell? ⟨w.heap.size,2,none⟩=some (.int .i64 v.size):=by rw [hw1];simp
 have b3:w1.cell? ⟨w.heap.size,3,none⟩=some (.int .i64 v.at_):=by rw [hw1];simp
 have b4:w1.cell? ⟨w.heap.size,4,none⟩=some (.string v.text):=by rw [hw1];simp
 have HSE:Hid (Calls Tryz.prog 31 #[.pointer (some ⟨h,0,none⟩)] w1 fun e w'=>e=.returned (.bool false)/\w'=w1):=sealed_any (hd.below hb1)
 have HALL:Hid (∀ W,Below w1.heap.size w1 W->(W.cell? ⟨w.heap.size,0,none⟩=some (.int .i64 v.n)/\W.cell? ⟨w.heap.size,1,none⟩=some (.int .i64 v.who)/\W.cell? ⟨w.heap.size,2,none⟩=some (.int .i64 v.size)/\W.cell? ⟨w.heap.size,3,none⟩=some (.int .i64 v.at_)/\W.cell? ⟨w.heap.size,4,none⟩=some (.string v.text))/\HErrs W ad/\HdAt W h S L false m D row blk/\Below w.heap.size w W):=fun W hW=>⟨⟨(hW.cell (p:=⟨w.heap.size,0,none⟩) hs1).trans b0,(hW.cell (p:=⟨w.heap.size,1,none⟩) hs1).trans b1,(hW.cell (p:=⟨w.heap.size,2,none⟩) hs1).trans b2,(hW.cell (p:=⟨w.heap.size,3,none⟩) hs1).trans b3,(hW.cell (p:=⟨w.heap.size,4,none⟩) hs1).trans b4⟩,(hE.below hb1).below hW,(hd.below hb1).below hW,hb1.trans (hW.mono hb1.size)⟩
 have HCK:Hid (∀ W,Calls Tryz.prog 32 #[.string key] W fun e w'=>e=.returned (.bool (isN key))/\Below W.heap.size W w'):=fun W=>pname_any key W
 have HIB:Hid (∀ W,Calls Tryz.prog 33 #[.agg #[.int .i64 v.n,.int .i64 v.who,.int .i64 v.size,.int .i64 v.at_,.string v.text]] W fun e w'=>e=.returned (.bool (verOk v))/\Below W.heap.size W w'):=fun W=>inBounds_any v W ht
 have HB0:Hid (Below w.heap.size w w1):=hb1
 have e1:=(HALL.out w1 (Below.refl _ _)).2.1
 clear hw1 hb1 b0 b1 b2 b3 b4
 show Calls Tryz.prog 10 #[.pointer (some ⟨h,0,none⟩),.string key,.agg #[.int .i64 v.n,.int .i64 v.who,.int .i64 v.size,.int .i64 v.at_,.string v.text]] w _
 rw [hN] at HCK
 rw [hV] at HIB
 clear e1
 go_enter Tryz.func10,Tryz.ntmps10
 go_wp2_with fail
 rw [<- HW1.out]
 refine HSE.out.mono ?_
 rintro e w0 ⟨rfl,hw0⟩
 rw [hw0]
 clear hw0 w0 HSE HW1
 go_wp2_with fail
 refine (HCK.out _).mono ?_
 rintro e w3 ⟨rfl,hb3⟩
 have hb13:Below w1.heap.size w1 w3:=hb3
 obtain ⟨⟨c0,c1,c2,c3,c4⟩,he3,hd3,hbw3⟩:=HALL.out w3 hb13
 clear hb3
 go_wp2_with fail
 refine (HIB.out _).mono ?_
 rintro e w4 ⟨rfl,hb4⟩
 have hb14:Below w1.heap.size w1 w4:=hb13.trans (hb4.mono hb13.size)
 obtain ⟨⟨d0,d1,d2,d3,d4⟩,he4,hd4,hbw4⟩:=HALL.out w4 hb14
 clear hb4 hb13 c0 c1 c2 c3 c4 he3 hd3 hbw3 HIB
 have HOF:Hid (Calls Tryz.prog 34 #[.pointer (some ⟨h,0,none⟩),.string key] w4 fun e w'=>e=.returned (row key)/\w'=w4):=of_any hd4 key hk
 obtain ⟨p,c,hrow,hrec,hlc,hpn,hpb⟩:=hd4.form key
 have HPL:Hid (Calls Tryz.prog 35 #[.slice p (getL L key).length c,.agg #[.int .i64 v.n,.int .i64 v.who]] w4 fun e w'=>e=.returned (.tuple #[.int .i64 ((placeV (getL L key) (tagOf v):Nat):Int),.bool (foundV (getL L key) (tagOf v))])/\Below w4.heap.size w4 w'):=place_any p (getL L key) c (tagOf v) w4 (by have:=getL_le L key;have:=hd.few;omega) (getL_sorted hd.sorted key) hrec
 have HROW:Hid (row key=.slice p (getL L key).length c):=hrow
 rw [hrow] at HOF
 go_wp2_with fail
 refine HOF.out.mono ?_
 rintro e w0 ⟨rfl,hw0⟩
 rw [hw0]
 clear hw0 w0 HOF
 go_wp2_with fail
 refine HPL.out.mono ?_
 rintro e w5 ⟨rfl,hb5⟩
 have hb15:Below w1.heap.size w1 w5:=hb14.trans (hb5.mono hb14.size)
 have HREC5:Hid (Rec verE w5 p (getL L key)):=hrec.below hb5
 obtain ⟨⟨f0,f1,f2,f3,f4⟩,he5,hd5,hbw5⟩:=HALL.out w5 hb15
 have HD5:Hid (HdAt w5 h S L false m D row blk):=hd5
 have HB15:Hid (Below w1.heap.size w1 w5):=hb15
 have HBW5:Hid (Below w.heap.size w w5):=hbw5
 clear hb5 hb14 hb15 d0 d1 d2 d3 d4 he4 hd4 hbw4 HPL hrow hrec hpn hpb hd5 hbw5 hlc
 rw [foundV_false hn]
 have hfew:(getL L key).length<=60:=Nat.le_trans (getL_le _ _) hd.few
 have HCN:Hid (∀ W,Below w5.heap.size w5 W->Calls Tryz.prog 36 #[.pointer (some ⟨h,0,none⟩)] W fun e w'=>e=.returned (.int .i64 (L.length:Int))/\Below W.heap.size W w'):=fun W hW=>count_any (HD5.out.below hW)
 have HE5:Hid (HErrs w5 ad):=he5
 generalize placeV (getL L key) (tagOf v)=K at *
 generalize (getL L key).length=n at *
 have hc60:(60:Int)<=(L.length:Int):=by omega
 clear he5 HREC5 HROW HD5 hd HALL HB15 hF hn
 generalize L.length=N at *
 go_wp2
 go_quiet (fail)
 go_wp2_with fail
 refine (HCN.out (w5.drewN nq) ⟨rfl,rfl,rfl,Nat.le_refl _,fun _ _=>rfl⟩).mono ?_
 rintro e w6 ⟨rfl,hb6⟩
 have hb56:Below w5.heap.size w5 w6:=⟨hb6.os,hb6.tape,hb6.output,hb6.size,hb6.block⟩
 have q6:=(HE5.out.below hb56).c6
 have HB6:Hid (Below w.heap.size w w6):=HBW5.out.trans (hb56.mono HBW5.out.size)
 clear hb6 hb56
 go_wp2
 go_ret
 exact ⟨⟨_,rfl,bare_sent ad 6 (by decide)⟩,HB6.out⟩
theorem set_after {w w8 w9:World} (hd:HdAt w h S L false m D row blk) (key:ByteArray) (v:Ver) (hk:isN key=true) (hG:GoodL (putL L key v)) (hb:Below w.heap.size w w8) {v':Value} (hO:OwnR verE 47 w9 0 v' (insV (getL L key) (placeV (getL L key) (tagOf v)) v)) (hg:w8.grownBy w9 (row key).ownBlock) (hwh:(v'.ownBlock=(row key).ownBlock/\(row key).ownBlock≠none)∨∃ k,v'.ownBlock=some k/\w8.heap.size<=k) :
 Calls Tryz.prog 37 #[.pointer (some ⟨h,0,none⟩),.string key,v'] w9 fun e w'=>e=.returned (.tuple #[])/\HdOf w' h (grownS S w w') (putL L key v) false/\Upd S (grownS S w w') w w':=by
 have hd8:=hd.below hb
 have hhlt:h < w.heap.size:=hd.inS h hd.self
 have hsz:=hb.size
 have hrh:some h≠(row key).ownBlock:=fun e=>by
  obtain ⟨_,h2,h3⟩:=hd.rowS e.symm
  exact (hd.inB key h2).2.2.1 h3.symm
 have hblk:w9.heap[h]?=w8.heap[h]?:=hg.block h (by omega) hrh
 have q0:=(cell_same hblk 0).1.trans hd8.ptr
 have q1:=(cell_same hblk 1).1.trans hd8.shut
 have f0:=(cell_same hblk 0).2.trans hd8.free0
 have f1:=(cell_same hblk 1).2.trans hd8.free1
 have hksz:=isN_size hk
 obtain ⟨p',c',hv',_,_,_,_⟩:=hO.form
 have hpl:placeV (getL L key) (tagOf v)<=(getL L key).length:=List.findIdx_le_length
 have hlen:=insV_length hpl v
 have hgl:=getL_le L key
 have hfew:=hd.few
 cases hm:m with
 | some b =>
  subst hm
  obtain ⟨hSb,hbh,⟨n,hown⟩,h4,h5⟩:=hd8.mapS b rfl
  have hrb:some b≠(row key).ownBlock:=fun e=>by
   obtain ⟨_,h2,h3⟩:=hd.rowS e.symm
   exact (hd.inB key h2).2.2.2 b rfl h3.symm
  have hblt:b < w.heap.size:=hd.inS b hSb
  have hown9:OwnM w9 b (Maps.size D) D:=(OwnM.tight hown).same (hg.block b (by omega) hrb)
  have hsd:=hd.size rfl
  have hc:=set_some h b (Maps.size D) D key p' (insV (getL L key) (placeV (getL L key) (tagOf v)) v).length c' w9 (by omega) (by omega) (by omega) q0 hown9 (by unfold maxLen;omega)
  rw [<- hv'] at hc
  refine hc.mono fun e w' hpost=>?_
  obtain ⟨he,hset⟩:=hpost
  exact ⟨he,hd.put key v hG hb hO hg hwh (setAt_some hbh q0 q1 f0 f1 hset) (Or.inl rfl) (World.ownsMap.isMap hown) h4 h5⟩
 | none =>
  subst hm
  have hL:=hd.nothing rfl
  have hc:=set_none h key p' (insV (getL L key) (placeV (getL L key) (tagOf v)) v).length c' w9 (by omega) (by omega) (by omega) q0 f0
  rw [<- hv'] at hc
  refine hc.mono fun e w' hpost=>?_
  obtain ⟨he,hset⟩:=hpost
  refine ⟨he,hd.put key v hG hb hO hg hwh (setAt_none q0 q1 f0 f1 hset) (Or.inr ⟨rfl,Nat.le_refl _⟩) Maps.isMap_empty (fun x _=>?_) (fun x hx=>?_)⟩
  ·rw [hL]
   rfl
  ·rw [hL] at hx
   exact absurd rfl hx
set_option maxRecDepth 10000 in
set_option maxHeartbeats 1600000 in
theorem put_in {ad:Nat->Addr} {w:World} (hd:HdAt w h S L false m D row blk) (key:ByteArray) (v:Ver) (hk:key.size<=maxLen) (ht:v.text.size<=maxLen) (hE:HErrs w ad) (hN:isN key=true) (hV:verOk v=true) (hn:∀ x ∈ getL L key,tagOf x≠tagOf v) (hF:L.length < 60) (hG:GoodL (putL L key v)) :
 Calls Tryz.prog 10 #[.pointer (some ⟨h,0,none⟩),.string key,verA v] w fun e w'=>e=.returned .nilIface/\HdOf w' h (grownS S w w') (putL L key v) false/\Upd S (grownS S w w') w w':=by
 obtain ⟨w1,hw1⟩:∃ w1,w1=w.alloc (.cells #[.int .i64 v.n,.int .i64 v.who,.int .i64 v.size,.int .i64 v.at_,.string v.text] 47):=⟨_,rfl⟩
 have HW1:Hid (w1=w.alloc (.cells #[.int .i64 v.n,.int .i64 v.who,.int .i64 v.size,.int .i64 v.at_,.string v.text] 47)):=hw1
 have hb1:Below w.heap.size w w1:=by rw [hw1];exact (Below.refl _ _).alloc (Nat.le_refl _) _
 have hs1:w.heap.size < w1.heap.size:=by rw [hw1];simp
 have b0:w1.cell? ⟨w.heap.size,0,none⟩=some (.int .i64 v.n):=by rw [hw1];simp
 have b1:w1.cell? ⟨w.heap.size,1,none⟩=some (.int .i64 v.who):=by rw [hw1];simp
 have b2:w1.cell? ⟨w.heap.size,2,none⟩=some (.int .i64 v.size):=by rw [hw1];simp
 have b3:w1.cell? ⟨w.heap.size,3,none⟩=some (.int .i64 v.at_):=by rw [hw1];simp
 have b4:w1.cell? ⟨w.heap.size,4,none⟩=some (.string v.text):=by rw [hw1];simp
 have HSE:Hid (Calls Tryz.prog 31 #[.pointer (some ⟨h,0,none⟩)] w1 fun e w'=>e=.returned (.bool false)/\w'=w1):=sealed_any (hd.below hb1)
 have HALL:Hid (∀ W,Below w1.heap.size w1 W->(W.cell? ⟨w.heap.size,0,none⟩=some (.int .i64 v.n)/\W.cell? ⟨w.heap.size,1,none⟩=some (.int .i64 v.who)/\W.cell? ⟨w.heap.size,2,none⟩=some (.int .i64 v.size)/\W.cell? ⟨w.heap.size,3,none⟩=some (.int .i64 v.at_)/\W.cell? ⟨w.heap.size,4,none⟩=some (.string v.text))/\HErrs W ad/\HdAt W h S L false m D row blk/\Below w.heap.size w W):=fun W hW=>⟨⟨(hW.cell (p:=⟨w.heap.size,0,none⟩) hs1).trans b0,(hW.cell (p:=⟨w.heap.size,1,none⟩) hs1).trans b1,(hW.cell (p:=⟨w.heap.size,2,none⟩) hs1).trans b2,(hW.cell (p:=⟨w.heap.size,3,none⟩) hs1).trans b3,(hW.cell (p:=⟨w.heap.size,4,none⟩) hs1).trans b4⟩,(hE.below hb1).below hW,(hd.below hb1).below hW,hb1.trans (hW.mono hb1.size)⟩
 have HCK:Hid (∀ W,Calls Tryz.prog 32 #[.string key] W fun e w'=>e=.returned (.bool (isN key))/\Below W.heap.size W w'):=fun W=>pname_any key W
 have HIB:Hid (∀ W,Calls Tryz.prog 33 #[.agg #[.int .i64 v.n,.int .i64 v.who,.int .i64 v.size,.int .i64 v.at_,.string v.text]] W fun e w'=>e=.returned (.bool (verOk v))/\Below W.heap.size W w'):=fun W=>inBounds_any v W ht
 have HB0:Hid (Below w.heap.size w w1):=hb1
 have e1:=(HALL.out w1 (Below.refl _ _)).2.1
 clear hw1 hb1 b0 b1 b2 b3 b4
 show Calls Tryz.prog 10 #[.pointer (some ⟨h,0,none⟩),.string key,.agg #[.int .i64 v.n,.int .i64 v.who,.int .i64 v.size,.int .i64 v.at_,.string v.text]] w _
 rw [hN] at HCK
 rw [hV] at HIB
 clear e1
 go_enter Tryz.func10,Tryz.ntmps10
 go_wp2_with fail
 rw [<- HW1.out]
 refine HSE.out.mono ?_
 rintro e w0 ⟨rfl,hw0⟩
 rw [hw0]
 clear hw0 w0 HSE HW1
 go_wp2_with fail
 refine (HCK.out _).mono ?_
 rintro e w3 ⟨rfl,hb3⟩
 have hb13:Below w1.heap.size w1 w3:=hb3
 obtain ⟨⟨c0,c1,c2,c3,c4⟩,he3,hd3,hbw3⟩:=HALL.out w3 hb13
 clear hb3
 go_wp2_with fail
 refine (HIB.out _).mono ?_
 rintro e w4 ⟨rfl,hb4⟩
 have hb14:Below w1.heap.size w1 w4:=hb13.trans (hb4.mono hb13.size)
 obtain ⟨⟨d0,d1,d2,d3,d4⟩,he4,hd4,hbw4⟩:=HALL.out w4 hb14
 clear hb4 hb13 c0 c1 c2 c3 c4 he3 hd3 hbw3 HIB
 have HOF:Hid (Calls Tryz.prog 34 #[.pointer (some ⟨h,0,none⟩),.string key] w4 fun e w'=>e=.returned (row key)/\w'=w4):=of_any hd4 key hk
 obtain ⟨p,c,hrow,hrec,hlc,hpn,hpb⟩:=hd4.form key
 have HPL:Hid (Calls Tryz.prog 35 #[.slice p (getL L key).length c,.agg #[.int .i64 v.n,.int .i64 v.who]] w4 fun e w'=>e=.returned (.tuple #[.int .i64 ((placeV (getL L key) (tagOf v):Nat):Int),.bool (foundV (getL L key) (tagOf v))])/\Below w4.heap.size w4 w'):=place_any p (getL L key) c (tagOf v) w4 (by have:=getL_le L key;have:=hd.few;omega) (getL_sorted hd.sorted key) hrec
 have HROW:Hid (row key=.slice p (getL L key).length c):=hrow
 rw [hrow] at HOF
 go_wp2_with fail
 refine HOF.out.mono ?_
 rintro e w0 ⟨rfl,hw0⟩
 rw [hw0]
 clear hw0 w0 HOF
 go_wp2_with fail
 refine HPL.out.mono ?_
 rintro e w5 ⟨rfl,hb5⟩
 have hb15:Below w1.heap.size w1 w5:=hb14.trans (hb5.mono hb14.size)
 have HREC5:Hid (Rec verE w5 p (getL L key)):=hrec.below hb5
 obtain ⟨⟨f0,f1,f2,f3,f4⟩,he5,hd5,hbw5⟩:=HALL.out w5 hb15
 have HD5:Hid (HdAt w5 h S L false m D row blk):=hd5
 have HB15:Hid (Below w1.heap.size w1 w5):=hb15
 have HBW5:Hid (Below w.heap.size w w5):=hbw5
 clear hb5 hb14 hb15 d0 d1 d2 d3 d4 he4 hd4 hbw4 HPL hrow hrec hpn hpb hd5 hbw5 hlc
 rw [foundV_false hn]
 have hfew:(getL L key).length<=60:=Nat.le_trans (getL_le _ _) hd.few
 have HCN:Hid (∀ W,Below w5.heap.size w5 W->Calls Tryz.prog 36 #[.pointer (some ⟨h,0,none⟩)] W fun e w'=>e=.returned (.int .i64 (L.length:Int))/\Below W.heap.size W w'):=fun W hW=>count_any (HD5.out.below hW)
 have hlt60:¬ (60:Int)<=(L.length:Int):=by omega
 have hpl:placeV (getL L key) (tagOf v)<=(getL L key).length:=List.findIdx_le_length
 have HIN:Hid (∀ w7,Below w5.heap.size w5 w7->Calls Tryz.prog 38 #[.slice p (getL L key).length c,.int .i64 ((placeV (getL L key) (tagOf v):Nat):Int),.slice (some ⟨w7.heap.size,0,none⟩) 1 1] (w7.alloc (.cells #[.int .i64 v.n,.int .i64 v.who,.int .i64 v.size,.int .i64 v.at_,.string v.text] 47)) fun e w'=>InsOk (w7.alloc (.cells #[.int .i64 v.n,.int .i64 v.who,.int .i64 v.size,.int .i64 v.at_,.string v.text] 47)) w' (.slice p (getL L key).length c) (getL L key) (placeV (getL L key) (tagOf v)) v e):=fun w7 hb7=>by
  have hd8:=(HD5.out.below hb7).below ((Below.refl _ _).alloc (Nat.le_refl _) (.cells #[.int .i64 v.n,.int .i64 v.who,.int .i64 v.size,.int .i64 v.at_,.string v.text] 47))
  have hO:=hd8.own key
  rw [HROW.out] at hO
  refine insert_any _ (getL L key) _ v w7.heap.size 1 #[.int .i64 v.n,.int .i64 v.who,.int .i64 v.size,.int .i64 v.at_,.string v.text] 47 _ (by omega) hpl hO (fun j u hj=>?_) (fun k hk e=>?_) (heap_alloc_new _ _)
  ·rw [World.cell?_alloc_at _ _ _ _ rfl]
   match j,hj with
   | 0,hj=>exact hj
   | 1,hj=>exact hj
   | 2,hj=>exact hj
   | 3,hj=>exact hj
   | 4,hj=>exact hj
  ·rw [<- HROW.out] at hk
   have h1:=HD5.out.inS k (HD5.out.rowS hk).1
   have h2:=hb7.size
   omega
 have HSA:Hid (∀ w8 w9 v',Below w5.heap.size w5 w8->OwnR verE 47 w9 0 v' (insV (getL L key) (placeV (getL L key) (tagOf v)) v)->w8.grownBy w9 (Value.slice p (getL L key).length c).ownBlock->((v'.ownBlock=(Value.slice p (getL L key).length c).ownBlock/\(Value.slice p (getL L key).length c).ownBlock≠none)∨∃ k,v'.ownBlock=some k/\w8.heap.size<=k)->Calls Tryz.prog 37 #[.pointer (some ⟨h,0,none⟩),.string key,v'] w9 fun e w'=>e=.returned (.tuple #[])/\HdOf w' h (grownS S w w') (putL L key v) false/\Upd S (grownS S w w') w w'):=fun w8 w9 v' h1 h2 h3 h4=>set_after hd key v hN hG (HBW5.out.trans (h1.mono HBW5.out.size)) h2 (by rw [HROW.out];exact h3) (by rw [HROW.out];exact h4)
 have HCP:Hid (∀ W,Calls Tryz.prog 39 #[.agg #[.int .i64 v.n,.int .i64 v.who,.int .i64 v.size,.int .i64 v.at_,.string v.text]] W fun e w'=>e=.returned (.agg #[.int .i64 v.n,.int .i64 v.who,.int .i64 v.size,.int .i64 v.at_,.string v.text])/\Below W.heap.size W w'):=fun W=>copied_any v W (by have:=verOk_text hV;omega)
 have HC5:Hid (∀ W,Below w5.heap.size w5 W->W.cell? ⟨w.heap.size,0,none⟩=some (.int .i64 v.n)/\W.cell? ⟨w.heap.size,1,none⟩=some (.int .i64 v.who)/\W.cell? ⟨w.heap.size,2,none⟩=some (.int .i64 v.size)/\W.cell? ⟨w.heap.size,3,none⟩=some (.int .i64 v.at_)/\W.cell? ⟨w.heap.size,4,none⟩=some (.string v.text)):=fun W hW=>(HALL.out W (HB15.out.trans (hW.mono HB15.out.size))).1
 generalize placeV (getL L key) (tagOf v)=K at *
 clear hG he5 HREC5 HROW HD5 hd HALL HB15 hn hpl hF
 generalize L.length=N at *
 go_wp2
 go_quiet (fail)
 go_wp2_with fail
 refine (HCN.out (w5.drewN nq) ⟨rfl,rfl,rfl,Nat.le_refl _,fun _ _=>rfl⟩).mono ?_
 rintro e w6 ⟨rfl,hb6⟩
 have hb56:Below w5.heap.size w5 w6:=⟨hb6.os,hb6.tape,hb6.output,hb6.size,hb6.block⟩
 obtain ⟨k0,k1,k2,k3,k4⟩:=HC5.out w6 hb56
 have HB56:Hid (Below w5.heap.size w5 w6):=hb56
 clear hb6 hb56 f0 f1 f2 f3 f4 HCN
 go_wp2_with fail
 refine (HCP.out _).mono ?_
 rintro e w7 ⟨rfl,hb7⟩
 have HB57:Hid (Below w5.heap.size w5 w7):=HB56.out.trans (hb7.mono HB56.out.size)
 clear hb7 k0 k1 k2 k3 k4 HCP
 go_wp2_with fail
 refine (HIN.out w7 HB57.out).mono ?_
 rintro e w9 ⟨v',rfl,hO9,hg9,hwh9⟩
 have HO9:=HSA.out (w7.alloc (.cells #[.int .i64 v.n,.int .i64 v.who,.int .i64 v.size,.int .i64 v.at_,.string v.text] 47)) w9 v' (HB57.out.alloc HB57.out.size _) hO9 hg9 hwh9
 have HO10:Hid (Calls Tryz.prog 37 #[.pointer (some ⟨h,0,none⟩),.string key,v'] w9 fun e w'=>e=.returned (.tuple #[])/\HdOf w' h (grownS S w w') (putL L key v) false/\Upd S (grownS S w w') w w'):=HO9
 clear HO9 hO9 hg9 hwh9 HSA HIN
 go_wp2_with fail
 refine HO10.out.mono ?_
 rintro e w10 ⟨rfl,hH⟩
 have HH:Hid (HdOf w10 h (grownS S w w10) (putL L key v) false/\Upd S (grownS S w w10) w w10):=hH
 clear hH
 go_wp2
 go_ret
 exact ⟨rfl,HH.out⟩
theorem put_any {ad:Nat->Addr} {w:World} (hd:HdOf w h S L s) (key:ByteArray) (v:Ver) (hk:key.size<=maxLen) (ht:v.text.size<=maxLen) (hE:HErrs w ad) :
 Calls Tryz.prog 10 #[.pointer (some ⟨h,0,none⟩),.string key,verA v] w fun e w'=>(∃ ev,e=.returned ev/\BareIs ad ev (putR L s key v).1)/\∃ S',HdOf w' h S' (putR L s key v).2 s/\Upd S S' w w':=by
 have hGL:∀ {m D row blk},HdAt w h S L s m D row blk->GoodL L:=fun h=>⟨h.sorted,h.few,h.fits⟩
 have not:∀ (c:Int),0 < c->putErr L s key v=c->Calls Tryz.prog 10 #[.pointer (some ⟨h,0,none⟩),.string key,verA v] w (fun e w'=>PutNot w ad c e w')->Calls Tryz.prog 10 #[.pointer (some ⟨h,0,none⟩),.string key,verA v] w fun e w'=>(∃ ev,e=.returned ev/\BareIs ad ev (putR L s key v).1)/\∃ S',HdOf w' h S' (putR L s key v).2 s/\Upd S S' w w':=fun c hc he hcall=>by
  have e1:putR L s key v=(c,L):=by unfold putR;rw [he,if_neg (by omega),if_neg (by omega)]
  rw [e1]
  refine hcall.mono fun e w' hp=>?_
  obtain ⟨h1,h2⟩:=hp
  exact ⟨h1,S,hd.below h2,Upd.of_below h2⟩
 obtain ⟨m,D,row,blk,hda⟩:=hd
 have hG:=hGL hda
 cases s with
 | true=>exact not 10 (by decide) (if_pos rfl) (put_old hda key v ht hE)
 | false =>
  cases hN:isN key with
  | false=>exact not 4 (by decide) (by unfold putErr;rw [if_neg (by decide),if_neg (by rw [hN];decide)]) (put_name hda key v ht hE hN)
  | true =>
   cases hV:verOk v with
   | false=>exact not 2 (by decide) (by unfold putErr;rw [if_neg (by decide),if_pos hN,if_neg (by rw [hV];decide)]) (put_bound hda key v ht hE hN hV)
   | true =>
    have hpe:putErr L false key v=putScan L key v 0 L.length:=by unfold putErr;rw [if_neg (by decide),if_pos hN,if_pos hV]
    by_cases hx:∃ x ∈ getL L key,tagOf x=tagOf v
    ·obtain ⟨x,hx,hxt⟩:=hx
     have hsc:=putScan_there hda.sorted hx hxt
     by_cases hxv:x=v
     ·have e1:putR L false key v=(0,L):=by unfold putR;rw [hpe,hsc,if_pos hxv,if_neg (by decide),if_pos (by decide)]
      rw [e1]
      refine (put_same hda key v hk ht hE hN hV hx hxt hxv).mono fun e w' hp=>?_
      obtain ⟨h1,h2⟩:=hp
      exact ⟨h1,S,HdOf.below ⟨m,D,row,blk,hda⟩ h2,Upd.of_below h2⟩
     ·exact not 6 (by decide) (by rw [hpe,hsc,if_neg hxv]) (put_exist hda key v hk ht hE hN hV hx hxt hxv)
    ·have hn:∀ x ∈ getL L key,tagOf x≠tagOf v:=fun x h1 h2=>hx ⟨x,h1,h2⟩
     have hsc:=putScan_none hn L.length 0 (by omega)
     by_cases hF:60<=L.length
     ·exact not 7 (by decide) (by rw [hpe,hsc,if_pos hF]) (put_full hda key v hk ht hE hN hV hn hF)
     ·have h0:putErr L false key v=0:=by rw [hpe,hsc,if_neg hF]
      have e1:putR L false key v=(0,putL L key v):=by unfold putR;rw [if_pos h0]
      rw [e1]
      refine (put_in hda key v hk ht hE hN hV hn (by omega) (hG.put h0).1).mono fun e w' hp=>?_
      obtain ⟨h1,h2⟩:=hp
      exact ⟨⟨_,h1,Or.inl ⟨rfl,rfl⟩⟩,_,h2⟩
end Go.Proofs.YtghpdhegfnhmkaaGreatDoor
