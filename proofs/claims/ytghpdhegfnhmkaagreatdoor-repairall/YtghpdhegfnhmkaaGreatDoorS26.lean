import Derived.Test.YtghpdhegfnhmkaaGreatDoorS5
import Derived.Test.YtghpdhegfnhmkaaGreatDoorS4
import Derived.Test.YtghpdhegfnhmkaaGreatDoorS25
import Derived.Test.YtghpdhegfnhmkaaGreatDoorS0
import Derived.BigQuiet
namespace Go.Proofs.YtghpdhegfnhmkaaGreatDoor
open Go.RowKit
variable {h:Nat} {S:Nat->Prop} {L:List Kep} {s:Bool} {m:Option Nat} {D:DataW Value} {row:ByteArray->Value} {blk:ByteArray->Nat}
set_option maxRecDepth 10000 in
theorem all_any {w:World} (hd:HdAt w h S L s m D row blk):Calls Tryz.prog 53 #[.pointer (some ⟨h,0,none⟩)] w fun e w'=>e=.returned (.map m)/\w'=w:=by
 have q0:=hd.ptr
 clear hd
 go_enter Tryz.func53,Tryz.ntmps53
 go_wp2
 go_ret
 exact ⟨rfl,rfl⟩
set_option maxRecDepth 10000 in
theorem of_any {w:World} (hd:HdAt w h S L s m D row blk) (key:ByteArray) (hk:key.size<=maxLen):Calls Tryz.prog 34 #[.pointer (some ⟨h,0,none⟩),.string key] w fun e w'=>e=.returned (row key)/\w'=w:=by
 have hlook:=hd.look hk
 have HA:Hid (Calls Tryz.prog 53 #[.pointer (some ⟨h,0,none⟩)] w fun e w'=>e=.returned (.map m)/\w'=w):=all_any hd
 clear hd
 generalize row key=r at *
 go_enter Tryz.func34,Tryz.ntmps34
 go_wp2_with fail
 refine HA.out.mono ?_
 rintro e w1 ⟨rfl,hw1⟩
 rw [hw1]
 clear hw1 w1 HA
 go_wp2
 go_ret
 exact ⟨rfl,rfl⟩
set_option maxRecDepth 10000 in
theorem sealed_any {w:World} (hd:HdAt w h S L s m D row blk):Calls Tryz.prog 31 #[.pointer (some ⟨h,0,none⟩)] w fun e w'=>e=.returned (.bool s)/\w'=w:=by
 have q0:=hd.shut
 clear hd
 go_enter Tryz.func31,Tryz.ntmps31
 go_wp2
 go_ret
 exact ⟨rfl,rfl⟩
set_option maxRecDepth 10000 in
set_option maxHeartbeats 1000000 in
theorem copied_any (v:Ver) (w:World) (ht:v.text.size<=1000000):Calls Tryz.prog 39 #[.agg #[.int .i64 v.n,.int .i64 v.who,.int .i64 v.size,.int .i64 v.at_,.string v.text]] w fun e w'=>e=.returned (.agg #[.int .i64 v.n,.int .i64 v.who,.int .i64 v.size,.int .i64 v.at_,.string v.text])/\Below w.heap.size w w':=by
 have HC:Hid (∀ W,Calls Tryz.prog 57 #[.string v.text] W fun e w'=>e=.returned (.string v.text)/\Below W.heap.size W w'):=fun W=>sclone_any v.text W (by omega)
 obtain ⟨n,who,size,at_,text⟩:=v
 obtain ⟨w2,hw2⟩:∃ w2,w2=(w.alloc (.cells #[.int .i64 n,.int .i64 who,.int .i64 size,.int .i64 at_,.string text] 47)).alloc (.cells #[.int .i64 0,.int .i64 0,.int .i64 0,.int .i64 0,.string ⟨#[]⟩] 47):=⟨_,rfl⟩
 have HW2:Hid (w2=(w.alloc (.cells #[.int .i64 n,.int .i64 who,.int .i64 size,.int .i64 at_,.string text] 47)).alloc (.cells #[.int .i64 0,.int .i64 0,.int .i64 0,.int .i64 0,.string ⟨#[]⟩] 47)):=hw2
 have HB2:Hid (Below w.heap.size w w2):=by rw [hw2];exact ((Below.refl _ _).alloc (Nat.le_refl _) _).alloc (by simp) _
 have HBK:Hid (w2.heap[w.heap.size]?=some (.cells #[.int .i64 n,.int .i64 who,.int .i64 size,.int .i64 at_,.string text] 47 (0,0))/\w2.heap[w.heap.size+1]?=some (.cells #[.int .i64 0,.int .i64 0,.int .i64 0,.int .i64 0,.string ⟨#[]⟩] 47 (0,0))):=by
  rw [hw2]
  constructor
  ·rw [heap_alloc_old _ _ (by simp),heap_alloc_new]
  ·have e:w.heap.size+1=(w.alloc (.cells #[.int .i64 n,.int .i64 who,.int .i64 size,.int .i64 at_,.string text] 47)).heap.size:=by simp
   rw [e,heap_alloc_new]
 have hs2:w.heap.size+1 < w2.heap.size:=by rw [hw2];simp
 have k4:w2.cell? ⟨w.heap.size,4,none⟩=some (.string text):=by simp [World.cell?,HBK.out.1]
 clear hw2 ht
 go_enter Tryz.func39,Tryz.ntmps39
 go_wp2_with fail
 rw [<- HW2.out]
 clear HW2
 refine (HC.out _).mono ?_
 rintro e w3 ⟨rfl,hb3⟩
 have HB3:Hid (Below w.heap.size w w3):=HB2.out.trans (hb3.mono HB2.out.size)
 have e0:w3.heap[w.heap.size]?=some (.cells #[.int .i64 n,.int .i64 who,.int .i64 size,.int .i64 at_,.string text] 47 (0,0)):=(hb3.block _ (by omega)).trans HBK.out.1
 have e1:w3.heap[w.heap.size+1]?=some (.cells #[.int .i64 0,.int .i64 0,.int .i64 0,.int .i64 0,.string ⟨#[]⟩] 47 (0,0)):=(hb3.block _ (by omega)).trans HBK.out.2
 have c0:w3.cell? ⟨w.heap.size,0,none⟩=some (.int .i64 n):=by simp [World.cell?,e0]
 have c1:w3.cell? ⟨w.heap.size,1,none⟩=some (.int .i64 who):=by simp [World.cell?,e0]
 have c2:w3.cell? ⟨w.heap.size,2,none⟩=some (.int .i64 size):=by simp [World.cell?,e0]
 have c3:w3.cell? ⟨w.heap.size,3,none⟩=some (.int .i64 at_):=by simp [World.cell?,e0]
 have c4:w3.cell? ⟨w.heap.size,4,none⟩=some (.string text):=by simp [World.cell?,e0]
 have f4:∀ o,w3.frozen? ⟨w.heap.size,o,none⟩=false:=fun o=>by simp [World.frozen?,e0]
 have d0:w3.cell? ⟨w.heap.size+1,0,none⟩=some (.int .i64 0):=by simp [World.cell?,e1]
 have d1:w3.cell? ⟨w.heap.size+1,1,none⟩=some (.int .i64 0):=by simp [World.cell?,e1]
 have d2:w3.cell? ⟨w.heap.size+1,2,none⟩=some (.int .i64 0):=by simp [World.cell?,e1]
 have d3:w3.cell? ⟨w.heap.size+1,3,none⟩=some (.int .i64 0):=by simp [World.cell?,e1]
 have d4:w3.cell? ⟨w.heap.size+1,4,none⟩=some (.string ⟨#[]⟩):=by simp [World.cell?,e1]
 have g4:∀ o,w3.frozen? ⟨w.heap.size+1,o,none⟩=false:=fun o=>by simp [World.frozen?,e1]
 clear hb3 e0 e1 HBK HB2 HC
 go_wp2
 refine bodyPost_ret (v:=.agg #[.int .i64 n,.int .i64 who,.int .i64 size,.int .i64 at_,.string text]) (by simp [results,Tryz.results39,go_sem,d0,d1,d2,d3,d4]) rfl ⟨rfl,?_⟩
 exact (((((HB3.out.setCell (p:=⟨w.heap.size,4,none⟩) (Nat.le_refl _) _).setCell (p:=⟨w.heap.size+1,0,none⟩) (Nat.le_succ _) _).setCell (p:=⟨w.heap.size+1,1,none⟩) (Nat.le_succ _) _).setCell (p:=⟨w.heap.size+1,2,none⟩) (Nat.le_succ _) _).setCell (p:=⟨w.heap.size+1,3,none⟩) (Nat.le_succ _) _).setCell (p:=⟨w.heap.size+1,4,none⟩) (Nat.le_succ _) _
theorem verOk_four (v:Ver):verOk v=(tagOk v.n v.who && (decide (0<=v.size/\v.size<=1000) && (decide (0<=v.at_/\v.at_<=11) && decide (0<=(v.text.size:Int)/\(v.text.size:Int)<=1000)))):=by
 unfold verOk tagB tagOk
 rw [Bool.eq_iff_iff]
 simp only [Bool.and_eq_true,decide_eq_true_eq]
 omega
set_option maxRecDepth 10000 in
set_option maxHeartbeats 2000000 in
theorem inBounds_any (v:Ver) (w:World) (ht:v.text.size<=maxLen):Calls Tryz.prog 33 #[.agg #[.int .i64 v.n,.int .i64 v.who,.int .i64 v.size,.int .i64 v.at_,.string v.text]] w fun e w'=>e=.returned (.bool (verOk v))/\Below w.heap.size w w':=by
 rw [verOk_four]
 obtain ⟨n,who,size,at_,text⟩:=v
 simp only
 have H1:Hid (∀ W,Calls Tryz.prog 51 #[.agg #[.int .i64 n,.int .i64 who]] W fun e w'=>e=.returned (.bool (tagOk n who))/\Below W.heap.size W w'):=fun W=>istag_any n who W
 have H3:Hid (∀ W,Calls Tryz.prog 52 #[.int .i64 size,.int .i64 1000] W fun e w'=>e=.returned (.bool (decide (0<=size/\size<=1000)))/\w'=W):=fun W=>hwithin_any size _ W
 have H4:Hid (∀ W,Calls Tryz.prog 52 #[.int .i64 at_,.int .i64 11] W fun e w'=>e=.returned (.bool (decide (0<=at_/\at_<=11)))/\w'=W):=fun W=>hwithin_any at_ _ W
 have H5:Hid (∀ W,Calls Tryz.prog 52 #[.int .i64 (text.size:Int),.int .i64 1000] W fun e w'=>e=.returned (.bool (decide (0<=(text.size:Int)/\(text.size:Int)<=1000)))/\w'=W):=fun W=>hwithin_any (text.size:Int) _ W
 generalize tagOk n who=r1 at *
 generalize decide (0<=size/\size<=1000)=r3 at *
 generalize decide (0<=at_/\at_<=11)=r4 at *
 generalize decide (0<=(text.size:Int)/\(text.size:Int)<=1000)=r5 at *
 obtain ⟨w2,hw2⟩:∃ w2,w2=w.alloc (.cells #[.int .i64 n,.int .i64 who,.int .i64 size,.int .i64 at_,.string text] 47):=⟨_,rfl⟩
 have HW2:Hid (w2=w.alloc (.cells #[.int .i64 n,.int .i64 who,.int .i64 size,.int .i64 at_,.string text] 47)):=hw2
 have HB2:Hid (Below w.heap.size w w2):=by rw [hw2];exact (Below.refl _ _).alloc (Nat.le_refl _) _
 have hlt:w.heap.size < w2.heap.size:=by rw [hw2];simp
 have c0:w2.cell? ⟨w.heap.size,0,none⟩=some (.int .i64 n):=by rw [hw2];simp
 have c1:w2.cell? ⟨w.heap.size,1,none⟩=some (.int .i64 who):=by rw [hw2];simp
 have c2:w2.cell? ⟨w.heap.size,2,none⟩=some (.int .i64 size):=by rw [hw2];simp
 have c3:w2.cell? ⟨w.heap.size,3,none⟩=some (.int .i64 at_):=by rw [hw2];simp
 have c4:w2.cell? ⟨w.heap.size,4,none⟩=some (.string text):=by rw [hw2];simp
 have HC:Hid (∀ W,Below w2.heap.size w2 W->W.cell? ⟨w.heap.size,2,none⟩=some (.int .i64 size)/\W.cell? ⟨w.heap.size,3,none⟩=some (.int .i64 at_)/\W.cell? ⟨w.heap.size,4,none⟩=some (.string text)):=fun W hW=>⟨(hW.cell (p:=⟨w.heap.size,2,none⟩) hlt).trans c2,(hW.cell (p:=⟨w.heap.size,3,none⟩) hlt).trans c3,(hW.cell (p:=⟨w.heap.size,4,none⟩) hlt).trans c4⟩
 clear hw2 ht hlt
 go_enter Tryz.func33,Tryz.ntmps33
 go_wp2_with (first | rw [<- HW2.out])
 refine (H1.out _).mono ?_
 rintro e w3 ⟨rfl,hb3⟩
 obtain ⟨d2,d3,d4⟩:=HC.out w3 hb3
 have HB3:Hid (Below w.heap.size w w3):=HB2.out.trans (hb3.mono HB2.out.size)
 clear HW2 c0 c1 c2 c3 c4 HC hb3 H1
 cases r1 with
 | false =>
  go_wp2
  go_ret
  exact ⟨rfl,HB3.out⟩
 | true =>
  go_wp2_with fail
  refine (H3.out _).mono ?_
  rintro e w4 ⟨rfl,rfl⟩
  cases r3 with
  | false =>
   go_wp2
   go_ret
   exact ⟨rfl,HB3.out⟩
  | true =>
   go_wp2_with fail
   refine (H4.out _).mono ?_
   rintro e w4 ⟨rfl,rfl⟩
   cases r4 with
   | false =>
    go_wp2
    go_ret
    exact ⟨rfl,HB3.out⟩
   | true =>
    go_wp2_with fail
    refine (H5.out _).mono ?_
    rintro e w4 ⟨rfl,rfl⟩
    go_wp2
    go_ret
    exact ⟨by cases r5 <;> rfl,HB3.out⟩
end Go.Proofs.YtghpdhegfnhmkaaGreatDoor
