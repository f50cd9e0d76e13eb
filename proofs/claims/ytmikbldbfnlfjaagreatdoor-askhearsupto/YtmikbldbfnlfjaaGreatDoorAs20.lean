/- Texts laid together. -/
import Derived.Test.YtmikbldbfnlfjaaGreatDoorAs19
import Derived.Deep.Strs
set_option maxRecDepth 100000
set_option maxHeartbeats 40000000
namespace Go.Proofs.YtmikbldbfnlfjaaGreatDoor
open Go.Proofs.Tryz
open Go.RowKit
variable {H:Type}{W:World}{fuel:Nat}{v:Value}
section
variable {ad:Nat->Addr} {X:World->Prop} {Ak:World->Nat->Nat->(Nat->Prop)->Za->Prop}
theorem JbD (hO:WS ad X Ak) (b:eT) (p:Option Addr) (D:Nat) (l:List Zb) (lp:Option Addr) (b6:Nat) (w:World) (G:sS ad X b p D l lp w) (h1:Zx b.c=false) (h2:¬ 100 < b.key.size) (h3:b.text.size<=100∨1000 < b.text.size/\b.text.size<=2000) (h4:X5 l=true) (h5:b.put=true) (h6:0 < (JX b).1):Calls prog 3 #[.agg #[.bool b.put,.int .i64 b.who,.int .i64 b.op,.int .i64 b.config,.int .i64 b.c.n,.int .i64 b.c.k,.slice p b.c.L.length D,.string b.key,.string b.text],.slice lp l.length b6] w fun e w'=>e=.returned (.bool true)/\Below w.heap.size w w':=by
 rw [h5]
 obtain ⟨j,a1⟩:∃ j,j=w.alloc (.cells #[.bool true,.int .i64 b.who,.int .i64 b.op,.int .i64 b.config,.int .i64 b.c.n,.int .i64 b.c.k,.slice p b.c.L.length D,.string b.key,.string b.text] 26):=⟨_,rfl⟩
 have I:Below w.heap.size w j:=by rw [a1];exact (Below.refl _ _).alloc (Nat.le_refl _) _
 have b7:w.heap.size < j.heap.size:=by rw [a1];simp
 have d9:j.heap[w.heap.size]?=some (.cells #[.bool true,.int .i64 b.who,.int .i64 b.op,.int .i64 b.config,.int .i64 b.c.n,.int .i64 b.c.k,.slice p b.c.L.length D,.string b.key,.string b.text] 26 (0,0)):=by
  rw [a1]
  show (w.heap.push _)[w.heap.size]?=_
  simp
 have Z:Hid (∀ W,Below j.heap.size j W->(W.cell? ⟨w.heap.size,0,none⟩=some (.bool true)/\W.cell? ⟨w.heap.size,1,none⟩=some (.int .i64 b.who)/\W.cell? ⟨w.heap.size,2,none⟩=some (.int .i64 b.op)/\W.cell? ⟨w.heap.size,3,none⟩=some (.int .i64 b.config)/\W.cell? ⟨w.heap.size,4,none⟩=some (.int .i64 b.c.n)/\W.cell? ⟨w.heap.size,5,none⟩=some (.int .i64 b.c.k)/\W.cell? ⟨w.heap.size,6,none⟩=some (.slice p b.c.L.length D)/\W.cell? ⟨w.heap.size,7,none⟩=some (.string b.key)/\W.cell? ⟨w.heap.size,8,none⟩=some (.string b.text)/\Below j.heap.size j W)):=fun W y=>by
  have Q:=(y.block _ b7).trans d9
  exact ⟨(Ja Q 0).1,(Ja Q 1).1,(Ja Q 2).1,(Ja Q 3).1,(Ja Q 4).1,(Ja Q 5).1,(Ja Q 6).1,(Ja Q 7).1,(Ja Q 8).1,y⟩
 have e9:=zE hO j (fun V hV=>(G.ok (I.trans (hV.mono I.size))).1) (fun V hV=>(G.ok (I.trans (hV.mono I.size))).2)
 have a3:Hid (∀ W,Below j.heap.size j W->Calls prog 6 #[.agg #[.int .i64 b.c.n,.int .i64 b.c.k,.slice p b.c.L.length D]] W fun e w'=>e=.returned (.bool (Zx b.c))/\Below j.heap.size j w'):=fun W y=>(X3 b.c p D W G.len G.size ((G.strs.below I).below y)).mono fun e w' J=>⟨J.1,y.trans (J.2.mono y.size)⟩
 have a4:Hid (∀ W,Below j.heap.size j W->Calls prog 7 #[.slice lp l.length b6] W fun e w'=>e=.returned (.bool (X5 l))/\Below j.heap.size j w'):=fun W y=>(Qy lp l b6 W G.pE ((G.msgs.below I).below y)).mono fun e w' J=>⟨J.1,y.trans (J.2.mono y.size)⟩
 have h0:Hid (j=w.alloc (.cells #[.bool true,.int .i64 b.who,.int .i64 b.op,.int .i64 b.config,.int .i64 b.c.n,.int .i64 b.c.k,.slice p b.c.L.length D,.string b.key,.string b.text] 26)):=a1
 have f3:Hid (Below w.heap.size w j):=I
 rw [h1] at a3
 rw [h4] at a4
 obtain ⟨n1,n2⟩:=L1 h1
 have a7:Hid (∀ W,Below j.heap.size j W->Strs W p b.c.L):=fun W y=>(G.strs.below I).below y
 have a8:Hid (∀ W q d,Strs W q b.c.L->b.c.L.length<=d->(q=none->b.c.L=[]/\d=0)->Yn W b.c q d):=fun W q d g1 g2 g3=>Ja5 g1 g2 g3 h1 G.ints
 have f4:Hid (∀ W,(W.cell? ⟨w.heap.size,0,none⟩=some (.bool true)/\W.cell? ⟨w.heap.size,1,none⟩=some (.int .i64 b.who)/\W.cell? ⟨w.heap.size,2,none⟩=some (.int .i64 b.op)/\W.cell? ⟨w.heap.size,3,none⟩=some (.int .i64 b.config)/\W.cell? ⟨w.heap.size,4,none⟩=some (.int .i64 b.c.n)/\W.cell? ⟨w.heap.size,5,none⟩=some (.int .i64 b.c.k)/\W.cell? ⟨w.heap.size,6,none⟩=some (.slice p b.c.L.length D)/\W.cell? ⟨w.heap.size,7,none⟩=some (.string b.key)/\W.cell? ⟨w.heap.size,8,none⟩=some (.string b.text)/\Below j.heap.size j W)->Calls prog 9 #[.agg #[.int .i64 b.c.n,.int .i64 b.c.k,.slice p b.c.L.length D]] W fun e w'=>∃ q d,e=.returned (.agg #[.int .i64 b.c.n,.int .i64 b.c.k,.slice q b.c.L.length d])/\Hid (Yn w' b.c q d)/\(w'.cell? ⟨w.heap.size,0,none⟩=some (.bool true)/\w'.cell? ⟨w.heap.size,1,none⟩=some (.int .i64 b.who)/\w'.cell? ⟨w.heap.size,2,none⟩=some (.int .i64 b.op)/\w'.cell? ⟨w.heap.size,3,none⟩=some (.int .i64 b.config)/\w'.cell? ⟨w.heap.size,4,none⟩=some (.int .i64 b.c.n)/\w'.cell? ⟨w.heap.size,5,none⟩=some (.int .i64 b.c.k)/\w'.cell? ⟨w.heap.size,6,none⟩=some (.slice p b.c.L.length D)/\w'.cell? ⟨w.heap.size,7,none⟩=some (.string b.key)/\w'.cell? ⟨w.heap.size,8,none⟩=some (.string b.text)/\Below j.heap.size j w')):=fun W y=>(Jao b.c p D W (by omega) (a7.out W y.2.2.2.2.2.2.2.2.2) G.empty).mono fun e w' J=>by
  obtain ⟨⟨q,d,e1,e2,e3,e4⟩,e5⟩:=J
  exact ⟨q,d,e1,a8.out w' q d e2 e3 e4,Z.out w' (y.2.2.2.2.2.2.2.2.2.trans (e5.mono y.2.2.2.2.2.2.2.2.2.size))⟩
 have a9:Hid (∀ W,Below j.heap.size j W->Zp W ad/\X W):=fun W y=>G.ok (I.trans (y.mono I.size))
 have f5:Hid (∀ W q d,Hid (Yn W b.c q d)->(W.cell? ⟨w.heap.size,0,none⟩=some (.bool true)/\W.cell? ⟨w.heap.size,1,none⟩=some (.int .i64 b.who)/\W.cell? ⟨w.heap.size,2,none⟩=some (.int .i64 b.op)/\W.cell? ⟨w.heap.size,3,none⟩=some (.int .i64 b.config)/\W.cell? ⟨w.heap.size,4,none⟩=some (.int .i64 b.c.n)/\W.cell? ⟨w.heap.size,5,none⟩=some (.int .i64 b.c.k)/\W.cell? ⟨w.heap.size,6,none⟩=some (.slice p b.c.L.length D)/\W.cell? ⟨w.heap.size,7,none⟩=some (.string b.key)/\W.cell? ⟨w.heap.size,8,none⟩=some (.string b.text)/\Below j.heap.size j W)->Calls prog 8 #[.int .i64 b.who,.int .i64 b.op,.agg #[.int .i64 b.c.n,.int .i64 b.c.k,.slice q b.c.L.length d],.int .i64 b.config,.string b.key,.string b.text] W fun e w'=>∃ K M,e=.returned (.tuple #[.pointer none,.iface K M])/\Hid (Jd w' ad (.iface K M) (JX b).1 (JX b).2)/\(w'.cell? ⟨w.heap.size,0,none⟩=some (.bool true)/\w'.cell? ⟨w.heap.size,1,none⟩=some (.int .i64 b.who)/\w'.cell? ⟨w.heap.size,2,none⟩=some (.int .i64 b.op)/\w'.cell? ⟨w.heap.size,3,none⟩=some (.int .i64 b.config)/\w'.cell? ⟨w.heap.size,4,none⟩=some (.int .i64 b.c.n)/\w'.cell? ⟨w.heap.size,5,none⟩=some (.int .i64 b.c.k)/\w'.cell? ⟨w.heap.size,6,none⟩=some (.slice p b.c.L.length D)/\w'.cell? ⟨w.heap.size,7,none⟩=some (.string b.key)/\w'.cell? ⟨w.heap.size,8,none⟩=some (.string b.text)/\Below j.heap.size j w')):=fun W q d hc y=>(hO.put b q d W hc.out h5 (by omega) (by omega) G.who G.op G.config (a9.out W y.2.2.2.2.2.2.2.2.2).1 (a9.out W y.2.2.2.2.2.2.2.2.2).2).mono fun e w' J=>by
  obtain ⟨⟨ev,g1,g2⟩,g3⟩:=J
  obtain ⟨K,M,rfl⟩:=g1.some h6
  rcases g2 with ⟨_,g4⟩ | ⟨g4,_⟩
  ·exact ⟨K,M,g4,g1,Z.out w' (y.2.2.2.2.2.2.2.2.2.trans (g3.mono y.2.2.2.2.2.2.2.2.2.size))⟩
  ·exact absurd h6 g4
 have f6:Hid (∀ W,Below j.heap.size j W->Calls prog 11 #[.agg #[.bool true,.int .i64 b.who,.int .i64 b.op,.int .i64 b.config,.int .i64 b.c.n,.int .i64 b.c.k,.slice p b.c.L.length D,.string b.key,.string b.text]] W fun e w'=>e=.returned (.agg #[.int .i64 (JX b).1,.int .i64 (JX b).2])/\Below W.heap.size W w'):=fun W y=>by
  have b0:=Jau b p D W (a8.out W p D (a7.out W y) G.room G.empty) (by omega)
  unfold O2 at b0
  rw [h5] at b0
  exact b0
 have f7:Hid (∀ W K M,Below j.heap.size j W->Hid (Jd W ad (.iface K M) (JX b).1 (JX b).2)->Calls prog 12 #[.iface K M,.agg #[.int .i64 (JX b).1,.int .i64 (JX b).2]] W fun e w'=>e=.returned (.bool true)/\Below j.heap.size j w'):=fun W K M y he=>(Jbj ad (.iface K M) (JX b).1 (JX b).2 W (G.b8 W (I.trans (y.mono I.size))) he.out).mono fun e w' J=>⟨J.1,y.trans (J.2.mono y.size)⟩
 have i4:decide ((0:Int) < (JX b).1)=true:=decide_eq_true h6
 have h7:Hid (∀ W,Below j.heap.size j W->(W.cell? ⟨w.heap.size,0,none⟩=some (.bool true)/\W.cell? ⟨w.heap.size,1,none⟩=some (.int .i64 b.who)/\W.cell? ⟨w.heap.size,2,none⟩=some (.int .i64 b.op)/\W.cell? ⟨w.heap.size,3,none⟩=some (.int .i64 b.config)/\W.cell? ⟨w.heap.size,4,none⟩=some (.int .i64 b.c.n)/\W.cell? ⟨w.heap.size,5,none⟩=some (.int .i64 b.c.k)/\W.cell? ⟨w.heap.size,6,none⟩=some (.slice p b.c.L.length D)/\W.cell? ⟨w.heap.size,7,none⟩=some (.string b.key)/\W.cell? ⟨w.heap.size,8,none⟩=some (.string b.text)/\Below j.heap.size j W)):=Z.out
 have H5:Hid (b.put=true):=h5
 clear h1 h4 h5 h6
 clear G hO a1 I b7 d9 n2 a8 a7 a9
 generalize JX b=F at *
 go_enter func3,ntmps3
 go_wp2_with (first | rw [<- h0.out] | fail)
 refine e9.mono ?_
 rintro e w2 ⟨rfl,f8⟩
 have a5:Hid (Below j.heap.size j w2):=f8
 clear f8 e9
 go_upto_region 2 with fail
 go_cut [50] from 15 to 50 (fun v W=>v=.bool false/\Below j.heap.size j W)
 case first =>
  obtain ⟨Y,d1,d2,d3,d4,d5,d6,d7,d8,_⟩:=Z.out w2 a5.out
  rcases h3 with h3 | h3
  ·skip
   have q1:decide ((100:Int) < (b.key.size:Int))=false:=decide_eq_false (by omega)
   have q2:decide ((100:Int) < (b.text.size:Int))=false:=decide_eq_false (by omega)
   have q4:decide ((2000:Int) < (b.text.size:Int))=false:=decide_eq_false (by omega)
   go_wp2_with fail
   refine (a3.out w2 a5.out).mono ?_
   rintro e w3 ⟨rfl,a0⟩
   clear Y d1 d2 d3 d4 d5 d6 d7 d8
   obtain ⟨Y,d1,d2,d3,d4,d5,d6,d7,d8,_⟩:=Z.out w3 a0
   have b1:Hid (Below j.heap.size j w3):=a0
   clear a0
   go_wp2_with fail
   refine (a4.out w3 b1.out).mono ?_
   rintro e U ⟨rfl,O⟩
   have a6:Hid (Below j.heap.size j U):=O
   clear Y d1 d2 d3 d4 d5 d6 d7 d8 O
   go_wp2_with fail
   go_meet
   exact ⟨rfl,a6.out⟩
  ·skip
   have q1:decide ((100:Int) < (b.key.size:Int))=false:=decide_eq_false (by omega)
   have q2:decide ((100:Int) < (b.text.size:Int))=true:=decide_eq_true (by omega)
   have q3:decide ((b.text.size:Int)<=1000)=false:=decide_eq_false (by omega)
   have q4:decide ((2000:Int) < (b.text.size:Int))=false:=decide_eq_false (by omega)
   go_wp2_with fail
   refine (a3.out w2 a5.out).mono ?_
   rintro e w3 ⟨rfl,a0⟩
   clear Y d1 d2 d3 d4 d5 d6 d7 d8
   obtain ⟨Y,d1,d2,d3,d4,d5,d6,d7,d8,_⟩:=Z.out w3 a0
   have b1:Hid (Below j.heap.size j w3):=a0
   clear a0
   go_wp2_with fail
   refine (a4.out w3 b1.out).mono ?_
   rintro e U ⟨rfl,O⟩
   have a6:Hid (Below j.heap.size j U):=O
   clear Y d1 d2 d3 d4 d5 d6 d7 d8 O
   go_wp2_with fail
   go_meet
   exact ⟨rfl,a6.out⟩
 case rest =>
  obtain ⟨rfl,O⟩:=hcut
  obtain ⟨U,rfl⟩:∃ U,U=wc:=⟨_,rfl⟩
  have a6:Hid (Below j.heap.size j U):=O
  have Y:=(Z.out U O).1
  have f9:=h7.out U.drew O.drew
  clear O a3 a4 h3 a5
  go_wp2
  go_region_held3 (fun W=>(W.cell? ⟨w.heap.size,0,none⟩=some (.bool true)/\W.cell? ⟨w.heap.size,1,none⟩=some (.int .i64 b.who)/\W.cell? ⟨w.heap.size,2,none⟩=some (.int .i64 b.op)/\W.cell? ⟨w.heap.size,3,none⟩=some (.int .i64 b.config)/\W.cell? ⟨w.heap.size,4,none⟩=some (.int .i64 b.c.n)/\W.cell? ⟨w.heap.size,5,none⟩=some (.int .i64 b.c.k)/\W.cell? ⟨w.heap.size,6,none⟩=some (.slice p b.c.L.length D)/\W.cell? ⟨w.heap.size,7,none⟩=some (.string b.key)/\W.cell? ⟨w.heap.size,8,none⟩=some (.string b.text)/\Below j.heap.size j W)) (first | assumption | exact f9) (first | (go_at_call 9;refine (f4.out _ (by assumption)).mono ?_;rintro e w5 ⟨q5,d5,rfl,h8,h9⟩) | (go_at_call 8;refine (f5.out _ _ _ (by assumption) (by assumption)).mono ?_;rintro e w6 ⟨K,M,rfl,g0,i0⟩))
  obtain ⟨e0,e1,e2,e3,e4,e5,e6,e7,e8,b2⟩:=i0
  have g5:Hid (Below j.heap.size j w6):=b2
  have g6:=f6.out w6 b2
  clear b2 f9 f4 f5 h8 h9 Y f6
  go_wp2_with fail
  refine g6.mono ?_
  rintro e w7 ⟨rfl,b3⟩
  obtain ⟨N,a2⟩:∃ N,N=w7.alloc (.cells #[.int .i64 F.1,.int .i64 F.2] 39):=⟨_,rfl⟩
  have g7:Below w7.heap.size w7 N:=by rw [a2];exact (Below.refl _ _).alloc (Nat.le_refl _) _
  have k0:N.cell? ⟨w7.heap.size,0,none⟩=some (.int .i64 F.1):=by rw [a2,World.cell?_alloc_at _ _ _ _ rfl];rfl
  have k1:N.cell? ⟨w7.heap.size,1,none⟩=some (.int .i64 F.2):=by rw [a2,World.cell?_alloc_at _ _ _ _ rfl];rfl
  have b4:Below w6.heap.size w6 N:=b3.trans (g7.mono b3.size)
  have b5:Below j.heap.size j N:=g5.out.trans (b4.mono g5.out.size)
  have i5:Hid (Below j.heap.size j N):=b5
  have i1:Hid (N=w7.alloc (.cells #[.int .i64 F.1,.int .i64 F.2] 39)):=a2
  have i2:Hid (Jd N ad (.iface K M) F.1 F.2):=g0.out.below b4
  have g8:=f7.out N K M b5 i2
  clear g0 a2 g7 b4 b5 b3 g6 f7
  go_wp2_with (first | rw [<- i1.out] | fail)
  refine g8.mono ?_
  rintro e w9 ⟨rfl,g9⟩
  have i3:Hid (Below j.heap.size j w9):=g9
  clear g9 g8
  go_wp2
  go_ret
  exact ⟨rfl,f3.out.trans (i3.out.mono f3.out.size)⟩
theorem JbE (hO:WS ad X Ak) (b:eT) (p:Option Addr) (D:Nat) (l:List Zb) (lp:Option Addr) (b6:Nat) (w:World) (G:sS ad X b p D l lp w) (h1:Zx b.c=false) (h2:¬ 100 < b.key.size) (h3:b.text.size<=100∨1000 < b.text.size/\b.text.size<=2000) (h4:X5 l=true) (h5:b.put=false) (h6:0 < (JX b).1):Calls prog 3 #[.agg #[.bool b.put,.int .i64 b.who,.int .i64 b.op,.int .i64 b.config,.int .i64 b.c.n,.int .i64 b.c.k,.slice p b.c.L.length D,.string b.key,.string b.text],.slice lp l.length b6] w fun e w'=>e=.returned (.bool true)/\Below w.heap.size w w':=by
 rw [h5]
 obtain ⟨j,a1⟩:∃ j,j=w.alloc (.cells #[.bool false,.int .i64 b.who,.int .i64 b.op,.int .i64 b.config,.int .i64 b.c.n,.int .i64 b.c.k,.slice p b.c.L.length D,.string b.key,.string b.text] 26):=⟨_,rfl⟩
 have I:Below w.heap.size w j:=by rw [a1];exact (Below.refl _ _).alloc (Nat.le_refl _) _
 have b7:w.heap.size < j.heap.size:=by rw [a1];simp
 have d9:j.heap[w.heap.size]?=some (.cells #[.bool false,.int .i64 b.who,.int .i64 b.op,.int .i64 b.config,.int .i64 b.c.n,.int .i64 b.c.k,.slice p b.c.L.length D,.string b.key,.string b.text] 26 (0,0)):=by
  rw [a1]
  show (w.heap.push _)[w.heap.size]?=_
  simp
 have Z:Hid (∀ W,Below j.heap.size j W->(W.cell? ⟨w.heap.size,0,none⟩=some (.bool false)/\W.cell? ⟨w.heap.size,1,none⟩=some (.int .i64 b.who)/\W.cell? ⟨w.heap.size,2,none⟩=some (.int .i64 b.op)/\W.cell? ⟨w.heap.size,3,none⟩=some (.int .i64 b.config)/\W.cell? ⟨w.heap.size,4,none⟩=some (.int .i64 b.c.n)/\W.cell? ⟨w.heap.size,5,none⟩=some (.int .i64 b.c.k)/\W.cell? ⟨w.heap.size,6,none⟩=some (.slice p b.c.L.length D)/\W.cell? ⟨w.heap.size,7,none⟩=some (.string b.key)/\W.cell? ⟨w.heap.size,8,none⟩=some (.string b.text)/\Below j.heap.size j W)):=fun W y=>by
  have Q:=(y.block _ b7).trans d9
  exact ⟨(Ja Q 0).1,(Ja Q 1).1,(Ja Q 2).1,(Ja Q 3).1,(Ja Q 4).1,(Ja Q 5).1,(Ja Q 6).1,(Ja Q 7).1,(Ja Q 8).1,y⟩
 have e9:=zE hO j (fun V hV=>(G.ok (I.trans (hV.mono I.size))).1) (fun V hV=>(G.ok (I.trans (hV.mono I.size))).2)
 have a3:Hid (∀ W,Below j.heap.size j W->Calls prog 6 #[.agg #[.int .i64 b.c.n,.int .i64 b.c.k,.slice p b.c.L.length D]] W fun e w'=>e=.returned (.bool (Zx b.c))/\Below j.heap.size j w'):=fun W y=>(X3 b.c p D W G.len G.size ((G.strs.below I).below y)).mono fun e w' J=>⟨J.1,y.trans (J.2.mono y.size)⟩
 have a4:Hid (∀ W,Below j.heap.size j W->Calls prog 7 #[.slice lp l.length b6] W fun e w'=>e=.returned (.bool (X5 l))/\Below j.heap.size j w'):=fun W y=>(Qy lp l b6 W G.pE ((G.msgs.below I).below y)).mono fun e w' J=>⟨J.1,y.trans (J.2.mono y.size)⟩
 have h0:Hid (j=w.alloc (.cells #[.bool false,.int .i64 b.who,.int .i64 b.op,.int .i64 b.config,.int .i64 b.c.n,.int .i64 b.c.k,.slice p b.c.L.length D,.string b.key,.string b.text] 26)):=a1
 have f3:Hid (Below w.heap.size w j):=I
 rw [h1] at a3
 rw [h4] at a4
 obtain ⟨n1,n2⟩:=L1 h1
 have a7:Hid (∀ W,Below j.heap.size j W->Strs W p b.c.L):=fun W y=>(G.strs.below I).below y
 have a8:Hid (∀ W q d,Strs W q b.c.L->b.c.L.length<=d->(q=none->b.c.L=[]/\d=0)->Yn W b.c q d):=fun W q d g1 g2 g3=>Ja5 g1 g2 g3 h1 G.ints
 have f4:Hid (∀ W,(W.cell? ⟨w.heap.size,0,none⟩=some (.bool false)/\W.cell? ⟨w.heap.size,1,none⟩=some (.int .i64 b.who)/\W.cell? ⟨w.heap.size,2,none⟩=some (.int .i64 b.op)/\W.cell? ⟨w.heap.size,3,none⟩=some (.int .i64 b.config)/\W.cell? ⟨w.heap.size,4,none⟩=some (.int .i64 b.c.n)/\W.cell? ⟨w.heap.size,5,none⟩=some (.int .i64 b.c.k)/\W.cell? ⟨w.heap.size,6,none⟩=some (.slice p b.c.L.length D)/\W.cell? ⟨w.heap.size,7,none⟩=some (.string b.key)/\W.cell? ⟨w.heap.size,8,none⟩=some (.string b.text)/\Below j.heap.size j W)->Calls prog 9 #[.agg #[.int .i64 b.c.n,.int .i64 b.c.k,.slice p b.c.L.length D]] W fun e w'=>∃ q d,e=.returned (.agg #[.int .i64 b.c.n,.int .i64 b.c.k,.slice q b.c.L.length d])/\Hid (Yn w' b.c q d)/\(w'.cell? ⟨w.heap.size,0,none⟩=some (.bool false)/\w'.cell? ⟨w.heap.size,1,none⟩=some (.int .i64 b.who)/\w'.cell? ⟨w.heap.size,2,none⟩=some (.int .i64 b.op)/\w'.cell? ⟨w.heap.size,3,none⟩=some (.int .i64 b.config)/\w'.cell? ⟨w.heap.size,4,none⟩=some (.int .i64 b.c.n)/\w'.cell? ⟨w.heap.size,5,none⟩=some (.int .i64 b.c.k)/\w'.cell? ⟨w.heap.size,6,none⟩=some (.slice p b.c.L.length D)/\w'.cell? ⟨w.heap.size,7,none⟩=some (.string b.key)/\w'.cell? ⟨w.heap.size,8,none⟩=some (.string b.text)/\Below j.heap.size j w')):=fun W y=>(Jao b.c p D W (by omega) (a7.out W y.2.2.2.2.2.2.2.2.2) G.empty).mono fun e w' J=>by
  obtain ⟨⟨q,d,e1,e2,e3,e4⟩,e5⟩:=J
  exact ⟨q,d,e1,a8.out w' q d e2 e3 e4,Z.out w' (y.2.2.2.2.2.2.2.2.2.trans (e5.mono y.2.2.2.2.2.2.2.2.2.size))⟩
 have a9:Hid (∀ W,Below j.heap.size j W->Zp W ad/\X W):=fun W y=>G.ok (I.trans (y.mono I.size))
 have f5:Hid (∀ W q d,Hid (Yn W b.c q d)->(W.cell? ⟨w.heap.size,0,none⟩=some (.bool false)/\W.cell? ⟨w.heap.size,1,none⟩=some (.int .i64 b.who)/\W.cell? ⟨w.heap.size,2,none⟩=some (.int .i64 b.op)/\W.cell? ⟨w.heap.size,3,none⟩=some (.int .i64 b.config)/\W.cell? ⟨w.heap.size,4,none⟩=some (.int .i64 b.c.n)/\W.cell? ⟨w.heap.size,5,none⟩=some (.int .i64 b.c.k)/\W.cell? ⟨w.heap.size,6,none⟩=some (.slice p b.c.L.length D)/\W.cell? ⟨w.heap.size,7,none⟩=some (.string b.key)/\W.cell? ⟨w.heap.size,8,none⟩=some (.string b.text)/\Below j.heap.size j W)->Calls prog 10 #[.int .i64 b.who,.int .i64 b.op,.agg #[.int .i64 b.c.n,.int .i64 b.c.k,.slice q b.c.L.length d],.int .i64 b.config,.string b.key] W fun e w'=>∃ K M,e=.returned (.tuple #[.pointer none,.iface K M])/\Hid (Jd w' ad (.iface K M) (JX b).1 (JX b).2)/\(w'.cell? ⟨w.heap.size,0,none⟩=some (.bool false)/\w'.cell? ⟨w.heap.size,1,none⟩=some (.int .i64 b.who)/\w'.cell? ⟨w.heap.size,2,none⟩=some (.int .i64 b.op)/\w'.cell? ⟨w.heap.size,3,none⟩=some (.int .i64 b.config)/\w'.cell? ⟨w.heap.size,4,none⟩=some (.int .i64 b.c.n)/\w'.cell? ⟨w.heap.size,5,none⟩=some (.int .i64 b.c.k)/\w'.cell? ⟨w.heap.size,6,none⟩=some (.slice p b.c.L.length D)/\w'.cell? ⟨w.heap.size,7,none⟩=some (.string b.key)/\w'.cell? ⟨w.heap.size,8,none⟩=some (.string b.text)/\Below j.heap.size j w')):=fun W q d hc y=>(hO.get b q d W hc.out h5 (by omega) G.who G.op G.config (a9.out W y.2.2.2.2.2.2.2.2.2).1 (a9.out W y.2.2.2.2.2.2.2.2.2).2).mono fun e w' J=>by
  obtain ⟨⟨ev,g1,g2⟩,g3⟩:=J
  obtain ⟨K,M,rfl⟩:=g1.some h6
  rcases g2 with ⟨_,g4⟩ | ⟨g4,_⟩
  ·exact ⟨K,M,g4,g1,Z.out w' (y.2.2.2.2.2.2.2.2.2.trans (g3.mono y.2.2.2.2.2.2.2.2.2.size))⟩
  ·exact absurd h6 g4
 have f6:Hid (∀ W,Below j.heap.size j W->Calls prog 11 #[.agg #[.bool false,.int .i64 b.who,.int .i64 b.op,.int .i64 b.config,.int .i64 b.c.n,.int .i64 b.c.k,.slice p b.c.L.length D,.string b.key,.string b.text]] W fun e w'=>e=.returned (.agg #[.int .i64 (JX b).1,.int .i64 (JX b).2])/\Below W.heap.size W w'):=fun W y=>by
  have b0:=Jau b p D W (a8.out W p D (a7.out W y) G.room G.empty) (by omega)
  unfold O2 at b0
  rw [h5] at b0
  exact b0
 have f7:Hid (∀ W K M,Below j.heap.size j W->Hid (Jd W ad (.iface K M) (JX b).1 (JX b).2)->Calls prog 12 #[.iface K M,.agg #[.int .i64 (JX b).1,.int .i64 (JX b).2]] W fun e w'=>e=.returned (.bool true)/\Below j.heap.size j w'):=fun W K M y he=>(Jbj ad (.iface K M) (JX b).1 (JX b).2 W (G.b8 W (I.trans (y.mono I.size))) he.out).mono fun e w' J=>⟨J.1,y.trans (J.2.mono y.size)⟩
 have i4:decide ((0:Int) < (JX b).1)=true:=decide_eq_true h6
 have h7:Hid (∀ W,Below j.heap.size j W->(W.cell? ⟨w.heap.size,0,none⟩=some (.bool false)/\W.cell? ⟨w.heap.size,1,none⟩=some (.int .i64 b.who)/\W.cell? ⟨w.heap.size,2,none⟩=some (.int .i64 b.op)/\W.cell? ⟨w.heap.size,3,none⟩=some (.int .i64 b.config)/\W.cell? ⟨w.heap.size,4,none⟩=some (.int .i64 b.c.n)/\W.cell? ⟨w.heap.size,5,none⟩=some (.int .i64 b.c.k)/\W.cell? ⟨w.heap.size,6,none⟩=some (.slice p b.c.L.length D)/\W.cell? ⟨w.heap.size,7,none⟩=some (.string b.key)/\W.cell? ⟨w.heap.size,8,none⟩=some (.string b.text)/\Below j.heap.size j W)):=Z.out
 have H5:Hid (b.put=false):=h5
 clear h1 h4 h5 h6
 clear G hO a1 I b7 d9 n2 a8 a7 a9
 generalize JX b=F at *
 go_enter func3,ntmps3
 go_wp2_with (first | rw [<- h0.out] | fail)
 refine e9.mono ?_
 rintro e w2 ⟨rfl,f8⟩
 have a5:Hid (Below j.heap.size j w2):=f8
 clear f8 e9
 go_upto_region 2 with fail
 go_cut [50] from 15 to 50 (fun v W=>v=.bool false/\Below j.heap.size j W)
 case first =>
  obtain ⟨Y,d1,d2,d3,d4,d5,d6,d7,d8,_⟩:=Z.out w2 a5.out
  rcases h3 with h3 | h3
  ·skip
   have q1:decide ((100:Int) < (b.key.size:Int))=false:=decide_eq_false (by omega)
   have q2:decide ((100:Int) < (b.text.size:Int))=false:=decide_eq_false (by omega)
   have q4:decide ((2000:Int) < (b.text.size:Int))=false:=decide_eq_false (by omega)
   go_wp2_with fail
   refine (a3.out w2 a5.out).mono ?_
   rintro e w3 ⟨rfl,a0⟩
   clear Y d1 d2 d3 d4 d5 d6 d7 d8
   obtain ⟨Y,d1,d2,d3,d4,d5,d6,d7,d8,_⟩:=Z.out w3 a0
   have b1:Hid (Below j.heap.size j w3):=a0
   clear a0
   go_wp2_with fail
   refine (a4.out w3 b1.out).mono ?_
   rintro e U ⟨rfl,O⟩
   have a6:Hid (Below j.heap.size j U):=O
   clear Y d1 d2 d3 d4 d5 d6 d7 d8 O
   go_wp2_with fail
   go_meet
   exact ⟨rfl,a6.out⟩
  ·skip
   have q1:decide ((100:Int) < (b.key.size:Int))=false:=decide_eq_false (by omega)
   have q2:decide ((100:Int) < (b.text.size:Int))=true:=decide_eq_true (by omega)
   have q3:decide ((b.text.size:Int)<=1000)=false:=decide_eq_false (by omega)
   have q4:decide ((2000:Int) < (b.text.size:Int))=false:=decide_eq_false (by omega)
   go_wp2_with fail
   refine (a3.out w2 a5.out).mono ?_
   rintro e w3 ⟨rfl,a0⟩
   clear Y d1 d2 d3 d4 d5 d6 d7 d8
   obtain ⟨Y,d1,d2,d3,d4,d5,d6,d7,d8,_⟩:=Z.out w3 a0
   have b1:Hid (Below j.heap.size j w3):=a0
   clear a0
   go_wp2_with fail
   refine (a4.out w3 b1.out).mono ?_
   rintro e U ⟨rfl,O⟩
   have a6:Hid (Below j.heap.size j U):=O
   clear Y d1 d2 d3 d4 d5 d6 d7 d8 O
   go_wp2_with fail
   go_meet
   exact ⟨rfl,a6.out⟩
 case rest =>
  obtain ⟨rfl,O⟩:=hcut
  obtain ⟨U,rfl⟩:∃ U,U=wc:=⟨_,rfl⟩
  have a6:Hid (Below j.heap.size j U):=O
  have Y:=(Z.out U O).1
  have f9:=h7.out U.drew O.drew
  clear O a3 a4 h3 a5
  go_wp2
  go_region_held3 (fun W=>(W.cell? ⟨w.heap.size,0,none⟩=some (.bool false)/\W.cell? ⟨w.heap.size,1,none⟩=some (.int .i64 b.who)/\W.cell? ⟨w.heap.size,2,none⟩=some (.int .i64 b.op)/\W.cell? ⟨w.heap.size,3,none⟩=some (.int .i64 b.config)/\W.cell? ⟨w.heap.size,4,none⟩=some (.int .i64 b.c.n)/\W.cell? ⟨w.heap.size,5,none⟩=some (.int .i64 b.c.k)/\W.cell? ⟨w.heap.size,6,none⟩=some (.slice p b.c.L.length D)/\W.cell? ⟨w.heap.size,7,none⟩=some (.string b.key)/\W.cell? ⟨w.heap.size,8,none⟩=some (.string b.text)/\Below j.heap.size j W)) (first | assumption | exact f9) (first | (go_at_call 9;refine (f4.out _ (by assumption)).mono ?_;rintro e w5 ⟨q5,d5,rfl,h8,h9⟩) | (go_at_call 10;refine (f5.out _ _ _ (by assumption) (by assumption)).mono ?_;rintro e w6 ⟨K,M,rfl,g0,i0⟩))
  obtain ⟨e0,e1,e2,e3,e4,e5,e6,e7,e8,b2⟩:=i0
  have g5:Hid (Below j.heap.size j w6):=b2
  have g6:=f6.out w6 b2
  clear b2 f9 f4 f5 h8 h9 Y f6
  go_wp2_with fail
  refine g6.mono ?_
  rintro e w7 ⟨rfl,b3⟩
  obtain ⟨N,a2⟩:∃ N,N=w7.alloc (.cells #[.int .i64 F.1,.int .i64 F.2] 39):=⟨_,rfl⟩
  have g7:Below w7.heap.size w7 N:=by rw [a2];exact (Below.refl _ _).alloc (Nat.le_refl _) _
  have k0:N.cell? ⟨w7.heap.size,0,none⟩=some (.int .i64 F.1):=by rw [a2,World.cell?_alloc_at _ _ _ _ rfl];rfl
  have k1:N.cell? ⟨w7.heap.size,1,none⟩=some (.int .i64 F.2):=by rw [a2,World.cell?_alloc_at _ _ _ _ rfl];rfl
  have b4:Below w6.heap.size w6 N:=b3.trans (g7.mono b3.size)
  have b5:Below j.heap.size j N:=g5.out.trans (b4.mono g5.out.size)
  have i5:Hid (Below j.heap.size j N):=b5
  have i1:Hid (N=w7.alloc (.cells #[.int .i64 F.1,.int .i64 F.2] 39)):=a2
  have i2:Hid (Jd N ad (.iface K M) F.1 F.2):=g0.out.below b4
  have g8:=f7.out N K M b5 i2
  clear g0 a2 g7 b4 b5 b3 g6 f7
  go_wp2_with (first | rw [<- i1.out] | fail)
  refine g8.mono ?_
  rintro e w9 ⟨rfl,g9⟩
  have i3:Hid (Below j.heap.size j w9):=g9
  clear g9 g8
  go_wp2
  go_ret
  exact ⟨rfl,f3.out.trans (i3.out.mono f3.out.size)⟩
end
section
open Go.ChangeShapes Go.WideShapes Go.ChangeAt Go.RowKit
theorem Jda:∃ f0 f1 f2,prog.underlying 24=some (.struct #[f0,f1,f2])/\f0.offset=0/\f1.offset=1/\f2.offset=2/\f0.type=3/\f1.type=3/\f2.type=22:=⟨_,_,_,underlying24,rfl,rfl,rfl,rfl,rfl,rfl⟩
theorem ES:prog.cellsOf 3=1:=by kernel_rfl
theorem RF:prog.cellsOf 22=1:=by kernel_rfl
theorem JdG:prog.cellsOf 24=3:=by kernel_rfl
theorem BE {enc:TypeId×Value->H}  {y:DataW H×List MemPlace} (h:DataW.trod enc prog W 0 (fun _=>true) true fuel 22 [v]=some y):∃ p l O,v=.slice p l.length O/\IK W l p O:=by
 rcases Deep.open_strs underlying22 underlying9 (by kernel_rfl) h with ⟨I,_⟩ | ⟨a,j,U,m,K,I,_,X,a3,Y,hd,J⟩
 ·simp at I
  subst I
  exact ⟨none,[],0,rfl,⟨Or.inl rfl,Nat.le_refl _,fun _=>⟨rfl,rfl⟩,Nat.zero_le _,fun x J=>by cases J⟩⟩
 ·simp at I
  subst I
  have a4:j<=m:=by rw [Y];split <;> omega
  have D:((List.range j).map K).length=j:=by simp
  have Z:∀ i,i < j->Yc ((List.range j).map K) i=K i:=fun i G=>by
   rw [Xk _ i (by rw [D];exact G)]
   simp
  refine ⟨some a,(List.range j).map K,U,by rw [D],⟨?_,by rw [D];exact X,(fun e=>by cases e),by rw [D];omega,fun x a0=>?_⟩⟩
  ·by_cases h0:j=0
   ·exact Or.inl (List.length_eq_zero_iff.1 (by rw [D];exact h0))
   ·have M:=(J 0 (by omega)).1
    obtain ⟨b,a1,Q⟩:=a
    have a2:Q=none:=by
     cases Q with
     | none=>rfl
     | some q =>
      exfalso
      simp [Addr.add,World.cell?] at M
      revert M
      split <;> intro h9 <;> cases h9
    subst a2
    refine Or.inr ⟨b,a1,rfl,?_,fun i G=>?_⟩
    ·rw [Addr.add_lit] at M
     rcases Nat.lt_or_ge b W.heap.size with N | N
     ·exact N
     ·simp [World.cell?,Array.getElem?_eq_none N] at M
    ·rw [D] at G
     have:=(J i (by omega)).1
     rw [Addr.add_lit] at this
     rw [Z i G]
     exact this
  ·obtain ⟨i,G,rfl⟩:=List.mem_map.1 a0
   exact (J i (by have:=List.mem_range.1 G;omega)).2
end
section
open Go.ChangeShapes Go.WideShapes Go.ChangeAt Go.RowKit
end
section
open Go.ChangeShapes Go.WideShapes Go.ChangeAt Go.RowKit
def kD (x:Zb):Prop:=(∀ v ∈ x.L,Jt v)/\(-9223372036854775808<=x.config/\x.config<=9223372036854775807)
theorem JbG:prog.cellsOf 4=1:=by kernel_rfl
theorem Jdi:prog.cellsOf 59=8:=by kernel_rfl
theorem JcV:∃ f0 f1 f2 j y D G I,prog.underlying 59=some (.struct #[f0,f1,f2,j,y,D,G,I])/\(f0.offset=0/\f1.offset=1/\f2.offset=2/\j.offset=3/\y.offset=4/\D.offset=5/\G.offset=6/\I.offset=7)/\f0.type=9/\f1.type=9/\f2.type=9/\j.type=9/\y.type=3/\D.type=3/\G.type=4/\I.type=55:=⟨_,_,_,_,_,_,_,_,underlying59,⟨rfl,rfl,rfl,rfl,rfl,rfl,rfl,rfl⟩,rfl,rfl,rfl,rfl,rfl,rfl,rfl,rfl⟩
theorem Jdj (l:List Yb):Xi l<=60*L2 l:=by
 induction l with
 | nil=>exact Nat.le_refl _
 | cons v l ih =>
  have e:L2 (v :: l)=1+v.text.size / 20+L2 l:=by simp [L2]
  have j:Xi (v :: l)=40+v.text.size+Xi l:=by simp [Xi]
  omega
theorem Jdk {m:DataW H->Nat} (D:u5 m) {enc:TypeId×Value->H}  {I:List Value} {y:DataW H×List MemPlace} (h:DataW.trod enc prog W 0 (fun _=>true) true fuel 59 I=some y) (a5:I.length=8):∃ x:Zb×Lv,I=Jw x/\Jn W x/\kD x.1/\20+nR x.1<=60*m y.1:=by
 obtain ⟨f0,f1,f2,f3,f4,f5,f6,f7,a0,⟨o0,o1,o2,o3,o4,o5,o6,o7⟩,t0,t1,t2,t3,t4,t5,t6,t7⟩:=JcV
 obtain ⟨xs,n,_,hx,_,a1,j⟩:=DataW.trod_struct a0 h
 match I,a5,xs,a1 with
 | [v0,v1,v2,v3,v4,v5,v6,v7],_,[y0,y1,y2,y3,y4,y5,y6,y7],_ =>
  have J:=j 0 f0 rfl
  have K:=j 1 f1 rfl
  have M:=j 2 f2 rfl
  have N:=j 3 f3 rfl
  have O:=j 4 f4 rfl
  have Q:=j 5 f5 rfl
  have U:=j 6 f6 rfl
  have X:=j 7 f7 rfl
  rw [t0,o0,D2] at J
  rw [t1,o1,D2] at K
  rw [t2,o2,D2] at M
  rw [t3,o3,D2] at N
  rw [t4,o4,MD] at O
  rw [t5,o5,MD] at Q
  rw [t6,o6,JbG] at U
  rw [t7,o7,Jc4] at X
  obtain ⟨m1,Y,e1,_⟩:=DataW.trod_string underlying9 (show DataW.trod _ _ _ _ _ _ _ _ [v0]=some y0 from J)
  obtain ⟨m2,Z,e2,_⟩:=DataW.trod_string underlying9 (show DataW.trod _ _ _ _ _ _ _ _ [v1]=some y1 from K)
  obtain ⟨m3,h3,e3,_⟩:=DataW.trod_string underlying9 (show DataW.trod _ _ _ _ _ _ _ _ [v2]=some y2 from M)
  obtain ⟨G,h4,e4,_⟩:=DataW.trod_string underlying9 (show DataW.trod _ _ _ _ _ _ _ _ [v3]=some y3 from N)
  obtain ⟨m5,h5,_,_⟩:=DataW.trod_int underlying3 (show DataW.trod _ _ _ _ _ _ _ _ [v4]=some y4 from O)
  obtain ⟨m6,h6,_,w6⟩:=DataW.trod_int underlying3 (show DataW.trod _ _ _ _ _ _ _ _ [v5]=some y5 from Q)
  obtain ⟨m7,h7,_⟩:=DataW.trod_bool underlying4 (show DataW.trod _ _ _ _ _ _ _ _ [v6]=some y6 from U)
  obtain ⟨p,L,c,h8,a2,a3,hn,a4,a6⟩:=Jdt D (show DataW.trod _ _ _ _ _ _ _ _ [v7]=some y7 from X)
  simp only [List.cons.injEq,and_true] at Y Z h3 h4 h5 h6 h7
  subst Y Z h3 h4 h5 h6 h7 h8
  refine ⟨(⟨m1,m2,m3,G,m5,m6,m7,L⟩,(p,L.length,c)),rfl,⟨rfl,a2,a3,hn⟩,⟨a4,by simp [Lit.wf,IntKind.min,IntKind.max,IntKind.bits,IntKind.signed] at w6;exact w6⟩,?_⟩
  have hd:y.1=.agg [y0.1,y1.1,y2.1,y3.1,y4.1,y5.1,y6.1,y7.1]:=by rw [hx];rfl
  have hs:=D.agg [y0.1,y1.1,y2.1,y3.1,y4.1,y5.1,y6.1,y7.1]
  rw [<- hd] at hs
  simp only [List.map_cons,List.map_nil,List.sum_cons,List.sum_nil] at hs
  have b1:m1.size<=m y0.1:=by rw [e1];exact D.sZ m1
  have b2:m2.size<=m y1.1:=by rw [e2];exact D.sZ m2
  have b3:m3.size<=m y2.1:=by rw [e3];exact D.sZ m3
  have b4:G.size<=m y3.1:=by rw [e4];exact D.sZ G
  have b5:=D.one y4.1
  have b6:=Jdj L
  show 20+(m1.size+m2.size+m3.size+G.size+Xi L)<=_
  omega
theorem Jdl {m:DataW H->Nat} (hb:u5 m) {enc:TypeId×Value->H}  {y:DataW H×List MemPlace} (h:DataW.trod enc prog W 0 (fun _=>true) true fuel 27 [v]=some y) :
 ∃ p l a1,v=.slice p l.length a1/\mN W p l/\(∀ x ∈ l,kD x)/\Qa l<=60*m y.1:=by
 rcases Deep.open_slice underlying27 h with ⟨J,_⟩ | ⟨a,G,a2,m0,nn,D,Pl,J,_,b1,b2,hm,hy,U⟩
 ·simp at J
  subst J
  exact ⟨none,[],0,rfl,mN.nil _ _,(fun x U=>by cases U),Nat.zero_le _⟩
 ·simp at J
  subst J
  have b3:G<=m0:=by rw [hm];split <;> omega
  have b4:((List.range G).map fun i=>m (D i)).sum<=m y.1:=by
   rw [hy]
   have K:=hb.slice ((List.range G).map D)
   simp only [List.map_map] at K
   exact K _
  have X:∀ i,∃ x:Zb×Lv,i < G->(∀ j u,(Jw x)[j]?=some u->W.cell? ((a.add (i*8)).add j)=some u)/\Jn W x/\kD x.1/\20+nR x.1<=60*m (D i):=fun i=>by
   by_cases I:i < G
   ·obtain ⟨b5,K,Y⟩:=U i (by omega)
    rw [Jdi] at K
    obtain ⟨_,M,a3⟩:=World.cells?_some K
    obtain ⟨x,a4,a5,a6,a7⟩:=Jdk hb Y M
    refine ⟨x,fun _=>⟨fun j u O=>?_,a5,a6,a7⟩⟩
    have b6:j < 8:=(List.getElem?_eq_some_iff.1 O).1
    have:=a3 j (by omega)
    rw [this,a4]
    exact O
   ·exact ⟨(⟨⟨#[]⟩,⟨#[]⟩,⟨#[]⟩,⟨#[]⟩,0,0,false,[]⟩,(none,0,0)),fun h=>absurd h I⟩
  obtain ⟨R,N⟩:∃ R:Nat->Zb×Lv,∀ i,i < G->(∀ j u,(Jw (R i))[j]?=some u->W.cell? ((a.add (i*8)).add j)=some u)/\Jn W (R i)/\kD (R i).1/\20+nR (R i).1<=60*m (D i):=⟨fun i=>Classical.choose (X i),fun i=>Classical.choose_spec (X i)⟩
  clear X
  have M:((List.range G).map R).length=G:=by simp
  have a8:∀ i,i < G->((List.range G).map R)[i]?=some (R i):=fun i I=>by
   rw [List.getElem?_map,List.getElem?_range I]
   rfl
  refine ⟨some a,((List.range G).map R).map Prod.fst,a2,by rw [List.length_map,M],⟨(List.range G).map R,rfl,?_,fun x Z=>?_⟩,fun x Z=>?_,?_⟩
  ·by_cases h0:G=0
   ·exact Or.inl (List.length_eq_zero_iff.1 (by rw [M];exact h0))
   ·obtain ⟨u0,Q⟩:∃ u,W.cell? ((a.add (0*8)).add 0)=some u:=⟨_,(N 0 (by omega)).1 0 _ rfl⟩
    obtain ⟨b,a9,sp⟩:=a
    have b0:sp=none:=by
     cases sp with
     | none=>rfl
     | some q =>
      exfalso
      simp [Addr.add,World.cell?] at Q
      revert Q
      split <;> intro h9 <;> cases h9
    subst b0
    refine Or.inr ⟨b,a9,rfl,?_,fun i x a0 j u O=>?_⟩
    ·rw [Addr.add_lit,Addr.add_lit] at Q
     rcases Nat.lt_or_ge b W.heap.size with h' | h'
     ·exact h'
     ·simp [World.cell?,Array.getElem?_eq_none h'] at Q
    ·have I:i < G:=by have:=(List.getElem?_eq_some_iff.1 a0).1;rw [M] at this;exact this
     rw [a8 i I] at a0
     have e:=Option.some.inj a0
     have hc:=(N i I).1 j u (by rw [e];exact O)
     rw [Addr.add_lit,Addr.add_lit] at hc
     exact hc
  ·obtain ⟨i,I,rfl⟩:=List.mem_map.1 Z
   exact (N i (List.mem_range.1 I)).2.1
  ·obtain ⟨z,hz,rfl⟩:=List.mem_map.1 Z
   obtain ⟨i,I,rfl⟩:=List.mem_map.1 hz
   exact (N i (List.mem_range.1 I)).2.2.1
  ·have Y : Qa (((List.range G).map R).map Prod.fst) <= ((List.range G).map fun i => 60 * m (D i)).sum := by
    unfold Qa
    rw [List.map_map,List.map_map]
    exact JaR G fun i I=>(N i I).2.2.2
   have h3:∀ (L:List Nat),(L.map fun i=>60*m (D i)).sum=60*(L.map fun i=>m (D i)).sum:=by
    intro L
    induction L with
    | nil=>rfl
    | cons x r ih=>simp only [List.map_cons,List.sum_cons,ih];omega
   rw [h3] at Y
   omega
end
section
open Go.ChangeShapes Go.WideShapes Go.ChangeAt Go.RowKit
theorem JdA:prog.cellsOf 26=9:=by kernel_rfl
theorem Jc8:∃ f0 f1 f2 j y D G,prog.underlying 26=some (.struct #[f0,f1,f2,j,y,D,G])/\(f0.offset=0/\f1.offset=1/\f2.offset=2/\j.offset=3/\y.offset=4/\D.offset=7/\G.offset=8)/\f0.type=4/\f1.type=3/\f2.type=3/\j.type=3/\y.type=24/\D.type=9/\G.type=9:=⟨_,_,_,_,_,_,_,underlying26,⟨rfl,rfl,rfl,rfl,rfl,rfl,rfl⟩,rfl,rfl,rfl,rfl,rfl,rfl,rfl⟩
theorem JdB {m:DataW H->Nat} (M:u5 m) {enc:TypeId×Value->H}  {y:DataW H×List MemPlace} (h:DataW.trod enc prog W 0 (fun _=>true) true fuel 27 [v]=some y) :
 ∃ p l j,v=.slice p l.length j/\mN W p l/\(∀ x ∈ l,∀ v ∈ x.L,Jt v)/\Qa l<=60*m y.1:=by
 obtain ⟨p,l,j,D,G,I,J⟩:=Jdl M h
 exact ⟨p,l,j,D,G,fun x K=>(I x K).1,J⟩
theorem Jd7 {enc:TypeId×Value->H} {base:Nat} {d:DataW H} {ps:List MemPlace} (b1:Value.okWide prog W .any base 26 v) (h:DataW.Trod enc prog W 0 (fun _=>true) true 26 v d ps) :
 ∃ (b:eT) (p:Option Addr) (D:Nat),v=.agg #[.bool b.put,.int .i64 b.who,.int .i64 b.op,.int .i64 b.config,.int .i64 b.c.n,.int .i64 b.c.k,.slice p b.c.L.length D,.string b.key,.string b.text]/\IK W b.c.L p D/\Jt5 b.c/\Zt b.who/\Zt b.op/\Zt b.config:=by
 obtain ⟨f0,f1,f2,f3,f4,f5,f6,G,⟨o0,o1,o2,o3,o4,o5,o6⟩,t0,t1,t2,t3,t4,t5,t6⟩:=Jc8
 obtain ⟨g0,g1,g2,a0,a1,a2,a3,a4,a5,a6⟩:=Jda
 obtain ⟨I,rfl,J⟩:=okWide_struct G b1
 rw [JdA] at J
 obtain ⟨fuel,hf⟩:=h
 obtain ⟨xs,n,_,hx,_,a7,j⟩:=DataW.trod_struct G hf
 obtain ⟨y,K⟩:∃ y,y=I.toList:=⟨_,rfl⟩
 have a8:y.length=9:=by rw [K];simpa using J
 have a9:I=y.toArray:=by rw [K]
 subst a9
 match y,a8,xs,a7 with
 | [v0,v1,v2,v3,v4,v5,v6,v7,v8],_,[y0,y1,y2,y3,y4,y5,y6],_ =>
  have M:=j 0 f0 rfl
  have N:=j 1 f1 rfl
  have O:=j 2 f2 rfl
  have Q:=j 3 f3 rfl
  have U:=j 4 f4 rfl
  have X:=j 5 f5 rfl
  have Y:=j 6 f6 rfl
  rw [t0,o0,JbG] at M
  rw [t1,o1,ES] at N
  rw [t2,o2,ES] at O
  rw [t3,o3,ES] at Q
  rw [t4,o4,JdG] at U
  rw [t5,o5,D2] at X
  rw [t6,o6,D2] at Y
  obtain ⟨z0,z1,z2,n2,_,_,Z,k1,k2⟩:=Deep.trod_struct3 a0 (show DataW.trod _ _ _ _ _ _ _ _ [v4,v5,v6]=some y4 from U)
  rw [a4,a1,ES] at Z
  rw [a5,a2,ES] at k1
  rw [a6,a3,RF] at k2
  obtain ⟨cn,hn,_,wn⟩:=DataW.trod_int underlying3 Z
  obtain ⟨ck,hk,_,wk⟩:=DataW.trod_int underlying3 k1
  obtain ⟨p,l,D,hl,b0⟩:=BE (show DataW.trod _ _ _ _ _ _ _ _ [v6]=some z2 from k2)
  obtain ⟨m0,h0,_⟩:=DataW.trod_bool underlying4 (show DataW.trod _ _ _ _ _ _ _ _ [v0]=some y0 from M)
  obtain ⟨m1,h1,_,w1⟩:=DataW.trod_int underlying3 (show DataW.trod _ _ _ _ _ _ _ _ [v1]=some y1 from N)
  obtain ⟨m2,h2,_,w2⟩:=DataW.trod_int underlying3 (show DataW.trod _ _ _ _ _ _ _ _ [v2]=some y2 from O)
  obtain ⟨m3,h3,_,w3⟩:=DataW.trod_int underlying3 (show DataW.trod _ _ _ _ _ _ _ _ [v3]=some y3 from Q)
  obtain ⟨m5,h5,_,_⟩:=DataW.trod_string underlying9 (show DataW.trod _ _ _ _ _ _ _ _ [v7]=some y5 from X)
  obtain ⟨m6,h6,_,_⟩:=DataW.trod_string underlying9 (show DataW.trod _ _ _ _ _ _ _ _ [v8]=some y6 from Y)
  simp at hn hk
  simp only [List.cons.injEq,and_true] at h0 h1 h2 h3 h5 h6
  subst hn hk hl h0 h1 h2 h3 h5 h6
  exact ⟨⟨m0,m1,m2,m3,⟨cn,ck,l⟩,m5,m6⟩,p,D,rfl,b0,⟨bounds_i64 wn,bounds_i64 wk⟩,bounds_i64 w1,bounds_i64 w2,bounds_i64 w3⟩
end
end Go.Proofs.YtmikbldbfnlfjaaGreatDoor
