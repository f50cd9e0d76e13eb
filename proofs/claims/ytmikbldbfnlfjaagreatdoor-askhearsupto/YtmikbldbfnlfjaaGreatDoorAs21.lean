/- Texts laid together. -/
import Derived.Test.YtmikbldbfnlfjaaGreatDoorAs20
set_option maxRecDepth 20000
set_option maxHeartbeats 40000000
namespace Go.Proofs.YtmikbldbfnlfjaaGreatDoor
open Go.Proofs.Tryz
open Go.RowKit
section
variable {ad:Nat->Addr} {X:World->Prop} {Ak:World->Nat->Nat->(Nat->Prop)->Za->Prop}
theorem Jbs (hO:WS ad X Ak) (b:eT) (p:Option Addr) (y:Nat) (l:List Zb) (lp:Option Addr) (p1:Nat) (w:World) (J:sS ad X b p y l lp w) (hF:∀ {w B h S a},Ak w B h S a->JU a) (h1:Zx b.c=false) (h2:¬ 100 < b.key.size) (h3:b.text.size<=100∨1000 < b.text.size/\b.text.size<=2000) (h4:X5 l=true) (h5:b.put=false) (h6:¬ 0 < (JX b).1):Calls prog 3 #[.agg #[.bool b.put,.int .i64 b.who,.int .i64 b.op,.int .i64 b.config,.int .i64 b.c.n,.int .i64 b.c.k,.slice p b.c.L.length y,.string b.key,.string b.text],.slice lp l.length p1] w fun e w'=>e=.returned (.bool true)/\Below w.heap.size w w':=by
 rw [h5]
 obtain ⟨j,b7⟩:∃ j,j=w.alloc (.cells #[.bool false,.int .i64 b.who,.int .i64 b.op,.int .i64 b.config,.int .i64 b.c.n,.int .i64 b.c.k,.slice p b.c.L.length y,.string b.key,.string b.text] 26):=⟨_,rfl⟩
 have a2:Below w.heap.size w j:=by rw [b7];exact (Below.refl _ _).alloc (Nat.le_refl _) _
 have p4:w.heap.size < j.heap.size:=by rw [b7];simp
 have p5:j.heap[w.heap.size]?=some (.cells #[.bool false,.int .i64 b.who,.int .i64 b.op,.int .i64 b.config,.int .i64 b.c.n,.int .i64 b.c.k,.slice p b.c.L.length y,.string b.key,.string b.text] 26 (0,0)):=by
  rw [b7]
  show (w.heap.push _)[w.heap.size]?=_
  simp
 have a6:Hid (∀ W,Below j.heap.size j W->(W.cell? ⟨w.heap.size,0,none⟩=some (.bool false)/\W.cell? ⟨w.heap.size,1,none⟩=some (.int .i64 b.who)/\W.cell? ⟨w.heap.size,2,none⟩=some (.int .i64 b.op)/\W.cell? ⟨w.heap.size,3,none⟩=some (.int .i64 b.config)/\W.cell? ⟨w.heap.size,4,none⟩=some (.int .i64 b.c.n)/\W.cell? ⟨w.heap.size,5,none⟩=some (.int .i64 b.c.k)/\W.cell? ⟨w.heap.size,6,none⟩=some (.slice p b.c.L.length y)/\W.cell? ⟨w.heap.size,7,none⟩=some (.string b.key)/\W.cell? ⟨w.heap.size,8,none⟩=some (.string b.text)/\Below j.heap.size j W)):=fun W G=>by
  have hb:=(G.block _ p4).trans p5
  exact ⟨(Ja hb 0).1,(Ja hb 1).1,(Ja hb 2).1,(Ja hb 3).1,(Ja hb 4).1,(Ja hb 5).1,(Ja hb 6).1,(Ja hb 7).1,(Ja hb 8).1,G⟩
 have p6:=zE hO j (fun V hV=>(J.ok (a2.trans (hV.mono a2.size))).1) (fun V hV=>(J.ok (a2.trans (hV.mono a2.size))).2)
 have h7:Hid (∀ W,Below j.heap.size j W->Calls prog 6 #[.agg #[.int .i64 b.c.n,.int .i64 b.c.k,.slice p b.c.L.length y]] W fun e w'=>e=.returned (.bool (Zx b.c))/\Below j.heap.size j w'):=fun W G=>(X3 b.c p y W J.len J.size ((J.strs.below a2).below G)).mono fun e w' hq=>⟨hq.1,G.trans (hq.2.mono G.size)⟩
 have h8:Hid (∀ W,Below j.heap.size j W->Calls prog 7 #[.slice lp l.length p1] W fun e w'=>e=.returned (.bool (X5 l))/\Below j.heap.size j w'):=fun W G=>(Qy lp l p1 W J.pE ((J.msgs.below a2).below G)).mono fun e w' hq=>⟨hq.1,G.trans (hq.2.mono G.size)⟩
 have j5:Hid (j=w.alloc (.cells #[.bool false,.int .i64 b.who,.int .i64 b.op,.int .i64 b.config,.int .i64 b.c.n,.int .i64 b.c.k,.slice p b.c.L.length y,.string b.key,.string b.text] 26)):=b7
 have p7:Hid (Below w.heap.size w j):=a2
 rw [h1] at h7
 rw [h4] at h8
 obtain ⟨n1,n2⟩:=L1 h1
 have j6:Hid (∀ W,Below j.heap.size j W->Strs W p b.c.L):=fun W G=>(J.strs.below a2).below G
 have j8:Hid (∀ W q d,Strs W q b.c.L->b.c.L.length<=d->(q=none->b.c.L=[]/\d=0)->Yn W b.c q d):=fun W q d g1 g2 g3=>Ja5 g1 g2 g3 h1 J.ints
 have p8:Hid (∀ W,(W.cell? ⟨w.heap.size,0,none⟩=some (.bool false)/\W.cell? ⟨w.heap.size,1,none⟩=some (.int .i64 b.who)/\W.cell? ⟨w.heap.size,2,none⟩=some (.int .i64 b.op)/\W.cell? ⟨w.heap.size,3,none⟩=some (.int .i64 b.config)/\W.cell? ⟨w.heap.size,4,none⟩=some (.int .i64 b.c.n)/\W.cell? ⟨w.heap.size,5,none⟩=some (.int .i64 b.c.k)/\W.cell? ⟨w.heap.size,6,none⟩=some (.slice p b.c.L.length y)/\W.cell? ⟨w.heap.size,7,none⟩=some (.string b.key)/\W.cell? ⟨w.heap.size,8,none⟩=some (.string b.text)/\Below j.heap.size j W)->Calls prog 9 #[.agg #[.int .i64 b.c.n,.int .i64 b.c.k,.slice p b.c.L.length y]] W fun e w'=>∃ q d,e=.returned (.agg #[.int .i64 b.c.n,.int .i64 b.c.k,.slice q b.c.L.length d])/\Hid (Yn w' b.c q d)/\(w'.cell? ⟨w.heap.size,0,none⟩=some (.bool false)/\w'.cell? ⟨w.heap.size,1,none⟩=some (.int .i64 b.who)/\w'.cell? ⟨w.heap.size,2,none⟩=some (.int .i64 b.op)/\w'.cell? ⟨w.heap.size,3,none⟩=some (.int .i64 b.config)/\w'.cell? ⟨w.heap.size,4,none⟩=some (.int .i64 b.c.n)/\w'.cell? ⟨w.heap.size,5,none⟩=some (.int .i64 b.c.k)/\w'.cell? ⟨w.heap.size,6,none⟩=some (.slice p b.c.L.length y)/\w'.cell? ⟨w.heap.size,7,none⟩=some (.string b.key)/\w'.cell? ⟨w.heap.size,8,none⟩=some (.string b.text)/\Below j.heap.size j w')):=fun W G=>(Jao b.c p y W (by omega) (j6.out W G.2.2.2.2.2.2.2.2.2) J.empty).mono fun e w' hq=>by
  obtain ⟨⟨q,d,e1,e2,e3,e4⟩,e5⟩:=hq
  exact ⟨q,d,e1,j8.out w' q d e2 e3 e4,a6.out w' (G.2.2.2.2.2.2.2.2.2.trans (e5.mono G.2.2.2.2.2.2.2.2.2.size))⟩
 have k1:Hid (∀ W,Below j.heap.size j W->Zp W ad/\X W):=fun W G=>J.ok (a2.trans (G.mono a2.size))
 obtain ⟨c1,c2,c3⟩:=JbK h6
 have p9:Hid (∀ W q d,Hid (Yn W b.c q d)->(W.cell? ⟨w.heap.size,0,none⟩=some (.bool false)/\W.cell? ⟨w.heap.size,1,none⟩=some (.int .i64 b.who)/\W.cell? ⟨w.heap.size,2,none⟩=some (.int .i64 b.op)/\W.cell? ⟨w.heap.size,3,none⟩=some (.int .i64 b.config)/\W.cell? ⟨w.heap.size,4,none⟩=some (.int .i64 b.c.n)/\W.cell? ⟨w.heap.size,5,none⟩=some (.int .i64 b.c.k)/\W.cell? ⟨w.heap.size,6,none⟩=some (.slice p b.c.L.length y)/\W.cell? ⟨w.heap.size,7,none⟩=some (.string b.key)/\W.cell? ⟨w.heap.size,8,none⟩=some (.string b.text)/\Below j.heap.size j W)->Calls prog 10 #[.int .i64 b.who,.int .i64 b.op,.agg #[.int .i64 b.c.n,.int .i64 b.c.k,.slice q b.c.L.length d],.int .i64 b.config,.string b.key] W fun e w'=>∃ h,e=.returned (.tuple #[.pointer (some ⟨h,0,none⟩),.nilIface])/\Hid (AkB Ak w w' h b.ask)/\(w'.cell? ⟨w.heap.size,0,none⟩=some (.bool false)/\w'.cell? ⟨w.heap.size,1,none⟩=some (.int .i64 b.who)/\w'.cell? ⟨w.heap.size,2,none⟩=some (.int .i64 b.op)/\w'.cell? ⟨w.heap.size,3,none⟩=some (.int .i64 b.config)/\w'.cell? ⟨w.heap.size,4,none⟩=some (.int .i64 b.c.n)/\w'.cell? ⟨w.heap.size,5,none⟩=some (.int .i64 b.c.k)/\w'.cell? ⟨w.heap.size,6,none⟩=some (.slice p b.c.L.length y)/\w'.cell? ⟨w.heap.size,7,none⟩=some (.string b.key)/\w'.cell? ⟨w.heap.size,8,none⟩=some (.string b.text)/\Below j.heap.size j w')):=fun W q d hc G=>(hO.get b q d W hc.out h5 (by omega) J.who J.op J.config (k1.out W G.2.2.2.2.2.2.2.2.2).1 (k1.out W G.2.2.2.2.2.2.2.2.2).2).mono fun e w' hq=>by
  obtain ⟨⟨ev,g1,g2⟩,g3⟩:=hq
  rw [c3] at g1 g2
  obtain rfl:=Jd.isNil g1
  have x5:Below j.heap.size j w':=G.2.2.2.2.2.2.2.2.2.trans (g3.mono G.2.2.2.2.2.2.2.2.2.size)
  rcases g2 with ⟨g2,_⟩ | ⟨_,h,S1,g4,g5⟩
  ·exact absurd g2 (by decide)
  ·exact ⟨h,g4,⟨_,S1,g5,g3.size,Nat.le_trans a2.size G.2.2.2.2.2.2.2.2.2.size⟩,a6.out w' x5⟩
 have k2:Hid (∀ W,Below j.heap.size j W->Calls prog 11 #[.agg #[.bool false,.int .i64 b.who,.int .i64 b.op,.int .i64 b.config,.int .i64 b.c.n,.int .i64 b.c.k,.slice p b.c.L.length y,.string b.key,.string b.text]] W fun e w'=>e=.returned (.agg #[.int .i64 (JX b).1,.int .i64 (JX b).2])/\Below W.heap.size W w'):=fun W G=>by
  have k3:=Jau b p y W (j8.out W p y (j6.out W G) J.room J.empty) (by omega)
  unfold O2 at k3
  rw [h5] at k3
  exact k3
 rw [c3] at k2
 obtain ⟨wn,k4⟩:∃ wn:Nat,b.who=(wn:Int):=⟨b.who.toNat,by have:=c2.1;omega⟩
 have x7:wn < 6:=by have:=c2.2.1;omega
 have q0:∀ W,Calls prog 13 #[.int .i64 b.who] W fun e w'=>e=.returned (.string (Jp [48+wn]))/\Below W.heap.size W w':=fun W=>by rw [k4];exact Jbe wn (by omega) W
 have q6:Hid (∀ W h,(W.cell? ⟨w.heap.size,0,none⟩=some (.bool false)/\W.cell? ⟨w.heap.size,1,none⟩=some (.int .i64 b.who)/\W.cell? ⟨w.heap.size,2,none⟩=some (.int .i64 b.op)/\W.cell? ⟨w.heap.size,3,none⟩=some (.int .i64 b.config)/\W.cell? ⟨w.heap.size,4,none⟩=some (.int .i64 b.c.n)/\W.cell? ⟨w.heap.size,5,none⟩=some (.int .i64 b.c.k)/\W.cell? ⟨w.heap.size,6,none⟩=some (.slice p b.c.L.length y)/\W.cell? ⟨w.heap.size,7,none⟩=some (.string b.key)/\W.cell? ⟨w.heap.size,8,none⟩=some (.string b.text)/\Below j.heap.size j W)->Hid (AkB Ak w W h b.ask)->Calls prog 13 #[.int .i64 b.who] W fun e w'=>e=.returned (.string (Jp [48+wn]))/\Hid (AkB Ak w w' h b.ask)/\(w'.cell? ⟨w.heap.size,0,none⟩=some (.bool false)/\w'.cell? ⟨w.heap.size,1,none⟩=some (.int .i64 b.who)/\w'.cell? ⟨w.heap.size,2,none⟩=some (.int .i64 b.op)/\w'.cell? ⟨w.heap.size,3,none⟩=some (.int .i64 b.config)/\w'.cell? ⟨w.heap.size,4,none⟩=some (.int .i64 b.c.n)/\w'.cell? ⟨w.heap.size,5,none⟩=some (.int .i64 b.c.k)/\w'.cell? ⟨w.heap.size,6,none⟩=some (.slice p b.c.L.length y)/\w'.cell? ⟨w.heap.size,7,none⟩=some (.string b.key)/\w'.cell? ⟨w.heap.size,8,none⟩=some (.string b.text)/\Below j.heap.size j w')):=fun W h G hA=>(q0 W).mono fun e w' hq=>⟨hq.1,hA.out.below hO hq.2,a6.out w' (G.2.2.2.2.2.2.2.2.2.trans (hq.2.mono G.2.2.2.2.2.2.2.2.2.size))⟩
 have y1:∀ W:World,Sem.run prog (Op.stringOp .add ⟨#[99]⟩ (Jp [48+wn])) W=.ok (.string (JY b.who)) W:=fun W=>by
  rw [k4,<- JbJ x7]
  exact run_string_add_sum W _ _ (by rw [xG];show 1+1<=_;omega)
 have q7:Qa l < 6000:=by unfold X5 at h4;rw [Bool.and_eq_true] at h4;exact of_decide_eq_true h4.2
 have r0:Hid (∀ m ∈ l,∀ v ∈ m.L,Jt v):=J.cM
 have k6:Hid (∀ V:World,w.heap.size<=V.heap.size->(∀ k,k < w.heap.size->V.heap[k]?=w.heap[k]?)->Zp V ad/\X V):=J.eZ
 have r3:Hid (¬ 0 < (Jg b.c).1):=c1
 have d9:Hid (Strs w p b.c.L/\b.c.L.length<=y/\(p=none->b.c.L=[]/\y=0)):=⟨J.strs,J.room,J.empty⟩
 have U:Hid (WS ad X Ak):=hO
 have k7:Hid (∀ (w:World) (B h:Nat) (S:Nat->Prop) (a:Za),Ak w B h S a->JU a):=fun w B h S a hA=>hF hA
 have r4:Hid (mN w lp l):=J.msgs
 have r5:Hid (Qa l < 6000):=q7
 have B9:l.length<=6000:=Nat.le_trans (Jbd l) (by omega)
 clear c2 c3 hF q7
 have e9:Hid (∀ W,Below j.heap.size j W->(W.cell? ⟨w.heap.size,0,none⟩=some (.bool false)/\W.cell? ⟨w.heap.size,1,none⟩=some (.int .i64 b.who)/\W.cell? ⟨w.heap.size,2,none⟩=some (.int .i64 b.op)/\W.cell? ⟨w.heap.size,3,none⟩=some (.int .i64 b.config)/\W.cell? ⟨w.heap.size,4,none⟩=some (.int .i64 b.c.n)/\W.cell? ⟨w.heap.size,5,none⟩=some (.int .i64 b.c.k)/\W.cell? ⟨w.heap.size,6,none⟩=some (.slice p b.c.L.length y)/\W.cell? ⟨w.heap.size,7,none⟩=some (.string b.key)/\W.cell? ⟨w.heap.size,8,none⟩=some (.string b.text)/\Below j.heap.size j W)):=a6.out
 have H5:Hid (b.put=false):=h5
 clear h1 h4 h5 h6
 clear k4
 clear J hO b7 a2 p4 p5 n2 j8 j6 k1
 go_enter func3,ntmps3
 go_wp2_with (first | rw [<- j5.out] | fail)
 refine p6.mono ?_
 rintro e w2 ⟨rfl,r6⟩
 have h9:Hid (Below j.heap.size j w2):=r6
 clear r6 p6
 go_upto_region 2 with fail
 go_cut [50] from 15 to 50 (fun v W=>v=.bool false/\Below j.heap.size j W)
 case first =>
  obtain ⟨d0,d1,d2,d3,d4,d5,d6,d7,d8,_⟩:=a6.out w2 h9.out
  rcases h3 with h3 | h3
  ·skip
   have q1:decide ((100:Int) < (b.key.size:Int))=false:=decide_eq_false (by omega)
   have q2:decide ((100:Int) < (b.text.size:Int))=false:=decide_eq_false (by omega)
   have q4:decide ((2000:Int) < (b.text.size:Int))=false:=decide_eq_false (by omega)
   go_wp2_with fail
   refine (h7.out w2 h9.out).mono ?_
   rintro e w3 ⟨rfl,a7⟩
   clear d0 d1 d2 d3 d4 d5 d6 d7 d8
   obtain ⟨d0,d1,d2,d3,d4,d5,d6,d7,d8,_⟩:=a6.out w3 a7
   have l0:Hid (Below j.heap.size j w3):=a7
   clear a7
   go_wp2_with fail
   refine (h8.out w3 l0.out).mono ?_
   rintro e w4 ⟨rfl,a4⟩
   have f3:Hid (Below j.heap.size j w4):=a4
   clear d0 d1 d2 d3 d4 d5 d6 d7 d8 a4
   go_wp2_with fail
   go_meet
   exact ⟨rfl,f3.out⟩
  ·skip
   have q1:decide ((100:Int) < (b.key.size:Int))=false:=decide_eq_false (by omega)
   have q2:decide ((100:Int) < (b.text.size:Int))=true:=decide_eq_true (by omega)
   have q3:decide ((b.text.size:Int)<=1000)=false:=decide_eq_false (by omega)
   have q4:decide ((2000:Int) < (b.text.size:Int))=false:=decide_eq_false (by omega)
   go_wp2_with fail
   refine (h7.out w2 h9.out).mono ?_
   rintro e w3 ⟨rfl,a7⟩
   clear d0 d1 d2 d3 d4 d5 d6 d7 d8
   obtain ⟨d0,d1,d2,d3,d4,d5,d6,d7,d8,_⟩:=a6.out w3 a7
   have l0:Hid (Below j.heap.size j w3):=a7
   clear a7
   go_wp2_with fail
   refine (h8.out w3 l0.out).mono ?_
   rintro e w4 ⟨rfl,a4⟩
   have f3:Hid (Below j.heap.size j w4):=a4
   clear d0 d1 d2 d3 d4 d5 d6 d7 d8 a4
   go_wp2_with fail
   go_meet
   exact ⟨rfl,f3.out⟩
 case rest =>
  obtain ⟨rfl,a4⟩:=hcut
  obtain ⟨w4,rfl⟩:∃ w4,w4=wc:=⟨_,rfl⟩
  have f3:Hid (Below j.heap.size j w4):=a4
  have d0:=(a6.out w4 a4).1
  have r7:=e9.out w4.drew a4.drew
  clear a4 h7 h8 h3 h9
  go_wp2
  go_region_held3 (fun W=>(W.cell? ⟨w.heap.size,0,none⟩=some (.bool false)/\W.cell? ⟨w.heap.size,1,none⟩=some (.int .i64 b.who)/\W.cell? ⟨w.heap.size,2,none⟩=some (.int .i64 b.op)/\W.cell? ⟨w.heap.size,3,none⟩=some (.int .i64 b.config)/\W.cell? ⟨w.heap.size,4,none⟩=some (.int .i64 b.c.n)/\W.cell? ⟨w.heap.size,5,none⟩=some (.int .i64 b.c.k)/\W.cell? ⟨w.heap.size,6,none⟩=some (.slice p b.c.L.length y)/\W.cell? ⟨w.heap.size,7,none⟩=some (.string b.key)/\W.cell? ⟨w.heap.size,8,none⟩=some (.string b.text)/\Below j.heap.size j W)) (first | assumption | exact r7) (first | (go_at_call 9;refine (p8.out _ (by assumption)).mono ?_;rintro e w5 ⟨q5,d5,rfl,y2,a5⟩) | (go_at_call 10;refine (p9.out _ _ _ (by assumption) (by assumption)).mono ?_;rintro e w6 ⟨h,rfl,s2,b3⟩))
  obtain ⟨e0,e1,e2,e3,e4,e5,e6,e7,e8,l1⟩:=b3
  have l2:Hid (Below j.heap.size j w6):=l1
  have s3:=k2.out w6 l1
  clear l1 r7 p8 p9 y2 a5 d0 k2
  go_wp2_with fail
  refine s3.mono ?_
  rintro e w7 ⟨rfl,l3⟩
  obtain ⟨w8,i0⟩:∃ w8,w8=w7.alloc (.cells #[.int .i64 0,.int .i64 (-1)] 39):=⟨_,rfl⟩
  have s4:Below w7.heap.size w7 w8:=by rw [i0];exact (Below.refl _ _).alloc (Nat.le_refl _) _
  have k0:w8.cell? ⟨w7.heap.size,0,none⟩=some (.int .i64 0):=by rw [i0,World.cell?_alloc_at _ _ _ _ rfl];rfl
  have l7:Below w6.heap.size w6 w8:=l3.trans (s4.mono l3.size)
  have i1:Below j.heap.size j w8:=l2.out.trans (l7.mono l2.out.size)
  have y3:Hid (Below j.heap.size j w8):=i1
  have s5:Hid (w8=w7.alloc (.cells #[.int .i64 0,.int .i64 (-1)] 39)):=i0
  have y4:Hid (AkB Ak w w8.drew h b.ask):=(s2.out.below U.out l7).below U.out (Below.refl _ _).drew
  obtain ⟨e0,e1,e2,e3,e4,e5,e6,e7,e8,_⟩:=e9.out w8 i1
  have s6:=e9.out w8.drew i1.drew
  clear s2 i0 s4 l7 i1 l3 s3
  go_wp2_with (first | rw [<- s5.out] | fail)
  go_region_held3 (fun W=>(W.cell? ⟨w.heap.size,0,none⟩=some (.bool false)/\W.cell? ⟨w.heap.size,1,none⟩=some (.int .i64 b.who)/\W.cell? ⟨w.heap.size,2,none⟩=some (.int .i64 b.op)/\W.cell? ⟨w.heap.size,3,none⟩=some (.int .i64 b.config)/\W.cell? ⟨w.heap.size,4,none⟩=some (.int .i64 b.c.n)/\W.cell? ⟨w.heap.size,5,none⟩=some (.int .i64 b.c.k)/\W.cell? ⟨w.heap.size,6,none⟩=some (.slice p b.c.L.length y)/\W.cell? ⟨w.heap.size,7,none⟩=some (.string b.key)/\W.cell? ⟨w.heap.size,8,none⟩=some (.string b.text)/\Below j.heap.size j W)) (first | assumption | exact s6 | exact e9.out _ (b4.2.2.2.2.2.2.2.2.2.alloc b4.2.2.2.2.2.2.2.2.2.size _)) (first | (go_at_call 13;refine (q6.out _ _ (by assumption) (by assumption)).mono ?_;rintro e I ⟨rfl,l8,b4⟩))
  have i2:Below j.heap.size j I:=b4.2.2.2.2.2.2.2.2.2
  have l9:w.heap.size < I.heap.size:=Nat.lt_of_lt_of_le (by have:=j5.out;rw [this];simp) i2.size
  have m0:Below I.heap.size I (I.alloc (.cells #[.string (JY b.who),.string b.key,.int .i64 b.who,.int .i64 b.op,.int .i64 b.config,.int .i64 b.c.n,.int .i64 b.c.k,.slice p b.c.L.length y,.int .i64 0,.int .i64 0,.slice none 0 0,.bool false,.bool false,.string ⟨#[108,111,111,107,105,110,103]⟩,.slice none 0 0,.slice none 0 0,.int .i64 0,.int .i64 0,.string ⟨#[]⟩,.bool false] 48)):=(Below.refl _ _).alloc (Nat.le_refl _) _
  have y0:(I.alloc (.cells #[.string (JY b.who),.string b.key,.int .i64 b.who,.int .i64 b.op,.int .i64 b.config,.int .i64 b.c.n,.int .i64 b.c.k,.slice p b.c.L.length y,.int .i64 0,.int .i64 0,.slice none 0 0,.bool false,.bool false,.string ⟨#[108,111,111,107,105,110,103]⟩,.slice none 0 0,.slice none 0 0,.int .i64 0,.int .i64 0,.string ⟨#[]⟩,.bool false] 48)).cell? ⟨w.heap.size,0,none⟩=some (.bool false):=by rw [m0.cell (p:=⟨w.heap.size,0,none⟩) l9,b4.1]
  have y8:(I.alloc (.cells #[.string (JY b.who),.string b.key,.int .i64 b.who,.int .i64 b.op,.int .i64 b.config,.int .i64 b.c.n,.int .i64 b.c.k,.slice p b.c.L.length y,.int .i64 0,.int .i64 0,.slice none 0 0,.bool false,.bool false,.string ⟨#[108,111,111,107,105,110,103]⟩,.slice none 0 0,.slice none 0 0,.int .i64 0,.int .i64 0,.string ⟨#[]⟩,.bool false] 48)).cell? ⟨w.heap.size,8,none⟩=some (.string b.text):=by rw [m0.cell (p:=⟨w.heap.size,8,none⟩) l9];exact b4.2.2.2.2.2.2.2.2.1
  obtain ⟨Q,b5⟩:∃ Q,Q=I.alloc (.cells #[.string (JY b.who),.string b.key,.int .i64 b.who,.int .i64 b.op,.int .i64 b.config,.int .i64 b.c.n,.int .i64 b.c.k,.slice p b.c.L.length y,.int .i64 0,.int .i64 0,.slice none 0 0,.bool false,.bool false,.string ⟨#[108,111,111,107,105,110,103]⟩,.slice none 0 0,.slice none 0 0,.int .i64 0,.int .i64 0,.string ⟨#[]⟩,.bool false] 48):=⟨_,rfl⟩
  have z0:Q.cell? ⟨w.heap.size,0,none⟩=some (.bool false):=by rw [b5];exact y0
  have f4:Below I.heap.size I Q:=by rw [b5];exact (Below.refl _ _).alloc (Nat.le_refl _) _
  have y5:Q.heap.size=I.heap.size+1:=by rw [b5];simp
  have s7:Below j.heap.size j Q:=i2.trans (f4.mono i2.size)
  have m8:Below w.heap.size w Q:=p7.out.trans (s7.mono p7.out.size)
  have s8:Q.heap[I.heap.size]?=some (.cells #[.string (JY b.who),.string b.key,.int .i64 b.who,.int .i64 b.op,.int .i64 b.config,.int .i64 b.c.n,.int .i64 b.c.k,.slice p b.c.L.length y,.int .i64 0,.int .i64 0,.slice none 0 0,.bool false,.bool false,.string ⟨#[108,111,111,107,105,110,103]⟩,.slice none 0 0,.slice none 0 0,.int .i64 0,.int .i64 0,.string ⟨#[]⟩,.bool false] 48 (0,0)):=by rw [b5];show (I.heap.push _)[I.heap.size]?=_;simp
  obtain ⟨⟨_,_,y6⟩,m9,_,_,_⟩:=Xm (c:=b.c) (by have:=r3.out;omega)
  have s9:Hid (∃ B,Qk Ak w.heap.size B h I.heap.size (.slice p b.c.L.length y) (.slice none 0 0) Q.heap.size Q b.ask b.ask):=by
   obtain ⟨B,S,g1,g2,g3⟩:=l8.out.below U.out f4
   obtain ⟨B',S',n0,t0,y7⟩:=l8.out
   have z1:Xh Q w.heap.size (fun k=>k=I.heap.size) I.heap.size b.ask (.slice p b.c.L.length y) (.slice none 0 0) (.slice none 0 0) (.slice none 0 0) []:=by
    refine ⟨s8.trans ?_,⟨p,y,rfl,d9.out.1.below m8,d9.out.2.1,d9.out.2.2,fun b' o' e'=>?_⟩,⟨none,0,rfl,Or.inl rfl,Nat.le_refl _,fun _=>⟨rfl,rfl⟩,(fun b' o' e'=>by cases e')⟩,Zq.nil _ _,⟨JM.nil _ _ _,rfl,fun i J=>absurd J (Nat.not_lt_zero _)⟩,rfl,(fun k hk=>by cases hk),(fun k hk=>by cases hk),(fun v hv=>by cases hv),fun k hk=>⟨by rw [hk];omega,by rw [hk];omega⟩⟩
    ·unfold Qo eT.ask
     rw [H5.out]
     rfl
    ·rcases d9.out.1 with e0 | ⟨b2,o2,e2,e3,_⟩
     ·rw [e0] at m9;simp at m9;omega
     ·rw [e2] at e';injection e' with e';injection e' with e4;omega
   refine ⟨B',S',(fun k=>k=I.heap.size),.slice none 0 0,.slice none 0 0,[],U.out.aS n0 (f4.mono t0) (fun k hk=>f4.block k (U.out.dH n0 k hk).2),z1,fun k hk C0=>by have:=(U.out.dH n0 k hk).2;omega,fun k hk=>⟨by rw [hk];exact t0,by rw [hk];omega⟩,by omega,y7,Nat.le_refl _⟩
  have t3:Hid (Q=I.alloc (.cells #[.string (JY b.who),.string b.key,.int .i64 b.who,.int .i64 b.op,.int .i64 b.config,.int .i64 b.c.n,.int .i64 b.c.k,.slice p b.c.L.length y,.int .i64 0,.int .i64 0,.slice none 0 0,.bool false,.bool false,.string ⟨#[108,111,111,107,105,110,103]⟩,.slice none 0 0,.slice none 0 0,.int .i64 0,.int .i64 0,.string ⟨#[]⟩,.bool false] 48)):=b5
  have i3:Hid (Below w.heap.size w Q):=m8
  have C1:=l9
  clear l8 b4 m0 b5 f4 s7 m8 s8 q6 s6 y4 e0 e1 e2 e3 e4 e5 e6 e7 e8 k0 i2 d9 y1 q0 y5 y6 m9 s5 y3 l2
  obtain ⟨B,i4⟩:=s9.out
  have z2:Hid (Qk Ak w.heap.size B h I.heap.size (.slice p b.c.L.length y) (.slice none 0 0) Q.heap.size Q b.ask b.ask):=i4
  have t4:=(k6.out Q i3.out.size (fun k hk=>i3.out.block k hk)).2
  have n3:=Jb8 U.out rfl i3.out t4 i4
  obtain ⟨z3,t5⟩:=Jby b
  have f5:Hid (b.ask.begin.length<=1000/\∀ m ∈ b.ask.begin,m.L.length<=1000000):=⟨by omega,t5⟩
  have t6:Hid (JU b.ask):=by obtain ⟨S,S',fv,lv,vs,g1,_⟩:=i4;exact k7.out _ _ _ _ _ g1
  clear i4 s9 z3 t5 t4
  obtain ⟨BG,n4⟩:∃ BG,BG=b.ask.begin:=⟨_,rfl⟩
  rw [<- n4] at n3 f5
  have t7:Hid (b.ask.begin=BG):=n4.symm
  clear n4
  go_wp2_with (first | rw [<- t3.out] | fail)
  refine n3.mono ?_
  rintro e n5 ⟨z4,oP,rfl,i5,t8⟩
  have f6:=JaL Q.heap.size z4 BG oP n5 f5.out.1 (by obtain ⟨_,_,_,_,_,_,_,_,_,_,_,g⟩:=i5.out.2;exact g) i5.out.1
  have t9:Hid (Qk Ak w.heap.size B h I.heap.size (.slice p b.c.L.length y) (.slice none 0 0) Q.heap.size n5 b.ask b.ask):=i5.out.2
  have n6:Hid (Below w.heap.size w n5):=t8
  clear i5 t8 n3 y0 y8 z2 i3
  go_wp2_with fail
  refine f6.mono ?_
  rintro e b6 ⟨⟨u0,z5,rfl,u1⟩,n7⟩
  have u2:Hid (pD Q.heap.size b6 u0 BG):=u1
  have n8:=t9.out.below U.out n7
  have u3:Hid (Qk Ak w.heap.size B h I.heap.size (.slice p b.c.L.length y) (.slice none 0 0) Q.heap.size b6 b.ask b.ask):=n8
  have o0:Hid (Below w.heap.size w b6):=n6.out.trans (n7.mono n6.out.size)
  have u6:Hid (Calls prog 17 #[.pointer (some ⟨I.heap.size,0,none⟩)] b6 fun e w'=>(∃ p c,e=.returned (.slice p BG.length c)/\mN w' p BG)/\Below b6.heap.size b6 w'):=by
   obtain ⟨S,S',fv,lv,vs,_,g2,_⟩:=n8
   have:=JbI g2 (by show b.c.L.length<=1000;omega)
   rw [t7.out] at this
   exact this
  clear u1 n7 n8 f6 t9 n6
  go_wp2_with fail
  refine u6.out.mono ?_
  rintro e o1 ⟨⟨z6,z7,rfl,u7⟩,i7⟩
  have f7:=JaS u0 z6 BG z5 z7 o1 f5.out.1 f5.out.2 (u2.out.below i7).at_ u7
  have u8:Hid (Qk Ak w.heap.size B h I.heap.size (.slice p b.c.L.length y) (.slice none 0 0) Q.heap.size o1 b.ask b.ask):=u3.out.below U.out i7
  have o3:Hid (Below w.heap.size w o1):=o0.out.trans (i7.mono o0.out.size)
  clear u7 i7 u6 u3 o0 u2
  go_wp2_with fail
  refine f7.mono ?_
  rintro e o4 ⟨rfl,o5⟩
  have u9:Hid (Qk Ak w.heap.size B h I.heap.size (.slice p b.c.L.length y) (.slice none 0 0) o4.heap.size o4 b.ask b.ask):=(u8.out.below U.out o5).up
  have v0:Hid (Below w.heap.size w o4):=o3.out.trans (o5.mono o3.out.size)
  clear o5 f7 u8 o3 f5
  go_wp2
  generalize I.heap.size=ab at *
  clear a6 j5 e9 H5 r3 f3 t3 t7
  go_loopw [10] (fun x wr=>∃ i:Nat,i<=l.length/\x=.int .i64 i/\(∃ a,Qk Ak w.heap.size B h ab (.slice p b.c.L.length y) (.slice none 0 0) wr.heap.size wr a a/\JU a/\Xi a.L.flatten<=Qa (l.take i))/\Below w.heap.size w wr) (fun x _=>l.length - (intOf x).toNat)
  case atStart=>exact ⟨0,Nat.zero_le _,rfl,⟨b.ask,u9.out,t6.out,Nat.zero_le _⟩,v0.out⟩
  case round =>
   obtain ⟨i,J,rfl,⟨a,hM,hA,o6⟩,hB⟩:=hrel
   obtain ⟨w20,rfl⟩:∃ w20,w20=wr:=⟨_,rfl⟩
   have o7:Hid (Below w.heap.size w w20):=hB
   clear u9 v0 t6
   by_cases z8:i < l.length
   ·obtain ⟨mb,mo,m1,m2,m3,m4,m5,m6,m7,mL,lq,lc,Y,r2,rl,sw,fd,t1,t2,tx,z9,o9,v7,v8,f6,v9,f7,w0,x0,i8,i9⟩:=JcQ (w20:=w20) (B:=B) (h:=h) (ab:=ab) (mv:=(.slice p b.c.L.length y)) (nv:=(.slice none 0 0)) U.out k7.out k6.out r4.out r0.out r5.out z8 hA o6
    have x1:=o9.out w20.drew o7.out.drew
    have A1:Hid (Qk Ak w.heap.size B h ab (.slice p b.c.L.length y) (.slice none 0 0) w20.heap.size w20.drew a a):=hM.below U.out (Below.refl _ _).drew
    subst z9
    have j0:Hid ((Hid (sw=⟨#[100,111,110,101]⟩/\fd=true)/\Hid (∀ W,Below w.heap.size w W->Qk Ak w.heap.size B h ab (.slice p b.c.L.length y) (.slice none 0 0) W.heap.size W Y Y->Calls prog 22 #[.pointer (some ⟨h,0,none⟩)] W fun e w'=>e=.returned (.tuple #[.agg #[.int .i64 t1,.int .i64 t2],.string tx,.bool true])/\(w'.cell? ⟨ab,13,none⟩=some (.string sw)/\w'.cell? ⟨ab,19,none⟩=some (.bool fd)/\w'.cell? ⟨ab,16,none⟩=some (.int .i64 t1)/\w'.cell? ⟨ab,17,none⟩=some (.int .i64 t2)/\w'.cell? ⟨ab,18,none⟩=some (.string tx))/\Qk Ak w.heap.size B h ab (.slice p b.c.L.length y) (.slice none 0 0) w'.heap.size w' Y Y/\Below w.heap.size w w'))∨(Hid (¬ sw.toList=[100,111,110,101]∨fd=false)/\Hid (∀ W,Below w.heap.size w W->Qk Ak w.heap.size B h ab (.slice p b.c.L.length y) (.slice none 0 0) W.heap.size W Y Y->Calls prog 22 #[.pointer (some ⟨h,0,none⟩)] W fun e w'=>e=.returned (.tuple #[.agg #[.int .i64 0,.int .i64 0],.string ⟨#[]⟩,.bool false])/\(w'.cell? ⟨ab,13,none⟩=some (.string sw)/\w'.cell? ⟨ab,19,none⟩=some (.bool fd)/\w'.cell? ⟨ab,16,none⟩=some (.int .i64 t1)/\w'.cell? ⟨ab,17,none⟩=some (.int .i64 t2)/\w'.cell? ⟨ab,18,none⟩=some (.string tx))/\Qk Ak w.heap.size B h ab (.slice p b.c.L.length y) (.slice none 0 0) w'.heap.size w' Y Y/\Below w.heap.size w w'))):=x0
    clear hM hA o6 hB x0 r4 r0 r5 k6 k7
    go_upto_region 22 with fail
    go_cut [166] from 136 to 212 (fun v W=>v=.bool false/\Qk Ak w.heap.size B h ab (.slice p b.c.L.length y) (.slice none 0 0) W.heap.size W Y Y/\Below w.heap.size w W)
    case first =>
     clear j0 i8 i9 U o9
     refine wp_region_held_drew (S:=fun W=>(W.cell? ⟨mb,mo+i*8,none⟩=some (.string m1)/\W.cell? ⟨mb,mo+i*8+1,none⟩=some (.string m2)/\W.cell? ⟨mb,mo+i*8+2,none⟩=some (.string m3)/\W.cell? ⟨mb,mo+i*8+3,none⟩=some (.string m4)/\W.cell? ⟨mb,mo+i*8+4,none⟩=some (.int .i64 m5)/\W.cell? ⟨mb,mo+i*8+5,none⟩=some (.int .i64 m6)/\W.cell? ⟨mb,mo+i*8+6,none⟩=some (.bool m7)/\W.cell? ⟨mb,mo+i*8+7,none⟩=some (.slice lq mL.length lc)/\Below w.heap.size w W)) (by kernel_rfl) x1 (fun O=>?_)
     refine wpAnyH_take (i:=0) (oi:={ dst:=some 142,op:=Op.move (Operand.tmp 6),type:=31,pos := "parts.go:490",after:=#[],guard:=none }) (v:=?_) rfl (by kernel_rfl) (by kernel_rfl) (by kernel_rfl) (fun _ _ _ h=>h) (Or.inl ⟨by rfl,?_⟩) O ?_
     rotate_left
     ·(intro w D;(try dsimp only at D);go_simp;try with_reducible rfl)
     try simp only [Act.put,List.setIfInBounds_toArray,List.set_cons_zero,List.set_cons_succ]
     refine wpAnyH_take (i:=1) (oi:={ dst:=some 143,op:=Op.move (Operand.tmp 1),type:=27,pos := "parts.go:490",after:=#[],guard:=none }) (v:=?_) rfl (by kernel_rfl) (by kernel_rfl) (by kernel_rfl) (fun _ _ _ h=>h) (Or.inl ⟨by rfl,?_⟩) O ?_
     rotate_left
     ·(intro w D;(try dsimp only at D);go_simp;try with_reducible rfl)
     try simp only [Act.put,List.setIfInBounds_toArray,List.set_cons_zero,List.set_cons_succ]
     refine wpAnyH_take (i:=2) (oi:={ dst:=some 144,op:=Op.move (Operand.tmp 10),type:=3,pos := "parts.go:490",after:=#[],guard:=none }) (v:=?_) rfl (by kernel_rfl) (by kernel_rfl) (by kernel_rfl) (fun _ _ _ h=>h) (Or.inl ⟨by rfl,?_⟩) O ?_
     rotate_left
     ·(intro w D;(try dsimp only at D);go_simp;try with_reducible rfl)
     try simp only [Act.put,List.setIfInBounds_toArray,List.set_cons_zero,List.set_cons_succ]
     refine wpAnyH_take (i:=3) (oi:={ dst:=some 145,op:=Op.indexAddr 27 (Operand.tmp 143) (Operand.tmp 144),type:=0,pos := "parts.go:490",after:=#[{ on:=1,ground:=Ground.data },{ on:=2,ground:=Ground.data }],guard:=none }) (v:=?_) rfl (by kernel_rfl) (by kernel_rfl) (by kernel_rfl) (fun _ _ _ h=>h) (Or.inl ⟨by rfl,?_⟩) O ?_
     rotate_left
     ·(intro w D;(try dsimp only at D);go_simp;try with_reducible rfl)
     try simp only [Act.put,List.setIfInBounds_toArray,List.set_cons_zero,List.set_cons_succ]
     refine wpAnyH_take (i:=4) (oi:={ dst:=some 146,op:=Op.load 59 (Operand.tmp 145),type:=59,pos := "parts.go:490",after:=#[{ on:=3,ground:=Ground.data }],guard:=none }) (v:=?_) rfl (by kernel_rfl) (by kernel_rfl) (by kernel_rfl) (fun _ _ _ h=>h) (Or.inl ⟨by rfl,?_⟩) O ?_
     rotate_left
     ·(intro w D;(try dsimp only at D);go_simp;try with_reducible rfl)
     try simp only [Act.put,List.setIfInBounds_toArray,List.set_cons_zero,List.set_cons_succ]
     refine wpAnyH_take (i:=8) (oi:={ dst:=some 150,op:=Op.move (Operand.tmp 9),type:=42,pos := "parts.go:490",after:=#[],guard:=none }) (v:=?_) rfl (by kernel_rfl) (by kernel_rfl) (by kernel_rfl) (fun _ _ _ h=>h) (Or.inl ⟨by rfl,?_⟩) O ?_
     rotate_left
     ·(intro w D;(try dsimp only at D);go_simp;try with_reducible rfl)
     try simp only [Act.put,List.setIfInBounds_toArray,List.set_cons_zero,List.set_cons_succ]
     refine wpAnyH_take (i:=9) (oi:={ dst:=some 151,op:=Op.move (Operand.tmp 1),type:=27,pos := "parts.go:490",after:=#[],guard:=none }) (v:=?_) rfl (by kernel_rfl) (by kernel_rfl) (by kernel_rfl) (fun _ _ _ h=>h) (Or.inl ⟨by rfl,?_⟩) O ?_
     rotate_left
     ·(intro w D;(try dsimp only at D);go_simp;try with_reducible rfl)
     try simp only [Act.put,List.setIfInBounds_toArray,List.set_cons_zero,List.set_cons_succ]
     refine wpAnyH_take (i:=10) (oi:={ dst:=some 152,op:=Op.move (Operand.tmp 10),type:=3,pos := "parts.go:490",after:=#[],guard:=none }) (v:=?_) rfl (by kernel_rfl) (by kernel_rfl) (by kernel_rfl) (fun _ _ _ h=>h) (Or.inl ⟨by rfl,?_⟩) O ?_
     rotate_left
     ·(intro w D;(try dsimp only at D);go_simp;try with_reducible rfl)
     try simp only [Act.put,List.setIfInBounds_toArray,List.set_cons_zero,List.set_cons_succ]
     refine wpAnyH_take (i:=11) (oi:={ dst:=some 153,op:=Op.indexAddr 27 (Operand.tmp 151) (Operand.tmp 152),type:=0,pos := "parts.go:490",after:=#[{ on:=9,ground:=Ground.data },{ on:=10,ground:=Ground.data }],guard:=none }) (v:=?_) rfl (by kernel_rfl) (by kernel_rfl) (by kernel_rfl) (fun _ _ _ h=>h) (Or.inl ⟨by rfl,?_⟩) O ?_
     rotate_left
     ·(intro w D;(try dsimp only at D);go_simp;try with_reducible rfl)
     try simp only [Act.put,List.setIfInBounds_toArray,List.set_cons_zero,List.set_cons_succ]
     refine wpAnyH_take (i:=12) (oi:={ dst:=some 154,op:=Op.load 59 (Operand.tmp 153),type:=59,pos := "parts.go:490",after:=#[{ on:=11,ground:=Ground.data }],guard:=none }) (v:=?_) rfl (by kernel_rfl) (by kernel_rfl) (by kernel_rfl) (fun _ _ _ h=>h) (Or.inl ⟨by rfl,?_⟩) O ?_
     rotate_left
     ·(intro w D;(try dsimp only at D);go_simp;try with_reducible rfl)
     try simp only [Act.put,List.setIfInBounds_toArray,List.set_cons_zero,List.set_cons_succ]
     refine wpAnyH_ready (rs:=[5]) (by kernel_rfl) (by simp) ?_
     refine AllReadyH.cons (o:={ dst:=some 147,op:=Op.call { callee:=Callee.value (Operand.func 19),args:=#[Operand.tmp 146],argTypes:=#[59] },type:=57,pos := "parts.go:490",after:=#[{ on:=4,ground:=Ground.data }],guard:=none }) rfl (fun K M=>?_) AllReadyH.nil
     go_simp
     (go_at_call 19;refine (v7.out _ (by assumption) (by assumption)).mono ?_;rintro e v1 ⟨q1,d1,rfl,C2,A2⟩)
     first | (refine M.out _ _ ?_ (fun O=>?_)) | (go_wp2_with fail;refine M.out _ _ ?_ (fun O=>?_))
     ·exact A2
     clear M K
     try simp only [Act.put,List.setIfInBounds_toArray,List.set_cons_zero,List.set_cons_succ]
     refine wpAnyH_ready (rs:=[6]) (by kernel_rfl) (by simp) ?_
     refine AllReadyH.cons (o:={ dst:=some 148,op:=Op.call { callee:=Callee.value (Operand.func 18),args:=#[Operand.tmp 142,Operand.tmp 147],argTypes:=#[31,57] },type:=51,pos := "parts.go:490",after:=#[{ on:=0,ground:=Ground.data },{ on:=5,ground:=Ground.data },{ on:=5,ground:=Ground.chain }],guard:=none }) rfl (fun K M=>?_) AllReadyH.nil
     go_simp
     (go_at_call 18;refine (v8.out _ _ _ (by assumption) (by assumption)).mono ?_;rintro e v2 ⟨p2,c2,rfl,C4,A3⟩)
     first | (refine M.out _ _ ?_ (fun O=>?_)) | (go_wp2_with fail;refine M.out _ _ ?_ (fun O=>?_))
     ·exact A3
     clear M K
     try simp only [Act.put,List.setIfInBounds_toArray,List.set_cons_zero,List.set_cons_succ]
     refine wpAnyH_ready (rs:=[7]) (by kernel_rfl) (by simp) ?_
     refine AllReadyH.cons (o:={ dst:=some 149,op:=Op.call { callee:=Callee.value (Operand.func 15),args:=#[Operand.tmp 148],argTypes:=#[51] },type:=27,pos := "parts.go:490",after:=#[{ on:=6,ground:=Ground.data },{ on:=6,ground:=Ground.chain }],guard:=none }) rfl (fun K M=>?_) AllReadyH.nil
     go_simp
     (go_at_call 15;refine (f6.out _ _ _ (by assumption) (by assumption)).mono ?_;rintro e v3 ⟨p3,c3,rfl,C5,A5⟩)
     first | (refine M.out _ _ ?_ (fun O=>?_)) | (go_wp2_with fail;refine M.out _ _ ?_ (fun O=>?_))
     ·exact A5
     clear M K
     try simp only [Act.put,List.setIfInBounds_toArray,List.set_cons_zero,List.set_cons_succ]
     refine wpAnyH_ready (rs:=[13]) (by kernel_rfl) (by simp) ?_
     refine AllReadyH.cons (o:={ dst:=some 155,op:=Op.call { callee:=Callee.value (Operand.func 20),args:=#[Operand.tmp 150,Operand.tmp 154],argTypes:=#[42,59] },type:=27,pos := "parts.go:490",after:=#[{ on:=8,ground:=Ground.data },{ on:=12,ground:=Ground.data },{ on:=7,ground:=Ground.chain }],guard:=none }) rfl (fun K M=>?_) AllReadyH.nil
     go_simp
     (go_at_call 20;refine (v9.out _ p3 (by assumption) (by assumption)).mono ?_;rintro e v4 ⟨q4,d4,rfl,C9,A6⟩)
     first | (refine M.out _ _ ?_ (fun O=>?_)) | (go_wp2_with fail;refine M.out _ _ ?_ (fun O=>?_))
     ·exact A6
     clear M K
     try simp only [Act.put,List.setIfInBounds_toArray,List.set_cons_zero,List.set_cons_succ]
     refine wpAnyH_ready (rs:=[14]) (by kernel_rfl) (by simp) ?_
     refine AllReadyH.cons (o:={ dst:=some 156,op:=Op.call { callee:=Callee.value (Operand.func 14),args:=#[Operand.tmp 149,Operand.tmp 155],argTypes:=#[27,27] },type:=4,pos := "parts.go:490",after:=#[{ on:=7,ground:=Ground.data },{ on:=13,ground:=Ground.data },{ on:=13,ground:=Ground.chain }],guard:=none }) rfl (fun K M=>?_) AllReadyH.nil
     go_simp
     (go_at_call 14;refine (f7.out _ _ _ _ _ (by assumption) (by assumption)).mono ?_;rintro e v5 ⟨rfl,D1,a5,a8⟩)
     first | (refine M.out _ _ ?_ (fun O=>?_)) | (go_wp2_with fail;refine M.out _ _ ?_ (fun O=>?_))
     ·exact a5
     clear M K
     try simp only [Act.put,List.setIfInBounds_toArray,List.set_cons_zero,List.set_cons_succ]
     refine Ja0 (S':=fun W=>(W.cell? ⟨mb,mo+i*8,none⟩=some (.string m1)/\W.cell? ⟨mb,mo+i*8+1,none⟩=some (.string m2)/\W.cell? ⟨mb,mo+i*8+2,none⟩=some (.string m3)/\W.cell? ⟨mb,mo+i*8+3,none⟩=some (.string m4)/\W.cell? ⟨mb,mo+i*8+4,none⟩=some (.int .i64 m5)/\W.cell? ⟨mb,mo+i*8+5,none⟩=some (.int .i64 m6)/\W.cell? ⟨mb,mo+i*8+6,none⟩=some (.bool m7)/\W.cell? ⟨mb,mo+i*8+7,none⟩=some (.slice lq mL.length lc)/\Below w.heap.size w W)/\W.cell? ⟨ab,13,none⟩=some (.string sw)) (fun w h=>h.1) _ _ _ _ ?_
     refine wpAnyH_take (i:=15) (oi:={ dst:=some 157,op:=Op.unOp UnOp.not 4 (Operand.tmp 156),type:=4,pos := "parts.go:490",after:=#[{ on:=14,ground:=Ground.data }],guard:=none }) (v:=?_) rfl (by kernel_rfl) (by kernel_rfl) (by kernel_rfl) (fun _ _ _ h=>h) (Or.inl ⟨by rfl,?_⟩) ⟨a5,a8⟩ ?_
     rotate_left
     ·(intro w D;(try dsimp only at D);go_simp;try with_reducible rfl)
     try simp only [Act.put,List.setIfInBounds_toArray,List.set_cons_zero,List.set_cons_succ]
     refine wpAnyH_take (i:=16) (oi:={ dst:=some 158,op:=Op.move (Operand.tmp 157),type:=4,pos := "parts.go:490",after:=#[{ on:=15,ground:=Ground.data },{ on:=14,ground:=Ground.chain }],guard:=none }) (v:=?_) rfl (by kernel_rfl) (by kernel_rfl) (by kernel_rfl) (fun _ _ _ h=>h) (Or.inl ⟨by rfl,?_⟩) ⟨a5,a8⟩ ?_
     rotate_left
     ·(intro w D;(try dsimp only at D);go_simp;try with_reducible rfl)
     try simp only [Act.put,List.setIfInBounds_toArray,List.set_cons_zero,List.set_cons_succ]
     refine wpAnyH_take (i:=17) (oi:={ dst:=some 159,op:=Op.move (Operand.tmp 6),type:=31,pos := "parts.go:490",after:=#[{ on:=16,ground:=Ground.guard }],guard:=some (16,false) }) (v:=?_) rfl (by kernel_rfl) (by kernel_rfl) (by kernel_rfl) (fun _ _ _ h=>h) (Or.inl ⟨by rfl,?_⟩) ⟨a5,a8⟩ ?_
     rotate_left
     ·(intro w D;(try dsimp only at D);go_simp;try with_reducible rfl)
     try simp only [Act.put,List.setIfInBounds_toArray,List.set_cons_zero,List.set_cons_succ]
     refine wpAnyH_take (i:=19) (oi:={ dst:=some 161,op:=Op.move (Operand.tmp 9),type:=42,pos := "parts.go:490",after:=#[{ on:=16,ground:=Ground.guard }],guard:=some (16,false) }) (v:=?_) rfl (by kernel_rfl) (by kernel_rfl) (by kernel_rfl) (fun _ _ _ h=>h) (Or.inl ⟨by rfl,?_⟩) ⟨a5,a8⟩ ?_
     rotate_left
     ·(intro w D;(try dsimp only at D);go_simp;try with_reducible rfl)
     try simp only [Act.put,List.setIfInBounds_toArray,List.set_cons_zero,List.set_cons_succ]
     refine wpAnyH_take (i:=20) (oi:={ dst:=some 162,op:=Op.nilCheck (Operand.tmp 161),type:=0,pos := "parts.go:490",after:=#[{ on:=19,ground:=Ground.data },{ on:=16,ground:=Ground.guard }],guard:=some (16,false) }) (v:=?_) rfl (by kernel_rfl) (by kernel_rfl) (by kernel_rfl) (fun _ _ _ h=>h) (Or.inl ⟨by rfl,?_⟩) ⟨a5,a8⟩ ?_
     rotate_left
     ·(intro w D;(try dsimp only at D);go_simp;try with_reducible rfl)
     try simp only [Act.put,List.setIfInBounds_toArray,List.set_cons_zero,List.set_cons_succ]
     refine wpAnyH_take (i:=21) (oi:={ dst:=some 163,op:=Op.fieldAddr 48 (Operand.tmp 162) 9,type:=0,pos := "parts.go:490",after:=#[{ on:=20,ground:=Ground.data },{ on:=16,ground:=Ground.guard }],guard:=some (16,false) }) (v:=?_) rfl (by kernel_rfl) (by kernel_rfl) (by kernel_rfl) (fun _ _ _ h=>h) (Or.inl ⟨by rfl,?_⟩) ⟨a5,a8⟩ ?_
     rotate_left
     ·(intro w D;(try dsimp only at D);go_simp;try with_reducible rfl)
     try simp only [Act.put,List.setIfInBounds_toArray,List.set_cons_zero,List.set_cons_succ]
     refine wpAnyH_take (i:=22) (oi:={ dst:=some 164,op:=Op.load 9 (Operand.tmp 163),type:=9,pos := "parts.go:490",after:=#[{ on:=21,ground:=Ground.data },{ on:=16,ground:=Ground.guard }],guard:=some (16,false) }) (v:=?_) rfl (by kernel_rfl) (by kernel_rfl) (by kernel_rfl) (fun _ _ _ h=>h) (Or.inl ⟨by rfl,?_⟩) ⟨a5,a8⟩ ?_
     rotate_left
     ·(intro w D;(try dsimp only at D);go_simp;try with_reducible rfl)
     try simp only [Act.put,List.setIfInBounds_toArray,List.set_cons_zero,List.set_cons_succ]
     refine wpAnyH_ready (rs:=[18]) (by kernel_rfl) (by simp) ?_
     refine AllReadyH.cons (o:={ dst:=some 160,op:=Op.call { callee:=Callee.value (Operand.func 21),args:=#[Operand.tmp 159],argTypes:=#[31] },type:=9,pos := "parts.go:490",after:=#[{ on:=17,ground:=Ground.data },{ on:=16,ground:=Ground.chain },{ on:=16,ground:=Ground.guard }],guard:=some (16,false) }) rfl (fun K M=>?_) AllReadyH.nil
     go_simp
     (go_at_call 21;refine (w0.out _ (by assumption) (by assumption)).mono ?_;rintro e v6 ⟨rfl,A9,b3,p0⟩)
     first | (refine M.out _ _ ?_ (fun O=>?_)) | (go_wp2_with fail;refine M.out _ _ ?_ (fun O=>?_))
     ·exact ⟨b3,p0⟩
     clear M K
     try simp only [Act.put,List.setIfInBounds_toArray,List.set_cons_zero,List.set_cons_succ]
     refine wpAnyH_take (i:=23) (oi:={ dst:=some 165,op:=Op.binOp BinOp.neq 9 (Operand.tmp 160) (Operand.tmp 164) 9,type:=4,pos := "parts.go:490",after:=#[{ on:=18,ground:=Ground.data },{ on:=22,ground:=Ground.data },{ on:=16,ground:=Ground.guard }],guard:=some (16,false) }) (v:=?_) rfl (by kernel_rfl) (by kernel_rfl) (by kernel_rfl) (fun _ _ _ h=>h) (Or.inl ⟨by rfl,?_⟩) ⟨b3,p0⟩ ?_
     rotate_left
     ·(intro w D;(try dsimp only at D);go_simp;try with_reducible rfl)
     try simp only [Act.put,List.setIfInBounds_toArray,List.set_cons_zero,List.set_cons_succ]
     refine wpAnyH_take (i:=24) (oi:={ dst:=some 166,op:=Op.pick (Operand.tmp 158) (Operand.const (Value.bool true)) (Operand.tmp 165),type:=4,pos := "parts.go:490",after:=#[{ on:=16,ground:=Ground.data },{ on:=23,ground:=Ground.data }],guard:=none }) (v:=?_) rfl (by kernel_rfl) (by kernel_rfl) (by kernel_rfl) (fun _ _ _ h=>h) (Or.inl ⟨by rfl,?_⟩) ⟨b3,p0⟩ ?_
     rotate_left
     ·(intro w D;(try dsimp only at D);go_simp;try with_reducible rfl)
     try simp only [Act.put,List.setIfInBounds_toArray,List.set_cons_zero,List.set_cons_succ]
     refine wpAnyH_done (by kernel_rfl) ?_ _
     all_goals (go_wp2_with fail;go_meet)
     all_goals exact ⟨by first | rfl | simp,A9.out,b3.2.2.2.2.2.2.2.2⟩
    case rest =>
     obtain ⟨rfl,hm,hb⟩:=hcut
     obtain ⟨j1,rfl⟩:∃ j1,j1=wc:=⟨_,rfl⟩
     clear v7 v8 f6 v9 f7 w0 x1 A1 o9 o7
     rcases j0.out with ⟨HC,f8⟩ | ⟨HC,f8⟩
     ·have f9:=f8.out j1 hb hm
      obtain ⟨rfl,rfl⟩:=HC.out
      clear j0 f8 HC hm hb
      go_wp2_with fail
      refine f9.mono ?_
      rintro e a0 ⟨rfl,⟨a9,g0,g6,g7,g8⟩,g9,b0⟩
      obtain ⟨N,a3⟩:∃ N,N=a0.alloc (.cells #[.int .i64 t1,.int .i64 t2] 46):=⟨_,rfl⟩
      have Z:Below a0.heap.size a0 N:=by rw [a3];exact (Below.refl _ _).alloc (Nat.le_refl _) _
      have s0:N.cell? ⟨a0.heap.size,0,none⟩=some (.int .i64 t1):=by rw [a3];simp
      have s1:N.cell? ⟨a0.heap.size,1,none⟩=some (.int .i64 t2):=by rw [a3];simp
      have a1:=Zn a9
      have B0:=(Z.cell (p:=⟨ab,13,none⟩) a1).trans a9
      have B2:=(Z.cell (p:=⟨ab,19,none⟩) a1).trans g0
      have B3:=(Z.cell (p:=⟨ab,16,none⟩) a1).trans g6
      have B5:=(Z.cell (p:=⟨ab,17,none⟩) a1).trans g7
      have B8:=(Z.cell (p:=⟨ab,18,none⟩) a1).trans g8
      have b1:Hid (Qk Ak w.heap.size B h ab (.slice p b.c.L.length y) (.slice none 0 0) N.heap.size N Y Y):=(g9.below U.out Z).up
      have h0:Hid (Below w.heap.size w N):=b0.trans (Z.mono b0.size)
      have j2:Hid (N=a0.alloc (.cells #[.int .i64 t1,.int .i64 t2] 46)):=a3
      clear a3 Z a1 a9 g0 g6 g7 g8 g9 b0 f9
      go_upto_region 28 with (first | rw [<- j2.out] | fail)
      go_cut [212] from 136 to 212 (fun v W=>v=.bool false/\Below N.heap.size N W)
      case first =>
       go_quiet (fail)
       all_goals (go_wp2_with fail;go_meet)
       all_goals exact ⟨by first | rfl | simp,below_drewN (Below.refl _ _) _⟩
      case rest =>
       obtain ⟨rfl,x2⟩:=hcut
       have x4:Hid (Below N.heap.size N wc):=x2
       clear x2
       go_wp2
       go_roundw
       case rel=>exact ⟨i+1,by omega,by go_num,⟨Y,(b1.out.below U.out x4.out).up,i8.out _ b1.out,i9.out⟩,h0.out.trans (x4.out.mono h0.out.size)⟩
       case measure=>simp [intOf];omega
     ·have f9:=f8.out j1 hb hm
      have j3:=HC.out
      clear j0 f8 HC hm hb
      go_wp2_with fail
      refine f9.mono ?_
      rintro e a0 ⟨rfl,⟨a9,g0,g6,g7,g8⟩,g9,b0⟩
      obtain ⟨N,a3⟩:∃ N,N=a0.alloc (.cells #[.int .i64 0,.int .i64 0] 46):=⟨_,rfl⟩
      have Z:Below a0.heap.size a0 N:=by rw [a3];exact (Below.refl _ _).alloc (Nat.le_refl _) _
      have s0:N.cell? ⟨a0.heap.size,0,none⟩=some (.int .i64 0):=by rw [a3];simp
      have s1:N.cell? ⟨a0.heap.size,1,none⟩=some (.int .i64 0):=by rw [a3];simp
      have a1:=Zn a9
      have B0:=(Z.cell (p:=⟨ab,13,none⟩) a1).trans a9
      have B2:=(Z.cell (p:=⟨ab,19,none⟩) a1).trans g0
      have B3:=(Z.cell (p:=⟨ab,16,none⟩) a1).trans g6
      have B5:=(Z.cell (p:=⟨ab,17,none⟩) a1).trans g7
      have B8:=(Z.cell (p:=⟨ab,18,none⟩) a1).trans g8
      have b1:Hid (Qk Ak w.heap.size B h ab (.slice p b.c.L.length y) (.slice none 0 0) N.heap.size N Y Y):=(g9.below U.out Z).up
      have h0:Hid (Below w.heap.size w N):=b0.trans (Z.mono b0.size)
      have j2:Hid (N=a0.alloc (.cells #[.int .i64 0,.int .i64 0] 46)):=a3
      clear a3 Z a1 a9 g0 g6 g7 g8 g9 b0 f9 U
      rcases j3 with j3 | j3
      ·skip
       go_upto_region 25 with fail
       rw [<- j2.out]
       go_wp2
       all_goals (go_roundw;(case rel=>exact ⟨i+1,by omega,by go_num,⟨Y,b1.out,i8.out _ b1.out,i9.out⟩,h0.out⟩);(case measure=>simp [intOf];omega))
      ·subst j3
       go_upto_region 25 with fail
       rw [<- j2.out]
       go_wp2
       all_goals (go_roundw;(case rel=>exact ⟨i+1,by omega,by go_num,⟨Y,b1.out,i8.out _ b1.out,i9.out⟩,h0.out⟩);(case measure=>simp [intOf];omega))
   ·clear hM hA o6 hB
    go_wp2
    go_ret
    exact ⟨rfl,o7.out⟩
end
section
variable {ad:Nat->Addr} {X:World->Prop} {Ak:World->Nat->Nat->(Nat->Prop)->Za->Prop}
theorem Jcz (I:WS ad X Ak) (U:∀ {w B h S a},Ak w B h S a->JU a) (b:eT) (p:Option Addr) (j:Nat) (l:List Zb) (y:Option Addr) (D:Nat) (w:World) (J:sS ad X b p j l y w):Calls prog 3 #[.agg #[.bool b.put,.int .i64 b.who,.int .i64 b.op,.int .i64 b.config,.int .i64 b.c.n,.int .i64 b.c.k,.slice p b.c.L.length j,.string b.key,.string b.text],.slice y l.length D] w fun e w'=>e=.returned (.bool true)/\Below w.heap.size w w':=by
 cases G:Zx b.c with
 | true=>exact Jcj I b p j l y D w J G
 | false =>
  by_cases K:100 < b.key.size
  ·exact JcE I b p j l y D w J G K
  ·by_cases N:b.text.size<=100∨1000 < b.text.size/\b.text.size<=2000
   ·cases O:X5 l with
    | false=>exact Jcl I b p j l y D w J G K N O
    | true =>
     by_cases Q:0 < (JX b).1
     ·rcases Bool.eq_false_or_eq_true b.put with M | M
      ·exact JbD I b p j l y D w J G K N O M Q
      ·exact JbE I b p j l y D w J G K N O M Q
     ·rcases Bool.eq_false_or_eq_true b.put with M | M
      ·exact Jbu I b p j l y D w J U G K N O M Q
      ·exact Jbs I b p j l y D w J U G K N O M Q
   ·exact Jck I b p j l y D w J G K (by omega) (by omega)
end
end Go.Proofs.YtmikbldbfnlfjaaGreatDoor
