/- Texts laid together. -/
import Derived.Test.YtmikbldbfnlfjaaGreatDoorCs18
set_option maxRecDepth 10000
set_option maxHeartbeats 8000000
namespace Go.Proofs.YtmikbldbfnlfjaaGreatDoor
open Go.Proofs.Tryz
open Go.RowKit
variable {b:lN}
section
variable {ad:Nat->Addr} {X:World->Prop} {Ck:World->Nat->Nat->(Nat->Prop)->Za->Prop}
theorem Jdt (h:0 < (Jg b.f).1):lH b=Jg b.f:=if_pos h
theorem Jdu (h:¬ 0 < (Jg b.f).1) (j:0 < (Jg b.t).1):lH b=Jg b.t:=by unfold lH;rw [if_neg h,if_pos j]
theorem Jdv (h:¬ 0 < (Jg b.f).1) (j:¬ 0 < (Jg b.t).1) (y:Jo b.key=false):lH b=(4,-1):=by unfold lH;rw [if_neg h,if_neg j,if_pos y]
theorem Ja4 (h:¬ 0 < (Jg b.f).1) (j:¬ 0 < (Jg b.t).1) (y:Jo b.key=true) (D:¬ b.fits):lH b=(2,-1):=by unfold lH;rw [if_neg h,if_neg j,if_neg (by rw [y];decide)];exact if_neg D
theorem JeH (h:¬ 0 < (Jg b.f).1) (j:¬ 0 < (Jg b.t).1) (y:Jo b.key=true) (D:b.fits):lH b=(0,-1):=by unfold lH;rw [if_neg h,if_neg j,if_neg (by rw [y];decide)];exact if_pos D
theorem JbK (hO:Yr ad X Ck) (b:lN) (p:Option Addr) (I:Nat) (q:Option Addr) (J:Nat) (l:List Zb) (lp:Option Addr) (d8:Nat) (w:World) (D:z8 ad X b p I q J l lp w) (h1:Qk b.f=false) (h2:Qk b.t=false) (h3:¬ 100 < b.key.size) (h4:X5 l=true) (N:0 < (Jg b.f).1):Calls prog 4 #[.int .i64 b.op,.agg #[.int .i64 b.f.n,.int .i64 b.f.k,.slice p b.f.L.length I],.agg #[.int .i64 b.t.n,.int .i64 b.t.k,.slice q b.t.L.length J],.int .i64 b.config,.string b.key,.slice lp l.length d8] w fun e w'=>e=.returned (.bool true)/\Below w.heap.size w w':=by
 have h6:0 < (lH b).1:=by rw [Jdt N];exact N
 obtain ⟨j,a1⟩:∃ j,j=(w.alloc (.cells #[.int .i64 b.f.n,.int .i64 b.f.k,.slice p b.f.L.length I] 24)).alloc (.cells #[.int .i64 b.t.n,.int .i64 b.t.k,.slice q b.t.L.length J] 24):=⟨_,rfl⟩
 have K:Below w.heap.size w j:=by rw [a1];exact ((Below.refl _ _).alloc (Nat.le_refl _) _).alloc (by simp) _
 have g5:j.heap.size=w.heap.size+2:=by rw [a1];simp
 have d9:j.heap[w.heap.size]?=some (.cells #[.int .i64 b.f.n,.int .i64 b.f.k,.slice p b.f.L.length I] 24 (0,0)):=by rw [a1,heap_alloc_old _ _ (by simp)];exact heap_alloc_new _ _
 have e0:j.heap[w.heap.size+1]?=some (.cells #[.int .i64 b.t.n,.int .i64 b.t.k,.slice q b.t.L.length J] 24 (0,0)):=by
  have e:w.heap.size+1=(w.alloc (.cells #[.int .i64 b.f.n,.int .i64 b.f.k,.slice p b.f.L.length I] 24)).heap.size:=by simp
  rw [a1,e]
  exact heap_alloc_new _ _
 have a0:Hid (∀ V,Below j.heap.size j V->(V.cell? ⟨w.heap.size,0,none⟩=some (.int .i64 b.f.n)/\V.cell? ⟨w.heap.size,1,none⟩=some (.int .i64 b.f.k)/\V.cell? ⟨w.heap.size,2,none⟩=some (.slice p b.f.L.length I)/\V.cell? ⟨w.heap.size+1,0,none⟩=some (.int .i64 b.t.n)/\V.cell? ⟨w.heap.size+1,1,none⟩=some (.int .i64 b.t.k)/\V.cell? ⟨w.heap.size+1,2,none⟩=some (.slice q b.t.L.length J)/\Below j.heap.size j V)):=fun V y=>by
  have hF:=(y.block _ (by omega)).trans d9
  have hT:=(y.block _ (by omega)).trans e0
  exact ⟨(Ja hF 0).1,(Ja hF 1).1,(Ja hF 2).1,(Ja hT 0).1,(Ja hT 1).1,(Ja hT 2).1,y⟩
 have e6:=LW hO j (fun V y=>(D.ok (K.trans (y.mono K.size))).1) (fun V y=>(D.ok (K.trans (y.mono K.size))).2)
 have a6:Hid (∀ V,Below j.heap.size j V->Calls prog 6 #[.agg #[.int .i64 b.f.n,.int .i64 b.f.k,.slice p b.f.L.length I]] V fun e w'=>e=.returned (.bool (Qk b.f))/\Below j.heap.size j w'):=fun V y=>(Xh b.f p I V D.u4 D.oP ((D.eS.below K).below y)).mono fun e w' M=>⟨M.1,y.trans (M.2.mono y.size)⟩
 have a7:Hid (∀ V,Below j.heap.size j V->Calls prog 6 #[.agg #[.int .i64 b.t.n,.int .i64 b.t.k,.slice q b.t.L.length J]] V fun e w'=>e=.returned (.bool (Qk b.t))/\Below j.heap.size j w'):=fun V y=>(Xh b.t q J V D.r9 D.kH ((D.gW.below K).below y)).mono fun e w' M=>⟨M.1,y.trans (M.2.mono y.size)⟩
 have a8:Hid (∀ V,Below j.heap.size j V->Calls prog 7 #[.slice lp l.length d8] V fun e w'=>e=.returned (.bool (X5 l))/\Below j.heap.size j w'):=fun V y=>(Qy lp l d8 V D.sA ((D.msgs.below K).below y)).mono fun e w' M=>⟨M.1,y.trans (M.2.mono y.size)⟩
 have g6:Hid (j=(w.alloc (.cells #[.int .i64 b.f.n,.int .i64 b.f.k,.slice p b.f.L.length I] 24)).alloc (.cells #[.int .i64 b.t.n,.int .i64 b.t.k,.slice q b.t.L.length J] 24)):=a1
 have e7:Hid (Below w.heap.size w j):=K
 obtain ⟨g7,g8⟩:=X1 h1
 obtain ⟨g9,h0⟩:=X1 h2
 have a9:Hid (∀ V u d,Strs V u b.f.L->b.f.L.length<=d->(u=none->b.f.L=[]/\d=0)->Yn V b.f u d):=fun V u d N g2 g3=>C3 N g2 g3 h1 D.sT
 have b0:Hid (∀ V u d,Strs V u b.t.L->b.t.L.length<=d->(u=none->b.t.L=[]/\d=0)->Yn V b.t u d):=fun V u d N g2 g3=>C3 N g2 g3 h2 D.sZ
 have e8:Hid (∀ V,(V.cell? ⟨w.heap.size,0,none⟩=some (.int .i64 b.f.n)/\V.cell? ⟨w.heap.size,1,none⟩=some (.int .i64 b.f.k)/\V.cell? ⟨w.heap.size,2,none⟩=some (.slice p b.f.L.length I)/\V.cell? ⟨w.heap.size+1,0,none⟩=some (.int .i64 b.t.n)/\V.cell? ⟨w.heap.size+1,1,none⟩=some (.int .i64 b.t.k)/\V.cell? ⟨w.heap.size+1,2,none⟩=some (.slice q b.t.L.length J)/\Below j.heap.size j V)->Calls prog 9 #[.agg #[.int .i64 b.f.n,.int .i64 b.f.k,.slice p b.f.L.length I]] V fun e w'=>∃ u d,e=.returned (.agg #[.int .i64 b.f.n,.int .i64 b.f.k,.slice u b.f.L.length d])/\Hid (Yn w' b.f u d)/\(w'.cell? ⟨w.heap.size,0,none⟩=some (.int .i64 b.f.n)/\w'.cell? ⟨w.heap.size,1,none⟩=some (.int .i64 b.f.k)/\w'.cell? ⟨w.heap.size,2,none⟩=some (.slice p b.f.L.length I)/\w'.cell? ⟨w.heap.size+1,0,none⟩=some (.int .i64 b.t.n)/\w'.cell? ⟨w.heap.size+1,1,none⟩=some (.int .i64 b.t.k)/\w'.cell? ⟨w.heap.size+1,2,none⟩=some (.slice q b.t.L.length J)/\Below j.heap.size j w')):=fun V y=>(Zx b.f p I V (by omega) ((D.eS.below K).below y.2.2.2.2.2.2) D.nP).mono fun e w' M=>by
  obtain ⟨⟨u,d,e1,e2,e3,e4⟩,e5⟩:=M
  exact ⟨u,d,e1,a9.out w' u d e2 e3 e4,a0.out w' (y.2.2.2.2.2.2.trans (e5.mono y.2.2.2.2.2.2.size))⟩
 have e9:Hid (∀ V u d,Hid (Yn V b.f u d)->(V.cell? ⟨w.heap.size,0,none⟩=some (.int .i64 b.f.n)/\V.cell? ⟨w.heap.size,1,none⟩=some (.int .i64 b.f.k)/\V.cell? ⟨w.heap.size,2,none⟩=some (.slice p b.f.L.length I)/\V.cell? ⟨w.heap.size+1,0,none⟩=some (.int .i64 b.t.n)/\V.cell? ⟨w.heap.size+1,1,none⟩=some (.int .i64 b.t.k)/\V.cell? ⟨w.heap.size+1,2,none⟩=some (.slice q b.t.L.length J)/\Below j.heap.size j V)->Calls prog 9 #[.agg #[.int .i64 b.t.n,.int .i64 b.t.k,.slice q b.t.L.length J]] V fun e w'=>∃ W G,e=.returned (.agg #[.int .i64 b.t.n,.int .i64 b.t.k,.slice W b.t.L.length G])/\Hid (Yn w' b.f u d/\Yn w' b.t W G)/\(w'.cell? ⟨w.heap.size,0,none⟩=some (.int .i64 b.f.n)/\w'.cell? ⟨w.heap.size,1,none⟩=some (.int .i64 b.f.k)/\w'.cell? ⟨w.heap.size,2,none⟩=some (.slice p b.f.L.length I)/\w'.cell? ⟨w.heap.size+1,0,none⟩=some (.int .i64 b.t.n)/\w'.cell? ⟨w.heap.size+1,1,none⟩=some (.int .i64 b.t.k)/\w'.cell? ⟨w.heap.size+1,2,none⟩=some (.slice q b.t.L.length J)/\Below j.heap.size j w')):=fun V u d hC y=>(Zx b.t q J V (by omega) ((D.gW.below K).below y.2.2.2.2.2.2) D.nR).mono fun e w' M=>by
  obtain ⟨⟨W,G,e1,e2,e3,e4⟩,e5⟩:=M
  exact ⟨W,G,e1,⟨hC.out.below e5,b0.out w' W G e2 e3 e4⟩,a0.out w' (y.2.2.2.2.2.2.trans (e5.mono y.2.2.2.2.2.2.size))⟩
 have b1:Hid (∀ V,Below j.heap.size j V->Zp V ad/\X V):=fun V y=>D.ok (K.trans (y.mono K.size))
 have b2:Hid (∀ V u d W G,Hid (Yn V b.f u d/\Yn V b.t W G)->(V.cell? ⟨w.heap.size,0,none⟩=some (.int .i64 b.f.n)/\V.cell? ⟨w.heap.size,1,none⟩=some (.int .i64 b.f.k)/\V.cell? ⟨w.heap.size,2,none⟩=some (.slice p b.f.L.length I)/\V.cell? ⟨w.heap.size+1,0,none⟩=some (.int .i64 b.t.n)/\V.cell? ⟨w.heap.size+1,1,none⟩=some (.int .i64 b.t.k)/\V.cell? ⟨w.heap.size+1,2,none⟩=some (.slice q b.t.L.length J)/\Below j.heap.size j V)->Calls prog 24 #[.int .i64 b.op,.agg #[.int .i64 b.f.n,.int .i64 b.f.k,.slice u b.f.L.length d],.agg #[.int .i64 b.t.n,.int .i64 b.t.k,.slice W b.t.L.length G],.int .i64 b.config,.string b.key] V fun e w'=>∃ O Q,e=.returned (.tuple #[.pointer none,.iface O Q])/\Hid (Jd w' ad (.iface O Q) (lH b).1 (lH b).2)/\(w'.cell? ⟨w.heap.size,0,none⟩=some (.int .i64 b.f.n)/\w'.cell? ⟨w.heap.size,1,none⟩=some (.int .i64 b.f.k)/\w'.cell? ⟨w.heap.size,2,none⟩=some (.slice p b.f.L.length I)/\w'.cell? ⟨w.heap.size+1,0,none⟩=some (.int .i64 b.t.n)/\w'.cell? ⟨w.heap.size+1,1,none⟩=some (.int .i64 b.t.k)/\w'.cell? ⟨w.heap.size+1,2,none⟩=some (.slice q b.t.L.length J)/\Below j.heap.size j w')):=fun V u d W G hC y=>(hO.new b u d W G V hC.out.1 hC.out.2 (by omega) D.op D.config (b1.out V y.2.2.2.2.2.2).1 (b1.out V y.2.2.2.2.2.2).2).mono fun e w' M=>by
  obtain ⟨⟨ev,N,g2⟩,g3⟩:=M
  obtain ⟨O,Q,rfl⟩:=N.some h6
  rcases g2 with ⟨_,g4⟩ | ⟨g4,_⟩
  ·exact ⟨O,Q,g4,N,a0.out w' (y.2.2.2.2.2.2.trans (g3.mono y.2.2.2.2.2.2.size))⟩
  ·exact absurd h6 g4
 have h5:Hid (∀ V,Below j.heap.size j V->Calls prog 25 #[.agg #[.int .i64 b.f.n,.int .i64 b.f.k,.slice p b.f.L.length I]] V fun e w'=>e=.returned (.agg #[.int .i64 (Jg b.f).1,.int .i64 (Jg b.f).2])/\Below V.heap.size V w'):=fun V y=>D0 b.f p I V (a9.out V p I ((D.eS.below K).below y) D.q9 D.nP)
 have h7:Hid (∀ V,Below j.heap.size j V->Calls prog 25 #[.agg #[.int .i64 b.t.n,.int .i64 b.t.k,.slice q b.t.L.length J]] V fun e w'=>e=.returned (.agg #[.int .i64 (Jg b.t).1,.int .i64 (Jg b.t).2])/\Below V.heap.size V w'):=fun V y=>D0 b.t q J V (b0.out V q J ((D.gW.below K).below y) D.pL D.nR)
 have h8:Hid (∀ V,Calls prog 26 #[.string b.key] V fun e w'=>e=.returned (.bool (Jo b.key))/\w'=V):=fun V=>R1 b.key V (by omega)
 have h9:Hid (∀ x V,Calls prog 27 #[.int .i64 x] V fun e w'=>e=.returned (.agg #[.int .i64 x,.int .i64 (-1)])/\Below V.heap.size V w'):=fun x V=>O0 x V
 have f3:Hid (∀ V O Q,Below j.heap.size j V->Hid (Jd V ad (.iface O Q) (lH b).1 (lH b).2)->Calls prog 12 #[.iface O Q,.agg #[.int .i64 (lH b).1,.int .i64 (lH b).2]] V fun e w'=>e=.returned (.bool true)/\Below j.heap.size j w'):=fun V O Q y he=>(WZ ad (.iface O Q) (lH b).1 (lH b).2 V (D.b8 V (K.trans (y.mono K.size))) he.out).mono fun e w' M=>⟨M.1,y.trans (M.2.mono y.size)⟩
 rw [h1] at a6
 rw [h2] at a7
 rw [h4] at a8
 have n3:decide ((100:Int) < (b.key.size:Int))=false:=decide_eq_false (by omega)
 rw [Jdt N] at f3 b2
 have n6:((Jg b.f).1==0)=false:=by simp;omega
 have n7:decide (0 < (Jg b.f).1)=true:=decide_eq_true N
 generalize Jg b.f=F at *
 obtain ⟨c1,c2⟩:=F
 dsimp only at *
 clear h7 h8 h9 N
 clear D hO a1 K g5 d9 e0 a9 b0 b1 g7 g8 g9 h0 h1 h2 h3 h4 h6
 go_enter func4,ntmps4
 go_wp2_with (first | rw [<- g6.out] | fail)
 refine e6.mono ?_
 rintro e w2 ⟨rfl,b3⟩
 obtain ⟨Y,Z,G,d3,d4,d5,_⟩:=a0.out w2 b3
 have i0:Hid (Below j.heap.size j w2):=b3
 clear b3 e6
 go_wp2_with fail
 refine (a6.out w2 i0.out).mono ?_
 rintro e w3 ⟨rfl,b4⟩
 clear Y Z G d3 d4 d5
 obtain ⟨Y,Z,G,d3,d4,d5,_⟩:=a0.out w3 b4
 have i1:Hid (Below j.heap.size j w3):=b4
 clear b4
 go_wp2_with fail
 refine (a7.out w3 i1.out).mono ?_
 rintro e w4 ⟨rfl,b5⟩
 clear Y Z G d3 d4 d5
 obtain ⟨Y,Z,G,d3,d4,d5,_⟩:=a0.out w4 b5
 have i2:Hid (Below j.heap.size j w4):=b5
 clear b5
 go_wp2_with fail
 refine (a8.out w4 i2.out).mono ?_
 rintro e w5 ⟨rfl,b6⟩
 clear Y Z G d3 d4 d5
 obtain ⟨Y,Z,G,d3,d4,d5,_⟩:=a0.out w5 b6
 have i3:Hid (Below j.heap.size j w5):=b6
 clear b6
 have f4:=a0.out w5.drew i3.out.drew
 clear Y Z G d3 d4 d5 a6 a7 a8
 go_wp2
 go_region_held3 (fun V=>(V.cell? ⟨w.heap.size,0,none⟩=some (.int .i64 b.f.n)/\V.cell? ⟨w.heap.size,1,none⟩=some (.int .i64 b.f.k)/\V.cell? ⟨w.heap.size,2,none⟩=some (.slice p b.f.L.length I)/\V.cell? ⟨w.heap.size+1,0,none⟩=some (.int .i64 b.t.n)/\V.cell? ⟨w.heap.size+1,1,none⟩=some (.int .i64 b.t.k)/\V.cell? ⟨w.heap.size+1,2,none⟩=some (.slice q b.t.L.length J)/\Below j.heap.size j V)) (first | assumption | exact f4) (first | (go_at_call 9;with_reducible refine (e8.out _ (by assumption)).mono ?_;rintro e w6 ⟨u6,d6,rfl,f5,i4⟩) | (go_at_call 9;with_reducible refine (e9.out _ _ _ f5 (by assumption)).mono ?_;rintro e w7 ⟨u7,d7,rfl,f6,i5⟩) | (go_at_call 24;refine (b2.out _ _ _ _ _ f6 (by assumption)).mono ?_;rintro e w8 ⟨O,Q,rfl,i7,f7⟩))
 have a2:Hid (Below j.heap.size j w8):=f7.2.2.2.2.2.2
 obtain ⟨Y,Z,G,d3,d4,d5,_⟩:=f7
 have f8:=h5.out w8 a2.out
 clear f4 f5 f6 i4 i5 e8 e9 b2
 go_wp2_with fail
 refine f8.mono ?_
 rintro e w9 ⟨rfl,a3⟩
 obtain ⟨U,a4⟩:∃ U,U=w9.alloc (.cells #[.int .i64 c1,.int .i64 c2] 39):=⟨_,rfl⟩
 have a5:U.heap[w9.heap.size]?=some (.cells #[.int .i64 c1,.int .i64 c2] 39 (0,0)):=by rw [a4];exact heap_alloc_new _ _
 have b7:Below w8.heap.size w8 U:=by rw [a4];exact a3.alloc a3.size _
 have j1:Hid (w8.heap.size<=w9.heap.size):=a3.size
 have j2:Hid (U.heap[w9.heap.size]?=some (.cells #[.int .i64 c1,.int .i64 c2] 39 (0,0))):=a5
 have k0:U.cell? ⟨w9.heap.size,0,none⟩=some (.int .i64 (c1)):=(Ja a5 0).1
 have k1:U.cell? ⟨w9.heap.size,1,none⟩=some (.int .i64 (c2)):=(Ja a5 1).1
 have f9:Hid (Below w8.heap.size w8 U):=b7
 have i8:Hid (U=w9.alloc (.cells #[.int .i64 c1,.int .i64 c2] 39)):=a4
 clear Y Z G d3 d4 d5
 obtain ⟨Y,Z,G,d3,d4,d5,_⟩:=a0.out U (a2.out.trans (b7.mono a2.out.size))
 clear a4 a3 a5 b7 f8
 go_wp2_with (first | rw [<- i8.out] | fail)
 have i9:=i7.out.below f9.out
 refine (f3.out U O Q (a2.out.trans (f9.out.mono a2.out.size)) i9).mono ?_
 rintro e w20 ⟨rfl,g0⟩
 have j0:Hid (Below w.heap.size w w20):=e7.out.trans (g0.mono e7.out.size)
 clear g0
 go_wp2
 go_ret
 exact ⟨rfl,j0.out⟩
theorem JbL (hO:Yr ad X Ck) (b:lN) (p:Option Addr) (J:Nat) (q:Option Addr) (M:Nat) (l:List Zb) (lp:Option Addr) (f5:Nat) (w:World) (G:z8 ad X b p J q M l lp w) (h1:Qk b.f=false) (h2:Qk b.t=false) (h3:¬ 100 < b.key.size) (h4:X5 l=true) (g1:¬ 0 < (Jg b.f).1) (g2:0 < (Jg b.t).1):Calls prog 4 #[.int .i64 b.op,.agg #[.int .i64 b.f.n,.int .i64 b.f.k,.slice p b.f.L.length J],.agg #[.int .i64 b.t.n,.int .i64 b.t.k,.slice q b.t.L.length M],.int .i64 b.config,.string b.key,.slice lp l.length f5] w fun e w'=>e=.returned (.bool true)/\Below w.heap.size w w':=by
 have h6:0 < (lH b).1:=by rw [Jdu g1 g2];exact g2
 obtain ⟨y,a4⟩:∃ y,y=(w.alloc (.cells #[.int .i64 b.f.n,.int .i64 b.f.k,.slice p b.f.L.length J] 24)).alloc (.cells #[.int .i64 b.t.n,.int .i64 b.t.k,.slice q b.t.L.length M] 24):=⟨_,rfl⟩
 have N:Below w.heap.size w y:=by rw [a4];exact ((Below.refl _ _).alloc (Nat.le_refl _) _).alloc (by simp) _
 have i2:y.heap.size=w.heap.size+2:=by rw [a4];simp
 have f6:y.heap[w.heap.size]?=some (.cells #[.int .i64 b.f.n,.int .i64 b.f.k,.slice p b.f.L.length J] 24 (0,0)):=by rw [a4,heap_alloc_old _ _ (by simp)];exact heap_alloc_new _ _
 have f7:y.heap[w.heap.size+1]?=some (.cells #[.int .i64 b.t.n,.int .i64 b.t.k,.slice q b.t.L.length M] 24 (0,0)):=by
  have e:w.heap.size+1=(w.alloc (.cells #[.int .i64 b.f.n,.int .i64 b.f.k,.slice p b.f.L.length J] 24)).heap.size:=by simp
  rw [a4,e]
  exact heap_alloc_new _ _
 have a1:Hid (∀ V,Below y.heap.size y V->(V.cell? ⟨w.heap.size,0,none⟩=some (.int .i64 b.f.n)/\V.cell? ⟨w.heap.size,1,none⟩=some (.int .i64 b.f.k)/\V.cell? ⟨w.heap.size,2,none⟩=some (.slice p b.f.L.length J)/\V.cell? ⟨w.heap.size+1,0,none⟩=some (.int .i64 b.t.n)/\V.cell? ⟨w.heap.size+1,1,none⟩=some (.int .i64 b.t.k)/\V.cell? ⟨w.heap.size+1,2,none⟩=some (.slice q b.t.L.length M)/\Below y.heap.size y V)):=fun V D=>by
  have hF:=(D.block _ (by omega)).trans f6
  have hT:=(D.block _ (by omega)).trans f7
  exact ⟨(Ja hF 0).1,(Ja hF 1).1,(Ja hF 2).1,(Ja hT 0).1,(Ja hT 1).1,(Ja hT 2).1,D⟩
 have f8:=LW hO y (fun V D=>(G.ok (N.trans (D.mono N.size))).1) (fun V D=>(G.ok (N.trans (D.mono N.size))).2)
 have b2:Hid (∀ V,Below y.heap.size y V->Calls prog 6 #[.agg #[.int .i64 b.f.n,.int .i64 b.f.k,.slice p b.f.L.length J]] V fun e w'=>e=.returned (.bool (Qk b.f))/\Below y.heap.size y w'):=fun V D=>(Xh b.f p J V G.u4 G.oP ((G.eS.below N).below D)).mono fun e w' O=>⟨O.1,D.trans (O.2.mono D.size)⟩
 have b3:Hid (∀ V,Below y.heap.size y V->Calls prog 6 #[.agg #[.int .i64 b.t.n,.int .i64 b.t.k,.slice q b.t.L.length M]] V fun e w'=>e=.returned (.bool (Qk b.t))/\Below y.heap.size y w'):=fun V D=>(Xh b.t q M V G.r9 G.kH ((G.gW.below N).below D)).mono fun e w' O=>⟨O.1,D.trans (O.2.mono D.size)⟩
 have b4:Hid (∀ V,Below y.heap.size y V->Calls prog 7 #[.slice lp l.length f5] V fun e w'=>e=.returned (.bool (X5 l))/\Below y.heap.size y w'):=fun V D=>(Qy lp l f5 V G.sA ((G.msgs.below N).below D)).mono fun e w' O=>⟨O.1,D.trans (O.2.mono D.size)⟩
 have i3:Hid (y=(w.alloc (.cells #[.int .i64 b.f.n,.int .i64 b.f.k,.slice p b.f.L.length J] 24)).alloc (.cells #[.int .i64 b.t.n,.int .i64 b.t.k,.slice q b.t.L.length M] 24)):=a4
 have f9:Hid (Below w.heap.size w y):=N
 obtain ⟨i4,i5⟩:=X1 h1
 obtain ⟨i7,i8⟩:=X1 h2
 have b5:Hid (∀ V u d,Strs V u b.f.L->b.f.L.length<=d->(u=none->b.f.L=[]/\d=0)->Yn V b.f u d):=fun V u d g1 g2 g3=>C3 g1 g2 g3 h1 G.sT
 have b6:Hid (∀ V u d,Strs V u b.t.L->b.t.L.length<=d->(u=none->b.t.L=[]/\d=0)->Yn V b.t u d):=fun V u d g1 g2 g3=>C3 g1 g2 g3 h2 G.sZ
 have g0:Hid (∀ V,(V.cell? ⟨w.heap.size,0,none⟩=some (.int .i64 b.f.n)/\V.cell? ⟨w.heap.size,1,none⟩=some (.int .i64 b.f.k)/\V.cell? ⟨w.heap.size,2,none⟩=some (.slice p b.f.L.length J)/\V.cell? ⟨w.heap.size+1,0,none⟩=some (.int .i64 b.t.n)/\V.cell? ⟨w.heap.size+1,1,none⟩=some (.int .i64 b.t.k)/\V.cell? ⟨w.heap.size+1,2,none⟩=some (.slice q b.t.L.length M)/\Below y.heap.size y V)->Calls prog 9 #[.agg #[.int .i64 b.f.n,.int .i64 b.f.k,.slice p b.f.L.length J]] V fun e w'=>∃ u d,e=.returned (.agg #[.int .i64 b.f.n,.int .i64 b.f.k,.slice u b.f.L.length d])/\Hid (Yn w' b.f u d)/\(w'.cell? ⟨w.heap.size,0,none⟩=some (.int .i64 b.f.n)/\w'.cell? ⟨w.heap.size,1,none⟩=some (.int .i64 b.f.k)/\w'.cell? ⟨w.heap.size,2,none⟩=some (.slice p b.f.L.length J)/\w'.cell? ⟨w.heap.size+1,0,none⟩=some (.int .i64 b.t.n)/\w'.cell? ⟨w.heap.size+1,1,none⟩=some (.int .i64 b.t.k)/\w'.cell? ⟨w.heap.size+1,2,none⟩=some (.slice q b.t.L.length M)/\Below y.heap.size y w')):=fun V D=>(Zx b.f p J V (by omega) ((G.eS.below N).below D.2.2.2.2.2.2) G.nP).mono fun e w' O=>by
  obtain ⟨⟨u,d,e1,e2,e3,e4⟩,e5⟩:=O
  exact ⟨u,d,e1,b5.out w' u d e2 e3 e4,a1.out w' (D.2.2.2.2.2.2.trans (e5.mono D.2.2.2.2.2.2.size))⟩
 have g5:Hid (∀ V u d,Hid (Yn V b.f u d)->(V.cell? ⟨w.heap.size,0,none⟩=some (.int .i64 b.f.n)/\V.cell? ⟨w.heap.size,1,none⟩=some (.int .i64 b.f.k)/\V.cell? ⟨w.heap.size,2,none⟩=some (.slice p b.f.L.length J)/\V.cell? ⟨w.heap.size+1,0,none⟩=some (.int .i64 b.t.n)/\V.cell? ⟨w.heap.size+1,1,none⟩=some (.int .i64 b.t.k)/\V.cell? ⟨w.heap.size+1,2,none⟩=some (.slice q b.t.L.length M)/\Below y.heap.size y V)->Calls prog 9 #[.agg #[.int .i64 b.t.n,.int .i64 b.t.k,.slice q b.t.L.length M]] V fun e w'=>∃ u2 I,e=.returned (.agg #[.int .i64 b.t.n,.int .i64 b.t.k,.slice u2 b.t.L.length I])/\Hid (Yn w' b.f u d/\Yn w' b.t u2 I)/\(w'.cell? ⟨w.heap.size,0,none⟩=some (.int .i64 b.f.n)/\w'.cell? ⟨w.heap.size,1,none⟩=some (.int .i64 b.f.k)/\w'.cell? ⟨w.heap.size,2,none⟩=some (.slice p b.f.L.length J)/\w'.cell? ⟨w.heap.size+1,0,none⟩=some (.int .i64 b.t.n)/\w'.cell? ⟨w.heap.size+1,1,none⟩=some (.int .i64 b.t.k)/\w'.cell? ⟨w.heap.size+1,2,none⟩=some (.slice q b.t.L.length M)/\Below y.heap.size y w')):=fun V u d hC D=>(Zx b.t q M V (by omega) ((G.gW.below N).below D.2.2.2.2.2.2) G.nR).mono fun e w' O=>by
  obtain ⟨⟨u2,I,e1,e2,e3,e4⟩,e5⟩:=O
  exact ⟨u2,I,e1,⟨hC.out.below e5,b6.out w' u2 I e2 e3 e4⟩,a1.out w' (D.2.2.2.2.2.2.trans (e5.mono D.2.2.2.2.2.2.size))⟩
 have b7:Hid (∀ V,Below y.heap.size y V->Zp V ad/\X V):=fun V D=>G.ok (N.trans (D.mono N.size))
 have d8:Hid (∀ V u d u2 I,Hid (Yn V b.f u d/\Yn V b.t u2 I)->(V.cell? ⟨w.heap.size,0,none⟩=some (.int .i64 b.f.n)/\V.cell? ⟨w.heap.size,1,none⟩=some (.int .i64 b.f.k)/\V.cell? ⟨w.heap.size,2,none⟩=some (.slice p b.f.L.length J)/\V.cell? ⟨w.heap.size+1,0,none⟩=some (.int .i64 b.t.n)/\V.cell? ⟨w.heap.size+1,1,none⟩=some (.int .i64 b.t.k)/\V.cell? ⟨w.heap.size+1,2,none⟩=some (.slice q b.t.L.length M)/\Below y.heap.size y V)->Calls prog 24 #[.int .i64 b.op,.agg #[.int .i64 b.f.n,.int .i64 b.f.k,.slice u b.f.L.length d],.agg #[.int .i64 b.t.n,.int .i64 b.t.k,.slice u2 b.t.L.length I],.int .i64 b.config,.string b.key] V fun e w'=>∃ et eu,e=.returned (.tuple #[.pointer none,.iface et eu])/\Hid (Jd w' ad (.iface et eu) (lH b).1 (lH b).2)/\(w'.cell? ⟨w.heap.size,0,none⟩=some (.int .i64 b.f.n)/\w'.cell? ⟨w.heap.size,1,none⟩=some (.int .i64 b.f.k)/\w'.cell? ⟨w.heap.size,2,none⟩=some (.slice p b.f.L.length J)/\w'.cell? ⟨w.heap.size+1,0,none⟩=some (.int .i64 b.t.n)/\w'.cell? ⟨w.heap.size+1,1,none⟩=some (.int .i64 b.t.k)/\w'.cell? ⟨w.heap.size+1,2,none⟩=some (.slice q b.t.L.length M)/\Below y.heap.size y w')):=fun V u d u2 I hC D=>(hO.new b u d u2 I V hC.out.1 hC.out.2 (by omega) G.op G.config (b7.out V D.2.2.2.2.2.2).1 (b7.out V D.2.2.2.2.2.2).2).mono fun e w' O=>by
  obtain ⟨⟨ev,g1,g2⟩,g3⟩:=O
  obtain ⟨et,eu,rfl⟩:=g1.some h6
  rcases g2 with ⟨_,g4⟩ | ⟨g4,_⟩
  ·exact ⟨et,eu,g4,g1,a1.out w' (D.2.2.2.2.2.2.trans (g3.mono D.2.2.2.2.2.2.size))⟩
  ·exact absurd h6 g4
 have g6:Hid (∀ V,Below y.heap.size y V->Calls prog 25 #[.agg #[.int .i64 b.f.n,.int .i64 b.f.k,.slice p b.f.L.length J]] V fun e w'=>e=.returned (.agg #[.int .i64 (Jg b.f).1,.int .i64 (Jg b.f).2])/\Below V.heap.size V w'):=fun V D=>D0 b.f p J V (b5.out V p J ((G.eS.below N).below D) G.q9 G.nP)
 have i9:Hid (∀ V,Below y.heap.size y V->Calls prog 25 #[.agg #[.int .i64 b.t.n,.int .i64 b.t.k,.slice q b.t.L.length M]] V fun e w'=>e=.returned (.agg #[.int .i64 (Jg b.t).1,.int .i64 (Jg b.t).2])/\Below V.heap.size V w'):=fun V D=>D0 b.t q M V (b6.out V q M ((G.gW.below N).below D) G.pL G.nR)
 have j0:Hid (∀ V,Calls prog 26 #[.string b.key] V fun e w'=>e=.returned (.bool (Jo b.key))/\w'=V):=fun V=>R1 b.key V (by omega)
 have j1:Hid (∀ x V,Calls prog 27 #[.int .i64 x] V fun e w'=>e=.returned (.agg #[.int .i64 x,.int .i64 (-1)])/\Below V.heap.size V w'):=fun x V=>O0 x V
 have g7:Hid (∀ V et eu,Below y.heap.size y V->Hid (Jd V ad (.iface et eu) (lH b).1 (lH b).2)->Calls prog 12 #[.iface et eu,.agg #[.int .i64 (lH b).1,.int .i64 (lH b).2]] V fun e w'=>e=.returned (.bool true)/\Below y.heap.size y w'):=fun V et eu D he=>(WZ ad (.iface et eu) (lH b).1 (lH b).2 V (G.b8 V (N.trans (D.mono N.size))) he.out).mono fun e w' O=>⟨O.1,D.trans (O.2.mono D.size)⟩
 rw [h1] at b2
 rw [h2] at b3
 rw [h4] at b4
 have n3:decide ((100:Int) < (b.key.size:Int))=false:=decide_eq_false (by omega)
 rw [Jdu g1 g2] at g7 d8
 have j2:Hid (∀ V,Below y.heap.size y V->Calls prog 25 #[.agg #[.int .i64 b.f.n,.int .i64 b.f.k,.slice p b.f.L.length J]] V fun e w'=>e=.returned (.agg #[.int .i64 0,.int .i64 (-1)])/\Below V.heap.size V w'):=by have:=g6;rw [(Xm g1).2.2.1] at this;exact this
 have n6:((Jg b.t).1==0)=false:=by simp;omega
 have n7:decide (0 < (Jg b.t).1)=true:=decide_eq_true g2
 generalize Jg b.t=F at *
 obtain ⟨c1,c2⟩:=F
 dsimp only at *
 clear g6 j0 j1 g1 g2
 clear G hO a4 N i2 f6 f7 b5 b6 b7 i4 i5 i7 i8 h1 h2 h3 h4 h6
 go_enter func4,ntmps4
 go_wp2_with (first | rw [<- i3.out] | fail)
 refine f8.mono ?_
 rintro e w2 ⟨rfl,d9⟩
 obtain ⟨Q,U,I,W,Y,Z,_⟩:=a1.out w2 d9
 have j3:Hid (Below y.heap.size y w2):=d9
 clear d9 f8
 go_wp2_with fail
 refine (b2.out w2 j3.out).mono ?_
 rintro e w3 ⟨rfl,e0⟩
 clear Q U I W Y Z
 obtain ⟨Q,U,I,W,Y,Z,_⟩:=a1.out w3 e0
 have j5:Hid (Below y.heap.size y w3):=e0
 clear e0
 go_wp2_with fail
 refine (b3.out w3 j5.out).mono ?_
 rintro e w4 ⟨rfl,e6⟩
 clear Q U I W Y Z
 obtain ⟨Q,U,I,W,Y,Z,_⟩:=a1.out w4 e6
 have j6:Hid (Below y.heap.size y w4):=e6
 clear e6
 go_wp2_with fail
 refine (b4.out w4 j6.out).mono ?_
 rintro e w5 ⟨rfl,e7⟩
 clear Q U I W Y Z
 obtain ⟨Q,U,I,W,Y,Z,_⟩:=a1.out w5 e7
 have j8:Hid (Below y.heap.size y w5):=e7
 clear e7
 have g8:=a1.out w5.drew j8.out.drew
 clear Q U I W Y Z b2 b3 b4
 go_wp2
 go_region_held3 (fun V=>(V.cell? ⟨w.heap.size,0,none⟩=some (.int .i64 b.f.n)/\V.cell? ⟨w.heap.size,1,none⟩=some (.int .i64 b.f.k)/\V.cell? ⟨w.heap.size,2,none⟩=some (.slice p b.f.L.length J)/\V.cell? ⟨w.heap.size+1,0,none⟩=some (.int .i64 b.t.n)/\V.cell? ⟨w.heap.size+1,1,none⟩=some (.int .i64 b.t.k)/\V.cell? ⟨w.heap.size+1,2,none⟩=some (.slice q b.t.L.length M)/\Below y.heap.size y V)) (first | assumption | exact g8) (first | (go_at_call 9;with_reducible refine (g0.out _ (by assumption)).mono ?_;rintro e w6 ⟨u6,d6,rfl,g9,k2⟩) | (go_at_call 9;with_reducible refine (g5.out _ _ _ g9 (by assumption)).mono ?_;rintro e w7 ⟨u7,d7,rfl,h0,k3⟩) | (go_at_call 24;refine (d8.out _ _ _ _ _ h0 (by assumption)).mono ?_;rintro e w8 ⟨et,eu,rfl,k4,h5⟩))
 have a2:Hid (Below y.heap.size y w8):=h5.2.2.2.2.2.2
 obtain ⟨Q,U,I,W,Y,Z,_⟩:=h5
 have h7:=j2.out w8 a2.out
 clear g8 g9 h0 k2 k3 g0 g5 d8
 go_wp2_with fail
 refine h7.mono ?_
 rintro e K ⟨rfl,a7⟩
 obtain ⟨a0,a8⟩:∃ a0,a0=K.alloc (.cells #[.int .i64 0,.int .i64 (-1)] 39):=⟨_,rfl⟩
 have a9:a0.heap[K.heap.size]?=some (.cells #[.int .i64 0,.int .i64 (-1)] 39 (0,0)):=by rw [a8];exact heap_alloc_new _ _
 have e8:Below w8.heap.size w8 a0:=by rw [a8];exact a7.alloc a7.size _
 have h8:Hid (w8.heap.size<=K.heap.size):=a7.size
 have h9:Hid (a0.heap[K.heap.size]?=some (.cells #[.int .i64 0,.int .i64 (-1)] 39 (0,0))):=a9
 have k0:a0.cell? ⟨K.heap.size,0,none⟩=some (.int .i64 (0)):=(Ja a9 0).1
 have k1:a0.cell? ⟨K.heap.size,1,none⟩=some (.int .i64 ((-1))):=(Ja a9 1).1
 have e9:Hid (Below w8.heap.size w8 a0):=e8
 have k5:Hid (a0=K.alloc (.cells #[.int .i64 0,.int .i64 (-1)] 39)):=a8
 clear Q U I W Y Z
 obtain ⟨Q,U,I,W,Y,Z,_⟩:=a1.out a0 (a2.out.trans (e8.mono a2.out.size))
 clear a8 a7 a9 e8 h7
 go_wp2_with (first | rw [<- k5.out] | fail)
 refine (i9.out a0 (a2.out.trans (e9.out.mono a2.out.size))).mono ?_
 rintro e a5 ⟨rfl,f3⟩
 clear k0 k1
 have a6:=(f3.block K.heap.size (L2 h9.out)).trans h9.out
 have k0:a5.cell? ⟨K.heap.size,0,none⟩=some (.int .i64 (0)):=(Ja a6 0).1
 have k1:a5.cell? ⟨K.heap.size,1,none⟩=some (.int .i64 (-1)):=(Ja a6 1).1
 have fz:∀ j,a5.frozen? ⟨K.heap.size,j,none⟩=false:=fun j=>(Ja a6 j).2
 obtain ⟨a3,b0⟩:∃ v,v=(a5.setCell ⟨K.heap.size,0,none⟩ (.int .i64 (c1))).setCell ⟨K.heap.size,1,none⟩ (.int .i64 (c2)):=⟨_,rfl⟩
 have b1:a3.heap[K.heap.size]?=some (.cells #[.int .i64 (c1),.int .i64 (c2)] 39 (0,0)):=by rw [b0];exact Qc (Qc a6 0 _) 1 _
 have f4:Below w8.heap.size w8 a3:=by rw [b0];exact ((e9.out.trans (f3.mono e9.out.size)).setCell (p:=⟨K.heap.size,0,none⟩) h8.out _).setCell (p:=⟨K.heap.size,1,none⟩) h8.out _
 have m0:a3.cell? ⟨K.heap.size,0,none⟩=some (.int .i64 (c1)):=(Ja b1 0).1
 have m1:a3.cell? ⟨K.heap.size,1,none⟩=some (.int .i64 (c2)):=(Ja b1 1).1
 have l1:Hid (a3.heap[K.heap.size]?=some (.cells #[.int .i64 (c1),.int .i64 (c2)] 39 (0,0))):=b1
 have i0:Hid (Below w8.heap.size w8 a3):=f4
 have k6:Hid (a3=(a5.setCell ⟨K.heap.size,0,none⟩ (.int .i64 (c1))).setCell ⟨K.heap.size,1,none⟩ (.int .i64 (c2))):=b0
 clear Q U I W Y Z
 obtain ⟨Q,U,I,W,Y,Z,_⟩:=a1.out a3 (a2.out.trans (f4.mono a2.out.size))
 clear b0 b1 f4 a6 f3
 go_wp2_with (first | rw [<- k6.out] | fail)
 have k7:=k4.out.below i0.out
 refine (g7.out a3 et eu (a2.out.trans (i0.out.mono a2.out.size)) k7).mono ?_
 rintro e w20 ⟨rfl,i1⟩
 have l0:Hid (Below w.heap.size w w20):=f9.out.trans (i1.mono f9.out.size)
 clear i1
 go_wp2
 go_ret
 exact ⟨rfl,l0.out⟩
theorem JbM (hO:Yr ad X Ck) (b:lN) (p:Option Addr) (K:Nat) (q:Option Addr) (M:Nat) (l:List Zb) (lp:Option Addr) (f9:Nat) (w:World) (I:z8 ad X b p K q M l lp w) (h1:Qk b.f=false) (h2:Qk b.t=false) (h3:¬ 100 < b.key.size) (h4:X5 l=true) (g1:¬ 0 < (Jg b.f).1) (g2:¬ 0 < (Jg b.t).1) (g3:Jo b.key=false):Calls prog 4 #[.int .i64 b.op,.agg #[.int .i64 b.f.n,.int .i64 b.f.k,.slice p b.f.L.length K],.agg #[.int .i64 b.t.n,.int .i64 b.t.k,.slice q b.t.L.length M],.int .i64 b.config,.string b.key,.slice lp l.length f9] w fun e w'=>e=.returned (.bool true)/\Below w.heap.size w w':=by
 have h6:0 < (lH b).1:=by rw [Jdv g1 g2 g3];decide
 obtain ⟨y,b0⟩:∃ y,y=(w.alloc (.cells #[.int .i64 b.f.n,.int .i64 b.f.k,.slice p b.f.L.length K] 24)).alloc (.cells #[.int .i64 b.t.n,.int .i64 b.t.k,.slice q b.t.L.length M] 24):=⟨_,rfl⟩
 have N:Below w.heap.size w y:=by rw [b0];exact ((Below.refl _ _).alloc (Nat.le_refl _) _).alloc (by simp) _
 have j0:y.heap.size=w.heap.size+2:=by rw [b0];simp
 have g0:y.heap[w.heap.size]?=some (.cells #[.int .i64 b.f.n,.int .i64 b.f.k,.slice p b.f.L.length K] 24 (0,0)):=by rw [b0,heap_alloc_old _ _ (by simp)];exact heap_alloc_new _ _
 have g5:y.heap[w.heap.size+1]?=some (.cells #[.int .i64 b.t.n,.int .i64 b.t.k,.slice q b.t.L.length M] 24 (0,0)):=by
  have e:w.heap.size+1=(w.alloc (.cells #[.int .i64 b.f.n,.int .i64 b.f.k,.slice p b.f.L.length K] 24)).heap.size:=by simp
  rw [b0,e]
  exact heap_alloc_new _ _
 have a0:Hid (∀ V,Below y.heap.size y V->(V.cell? ⟨w.heap.size,0,none⟩=some (.int .i64 b.f.n)/\V.cell? ⟨w.heap.size,1,none⟩=some (.int .i64 b.f.k)/\V.cell? ⟨w.heap.size,2,none⟩=some (.slice p b.f.L.length K)/\V.cell? ⟨w.heap.size+1,0,none⟩=some (.int .i64 b.t.n)/\V.cell? ⟨w.heap.size+1,1,none⟩=some (.int .i64 b.t.k)/\V.cell? ⟨w.heap.size+1,2,none⟩=some (.slice q b.t.L.length M)/\Below y.heap.size y V)):=fun V D=>by
  have hF:=(D.block _ (by omega)).trans g0
  have hT:=(D.block _ (by omega)).trans g5
  exact ⟨(Ja hF 0).1,(Ja hF 1).1,(Ja hF 2).1,(Ja hT 0).1,(Ja hT 1).1,(Ja hT 2).1,D⟩
 have g6:=LW hO y (fun V D=>(I.ok (N.trans (D.mono N.size))).1) (fun V D=>(I.ok (N.trans (D.mono N.size))).2)
 have d8:Hid (∀ V,Below y.heap.size y V->Calls prog 6 #[.agg #[.int .i64 b.f.n,.int .i64 b.f.k,.slice p b.f.L.length K]] V fun e w'=>e=.returned (.bool (Qk b.f))/\Below y.heap.size y w'):=fun V D=>(Xh b.f p K V I.u4 I.oP ((I.eS.below N).below D)).mono fun e w' O=>⟨O.1,D.trans (O.2.mono D.size)⟩
 have d9:Hid (∀ V,Below y.heap.size y V->Calls prog 6 #[.agg #[.int .i64 b.t.n,.int .i64 b.t.k,.slice q b.t.L.length M]] V fun e w'=>e=.returned (.bool (Qk b.t))/\Below y.heap.size y w'):=fun V D=>(Xh b.t q M V I.r9 I.kH ((I.gW.below N).below D)).mono fun e w' O=>⟨O.1,D.trans (O.2.mono D.size)⟩
 have e0:Hid (∀ V,Below y.heap.size y V->Calls prog 7 #[.slice lp l.length f9] V fun e w'=>e=.returned (.bool (X5 l))/\Below y.heap.size y w'):=fun V D=>(Qy lp l f9 V I.sA ((I.msgs.below N).below D)).mono fun e w' O=>⟨O.1,D.trans (O.2.mono D.size)⟩
 have j1:Hid (y=(w.alloc (.cells #[.int .i64 b.f.n,.int .i64 b.f.k,.slice p b.f.L.length K] 24)).alloc (.cells #[.int .i64 b.t.n,.int .i64 b.t.k,.slice q b.t.L.length M] 24)):=b0
 have g7:Hid (Below w.heap.size w y):=N
 obtain ⟨j2,j3⟩:=X1 h1
 obtain ⟨j5,j6⟩:=X1 h2
 have e6:Hid (∀ V u d,Strs V u b.f.L->b.f.L.length<=d->(u=none->b.f.L=[]/\d=0)->Yn V b.f u d):=fun V u d g1 g2 g3=>C3 g1 g2 g3 h1 I.sT
 have e7:Hid (∀ V u d,Strs V u b.t.L->b.t.L.length<=d->(u=none->b.t.L=[]/\d=0)->Yn V b.t u d):=fun V u d g1 g2 g3=>C3 g1 g2 g3 h2 I.sZ
 have g8:Hid (∀ V,(V.cell? ⟨w.heap.size,0,none⟩=some (.int .i64 b.f.n)/\V.cell? ⟨w.heap.size,1,none⟩=some (.int .i64 b.f.k)/\V.cell? ⟨w.heap.size,2,none⟩=some (.slice p b.f.L.length K)/\V.cell? ⟨w.heap.size+1,0,none⟩=some (.int .i64 b.t.n)/\V.cell? ⟨w.heap.size+1,1,none⟩=some (.int .i64 b.t.k)/\V.cell? ⟨w.heap.size+1,2,none⟩=some (.slice q b.t.L.length M)/\Below y.heap.size y V)->Calls prog 9 #[.agg #[.int .i64 b.f.n,.int .i64 b.f.k,.slice p b.f.L.length K]] V fun e w'=>∃ u d,e=.returned (.agg #[.int .i64 b.f.n,.int .i64 b.f.k,.slice u b.f.L.length d])/\Hid (Yn w' b.f u d)/\(w'.cell? ⟨w.heap.size,0,none⟩=some (.int .i64 b.f.n)/\w'.cell? ⟨w.heap.size,1,none⟩=some (.int .i64 b.f.k)/\w'.cell? ⟨w.heap.size,2,none⟩=some (.slice p b.f.L.length K)/\w'.cell? ⟨w.heap.size+1,0,none⟩=some (.int .i64 b.t.n)/\w'.cell? ⟨w.heap.size+1,1,none⟩=some (.int .i64 b.t.k)/\w'.cell? ⟨w.heap.size+1,2,none⟩=some (.slice q b.t.L.length M)/\Below y.heap.size y w')):=fun V D=>(Zx b.f p K V (by omega) ((I.eS.below N).below D.2.2.2.2.2.2) I.nP).mono fun e w' O=>by
  obtain ⟨⟨u,d,e1,e2,e3,e4⟩,e5⟩:=O
  exact ⟨u,d,e1,e6.out w' u d e2 e3 e4,a0.out w' (D.2.2.2.2.2.2.trans (e5.mono D.2.2.2.2.2.2.size))⟩
 have g9:Hid (∀ V u d,Hid (Yn V b.f u d)->(V.cell? ⟨w.heap.size,0,none⟩=some (.int .i64 b.f.n)/\V.cell? ⟨w.heap.size,1,none⟩=some (.int .i64 b.f.k)/\V.cell? ⟨w.heap.size,2,none⟩=some (.slice p b.f.L.length K)/\V.cell? ⟨w.heap.size+1,0,none⟩=some (.int .i64 b.t.n)/\V.cell? ⟨w.heap.size+1,1,none⟩=some (.int .i64 b.t.k)/\V.cell? ⟨w.heap.size+1,2,none⟩=some (.slice q b.t.L.length M)/\Below y.heap.size y V)->Calls prog 9 #[.agg #[.int .i64 b.t.n,.int .i64 b.t.k,.slice q b.t.L.length M]] V fun e w'=>∃ u2 J,e=.returned (.agg #[.int .i64 b.t.n,.int .i64 b.t.k,.slice u2 b.t.L.length J])/\Hid (Yn w' b.f u d/\Yn w' b.t u2 J)/\(w'.cell? ⟨w.heap.size,0,none⟩=some (.int .i64 b.f.n)/\w'.cell? ⟨w.heap.size,1,none⟩=some (.int .i64 b.f.k)/\w'.cell? ⟨w.heap.size,2,none⟩=some (.slice p b.f.L.length K)/\w'.cell? ⟨w.heap.size+1,0,none⟩=some (.int .i64 b.t.n)/\w'.cell? ⟨w.heap.size+1,1,none⟩=some (.int .i64 b.t.k)/\w'.cell? ⟨w.heap.size+1,2,none⟩=some (.slice q b.t.L.length M)/\Below y.heap.size y w')):=fun V u d hC D=>(Zx b.t q M V (by omega) ((I.gW.below N).below D.2.2.2.2.2.2) I.nR).mono fun e w' O=>by
  obtain ⟨⟨u2,J,e1,e2,e3,e4⟩,e5⟩:=O
  exact ⟨u2,J,e1,⟨hC.out.below e5,e7.out w' u2 J e2 e3 e4⟩,a0.out w' (D.2.2.2.2.2.2.trans (e5.mono D.2.2.2.2.2.2.size))⟩
 have e8:Hid (∀ V,Below y.heap.size y V->Zp V ad/\X V):=fun V D=>I.ok (N.trans (D.mono N.size))
 have b3:Hid (∀ V u d u2 J,Hid (Yn V b.f u d/\Yn V b.t u2 J)->(V.cell? ⟨w.heap.size,0,none⟩=some (.int .i64 b.f.n)/\V.cell? ⟨w.heap.size,1,none⟩=some (.int .i64 b.f.k)/\V.cell? ⟨w.heap.size,2,none⟩=some (.slice p b.f.L.length K)/\V.cell? ⟨w.heap.size+1,0,none⟩=some (.int .i64 b.t.n)/\V.cell? ⟨w.heap.size+1,1,none⟩=some (.int .i64 b.t.k)/\V.cell? ⟨w.heap.size+1,2,none⟩=some (.slice q b.t.L.length M)/\Below y.heap.size y V)->Calls prog 24 #[.int .i64 b.op,.agg #[.int .i64 b.f.n,.int .i64 b.f.k,.slice u b.f.L.length d],.agg #[.int .i64 b.t.n,.int .i64 b.t.k,.slice u2 b.t.L.length J],.int .i64 b.config,.string b.key] V fun e w'=>∃ et eu,e=.returned (.tuple #[.pointer none,.iface et eu])/\Hid (Jd w' ad (.iface et eu) (lH b).1 (lH b).2)/\(w'.cell? ⟨w.heap.size,0,none⟩=some (.int .i64 b.f.n)/\w'.cell? ⟨w.heap.size,1,none⟩=some (.int .i64 b.f.k)/\w'.cell? ⟨w.heap.size,2,none⟩=some (.slice p b.f.L.length K)/\w'.cell? ⟨w.heap.size+1,0,none⟩=some (.int .i64 b.t.n)/\w'.cell? ⟨w.heap.size+1,1,none⟩=some (.int .i64 b.t.k)/\w'.cell? ⟨w.heap.size+1,2,none⟩=some (.slice q b.t.L.length M)/\Below y.heap.size y w')):=fun V u d u2 J hC D=>(hO.new b u d u2 J V hC.out.1 hC.out.2 (by omega) I.op I.config (e8.out V D.2.2.2.2.2.2).1 (e8.out V D.2.2.2.2.2.2).2).mono fun e w' O=>by
  obtain ⟨⟨ev,g1,g2⟩,g3⟩:=O
  obtain ⟨et,eu,rfl⟩:=g1.some h6
  rcases g2 with ⟨_,g4⟩ | ⟨g4,_⟩
  ·exact ⟨et,eu,g4,g1,a0.out w' (D.2.2.2.2.2.2.trans (g3.mono D.2.2.2.2.2.2.size))⟩
  ·exact absurd h6 g4
 have h0:Hid (∀ V,Below y.heap.size y V->Calls prog 25 #[.agg #[.int .i64 b.f.n,.int .i64 b.f.k,.slice p b.f.L.length K]] V fun e w'=>e=.returned (.agg #[.int .i64 (Jg b.f).1,.int .i64 (Jg b.f).2])/\Below V.heap.size V w'):=fun V D=>D0 b.f p K V (e6.out V p K ((I.eS.below N).below D) I.q9 I.nP)
 have h5:Hid (∀ V,Below y.heap.size y V->Calls prog 25 #[.agg #[.int .i64 b.t.n,.int .i64 b.t.k,.slice q b.t.L.length M]] V fun e w'=>e=.returned (.agg #[.int .i64 (Jg b.t).1,.int .i64 (Jg b.t).2])/\Below V.heap.size V w'):=fun V D=>D0 b.t q M V (e7.out V q M ((I.gW.below N).below D) I.pL I.nR)
 have h7:Hid (∀ V,Calls prog 26 #[.string b.key] V fun e w'=>e=.returned (.bool (Jo b.key))/\w'=V):=fun V=>R1 b.key V (by omega)
 have j8:Hid (∀ x V,Calls prog 27 #[.int .i64 x] V fun e w'=>e=.returned (.agg #[.int .i64 x,.int .i64 (-1)])/\Below V.heap.size V w'):=fun x V=>O0 x V
 have e9:Hid (∀ V et eu,Below y.heap.size y V->Hid (Jd V ad (.iface et eu) (lH b).1 (lH b).2)->Calls prog 12 #[.iface et eu,.agg #[.int .i64 (lH b).1,.int .i64 (lH b).2]] V fun e w'=>e=.returned (.bool true)/\Below y.heap.size y w'):=fun V et eu D he=>(WZ ad (.iface et eu) (lH b).1 (lH b).2 V (I.b8 V (N.trans (D.mono N.size))) he.out).mono fun e w' O=>⟨O.1,D.trans (O.2.mono D.size)⟩
 rw [h1] at d8
 rw [h2] at d9
 rw [h4] at e0
 have n3:decide ((100:Int) < (b.key.size:Int))=false:=decide_eq_false (by omega)
 rw [Jdv g1 g2 g3] at e9 b3
 dsimp only at e9 b3
 have k2:Hid (∀ V,Below y.heap.size y V->Calls prog 25 #[.agg #[.int .i64 b.f.n,.int .i64 b.f.k,.slice p b.f.L.length K]] V fun e w'=>e=.returned (.agg #[.int .i64 0,.int .i64 (-1)])/\Below V.heap.size V w'):=by have:=h0;rw [(Xm g1).2.2.1] at this;exact this
 have k3:Hid (∀ V,Below y.heap.size y V->Calls prog 25 #[.agg #[.int .i64 b.t.n,.int .i64 b.t.k,.slice q b.t.L.length M]] V fun e w'=>e=.returned (.agg #[.int .i64 0,.int .i64 (-1)])/\Below V.heap.size V w'):=by have:=h5;rw [(Xm g2).2.2.1] at this;exact this
 rw [g3] at h7
 clear h0 h5 g1 g2 g3
 clear I hO b0 N j0 g0 g5 e6 e7 e8 j2 j3 j5 j6 h1 h2 h3 h4 h6
 go_enter func4,ntmps4
 go_wp2_with (first | rw [<- j1.out] | fail)
 refine g6.mono ?_
 rintro e w2 ⟨rfl,f3⟩
 obtain ⟨U,W,J,Y,Z,d5,_⟩:=a0.out w2 f3
 have k4:Hid (Below y.heap.size y w2):=f3
 clear f3 g6
 go_wp2_with fail
 refine (d8.out w2 k4.out).mono ?_
 rintro e w3 ⟨rfl,f4⟩
 clear U W J Y Z d5
 obtain ⟨U,W,J,Y,Z,d5,_⟩:=a0.out w3 f4
 have k5:Hid (Below y.heap.size y w3):=f4
 clear f4
 go_wp2_with fail
 refine (d9.out w3 k5.out).mono ?_
 rintro e w4 ⟨rfl,f5⟩
 clear U W J Y Z d5
 obtain ⟨U,W,J,Y,Z,d5,_⟩:=a0.out w4 f5
 have k6:Hid (Below y.heap.size y w4):=f5
 clear f5
 go_wp2_with fail
 refine (e0.out w4 k6.out).mono ?_
 rintro e w5 ⟨rfl,f6⟩
 clear U W J Y Z d5
 obtain ⟨U,W,J,Y,Z,d5,_⟩:=a0.out w5 f6
 have k7:Hid (Below y.heap.size y w5):=f6
 clear f6
 have h8:=a0.out w5.drew k7.out.drew
 clear U W J Y Z d5 d8 d9 e0
 go_wp2
 go_region_held3 (fun V=>(V.cell? ⟨w.heap.size,0,none⟩=some (.int .i64 b.f.n)/\V.cell? ⟨w.heap.size,1,none⟩=some (.int .i64 b.f.k)/\V.cell? ⟨w.heap.size,2,none⟩=some (.slice p b.f.L.length K)/\V.cell? ⟨w.heap.size+1,0,none⟩=some (.int .i64 b.t.n)/\V.cell? ⟨w.heap.size+1,1,none⟩=some (.int .i64 b.t.k)/\V.cell? ⟨w.heap.size+1,2,none⟩=some (.slice q b.t.L.length M)/\Below y.heap.size y V)) (first | assumption | exact h8) (first | (go_at_call 9;with_reducible refine (g8.out _ (by assumption)).mono ?_;rintro e w6 ⟨u6,d6,rfl,h9,l0⟩) | (go_at_call 9;with_reducible refine (g9.out _ _ _ h9 (by assumption)).mono ?_;rintro e w7 ⟨u7,d7,rfl,i0,l1⟩) | (go_at_call 24;refine (b3.out _ _ _ _ _ i0 (by assumption)).mono ?_;rintro e Q ⟨et,eu,rfl,l2,i1⟩))
 have a1:Hid (Below y.heap.size y Q):=i1.2.2.2.2.2.2
 obtain ⟨U,W,J,Y,Z,d5,_⟩:=i1
 have i2:=k2.out Q a1.out
 clear h8 h9 i0 l0 l1 g8 g9 b3
 go_wp2_with fail
 refine i2.mono ?_
 rintro e G ⟨rfl,b4⟩
 obtain ⟨a2,b5⟩:∃ a2,a2=G.alloc (.cells #[.int .i64 0,.int .i64 (-1)] 39):=⟨_,rfl⟩
 have b6:a2.heap[G.heap.size]?=some (.cells #[.int .i64 0,.int .i64 (-1)] 39 (0,0)):=by rw [b5];exact heap_alloc_new _ _
 have f7:Below Q.heap.size Q a2:=by rw [b5];exact b4.alloc b4.size _
 have b7:Hid (Q.heap.size<=G.heap.size):=b4.size
 have i3:Hid (a2.heap[G.heap.size]?=some (.cells #[.int .i64 0,.int .i64 (-1)] 39 (0,0))):=b6
 have k0:a2.cell? ⟨G.heap.size,0,none⟩=some (.int .i64 (0)):=(Ja b6 0).1
 have k1:a2.cell? ⟨G.heap.size,1,none⟩=some (.int .i64 ((-1))):=(Ja b6 1).1
 have f8:Hid (Below Q.heap.size Q a2):=f7
 have l3:Hid (a2=G.alloc (.cells #[.int .i64 0,.int .i64 (-1)] 39)):=b5
 clear U W J Y Z d5
 obtain ⟨U,W,J,Y,Z,d5,_⟩:=a0.out a2 (a1.out.trans (f7.mono a1.out.size))
 clear b5 b4 b6 f7 i2
 go_wp2_with (first | rw [<- l3.out] | fail)
 refine (k3.out a2 (a1.out.trans (f8.out.mono a1.out.size))).mono ?_
 rintro e b1 ⟨rfl,a8⟩
 clear k0 k1
 have a3:=(a8.block G.heap.size (L2 i3.out)).trans i3.out
 have k0:b1.cell? ⟨G.heap.size,0,none⟩=some (.int .i64 (0)):=(Ja a3 0).1
 have k1:b1.cell? ⟨G.heap.size,1,none⟩=some (.int .i64 (-1)):=(Ja a3 1).1
 have fz:∀ j,b1.frozen? ⟨G.heap.size,j,none⟩=false:=fun j=>(Ja a3 j).2
 obtain ⟨a4,a5⟩:∃ v,v=(b1.setCell ⟨G.heap.size,0,none⟩ (.int .i64 (0))).setCell ⟨G.heap.size,1,none⟩ (.int .i64 (-1)):=⟨_,rfl⟩
 have a6:a4.heap[G.heap.size]?=some (.cells #[.int .i64 (0),.int .i64 (-1)] 39 (0,0)):=by rw [a5];exact Qc (Qc a3 0 _) 1 _
 have a9:Below Q.heap.size Q a4:=by rw [a5];exact ((f8.out.trans (a8.mono f8.out.size)).setCell (p:=⟨G.heap.size,0,none⟩) b7.out _).setCell (p:=⟨G.heap.size,1,none⟩) b7.out _
 have m0:a4.cell? ⟨G.heap.size,0,none⟩=some (.int .i64 (0)):=(Ja a6 0).1
 have m1:a4.cell? ⟨G.heap.size,1,none⟩=some (.int .i64 (-1)):=(Ja a6 1).1
 have i4:Hid (a4.heap[G.heap.size]?=some (.cells #[.int .i64 (0),.int .i64 (-1)] 39 (0,0))):=a6
 have i5:Hid (Below Q.heap.size Q a4):=a9
 have l7:Hid (a4=(b1.setCell ⟨G.heap.size,0,none⟩ (.int .i64 (0))).setCell ⟨G.heap.size,1,none⟩ (.int .i64 (-1))):=a5
 clear U W J Y Z d5
 obtain ⟨U,W,J,Y,Z,d5,_⟩:=a0.out a4 (a1.out.trans (a9.mono a1.out.size))
 clear a5 a6 a9 a3 a8
 go_wp2_with (first | rw [<- l7.out] | fail)
 refine (h7.out a4).mono ?_
 rintro e l8 ⟨rfl,i7⟩
 rw [i7]
 clear i7 l8 k0 k1 fz
 go_wp2_with fail
 refine (j8.out 4 a4).mono ?_
 rintro e b2 ⟨rfl,a8⟩
 clear m0 m1
 have a3:=(a8.block G.heap.size (L2 i4.out)).trans i4.out
 have k0:b2.cell? ⟨G.heap.size,0,none⟩=some (.int .i64 (0)):=(Ja a3 0).1
 have k1:b2.cell? ⟨G.heap.size,1,none⟩=some (.int .i64 (-1)):=(Ja a3 1).1
 have fz:∀ j,b2.frozen? ⟨G.heap.size,j,none⟩=false:=fun j=>(Ja a3 j).2
 obtain ⟨a7,a5⟩:∃ v,v=(b2.setCell ⟨G.heap.size,0,none⟩ (.int .i64 (4))).setCell ⟨G.heap.size,1,none⟩ (.int .i64 (-1)):=⟨_,rfl⟩
 have a6:a7.heap[G.heap.size]?=some (.cells #[.int .i64 (4),.int .i64 (-1)] 39 (0,0)):=by rw [a5];exact Qc (Qc a3 0 _) 1 _
 have a9:Below Q.heap.size Q a7:=by rw [a5];exact ((i5.out.trans (a8.mono i5.out.size)).setCell (p:=⟨G.heap.size,0,none⟩) b7.out _).setCell (p:=⟨G.heap.size,1,none⟩) b7.out _
 have m0:a7.cell? ⟨G.heap.size,0,none⟩=some (.int .i64 (4)):=(Ja a6 0).1
 have m1:a7.cell? ⟨G.heap.size,1,none⟩=some (.int .i64 (-1)):=(Ja a6 1).1
 have m6:Hid (a7.heap[G.heap.size]?=some (.cells #[.int .i64 (4),.int .i64 (-1)] 39 (0,0))):=a6
 have i8:Hid (Below Q.heap.size Q a7):=a9
 have l9:Hid (a7=(b2.setCell ⟨G.heap.size,0,none⟩ (.int .i64 (4))).setCell ⟨G.heap.size,1,none⟩ (.int .i64 (-1))):=a5
 clear U W J Y Z d5
 obtain ⟨U,W,J,Y,Z,d5,_⟩:=a0.out a7 (a1.out.trans (a9.mono a1.out.size))
 clear a5 a6 a9 a3 a8
 go_wp2_with (first | rw [<- l9.out] | fail)
 have m4:=l2.out.below i8.out
 refine (e9.out a7 et eu (a1.out.trans (i8.out.mono a1.out.size)) m4).mono ?_
 rintro e w20 ⟨rfl,i9⟩
 have m5:Hid (Below w.heap.size w w20):=g7.out.trans (i9.mono g7.out.size)
 clear i9
 go_wp2
 go_ret
 exact ⟨rfl,m5.out⟩
theorem JbN (hO:Yr ad X Ck) (b:lN) (p:Option Addr) (K:Nat) (q:Option Addr) (M:Nat) (l:List Zb) (lp:Option Addr) (f9:Nat) (w:World) (I:z8 ad X b p K q M l lp w) (h1:Qk b.f=false) (h2:Qk b.t=false) (h3:¬ 100 < b.key.size) (h4:X5 l=true) (g1:¬ 0 < (Jg b.f).1) (g2:¬ 0 < (Jg b.t).1) (g3:Jo b.key=true) (g5:b.op < 0):Calls prog 4 #[.int .i64 b.op,.agg #[.int .i64 b.f.n,.int .i64 b.f.k,.slice p b.f.L.length K],.agg #[.int .i64 b.t.n,.int .i64 b.t.k,.slice q b.t.L.length M],.int .i64 b.config,.string b.key,.slice lp l.length f9] w fun e w'=>e=.returned (.bool true)/\Below w.heap.size w w':=by
 have h6:0 < (lH b).1:=by rw [Ja4 g1 g2 g3 (fun hf=>by unfold lN.fits at hf;omega)];decide
 obtain ⟨y,b0⟩:∃ y,y=(w.alloc (.cells #[.int .i64 b.f.n,.int .i64 b.f.k,.slice p b.f.L.length K] 24)).alloc (.cells #[.int .i64 b.t.n,.int .i64 b.t.k,.slice q b.t.L.length M] 24):=⟨_,rfl⟩
 have N:Below w.heap.size w y:=by rw [b0];exact ((Below.refl _ _).alloc (Nat.le_refl _) _).alloc (by simp) _
 have j1:y.heap.size=w.heap.size+2:=by rw [b0];simp
 have g0:y.heap[w.heap.size]?=some (.cells #[.int .i64 b.f.n,.int .i64 b.f.k,.slice p b.f.L.length K] 24 (0,0)):=by rw [b0,heap_alloc_old _ _ (by simp)];exact heap_alloc_new _ _
 have g6:y.heap[w.heap.size+1]?=some (.cells #[.int .i64 b.t.n,.int .i64 b.t.k,.slice q b.t.L.length M] 24 (0,0)):=by
  have e:w.heap.size+1=(w.alloc (.cells #[.int .i64 b.f.n,.int .i64 b.f.k,.slice p b.f.L.length K] 24)).heap.size:=by simp
  rw [b0,e]
  exact heap_alloc_new _ _
 have a0:Hid (∀ V,Below y.heap.size y V->(V.cell? ⟨w.heap.size,0,none⟩=some (.int .i64 b.f.n)/\V.cell? ⟨w.heap.size,1,none⟩=some (.int .i64 b.f.k)/\V.cell? ⟨w.heap.size,2,none⟩=some (.slice p b.f.L.length K)/\V.cell? ⟨w.heap.size+1,0,none⟩=some (.int .i64 b.t.n)/\V.cell? ⟨w.heap.size+1,1,none⟩=some (.int .i64 b.t.k)/\V.cell? ⟨w.heap.size+1,2,none⟩=some (.slice q b.t.L.length M)/\Below y.heap.size y V)):=fun V D=>by
  have hF:=(D.block _ (by omega)).trans g0
  have hT:=(D.block _ (by omega)).trans g6
  exact ⟨(Ja hF 0).1,(Ja hF 1).1,(Ja hF 2).1,(Ja hT 0).1,(Ja hT 1).1,(Ja hT 2).1,D⟩
 have g7:=LW hO y (fun V D=>(I.ok (N.trans (D.mono N.size))).1) (fun V D=>(I.ok (N.trans (D.mono N.size))).2)
 have d8:Hid (∀ V,Below y.heap.size y V->Calls prog 6 #[.agg #[.int .i64 b.f.n,.int .i64 b.f.k,.slice p b.f.L.length K]] V fun e w'=>e=.returned (.bool (Qk b.f))/\Below y.heap.size y w'):=fun V D=>(Xh b.f p K V I.u4 I.oP ((I.eS.below N).below D)).mono fun e w' O=>⟨O.1,D.trans (O.2.mono D.size)⟩
 have d9:Hid (∀ V,Below y.heap.size y V->Calls prog 6 #[.agg #[.int .i64 b.t.n,.int .i64 b.t.k,.slice q b.t.L.length M]] V fun e w'=>e=.returned (.bool (Qk b.t))/\Below y.heap.size y w'):=fun V D=>(Xh b.t q M V I.r9 I.kH ((I.gW.below N).below D)).mono fun e w' O=>⟨O.1,D.trans (O.2.mono D.size)⟩
 have e0:Hid (∀ V,Below y.heap.size y V->Calls prog 7 #[.slice lp l.length f9] V fun e w'=>e=.returned (.bool (X5 l))/\Below y.heap.size y w'):=fun V D=>(Qy lp l f9 V I.sA ((I.msgs.below N).below D)).mono fun e w' O=>⟨O.1,D.trans (O.2.mono D.size)⟩
 have j2:Hid (y=(w.alloc (.cells #[.int .i64 b.f.n,.int .i64 b.f.k,.slice p b.f.L.length K] 24)).alloc (.cells #[.int .i64 b.t.n,.int .i64 b.t.k,.slice q b.t.L.length M] 24)):=b0
 have g8:Hid (Below w.heap.size w y):=N
 obtain ⟨j3,j5⟩:=X1 h1
 obtain ⟨j6,j8⟩:=X1 h2
 have e6:Hid (∀ V u d,Strs V u b.f.L->b.f.L.length<=d->(u=none->b.f.L=[]/\d=0)->Yn V b.f u d):=fun V u d g1 g2 g3=>C3 g1 g2 g3 h1 I.sT
 have e7:Hid (∀ V u d,Strs V u b.t.L->b.t.L.length<=d->(u=none->b.t.L=[]/\d=0)->Yn V b.t u d):=fun V u d g1 g2 g3=>C3 g1 g2 g3 h2 I.sZ
 have g9:Hid (∀ V,(V.cell? ⟨w.heap.size,0,none⟩=some (.int .i64 b.f.n)/\V.cell? ⟨w.heap.size,1,none⟩=some (.int .i64 b.f.k)/\V.cell? ⟨w.heap.size,2,none⟩=some (.slice p b.f.L.length K)/\V.cell? ⟨w.heap.size+1,0,none⟩=some (.int .i64 b.t.n)/\V.cell? ⟨w.heap.size+1,1,none⟩=some (.int .i64 b.t.k)/\V.cell? ⟨w.heap.size+1,2,none⟩=some (.slice q b.t.L.length M)/\Below y.heap.size y V)->Calls prog 9 #[.agg #[.int .i64 b.f.n,.int .i64 b.f.k,.slice p b.f.L.length K]] V fun e w'=>∃ u d,e=.returned (.agg #[.int .i64 b.f.n,.int .i64 b.f.k,.slice u b.f.L.length d])/\Hid (Yn w' b.f u d)/\(w'.cell? ⟨w.heap.size,0,none⟩=some (.int .i64 b.f.n)/\w'.cell? ⟨w.heap.size,1,none⟩=some (.int .i64 b.f.k)/\w'.cell? ⟨w.heap.size,2,none⟩=some (.slice p b.f.L.length K)/\w'.cell? ⟨w.heap.size+1,0,none⟩=some (.int .i64 b.t.n)/\w'.cell? ⟨w.heap.size+1,1,none⟩=some (.int .i64 b.t.k)/\w'.cell? ⟨w.heap.size+1,2,none⟩=some (.slice q b.t.L.length M)/\Below y.heap.size y w')):=fun V D=>(Zx b.f p K V (by omega) ((I.eS.below N).below D.2.2.2.2.2.2) I.nP).mono fun e w' O=>by
  obtain ⟨⟨u,d,e1,e2,e3,e4⟩,e5⟩:=O
  exact ⟨u,d,e1,e6.out w' u d e2 e3 e4,a0.out w' (D.2.2.2.2.2.2.trans (e5.mono D.2.2.2.2.2.2.size))⟩
 have h0:Hid (∀ V u d,Hid (Yn V b.f u d)->(V.cell? ⟨w.heap.size,0,none⟩=some (.int .i64 b.f.n)/\V.cell? ⟨w.heap.size,1,none⟩=some (.int .i64 b.f.k)/\V.cell? ⟨w.heap.size,2,none⟩=some (.slice p b.f.L.length K)/\V.cell? ⟨w.heap.size+1,0,none⟩=some (.int .i64 b.t.n)/\V.cell? ⟨w.heap.size+1,1,none⟩=some (.int .i64 b.t.k)/\V.cell? ⟨w.heap.size+1,2,none⟩=some (.slice q b.t.L.length M)/\Below y.heap.size y V)->Calls prog 9 #[.agg #[.int .i64 b.t.n,.int .i64 b.t.k,.slice q b.t.L.length M]] V fun e w'=>∃ u2 J,e=.returned (.agg #[.int .i64 b.t.n,.int .i64 b.t.k,.slice u2 b.t.L.length J])/\Hid (Yn w' b.f u d/\Yn w' b.t u2 J)/\(w'.cell? ⟨w.heap.size,0,none⟩=some (.int .i64 b.f.n)/\w'.cell? ⟨w.heap.size,1,none⟩=some (.int .i64 b.f.k)/\w'.cell? ⟨w.heap.size,2,none⟩=some (.slice p b.f.L.length K)/\w'.cell? ⟨w.heap.size+1,0,none⟩=some (.int .i64 b.t.n)/\w'.cell? ⟨w.heap.size+1,1,none⟩=some (.int .i64 b.t.k)/\w'.cell? ⟨w.heap.size+1,2,none⟩=some (.slice q b.t.L.length M)/\Below y.heap.size y w')):=fun V u d hC D=>(Zx b.t q M V (by omega) ((I.gW.below N).below D.2.2.2.2.2.2) I.nR).mono fun e w' O=>by
  obtain ⟨⟨u2,J,e1,e2,e3,e4⟩,e5⟩:=O
  exact ⟨u2,J,e1,⟨hC.out.below e5,e7.out w' u2 J e2 e3 e4⟩,a0.out w' (D.2.2.2.2.2.2.trans (e5.mono D.2.2.2.2.2.2.size))⟩
 have e8:Hid (∀ V,Below y.heap.size y V->Zp V ad/\X V):=fun V D=>I.ok (N.trans (D.mono N.size))
 have b3:Hid (∀ V u d u2 J,Hid (Yn V b.f u d/\Yn V b.t u2 J)->(V.cell? ⟨w.heap.size,0,none⟩=some (.int .i64 b.f.n)/\V.cell? ⟨w.heap.size,1,none⟩=some (.int .i64 b.f.k)/\V.cell? ⟨w.heap.size,2,none⟩=some (.slice p b.f.L.length K)/\V.cell? ⟨w.heap.size+1,0,none⟩=some (.int .i64 b.t.n)/\V.cell? ⟨w.heap.size+1,1,none⟩=some (.int .i64 b.t.k)/\V.cell? ⟨w.heap.size+1,2,none⟩=some (.slice q b.t.L.length M)/\Below y.heap.size y V)->Calls prog 24 #[.int .i64 b.op,.agg #[.int .i64 b.f.n,.int .i64 b.f.k,.slice u b.f.L.length d],.agg #[.int .i64 b.t.n,.int .i64 b.t.k,.slice u2 b.t.L.length J],.int .i64 b.config,.string b.key] V fun e w'=>∃ et eu,e=.returned (.tuple #[.pointer none,.iface et eu])/\Hid (Jd w' ad (.iface et eu) (lH b).1 (lH b).2)/\(w'.cell? ⟨w.heap.size,0,none⟩=some (.int .i64 b.f.n)/\w'.cell? ⟨w.heap.size,1,none⟩=some (.int .i64 b.f.k)/\w'.cell? ⟨w.heap.size,2,none⟩=some (.slice p b.f.L.length K)/\w'.cell? ⟨w.heap.size+1,0,none⟩=some (.int .i64 b.t.n)/\w'.cell? ⟨w.heap.size+1,1,none⟩=some (.int .i64 b.t.k)/\w'.cell? ⟨w.heap.size+1,2,none⟩=some (.slice q b.t.L.length M)/\Below y.heap.size y w')):=fun V u d u2 J hC D=>(hO.new b u d u2 J V hC.out.1 hC.out.2 (by omega) I.op I.config (e8.out V D.2.2.2.2.2.2).1 (e8.out V D.2.2.2.2.2.2).2).mono fun e w' O=>by
  obtain ⟨⟨ev,g1,g2⟩,g3⟩:=O
  obtain ⟨et,eu,rfl⟩:=g1.some h6
  rcases g2 with ⟨_,g4⟩ | ⟨g4,_⟩
  ·exact ⟨et,eu,g4,g1,a0.out w' (D.2.2.2.2.2.2.trans (g3.mono D.2.2.2.2.2.2.size))⟩
  ·exact absurd h6 g4
 have h5:Hid (∀ V,Below y.heap.size y V->Calls prog 25 #[.agg #[.int .i64 b.f.n,.int .i64 b.f.k,.slice p b.f.L.length K]] V fun e w'=>e=.returned (.agg #[.int .i64 (Jg b.f).1,.int .i64 (Jg b.f).2])/\Below V.heap.size V w'):=fun V D=>D0 b.f p K V (e6.out V p K ((I.eS.below N).below D) I.q9 I.nP)
 have h7:Hid (∀ V,Below y.heap.size y V->Calls prog 25 #[.agg #[.int .i64 b.t.n,.int .i64 b.t.k,.slice q b.t.L.length M]] V fun e w'=>e=.returned (.agg #[.int .i64 (Jg b.t).1,.int .i64 (Jg b.t).2])/\Below V.heap.size V w'):=fun V D=>D0 b.t q M V (e7.out V q M ((I.gW.below N).below D) I.pL I.nR)
 have h8:Hid (∀ V,Calls prog 26 #[.string b.key] V fun e w'=>e=.returned (.bool (Jo b.key))/\w'=V):=fun V=>R1 b.key V (by omega)
 have k2:Hid (∀ x V,Calls prog 27 #[.int .i64 x] V fun e w'=>e=.returned (.agg #[.int .i64 x,.int .i64 (-1)])/\Below V.heap.size V w'):=fun x V=>O0 x V
 have e9:Hid (∀ V et eu,Below y.heap.size y V->Hid (Jd V ad (.iface et eu) (lH b).1 (lH b).2)->Calls prog 12 #[.iface et eu,.agg #[.int .i64 (lH b).1,.int .i64 (lH b).2]] V fun e w'=>e=.returned (.bool true)/\Below y.heap.size y w'):=fun V et eu D he=>(WZ ad (.iface et eu) (lH b).1 (lH b).2 V (I.b8 V (N.trans (D.mono N.size))) he.out).mono fun e w' O=>⟨O.1,D.trans (O.2.mono D.size)⟩
 rw [h1] at d8
 rw [h2] at d9
 rw [h4] at e0
 have n3:decide ((100:Int) < (b.key.size:Int))=false:=decide_eq_false (by omega)
 rw [Ja4 g1 g2 g3 (fun hf=>by unfold lN.fits at hf;omega)] at e9 b3
 dsimp only at e9 b3
 have k3:Hid (∀ V,Below y.heap.size y V->Calls prog 25 #[.agg #[.int .i64 b.f.n,.int .i64 b.f.k,.slice p b.f.L.length K]] V fun e w'=>e=.returned (.agg #[.int .i64 0,.int .i64 (-1)])/\Below V.heap.size V w'):=by have:=h5;rw [(Xm g1).2.2.1] at this;exact this
 have k4:Hid (∀ V,Below y.heap.size y V->Calls prog 25 #[.agg #[.int .i64 b.t.n,.int .i64 b.t.k,.slice q b.t.L.length M]] V fun e w'=>e=.returned (.agg #[.int .i64 0,.int .i64 (-1)])/\Below V.heap.size V w'):=by have:=h7;rw [(Xm g2).2.2.1] at this;exact this
 rw [g3] at h8
 have n8:decide (b.op < 0)=true:=decide_eq_true g5
 clear h5 h7 g1 g2 g3 g5
 clear I hO b0 N j1 g0 g6 e6 e7 e8 j3 j5 j6 j8 h1 h2 h3 h4 h6
 go_enter func4,ntmps4
 go_wp2_with (first | rw [<- j2.out] | fail)
 refine g7.mono ?_
 rintro e w2 ⟨rfl,f3⟩
 obtain ⟨U,W,J,Y,Z,d5,_⟩:=a0.out w2 f3
 have k5:Hid (Below y.heap.size y w2):=f3
 clear f3 g7
 go_wp2_with fail
 refine (d8.out w2 k5.out).mono ?_
 rintro e w3 ⟨rfl,f4⟩
 clear U W J Y Z d5
 obtain ⟨U,W,J,Y,Z,d5,_⟩:=a0.out w3 f4
 have k6:Hid (Below y.heap.size y w3):=f4
 clear f4
 go_wp2_with fail
 refine (d9.out w3 k6.out).mono ?_
 rintro e w4 ⟨rfl,f5⟩
 clear U W J Y Z d5
 obtain ⟨U,W,J,Y,Z,d5,_⟩:=a0.out w4 f5
 have k7:Hid (Below y.heap.size y w4):=f5
 clear f5
 go_wp2_with fail
 refine (e0.out w4 k7.out).mono ?_
 rintro e w5 ⟨rfl,f6⟩
 clear U W J Y Z d5
 obtain ⟨U,W,J,Y,Z,d5,_⟩:=a0.out w5 f6
 have l0:Hid (Below y.heap.size y w5):=f6
 clear f6
 have h9:=a0.out w5.drew l0.out.drew
 clear U W J Y Z d5 d8 d9 e0
 go_wp2
 go_region_held3 (fun V=>(V.cell? ⟨w.heap.size,0,none⟩=some (.int .i64 b.f.n)/\V.cell? ⟨w.heap.size,1,none⟩=some (.int .i64 b.f.k)/\V.cell? ⟨w.heap.size,2,none⟩=some (.slice p b.f.L.length K)/\V.cell? ⟨w.heap.size+1,0,none⟩=some (.int .i64 b.t.n)/\V.cell? ⟨w.heap.size+1,1,none⟩=some (.int .i64 b.t.k)/\V.cell? ⟨w.heap.size+1,2,none⟩=some (.slice q b.t.L.length M)/\Below y.heap.size y V)) (first | assumption | exact h9) (first | (go_at_call 9;with_reducible refine (g9.out _ (by assumption)).mono ?_;rintro e w6 ⟨u6,d6,rfl,i0,l1⟩) | (go_at_call 9;with_reducible refine (h0.out _ _ _ i0 (by assumption)).mono ?_;rintro e w7 ⟨u7,d7,rfl,i1,l2⟩) | (go_at_call 24;refine (b3.out _ _ _ _ _ i1 (by assumption)).mono ?_;rintro e Q ⟨et,eu,rfl,l3,i2⟩))
 have a1:Hid (Below y.heap.size y Q):=i2.2.2.2.2.2.2
 obtain ⟨U,W,J,Y,Z,d5,_⟩:=i2
 have i3:=k3.out Q a1.out
 clear h9 i0 i1 l1 l2 g9 h0 b3
 go_wp2_with fail
 refine i3.mono ?_
 rintro e G ⟨rfl,b4⟩
 obtain ⟨a2,b5⟩:∃ a2,a2=G.alloc (.cells #[.int .i64 0,.int .i64 (-1)] 39):=⟨_,rfl⟩
 have b6:a2.heap[G.heap.size]?=some (.cells #[.int .i64 0,.int .i64 (-1)] 39 (0,0)):=by rw [b5];exact heap_alloc_new _ _
 have f7:Below Q.heap.size Q a2:=by rw [b5];exact b4.alloc b4.size _
 have b7:Hid (Q.heap.size<=G.heap.size):=b4.size
 have i4:Hid (a2.heap[G.heap.size]?=some (.cells #[.int .i64 0,.int .i64 (-1)] 39 (0,0))):=b6
 have k0:a2.cell? ⟨G.heap.size,0,none⟩=some (.int .i64 (0)):=(Ja b6 0).1
 have k1:a2.cell? ⟨G.heap.size,1,none⟩=some (.int .i64 ((-1))):=(Ja b6 1).1
 have f8:Hid (Below Q.heap.size Q a2):=f7
 have l7:Hid (a2=G.alloc (.cells #[.int .i64 0,.int .i64 (-1)] 39)):=b5
 clear U W J Y Z d5
 obtain ⟨U,W,J,Y,Z,d5,_⟩:=a0.out a2 (a1.out.trans (f7.mono a1.out.size))
 clear b5 b4 b6 f7 i3
 go_wp2_with (first | rw [<- l7.out] | fail)
 refine (k4.out a2 (a1.out.trans (f8.out.mono a1.out.size))).mono ?_
 rintro e b1 ⟨rfl,a8⟩
 clear k0 k1
 have a3:=(a8.block G.heap.size (L2 i4.out)).trans i4.out
 have k0:b1.cell? ⟨G.heap.size,0,none⟩=some (.int .i64 (0)):=(Ja a3 0).1
 have k1:b1.cell? ⟨G.heap.size,1,none⟩=some (.int .i64 (-1)):=(Ja a3 1).1
 have fz:∀ j,b1.frozen? ⟨G.heap.size,j,none⟩=false:=fun j=>(Ja a3 j).2
 obtain ⟨a4,a5⟩:∃ v,v=(b1.setCell ⟨G.heap.size,0,none⟩ (.int .i64 (0))).setCell ⟨G.heap.size,1,none⟩ (.int .i64 (-1)):=⟨_,rfl⟩
 have a6:a4.heap[G.heap.size]?=some (.cells #[.int .i64 (0),.int .i64 (-1)] 39 (0,0)):=by rw [a5];exact Qc (Qc a3 0 _) 1 _
 have a9:Below Q.heap.size Q a4:=by rw [a5];exact ((f8.out.trans (a8.mono f8.out.size)).setCell (p:=⟨G.heap.size,0,none⟩) b7.out _).setCell (p:=⟨G.heap.size,1,none⟩) b7.out _
 have m0:a4.cell? ⟨G.heap.size,0,none⟩=some (.int .i64 (0)):=(Ja a6 0).1
 have m1:a4.cell? ⟨G.heap.size,1,none⟩=some (.int .i64 (-1)):=(Ja a6 1).1
 have i5:Hid (a4.heap[G.heap.size]?=some (.cells #[.int .i64 (0),.int .i64 (-1)] 39 (0,0))):=a6
 have i7:Hid (Below Q.heap.size Q a4):=a9
 have l8:Hid (a4=(b1.setCell ⟨G.heap.size,0,none⟩ (.int .i64 (0))).setCell ⟨G.heap.size,1,none⟩ (.int .i64 (-1))):=a5
 clear U W J Y Z d5
 obtain ⟨U,W,J,Y,Z,d5,_⟩:=a0.out a4 (a1.out.trans (a9.mono a1.out.size))
 clear a5 a6 a9 a3 a8
 go_wp2_with (first | rw [<- l8.out] | fail)
 refine (h8.out a4).mono ?_
 rintro e l9 ⟨rfl,i8⟩
 rw [i8]
 clear i8 l9 k0 k1 fz
 go_wp2_with fail
 refine (k2.out 2 a4).mono ?_
 rintro e b2 ⟨rfl,a8⟩
 clear m0 m1
 have a3:=(a8.block G.heap.size (L2 i5.out)).trans i5.out
 have k0:b2.cell? ⟨G.heap.size,0,none⟩=some (.int .i64 (0)):=(Ja a3 0).1
 have k1:b2.cell? ⟨G.heap.size,1,none⟩=some (.int .i64 (-1)):=(Ja a3 1).1
 have fz:∀ j,b2.frozen? ⟨G.heap.size,j,none⟩=false:=fun j=>(Ja a3 j).2
 obtain ⟨a7,a5⟩:∃ v,v=(b2.setCell ⟨G.heap.size,0,none⟩ (.int .i64 (2))).setCell ⟨G.heap.size,1,none⟩ (.int .i64 (-1)):=⟨_,rfl⟩
 have a6:a7.heap[G.heap.size]?=some (.cells #[.int .i64 (2),.int .i64 (-1)] 39 (0,0)):=by rw [a5];exact Qc (Qc a3 0 _) 1 _
 have a9:Below Q.heap.size Q a7:=by rw [a5];exact ((i7.out.trans (a8.mono i7.out.size)).setCell (p:=⟨G.heap.size,0,none⟩) b7.out _).setCell (p:=⟨G.heap.size,1,none⟩) b7.out _
 have m0:a7.cell? ⟨G.heap.size,0,none⟩=some (.int .i64 (2)):=(Ja a6 0).1
 have m1:a7.cell? ⟨G.heap.size,1,none⟩=some (.int .i64 (-1)):=(Ja a6 1).1
 have m7:Hid (a7.heap[G.heap.size]?=some (.cells #[.int .i64 (2),.int .i64 (-1)] 39 (0,0))):=a6
 have i9:Hid (Below Q.heap.size Q a7):=a9
 have m4:Hid (a7=(b2.setCell ⟨G.heap.size,0,none⟩ (.int .i64 (2))).setCell ⟨G.heap.size,1,none⟩ (.int .i64 (-1))):=a5
 clear U W J Y Z d5
 obtain ⟨U,W,J,Y,Z,d5,_⟩:=a0.out a7 (a1.out.trans (a9.mono a1.out.size))
 clear a5 a6 a9 a3 a8
 go_wp2_with (first | rw [<- m4.out] | fail)
 have m5:=l3.out.below i9.out
 refine (e9.out a7 et eu (a1.out.trans (i9.out.mono a1.out.size)) m5).mono ?_
 rintro e w20 ⟨rfl,j0⟩
 have m6:Hid (Below w.heap.size w w20):=g8.out.trans (j0.mono g8.out.size)
 clear j0
 go_wp2
 go_ret
 exact ⟨rfl,m6.out⟩
theorem JbO (hO:Yr ad X Ck) (b:lN) (p:Option Addr) (K:Nat) (q:Option Addr) (M:Nat) (l:List Zb) (lp:Option Addr) (f9:Nat) (w:World) (I:z8 ad X b p K q M l lp w) (h1:Qk b.f=false) (h2:Qk b.t=false) (h3:¬ 100 < b.key.size) (h4:X5 l=true) (g1:¬ 0 < (Jg b.f).1) (g2:¬ 0 < (Jg b.t).1) (g3:Jo b.key=true) (g5:¬ b.op < 0) (g7:b.config < 0):Calls prog 4 #[.int .i64 b.op,.agg #[.int .i64 b.f.n,.int .i64 b.f.k,.slice p b.f.L.length K],.agg #[.int .i64 b.t.n,.int .i64 b.t.k,.slice q b.t.L.length M],.int .i64 b.config,.string b.key,.slice lp l.length f9] w fun e w'=>e=.returned (.bool true)/\Below w.heap.size w w':=by
 have h6:0 < (lH b).1:=by rw [Ja4 g1 g2 g3 (fun hf=>by unfold lN.fits at hf;omega)];decide
 obtain ⟨y,b0⟩:∃ y,y=(w.alloc (.cells #[.int .i64 b.f.n,.int .i64 b.f.k,.slice p b.f.L.length K] 24)).alloc (.cells #[.int .i64 b.t.n,.int .i64 b.t.k,.slice q b.t.L.length M] 24):=⟨_,rfl⟩
 have N:Below w.heap.size w y:=by rw [b0];exact ((Below.refl _ _).alloc (Nat.le_refl _) _).alloc (by simp) _
 have j2:y.heap.size=w.heap.size+2:=by rw [b0];simp
 have g0:y.heap[w.heap.size]?=some (.cells #[.int .i64 b.f.n,.int .i64 b.f.k,.slice p b.f.L.length K] 24 (0,0)):=by rw [b0,heap_alloc_old _ _ (by simp)];exact heap_alloc_new _ _
 have g6:y.heap[w.heap.size+1]?=some (.cells #[.int .i64 b.t.n,.int .i64 b.t.k,.slice q b.t.L.length M] 24 (0,0)):=by
  have e:w.heap.size+1=(w.alloc (.cells #[.int .i64 b.f.n,.int .i64 b.f.k,.slice p b.f.L.length K] 24)).heap.size:=by simp
  rw [b0,e]
  exact heap_alloc_new _ _
 have a0:Hid (∀ V,Below y.heap.size y V->(V.cell? ⟨w.heap.size,0,none⟩=some (.int .i64 b.f.n)/\V.cell? ⟨w.heap.size,1,none⟩=some (.int .i64 b.f.k)/\V.cell? ⟨w.heap.size,2,none⟩=some (.slice p b.f.L.length K)/\V.cell? ⟨w.heap.size+1,0,none⟩=some (.int .i64 b.t.n)/\V.cell? ⟨w.heap.size+1,1,none⟩=some (.int .i64 b.t.k)/\V.cell? ⟨w.heap.size+1,2,none⟩=some (.slice q b.t.L.length M)/\Below y.heap.size y V)):=fun V D=>by
  have hF:=(D.block _ (by omega)).trans g0
  have hT:=(D.block _ (by omega)).trans g6
  exact ⟨(Ja hF 0).1,(Ja hF 1).1,(Ja hF 2).1,(Ja hT 0).1,(Ja hT 1).1,(Ja hT 2).1,D⟩
 have g8:=LW hO y (fun V D=>(I.ok (N.trans (D.mono N.size))).1) (fun V D=>(I.ok (N.trans (D.mono N.size))).2)
 have d8:Hid (∀ V,Below y.heap.size y V->Calls prog 6 #[.agg #[.int .i64 b.f.n,.int .i64 b.f.k,.slice p b.f.L.length K]] V fun e w'=>e=.returned (.bool (Qk b.f))/\Below y.heap.size y w'):=fun V D=>(Xh b.f p K V I.u4 I.oP ((I.eS.below N).below D)).mono fun e w' O=>⟨O.1,D.trans (O.2.mono D.size)⟩
 have d9:Hid (∀ V,Below y.heap.size y V->Calls prog 6 #[.agg #[.int .i64 b.t.n,.int .i64 b.t.k,.slice q b.t.L.length M]] V fun e w'=>e=.returned (.bool (Qk b.t))/\Below y.heap.size y w'):=fun V D=>(Xh b.t q M V I.r9 I.kH ((I.gW.below N).below D)).mono fun e w' O=>⟨O.1,D.trans (O.2.mono D.size)⟩
 have e0:Hid (∀ V,Below y.heap.size y V->Calls prog 7 #[.slice lp l.length f9] V fun e w'=>e=.returned (.bool (X5 l))/\Below y.heap.size y w'):=fun V D=>(Qy lp l f9 V I.sA ((I.msgs.below N).below D)).mono fun e w' O=>⟨O.1,D.trans (O.2.mono D.size)⟩
 have j3:Hid (y=(w.alloc (.cells #[.int .i64 b.f.n,.int .i64 b.f.k,.slice p b.f.L.length K] 24)).alloc (.cells #[.int .i64 b.t.n,.int .i64 b.t.k,.slice q b.t.L.length M] 24)):=b0
 have g9:Hid (Below w.heap.size w y):=N
 obtain ⟨j5,j6⟩:=X1 h1
 obtain ⟨j8,k2⟩:=X1 h2
 have e6:Hid (∀ V u d,Strs V u b.f.L->b.f.L.length<=d->(u=none->b.f.L=[]/\d=0)->Yn V b.f u d):=fun V u d g1 g2 g3=>C3 g1 g2 g3 h1 I.sT
 have e7:Hid (∀ V u d,Strs V u b.t.L->b.t.L.length<=d->(u=none->b.t.L=[]/\d=0)->Yn V b.t u d):=fun V u d g1 g2 g3=>C3 g1 g2 g3 h2 I.sZ
 have h0:Hid (∀ V,(V.cell? ⟨w.heap.size,0,none⟩=some (.int .i64 b.f.n)/\V.cell? ⟨w.heap.size,1,none⟩=some (.int .i64 b.f.k)/\V.cell? ⟨w.heap.size,2,none⟩=some (.slice p b.f.L.length K)/\V.cell? ⟨w.heap.size+1,0,none⟩=some (.int .i64 b.t.n)/\V.cell? ⟨w.heap.size+1,1,none⟩=some (.int .i64 b.t.k)/\V.cell? ⟨w.heap.size+1,2,none⟩=some (.slice q b.t.L.length M)/\Below y.heap.size y V)->Calls prog 9 #[.agg #[.int .i64 b.f.n,.int .i64 b.f.k,.slice p b.f.L.length K]] V fun e w'=>∃ u d,e=.returned (.agg #[.int .i64 b.f.n,.int .i64 b.f.k,.slice u b.f.L.length d])/\Hid (Yn w' b.f u d)/\(w'.cell? ⟨w.heap.size,0,none⟩=some (.int .i64 b.f.n)/\w'.cell? ⟨w.heap.size,1,none⟩=some (.int .i64 b.f.k)/\w'.cell? ⟨w.heap.size,2,none⟩=some (.slice p b.f.L.length K)/\w'.cell? ⟨w.heap.size+1,0,none⟩=some (.int .i64 b.t.n)/\w'.cell? ⟨w.heap.size+1,1,none⟩=some (.int .i64 b.t.k)/\w'.cell? ⟨w.heap.size+1,2,none⟩=some (.slice q b.t.L.length M)/\Below y.heap.size y w')):=fun V D=>(Zx b.f p K V (by omega) ((I.eS.below N).below D.2.2.2.2.2.2) I.nP).mono fun e w' O=>by
  obtain ⟨⟨u,d,e1,e2,e3,e4⟩,e5⟩:=O
  exact ⟨u,d,e1,e6.out w' u d e2 e3 e4,a0.out w' (D.2.2.2.2.2.2.trans (e5.mono D.2.2.2.2.2.2.size))⟩
 have h5:Hid (∀ V u d,Hid (Yn V b.f u d)->(V.cell? ⟨w.heap.size,0,none⟩=some (.int .i64 b.f.n)/\V.cell? ⟨w.heap.size,1,none⟩=some (.int .i64 b.f.k)/\V.cell? ⟨w.heap.size,2,none⟩=some (.slice p b.f.L.length K)/\V.cell? ⟨w.heap.size+1,0,none⟩=some (.int .i64 b.t.n)/\V.cell? ⟨w.heap.size+1,1,none⟩=some (.int .i64 b.t.k)/\V.cell? ⟨w.heap.size+1,2,none⟩=some (.slice q b.t.L.length M)/\Below y.heap.size y V)->Calls prog 9 #[.agg #[.int .i64 b.t.n,.int .i64 b.t.k,.slice q b.t.L.length M]] V fun e w'=>∃ u2 J,e=.returned (.agg #[.int .i64 b.t.n,.int .i64 b.t.k,.slice u2 b.t.L.length J])/\Hid (Yn w' b.f u d/\Yn w' b.t u2 J)/\(w'.cell? ⟨w.heap.size,0,none⟩=some (.int .i64 b.f.n)/\w'.cell? ⟨w.heap.size,1,none⟩=some (.int .i64 b.f.k)/\w'.cell? ⟨w.heap.size,2,none⟩=some (.slice p b.f.L.length K)/\w'.cell? ⟨w.heap.size+1,0,none⟩=some (.int .i64 b.t.n)/\w'.cell? ⟨w.heap.size+1,1,none⟩=some (.int .i64 b.t.k)/\w'.cell? ⟨w.heap.size+1,2,none⟩=some (.slice q b.t.L.length M)/\Below y.heap.size y w')):=fun V u d hC D=>(Zx b.t q M V (by omega) ((I.gW.below N).below D.2.2.2.2.2.2) I.nR).mono fun e w' O=>by
  obtain ⟨⟨u2,J,e1,e2,e3,e4⟩,e5⟩:=O
  exact ⟨u2,J,e1,⟨hC.out.below e5,e7.out w' u2 J e2 e3 e4⟩,a0.out w' (D.2.2.2.2.2.2.trans (e5.mono D.2.2.2.2.2.2.size))⟩
 have e8:Hid (∀ V,Below y.heap.size y V->Zp V ad/\X V):=fun V D=>I.ok (N.trans (D.mono N.size))
 have b3:Hid (∀ V u d u2 J,Hid (Yn V b.f u d/\Yn V b.t u2 J)->(V.cell? ⟨w.heap.size,0,none⟩=some (.int .i64 b.f.n)/\V.cell? ⟨w.heap.size,1,none⟩=some (.int .i64 b.f.k)/\V.cell? ⟨w.heap.size,2,none⟩=some (.slice p b.f.L.length K)/\V.cell? ⟨w.heap.size+1,0,none⟩=some (.int .i64 b.t.n)/\V.cell? ⟨w.heap.size+1,1,none⟩=some (.int .i64 b.t.k)/\V.cell? ⟨w.heap.size+1,2,none⟩=some (.slice q b.t.L.length M)/\Below y.heap.size y V)->Calls prog 24 #[.int .i64 b.op,.agg #[.int .i64 b.f.n,.int .i64 b.f.k,.slice u b.f.L.length d],.agg #[.int .i64 b.t.n,.int .i64 b.t.k,.slice u2 b.t.L.length J],.int .i64 b.config,.string b.key] V fun e w'=>∃ et eu,e=.returned (.tuple #[.pointer none,.iface et eu])/\Hid (Jd w' ad (.iface et eu) (lH b).1 (lH b).2)/\(w'.cell? ⟨w.heap.size,0,none⟩=some (.int .i64 b.f.n)/\w'.cell? ⟨w.heap.size,1,none⟩=some (.int .i64 b.f.k)/\w'.cell? ⟨w.heap.size,2,none⟩=some (.slice p b.f.L.length K)/\w'.cell? ⟨w.heap.size+1,0,none⟩=some (.int .i64 b.t.n)/\w'.cell? ⟨w.heap.size+1,1,none⟩=some (.int .i64 b.t.k)/\w'.cell? ⟨w.heap.size+1,2,none⟩=some (.slice q b.t.L.length M)/\Below y.heap.size y w')):=fun V u d u2 J hC D=>(hO.new b u d u2 J V hC.out.1 hC.out.2 (by omega) I.op I.config (e8.out V D.2.2.2.2.2.2).1 (e8.out V D.2.2.2.2.2.2).2).mono fun e w' O=>by
  obtain ⟨⟨ev,g1,g2⟩,g3⟩:=O
  obtain ⟨et,eu,rfl⟩:=g1.some h6
  rcases g2 with ⟨_,g4⟩ | ⟨g4,_⟩
  ·exact ⟨et,eu,g4,g1,a0.out w' (D.2.2.2.2.2.2.trans (g3.mono D.2.2.2.2.2.2.size))⟩
  ·exact absurd h6 g4
 have h7:Hid (∀ V,Below y.heap.size y V->Calls prog 25 #[.agg #[.int .i64 b.f.n,.int .i64 b.f.k,.slice p b.f.L.length K]] V fun e w'=>e=.returned (.agg #[.int .i64 (Jg b.f).1,.int .i64 (Jg b.f).2])/\Below V.heap.size V w'):=fun V D=>D0 b.f p K V (e6.out V p K ((I.eS.below N).below D) I.q9 I.nP)
 have h8:Hid (∀ V,Below y.heap.size y V->Calls prog 25 #[.agg #[.int .i64 b.t.n,.int .i64 b.t.k,.slice q b.t.L.length M]] V fun e w'=>e=.returned (.agg #[.int .i64 (Jg b.t).1,.int .i64 (Jg b.t).2])/\Below V.heap.size V w'):=fun V D=>D0 b.t q M V (e7.out V q M ((I.gW.below N).below D) I.pL I.nR)
 have h9:Hid (∀ V,Calls prog 26 #[.string b.key] V fun e w'=>e=.returned (.bool (Jo b.key))/\w'=V):=fun V=>R1 b.key V (by omega)
 have k3:Hid (∀ x V,Calls prog 27 #[.int .i64 x] V fun e w'=>e=.returned (.agg #[.int .i64 x,.int .i64 (-1)])/\Below V.heap.size V w'):=fun x V=>O0 x V
 have e9:Hid (∀ V et eu,Below y.heap.size y V->Hid (Jd V ad (.iface et eu) (lH b).1 (lH b).2)->Calls prog 12 #[.iface et eu,.agg #[.int .i64 (lH b).1,.int .i64 (lH b).2]] V fun e w'=>e=.returned (.bool true)/\Below y.heap.size y w'):=fun V et eu D he=>(WZ ad (.iface et eu) (lH b).1 (lH b).2 V (I.b8 V (N.trans (D.mono N.size))) he.out).mono fun e w' O=>⟨O.1,D.trans (O.2.mono D.size)⟩
 rw [h1] at d8
 rw [h2] at d9
 rw [h4] at e0
 have n3:decide ((100:Int) < (b.key.size:Int))=false:=decide_eq_false (by omega)
 rw [Ja4 g1 g2 g3 (fun hf=>by unfold lN.fits at hf;omega)] at e9 b3
 dsimp only at e9 b3
 have k4:Hid (∀ V,Below y.heap.size y V->Calls prog 25 #[.agg #[.int .i64 b.f.n,.int .i64 b.f.k,.slice p b.f.L.length K]] V fun e w'=>e=.returned (.agg #[.int .i64 0,.int .i64 (-1)])/\Below V.heap.size V w'):=by have:=h7;rw [(Xm g1).2.2.1] at this;exact this
 have k5:Hid (∀ V,Below y.heap.size y V->Calls prog 25 #[.agg #[.int .i64 b.t.n,.int .i64 b.t.k,.slice q b.t.L.length M]] V fun e w'=>e=.returned (.agg #[.int .i64 0,.int .i64 (-1)])/\Below V.heap.size V w'):=by have:=h8;rw [(Xm g2).2.2.1] at this;exact this
 rw [g3] at h9
 have n8:decide (b.op < 0)=false:=decide_eq_false g5
 have n9:decide (b.config < 0)=true:=decide_eq_true g7
 clear h7 h8 g1 g2 g3 g5 g7
 clear I hO b0 N j2 g0 g6 e6 e7 e8 j5 j6 j8 k2 h1 h2 h3 h4 h6
 go_enter func4,ntmps4
 go_wp2_with (first | rw [<- j3.out] | fail)
 refine g8.mono ?_
 rintro e w2 ⟨rfl,f3⟩
 obtain ⟨U,W,J,Y,Z,d5,_⟩:=a0.out w2 f3
 have k6:Hid (Below y.heap.size y w2):=f3
 clear f3 g8
 go_wp2_with fail
 refine (d8.out w2 k6.out).mono ?_
 rintro e w3 ⟨rfl,f4⟩
 clear U W J Y Z d5
 obtain ⟨U,W,J,Y,Z,d5,_⟩:=a0.out w3 f4
 have k7:Hid (Below y.heap.size y w3):=f4
 clear f4
 go_wp2_with fail
 refine (d9.out w3 k7.out).mono ?_
 rintro e w4 ⟨rfl,f5⟩
 clear U W J Y Z d5
 obtain ⟨U,W,J,Y,Z,d5,_⟩:=a0.out w4 f5
 have l0:Hid (Below y.heap.size y w4):=f5
 clear f5
 go_wp2_with fail
 refine (e0.out w4 l0.out).mono ?_
 rintro e w5 ⟨rfl,f6⟩
 clear U W J Y Z d5
 obtain ⟨U,W,J,Y,Z,d5,_⟩:=a0.out w5 f6
 have l1:Hid (Below y.heap.size y w5):=f6
 clear f6
 have i0:=a0.out w5.drew l1.out.drew
 clear U W J Y Z d5 d8 d9 e0
 go_wp2
 go_region_held3 (fun V=>(V.cell? ⟨w.heap.size,0,none⟩=some (.int .i64 b.f.n)/\V.cell? ⟨w.heap.size,1,none⟩=some (.int .i64 b.f.k)/\V.cell? ⟨w.heap.size,2,none⟩=some (.slice p b.f.L.length K)/\V.cell? ⟨w.heap.size+1,0,none⟩=some (.int .i64 b.t.n)/\V.cell? ⟨w.heap.size+1,1,none⟩=some (.int .i64 b.t.k)/\V.cell? ⟨w.heap.size+1,2,none⟩=some (.slice q b.t.L.length M)/\Below y.heap.size y V)) (first | assumption | exact i0) (first | (go_at_call 9;with_reducible refine (h0.out _ (by assumption)).mono ?_;rintro e w6 ⟨u6,d6,rfl,i1,l2⟩) | (go_at_call 9;with_reducible refine (h5.out _ _ _ i1 (by assumption)).mono ?_;rintro e w7 ⟨u7,d7,rfl,i2,l3⟩) | (go_at_call 24;refine (b3.out _ _ _ _ _ i2 (by assumption)).mono ?_;rintro e Q ⟨et,eu,rfl,l7,i3⟩))
 have a1:Hid (Below y.heap.size y Q):=i3.2.2.2.2.2.2
 obtain ⟨U,W,J,Y,Z,d5,_⟩:=i3
 have i4:=k4.out Q a1.out
 clear i0 i1 i2 l2 l3 h0 h5 b3
 go_wp2_with fail
 refine i4.mono ?_
 rintro e G ⟨rfl,b4⟩
 obtain ⟨a2,b5⟩:∃ a2,a2=G.alloc (.cells #[.int .i64 0,.int .i64 (-1)] 39):=⟨_,rfl⟩
 have b6:a2.heap[G.heap.size]?=some (.cells #[.int .i64 0,.int .i64 (-1)] 39 (0,0)):=by rw [b5];exact heap_alloc_new _ _
 have f7:Below Q.heap.size Q a2:=by rw [b5];exact b4.alloc b4.size _
 have b7:Hid (Q.heap.size<=G.heap.size):=b4.size
 have i5:Hid (a2.heap[G.heap.size]?=some (.cells #[.int .i64 0,.int .i64 (-1)] 39 (0,0))):=b6
 have k0:a2.cell? ⟨G.heap.size,0,none⟩=some (.int .i64 (0)):=(Ja b6 0).1
 have k1:a2.cell? ⟨G.heap.size,1,none⟩=some (.int .i64 ((-1))):=(Ja b6 1).1
 have f8:Hid (Below Q.heap.size Q a2):=f7
 have l8:Hid (a2=G.alloc (.cells #[.int .i64 0,.int .i64 (-1)] 39)):=b5
 clear U W J Y Z d5
 obtain ⟨U,W,J,Y,Z,d5,_⟩:=a0.out a2 (a1.out.trans (f7.mono a1.out.size))
 clear b5 b4 b6 f7 i4
 go_wp2_with (first | rw [<- l8.out] | fail)
 refine (k5.out a2 (a1.out.trans (f8.out.mono a1.out.size))).mono ?_
 rintro e b1 ⟨rfl,a8⟩
 clear k0 k1
 have a3:=(a8.block G.heap.size (L2 i5.out)).trans i5.out
 have k0:b1.cell? ⟨G.heap.size,0,none⟩=some (.int .i64 (0)):=(Ja a3 0).1
 have k1:b1.cell? ⟨G.heap.size,1,none⟩=some (.int .i64 (-1)):=(Ja a3 1).1
 have fz:∀ j,b1.frozen? ⟨G.heap.size,j,none⟩=false:=fun j=>(Ja a3 j).2
 obtain ⟨a4,a5⟩:∃ v,v=(b1.setCell ⟨G.heap.size,0,none⟩ (.int .i64 (0))).setCell ⟨G.heap.size,1,none⟩ (.int .i64 (-1)):=⟨_,rfl⟩
 have a6:a4.heap[G.heap.size]?=some (.cells #[.int .i64 (0),.int .i64 (-1)] 39 (0,0)):=by rw [a5];exact Qc (Qc a3 0 _) 1 _
 have a9:Below Q.heap.size Q a4:=by rw [a5];exact ((f8.out.trans (a8.mono f8.out.size)).setCell (p:=⟨G.heap.size,0,none⟩) b7.out _).setCell (p:=⟨G.heap.size,1,none⟩) b7.out _
 have m0:a4.cell? ⟨G.heap.size,0,none⟩=some (.int .i64 (0)):=(Ja a6 0).1
 have m1:a4.cell? ⟨G.heap.size,1,none⟩=some (.int .i64 (-1)):=(Ja a6 1).1
 have i7:Hid (a4.heap[G.heap.size]?=some (.cells #[.int .i64 (0),.int .i64 (-1)] 39 (0,0))):=a6
 have i8:Hid (Below Q.heap.size Q a4):=a9
 have l9:Hid (a4=(b1.setCell ⟨G.heap.size,0,none⟩ (.int .i64 (0))).setCell ⟨G.heap.size,1,none⟩ (.int .i64 (-1))):=a5
 clear U W J Y Z d5
 obtain ⟨U,W,J,Y,Z,d5,_⟩:=a0.out a4 (a1.out.trans (a9.mono a1.out.size))
 clear a5 a6 a9 a3 a8
 go_wp2_with (first | rw [<- l9.out] | fail)
 refine (h9.out a4).mono ?_
 rintro e m4 ⟨rfl,i9⟩
 rw [i9]
 clear i9 m4 k0 k1 fz
 go_wp2_with fail
 refine (k3.out 2 a4).mono ?_
 rintro e b2 ⟨rfl,a8⟩
 clear m0 m1
 have a3:=(a8.block G.heap.size (L2 i7.out)).trans i7.out
 have k0:b2.cell? ⟨G.heap.size,0,none⟩=some (.int .i64 (0)):=(Ja a3 0).1
 have k1:b2.cell? ⟨G.heap.size,1,none⟩=some (.int .i64 (-1)):=(Ja a3 1).1
 have fz:∀ j,b2.frozen? ⟨G.heap.size,j,none⟩=false:=fun j=>(Ja a3 j).2
 obtain ⟨a7,a5⟩:∃ v,v=(b2.setCell ⟨G.heap.size,0,none⟩ (.int .i64 (2))).setCell ⟨G.heap.size,1,none⟩ (.int .i64 (-1)):=⟨_,rfl⟩
 have a6:a7.heap[G.heap.size]?=some (.cells #[.int .i64 (2),.int .i64 (-1)] 39 (0,0)):=by rw [a5];exact Qc (Qc a3 0 _) 1 _
 have a9:Below Q.heap.size Q a7:=by rw [a5];exact ((i8.out.trans (a8.mono i8.out.size)).setCell (p:=⟨G.heap.size,0,none⟩) b7.out _).setCell (p:=⟨G.heap.size,1,none⟩) b7.out _
 have m0:a7.cell? ⟨G.heap.size,0,none⟩=some (.int .i64 (2)):=(Ja a6 0).1
 have m1:a7.cell? ⟨G.heap.size,1,none⟩=some (.int .i64 (-1)):=(Ja a6 1).1
 have m8:Hid (a7.heap[G.heap.size]?=some (.cells #[.int .i64 (2),.int .i64 (-1)] 39 (0,0))):=a6
 have j0:Hid (Below Q.heap.size Q a7):=a9
 have m5:Hid (a7=(b2.setCell ⟨G.heap.size,0,none⟩ (.int .i64 (2))).setCell ⟨G.heap.size,1,none⟩ (.int .i64 (-1))):=a5
 clear U W J Y Z d5
 obtain ⟨U,W,J,Y,Z,d5,_⟩:=a0.out a7 (a1.out.trans (a9.mono a1.out.size))
 clear a5 a6 a9 a3 a8
 go_wp2_with (first | rw [<- m5.out] | fail)
 have m6:=l7.out.below j0.out
 refine (e9.out a7 et eu (a1.out.trans (j0.out.mono a1.out.size)) m6).mono ?_
 rintro e w20 ⟨rfl,j1⟩
 have m7:Hid (Below w.heap.size w w20):=g9.out.trans (j1.mono g9.out.size)
 clear j1
 go_wp2
 go_ret
 exact ⟨rfl,m7.out⟩
theorem JbP (hO:Yr ad X Ck) (b:lN) (p:Option Addr) (K:Nat) (q:Option Addr) (M:Nat) (l:List Zb) (lp:Option Addr) (f9:Nat) (w:World) (I:z8 ad X b p K q M l lp w) (h1:Qk b.f=false) (h2:Qk b.t=false) (h3:¬ 100 < b.key.size) (h4:X5 l=true) (g1:¬ 0 < (Jg b.f).1) (g2:¬ 0 < (Jg b.t).1) (g3:Jo b.key=true) (g5:¬ b.op < 0) (g7:¬ b.config < 0) (g8:b.config=9223372036854775807):Calls prog 4 #[.int .i64 b.op,.agg #[.int .i64 b.f.n,.int .i64 b.f.k,.slice p b.f.L.length K],.agg #[.int .i64 b.t.n,.int .i64 b.t.k,.slice q b.t.L.length M],.int .i64 b.config,.string b.key,.slice lp l.length f9] w fun e w'=>e=.returned (.bool true)/\Below w.heap.size w w':=by
 have h6:0 < (lH b).1:=by rw [Ja4 g1 g2 g3 (fun hf=>by unfold lN.fits at hf;omega)];decide
 obtain ⟨y,b0⟩:∃ y,y=(w.alloc (.cells #[.int .i64 b.f.n,.int .i64 b.f.k,.slice p b.f.L.length K] 24)).alloc (.cells #[.int .i64 b.t.n,.int .i64 b.t.k,.slice q b.t.L.length M] 24):=⟨_,rfl⟩
 have N:Below w.heap.size w y:=by rw [b0];exact ((Below.refl _ _).alloc (Nat.le_refl _) _).alloc (by simp) _
 have j3:y.heap.size=w.heap.size+2:=by rw [b0];simp
 have g0:y.heap[w.heap.size]?=some (.cells #[.int .i64 b.f.n,.int .i64 b.f.k,.slice p b.f.L.length K] 24 (0,0)):=by rw [b0,heap_alloc_old _ _ (by simp)];exact heap_alloc_new _ _
 have g6:y.heap[w.heap.size+1]?=some (.cells #[.int .i64 b.t.n,.int .i64 b.t.k,.slice q b.t.L.length M] 24 (0,0)):=by
  have e:w.heap.size+1=(w.alloc (.cells #[.int .i64 b.f.n,.int .i64 b.f.k,.slice p b.f.L.length K] 24)).heap.size:=by simp
  rw [b0,e]
  exact heap_alloc_new _ _
 have a0:Hid (∀ V,Below y.heap.size y V->(V.cell? ⟨w.heap.size,0,none⟩=some (.int .i64 b.f.n)/\V.cell? ⟨w.heap.size,1,none⟩=some (.int .i64 b.f.k)/\V.cell? ⟨w.heap.size,2,none⟩=some (.slice p b.f.L.length K)/\V.cell? ⟨w.heap.size+1,0,none⟩=some (.int .i64 b.t.n)/\V.cell? ⟨w.heap.size+1,1,none⟩=some (.int .i64 b.t.k)/\V.cell? ⟨w.heap.size+1,2,none⟩=some (.slice q b.t.L.length M)/\Below y.heap.size y V)):=fun V D=>by
  have hF:=(D.block _ (by omega)).trans g0
  have hT:=(D.block _ (by omega)).trans g6
  exact ⟨(Ja hF 0).1,(Ja hF 1).1,(Ja hF 2).1,(Ja hT 0).1,(Ja hT 1).1,(Ja hT 2).1,D⟩
 have g9:=LW hO y (fun V D=>(I.ok (N.trans (D.mono N.size))).1) (fun V D=>(I.ok (N.trans (D.mono N.size))).2)
 have d8:Hid (∀ V,Below y.heap.size y V->Calls prog 6 #[.agg #[.int .i64 b.f.n,.int .i64 b.f.k,.slice p b.f.L.length K]] V fun e w'=>e=.returned (.bool (Qk b.f))/\Below y.heap.size y w'):=fun V D=>(Xh b.f p K V I.u4 I.oP ((I.eS.below N).below D)).mono fun e w' O=>⟨O.1,D.trans (O.2.mono D.size)⟩
 have d9:Hid (∀ V,Below y.heap.size y V->Calls prog 6 #[.agg #[.int .i64 b.t.n,.int .i64 b.t.k,.slice q b.t.L.length M]] V fun e w'=>e=.returned (.bool (Qk b.t))/\Below y.heap.size y w'):=fun V D=>(Xh b.t q M V I.r9 I.kH ((I.gW.below N).below D)).mono fun e w' O=>⟨O.1,D.trans (O.2.mono D.size)⟩
 have e0:Hid (∀ V,Below y.heap.size y V->Calls prog 7 #[.slice lp l.length f9] V fun e w'=>e=.returned (.bool (X5 l))/\Below y.heap.size y w'):=fun V D=>(Qy lp l f9 V I.sA ((I.msgs.below N).below D)).mono fun e w' O=>⟨O.1,D.trans (O.2.mono D.size)⟩
 have j5:Hid (y=(w.alloc (.cells #[.int .i64 b.f.n,.int .i64 b.f.k,.slice p b.f.L.length K] 24)).alloc (.cells #[.int .i64 b.t.n,.int .i64 b.t.k,.slice q b.t.L.length M] 24)):=b0
 have h0:Hid (Below w.heap.size w y):=N
 obtain ⟨j6,j8⟩:=X1 h1
 obtain ⟨k2,k3⟩:=X1 h2
 have e6:Hid (∀ V u d,Strs V u b.f.L->b.f.L.length<=d->(u=none->b.f.L=[]/\d=0)->Yn V b.f u d):=fun V u d g1 g2 g3=>C3 g1 g2 g3 h1 I.sT
 have e7:Hid (∀ V u d,Strs V u b.t.L->b.t.L.length<=d->(u=none->b.t.L=[]/\d=0)->Yn V b.t u d):=fun V u d g1 g2 g3=>C3 g1 g2 g3 h2 I.sZ
 have h5:Hid (∀ V,(V.cell? ⟨w.heap.size,0,none⟩=some (.int .i64 b.f.n)/\V.cell? ⟨w.heap.size,1,none⟩=some (.int .i64 b.f.k)/\V.cell? ⟨w.heap.size,2,none⟩=some (.slice p b.f.L.length K)/\V.cell? ⟨w.heap.size+1,0,none⟩=some (.int .i64 b.t.n)/\V.cell? ⟨w.heap.size+1,1,none⟩=some (.int .i64 b.t.k)/\V.cell? ⟨w.heap.size+1,2,none⟩=some (.slice q b.t.L.length M)/\Below y.heap.size y V)->Calls prog 9 #[.agg #[.int .i64 b.f.n,.int .i64 b.f.k,.slice p b.f.L.length K]] V fun e w'=>∃ u d,e=.returned (.agg #[.int .i64 b.f.n,.int .i64 b.f.k,.slice u b.f.L.length d])/\Hid (Yn w' b.f u d)/\(w'.cell? ⟨w.heap.size,0,none⟩=some (.int .i64 b.f.n)/\w'.cell? ⟨w.heap.size,1,none⟩=some (.int .i64 b.f.k)/\w'.cell? ⟨w.heap.size,2,none⟩=some (.slice p b.f.L.length K)/\w'.cell? ⟨w.heap.size+1,0,none⟩=some (.int .i64 b.t.n)/\w'.cell? ⟨w.heap.size+1,1,none⟩=some (.int .i64 b.t.k)/\w'.cell? ⟨w.heap.size+1,2,none⟩=some (.slice q b.t.L.length M)/\Below y.heap.size y w')):=fun V D=>(Zx b.f p K V (by omega) ((I.eS.below N).below D.2.2.2.2.2.2) I.nP).mono fun e w' O=>by
  obtain ⟨⟨u,d,e1,e2,e3,e4⟩,e5⟩:=O
  exact ⟨u,d,e1,e6.out w' u d e2 e3 e4,a0.out w' (D.2.2.2.2.2.2.trans (e5.mono D.2.2.2.2.2.2.size))⟩
 have h7:Hid (∀ V u d,Hid (Yn V b.f u d)->(V.cell? ⟨w.heap.size,0,none⟩=some (.int .i64 b.f.n)/\V.cell? ⟨w.heap.size,1,none⟩=some (.int .i64 b.f.k)/\V.cell? ⟨w.heap.size,2,none⟩=some (.slice p b.f.L.length K)/\V.cell? ⟨w.heap.size+1,0,none⟩=some (.int .i64 b.t.n)/\V.cell? ⟨w.heap.size+1,1,none⟩=some (.int .i64 b.t.k)/\V.cell? ⟨w.heap.size+1,2,none⟩=some (.slice q b.t.L.length M)/\Below y.heap.size y V)->Calls prog 9 #[.agg #[.int .i64 b.t.n,.int .i64 b.t.k,.slice q b.t.L.length M]] V fun e w'=>∃ u2 J,e=.returned (.agg #[.int .i64 b.t.n,.int .i64 b.t.k,.slice u2 b.t.L.length J])/\Hid (Yn w' b.f u d/\Yn w' b.t u2 J)/\(w'.cell? ⟨w.heap.size,0,none⟩=some (.int .i64 b.f.n)/\w'.cell? ⟨w.heap.size,1,none⟩=some (.int .i64 b.f.k)/\w'.cell? ⟨w.heap.size,2,none⟩=some (.slice p b.f.L.length K)/\w'.cell? ⟨w.heap.size+1,0,none⟩=some (.int .i64 b.t.n)/\w'.cell? ⟨w.heap.size+1,1,none⟩=some (.int .i64 b.t.k)/\w'.cell? ⟨w.heap.size+1,2,none⟩=some (.slice q b.t.L.length M)/\Below y.heap.size y w')):=fun V u d hC D=>(Zx b.t q M V (by omega) ((I.gW.below N).below D.2.2.2.2.2.2) I.nR).mono fun e w' O=>by
  obtain ⟨⟨u2,J,e1,e2,e3,e4⟩,e5⟩:=O
  exact ⟨u2,J,e1,⟨hC.out.below e5,e7.out w' u2 J e2 e3 e4⟩,a0.out w' (D.2.2.2.2.2.2.trans (e5.mono D.2.2.2.2.2.2.size))⟩
 have e8:Hid (∀ V,Below y.heap.size y V->Zp V ad/\X V):=fun V D=>I.ok (N.trans (D.mono N.size))
 have b3:Hid (∀ V u d u2 J,Hid (Yn V b.f u d/\Yn V b.t u2 J)->(V.cell? ⟨w.heap.size,0,none⟩=some (.int .i64 b.f.n)/\V.cell? ⟨w.heap.size,1,none⟩=some (.int .i64 b.f.k)/\V.cell? ⟨w.heap.size,2,none⟩=some (.slice p b.f.L.length K)/\V.cell? ⟨w.heap.size+1,0,none⟩=some (.int .i64 b.t.n)/\V.cell? ⟨w.heap.size+1,1,none⟩=some (.int .i64 b.t.k)/\V.cell? ⟨w.heap.size+1,2,none⟩=some (.slice q b.t.L.length M)/\Below y.heap.size y V)->Calls prog 24 #[.int .i64 b.op,.agg #[.int .i64 b.f.n,.int .i64 b.f.k,.slice u b.f.L.length d],.agg #[.int .i64 b.t.n,.int .i64 b.t.k,.slice u2 b.t.L.length J],.int .i64 b.config,.string b.key] V fun e w'=>∃ et eu,e=.returned (.tuple #[.pointer none,.iface et eu])/\Hid (Jd w' ad (.iface et eu) (lH b).1 (lH b).2)/\(w'.cell? ⟨w.heap.size,0,none⟩=some (.int .i64 b.f.n)/\w'.cell? ⟨w.heap.size,1,none⟩=some (.int .i64 b.f.k)/\w'.cell? ⟨w.heap.size,2,none⟩=some (.slice p b.f.L.length K)/\w'.cell? ⟨w.heap.size+1,0,none⟩=some (.int .i64 b.t.n)/\w'.cell? ⟨w.heap.size+1,1,none⟩=some (.int .i64 b.t.k)/\w'.cell? ⟨w.heap.size+1,2,none⟩=some (.slice q b.t.L.length M)/\Below y.heap.size y w')):=fun V u d u2 J hC D=>(hO.new b u d u2 J V hC.out.1 hC.out.2 (by omega) I.op I.config (e8.out V D.2.2.2.2.2.2).1 (e8.out V D.2.2.2.2.2.2).2).mono fun e w' O=>by
  obtain ⟨⟨ev,g1,g2⟩,g3⟩:=O
  obtain ⟨et,eu,rfl⟩:=g1.some h6
  rcases g2 with ⟨_,g4⟩ | ⟨g4,_⟩
  ·exact ⟨et,eu,g4,g1,a0.out w' (D.2.2.2.2.2.2.trans (g3.mono D.2.2.2.2.2.2.size))⟩
  ·exact absurd h6 g4
 have h8:Hid (∀ V,Below y.heap.size y V->Calls prog 25 #[.agg #[.int .i64 b.f.n,.int .i64 b.f.k,.slice p b.f.L.length K]] V fun e w'=>e=.returned (.agg #[.int .i64 (Jg b.f).1,.int .i64 (Jg b.f).2])/\Below V.heap.size V w'):=fun V D=>D0 b.f p K V (e6.out V p K ((I.eS.below N).below D) I.q9 I.nP)
 have h9:Hid (∀ V,Below y.heap.size y V->Calls prog 25 #[.agg #[.int .i64 b.t.n,.int .i64 b.t.k,.slice q b.t.L.length M]] V fun e w'=>e=.returned (.agg #[.int .i64 (Jg b.t).1,.int .i64 (Jg b.t).2])/\Below V.heap.size V w'):=fun V D=>D0 b.t q M V (e7.out V q M ((I.gW.below N).below D) I.pL I.nR)
 have i0:Hid (∀ V,Calls prog 26 #[.string b.key] V fun e w'=>e=.returned (.bool (Jo b.key))/\w'=V):=fun V=>R1 b.key V (by omega)
 have k4:Hid (∀ x V,Calls prog 27 #[.int .i64 x] V fun e w'=>e=.returned (.agg #[.int .i64 x,.int .i64 (-1)])/\Below V.heap.size V w'):=fun x V=>O0 x V
 have e9:Hid (∀ V et eu,Below y.heap.size y V->Hid (Jd V ad (.iface et eu) (lH b).1 (lH b).2)->Calls prog 12 #[.iface et eu,.agg #[.int .i64 (lH b).1,.int .i64 (lH b).2]] V fun e w'=>e=.returned (.bool true)/\Below y.heap.size y w'):=fun V et eu D he=>(WZ ad (.iface et eu) (lH b).1 (lH b).2 V (I.b8 V (N.trans (D.mono N.size))) he.out).mono fun e w' O=>⟨O.1,D.trans (O.2.mono D.size)⟩
 rw [h1] at d8
 rw [h2] at d9
 rw [h4] at e0
 have n3:decide ((100:Int) < (b.key.size:Int))=false:=decide_eq_false (by omega)
 rw [Ja4 g1 g2 g3 (fun hf=>by unfold lN.fits at hf;omega)] at e9 b3
 dsimp only at e9 b3
 have k5:Hid (∀ V,Below y.heap.size y V->Calls prog 25 #[.agg #[.int .i64 b.f.n,.int .i64 b.f.k,.slice p b.f.L.length K]] V fun e w'=>e=.returned (.agg #[.int .i64 0,.int .i64 (-1)])/\Below V.heap.size V w'):=by have:=h8;rw [(Xm g1).2.2.1] at this;exact this
 have k6:Hid (∀ V,Below y.heap.size y V->Calls prog 25 #[.agg #[.int .i64 b.t.n,.int .i64 b.t.k,.slice q b.t.L.length M]] V fun e w'=>e=.returned (.agg #[.int .i64 0,.int .i64 (-1)])/\Below V.heap.size V w'):=by have:=h9;rw [(Xm g2).2.2.1] at this;exact this
 rw [g3] at i0
 have n8:decide (b.op < 0)=false:=decide_eq_false g5
 have n9:decide (b.config < 0)=false:=decide_eq_false g7
 have m9:(b.config==9223372036854775807)=true:=by rw [g8];decide
 clear h8 h9 g1 g2 g3 g5 g7 g8
 clear I hO b0 N j3 g0 g6 e6 e7 e8 j6 j8 k2 k3 h1 h2 h3 h4 h6
 go_enter func4,ntmps4
 go_wp2_with (first | rw [<- j5.out] | fail)
 refine g9.mono ?_
 rintro e w2 ⟨rfl,f3⟩
 obtain ⟨U,W,J,Y,Z,d5,_⟩:=a0.out w2 f3
 have k7:Hid (Below y.heap.size y w2):=f3
 clear f3 g9
 go_wp2_with fail
 refine (d8.out w2 k7.out).mono ?_
 rintro e w3 ⟨rfl,f4⟩
 clear U W J Y Z d5
 obtain ⟨U,W,J,Y,Z,d5,_⟩:=a0.out w3 f4
 have l0:Hid (Below y.heap.size y w3):=f4
 clear f4
 go_wp2_with fail
 refine (d9.out w3 l0.out).mono ?_
 rintro e w4 ⟨rfl,f5⟩
 clear U W J Y Z d5
 obtain ⟨U,W,J,Y,Z,d5,_⟩:=a0.out w4 f5
 have l1:Hid (Below y.heap.size y w4):=f5
 clear f5
 go_wp2_with fail
 refine (e0.out w4 l1.out).mono ?_
 rintro e w5 ⟨rfl,f6⟩
 clear U W J Y Z d5
 obtain ⟨U,W,J,Y,Z,d5,_⟩:=a0.out w5 f6
 have l2:Hid (Below y.heap.size y w5):=f6
 clear f6
 have i1:=a0.out w5.drew l2.out.drew
 clear U W J Y Z d5 d8 d9 e0
 go_wp2
 go_region_held3 (fun V=>(V.cell? ⟨w.heap.size,0,none⟩=some (.int .i64 b.f.n)/\V.cell? ⟨w.heap.size,1,none⟩=some (.int .i64 b.f.k)/\V.cell? ⟨w.heap.size,2,none⟩=some (.slice p b.f.L.length K)/\V.cell? ⟨w.heap.size+1,0,none⟩=some (.int .i64 b.t.n)/\V.cell? ⟨w.heap.size+1,1,none⟩=some (.int .i64 b.t.k)/\V.cell? ⟨w.heap.size+1,2,none⟩=some (.slice q b.t.L.length M)/\Below y.heap.size y V)) (first | assumption | exact i1) (first | (go_at_call 9;with_reducible refine (h5.out _ (by assumption)).mono ?_;rintro e w6 ⟨u6,d6,rfl,i2,l3⟩) | (go_at_call 9;with_reducible refine (h7.out _ _ _ i2 (by assumption)).mono ?_;rintro e w7 ⟨u7,d7,rfl,i3,l7⟩) | (go_at_call 24;refine (b3.out _ _ _ _ _ i3 (by assumption)).mono ?_;rintro e Q ⟨et,eu,rfl,l8,i4⟩))
 have a1:Hid (Below y.heap.size y Q):=i4.2.2.2.2.2.2
 obtain ⟨U,W,J,Y,Z,d5,_⟩:=i4
 have i5:=k5.out Q a1.out
 clear i1 i2 i3 l3 l7 h5 h7 b3
 go_wp2_with fail
 refine i5.mono ?_
 rintro e G ⟨rfl,b4⟩
 obtain ⟨a2,b5⟩:∃ a2,a2=G.alloc (.cells #[.int .i64 0,.int .i64 (-1)] 39):=⟨_,rfl⟩
 have b6:a2.heap[G.heap.size]?=some (.cells #[.int .i64 0,.int .i64 (-1)] 39 (0,0)):=by rw [b5];exact heap_alloc_new _ _
 have f7:Below Q.heap.size Q a2:=by rw [b5];exact b4.alloc b4.size _
 have b7:Hid (Q.heap.size<=G.heap.size):=b4.size
 have i7:Hid (a2.heap[G.heap.size]?=some (.cells #[.int .i64 0,.int .i64 (-1)] 39 (0,0))):=b6
 have k0:a2.cell? ⟨G.heap.size,0,none⟩=some (.int .i64 (0)):=(Ja b6 0).1
 have k1:a2.cell? ⟨G.heap.size,1,none⟩=some (.int .i64 ((-1))):=(Ja b6 1).1
 have f8:Hid (Below Q.heap.size Q a2):=f7
 have l9:Hid (a2=G.alloc (.cells #[.int .i64 0,.int .i64 (-1)] 39)):=b5
 clear U W J Y Z d5
 obtain ⟨U,W,J,Y,Z,d5,_⟩:=a0.out a2 (a1.out.trans (f7.mono a1.out.size))
 clear b5 b4 b6 f7 i5
 go_wp2_with (first | rw [<- l9.out] | fail)
 refine (k6.out a2 (a1.out.trans (f8.out.mono a1.out.size))).mono ?_
 rintro e b1 ⟨rfl,a8⟩
 clear k0 k1
 have a3:=(a8.block G.heap.size (L2 i7.out)).trans i7.out
 have k0:b1.cell? ⟨G.heap.size,0,none⟩=some (.int .i64 (0)):=(Ja a3 0).1
 have k1:b1.cell? ⟨G.heap.size,1,none⟩=some (.int .i64 (-1)):=(Ja a3 1).1
 have fz:∀ j,b1.frozen? ⟨G.heap.size,j,none⟩=false:=fun j=>(Ja a3 j).2
 obtain ⟨a4,a5⟩:∃ v,v=(b1.setCell ⟨G.heap.size,0,none⟩ (.int .i64 (0))).setCell ⟨G.heap.size,1,none⟩ (.int .i64 (-1)):=⟨_,rfl⟩
 have a6:a4.heap[G.heap.size]?=some (.cells #[.int .i64 (0),.int .i64 (-1)] 39 (0,0)):=by rw [a5];exact Qc (Qc a3 0 _) 1 _
 have a9:Below Q.heap.size Q a4:=by rw [a5];exact ((f8.out.trans (a8.mono f8.out.size)).setCell (p:=⟨G.heap.size,0,none⟩) b7.out _).setCell (p:=⟨G.heap.size,1,none⟩) b7.out _
 have m0:a4.cell? ⟨G.heap.size,0,none⟩=some (.int .i64 (0)):=(Ja a6 0).1
 have m1:a4.cell? ⟨G.heap.size,1,none⟩=some (.int .i64 (-1)):=(Ja a6 1).1
 have i8:Hid (a4.heap[G.heap.size]?=some (.cells #[.int .i64 (0),.int .i64 (-1)] 39 (0,0))):=a6
 have i9:Hid (Below Q.heap.size Q a4):=a9
 have m4:Hid (a4=(b1.setCell ⟨G.heap.size,0,none⟩ (.int .i64 (0))).setCell ⟨G.heap.size,1,none⟩ (.int .i64 (-1))):=a5
 clear U W J Y Z d5
 obtain ⟨U,W,J,Y,Z,d5,_⟩:=a0.out a4 (a1.out.trans (a9.mono a1.out.size))
 clear a5 a6 a9 a3 a8
 go_wp2_with (first | rw [<- m4.out] | fail)
 refine (i0.out a4).mono ?_
 rintro e m5 ⟨rfl,j0⟩
 rw [j0]
 clear j0 m5 k0 k1 fz
 go_wp2_with fail
 refine (k4.out 2 a4).mono ?_
 rintro e b2 ⟨rfl,a8⟩
 clear m0 m1
 have a3:=(a8.block G.heap.size (L2 i8.out)).trans i8.out
 have k0:b2.cell? ⟨G.heap.size,0,none⟩=some (.int .i64 (0)):=(Ja a3 0).1
 have k1:b2.cell? ⟨G.heap.size,1,none⟩=some (.int .i64 (-1)):=(Ja a3 1).1
 have fz:∀ j,b2.frozen? ⟨G.heap.size,j,none⟩=false:=fun j=>(Ja a3 j).2
 obtain ⟨a7,a5⟩:∃ v,v=(b2.setCell ⟨G.heap.size,0,none⟩ (.int .i64 (2))).setCell ⟨G.heap.size,1,none⟩ (.int .i64 (-1)):=⟨_,rfl⟩
 have a6:a7.heap[G.heap.size]?=some (.cells #[.int .i64 (2),.int .i64 (-1)] 39 (0,0)):=by rw [a5];exact Qc (Qc a3 0 _) 1 _
 have a9:Below Q.heap.size Q a7:=by rw [a5];exact ((i9.out.trans (a8.mono i9.out.size)).setCell (p:=⟨G.heap.size,0,none⟩) b7.out _).setCell (p:=⟨G.heap.size,1,none⟩) b7.out _
 have m0:a7.cell? ⟨G.heap.size,0,none⟩=some (.int .i64 (2)):=(Ja a6 0).1
 have m1:a7.cell? ⟨G.heap.size,1,none⟩=some (.int .i64 (-1)):=(Ja a6 1).1
 have n0:Hid (a7.heap[G.heap.size]?=some (.cells #[.int .i64 (2),.int .i64 (-1)] 39 (0,0))):=a6
 have j1:Hid (Below Q.heap.size Q a7):=a9
 have m6:Hid (a7=(b2.setCell ⟨G.heap.size,0,none⟩ (.int .i64 (2))).setCell ⟨G.heap.size,1,none⟩ (.int .i64 (-1))):=a5
 clear U W J Y Z d5
 obtain ⟨U,W,J,Y,Z,d5,_⟩:=a0.out a7 (a1.out.trans (a9.mono a1.out.size))
 clear a5 a6 a9 a3 a8
 go_wp2_with (first | rw [<- m6.out] | fail)
 have m7:=l8.out.below j1.out
 refine (e9.out a7 et eu (a1.out.trans (j1.out.mono a1.out.size)) m7).mono ?_
 rintro e w20 ⟨rfl,j2⟩
 have m8:Hid (Below w.heap.size w w20):=h0.out.trans (j2.mono h0.out.size)
 clear j2
 go_wp2
 go_ret
 exact ⟨rfl,m8.out⟩
end
end Go.Proofs.YtmikbldbfnlfjaaGreatDoor
