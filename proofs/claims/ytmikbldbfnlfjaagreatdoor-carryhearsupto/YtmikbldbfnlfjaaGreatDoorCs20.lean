/- Texts laid together. -/
import Derived.Test.YtmikbldbfnlfjaaGreatDoorCs19
set_option maxRecDepth 10000
set_option maxHeartbeats 16000000
namespace Go.Proofs.YtmikbldbfnlfjaaGreatDoor
open Go.Proofs.Tryz
open Go.RowKit
section
variable {ad:Nat->Addr} {X:World->Prop} {Ck:World->Nat->Nat->(Nat->Prop)->Za->Prop}
theorem Jb0 (hO:Yr ad X Ck) (b:lN) (p:Option Addr) (M:Nat) (q:Option Addr) (D:Nat) (l:List Zb) (lp:Option Addr) (o7:Nat) (w:World) (G:z8 ad X b p M q D l lp w) (h1:Qk b.f=false) (h2:Qk b.t=false) (h3:¬ 100 < b.key.size) (h4:X5 l=true) (g1:¬ 0 < (Jg b.f).1) (g2:¬ 0 < (Jg b.t).1) (g3:Jo b.key=true) (g4:b.fits):Calls prog 4 #[.int .i64 b.op,.agg #[.int .i64 b.f.n,.int .i64 b.f.k,.slice p b.f.L.length M],.agg #[.int .i64 b.t.n,.int .i64 b.t.k,.slice q b.t.L.length D],.int .i64 b.config,.string b.key,.slice lp l.length o7] w fun e w'=>e=.returned (.bool true)/\Below w.heap.size w w':=by
 have j1:=JeH g1 g2 g3 g4
 have h6:¬ 0 < (lH b).1:=by rw [j1];decide
 obtain ⟨y,b4⟩:∃ y,y=(w.alloc (.cells #[.int .i64 b.f.n,.int .i64 b.f.k,.slice p b.f.L.length M] 24)).alloc (.cells #[.int .i64 b.t.n,.int .i64 b.t.k,.slice q b.t.L.length D] 24):=⟨_,rfl⟩
 have a1:Below w.heap.size w y:=by rw [b4];exact ((Below.refl _ _).alloc (Nat.le_refl _) _).alloc (by simp) _
 have y2:y.heap.size=w.heap.size+2:=by rw [b4];simp
 have o9:y.heap[w.heap.size]?=some (.cells #[.int .i64 b.f.n,.int .i64 b.f.k,.slice p b.f.L.length M] 24 (0,0)):=by rw [b4,heap_alloc_old _ _ (by simp)];exact heap_alloc_new _ _
 have p0:y.heap[w.heap.size+1]?=some (.cells #[.int .i64 b.t.n,.int .i64 b.t.k,.slice q b.t.L.length D] 24 (0,0)):=by
  have e:w.heap.size+1=(w.alloc (.cells #[.int .i64 b.f.n,.int .i64 b.f.k,.slice p b.f.L.length M] 24)).heap.size:=by simp
  rw [b4,e]
  exact heap_alloc_new _ _
 have a9:Hid (∀ V,Below y.heap.size y V->(V.cell? ⟨w.heap.size,0,none⟩=some (.int .i64 b.f.n)/\V.cell? ⟨w.heap.size,1,none⟩=some (.int .i64 b.f.k)/\V.cell? ⟨w.heap.size,2,none⟩=some (.slice p b.f.L.length M)/\V.cell? ⟨w.heap.size+1,0,none⟩=some (.int .i64 b.t.n)/\V.cell? ⟨w.heap.size+1,1,none⟩=some (.int .i64 b.t.k)/\V.cell? ⟨w.heap.size+1,2,none⟩=some (.slice q b.t.L.length D)/\Below y.heap.size y V)):=fun V I=>by
  have hF:=(I.block _ (by omega)).trans o9
  have hT:=(I.block _ (by omega)).trans p0
  exact ⟨(Ja hF 0).1,(Ja hF 1).1,(Ja hF 2).1,(Ja hT 0).1,(Ja hT 1).1,(Ja hT 2).1,I⟩
 have p5:=LW hO y (fun V I=>(G.ok (a1.trans (I.mono a1.size))).1) (fun V I=>(G.ok (a1.trans (I.mono a1.size))).2)
 have j2:Hid (∀ V,Below y.heap.size y V->Calls prog 6 #[.agg #[.int .i64 b.f.n,.int .i64 b.f.k,.slice p b.f.L.length M]] V fun e w'=>e=.returned (.bool (Qk b.f))/\Below y.heap.size y w'):=fun V I=>(Xh b.f p M V G.u4 G.oP ((G.eS.below a1).below I)).mono fun e w' hq=>⟨hq.1,I.trans (hq.2.mono I.size)⟩
 have j3:Hid (∀ V,Below y.heap.size y V->Calls prog 6 #[.agg #[.int .i64 b.t.n,.int .i64 b.t.k,.slice q b.t.L.length D]] V fun e w'=>e=.returned (.bool (Qk b.t))/\Below y.heap.size y w'):=fun V I=>(Xh b.t q D V G.r9 G.kH ((G.gW.below a1).below I)).mono fun e w' hq=>⟨hq.1,I.trans (hq.2.mono I.size)⟩
 have j5:Hid (∀ V,Below y.heap.size y V->Calls prog 7 #[.slice lp l.length o7] V fun e w'=>e=.returned (.bool (X5 l))/\Below y.heap.size y w'):=fun V I=>(Qy lp l o7 V G.sA ((G.msgs.below a1).below I)).mono fun e w' hq=>⟨hq.1,I.trans (hq.2.mono I.size)⟩
 have y3:Hid (y=(w.alloc (.cells #[.int .i64 b.f.n,.int .i64 b.f.k,.slice p b.f.L.length M] 24)).alloc (.cells #[.int .i64 b.t.n,.int .i64 b.t.k,.slice q b.t.L.length D] 24)):=b4
 have j6:Hid (Below w.heap.size w y):=a1
 obtain ⟨p6,y4⟩:=X1 h1
 obtain ⟨y5,y6⟩:=X1 h2
 have j8:Hid (∀ V u d,Strs V u b.f.L->b.f.L.length<=d->(u=none->b.f.L=[]/\d=0)->Yn V b.f u d):=fun V u d g1 g2 g3=>C3 g1 g2 g3 h1 G.sT
 have k2:Hid (∀ V u d,Strs V u b.t.L->b.t.L.length<=d->(u=none->b.t.L=[]/\d=0)->Yn V b.t u d):=fun V u d g1 g2 g3=>C3 g1 g2 g3 h2 G.sZ
 have p7:Hid (∀ V,(V.cell? ⟨w.heap.size,0,none⟩=some (.int .i64 b.f.n)/\V.cell? ⟨w.heap.size,1,none⟩=some (.int .i64 b.f.k)/\V.cell? ⟨w.heap.size,2,none⟩=some (.slice p b.f.L.length M)/\V.cell? ⟨w.heap.size+1,0,none⟩=some (.int .i64 b.t.n)/\V.cell? ⟨w.heap.size+1,1,none⟩=some (.int .i64 b.t.k)/\V.cell? ⟨w.heap.size+1,2,none⟩=some (.slice q b.t.L.length D)/\Below y.heap.size y V)->Calls prog 9 #[.agg #[.int .i64 b.f.n,.int .i64 b.f.k,.slice p b.f.L.length M]] V fun e w'=>∃ u d,e=.returned (.agg #[.int .i64 b.f.n,.int .i64 b.f.k,.slice u b.f.L.length d])/\Hid (Yn w' b.f u d)/\(w'.cell? ⟨w.heap.size,0,none⟩=some (.int .i64 b.f.n)/\w'.cell? ⟨w.heap.size,1,none⟩=some (.int .i64 b.f.k)/\w'.cell? ⟨w.heap.size,2,none⟩=some (.slice p b.f.L.length M)/\w'.cell? ⟨w.heap.size+1,0,none⟩=some (.int .i64 b.t.n)/\w'.cell? ⟨w.heap.size+1,1,none⟩=some (.int .i64 b.t.k)/\w'.cell? ⟨w.heap.size+1,2,none⟩=some (.slice q b.t.L.length D)/\Below y.heap.size y w')):=fun V I=>(Zx b.f p M V (by omega) ((G.eS.below a1).below I.2.2.2.2.2.2) G.nP).mono fun e w' hq=>by
  obtain ⟨⟨u,d,e1,e2,e3,e4⟩,e5⟩:=hq
  exact ⟨u,d,e1,j8.out w' u d e2 e3 e4,a9.out w' (I.2.2.2.2.2.2.trans (e5.mono I.2.2.2.2.2.2.size))⟩
 have p8:Hid (∀ V u d,Hid (Yn V b.f u d)->(V.cell? ⟨w.heap.size,0,none⟩=some (.int .i64 b.f.n)/\V.cell? ⟨w.heap.size,1,none⟩=some (.int .i64 b.f.k)/\V.cell? ⟨w.heap.size,2,none⟩=some (.slice p b.f.L.length M)/\V.cell? ⟨w.heap.size+1,0,none⟩=some (.int .i64 b.t.n)/\V.cell? ⟨w.heap.size+1,1,none⟩=some (.int .i64 b.t.k)/\V.cell? ⟨w.heap.size+1,2,none⟩=some (.slice q b.t.L.length D)/\Below y.heap.size y V)->Calls prog 9 #[.agg #[.int .i64 b.t.n,.int .i64 b.t.k,.slice q b.t.L.length D]] V fun e w'=>∃ u2 O,e=.returned (.agg #[.int .i64 b.t.n,.int .i64 b.t.k,.slice u2 b.t.L.length O])/\Hid (Yn w' b.f u d/\Yn w' b.t u2 O)/\(w'.cell? ⟨w.heap.size,0,none⟩=some (.int .i64 b.f.n)/\w'.cell? ⟨w.heap.size,1,none⟩=some (.int .i64 b.f.k)/\w'.cell? ⟨w.heap.size,2,none⟩=some (.slice p b.f.L.length M)/\w'.cell? ⟨w.heap.size+1,0,none⟩=some (.int .i64 b.t.n)/\w'.cell? ⟨w.heap.size+1,1,none⟩=some (.int .i64 b.t.k)/\w'.cell? ⟨w.heap.size+1,2,none⟩=some (.slice q b.t.L.length D)/\Below y.heap.size y w')):=fun V u d hC I=>(Zx b.t q D V (by omega) ((G.gW.below a1).below I.2.2.2.2.2.2) G.nR).mono fun e w' hq=>by
  obtain ⟨⟨u2,O,e1,e2,e3,e4⟩,e5⟩:=hq
  exact ⟨u2,O,e1,⟨hC.out.below e5,k2.out w' u2 O e2 e3 e4⟩,a9.out w' (I.2.2.2.2.2.2.trans (e5.mono I.2.2.2.2.2.2.size))⟩
 have k3:Hid (∀ V,Below y.heap.size y V->Zp V ad/\X V):=fun V I=>G.ok (a1.trans (I.mono a1.size))
 have p9:Hid (∀ V u d u2 O,Hid (Yn V b.f u d/\Yn V b.t u2 O)->(V.cell? ⟨w.heap.size,0,none⟩=some (.int .i64 b.f.n)/\V.cell? ⟨w.heap.size,1,none⟩=some (.int .i64 b.f.k)/\V.cell? ⟨w.heap.size,2,none⟩=some (.slice p b.f.L.length M)/\V.cell? ⟨w.heap.size+1,0,none⟩=some (.int .i64 b.t.n)/\V.cell? ⟨w.heap.size+1,1,none⟩=some (.int .i64 b.t.k)/\V.cell? ⟨w.heap.size+1,2,none⟩=some (.slice q b.t.L.length D)/\Below y.heap.size y V)->Calls prog 24 #[.int .i64 b.op,.agg #[.int .i64 b.f.n,.int .i64 b.f.k,.slice u b.f.L.length d],.agg #[.int .i64 b.t.n,.int .i64 b.t.k,.slice u2 b.t.L.length O],.int .i64 b.config,.string b.key] V fun e w'=>∃ h,e=.returned (.tuple #[.pointer (some ⟨h,0,none⟩),.nilIface])/\Hid (CkB Ck w w' h b.mover)/\(w'.cell? ⟨w.heap.size,0,none⟩=some (.int .i64 b.f.n)/\w'.cell? ⟨w.heap.size,1,none⟩=some (.int .i64 b.f.k)/\w'.cell? ⟨w.heap.size,2,none⟩=some (.slice p b.f.L.length M)/\w'.cell? ⟨w.heap.size+1,0,none⟩=some (.int .i64 b.t.n)/\w'.cell? ⟨w.heap.size+1,1,none⟩=some (.int .i64 b.t.k)/\w'.cell? ⟨w.heap.size+1,2,none⟩=some (.slice q b.t.L.length D)/\Below y.heap.size y w')):=fun V u d u2 O hC I=>(hO.new b u d u2 O V hC.out.1 hC.out.2 (by omega) G.op G.config (k3.out V I.2.2.2.2.2.2).1 (k3.out V I.2.2.2.2.2.2).2).mono fun e w' hq=>by
  obtain ⟨⟨ev,g1,g2⟩,g3⟩:=hq
  have k4:=I.2.2.2.2.2.2
  rcases g2 with ⟨g4,_⟩ | ⟨_,h,S,g4,g5⟩
  ·exact absurd g4 h6
  ·rw [j1] at g1
   have:=g1.isNil
   subst this
   exact ⟨h,g4,⟨V.heap.size,S,g5,g3.size,by have:=k4.size;omega⟩,a9.out w' (k4.trans (g3.mono k4.size))⟩
 have q0:Hid (∀ V,Below y.heap.size y V->Calls prog 25 #[.agg #[.int .i64 b.f.n,.int .i64 b.f.k,.slice p b.f.L.length M]] V fun e w'=>e=.returned (.agg #[.int .i64 (Jg b.f).1,.int .i64 (Jg b.f).2])/\Below V.heap.size V w'):=fun V I=>D0 b.f p M V (j8.out V p M ((G.eS.below a1).below I) G.q9 G.nP)
 have q5:Hid (∀ V,Below y.heap.size y V->Calls prog 25 #[.agg #[.int .i64 b.t.n,.int .i64 b.t.k,.slice q b.t.L.length D]] V fun e w'=>e=.returned (.agg #[.int .i64 (Jg b.t).1,.int .i64 (Jg b.t).2])/\Below V.heap.size V w'):=fun V I=>D0 b.t q D V (k2.out V q D ((G.gW.below a1).below I) G.pL G.nR)
 have q6:Hid (∀ V,Calls prog 26 #[.string b.key] V fun e w'=>e=.returned (.bool (Jo b.key))/\w'=V):=fun V=>R1 b.key V (by omega)
 have E0:Hid (∀ x V,Calls prog 27 #[.int .i64 x] V fun e w'=>e=.returned (.agg #[.int .i64 x,.int .i64 (-1)])/\Below V.heap.size V w'):=fun x V=>O0 x V
 rw [h1] at j2
 rw [h2] at j3
 rw [h4] at j5
 rw [g3] at q6
 have n3:decide ((100:Int) < (b.key.size:Int))=false:=decide_eq_false (by omega)
 have n8:decide (b.op < 0)=false:=decide_eq_false (by have:=g4.1;omega)
 have n9:decide (b.config < 0)=false:=decide_eq_false (by have:=g4.2.1;omega)
 have E4:(b.config==9223372036854775807)=false:=by have:=g4.2.2;simp;omega
 have y7:Hid (∀ V,Below y.heap.size y V->Calls prog 25 #[.agg #[.int .i64 b.f.n,.int .i64 b.f.k,.slice p b.f.L.length M]] V fun e w'=>e=.returned (.agg #[.int .i64 0,.int .i64 (-1)])/\Below V.heap.size V w'):=by have:=q0;rw [(Xm g1).2.2.1] at this;exact this
 have y8:Hid (∀ V,Below y.heap.size y V->Calls prog 25 #[.agg #[.int .i64 b.t.n,.int .i64 b.t.k,.slice q b.t.L.length D]] V fun e w'=>e=.returned (.agg #[.int .i64 0,.int .i64 (-1)])/\Below V.heap.size V w'):=by have:=q5;rw [(Xm g2).2.2.1] at this;exact this
 obtain ⟨⟨p1,p2,p3⟩,p4,_⟩:=Xm g1
 obtain ⟨⟨q1,q2,q3⟩,q4,_⟩:=Xm g2
 have b7:Hid (Strs w p b.f.L/\b.f.L.length<=M/\(p=none->b.f.L=[]/\M=0)):=⟨G.eS,G.q9,G.nP⟩
 have d8:Hid (Strs w q b.t.L/\b.t.L.length<=D/\(q=none->b.t.L=[]/\D=0)):=⟨G.gW,G.pL,G.nR⟩
 have q7:Hid (b.f.L≠[]/\b.t.L≠[]):=⟨fun e=>by rw [e] at p4;simp at p4;omega,fun e=>by rw [e] at q4;simp at q4;omega⟩
 have r0:Xi l < 6000:=by unfold X5 at h4;rw [Bool.and_eq_true] at h4;simpa using h4.2
 have z0:Hid (X4 b.mover):=⟨g1,g2,by show b.key.size<=100;omega,(by decide:KC.size<=100),rfl,rfl,⟨g4.1,G.op.2⟩,⟨g4.2.1,G.config.2⟩,fun _=>g4.2.2,Nat.zero_le 1000,(by intro e;cases e),List.nodup_nil,(fun x hx=>by cases hx),rfl,(by intro e;cases e),(fun l hl=>by cases hl)⟩
 have k5:Hid (∀ V:World,w.heap.size<=V.heap.size->(∀ k,k < w.heap.size->V.heap[k]?=w.heap[k]?)->Zp V ad/\X V):=G.eZ
 have a2:Hid (Yr ad X Ck):=hO
 have r3:Hid (mN w lp l):=G.msgs
 have r4:Hid (∀ m ∈ l,∀ v ∈ m.L,Jt v):=G.cM
 have r5:Hid (Xi l < 6000):=r0
 have E5:l.length<=6000:=Nat.le_trans (Jb6 l) (by omega)
 have F1:b.f.L.length<=30:=p6
 clear G hO b4 a1 y2 o9 p0 j8 k2 k3 p6 y4 y5 y6 h1 h2 h3 h4 h6 j1 r0 g1 g2 g3 g4 q0 q5 p1 p2 p3 p4 q1 q2 q3 q4
 go_enter func4,ntmps4
 go_wp2_with (first | rw [<- y3.out] | fail)
 refine p5.mono ?_
 rintro e w2 ⟨rfl,k6⟩
 obtain ⟨d0,d1,O,d3,d4,d5,_⟩:=a9.out w2 k6
 have z1:Hid (Below y.heap.size y w2):=k6
 clear k6 p5
 go_wp2_with fail
 refine (j2.out w2 z1.out).mono ?_
 rintro e w3 ⟨rfl,k7⟩
 clear d0 d1 O d3 d4 d5
 obtain ⟨d0,d1,O,d3,d4,d5,_⟩:=a9.out w3 k7
 have z2:Hid (Below y.heap.size y w3):=k7
 clear k7
 go_wp2_with fail
 refine (j3.out w3 z2.out).mono ?_
 rintro e w4 ⟨rfl,l0⟩
 clear d0 d1 O d3 d4 d5
 obtain ⟨d0,d1,O,d3,d4,d5,_⟩:=a9.out w4 l0
 have z3:Hid (Below y.heap.size y w4):=l0
 clear l0
 go_wp2_with fail
 refine (j5.out w4 z3.out).mono ?_
 rintro e w5 ⟨rfl,l1⟩
 clear d0 d1 O d3 d4 d5
 obtain ⟨d0,d1,O,d3,d4,d5,_⟩:=a9.out w5 l1
 have z4:Hid (Below y.heap.size y w5):=l1
 clear l1
 have r6:=a9.out w5.drew z4.out.drew
 clear d0 d1 O d3 d4 d5 j2 j3 j5
 go_wp2
 go_region_held3 (fun V=>(V.cell? ⟨w.heap.size,0,none⟩=some (.int .i64 b.f.n)/\V.cell? ⟨w.heap.size,1,none⟩=some (.int .i64 b.f.k)/\V.cell? ⟨w.heap.size,2,none⟩=some (.slice p b.f.L.length M)/\V.cell? ⟨w.heap.size+1,0,none⟩=some (.int .i64 b.t.n)/\V.cell? ⟨w.heap.size+1,1,none⟩=some (.int .i64 b.t.k)/\V.cell? ⟨w.heap.size+1,2,none⟩=some (.slice q b.t.L.length D)/\Below y.heap.size y V)) (first | assumption | exact r6) (first | (go_at_call 9;with_reducible refine (p7.out _ (by assumption)).mono ?_;rintro e w6 ⟨u6,d6,rfl,r7,b5⟩) | (go_at_call 9;with_reducible refine (p8.out _ _ _ r7 (by assumption)).mono ?_;rintro e w7 ⟨u7,d7,rfl,s2,z5⟩) | (go_at_call 24;refine (p9.out _ _ _ _ _ s2 (by assumption)).mono ?_;rintro e w8 ⟨h,rfl,s3,s4⟩))
 have a5:Hid (Below y.heap.size y w8):=s4.2.2.2.2.2.2
 obtain ⟨d0,d1,O,d3,d4,d5,_⟩:=s4
 have s5:=y7.out w8 a5.out
 clear r6 r7 s2 b5 z5 p7 p8 p9
 go_wp2_with fail
 refine s5.mono ?_
 rintro e Z ⟨rfl,g8⟩
 obtain ⟨a6,g9⟩:∃ a6,a6=Z.alloc (.cells #[.int .i64 0,.int .i64 (-1)] 39):=⟨_,rfl⟩
 have h0:a6.heap[Z.heap.size]?=some (.cells #[.int .i64 0,.int .i64 (-1)] 39 (0,0)):=by rw [g9];exact heap_alloc_new _ _
 have l2:Below w8.heap.size w8 a6:=by rw [g9];exact g8.alloc g8.size _
 have s6:Hid (w8.heap.size<=Z.heap.size):=g8.size
 have s7:Hid (a6.heap[Z.heap.size]?=some (.cells #[.int .i64 0,.int .i64 (-1)] 39 (0,0))):=h0
 have k0:a6.cell? ⟨Z.heap.size,0,none⟩=some (.int .i64 (0)):=(Ja h0 0).1
 have k1:a6.cell? ⟨Z.heap.size,1,none⟩=some (.int .i64 ((-1))):=(Ja h0 1).1
 have l3:Hid (Below w8.heap.size w8 a6):=l2
 have z6:Hid (a6=Z.alloc (.cells #[.int .i64 0,.int .i64 (-1)] 39)):=g9
 clear d0 d1 O d3 d4 d5
 obtain ⟨d0,d1,O,d3,d4,d5,_⟩:=a9.out a6 (a5.out.trans (l2.mono a5.out.size))
 clear g9 g8 h0 l2 s5
 go_wp2_with (first | rw [<- z6.out] | fail)
 refine (y8.out a6 (a5.out.trans (l3.out.mono a5.out.size))).mono ?_
 rintro e d9 ⟨rfl,l7⟩
 clear k0 k1
 have e6:=(l7.block Z.heap.size (L2 s7.out)).trans s7.out
 have k0:d9.cell? ⟨Z.heap.size,0,none⟩=some (.int .i64 (0)):=(Ja e6 0).1
 have k1:d9.cell? ⟨Z.heap.size,1,none⟩=some (.int .i64 (-1)):=(Ja e6 1).1
 have fz:∀ j,d9.frozen? ⟨Z.heap.size,j,none⟩=false:=fun j=>(Ja e6 j).2
 obtain ⟨N,h5⟩:∃ v,v=(d9.setCell ⟨Z.heap.size,0,none⟩ (.int .i64 (0))).setCell ⟨Z.heap.size,1,none⟩ (.int .i64 (-1)):=⟨_,rfl⟩
 have h7:N.heap[Z.heap.size]?=some (.cells #[.int .i64 (0),.int .i64 (-1)] 39 (0,0)):=by rw [h5];exact Qc (Qc e6 0 _) 1 _
 have l8:Below w8.heap.size w8 N:=by rw [h5];exact ((l3.out.trans (l7.mono l3.out.size)).setCell (p:=⟨Z.heap.size,0,none⟩) s6.out _).setCell (p:=⟨Z.heap.size,1,none⟩) s6.out _
 have m0:N.cell? ⟨Z.heap.size,0,none⟩=some (.int .i64 (0)):=(Ja h7 0).1
 have m1:N.cell? ⟨Z.heap.size,1,none⟩=some (.int .i64 (-1)):=(Ja h7 1).1
 have F2:Hid (N.heap[Z.heap.size]?=some (.cells #[.int .i64 (0),.int .i64 (-1)] 39 (0,0))):=h7
 have h8:Hid (Below w8.heap.size w8 N):=l8
 have z7:Hid (N=(d9.setCell ⟨Z.heap.size,0,none⟩ (.int .i64 (0))).setCell ⟨Z.heap.size,1,none⟩ (.int .i64 (-1))):=h5
 clear d0 d1 O d3 d4 d5
 obtain ⟨d0,d1,O,d3,d4,d5,_⟩:=a9.out N (a5.out.trans (l8.mono a5.out.size))
 clear h5 h7 l8 e6 l7
 go_wp2_with (first | rw [<- z7.out] | fail)
 refine (q6.out N).mono ?_
 rintro e z9 ⟨rfl,s8⟩
 rw [s8]
 clear s8 z9 k0 k1 fz
 obtain ⟨wa,e7⟩:∃ wa,wa=N.alloc (.cells #[.string ⟨#[109,111,118,101,114]⟩,.string b.key,.int .i64 0,.int .i64 b.op,.int .i64 b.config,.int .i64 b.f.n,.int .i64 b.f.k,.slice p b.f.L.length M,.int .i64 b.t.n,.int .i64 b.t.k,.slice q b.t.L.length D,.bool false,.bool true,.string ⟨#[115,101,97,108,105,110,103]⟩,.slice none 0 0,.slice none 0 0,.int .i64 0,.int .i64 0,.string ⟨#[]⟩,.bool false] 48):=⟨_,rfl⟩
 have e8:Below N.heap.size N wa:=by rw [e7];exact (Below.refl _ _).alloc (Nat.le_refl _) _
 have A1:wa.heap.size=N.heap.size+1:=by rw [e7];simp
 have s9:Below y.heap.size y wa:=(a5.out.trans (h8.out.mono a5.out.size)).trans (e8.mono (by have:=a5.out.size;have:=h8.out.size;omega))
 have h9:Below w.heap.size w wa:=j6.out.trans (s9.mono j6.out.size)
 have t0:wa.heap[N.heap.size]?=some (.cells #[.string ⟨#[109,111,118,101,114]⟩,.string b.key,.int .i64 0,.int .i64 b.op,.int .i64 b.config,.int .i64 b.f.n,.int .i64 b.f.k,.slice p b.f.L.length M,.int .i64 b.t.n,.int .i64 b.t.k,.slice q b.t.L.length D,.bool false,.bool true,.string ⟨#[115,101,97,108,105,110,103]⟩,.slice none 0 0,.slice none 0 0,.int .i64 0,.int .i64 0,.string ⟨#[]⟩,.bool false] 48 (0,0)):=by rw [e7];exact heap_alloc_new _ _
 have t3:Hid (∃ B,Qo Ck w.heap.size B h N.heap.size (.slice q b.t.L.length D) wa.heap.size wa b.mover b.mover):=by
  obtain ⟨B,S,g1,g2,g3⟩:=s3.out.below a2.out h8.out
  have A2:w.heap.size<=N.heap.size:=by have:=j6.out.size;have:=a5.out.size;have:=h8.out.size;omega
  have A5:Qa wa w.heap.size (fun k=>k=N.heap.size) N.heap.size b.mover (.slice p b.f.L.length M) (.slice q b.t.L.length D) (.slice none 0 0) (.slice none 0 0) []:=by
   refine ⟨t0,⟨p,M,rfl,b7.out.1.below h9,b7.out.2.1,b7.out.2.2,fun b' o' e'=>?_⟩,⟨q,D,rfl,d8.out.1.below h9,d8.out.2.1,d8.out.2.2,fun b' o' e'=>?_⟩,Zq.nil _ _,⟨JM.nil _ _ _,rfl,fun i G=>absurd G (Nat.not_lt_zero _)⟩,rfl,(fun k hk=>by cases hk),(fun k hk=>by cases hk),(fun v hv=>by cases hv),fun k hk=>by subst hk;exact ⟨A2,by omega⟩⟩
   ·rcases b7.out.1 with e0 | ⟨b2,o2,e2,e3,_⟩
    ·exact absurd e0 q7.out.1
    ·rw [e2] at e';injection e' with e';injection e' with e4;omega
   ·rcases d8.out.1 with e0 | ⟨b2,o2,e2,e3,_⟩
    ·exact absurd e0 q7.out.2
    ·rw [e2] at e';injection e' with e';injection e' with e4;omega
  exact ⟨B,S,(fun k=>k=N.heap.size),.slice p b.f.L.length M,.slice none 0 0,.slice none 0 0,[],a2.out.aS g1 (e8.mono g2) (fun k hk=>e8.block k (a2.out.dH g1 k hk).2),A5,fun k hk F5=>by have:=(a2.out.dH g1 k hk).2;omega,fun k hk=>by subst hk;exact ⟨g2,by omega⟩,Nat.le_trans g2 e8.size,g3,Nat.le_refl _⟩
 have t4:Hid (wa=N.alloc (.cells #[.string ⟨#[109,111,118,101,114]⟩,.string b.key,.int .i64 0,.int .i64 b.op,.int .i64 b.config,.int .i64 b.f.n,.int .i64 b.f.k,.slice p b.f.L.length M,.int .i64 b.t.n,.int .i64 b.t.k,.slice q b.t.L.length D,.bool false,.bool true,.string ⟨#[115,101,97,108,105,110,103]⟩,.slice none 0 0,.slice none 0 0,.int .i64 0,.int .i64 0,.string ⟨#[]⟩,.bool false] 48)):=e7
 have i0:Hid (Below w.heap.size w wa):=h9
 clear e7 e8 A1 s9 h9 t0 s3 b7 d8
 obtain ⟨B,l9⟩:=t3.out
 have A6:Hid (Qo Ck w.heap.size B h N.heap.size (.slice q b.t.L.length D) wa.heap.size wa b.mover b.mover):=l9
 have t5:=(k5.out wa i0.out.size (fun k hk=>i0.out.block k hk)).2
 have m8:=Jdc a2.out rfl i0.out t5 l9
 obtain ⟨A9,t6⟩:=JcB b
 have e9:Hid (b.mover.begin.length<=1000/\∀ m ∈ b.mover.begin,m.L.length<=1000000):=⟨by omega,t6⟩
 have t7:Hid (X4 b.mover):=z0
 clear l9 t3 A9 t6 t5
 obtain ⟨BG,m9⟩:∃ BG,BG=b.mover.begin:=⟨_,rfl⟩
 rw [<- m9] at m8 e9
 have t8:Hid (b.mover.begin=BG):=m9.symm
 clear m9
 go_wp2_with (first | rw [<- t4.out] | fail)
 refine m8.mono ?_
 rintro e n0 ⟨B0,x8,rfl,i1,t9⟩
 have f3:=Jbf wa.heap.size B0 BG x8 n0 e9.out.1 (by obtain ⟨_,_,_,_,_,_,_,_,_,_,_,_,g⟩:=i1.out.2;exact g) i1.out.1
 have u0:Hid (Qo Ck w.heap.size B h N.heap.size (.slice q b.t.L.length D) wa.heap.size n0 b.mover b.mover):=i1.out.2
 have n1:Hid (Below w.heap.size w n0):=t9
 clear i1 t9 m8 A6 i0
 go_wp2_with fail
 refine f3.mono ?_
 rintro e b6 ⟨⟨u1,B2,rfl,u3⟩,n2⟩
 have u8:Hid (pD wa.heap.size b6 u1 BG):=u3
 have n4:=u0.out.below a2.out n2
 have u9:Hid (Qo Ck w.heap.size B h N.heap.size (.slice q b.t.L.length D) wa.heap.size b6 b.mover b.mover):=n4
 have n6:Hid (Below w.heap.size w b6):=n1.out.trans (n2.mono n1.out.size)
 have v0:Hid (Calls prog 17 #[.pointer (some ⟨N.heap.size,0,none⟩)] b6 fun e w'=>(∃ p c,e=.returned (.slice p BG.length c)/\mN w' p BG)/\Below b6.heap.size b6 w'):=by
  obtain ⟨S,S',mv,fv,lv,vs,_,g2,_⟩:=n4
  have:=Jc5 g2 (by show b.f.L.length<=1000;omega)
  rw [t8.out] at this
  exact this
 clear u3 n2 n4 f3 u0 n1
 go_wp2_with fail
 refine v0.out.mono ?_
 rintro e a7 ⟨⟨B3,B5,rfl,v7⟩,i2⟩
 have f4:=Jbk u1 B3 BG B2 B5 a7 e9.out.1 e9.out.2 (u8.out.below i2).at_ v7
 have v8:Hid (Qo Ck w.heap.size B h N.heap.size (.slice q b.t.L.length D) wa.heap.size a7 b.mover b.mover):=u9.out.below a2.out i2
 have n7:Hid (Below w.heap.size w a7):=n6.out.trans (i2.mono n6.out.size)
 clear v7 i2 v0 u9 n6 u8
 go_wp2_with fail
 refine f4.mono ?_
 rintro e o0 ⟨rfl,o1⟩
 have v9:Hid (Qo Ck w.heap.size B h N.heap.size (.slice q b.t.L.length D) o0.heap.size o0 b.mover b.mover):=(v8.out.below a2.out o1).up
 have w0:Hid (Below w.heap.size w o0):=n7.out.trans (o1.mono n7.out.size)
 clear o1 f4 v8 n7 e9
 go_wp2
 generalize N.heap.size=ab at *
 clear t4 t8
 go_loopw [18] (fun x wr=>∃ i:Nat,i<=l.length/\x=.int .i64 i/\(∃ a,Qo Ck w.heap.size B h ab (.slice q b.t.L.length D) wr.heap.size wr a a/\X4 a/\Zm a.L.flatten<=Xi (l.take i))/\Below w.heap.size w wr) (fun x _=>l.length - (intOf x).toNat)
 case atStart=>exact ⟨0,Nat.zero_le _,rfl,⟨b.mover,v9.out,t7.out,Nat.zero_le _⟩,w0.out⟩
 case round =>
  obtain ⟨i,G,rfl,⟨a,hM,hA,o3⟩,hB⟩:=hrel
  obtain ⟨w20,rfl⟩:∃ w20,w20=wr:=⟨_,rfl⟩
  have o4:Hid (Below w.heap.size w w20):=hB
  clear v9 w0 t7
  by_cases B8:i < l.length
  ·obtain ⟨mb,mo,m1,m2,m3,m4,m5,m6,m7,mL,lq,lc,r1,r2,rl,sw,fd,t1,t2,tx,B9,o5,x0,x1,f3,x2,f4,x4,x5,i3,i4⟩:=Jd8 (w20:=w20) (B:=B) (h:=h) (ab:=ab) (nv:=(.slice q b.t.L.length D)) a2.out k5.out r3.out r4.out r5.out B8 hA o3
   have x7:=o5.out w20.drew o4.out.drew
   have C0:Hid (Qo Ck w.heap.size B h ab (.slice q b.t.L.length D) w20.heap.size w20.drew a a):=hM.below a2.out (Below.refl _ _).drew
   subst B9
   have i5:Hid ((Hid (sw=⟨#[100,111,110,101]⟩/\fd=true)/\Hid (∀ W,Below w.heap.size w W->Qo Ck w.heap.size B h ab (.slice q b.t.L.length D) W.heap.size W r1 r1->Calls prog 31 #[.pointer (some ⟨h,0,none⟩)] W fun e w'=>e=.returned (.tuple #[.agg #[.int .i64 t1,.int .i64 t2],.string tx,.bool true])/\(w'.cell? ⟨ab,13,none⟩=some (.string sw)/\w'.cell? ⟨ab,19,none⟩=some (.bool fd)/\w'.cell? ⟨ab,16,none⟩=some (.int .i64 t1)/\w'.cell? ⟨ab,17,none⟩=some (.int .i64 t2)/\w'.cell? ⟨ab,18,none⟩=some (.string tx))/\Qo Ck w.heap.size B h ab (.slice q b.t.L.length D) w'.heap.size w' r1 r1/\Below w.heap.size w w'))∨(Hid (¬ sw.toList=[100,111,110,101]∨fd=false)/\Hid (∀ W,Below w.heap.size w W->Qo Ck w.heap.size B h ab (.slice q b.t.L.length D) W.heap.size W r1 r1->Calls prog 31 #[.pointer (some ⟨h,0,none⟩)] W fun e w'=>e=.returned (.tuple #[.agg #[.int .i64 0,.int .i64 0],.string ⟨#[]⟩,.bool false])/\(w'.cell? ⟨ab,13,none⟩=some (.string sw)/\w'.cell? ⟨ab,19,none⟩=some (.bool fd)/\w'.cell? ⟨ab,16,none⟩=some (.int .i64 t1)/\w'.cell? ⟨ab,17,none⟩=some (.int .i64 t2)/\w'.cell? ⟨ab,18,none⟩=some (.string tx))/\Qo Ck w.heap.size B h ab (.slice q b.t.L.length D) w'.heap.size w' r1 r1/\Below w.heap.size w w'))):=x5
   clear hM hA o3 hB x5 r3 r4 r5 k5
   go_upto_region 22 with fail
   go_cut [147] from 117 to 193 (fun v W=>v=.bool false/\Qo Ck w.heap.size B h ab (.slice q b.t.L.length D) W.heap.size W r1 r1/\Below w.heap.size w W)
   case first =>
    clear i5 i3 i4 a2 o5
    refine wp_region_held_drew (S:=fun W=>(W.cell? ⟨mb,mo+i*8,none⟩=some (.string m1)/\W.cell? ⟨mb,mo+i*8+1,none⟩=some (.string m2)/\W.cell? ⟨mb,mo+i*8+2,none⟩=some (.string m3)/\W.cell? ⟨mb,mo+i*8+3,none⟩=some (.string m4)/\W.cell? ⟨mb,mo+i*8+4,none⟩=some (.int .i64 m5)/\W.cell? ⟨mb,mo+i*8+5,none⟩=some (.int .i64 m6)/\W.cell? ⟨mb,mo+i*8+6,none⟩=some (.bool m7)/\W.cell? ⟨mb,mo+i*8+7,none⟩=some (.slice lq mL.length lc)/\Below w.heap.size w W)) (by kernel_rfl) x7 (fun Y=>?_)
    refine wpAnyH_take (i:=0) (oi:={ dst:=some 123,op:=Op.move (Operand.tmp 14),type:=65,pos := "parts.go:618",after:=#[],guard:=none }) (v:=?_) rfl (by kernel_rfl) (by kernel_rfl) (by kernel_rfl) (fun _ _ _ h=>h) (Or.inl ⟨by rfl,?_⟩) Y ?_
    rotate_left
    ·(intro w J;(try dsimp only at J);go_simp;try with_reducible rfl)
    try simp only [Act.put,List.setIfInBounds_toArray,List.set_cons_zero,List.set_cons_succ]
    refine wpAnyH_take (i:=1) (oi:={ dst:=some 124,op:=Op.move (Operand.tmp 5),type:=27,pos := "parts.go:618",after:=#[],guard:=none }) (v:=?_) rfl (by kernel_rfl) (by kernel_rfl) (by kernel_rfl) (fun _ _ _ h=>h) (Or.inl ⟨by rfl,?_⟩) Y ?_
    rotate_left
    ·(intro w J;(try dsimp only at J);go_simp;try with_reducible rfl)
    try simp only [Act.put,List.setIfInBounds_toArray,List.set_cons_zero,List.set_cons_succ]
    refine wpAnyH_take (i:=2) (oi:={ dst:=some 125,op:=Op.move (Operand.tmp 18),type:=3,pos := "parts.go:618",after:=#[],guard:=none }) (v:=?_) rfl (by kernel_rfl) (by kernel_rfl) (by kernel_rfl) (fun _ _ _ h=>h) (Or.inl ⟨by rfl,?_⟩) Y ?_
    rotate_left
    ·(intro w J;(try dsimp only at J);go_simp;try with_reducible rfl)
    try simp only [Act.put,List.setIfInBounds_toArray,List.set_cons_zero,List.set_cons_succ]
    refine wpAnyH_take (i:=3) (oi:={ dst:=some 126,op:=Op.indexAddr 27 (Operand.tmp 124) (Operand.tmp 125),type:=0,pos := "parts.go:618",after:=#[{ on:=1,ground:=Ground.data },{ on:=2,ground:=Ground.data }],guard:=none }) (v:=?_) rfl (by kernel_rfl) (by kernel_rfl) (by kernel_rfl) (fun _ _ _ h=>h) (Or.inl ⟨by rfl,?_⟩) Y ?_
    rotate_left
    ·(intro w J;(try dsimp only at J);go_simp;try with_reducible rfl)
    try simp only [Act.put,List.setIfInBounds_toArray,List.set_cons_zero,List.set_cons_succ]
    refine wpAnyH_take (i:=4) (oi:={ dst:=some 127,op:=Op.load 59 (Operand.tmp 126),type:=59,pos := "parts.go:618",after:=#[{ on:=3,ground:=Ground.data }],guard:=none }) (v:=?_) rfl (by kernel_rfl) (by kernel_rfl) (by kernel_rfl) (fun _ _ _ h=>h) (Or.inl ⟨by rfl,?_⟩) Y ?_
    rotate_left
    ·(intro w J;(try dsimp only at J);go_simp;try with_reducible rfl)
    try simp only [Act.put,List.setIfInBounds_toArray,List.set_cons_zero,List.set_cons_succ]
    refine wpAnyH_take (i:=8) (oi:={ dst:=some 131,op:=Op.move (Operand.tmp 17),type:=42,pos := "parts.go:618",after:=#[],guard:=none }) (v:=?_) rfl (by kernel_rfl) (by kernel_rfl) (by kernel_rfl) (fun _ _ _ h=>h) (Or.inl ⟨by rfl,?_⟩) Y ?_
    rotate_left
    ·(intro w J;(try dsimp only at J);go_simp;try with_reducible rfl)
    try simp only [Act.put,List.setIfInBounds_toArray,List.set_cons_zero,List.set_cons_succ]
    refine wpAnyH_take (i:=9) (oi:={ dst:=some 132,op:=Op.move (Operand.tmp 5),type:=27,pos := "parts.go:618",after:=#[],guard:=none }) (v:=?_) rfl (by kernel_rfl) (by kernel_rfl) (by kernel_rfl) (fun _ _ _ h=>h) (Or.inl ⟨by rfl,?_⟩) Y ?_
    rotate_left
    ·(intro w J;(try dsimp only at J);go_simp;try with_reducible rfl)
    try simp only [Act.put,List.setIfInBounds_toArray,List.set_cons_zero,List.set_cons_succ]
    refine wpAnyH_take (i:=10) (oi:={ dst:=some 133,op:=Op.move (Operand.tmp 18),type:=3,pos := "parts.go:618",after:=#[],guard:=none }) (v:=?_) rfl (by kernel_rfl) (by kernel_rfl) (by kernel_rfl) (fun _ _ _ h=>h) (Or.inl ⟨by rfl,?_⟩) Y ?_
    rotate_left
    ·(intro w J;(try dsimp only at J);go_simp;try with_reducible rfl)
    try simp only [Act.put,List.setIfInBounds_toArray,List.set_cons_zero,List.set_cons_succ]
    refine wpAnyH_take (i:=11) (oi:={ dst:=some 134,op:=Op.indexAddr 27 (Operand.tmp 132) (Operand.tmp 133),type:=0,pos := "parts.go:618",after:=#[{ on:=9,ground:=Ground.data },{ on:=10,ground:=Ground.data }],guard:=none }) (v:=?_) rfl (by kernel_rfl) (by kernel_rfl) (by kernel_rfl) (fun _ _ _ h=>h) (Or.inl ⟨by rfl,?_⟩) Y ?_
    rotate_left
    ·(intro w J;(try dsimp only at J);go_simp;try with_reducible rfl)
    try simp only [Act.put,List.setIfInBounds_toArray,List.set_cons_zero,List.set_cons_succ]
    refine wpAnyH_take (i:=12) (oi:={ dst:=some 135,op:=Op.load 59 (Operand.tmp 134),type:=59,pos := "parts.go:618",after:=#[{ on:=11,ground:=Ground.data }],guard:=none }) (v:=?_) rfl (by kernel_rfl) (by kernel_rfl) (by kernel_rfl) (fun _ _ _ h=>h) (Or.inl ⟨by rfl,?_⟩) Y ?_
    rotate_left
    ·(intro w J;(try dsimp only at J);go_simp;try with_reducible rfl)
    try simp only [Act.put,List.setIfInBounds_toArray,List.set_cons_zero,List.set_cons_succ]
    refine wpAnyH_ready (rs:=[5]) (by kernel_rfl) (by simp) ?_
    refine AllReadyH.cons (o:={ dst:=some 128,op:=Op.call { callee:=Callee.value (Operand.func 19),args:=#[Operand.tmp 127],argTypes:=#[59] },type:=57,pos := "parts.go:618",after:=#[{ on:=4,ground:=Ground.data }],guard:=none }) rfl (fun K Q=>?_) AllReadyH.nil
    go_simp
    (go_at_call 19;refine (x0.out _ (by assumption) (by assumption)).mono ?_;rintro e v1 ⟨q1,d1,rfl,F6,C1⟩)
    first | (refine Q.out _ _ ?_ (fun Y=>?_)) | (go_wp2_with fail;refine Q.out _ _ ?_ (fun Y=>?_))
    ·exact C1
    clear Q K
    try simp only [Act.put,List.setIfInBounds_toArray,List.set_cons_zero,List.set_cons_succ]
    refine wpAnyH_ready (rs:=[6]) (by kernel_rfl) (by simp) ?_
    refine AllReadyH.cons (o:={ dst:=some 129,op:=Op.call { callee:=Callee.value (Operand.func 29),args:=#[Operand.tmp 123,Operand.tmp 128],argTypes:=#[65,57] },type:=51,pos := "parts.go:618",after:=#[{ on:=0,ground:=Ground.data },{ on:=5,ground:=Ground.data },{ on:=5,ground:=Ground.chain }],guard:=none }) rfl (fun K Q=>?_) AllReadyH.nil
    go_simp
    (go_at_call 29;refine (x1.out _ _ _ (by assumption) (by assumption)).mono ?_;rintro e v2 ⟨p2,c2,rfl,F7,C2⟩)
    first | (refine Q.out _ _ ?_ (fun Y=>?_)) | (go_wp2_with fail;refine Q.out _ _ ?_ (fun Y=>?_))
    ·exact C2
    clear Q K
    try simp only [Act.put,List.setIfInBounds_toArray,List.set_cons_zero,List.set_cons_succ]
    refine wpAnyH_ready (rs:=[7]) (by kernel_rfl) (by simp) ?_
    refine AllReadyH.cons (o:={ dst:=some 130,op:=Op.call { callee:=Callee.value (Operand.func 15),args:=#[Operand.tmp 129],argTypes:=#[51] },type:=27,pos := "parts.go:618",after:=#[{ on:=6,ground:=Ground.data },{ on:=6,ground:=Ground.chain }],guard:=none }) rfl (fun K Q=>?_) AllReadyH.nil
    go_simp
    (go_at_call 15;refine (f3.out _ _ _ (by assumption) (by assumption)).mono ?_;rintro e v3 ⟨p3,c3,rfl,F8,C4⟩)
    first | (refine Q.out _ _ ?_ (fun Y=>?_)) | (go_wp2_with fail;refine Q.out _ _ ?_ (fun Y=>?_))
    ·exact C4
    clear Q K
    try simp only [Act.put,List.setIfInBounds_toArray,List.set_cons_zero,List.set_cons_succ]
    refine wpAnyH_ready (rs:=[13]) (by kernel_rfl) (by simp) ?_
    refine AllReadyH.cons (o:={ dst:=some 136,op:=Op.call { callee:=Callee.value (Operand.func 20),args:=#[Operand.tmp 131,Operand.tmp 135],argTypes:=#[42,59] },type:=27,pos := "parts.go:618",after:=#[{ on:=8,ground:=Ground.data },{ on:=12,ground:=Ground.data },{ on:=7,ground:=Ground.chain }],guard:=none }) rfl (fun K Q=>?_) AllReadyH.nil
    go_simp
    (go_at_call 20;refine (x2.out _ p3 (by assumption) (by assumption)).mono ?_;rintro e v4 ⟨q4,d4,rfl,F9,C5⟩)
    first | (refine Q.out _ _ ?_ (fun Y=>?_)) | (go_wp2_with fail;refine Q.out _ _ ?_ (fun Y=>?_))
    ·exact C5
    clear Q K
    try simp only [Act.put,List.setIfInBounds_toArray,List.set_cons_zero,List.set_cons_succ]
    refine wpAnyH_ready (rs:=[14]) (by kernel_rfl) (by simp) ?_
    refine AllReadyH.cons (o:={ dst:=some 137,op:=Op.call { callee:=Callee.value (Operand.func 14),args:=#[Operand.tmp 130,Operand.tmp 136],argTypes:=#[27,27] },type:=4,pos := "parts.go:618",after:=#[{ on:=7,ground:=Ground.data },{ on:=13,ground:=Ground.data },{ on:=13,ground:=Ground.chain }],guard:=none }) rfl (fun K Q=>?_) AllReadyH.nil
    go_simp
    (go_at_call 14;refine (f4.out _ _ _ _ _ (by assumption) (by assumption)).mono ?_;rintro e v5 ⟨rfl,G0,b0,b1⟩)
    first | (refine Q.out _ _ ?_ (fun Y=>?_)) | (go_wp2_with fail;refine Q.out _ _ ?_ (fun Y=>?_))
    ·exact b0
    clear Q K
    try simp only [Act.put,List.setIfInBounds_toArray,List.set_cons_zero,List.set_cons_succ]
    refine Jbl (S':=fun W=>(W.cell? ⟨mb,mo+i*8,none⟩=some (.string m1)/\W.cell? ⟨mb,mo+i*8+1,none⟩=some (.string m2)/\W.cell? ⟨mb,mo+i*8+2,none⟩=some (.string m3)/\W.cell? ⟨mb,mo+i*8+3,none⟩=some (.string m4)/\W.cell? ⟨mb,mo+i*8+4,none⟩=some (.int .i64 m5)/\W.cell? ⟨mb,mo+i*8+5,none⟩=some (.int .i64 m6)/\W.cell? ⟨mb,mo+i*8+6,none⟩=some (.bool m7)/\W.cell? ⟨mb,mo+i*8+7,none⟩=some (.slice lq mL.length lc)/\Below w.heap.size w W)/\W.cell? ⟨ab,13,none⟩=some (.string sw)) (fun w h=>h.1) _ _ _ _ ?_
    refine wpAnyH_take (i:=15) (oi:={ dst:=some 138,op:=Op.unOp UnOp.not 4 (Operand.tmp 137),type:=4,pos := "parts.go:618",after:=#[{ on:=14,ground:=Ground.data }],guard:=none }) (v:=?_) rfl (by kernel_rfl) (by kernel_rfl) (by kernel_rfl) (fun _ _ _ h=>h) (Or.inl ⟨by rfl,?_⟩) ⟨b0,b1⟩ ?_
    rotate_left
    ·(intro w J;(try dsimp only at J);go_simp;try with_reducible rfl)
    try simp only [Act.put,List.setIfInBounds_toArray,List.set_cons_zero,List.set_cons_succ]
    refine wpAnyH_take (i:=16) (oi:={ dst:=some 139,op:=Op.move (Operand.tmp 138),type:=4,pos := "parts.go:618",after:=#[{ on:=15,ground:=Ground.data },{ on:=14,ground:=Ground.chain }],guard:=none }) (v:=?_) rfl (by kernel_rfl) (by kernel_rfl) (by kernel_rfl) (fun _ _ _ h=>h) (Or.inl ⟨by rfl,?_⟩) ⟨b0,b1⟩ ?_
    rotate_left
    ·(intro w J;(try dsimp only at J);go_simp;try with_reducible rfl)
    try simp only [Act.put,List.setIfInBounds_toArray,List.set_cons_zero,List.set_cons_succ]
    refine wpAnyH_take (i:=17) (oi:={ dst:=some 140,op:=Op.move (Operand.tmp 14),type:=65,pos := "parts.go:618",after:=#[{ on:=16,ground:=Ground.guard }],guard:=some (16,false) }) (v:=?_) rfl (by kernel_rfl) (by kernel_rfl) (by kernel_rfl) (fun _ _ _ h=>h) (Or.inl ⟨by rfl,?_⟩) ⟨b0,b1⟩ ?_
    rotate_left
    ·(intro w J;(try dsimp only at J);go_simp;try with_reducible rfl)
    try simp only [Act.put,List.setIfInBounds_toArray,List.set_cons_zero,List.set_cons_succ]
    refine wpAnyH_take (i:=19) (oi:={ dst:=some 142,op:=Op.move (Operand.tmp 17),type:=42,pos := "parts.go:618",after:=#[{ on:=16,ground:=Ground.guard }],guard:=some (16,false) }) (v:=?_) rfl (by kernel_rfl) (by kernel_rfl) (by kernel_rfl) (fun _ _ _ h=>h) (Or.inl ⟨by rfl,?_⟩) ⟨b0,b1⟩ ?_
    rotate_left
    ·(intro w J;(try dsimp only at J);go_simp;try with_reducible rfl)
    try simp only [Act.put,List.setIfInBounds_toArray,List.set_cons_zero,List.set_cons_succ]
    refine wpAnyH_take (i:=20) (oi:={ dst:=some 143,op:=Op.nilCheck (Operand.tmp 142),type:=0,pos := "parts.go:618",after:=#[{ on:=19,ground:=Ground.data },{ on:=16,ground:=Ground.guard }],guard:=some (16,false) }) (v:=?_) rfl (by kernel_rfl) (by kernel_rfl) (by kernel_rfl) (fun _ _ _ h=>h) (Or.inl ⟨by rfl,?_⟩) ⟨b0,b1⟩ ?_
    rotate_left
    ·(intro w J;(try dsimp only at J);go_simp;try with_reducible rfl)
    try simp only [Act.put,List.setIfInBounds_toArray,List.set_cons_zero,List.set_cons_succ]
    refine wpAnyH_take (i:=21) (oi:={ dst:=some 144,op:=Op.fieldAddr 48 (Operand.tmp 143) 9,type:=0,pos := "parts.go:618",after:=#[{ on:=20,ground:=Ground.data },{ on:=16,ground:=Ground.guard }],guard:=some (16,false) }) (v:=?_) rfl (by kernel_rfl) (by kernel_rfl) (by kernel_rfl) (fun _ _ _ h=>h) (Or.inl ⟨by rfl,?_⟩) ⟨b0,b1⟩ ?_
    rotate_left
    ·(intro w J;(try dsimp only at J);go_simp;try with_reducible rfl)
    try simp only [Act.put,List.setIfInBounds_toArray,List.set_cons_zero,List.set_cons_succ]
    refine wpAnyH_take (i:=22) (oi:={ dst:=some 145,op:=Op.load 9 (Operand.tmp 144),type:=9,pos := "parts.go:618",after:=#[{ on:=21,ground:=Ground.data },{ on:=16,ground:=Ground.guard }],guard:=some (16,false) }) (v:=?_) rfl (by kernel_rfl) (by kernel_rfl) (by kernel_rfl) (fun _ _ _ h=>h) (Or.inl ⟨by rfl,?_⟩) ⟨b0,b1⟩ ?_
    rotate_left
    ·(intro w J;(try dsimp only at J);go_simp;try with_reducible rfl)
    try simp only [Act.put,List.setIfInBounds_toArray,List.set_cons_zero,List.set_cons_succ]
    refine wpAnyH_ready (rs:=[18]) (by kernel_rfl) (by simp) ?_
    refine AllReadyH.cons (o:={ dst:=some 141,op:=Op.call { callee:=Callee.value (Operand.func 30),args:=#[Operand.tmp 140],argTypes:=#[65] },type:=9,pos := "parts.go:618",after:=#[{ on:=17,ground:=Ground.data },{ on:=16,ground:=Ground.chain },{ on:=16,ground:=Ground.guard }],guard:=some (16,false) }) rfl (fun K Q=>?_) AllReadyH.nil
    go_simp
    (go_at_call 30;refine (x4.out _ (by assumption) (by assumption)).mono ?_;rintro e v6 ⟨rfl,C9,b5,o6⟩)
    first | (refine Q.out _ _ ?_ (fun Y=>?_)) | (go_wp2_with fail;refine Q.out _ _ ?_ (fun Y=>?_))
    ·exact ⟨b5,o6⟩
    clear Q K
    try simp only [Act.put,List.setIfInBounds_toArray,List.set_cons_zero,List.set_cons_succ]
    refine wpAnyH_take (i:=23) (oi:={ dst:=some 146,op:=Op.binOp BinOp.neq 9 (Operand.tmp 141) (Operand.tmp 145) 9,type:=4,pos := "parts.go:618",after:=#[{ on:=18,ground:=Ground.data },{ on:=22,ground:=Ground.data },{ on:=16,ground:=Ground.guard }],guard:=some (16,false) }) (v:=?_) rfl (by kernel_rfl) (by kernel_rfl) (by kernel_rfl) (fun _ _ _ h=>h) (Or.inl ⟨by rfl,?_⟩) ⟨b5,o6⟩ ?_
    rotate_left
    ·(intro w J;(try dsimp only at J);go_simp;try with_reducible rfl)
    try simp only [Act.put,List.setIfInBounds_toArray,List.set_cons_zero,List.set_cons_succ]
    refine wpAnyH_take (i:=24) (oi:={ dst:=some 147,op:=Op.pick (Operand.tmp 139) (Operand.const (Value.bool true)) (Operand.tmp 146),type:=4,pos := "parts.go:618",after:=#[{ on:=16,ground:=Ground.data },{ on:=23,ground:=Ground.data }],guard:=none }) (v:=?_) rfl (by kernel_rfl) (by kernel_rfl) (by kernel_rfl) (fun _ _ _ h=>h) (Or.inl ⟨by rfl,?_⟩) ⟨b5,o6⟩ ?_
    rotate_left
    ·(intro w J;(try dsimp only at J);go_simp;try with_reducible rfl)
    try simp only [Act.put,List.setIfInBounds_toArray,List.set_cons_zero,List.set_cons_succ]
    refine wpAnyH_done (by kernel_rfl) ?_ _
    all_goals (go_wp2_with fail;go_meet)
    all_goals exact ⟨by first | rfl | simp,C9.out,b5.2.2.2.2.2.2.2.2⟩
   case rest =>
    obtain ⟨rfl,hm,hb⟩:=hcut
    obtain ⟨i7,rfl⟩:∃ i7,i7=wc:=⟨_,rfl⟩
    clear x0 x1 f3 x2 f4 x4 x7 C0 o5 o4
    rcases i5.out with ⟨HC,f5⟩ | ⟨HC,f5⟩
    ·have f6:=f5.out i7 hb hm
     obtain ⟨rfl,rfl⟩:=HC.out
     clear i5 f5 HC hm hb
     go_wp2_with fail
     refine f6.mono ?_
     rintro e a3 ⟨rfl,⟨a7,f7,f8,f9,g0⟩,g6,b3⟩
     obtain ⟨U,a8⟩:∃ U,U=a3.alloc (.cells #[.int .i64 t1,.int .i64 t2] 46):=⟨_,rfl⟩
     have a0:Below a3.heap.size a3 U:=by rw [a8];exact (Below.refl _ _).alloc (Nat.le_refl _) _
     have s0:U.cell? ⟨a3.heap.size,0,none⟩=some (.int .i64 t1):=by rw [a8];simp
     have s1:U.cell? ⟨a3.heap.size,1,none⟩=some (.int .i64 t2):=by rw [a8];simp
     have a4:=Zn a7
     have D1:=(a0.cell (p:=⟨ab,13,none⟩) a4).trans a7
     have D5:=(a0.cell (p:=⟨ab,19,none⟩) a4).trans f7
     have D7:=(a0.cell (p:=⟨ab,16,none⟩) a4).trans f8
     have D8:=(a0.cell (p:=⟨ab,17,none⟩) a4).trans f9
     have D9:=(a0.cell (p:=⟨ab,18,none⟩) a4).trans g0
     have i8:Hid (Qo Ck w.heap.size B h ab (.slice q b.t.L.length D) U.heap.size U r1 r1):=(g6.below a2.out a0).up
     have g7:Hid (Below w.heap.size w U):=b3.trans (a0.mono b3.size)
     have i9:Hid (U=a3.alloc (.cells #[.int .i64 t1,.int .i64 t2] 46)):=a8
     clear a8 a0 a4 a7 f7 f8 f9 g0 g6 b3 f6
     go_upto_region 28 with (first | rw [<- i9.out] | fail)
     go_cut [193] from 117 to 193 (fun v W=>v=.bool false/\Below U.heap.size U W)
     case first =>
      go_quiet (fail)
      all_goals (go_wp2_with fail;go_meet)
      all_goals exact ⟨by first | rfl | simp,below_drewN (Below.refl _ _) _⟩
     case rest =>
      obtain ⟨rfl,y0⟩:=hcut
      have y1:Hid (Below U.heap.size U wc):=y0
      clear y0
      go_wp2
      go_roundw
      case rel=>exact ⟨i+1,by omega,by go_num,⟨r1,(i8.out.below a2.out y1.out).up,i3.out,i4.out⟩,g7.out.trans (y1.out.mono g7.out.size)⟩
      case measure=>simp [intOf];omega
    ·have f6:=f5.out i7 hb hm
     have j0:=HC.out
     clear i5 f5 HC hm hb
     go_wp2_with fail
     refine f6.mono ?_
     rintro e a3 ⟨rfl,⟨a7,f7,f8,f9,g0⟩,g6,b3⟩
     obtain ⟨U,a8⟩:∃ U,U=a3.alloc (.cells #[.int .i64 0,.int .i64 0] 46):=⟨_,rfl⟩
     have a0:Below a3.heap.size a3 U:=by rw [a8];exact (Below.refl _ _).alloc (Nat.le_refl _) _
     have s0:U.cell? ⟨a3.heap.size,0,none⟩=some (.int .i64 0):=by rw [a8];simp
     have s1:U.cell? ⟨a3.heap.size,1,none⟩=some (.int .i64 0):=by rw [a8];simp
     have a4:=Zn a7
     have D1:=(a0.cell (p:=⟨ab,13,none⟩) a4).trans a7
     have D5:=(a0.cell (p:=⟨ab,19,none⟩) a4).trans f7
     have D7:=(a0.cell (p:=⟨ab,16,none⟩) a4).trans f8
     have D8:=(a0.cell (p:=⟨ab,17,none⟩) a4).trans f9
     have D9:=(a0.cell (p:=⟨ab,18,none⟩) a4).trans g0
     have i8:Hid (Qo Ck w.heap.size B h ab (.slice q b.t.L.length D) U.heap.size U r1 r1):=(g6.below a2.out a0).up
     have g7:Hid (Below w.heap.size w U):=b3.trans (a0.mono b3.size)
     have i9:Hid (U=a3.alloc (.cells #[.int .i64 0,.int .i64 0] 46)):=a8
     clear a8 a0 a4 a7 f7 f8 f9 g0 g6 b3 f6 a2
     rcases j0 with j0 | j0
     ·skip
      go_upto_region 25 with fail
      rw [<- i9.out]
      go_wp2
      all_goals (go_roundw;(case rel=>exact ⟨i+1,by omega,by go_num,⟨r1,i8.out,i3.out,i4.out⟩,g7.out⟩);(case measure=>simp [intOf];omega))
     ·subst j0
      go_upto_region 25 with fail
      rw [<- i9.out]
      go_wp2
      all_goals (go_roundw;(case rel=>exact ⟨i+1,by omega,by go_num,⟨r1,i8.out,i3.out,i4.out⟩,g7.out⟩);(case measure=>simp [intOf];omega))
  ·clear hM hA o3 hB
   go_wp2
   go_ret
   exact ⟨rfl,o4.out⟩
theorem Jcd (K:Yr ad X Ck) (b:lN) (p:Option Addr) (j:Nat) (q:Option Addr) (y:Nat) (l:List Zb) (D:Option Addr) (G:Nat) (w:World) (I:z8 ad X b p j q y l D w):Calls prog 4 #[.int .i64 b.op,.agg #[.int .i64 b.f.n,.int .i64 b.f.k,.slice p b.f.L.length j],.agg #[.int .i64 b.t.n,.int .i64 b.t.k,.slice q b.t.L.length y],.int .i64 b.config,.string b.key,.slice D l.length G] w fun e w'=>e=.returned (.bool true)/\Below w.heap.size w w':=by
 cases J:Qk b.f with
 | true=>exact JbH K b p j q y l D G w I J
 | false =>
  cases M:Qk b.t with
  | true=>exact JbI K b p j q y l D G w I J M
  | false =>
   by_cases N:100 < b.key.size
   ·exact Jca K b p j q y l D G w I J M N
   ·cases O:X5 l with
    | false=>exact JbV K b p j q y l D G w I J M N O
    | true =>
     by_cases Q:0 < (Jg b.f).1
     ·exact JbK K b p j q y l D G w I J M N O Q
     ·by_cases U:0 < (Jg b.t).1
      ·exact JbL K b p j q y l D G w I J M N O Q U
      ·cases W:Jo b.key with
       | false=>exact JbM K b p j q y l D G w I J M N O Q U W
       | true =>
        by_cases Y:b.op < 0
        ·exact JbN K b p j q y l D G w I J M N O Q U W Y
        ·by_cases Z:b.config < 0
         ·exact JbO K b p j q y l D G w I J M N O Q U W Y Z
         ·by_cases g8:b.config=9223372036854775807
          ·exact JbP K b p j q y l D G w I J M N O Q U W Y Z g8
          ·exact Jb0 K b p j q y l D G w I J M N O Q U W ⟨by omega,by omega,by have:=I.config.2;omega⟩
end
end Go.Proofs.YtmikbldbfnlfjaaGreatDoor
