/- Texts laid together. -/
import Derived.Test.YtmikbldbfnlfjaaGreatDoorCs11
import Derived.Deep.MidRow
set_option maxRecDepth 10000
set_option maxHeartbeats 8000000
namespace Go.Proofs.YtmikbldbfnlfjaaGreatDoor
open Go.Proofs.Tryz
open Go.RowKit
variable {w W:World}{a:Act}{P:Program}{T:TypeId}{asks:ByteArray}{p:Option Addr}{b:Nat}{G K:Value}{o:Oper}{Q:Exit->Act->World->Prop}
theorem TN (j y g n i:Nat) (D G:Int) (tx I:ByteArray) (c:Nat) (w:World) (J:i < n) (s0:w.cell? ⟨y,0,none⟩=some (.slice (some ⟨g,0,none⟩) n c))
 (K:w.cell? ⟨j,0,none⟩=some (.int .i64 D)) (M:w.cell? ⟨j,1,none⟩=some (.int .i64 G)) (N:w.cell? ⟨j,2,none⟩=some (.string tx)) (O:w.cell? ⟨g,i*2,none⟩=some (.int .i64 (i:Int))) (Q:w.cell? ⟨g,i*2+1,none⟩=some (.string I)) :
 Calls prog 125 (#[.int .i64 (i:Int)] ++ #[.pointer (some ⟨j,0,none⟩),.pointer (some ⟨y,0,none⟩)]) w fun e w'=>e=.returned (.slice (some ⟨w.heap.size,0,none⟩) 1 1)/\∃ m,w'=(w.drewN m).alloc (.cells #[.int .i64 D,.int .i64 G,.int .i64 (tx.size:Int),.int .i64 (i:Int),.string I] 76):=by
 show Calls prog 125 #[.int .i64 (i:Int),.pointer (some ⟨j,0,none⟩),.pointer (some ⟨y,0,none⟩)] w _
 go_enter func125,ntmps125
 go_wp2
 refine wp_region_still_tail 10 (by kernel_rfl) (by kernel_rfl) ?_
 simp only [List.take_succ_cons,List.take_zero,List.drop_succ_cons,List.drop_zero]
 still_step
 still_step
 still_step
 still_step
 still_step
 still_step
 still_step
 still_step
 still_step
 still_step
 refine wpStill_nil ?_
 go_wp2
 go_ret
 exact ⟨rfl,1,rfl⟩
theorem MO {X:TypeId} {B h:Nat} {S S0:Nat->Prop} {a:Za} {P F T:J0} {cv:Value} {aw:ByteArray} {m:Option Nat} {D:DataW Value} {row:ByteArray->Value} (K:JF X w B h S S0 a P F T asks cv aw m D row) (d2:a.st=.keeping) (z:Addr) (hZ:w.cell? ⟨11,0,none⟩=some (.iface 252 (.pointer (some z)))):Calls prog 97 #[.pointer (some ⟨h,0,none⟩)] w fun e w'=>(∃ p c,e=.returned (.slice p (a.send JJ true).length c)/\QE c w.heap.size w' p (a.send JJ true))/\Below w.heap.size w w':=by
 obtain ⟨_,a4,d3⟩:=K.fF.yR d2
 obtain ⟨n,k,d4,b1,d5,d6,d7,hL,d8⟩:=GQ K.aN.cfg
 obtain ⟨p,cp,a5,b2,_,_,_⟩:=K.stat.aP.mem
 rw [a4] at a5 b2
 rw [hL] at a5
 have a1:a.obj=(a.tag.1,a.tag.2,a.text,true):=if_pos ⟨Or.inl d2,K.aN.aS d2⟩
 have d9:a.c.k.toNat=k:=by rw [b1];rfl
 have b3:a.send JJ true=(List.range n).map fun i=>(⟨a.name,Yc a.c.L i,JJ,a.key,a.op,a.config,false,[⟨a.tag.1,a.tag.2,(a.text.size:Int),(i:Int),JW k a.text i⟩]⟩:Zb):=by
  unfold Za.send Za.sQ
  rw [hL,d9]
  rfl
 have e5:(a.send JJ true).length=n:=by rw [b3];simp
 obtain ⟨y,a2⟩:∃ y,y=w.alloc (.cells #[.int .i64 a.tag.1,.int .i64 a.tag.2,.string a.text,.bool true] 80):=⟨_,rfl⟩
 have N:Below w.heap.size w y:=by rw [a2];exact (Below.refl _ _).alloc (Nat.le_refl _) _
 have g1:y.heap.size=w.heap.size+1:=by rw [a2];simp
 have a6:=K.below N
 have b0:y.heap[w.heap.size]?=some (.cells #[.int .i64 a.tag.1,.int .i64 a.tag.2,.string a.text,.bool true] 80 (0,0)):=by
  rw [a2]
  show (w.heap.push _)[w.heap.size]?=_
  simp
 have e6:a.text.size<=1000:=K.aN.text
 obtain ⟨tx,a7⟩:∃ tx,tx=a.text:=⟨_,rfl⟩
 rw [<- a7] at e6
 have Q:Hid (∀ W:World,Below y.heap.size y W->(W.cell? ⟨h,14,none⟩=some (.int .i64 (n:Int))/\W.cell? ⟨h,15,none⟩=some (.int .i64 (k:Int))/\W.cell? ⟨w.heap.size,2,none⟩=some (.string tx)/\Below y.heap.size y W)):=fun W G=>by
  have I:=a6.below G
  have a3:=(G.block w.heap.size (by omega)).trans b0
  refine ⟨?_,?_,?_,G⟩
  ·rw [I.cell 14,<- d4,<- a4];rfl
  ·rw [I.cell 15,<- b1,<- a4];rfl
  ·rw [a7];simp [World.cell?,a3]
 have b4:Hid (∀ W:World,(W.cell? ⟨h,14,none⟩=some (.int .i64 (n:Int))/\W.cell? ⟨h,15,none⟩=some (.int .i64 (k:Int))/\W.cell? ⟨w.heap.size,2,none⟩=some (.string tx)/\Below y.heap.size y W)->Calls prog 124 #[.int .i64 (n:Int),.int .i64 (k:Int),.string tx] W fun e w'=>∃ g,e=.returned (.tuple #[.slice (some ⟨g,0,none⟩) n n,.nilIface])/\Hid (W.heap.size<=g/\ZE w' g n (fR k tx))/\Hid (Below W.heap.size W w')/\(w'.cell? ⟨h,14,none⟩=some (.int .i64 (n:Int))/\w'.cell? ⟨h,15,none⟩=some (.int .i64 (k:Int))/\w'.cell? ⟨w.heap.size,2,none⟩=some (.string tx)/\Below y.heap.size y w')):=fun W G=>(RO n k tx z W d5 d6 d7 e6 ((N.trans (G.2.2.2.mono N.size)).cell (p:=⟨11,0,none⟩) (YC hZ) |>.trans hZ)).mono fun e w' I=>by
  obtain ⟨⟨g,h1,U,h3⟩,Y⟩:=I
  exact ⟨g,U,⟨h1,h3⟩,Y,Q.out w' (G.2.2.2.trans (Y.mono G.2.2.2.size))⟩
 have b5:=Q.out y.drew (Below.refl _ _).drew
 have g2:Hid (y=w.alloc (.cells #[.int .i64 a.tag.1,.int .i64 a.tag.2,.string a.text,.bool true] 80)):=a2
 have b6:=Q.out (y.alloc (.cells #[.slice none 0 0] 123)).drew (((Below.refl _ _).alloc (Nat.le_refl _) _).drew)
 have e7:Hid (Calls prog 124 #[.int .i64 (n:Int),.int .i64 (k:Int),.string tx] y.drew fun e w'=>∃ g,e=.returned (.tuple #[.slice (some ⟨g,0,none⟩) n n,.nilIface])/\Hid (ZE w' g n (fR k tx))/\(w'.cell? ⟨h,14,none⟩=some (.int .i64 (n:Int))/\w'.cell? ⟨h,15,none⟩=some (.int .i64 (k:Int))/\w'.cell? ⟨w.heap.size,2,none⟩=some (.string tx)/\Below y.heap.size y w')):=(b4.out y.drew b5).mono fun e w' I=>by
  obtain ⟨g,h1,U,h3,Y⟩:=I
  exact ⟨g,h1,U.out.2,Y⟩
 have e8:Hid (Calls prog 124 #[.int .i64 (n:Int),.int .i64 (k:Int),.string tx] (y.alloc (.cells #[.slice none 0 0] 123)).drew fun e w'=>∃ g,e=.returned (.tuple #[.slice (some ⟨g,0,none⟩) n n,.nilIface])/\Hid (ZE w' g n (fR k tx)/\g≠y.heap.size)/\(w'.cell? ⟨h,14,none⟩=some (.int .i64 (n:Int))/\w'.cell? ⟨h,15,none⟩=some (.int .i64 (k:Int))/\w'.cell? ⟨w.heap.size,2,none⟩=some (.string tx)/\Below y.heap.size y w')/\w'.cell? ⟨y.heap.size,0,none⟩=some (.slice none 0 0)/\w'.frozen? ⟨y.heap.size,0,none⟩=false):=(b4.out _ b6).mono fun e w' I=>by
  obtain ⟨g,h1,U,h3,Y⟩:=I
  have e9:y.heap.size < (y.alloc (.cells #[.slice none 0 0] 123)).drew.heap.size:=by show y.heap.size < (y.alloc _).heap.size;simp
  refine ⟨g,h1,⟨U.out.2,by have:=U.out.1;omega⟩,Y,(h3.out.cell (p:=⟨y.heap.size,0,none⟩) e9).trans ?_,(h3.out.frozen (p:=⟨y.heap.size,0,none⟩) e9).trans ?_⟩
  ·show (y.alloc _).cell? _=_
   rw [World.cell?_alloc_at _ _ _ _ rfl]
   rfl
  ·show (y.alloc _).frozen? _=_
   exact World.frozen?_alloc_at _ _ _ _ rfl
 have f3:Hid (∀ W:World,Below y.heap.size y W->∀ M g,W.cell? ⟨M,0,none⟩=some (.slice (some ⟨g,0,none⟩) n n)->ZE W g n (fR k tx)->Calls prog 63 #[.pointer (some ⟨h,0,none⟩),.agg #[.int .i64 T.c.n,.int .i64 T.c.k,.slice p n cp,.int .i64 T.num],.string ⟨#[107,101,101,112]⟩,.func (.func 125) #[] #[.pointer (some ⟨w.heap.size,0,none⟩),.pointer (some ⟨M,0,none⟩)]] W fun e w'=>(∃ p c,e=.returned (.slice p n c)/\QE c w.heap.size w' p (a.send JJ true))/\Below w.heap.size w w'/\Below y.heap.size y w'):=fun W G M g Z a8=>by
  have I:=a6.below G
  refine (A4 h n a.name a.key JJ a.op T.c.n T.c.k T.num a.c.L p cp 125 _ (fun i=>(⟨a.name,Yc a.c.L i,JJ,a.key,a.op,a.config,false,[⟨a.tag.1,a.tag.2,(a.text.size:Int),(i:Int),JW k a.text i⟩]⟩:Zb)) W (I.cell 0) (I.cell 1) (I.cell 2) hL ((b2.below N).below G) (by omega) (by have:=K.aN.name;omega) (by have:=K.aN.key;omega) (fun x hx=>by have:=d8 x hx;omega) (fun i _=>⟨rfl,rfl,rfl,rfl,rfl,d3.symm,rfl⟩) (fun args W=>by kernel_rfl) (fun i hi J b7=>?_)).mono fun e w' d0=>⟨by rw [b3];obtain ⟨⟨p,c,e1,e2⟩,_⟩:=d0;exact ⟨p,c,e1,e2.mono (Nat.le_trans N.size G.size)⟩,N.trans ((G.trans (d0.2.mono G.size)).mono N.size),G.trans (d0.2.mono G.size)⟩
  have f4:=a8.below b7
  have a3:=((G.trans (b7.mono G.size)).block w.heap.size (by omega)).trans b0
  have g3:J.cell? ⟨w.heap.size,0,none⟩=some (.int .i64 a.tag.1):=by simp [World.cell?,a3]
  have g4:J.cell? ⟨w.heap.size,1,none⟩=some (.int .i64 a.tag.2):=by simp [World.cell?,a3]
  have g5:J.cell? ⟨w.heap.size,2,none⟩=some (.string a.text):=by simp [World.cell?,a3]
  have r0:J.cell? ⟨g,i*2,none⟩=some (.int .i64 (i:Int)):=f4.at_ hi
  have r1:J.cell? ⟨g,i*2+1,none⟩=some (.string (JW k a.text i)):=by rw [<- a7];exact f4.text hi
  refine (TN w.heap.size M g n i a.tag.1 a.tag.2 a.text (JW k a.text i) n J hi ((b7.cell (p:=⟨M,0,none⟩) (YC Z)).trans Z) g3 g4 g5 r0 r1).mono fun e w' g6=>?_
  obtain ⟨he,mm,a9⟩:=g6
  have a0:Below J.heap.size J w':=by rw [a9];exact (below_drewN (Below.refl _ _) mm).alloc (Nat.le_refl _) _
  refine ⟨⟨(some ⟨J.heap.size,0,none⟩,1,1),he,⟨rfl,Or.inr ⟨J.heap.size,0,rfl,by rw [a9];simp,fun j x hx jj u hu=>?_⟩,Nat.le_refl _,(fun e=>by cases e)⟩,fun b o e=>?_⟩,a0⟩
  ·match j,hx with
   | 0,hx =>
    obtain rfl:(⟨a.tag.1,a.tag.2,(a.text.size:Int),(i:Int),JW k a.text i⟩:Yb)=x:=by simpa using hx
    have e0:0+0*Ze.k+jj=jj:=by simp
    rw [e0,a9,World.cell?_alloc_at (w:=J.drewN mm) _ _ J.heap.size _ rfl]
    simpa [Ze,JL] using hu
  ·obtain rfl:J.heap.size=b:=by injection e with e1;injection e1
   exact ⟨Nat.le_refl _,by rw [a9];simp⟩
 have f5:Hid (Below w.heap.size w y):=N
 have d1:Hid (∀ W:World,Below y.heap.size y W->(W.cell? ⟨h,14,none⟩=some (.int .i64 T.c.n)/\W.cell? ⟨h,15,none⟩=some (.int .i64 T.c.k)/\W.cell? ⟨h,16,none⟩=some (.slice p n cp)/\W.cell? ⟨h,17,none⟩=some (.int .i64 T.num)/\Below y.heap.size y W)):=fun W G=>by
  have I:=a6.below G
  exact ⟨I.cell 14,I.cell 15,by rw [<- a5];exact I.cell 16,I.cell 17,G⟩
 have f6:Hid (w.cell? ⟨h,21,none⟩=some (.int .i64 a.tag.1)/\w.cell? ⟨h,22,none⟩=some (.int .i64 a.tag.2)/\w.cell? ⟨h,23,none⟩=some (.string a.text)/\w.cell? ⟨h,24,none⟩=some (.bool true)):=by
  refine ⟨?_,?_,?_,?_⟩
  ·rw [K.cell 21];unfold JG;rw [a1];rfl
  ·rw [K.cell 22];unfold JG;rw [a1];rfl
  ·rw [K.cell 23];unfold JG;rw [a1];rfl
  ·rw [K.cell 24];unfold JG;rw [a1];rfl
 obtain ⟨o0,o1,o2,o3⟩:=f6.out
 rw [e5]
 clear K a6 b3 e5 b2 d8 a2 N b0 a1 hZ a7 g1 f6 a5 d3 a4 d4 b1 d9 d5 d6 d7 hL
 go_enter func97,ntmps97
 go_wp2_with (first | rw [<- g2.out] | fail)
 go_cut [4] from 10 to 27 (fun v W=>∃ M g,v=.pointer (some ⟨M,0,none⟩)/\W.cell? ⟨M,0,none⟩=some (.slice (some ⟨g,0,none⟩) n n)/\ZE W g n (fR k tx)/\Below y.heap.size y W)
 case first =>
  go_region_held3 (fun W=>(W.cell? ⟨h,14,none⟩=some (.int .i64 (n:Int))/\W.cell? ⟨h,15,none⟩=some (.int .i64 (k:Int))/\W.cell? ⟨w.heap.size,2,none⟩=some (.string tx)/\Below y.heap.size y W)) (first | with_reducible assumption | with_reducible exact b5 | with_reducible exact b6 | (with_reducible exact Q.out _ (O.2.2.2.alloc O.2.2.2.size _)) | (with_reducible exact Q.out _ (O.2.2.2.setCell (Nat.le_refl _) _))) (first | (go_at_call 124;with_reducible refine e7.out.mono ?_;rintro e w2 ⟨g,rfl,g7,O⟩) | (go_at_call 124;with_reducible refine e8.out.mono ?_;rintro e w2 ⟨g,rfl,f7,O,x1,x2⟩))
  all_goals (go_wp2_with fail;go_meet)
  ·exact ⟨w2.heap.size,g,rfl,by rw [World.cell?_alloc_at _ _ _ _ rfl];rfl,g7.out.below ((Below.refl _ _).alloc (Nat.le_refl _) _),O.2.2.2.alloc O.2.2.2.size _⟩
  ·exact ⟨y.heap.size,g,rfl,World.cell?_setCell_same _ _ _ x1,World.rowIs.of_block f7.out.1 (Below.heap_setCell _ _ _ _ f7.out.2),O.2.2.2.setCell (Nat.le_refl _) _⟩
 case rest =>
  obtain ⟨M,g,rfl,Z,a8,a0⟩:=hcut
  have f8:Hid (∀ W,Below wc.heap.size wc W->Calls prog 63 #[.pointer (some ⟨h,0,none⟩),.agg #[.int .i64 T.c.n,.int .i64 T.c.k,.slice p n cp,.int .i64 T.num],.string ⟨#[107,101,101,112]⟩,.func (.func 125) #[] #[.pointer (some ⟨w.heap.size,0,none⟩),.pointer (some ⟨M,0,none⟩)]] W fun e w'=>(∃ p c,e=.returned (.slice p n c)/\Hid (QE c w.heap.size w' p (a.send JJ true)))/\(w'.cell? ⟨h,14,none⟩=some (.int .i64 T.c.n)/\w'.cell? ⟨h,15,none⟩=some (.int .i64 T.c.k)/\w'.cell? ⟨h,16,none⟩=some (.slice p n cp)/\w'.cell? ⟨h,17,none⟩=some (.int .i64 T.num)/\Below y.heap.size y w')):=fun W G=>by
   have g8:=a0.trans (G.mono a0.size)
   refine (f3.out W g8 M g ((G.cell (p:=⟨M,0,none⟩) (YC Z)).trans Z) (a8.below G)).mono fun e w' I=>?_
   obtain ⟨⟨p2,c2,e1,e2⟩,e3,e4⟩:=I
   exact ⟨⟨p2,c2,e1,e2⟩,d1.out w' e4⟩
  obtain ⟨h5,h6,h7,h8,_⟩:=d1.out wc a0
  have f9:=f8.out wc.drew (Below.refl _ _).drew
  clear Z a8 a0 f3 Q b4 e7 e8 b5 b6 f8 d1
  go_wp2
  refine wp_region_still_tail 8 (by kernel_rfl) (by kernel_rfl) ?_
  simp only [List.take_succ_cons,List.take_zero,List.drop_succ_cons,List.drop_zero]
  still_step
  still_step
  still_step
  still_step
  still_step
  still_step
  still_step
  still_step
  refine wpStill_nil ?_
  go_wp2_with fail
  refine f9.mono ?_
  rintro e w9 ⟨⟨p9,c9,rfl,g9⟩,g0⟩
  have h0:Hid (Below w.heap.size w w9):=f5.out.trans (g0.2.2.2.2.mono f5.out.size)
  clear f9 g0
  go_wp2
  go_ret
  exact ⟨⟨p9,c9,rfl,g9.out⟩,h0.out⟩
section
variable {X:TypeId} {w w':World} {B h:Nat} {S S0:Nat->Prop} {a:Za} {P F T:J0} {asks:ByteArray} {cv:Value} {aw:ByteArray} {m:Option Nat} {D:DataW Value} {row:ByteArray->Value}
theorem jC.aG {c:Nat} (h:jC w S0 P) (O:P.v=.slice p P.c.L.length c):Yn w P.c p c:=by
 obtain ⟨Q,U,j,y,G,I,_⟩:=h.mem
 rw [O] at j
 injection j with J _ K
 subst J K
 obtain ⟨⟨_,_,W⟩,Y,_,M,_⟩:=Xm h.aN
 exact ⟨y,G,I,by omega,fun x N=>by have:=QF (M x N);omega,⟨by omega,by omega⟩,by omega,by omega⟩
theorem NZ (ad:Nat->Addr) (z:Addr) (j:JF X w B h S S0 a P F T asks cv aw m D row) (a0:a.first) (b1:a.L.flatten.length<=1000) (hE:Zp w ad) (hZ:w.cell? ⟨11,0,none⟩=some (.iface 252 (.pointer (some z)))) :
 ∃ y J mp G,cv=.func (.func y) #[] J/\F.v=.slice mp a.c.L.length G/\(∀ args W,Sem.run prog (callFunc y args) W=.ok (.enter y args) W)/\∀ W,Below w.heap.size w W->∀ p c,eU W p (Yt a a.c.L)->Calls prog y (#[.agg #[.int .i64 a.c.n,.int .i64 a.c.k,.slice mp a.c.L.length G],.slice p (Yt a a.c.L).length c] ++ J) W fun e w'=>e=.returned (.agg #[.int .i64 a.bR.tag.1,.int .i64 a.bR.tag.2,.string a.bR.text,.bool a.bR.found])/\Below W.heap.size W w':=by
 obtain ⟨⟨_,_,b2⟩,b3,_,b4,a1⟩:=Xm j.aN.cfg
 have a2:(Yt a a.c.L).length=a.c.L.length:=by unfold Yt;simp
 have Q:=J4 j.aN.both j.aN.nodup j.aN.sub
 have a3:(Yt a a.c.L).flatten=(Xq a.from_ a.L a.c.L).flatten:=B7 a a.c.L
 have a4:∀ l ∈ Yt a a.c.L,l.length<=1000:=fun l K=>by
  unfold Yt at K
  obtain ⟨x,_,rfl⟩:=List.mem_map.1 K
  by_cases N:Xu a.from_ x=true
  ·rw [if_pos N]
   have U:ZJ a.from_ x < a.L.length:=by rw [<- j.aN.both];exact lM (Zl.1 N)
   have hm:QK a x ∈ a.L:=by
    unfold QK
    rw [List.getD_eq_getElem?_getD,List.getElem?_eq_getElem U]
    exact List.getElem_mem U
   have:=KH hm
   omega
  ·rw [if_neg N];decide
 obtain ⟨_,Y,_⟩:=j.fF.rC a0
 obtain ⟨mp,G,Z,_⟩:=j.stat.fr.mem
 have a5:(Yt a a.c.L).flatten.length<=1000:=Nat.le_trans (PH j.aN.both j.aN.nodup a1) b1
 obtain ⟨y,J,h1,h2,h3⟩:=j.stat.ch a0
 refine ⟨y,J,mp,G,h1,by rw [Z,Y],h2,fun W I p c hv=>?_⟩
 have a6:qE a.put a.dT a.text a.c (Yt a a.c.L)=.agg #[.int .i64 a.bR.tag.1,.int .i64 a.bR.tag.2,.string a.bR.text,.bool a.bR.found]:=by
  unfold qE Za.bR
  by_cases M:a.put=true
  ·rw [if_pos M,if_pos M,Jqx Q]
  ·rw [if_neg M,if_neg M,a3]
 rw [<- a6]
 have a7:=j.stat.fr.aS I.size (fun k O=>I.block k (j.stat.lt k O))
 have a8:Yn W a.c mp G:=by
  have:=a7.aG Z
  rw [Y] at this
  exact this
 exact h3 W (fun k O=>I.block k (j.stat.lt k O)) ad z a.c mp G p (Yt a a.c.L) c ⟨a8,j.aN.cfg,hv,by rw [a2];omega,by omega,a5,a4,fun v a9=>by
  obtain ⟨l,K,b0⟩:=List.mem_flatten.1 ((Q v).1 a9)
  exact j.aN.cM l K v b0,hE.below I,(I.cell (p:=⟨11,0,none⟩) (YC hZ)).trans hZ⟩
end
section
variable {X:TypeId} {w w':World} {B h:Nat} {S S0:Nat->Prop} {a:Za} {P F T:J0} {asks:ByteArray} {cv:Value} {aw:ByteArray} {m:Option Nat} {D:DataW Value} {row:ByteArray->Value}
theorem CO {w:World} {j y I J M N:Value} (O:w.cell? ⟨b,0,none⟩=some J) (Q:w.cell? ⟨b,1,none⟩=some K) (U:w.cell? ⟨b,2,none⟩=some M) (W:w.cell? ⟨b,3,none⟩=some N) :
 ((((w.setCell ⟨b,0,none⟩ j).setCell ⟨b,1,none⟩ y).setCell ⟨b,2,none⟩ G).setCell ⟨b,3,none⟩ I).cell? ⟨b,0,none⟩=some j/\((((w.setCell ⟨b,0,none⟩ j).setCell ⟨b,1,none⟩ y).setCell ⟨b,2,none⟩ G).setCell ⟨b,3,none⟩ I).cell? ⟨b,1,none⟩=some y/\((((w.setCell ⟨b,0,none⟩ j).setCell ⟨b,1,none⟩ y).setCell ⟨b,2,none⟩ G).setCell ⟨b,3,none⟩ I).cell? ⟨b,2,none⟩=some G/\((((w.setCell ⟨b,0,none⟩ j).setCell ⟨b,1,none⟩ y).setCell ⟨b,2,none⟩ G).setCell ⟨b,3,none⟩ I).cell? ⟨b,3,none⟩=some I:=by
 refine ⟨?_,?_,?_,?_⟩ <;> simp [go_sem,O,Q,U,W]
theorem T5 {a a':Za} (P:J0) (aw:ByteArray) (j:Nat) (y:Value) (F T:J0) (asks:ByteArray) (cv:Value) (mb:Nat) (G:a'.name=a.name) (I:a'.key=a.key) (J:a'.op=a.op):nT ((((((JG a P aw j y F T asks cv).setIfInBounds 20 (.string a'.st.word)).setIfInBounds 21 (.int .i64 a'.obj.1)).setIfInBounds 22 (.int .i64 a'.obj.2.1)).setIfInBounds 23 (.string a'.obj.2.2.1)).setIfInBounds 24 (.bool a'.obj.2.2.2)) T iS mb=JG a' T iS (Jh T.c) (.map (some mb)) F T asks cv:=by
 unfold nT JG
 rw [G,I,J]
 generalize a.obj=K
 generalize a'.obj=M
 simp only [List.setIfInBounds_toArray,List.set_cons_zero,List.set_cons_succ]
theorem WC (ad:Nat->Addr) (hp:JF X w B h S S0 a P F T asks cv aw m D row) (x:Zb×Lv) (ht:a.aM x.1=true) (d3:a.first) (hL:Jn w x) (hv:∀ v ∈ x.1.L,Jt v) (p1:a.small x.1) (hG:∀ W:World,w.heap.size<=W.heap.size->(∀ k,k < w.heap.size->¬ S k->W.heap[k]?=w.heap[k]?)->Zp W ad/\∃ z,W.cell? ⟨11,0,none⟩=some (.iface 252 (.pointer (some z)))) :
 Calls prog 69 #[.pointer (some ⟨h,0,none⟩),.string x.1.from_,.slice x.2.1 x.2.2.1 x.2.2.2] w fun e w'=>∃ S':Nat->Prop,(∃ p c,e=.returned (.slice p (fU (a.heard x.1)).2.length c)/\Qp c (fun b=>w.heap.size<=b/\b < w'.heap.size/\¬ S' b) w' p (fU (a.heard x.1)).2)/\ZR X w' B h S' (fU (a.heard x.1)).1/\Yd S S' w w':=by
 obtain ⟨b,p2,t6,t7,hH⟩:=hp.open_ (Or.inl d3)
 subst p2
 obtain ⟨n0,i5⟩:=hH.own
 have i7:=i5.tight
 have p3:Maps.size D<=12:=by
  rw [hH.size]
  obtain ⟨⟨_,_,h3⟩,h4,_⟩:=Xm hp.aN.cfg
  have:=YS hp.aN.nodup hp.aN.sub
  omega
 have d4:=hp.lt
 obtain ⟨b1,b2,b3,b4,b5⟩:=EM p1
 have i8:=GH x.1.from_ x.2.1 x.1.L x.2.2.2 d4 (hp.cell 9) i7 (by unfold maxLen;omega) (by omega) hL.eC hL.empty (by omega) (fun v hv=>by have:=b3 v hv;omega)
 rw [hL.len]
 have f6:Hid (Calls prog 94 #[.pointer (some ⟨h,0,none⟩),.string x.1.from_,.slice x.2.1 x.1.L.length x.2.2.2] w fun e w'=>e=.returned (.tuple #[])/\∃ S1 a5 D' a0,JF X w' B h S1 a5 (a.heard x.1) P F T asks cv aw (some b) D' a0/\Yd S S1 w w'):=i8.mono fun e w' J=>by
  obtain ⟨N,v',w1,M,h3,h4⟩:=J
  exact ⟨N,hp.heard ht hv (fun _=>rfl) (by unfold maxLen;omega) M h3 h4⟩
 have a8:Hid ((a.heard x.1).first):=d3
 have i9:Hid (Jh P.c=Jh (a.heard x.1).c):=by show _=_;rw [(hp.here (Or.inl d3)).2.1];rfl
 have p5:Hid ((a.heard x.1).L.flatten.length<=1000):=by show _<=_;omega
 have g2:Hid (∀ W:World,w.heap.size<=W.heap.size->(∀ k,k < w.heap.size->¬ S k->W.heap[k]?=w.heap[k]?)->Zp W ad/\∃ z,W.cell? ⟨11,0,none⟩=some (.iface 252 (.pointer (some z)))):=hG
 clear i7 i5 hH i8 p3 hp hv d3 ht hL p1 b1 b2 b3 b4 b5 hG
 generalize a.heard x.1=a' at *
 generalize x.1.from_=mf at *
 generalize x.1.L.length=ln at *
 generalize x.2.1=lp at *
 generalize x.2.2.2=lc at *
 by_cases g3:a'.from_.length < Jh a'.c
 ·have HR:Hid (fU a'=(a',[])):=if_pos g3
  rw [HR.out]
  go_enter func69,ntmps69
  go_wp2_with fail
  refine f6.out.mono ?_
  rintro e w2 ⟨rfl,S1,a5,D',a0,hP,hU⟩
  obtain ⟨b2,g4,_,_,d5⟩:=hP.open_ (Or.inl a8.out)
  have a9:=uF (h:=h) (Jh P.c) d5 (by rw [hP.cell 9,g4];rfl) (hP.cell 8)
  have d6:decide (Jh P.c<=a'.from_.length)=false:=decide_eq_false (by rw [i9.out];omega)
  rw [d6] at a9
  have g5:Hid (JF X w2 B h S1 a5 a' P F T asks cv aw (some b) D' a0):=hP
  have g6:Hid (Yd S S1 w w2):=hU
  clear hP hU d5 d6 f6
  go_wp2_with fail
  refine a9.mono ?_
  rintro e j ⟨rfl,b6⟩
  have j0:Hid (Below w2.heap.size w2 j):=b6
  clear b6 a9
  go_wp2
  go_ret
  exact ⟨S1,⟨none,0,rfl,Qp.nil _ _⟩,⟨_,_,_,_,_,_,_,_,_,_,g5.out.below j0.out⟩,g6.out.trans (Yd.aJ j0.out)⟩
 ·go_enter func69,ntmps69
  go_wp2_with fail
  refine f6.out.mono ?_
  rintro e w2 ⟨rfl,S1,a5,D',a0,hP,hU⟩
  obtain ⟨b2,g4,_,_,d5⟩:=hP.open_ (Or.inl a8.out)
  have a9:=uF (h:=h) (Jh P.c) d5 (by rw [hP.cell 9,g4];rfl) (hP.cell 8)
  have d6:decide (Jh P.c<=a'.from_.length)=true:=decide_eq_true (by rw [i9.out];omega)
  rw [d6] at a9
  have g5:Hid (JF X w2 B h S1 a5 a' P F T asks cv aw (some b) D' a0):=hP
  have g6:Hid (Yd S S1 w w2):=hU
  clear hP hU d5 d6 f6
  go_wp2_with fail
  refine a9.mono ?_
  rintro e j ⟨rfl,b6⟩
  have f7:=g5.out.below b6
  have f8:=g6.out.trans (Yd.aJ b6)
  obtain ⟨j1,z,j2⟩:=g2.out j f8.size (fun k hk hs=>f8.block k hk hs)
  obtain ⟨G,I,mp,Z,p6,j3,t8,b7⟩:=NZ ad z f7 a8.out p5.out j1 j2
  subst p6
  obtain ⟨j5,f9,j6,g7,g8⟩:=f7.fF.rC a8.out
  have a2:Hid (JF X j B h S1 a5 a' P F T asks (.func (.func G) #[] I) aw (some b) D' a0):=f7
  have g9:Hid (Yd S S1 w j):=f8
  obtain ⟨LL,h0⟩:∃ LL,LL=Yt a' a'.c.L:=⟨_,rfl⟩
  obtain ⟨O,Q,U,b0⟩:∃ O Q U,O=a'.c.n/\Q=a'.c.k/\U=a'.c.L.length:=⟨_,_,_,rfl,rfl,rfl⟩
  rw [<- h0,<- b0.1,<- b0.2.1,<- b0.2.2] at b7
  obtain ⟨f1,f2,f3,f4,d0⟩:∃ f1 f2 f3 f4,f1=a'.bR.tag.1/\f2=a'.bR.tag.2/\f3=a'.bR.text/\f4=a'.bR.found:=⟨_,_,_,_,rfl,rfl,rfl,rfl⟩
  rw [<- d0.1,<- d0.2.1,<- d0.2.2.1,<- d0.2.2.2] at b7
  have d7:Hid (f1=a'.bR.tag.1/\f2=a'.bR.tag.2/\f3=a'.bR.text/\f4=a'.bR.found):=d0
  have HS:Hid (∀ W:World,Below j.heap.size j W->(W.cell? ⟨h,19,none⟩=some (.func (.func G) #[] I)/\W.cell? ⟨h,10,none⟩=some (.int .i64 O)/\W.cell? ⟨h,11,none⟩=some (.int .i64 Q)/\W.cell? ⟨h,12,none⟩=some (.slice mp U Z)/\Below j.heap.size j W)):=fun W hW=>⟨(a2.out.below hW).cell 19,by rw [b0.1,<- f9];exact (a2.out.below hW).cell 10,by rw [b0.2.1,<- f9];exact (a2.out.below hW).cell 11,by rw [b0.2.2,<- j3];exact (a2.out.below hW).cell 12,hW⟩
  have j8:=HS.out j.drew (Below.refl _ _).drew
  have k4:=HS.out (j.alloc (.cells #[.int .i64 0,.int .i64 0,.string ⟨#[]⟩,.bool false] 80)).drew (((Below.refl _ _).alloc (Nat.le_refl _) _).drew)
  have h6:∀ W,Below j.heap.size j W->Calls prog 96 #[.pointer (some ⟨h,0,none⟩)] W fun e w'=>(∃ p c,e=.returned (.slice p LL.length c)/\eU w' p LL)/\Below W.heap.size W w':=fun W hW=>by rw [h0];exact M1 (a2.out.below hW) a8.out
  have k5:Hid (Calls prog 96 #[.pointer (some ⟨h,0,none⟩)] j.drew fun e w'=>∃ p c,e=.returned (.slice p LL.length c)/\Hid (eU w' p LL)/\(w'.cell? ⟨h,19,none⟩=some (.func (.func G) #[] I)/\w'.cell? ⟨h,10,none⟩=some (.int .i64 O)/\w'.cell? ⟨h,11,none⟩=some (.int .i64 Q)/\w'.cell? ⟨h,12,none⟩=some (.slice mp U Z)/\Below j.heap.size j w')):=(h6 _ (Below.refl _ _).drew).mono fun e w' J=>by
   obtain ⟨⟨p,c,N,M⟩,h3⟩:=J
   exact ⟨p,c,N,M,HS.out w' ((Below.refl _ j).drew.trans h3)⟩
  have h7:j.heap.size < (j.alloc (.cells #[.int .i64 0,.int .i64 0,.string ⟨#[]⟩,.bool false] 80)).drew.heap.size:=by show j.heap.size < (j.alloc _).heap.size;simp
  have k6:(j.alloc (.cells #[.int .i64 0,.int .i64 0,.string ⟨#[]⟩,.bool false] 80)).drew.heap[j.heap.size]?=some (.cells #[.int .i64 0,.int .i64 0,.string ⟨#[]⟩,.bool false] 80 (0,0)):=by
   show (j.heap.push _)[j.heap.size]?=_
   simp
  have k7:Hid (Calls prog 96 #[.pointer (some ⟨h,0,none⟩)] (j.alloc (.cells #[.int .i64 0,.int .i64 0,.string ⟨#[]⟩,.bool false] 80)).drew fun e w'=>∃ p c,e=.returned (.slice p LL.length c)/\Hid (eU w' p LL/\w'.heap[j.heap.size]?=some (.cells #[.int .i64 0,.int .i64 0,.string ⟨#[]⟩,.bool false] 80 (0,0)))/\(w'.cell? ⟨h,19,none⟩=some (.func (.func G) #[] I)/\w'.cell? ⟨h,10,none⟩=some (.int .i64 O)/\w'.cell? ⟨h,11,none⟩=some (.int .i64 Q)/\w'.cell? ⟨h,12,none⟩=some (.slice mp U Z)/\Below j.heap.size j w')):=(h6 _ (((Below.refl _ _).alloc (Nat.le_refl _) _).drew)).mono fun e w' J=>by
   obtain ⟨⟨p,c,N,M⟩,h3⟩:=J
   exact ⟨p,c,N,⟨M,(h3.block _ h7).trans k6⟩,HS.out w' ((((Below.refl _ j).alloc (Nat.le_refl _) _).drew).trans (h3.mono (Nat.le_of_lt h7)))⟩
  have l0:Hid (∀ W p c,Hid (eU W p LL)->(W.cell? ⟨h,19,none⟩=some (.func (.func G) #[] I)/\W.cell? ⟨h,10,none⟩=some (.int .i64 O)/\W.cell? ⟨h,11,none⟩=some (.int .i64 Q)/\W.cell? ⟨h,12,none⟩=some (.slice mp U Z)/\Below j.heap.size j W)->Calls prog G (#[.agg #[.int .i64 O,.int .i64 Q,.slice mp U Z],.slice p LL.length c] ++ I) W fun e w'=>e=.returned (.agg #[.int .i64 f1,.int .i64 f2,.string f3,.bool f4])/\(w'.cell? ⟨h,19,none⟩=some (.func (.func G) #[] I)/\w'.cell? ⟨h,10,none⟩=some (.int .i64 O)/\w'.cell? ⟨h,11,none⟩=some (.int .i64 Q)/\w'.cell? ⟨h,12,none⟩=some (.slice mp U Z)/\Below j.heap.size j w')):=fun W p c hV hS=>(b7 W hS.2.2.2.2 p c hV.out).mono fun e w' J=>⟨J.1,HS.out w' (hS.2.2.2.2.trans (J.2.mono hS.2.2.2.2.size))⟩
  have l1:Hid (∀ W p c,Hid (eU W p LL)->(W.cell? ⟨h,19,none⟩=some (.func (.func G) #[] I)/\W.cell? ⟨h,10,none⟩=some (.int .i64 O)/\W.cell? ⟨h,11,none⟩=some (.int .i64 Q)/\W.cell? ⟨h,12,none⟩=some (.slice mp U Z)/\Below j.heap.size j W)->Calls prog G (#[.agg #[.int .i64 O,.int .i64 Q,.slice mp U Z],.slice p LL.length c] ++ I) (W.alloc (.cells #[.int .i64 0,.int .i64 0,.string ⟨#[]⟩,.bool false] 80)) fun e w'=>e=.returned (.agg #[.int .i64 f1,.int .i64 f2,.string f3,.bool f4])/\(w'.cell? ⟨h,19,none⟩=some (.func (.func G) #[] I)/\w'.cell? ⟨h,10,none⟩=some (.int .i64 O)/\w'.cell? ⟨h,11,none⟩=some (.int .i64 Q)/\w'.cell? ⟨h,12,none⟩=some (.slice mp U Z)/\Below j.heap.size j w')/\(w'.cell? ⟨W.heap.size,0,none⟩=some (.int .i64 0)/\w'.cell? ⟨W.heap.size,1,none⟩=some (.int .i64 0)/\w'.cell? ⟨W.heap.size,2,none⟩=some (.string ⟨#[]⟩)/\w'.cell? ⟨W.heap.size,3,none⟩=some (.bool false))/\(w'.frozen? ⟨W.heap.size,0,none⟩=false/\w'.frozen? ⟨W.heap.size,1,none⟩=false/\w'.frozen? ⟨W.heap.size,2,none⟩=false/\w'.frozen? ⟨W.heap.size,3,none⟩=false)/\Hid (j.heap.size<=W.heap.size)):=fun W p c hV hS=>by
   have l2:Below W.heap.size W (W.alloc (.cells #[.int .i64 0,.int .i64 0,.string ⟨#[]⟩,.bool false] 80)):=(Below.refl _ _).alloc (Nat.le_refl _) _
   have h8:=hS.2.2.2.2.trans (l2.mono hS.2.2.2.2.size)
   refine (b7 _ h8 p c (hV.out.below l2)).mono fun e w' J=>?_
   have K:w'.heap[W.heap.size]?=some (.cells #[.int .i64 0,.int .i64 0,.string ⟨#[]⟩,.bool false] 80 (0,0)):=(J.2.block _ (by simp)).trans (by show (W.heap.push _)[W.heap.size]?=_;simp)
   exact ⟨J.1,HS.out w' (h8.trans (J.2.mono h8.size)),⟨(Jb K 0).1,(Jb K 1).1,(Jb K 2).1,(Jb K 3).1⟩,⟨(Jb K 0).2,(Jb K 1).2,(Jb K 2).2,(Jb K 3).2⟩,hS.2.2.2.2.size⟩
  have l3:Hid (∀ W p c,Hid (eU W p LL/\W.heap[j.heap.size]?=some (.cells #[.int .i64 0,.int .i64 0,.string ⟨#[]⟩,.bool false] 80 (0,0)))->(W.cell? ⟨h,19,none⟩=some (.func (.func G) #[] I)/\W.cell? ⟨h,10,none⟩=some (.int .i64 O)/\W.cell? ⟨h,11,none⟩=some (.int .i64 Q)/\W.cell? ⟨h,12,none⟩=some (.slice mp U Z)/\Below j.heap.size j W)->Calls prog G (#[.agg #[.int .i64 O,.int .i64 Q,.slice mp U Z],.slice p LL.length c] ++ I) W fun e w'=>e=.returned (.agg #[.int .i64 f1,.int .i64 f2,.string f3,.bool f4])/\(w'.cell? ⟨h,19,none⟩=some (.func (.func G) #[] I)/\w'.cell? ⟨h,10,none⟩=some (.int .i64 O)/\w'.cell? ⟨h,11,none⟩=some (.int .i64 Q)/\w'.cell? ⟨h,12,none⟩=some (.slice mp U Z)/\Below j.heap.size j w')/\(w'.cell? ⟨j.heap.size,0,none⟩=some (.int .i64 0)/\w'.cell? ⟨j.heap.size,1,none⟩=some (.int .i64 0)/\w'.cell? ⟨j.heap.size,2,none⟩=some (.string ⟨#[]⟩)/\w'.cell? ⟨j.heap.size,3,none⟩=some (.bool false))/\(w'.frozen? ⟨j.heap.size,0,none⟩=false/\w'.frozen? ⟨j.heap.size,1,none⟩=false/\w'.frozen? ⟨j.heap.size,2,none⟩=false/\w'.frozen? ⟨j.heap.size,3,none⟩=false)):=fun W p c hV hS=>by
   refine (b7 W hS.2.2.2.2 p c hV.out.1).mono fun e w' J=>?_
   have d4:j.heap.size < W.heap.size:=by
    rcases Nat.lt_or_ge j.heap.size W.heap.size with h' | h'
    ·exact h'
    ·have:=hV.out.2;rw [Array.getElem?_eq_none h'] at this;cases this
   have K:=(J.2.block _ d4).trans hV.out.2
   exact ⟨J.1,HS.out w' (hS.2.2.2.2.trans (J.2.mono hS.2.2.2.2.size)),⟨(Jb K 0).1,(Jb K 1).1,(Jb K 2).1,(Jb K 3).1⟩,(Jb K 0).2,(Jb K 1).2,(Jb K 2).2,(Jb K 3).2⟩
  clear b6 a9 f7 f8 j1 j2 b7 h0 d0 h6 h7 k6 b0 j3
  go_wp2
  go_cut [7] from 19 to 32 (fun v W=>∃ ob,v=.pointer (some ⟨ob,0,none⟩)/\(W.cell? ⟨ob,0,none⟩=some (.int .i64 f1)/\W.cell? ⟨ob,1,none⟩=some (.int .i64 f2)/\W.cell? ⟨ob,2,none⟩=some (.string f3)/\W.cell? ⟨ob,3,none⟩=some (.bool f4))/\Below j.heap.size j W/\j.heap.size<=ob)
  case first =>
   go_region_held3 (fun W=>(W.cell? ⟨h,19,none⟩=some (.func (.func G) #[] I)/\W.cell? ⟨h,10,none⟩=some (.int .i64 O)/\W.cell? ⟨h,11,none⟩=some (.int .i64 Q)/\W.cell? ⟨h,12,none⟩=some (.slice mp U Z)/\Below j.heap.size j W)) (first | with_reducible assumption | with_reducible exact j8 | with_reducible exact k4 | (with_reducible exact HS.out _ (h9.2.2.2.2.alloc h9.2.2.2.2.size _)) | (with_reducible exact HS.out _ (a1.2.2.2.2.alloc a1.2.2.2.2.size _)) | exact HS.out _ ((((a1.2.2.2.2.setCell (by first | exact Nat.le_refl _ | exact a3.out) _).setCell (by first | exact Nat.le_refl _ | exact a3.out) _).setCell (by first | exact Nat.le_refl _ | exact a3.out) _).setCell (by first | exact Nat.le_refl _ | exact a3.out) _)) (first | (go_at_call 96;with_reducible refine k5.out.mono ?_;rintro e w4 ⟨p4,c4,rfl,p7,h9⟩) | (go_at_call 96;with_reducible refine k7.out.mono ?_;rintro e w4 ⟨p4,c4,rfl,p7,h9⟩) | (with_reducible refine (l3.out w4 p4 c4 (by with_reducible assumption) (by with_reducible assumption)).mono ?_;rintro e w5 ⟨rfl,a1,⟨k0,k1,k2,k3⟩,y0,y1,y2,y3⟩) | (with_reducible refine (l0.out w4 p4 c4 (by with_reducible assumption) (by with_reducible assumption)).mono ?_;rintro e w5 ⟨rfl,a1⟩) | (with_reducible refine (l1.out w4 p4 c4 (by with_reducible assumption) (by with_reducible assumption)).mono ?_;rintro e w5 ⟨rfl,a1,⟨k0,k1,k2,k3⟩,⟨y0,y1,y2,y3⟩,a3⟩))
   all_goals (go_wp2_with fail;go_meet)
   all_goals first
    | exact ⟨_,rfl,⟨by rw [World.cell?_alloc_at _ _ _ _ rfl];rfl,by rw [World.cell?_alloc_at _ _ _ _ rfl];rfl,by rw [World.cell?_alloc_at _ _ _ _ rfl];rfl,by rw [World.cell?_alloc_at _ _ _ _ rfl];rfl⟩,a1.2.2.2.2.alloc a1.2.2.2.2.size _,a1.2.2.2.2.size⟩
    | exact ⟨_,rfl,CO k0 k1 k2 k3,(((a1.2.2.2.2.setCell (Nat.le_refl _) _).setCell (Nat.le_refl _) _).setCell (Nat.le_refl _) _).setCell (Nat.le_refl _) _,Nat.le_refl _⟩
    | exact ⟨_,rfl,CO k0 k1 k2 k3,(((a1.2.2.2.2.setCell a3.out _).setCell a3.out _).setCell a3.out _).setCell a3.out _,a3.out⟩
  case rest =>
   obtain ⟨ob,rfl,⟨o0,o1,o2,o3⟩,g0,l7⟩:=hcut
   have y:=a2.out.below g0
   have a6:=g9.out.trans (Yd.aJ g0)
   obtain ⟨e1,e2,e3,e4,e5,e6,e7,e8,e9,l8,_⟩:=YE a'
   clear k5 k7 l0 l1 l3 j8 k4
   cases f4 with
   | false =>
    have a7:a'.bR.found=false:=d7.out.2.2.2.symm
    have HR:Hid (fU a'=({ a'.bR with st:=.done },[])):=by show _=_;unfold fU;rw [if_neg g3,if_pos a7]
    have d8:({ a'.bR with st:=.done }:Za).obj=(0,0,⟨#[]⟩,false):=if_neg (fun e=>by have:=e.2;rw [show ({ a'.bR with st:=.done }:Za).found=a'.bR.found from rfl,a7] at this;cases this)
    have l9:=wK ⟨#[100,111,110,101]⟩ 0 0 ⟨#[]⟩ false y.eK rfl
    have m0:Hid (Calls prog 67 #[.pointer (some ⟨h,0,none⟩),.string ⟨#[100,111,110,101]⟩,.agg #[.int .i64 0,.int .i64 0,.string ⟨#[]⟩,.bool false]] wc fun e w'=>e=.returned (.tuple #[])/\ZR X w' B h S1 { a'.bR with st:=.done }/\Yd S S1 w w'):=l9.mono fun e w' J=>by
     obtain ⟨N,M⟩:=J
     have d9:=yI (a:=a') (a':={ a'.bR with st:=.done }) P aw (Jh P.c) (.map (some b)) F T asks (.func (.func G) #[] I) e3 e2 e6
     rw [d8] at d9
     exact ⟨N,y.ended (cv':=.nilFunc) (a':={ a'.bR with st:=.done }) (d9 ▸ M) e1 e7 e4 ((y.aN.found a8.out).ended (Or.inl rfl)) (Or.inl rfl),a6.trans (M.nJ y.self (fun k hk=>Or.inl hk))⟩
    clear y a6 g0 l7 l9 d8 a7 e1 e2 e3 e4 e5 e6 e7 e8 e9 l8 a2 g9 j5 f9 j6 g7 g8
    go_wp2_with fail
    refine m0.out.mono ?_
    rintro e w7 ⟨rfl,m4,m5⟩
    have p8:Hid (ZR X w7 B h S1 { a'.bR with st:=.done }):=m4
    have p9:Hid (Yd S S1 w w7):=m5
    clear m4 m5 m0
    go_wp2
    go_ret
    rw [HR.out]
    exact ⟨S1,⟨none,0,rfl,Qp.nil _ _⟩,p8.out,p9.out⟩
   | true =>
    have a7:a'.bR.found=true:=d7.out.2.2.2.symm
    have HR:Hid (fU a'=(a'.bR.keeps,a'.bR.keeps.send JJ true)):=by show _=_;unfold fU;rw [if_neg g3,if_neg (by rw [a7];decide)]
    obtain ⟨s1,s2,s3,s4,s5,e0,s7,s8,s9,m6⟩:=Q2 a'.bR
    obtain ⟨t1,t2⟩:=JlY a'
    have m7:a'.bR.keeps.found=true:=s9.trans a7
    have d8:a'.bR.keeps.obj=(f1,f2,f3,true):=by
     have:a'.bR.keeps.obj=(a'.bR.keeps.tag.1,a'.bR.keeps.tag.2,a'.bR.keeps.text,true):=if_pos ⟨Or.inl e0,m7⟩
     rw [this,d7.out.1,d7.out.2.1,d7.out.2.2.1,m6,s4]
    have m8:YB X h _ wc wc:=YB.refl y.eK
    have d1:∀ i,i < 25->∃ v,wc.cell? ⟨h,i,none⟩=some v:=fun i hi=>⟨(JG a' P aw (Jh P.c) (.map (some b)) F T asks (.func (.func G) #[] I))[i]'hi,by rw [(Jb y.eK i).1];exact Array.getElem?_eq_getElem hi⟩
    obtain ⟨t9,wH⟩:=d1 20 (by decide)
    obtain ⟨u0,q0⟩:=d1 21 (by decide)
    obtain ⟨u1,q1⟩:=d1 22 (by decide)
    obtain ⟨u2,q2⟩:=d1 23 (by decide)
    obtain ⟨u3,q3⟩:=d1 24 (by decide)
    have q4:=(Jb y.eK 20).2
    have q5:=(Jb y.eK 21).2
    have q6:=(Jb y.eK 22).2
    have q7:=(Jb y.eK 23).2
    have r0:=(Jb y.eK 24).2
    have r1:h≠ob:=by have:=a2.out.lt;omega
    have u6:ob≠h:=fun e=>r1 e.symm
    obtain ⟨tp,tc,f5,_⟩:=y.stat.aP.mem
    obtain ⟨Y,i0⟩:∃ Y,Y=(((((wc.setCell ⟨h,20,none⟩ (.string ⟨#[107,101,101,112,105,110,103]⟩)).setCell ⟨h,21,none⟩ (.int .i64 f1)).setCell ⟨h,22,none⟩ (.int .i64 f2)).setCell ⟨h,23,none⟩ (.string f3)).setCell ⟨h,24,none⟩ (.bool true)).drew:=⟨_,rfl⟩
    have d2:YB X h ((((((JG a' P aw (Jh P.c) (.map (some b)) F T asks (.func (.func G) #[] I)).setIfInBounds 20 (.string ⟨#[107,101,101,112,105,110,103]⟩)).setIfInBounds 21 (.int .i64 f1)).setIfInBounds 22 (.int .i64 f2)).setIfInBounds 23 (.string f3)).setIfInBounds 24 (.bool true)) wc Y:=by rw [i0];exact (((((m8.set 20 _).set 21 _).set 22 _).set 23 _).set 24 _).below (Below.refl _ _).drew
    have r2:Y.cell? ⟨h,14,none⟩=some (.int .i64 T.c.n):=by rw [(Jb d2.eK 14).1];rfl
    have r3:Y.cell? ⟨h,15,none⟩=some (.int .i64 T.c.k):=by rw [(Jb d2.eK 15).1];rfl
    have r4:Y.cell? ⟨h,16,none⟩=some (.slice tp T.c.L.length tc):=by rw [(Jb d2.eK 16).1,<- f5];rfl
    have r5:Y.cell? ⟨h,17,none⟩=some (.int .i64 T.num):=by rw [(Jb d2.eK 17).1];rfl
    have m9:Below Y.heap.size Y Y.drew:=(Below.refl _ _).drew
    have a4:=d2.below m9
    have n1:∀ W:World,Y.drew.heap.size<=W.heap.size->(∀ k,k < Y.drew.heap.size->k≠h->W.heap[k]?=Y.drew.heap[k]?)->Yn W T.c tp tc/\Zp W ad:=fun W hs hk=>by
     have n2:∀ k,k < wc.heap.size->k≠h->W.heap[k]?=wc.heap[k]?:=fun k N M=>(hk k (Nat.lt_of_lt_of_le N a4.size) M).trans (a4.cW k N M)
     have d3:=y.stat.aP.aS (w':=W) (Nat.le_trans a4.size hs) (fun k n3=>n2 k (y.stat.lt k n3) (y.s0 k n3).2.1)
     refine ⟨d3.aG f5,(g2.out W (Nat.le_trans a6.size (Nat.le_trans a4.size hs)) (fun k N M=>?_)).1⟩
     have r6:W.heap[k]?=wc.heap[k]?:=by
      by_cases e:k=h
      ·have r7:S1 h:=y.self
       subst e
       rcases a6.new k r7 with e | e
       ·exact absurd e M
       ·omega
      ·exact n2 k (Nat.lt_of_lt_of_le N a6.size) e
     exact r6.trans (a6.block k N M)
    have i1:=ED ad T tp tc iS a4.eK rfl y.stat.aP.aN f5 n1
    rw [f5] at i1
    have n4:Hid (Calls prog 76 #[.pointer (some ⟨h,0,none⟩),.agg #[.int .i64 T.c.n,.int .i64 T.c.k,.slice tp T.c.L.length tc,.int .i64 T.num],.string ⟨#[107,101,112,116]⟩] Y.drew fun e w'=>e=.returned (.tuple #[])/\∃ S2 mb a0 D',JF X w' B h S2 a5 a'.bR.keeps T F T asks (.func (.func G) #[] I) iS (some mb) D' a0/\Yd S S2 w w'):=i1.mono fun e w' J=>by
     obtain ⟨N,mb,h5,M,h3⟩:=J
     have h4:=a4.trans M
     have d9:=T5 (a:=a') (a':=a'.bR.keeps) P aw (Jh P.c) (.map (some b)) F T asks (.func (.func G) #[] I) mb (s1.trans e3) (s2.trans e2) (s3.trans e6)
     rw [d8,e0] at d9
     have n6:T.c=a'.bR.keeps.c/\T.num=a'.bR.keeps.config:=⟨g7.trans t1.symm,g8.trans t2.symm⟩
     have n7:a'.bR.keeps.aI=a'.aI:=s5.trans e4
     obtain ⟨a0,D',hK⟩:=y.kept (a':=a'.bR.keeps) (cv':=.func (.func G) #[] I) (mb:=mb) (d9 ▸ h4) n6 (fun i2=>by
      rw [n7] at i2
      have k1:=(Zw a').1
      have k2:=(Zw a').2
      rw [i2,if_neg (by decide)] at k1 k2
      rw [t1,t2,k1,k2]
      exact y.fF.sJ i2) n7 ((y.aN.found a8.out).keeps a7 (by rw [<- n6.1];exact y.stat.aP.aN)) e0 s7 (Nat.le_trans a4.size h5) h3
     exact ⟨N,_,mb,a0,D',hK,a6.trans (h4.nJ y.self (fun k hk=>by rcases hk with hk | rfl;exact Or.inl hk;exact Or.inr (Nat.le_trans a4.size h5)))⟩
    have s6:Hid (Y=(((((wc.setCell ⟨h,20,none⟩ (.string ⟨#[107,101,101,112,105,110,103]⟩)).setCell ⟨h,21,none⟩ (.int .i64 f1)).setCell ⟨h,22,none⟩ (.int .i64 f2)).setCell ⟨h,23,none⟩ (.string f3)).setCell ⟨h,24,none⟩ (.bool true)).drew):=i0
    have t0:Hid (a'.bR.keeps.st=.keeping):=e0
    clear y a6 g0 l7 i1 d8 a7 e1 e2 e3 e4 e5 e6 e7 e8 e9 l8 a2 g9 m7 e0 m8 d1 i0 d2 a4 m9 n1 f5 j5 f9 j6 g7 g8 s1 s2 s3 s4 s5 s7 s8 s9 m6 t1 t2
    go_wp2
    go_region
    rw [<- s6.out]
    clear wH q0 q1 q2 q3 q4 q5 q6 q7 r0 o0 o1 o2 o3
    go_wp2
    refine wp_region_still_tail 7 (by kernel_rfl) (by kernel_rfl) ?_
    simp only [List.take_succ_cons,List.take_zero,List.drop_succ_cons,List.drop_zero]
    still_step
    still_step
    still_step
    still_step
    still_step
    still_step
    still_step
    refine wpStill_nil ?_
    go_wp2_with fail
    refine n4.out.mono ?_
    rintro e w9 ⟨rfl,S2,mb,t3,D9,i3,g1⟩
    obtain ⟨t4,z9,n8⟩:=g2.out w9 g1.size (fun k hk hs=>g1.block k hk hs)
    have n9:=MO i3 t0.out z9 n8
    have o4:Hid (JF X w9 B h S2 a5 a'.bR.keeps T F T asks (.func (.func G) #[] I) iS (some mb) D9 t3):=i3
    have o5:Hid (Yd S S2 w w9):=g1
    clear i3 g1 t4 n8 n4 r2 r3 r4 r5
    go_wp2_with fail
    refine n9.mono ?_
    rintro e i4 ⟨⟨o6,wH,rfl,o7⟩,o9⟩
    have t5:Hid (Qp wH (fun b=>w.heap.size<=b/\b < i4.heap.size/\¬ S2 b) i4 o6 (a'.bR.keeps.send JJ true)):=o7.out (fun b hb d4=>⟨Nat.le_trans o5.out.size hb,d4,fun hs=>by have:=(o4.out.aO b hs).2;omega⟩)
    have p0:Hid (Below w9.heap.size w9 i4):=o9
    clear o7 o9 n9
    go_wp2
    go_ret
    rw [HR.out]
    exact ⟨S2,⟨o6,wH,rfl,t5.out⟩,⟨_,_,_,_,_,_,_,_,_,_,o4.out.below p0.out⟩,o5.out.trans (Yd.aJ p0.out)⟩
end
section
variable {X:TypeId} {w w':World} {B h:Nat} {S S0:Nat->Prop} {a:Za} {P F T:J0} {asks:ByteArray} {cv:Value} {aw:ByteArray} {m:Option Nat} {D:DataW Value} {row:ByteArray->Value}
theorem Yd.since {S S':Nat->Prop} {w j w':World} (y:Below w.heap.size w j) (h:Yd S S' j w'):Yd S S' w w':=(Yd.aJ (S:=S) y).trans h
theorem E2 {a:Za} {m:Zb} (h:a.aM m=true) (y:m.shut=false) (j:a.first):a.aD m=fU (a.heard m):=by
 rcases j with j | j
 ·exact H8 h y j
 ·exact uQ h j
theorem E6 (ad:Nat->Addr) (hp:JF X w B h S S0 a P F T asks cv aw m D row) (x:Zb×Lv) (f7:a.aM x.1=true->a.st=.sealing->x.1.shut=false) (hL:Jn w x) (d8:a.small x.1) (hv:∀ v ∈ x.1.L,Jt v) (hG:∀ W:World,w.heap.size<=W.heap.size->(∀ k,k < w.heap.size->¬ S k->W.heap[k]?=w.heap[k]?)->Zp W ad/\∃ z,W.cell? ⟨11,0,none⟩=some (.iface 252 (.pointer (some z)))) :
 Calls prog 44 #[.pointer (some ⟨h,0,none⟩),.agg #[.string x.1.from_,.string x.1.aP,.string x.1.kind,.string x.1.key,.int .i64 x.1.op,.int .i64 x.1.config,.bool x.1.shut,.slice x.2.1 x.2.2.1 x.2.2.2]] w fun e w'=>∃ S':Nat->Prop,(∃ p c,e=.returned (.slice p (a.aD x.1).2.length c)/\Qp c (fun b=>w.heap.size<=b/\b < w'.heap.size/\¬ S' b) w' p (a.aD x.1).2)/\ZR X w' B h S' (a.aD x.1).1/\Yd S S' w w':=by
 obtain ⟨b1,_,_,_,_⟩:=EM d8
 have d9:=fun W (j:Below w.heap.size w W)=>N0 (hp.below j) x (by unfold maxLen;omega)
 have a5:∀ W,Below w.heap.size w W->a.aM x.1=true->x.1.shut=false->a.first->Calls prog 69 #[.pointer (some ⟨h,0,none⟩),.string x.1.from_,.slice x.2.1 x.2.2.1 x.2.2.2] W fun e w'=>∃ S':Nat->Prop,(∃ p c,e=.returned (.slice p (a.aD x.1).2.length c)/\Qp c (fun b=>w.heap.size<=b/\b < w'.heap.size/\¬ S' b) w' p (a.aD x.1).2)/\ZR X w' B h S' (a.aD x.1).1/\Yd S S' w w':=fun W j y K O=>by
  rw [E2 y K O]
  exact (WC ad (hp.below j) x y O (hL.below j) hv d8 (fun W2 hs hk=>hG W2 (Nat.le_trans j.size hs) (fun k e0 f8=>(hk k (Nat.lt_of_lt_of_le e0 j.size) f8).trans (j.block k e0)))).mono fun e w' hq=>by
   obtain ⟨S',⟨p,c,e1,e2⟩,K,O⟩:=hq
   exact ⟨S',⟨p,c,e1,e2.mono (fun b hb=>⟨Nat.le_trans j.size hb.1,hb.2⟩)⟩,K,O.since j⟩
 have a6:∀ W,Below w.heap.size w W->a.aM x.1=true->x.1.shut=false->a.st=.keeping->Calls prog 68 #[.pointer (some ⟨h,0,none⟩),.string x.1.from_] W fun e w'=>e=.returned (.tuple #[])/\∃ S',ZR X w' B h S' (a.aD x.1).1/\Yd S S' w w':=fun W j y K O=>by
  rw [uB y K O]
  exact (JnB (hp.below j) x.1 y O hv b1).mono fun e w' hq=>by
   obtain ⟨y,S',K,O⟩:=hq
   exact ⟨y,S',K,O.since j⟩
 have d5:a.aM x.1=true->x.1.shut=true->a.st≠.sealing:=fun y K e=>by rw [f7 y e] at K;cases K
 have a7:∀ W,Below w.heap.size w W->a.aM x.1=true->x.1.shut=true->Calls prog 67 #[.pointer (some ⟨h,0,none⟩),.string ⟨#[114,101,102,117,115,101,100]⟩,.agg #[.int .i64 0,.int .i64 0,.string ⟨#[]⟩,.bool false]] W fun e w'=>e=.returned (.tuple #[])/\ZR X w' B h S (a.aD x.1).1/\Yd S S w w':=fun W j y K=>by
  rw [qQ y K (d5 y K)]
  have b7:=hp.below j
  refine (wK ⟨#[114,101,102,117,115,101,100]⟩ 0 0 ⟨#[]⟩ false b7.eK rfl).mono fun e w' hq=>?_
  obtain ⟨g1,g2⟩:=hq
  have f9:({ a with st:=.refused }:Za).obj=(0,0,⟨#[]⟩,false):=if_neg (fun e=>by rcases e.1 with e | e <;> cases e)
  have e3:=yI (a:=a) (a':={ a with st:=.refused }) P aw (Jh P.c) (.map m) F T asks cv rfl rfl rfl
  rw [f9] at e3
  exact ⟨g1,b7.ended (cv':=.nilFunc) (a':={ a with st:=.refused }) (e3 ▸ g2) rfl rfl rfl (b7.aN.ended (Or.inr rfl)) (Or.inr rfl),(g2.nJ b7.self (fun k hk=>Or.inl hk)).since j⟩
 have e4:∀ W,Below w.heap.size w W->ZR X W B h S a:=fun W j=>⟨_,_,_,_,_,_,_,_,_,_,hp.below j⟩
 have a3:∀ W,Below w.heap.size w W->W.cell? ⟨h,20,none⟩=some (.string a.st.word):=fun W j=>(hp.below j).cell 20
 have e5:a.aM x.1=false->a.aD x.1=(a,[]):=pW
 have a8:a.aM x.1=true->x.1.shut=true->(a.aD x.1).2=[]:=fun y K=>by rw [qQ y K (d5 y K)]
 have a9:a.aM x.1=true->x.1.shut=false->a.st=.keeping->(a.aD x.1).2=[]:=fun y K O=>by rw [uB y K O]
 have b0:a.aM x.1=true->a.first∨a.st=.keeping:=fun y=>(Z9 y).1
 clear hp hL d8 hv hG b1 d5 f7
 obtain ⟨⟨m1,m2,m3,G,I,J,Q,M⟩,lp,ln,lc⟩:=x
 dsimp only at *
 obtain ⟨U,b2⟩:∃ U,U=w.alloc (.cells #[.string m1,.string m2,.string m3,.string G,.int .i64 I,.int .i64 J,.bool Q,.slice lp ln lc] 57):=⟨_,rfl⟩
 have d0:Below w.heap.size w U:=by rw [b2];exact (Below.refl _ _).alloc (Nat.le_refl _) _
 have e6:w.heap.size < U.heap.size:=by rw [b2];simp
 have Y:U.heap[w.heap.size]?=some (.cells #[.string m1,.string m2,.string m3,.string G,.int .i64 I,.int .i64 J,.bool Q,.slice lp ln lc] 57 (0,0)):=by
  rw [b2]
  show (w.heap.push _)[w.heap.size]?=_
  simp
 have g0:=(Jb Y 0).1
 have g1:=(Jb Y 1).1
 have g2:=(Jb Y 2).1
 have g3:=(Jb Y 3).1
 have g4:=(Jb Y 4).1
 have g5:=(Jb Y 5).1
 have g6:=(Jb Y 6).1
 have g7:=(Jb Y 7).1
 have d1:Hid (U=w.alloc (.cells #[.string m1,.string m2,.string m3,.string G,.int .i64 I,.int .i64 J,.bool Q,.slice lp ln lc] 57)):=b2
 have Z:Calls prog 66 #[.pointer (some ⟨h,0,none⟩),.agg #[.string m1,.string m2,.string m3,.string G,.int .i64 I,.int .i64 J,.bool Q,.slice lp ln lc]] U.drew fun e w'=>e=.returned (.bool (a.aM ⟨m1,m2,m3,G,I,J,Q,M⟩))/\(w'.cell? ⟨w.heap.size,0,none⟩=some (.string m1)/\w'.cell? ⟨w.heap.size,6,none⟩=some (.bool Q)/\w'.cell? ⟨w.heap.size,7,none⟩=some (.slice lp ln lc))/\Hid (Below w.heap.size w w'):=(d9 U.drew d0.drew).mono fun e w' hq=>by
  have j:Below U.heap.size U w':=(Below.refl _ U).drew.trans hq.2
  have hb:=(j.block _ e6).trans Y
  exact ⟨hq.1,⟨(Jb hb 0).1,(Jb hb 6).1,(Jb hb 7).1⟩,d0.trans (j.mono d0.size)⟩
 have b3:Hid (a.aM ⟨m1,m2,m3,G,I,J,Q,M⟩=false->a.aD ⟨m1,m2,m3,G,I,J,Q,M⟩=(a,[])):=e5
 have d2:Hid (∀ W,Below w.heap.size w W->ZR X W B h S a):=e4
 clear b2 d0 e6 Y d9 e5 e4
 by_cases N:a.aM ⟨m1,m2,m3,G,I,J,Q,M⟩=true
 ·rw [N] at Z
  have d3:=b0 N
  cases Q with
  | true =>
   have e7:Hid (∀ W,Below w.heap.size w W->Calls prog 67 #[.pointer (some ⟨h,0,none⟩),.string ⟨#[114,101,102,117,115,101,100]⟩,.agg #[.int .i64 0,.int .i64 0,.string ⟨#[]⟩,.bool false]] W fun e w'=>e=.returned (.tuple #[])/\ZR X w' B h S (a.aD ⟨m1,m2,m3,G,I,J,true,M⟩).1/\Yd S S w w'):=fun W j=>a7 W j N rfl
   have d6:Hid ((a.aD ⟨m1,m2,m3,G,I,J,true,M⟩).2=[]):=a8 N rfl
   clear a5 a6 a7 a8 a9 b0 N d3 b3 d2 a3
   generalize a.aD ⟨m1,m2,m3,G,I,J,true,M⟩=R at *
   go_enter func44,ntmps44
   go_wp2
   rw [<- d1.out]
   refine wp_region_still_tail 4 (by kernel_rfl) (by kernel_rfl) ?_
   simp only [List.take_succ_cons,List.take_zero,List.drop_succ_cons,List.drop_zero]
   still_step
   still_step
   still_step
   still_step
   refine wpStill_nil ?_
   go_wp2_with fail
   refine Z.mono ?_
   rintro e w2 ⟨rfl,⟨k0,k6,k7⟩,a0⟩
   have e8:=e7.out w2 a0.out
   clear Z e7 g0 g1 g2 g3 g4 g5 g6 g7
   go_wp2_with fail
   refine e8.mono ?_
   rintro e w3 ⟨rfl,a1,a2⟩
   have b4:Hid (ZR X w3 B h S R.1):=a1
   have b5:Hid (Yd S S w w3):=a2
   clear a1 a2 e8
   go_wp2
   go_ret
   rw [d6.out]
   exact ⟨S,⟨none,0,rfl,Qp.nil _ _⟩,b4.out,b5.out⟩
  | false =>
   by_cases a4:a.st=.keeping
   ·have e9:Hid (∀ W,Below w.heap.size w W->Calls prog 68 #[.pointer (some ⟨h,0,none⟩),.string m1] W fun e w'=>e=.returned (.tuple #[])/\∃ S',ZR X w' B h S' (a.aD ⟨m1,m2,m3,G,I,J,false,M⟩).1/\Yd S S' w w'):=fun W j=>a6 W j N rfl a4
    have d6:Hid ((a.aD ⟨m1,m2,m3,G,I,J,false,M⟩).2=[]):=a9 N rfl a4
    have b6:Hid (∀ W,Below w.heap.size w W->W.cell? ⟨h,20,none⟩=some (.string ⟨#[107,101,101,112,105,110,103]⟩)):=fun W j=>by rw [a3 W j,a4];rfl
    clear a5 a6 a7 a8 a9 b0 N d3 b3 d2 a3 a4
    generalize a.aD ⟨m1,m2,m3,G,I,J,false,M⟩=R at *
    go_enter func44,ntmps44
    go_wp2
    rw [<- d1.out]
    refine wp_region_still_tail 4 (by kernel_rfl) (by kernel_rfl) ?_
    simp only [List.take_succ_cons,List.take_zero,List.drop_succ_cons,List.drop_zero]
    still_step
    still_step
    still_step
    still_step
    refine wpStill_nil ?_
    go_wp2_with fail
    refine Z.mono ?_
    rintro e w2 ⟨rfl,⟨k0,k6,k7⟩,a0⟩
    have f3:=e9.out w2 a0.out
    have g8:=b6.out w2 a0.out
    clear Z e9 b6 g0 g1 g2 g3 g4 g5 g6 g7
    go_wp2_with fail
    refine f3.mono ?_
    rintro e w3 ⟨rfl,S3,a1,a2⟩
    have b4:Hid (ZR X w3 B h S3 R.1):=a1
    have b5:Hid (Yd S S3 w w3):=a2
    clear a1 a2 f3
    go_wp2
    go_ret
    rw [d6.out]
    exact ⟨S3,⟨none,0,rfl,Qp.nil _ _⟩,b4.out,b5.out⟩
   ·have d4:a.first:=by rcases d3 with e | e;exact e;exact absurd e a4
    have f4:Hid (∀ W,Below w.heap.size w W->Calls prog 69 #[.pointer (some ⟨h,0,none⟩),.string m1,.slice lp ln lc] W fun e w'=>∃ S':Nat->Prop,(∃ p c,e=.returned (.slice p (a.aD ⟨m1,m2,m3,G,I,J,false,M⟩).2.length c)/\Qp c (fun b=>w.heap.size<=b/\b < w'.heap.size/\¬ S' b) w' p (a.aD ⟨m1,m2,m3,G,I,J,false,M⟩).2)/\ZR X w' B h S' (a.aD ⟨m1,m2,m3,G,I,J,false,M⟩).1/\Yd S S' w w'):=fun W j=>a5 W j N rfl d4
    have h0:¬ a.st.word.toList=[107,101,101,112,105,110,103]:=by
     rcases d4 with e | e <;> rw [e] <;> decide +kernel
    have h4:(a.st.word.toList==[107,101,101,112,105,110,103])=false:=by
     rcases d4 with e | e <;> rw [e] <;> decide +kernel
    clear a5 a6 a7 a8 a9 b0 N d3 b3 d2 d4 a4
    generalize a.aD ⟨m1,m2,m3,G,I,J,false,M⟩=R at *
    generalize a.st.word=sw at *
    have b6:Hid (∀ W,Below w.heap.size w W->W.cell? ⟨h,20,none⟩=some (.string sw)):=a3
    clear a3
    go_enter func44,ntmps44
    go_wp2
    rw [<- d1.out]
    refine wp_region_still_tail 4 (by kernel_rfl) (by kernel_rfl) ?_
    simp only [List.take_succ_cons,List.take_zero,List.drop_succ_cons,List.drop_zero]
    still_step
    still_step
    still_step
    still_step
    refine wpStill_nil ?_
    go_wp2_with fail
    refine Z.mono ?_
    rintro e w2 ⟨rfl,⟨k0,k6,k7⟩,a0⟩
    have f5:=f4.out w2 a0.out
    have g8:=b6.out w2 a0.out
    clear Z f4 b6 g0 g1 g2 g3 g4 g5 g6 g7
    go_wp2_with fail
    refine f5.mono ?_
    rintro e w3 ⟨S3,⟨p3,c3,rfl,f6⟩,a1,a2⟩
    have g9:Hid (Qp c3 (fun b=>w.heap.size<=b/\b < w3.heap.size/\¬ S3 b) w3 p3 R.2):=f6
    have b4:Hid (ZR X w3 B h S3 R.1):=a1
    have b5:Hid (Yd S S3 w w3):=a2
    clear f6 a1 a2 f5
    go_wp2
    go_ret
    exact ⟨S3,⟨p3,c3,rfl,g9.out⟩,b4.out,b5.out⟩
 ·have d7:a.aM ⟨m1,m2,m3,G,I,J,Q,M⟩=false:=Bool.eq_false_iff.2 N
  rw [d7] at Z
  have HR:=b3.out d7
  rw [HR]
  clear a5 a6 a7 a8 a9 b0 N d7 b3 a3 HR
  go_enter func44,ntmps44
  go_wp2
  rw [<- d1.out]
  refine wp_region_still_tail 4 (by kernel_rfl) (by kernel_rfl) ?_
  simp only [List.take_succ_cons,List.take_zero,List.drop_succ_cons,List.drop_zero]
  still_step
  still_step
  still_step
  still_step
  refine wpStill_nil ?_
  go_wp2_with fail
  refine Z.mono ?_
  rintro e w2 ⟨rfl,⟨k0,k6,k7⟩,a0⟩
  clear Z g0 g1 g2 g3 g4 g5 g6 g7
  go_wp2
  go_ret
  exact ⟨S,⟨none,0,rfl,Qp.nil _ _⟩,d2.out w2 a0.out,Yd.aJ a0.out⟩
end
theorem DJ (num:Int) (c:Xg) (p:Option Addr) (G:Nat) (w:World) (Y:Yn w c p G) (hn:1<=c.L.length):Calls prog 75 #[.agg #[.int .i64 c.n,.int .i64 c.k,.slice p c.L.length G,.int .i64 num]] w fun e w'=>(∃ g,e=.returned (.agg #[.int .i64 c.n,.int .i64 c.k,.slice (some ⟨g,0,none⟩) c.L.length c.L.length,.int .i64 num])/\Strs w' (some ⟨g,0,none⟩) c.L/\w.heap.size<=g/\g < w'.heap.size)/\Below w.heap.size w w':=by
 obtain ⟨y,K⟩:∃ y,y=(w.alloc (.cells #[.int .i64 c.n,.int .i64 c.k,.slice p c.L.length G,.int .i64 num] 88)).alloc (.cells #[.int .i64 0,.int .i64 0,.slice none 0 0,.int .i64 0] 88):=⟨_,rfl⟩
 have Z:Below w.heap.size w y:=by rw [K];exact ((Below.refl _ _).alloc (Nat.le_refl _) _).alloc (by simp) _
 have a7:y.heap.size=w.heap.size+1+1:=by rw [K];simp
 have a0:y.heap[w.heap.size]?=some (.cells #[.int .i64 c.n,.int .i64 c.k,.slice p c.L.length G,.int .i64 num] 88 (0,0)):=by
  rw [K,Below.heap_alloc _ _ _ (by simp)]
  show (w.heap.push _)[w.heap.size]?=_
  simp
 have a8:y.heap[w.heap.size+1]?=some (.cells #[.int .i64 0,.int .i64 0,.slice none 0 0,.int .i64 0] 88 (0,0)):=by
  rw [K]
  show ((w.alloc _).heap.push _)[w.heap.size+1]?=_
  have e:w.heap.size+1=(w.alloc (.cells #[.int .i64 c.n,.int .i64 c.k,.slice p c.L.length G,.int .i64 num] 88)).heap.size:=by simp
  rw [Array.getElem?_push,if_pos e]
 obtain ⟨i1,a9,b0,b1,b2⟩:=info_parts CR
 have f7:c.L.length<=1000:=Y.len
 have b3:∀ W:World,Sem.run prog (Instr.makeSlice 22 (.int .i64 (c.L.length:Int)) (.int .i64 (c.L.length:Int))) W=.ok (.slice (some ⟨W.heap.size,0,none⟩) c.L.length c.L.length) (W.alloc (.cells (madeCells #[.string ⟨#[]⟩] c.L.length) 9)):=fun W=>run_make_row (P:=prog) 22 9 i1 (.string ⟨#[]⟩) underlying22 a9 b0 b1 rfl .i64 .i64 c.L.length (by rw [b2];omega) (by omega) W
 have d7:Hid (Strs y p c.L):=Y.strs.below Z
 have d8:Hid (∀ x ∈ c.L,x.size<=1000):=Y.size
 have d9:Hid (∀ s:ByteArray,s.size<=1000000->∀ W,Calls prog 33 #[.string s] W fun e w'=>e=.returned (.string s)/\Below W.heap.size W w'):=fun s hs W=>Xs s W (by omega)
 have a1:Hid (∀ W,Below y.heap.size y W->W.heap[w.heap.size]?=some (.cells #[.int .i64 c.n,.int .i64 c.k,.slice p c.L.length G,.int .i64 num] 88 (0,0))/\W.heap[w.heap.size+1]?=some (.cells #[.int .i64 0,.int .i64 0,.slice none 0 0,.int .i64 0] 88 (0,0))):=fun W hW=>⟨(hW.block _ (by omega)).trans a0,(hW.block _ (by omega)).trans a8⟩
 have k2:y.cell? ⟨w.heap.size,2,none⟩=some (.slice p c.L.length G):=by simp [World.cell?,a0]
 obtain ⟨I,O⟩:∃ I,I=y.alloc (.cells (madeCells #[.string ⟨#[]⟩] c.L.length) 9):=⟨_,rfl⟩
 have b4:I.rowIs y.heap.size 9 c.L.length (fun _=>.string ⟨#[]⟩):=by rw [O];exact World.rowIs_made y _ c.L.length _
 have a2:Below y.heap.size y I:=by rw [O];exact (Below.refl _ _).alloc (Nat.le_refl _) _
 have k3:I.cell? ⟨w.heap.size,2,none⟩=some (.slice p c.L.length G):=by simp [World.cell?,(a1.out I a2).1]
 have e2:Hid (y=(w.alloc (.cells #[.int .i64 c.n,.int .i64 c.k,.slice p c.L.length G,.int .i64 num] 88)).alloc (.cells #[.int .i64 0,.int .i64 0,.slice none 0 0,.int .i64 0] 88)):=K
 have e3:Hid (I=y.alloc (.cells (madeCells #[.string ⟨#[]⟩] c.L.length) 9)):=O
 have e4:Hid (I.rowIs y.heap.size 9 c.L.length (fun _=>.string ⟨#[]⟩)):=b4
 have e5:Hid (Below y.heap.size y I):=a2
 have a3:Hid (Below w.heap.size w y):=Z
 have b5:Hid (y.heap.size=w.heap.size+1+1):=a7
 have f8:w.heap.size+1 < y.heap.size:=by omega
 clear Y K O a0 a8 b4 a2 Z a7 a9 b0 b1 b2
 go_enter func75,ntmps75
 go_wp2_with (first | rw [<- e2.out] | rw [<- e3.out])
 go_loopw [15] (fun x wr=>∃ i:Nat,i<=c.L.length/\x=.int .i64 i/\wr.rowIs y.heap.size 9 c.L.length (fun q=>if q < i then .string (Yc c.L q) else .string ⟨#[]⟩)/\Below y.heap.size y wr) (fun x _=>c.L.length - (intOf x).toNat)
 case atStart=>exact ⟨0,Nat.zero_le _,rfl,e4.out.congr (fun q _=>by simp),e5.out⟩
 case round =>
  obtain ⟨i,hi,rfl,Q,hB⟩:=hrel
  obtain ⟨D,rfl⟩:∃ D,D=wr:=⟨_,rfl⟩
  have HS:Hid (D.rowIs y.heap.size 9 c.L.length (fun q=>if q < i then .string (Yc c.L q) else .string ⟨#[]⟩)):=Q
  have HB:Hid (Below y.heap.size y D):=hB
  by_cases M:i < c.L.length
  ·rcases d7.out.below hB with h0 | ⟨b,o,e6,f9,b6⟩
   ·rw [h0] at M;exact absurd M (Nat.not_lt_zero _)
   have q1:=b6 i M
   have b7:(Yc c.L i).size<=1000000:=by
    rw [Xk c.L i M]
    have:=d8.out _ (List.getElem_mem M)
    omega
   have a4:=d9.out _ b7 D
   have e7:Hid (Yc c.L i=Yc c.L i):=by show _=_;rfl
   generalize d4:Yc c.L i=t at a4 q1
   have e8:Hid (Yc c.L i=t):=d4
   subst e6
   clear b6 b7 e7 d4 Q hB
   go_wp2_with fail
   refine a4.mono ?_
   rintro e U ⟨rfl,a5⟩
   have X:=yN HS.out a5
   have qs:U.cell? ⟨y.heap.size,i,none⟩=some (.string ⟨#[]⟩):=by rw [X.cell M,if_neg (Nat.lt_irrefl _)]
   have qf:U.frozen? ⟨y.heap.size,i,none⟩=false:=X.frozen i
   have e9:Hid (U.rowIs y.heap.size 9 c.L.length (fun q=>if q < i then .string (Yc c.L q) else .string ⟨#[]⟩)):=X
   have f3:Hid (Below y.heap.size y U):=HB.out.trans (a5.mono HB.out.size)
   clear X a5 a4 q1 b3
   go_wp2
   go_roundw
   case rel =>
    refine ⟨i+1,by omega,by go_num,(e9.out.set i _).congr (fun q _=>?_),f3.out.setCell (Nat.le_refl _) _⟩
    by_cases e:q=i
    ·rw [if_pos e,if_pos (by omega),e,e8.out]
    ·rw [if_neg e]
     by_cases e':q < i
     ·rw [if_pos e',if_pos (by omega)]
     ·rw [if_neg e',if_neg (by omega)]
   case measure=>simp [intOf];omega
  ·have g4:i=c.L.length:=by omega
   obtain ⟨N,J⟩:=a1.out D hB
   have c0:D.cell? ⟨w.heap.size,0,none⟩=some (.int .i64 c.n):=by simp [World.cell?,N]
   have c1:D.cell? ⟨w.heap.size,1,none⟩=some (.int .i64 c.k):=by simp [World.cell?,N]
   have c2:D.cell? ⟨w.heap.size,2,none⟩=some (.slice p c.L.length G):=by simp [World.cell?,N]
   have f2:D.frozen? ⟨w.heap.size,2,none⟩=false:=by simp [World.frozen?,N]
   have c3:D.cell? ⟨w.heap.size,3,none⟩=some (.int .i64 num):=by simp [World.cell?,N]
   have d3:D.cell? ⟨w.heap.size+1,3,none⟩=some (.int .i64 0):=by simp [World.cell?,J]
   have g3:D.frozen? ⟨w.heap.size+1,3,none⟩=false:=by simp [World.frozen?,J]
   have d0:D.cell? ⟨w.heap.size+1,0,none⟩=some (.int .i64 0):=by simp [World.cell?,J]
   have d1:D.cell? ⟨w.heap.size+1,1,none⟩=some (.int .i64 0):=by simp [World.cell?,J]
   have d2:D.cell? ⟨w.heap.size+1,2,none⟩=some (.slice none 0 0):=by simp [World.cell?,J]
   have g0:D.frozen? ⟨w.heap.size+1,0,none⟩=false:=by simp [World.frozen?,J]
   have g1:D.frozen? ⟨w.heap.size+1,1,none⟩=false:=by simp [World.frozen?,J]
   have g2:D.frozen? ⟨w.heap.size+1,2,none⟩=false:=by simp [World.frozen?,J]
   have a6:D.rowIs y.heap.size 9 c.L.length (fun q=>.string (Yc c.L q)):=Q.congr (fun q hq=>by rw [if_pos (by omega)])
   have f4:y.heap.size < D.heap.size:=a6.lt
   have d5:Below w.heap.size w D:=a3.out.trans (hB.mono a3.out.size)
   have f5:Hid (∀ W:World,W.heap.size=D.heap.size->(∀ k,k≠w.heap.size->k≠w.heap.size+1->W.heap[k]?=D.heap[k]?)->Strs W (some ⟨y.heap.size,0,none⟩) c.L):=fun W g5 hk=>by
    refine Or.inr ⟨y.heap.size,0,rfl,by omega,fun j hj=>?_⟩
    rw [Nat.zero_add,World.cell?_of_block (a:=⟨y.heap.size,j,none⟩) (hk y.heap.size (by have:=b5.out;omega) (by have:=b5.out;omega))]
    exact a6.cell hj
   have f6:Hid (Below w.heap.size w D):=d5
   have d6:Hid (w.heap.size<=y.heap.size/\y.heap.size < D.heap.size):=⟨a3.out.size,f4⟩
   have g6:w.heap.size≠w.heap.size+1:=by omega
   clear Q hB a6 N J d5 HS b3 a1
   go_wp2
   refine bodyPost_ret (v:=.agg #[.int .i64 c.n,.int .i64 c.k,.slice (some ⟨y.heap.size,0,none⟩) c.L.length c.L.length,.int .i64 num]) (by simp [results,results75,go_sem,d0,d1,d2,d3]) rfl ⟨⟨y.heap.size,rfl,?_,d6.out.1,?_⟩,?_⟩
   ·refine f5.out _ (by simp [World.setCell]) fun k h1 h2=>?_
    simp [Below.heap_setCell,h1,h2]
   ·simpa [World.setCell] using d6.out.2
   ·exact ((((f6.out.setCell (Nat.le_refl _) _).setCell (by show w.heap.size<=w.heap.size+1;omega) _).setCell (by show w.heap.size<=w.heap.size+1;omega) _).setCell (by show w.heap.size<=w.heap.size+1;omega) _).setCell (by show w.heap.size<=w.heap.size+1;omega) _
def Xz (f t:Xg) (key:ByteArray) (op j y:Int):Int×Int:=if 0 < (Jg f).1 then Jg f else if 0 < (Jg t).1 then Jg t else if Jo key=false then (4,-1) else if 0<=op/\0<=j/\0<=y then (0,-1) else (2,-1)
def Jj:Array Value:=#[.string ⟨#[]⟩,.string ⟨#[]⟩,.int .i64 0,.int .i64 0,.int .i64 0,.slice none 0 0,.int .i64 0,.string ⟨#[]⟩,.int .i64 0,.map none,.int .i64 0,.int .i64 0,.slice none 0 0,.int .i64 0,.int .i64 0,.int .i64 0,.slice none 0 0,.int .i64 0,.string ⟨#[]⟩,.nilFunc,.string ⟨#[]⟩,.int .i64 0,.int .i64 0,.string ⟨#[]⟩,.bool false]
def lD (nm key:ByteArray) (op:Int) (f:Xg) (fv:Value) (j:Int) (t:Xg) (y:Value) (D:Int) (asks told st:ByteArray) (G:Value):Array Value:=#[.string nm,.string key,.int .i64 op,.int .i64 f.n,.int .i64 f.k,fv,.int .i64 j,.int .i64 t.n,.int .i64 t.k,y,.int .i64 D,.string asks,.string told,.string st,G]
theorem XZ  {y:Array Value} (cells:Array Value) (D:W.heap[b]?=some (.cells y T (0,0))):(W.setRow b cells).heap[b]?=some (.cells cells T (0,0))/\(W.setRow b cells).heap.size=W.heap.size/\(∀ k,k≠b->(W.setRow b cells).heap[k]?=W.heap[k]?)/\(W.setRow b cells).os=W.os/\(W.setRow b cells).tape=W.tape/\(W.setRow b cells).output=W.output:=by
 refine ⟨?_,by simp [World.setRow],fun k j=>?_,rfl,rfl,rfl⟩
 ·simp [World.setRow,Array.getElem?_modify,D]
 ·have:b≠k:=fun e=>j e.symm
  simp [World.setRow,Array.getElem?_modify,this]
theorem nQ:Jj.all (·.oneCell')=true:=by unfold Jj;simp [Value.oneCell']
theorem YI:(prog.info? 93).map (·.size)=some Jj.size:=by kernel_rfl
theorem XR {G:Array Oper} {I:List Oper}   (K:o.guard=none) (j:TypeId) (x y:Operand) (M:o.op=.store j x y) (g:Nat) (cells:Array Value) (N:a.eval x=.pointer (some ⟨g,0,none⟩)) (O:a.eval y=.agg cells) (t:TypeId) (D:Array Value) (U:w.heap[g]?=some (.cells D t (0,0))) (W:(P.info? j).map (·.size)=some cells.size) (X:D.size=cells.size) (Y:cells.all (·.oneCell')=true) (h:wpList P G Q I (a.put o.dst undef) (w.setRow g cells)):wpList P G Q (o :: I) a w :=
 wpList_plain K fun _ J=>wp_store_row j x y M g cells N O t D U W X Y (J _ _ h)
theorem ZB {G:Array Oper}  {K:Act->World->Prop} {I:Prop} (J:o.guard=none) (j:TypeId) (x y:Operand) (M:o.op=.store j x y) (g:Nat) (cells:Array Value) (N:a.eval x=.pointer (some ⟨g,0,none⟩)) (O:a.eval y=.agg cells) (t:TypeId) (D:Array Value) (U:w.heap[g]?=some (.cells D t (0,0))) (W:(P.info? j).map (·.size)=some cells.size) (X:D.size=cells.size) (Y:cells.all (·.oneCell')=true) (h:K (a.put o.dst undef) (w.setRow g cells)):if Region.wanted o (yielded G a.tmps)=true then Oper.wp P o a w K Q else I:=by
 rw [if_pos (by simp [Region.wanted,J])]
 exact wp_store_row j x y M g cells N O t D U W X Y h
theorem qV {M:TypeId}  {cells:Array Value} {D:Array Value} {G:Func} {v:Value} {d:TypeDesc} (N:G.results=#[.cell 2 T,.tmp 3]) (I:D.getD 2 undef=.pointer (some ⟨b,0,none⟩)) (J:D.getD 3 undef=v) (O:W.heap[b]?=some (.cells cells M (0,0))) (y:P.underlying T=some d) (Q:d.isRow=true) (U:(P.info? T).map (·.size)=some cells.size):(results G D).run P W=.ok (.tuple #[.agg cells,v]) W:=by
 have K:=run_loadVar_mid (P:=P) W b 0 T cells.toList d (fun j u y=>by rw [Nat.zero_add];simp [World.cell?,O];simpa using y) y Q (by simpa using U)
 unfold results
 rw [N]
 simp only [Array.getD_eq_getD_getElem?] at I J
 simp [I,J,asAddr,K,Result.andThen]
theorem Jd.off {w':World} {ad:Nat->Addr} {c at_:Int} {s:ByteArray} (h:Jd w ad G c at_) (O:w.cell? ⟨b,0,none⟩=Option.some (Value.string s)) (I:∀ k,k≠b->w'.heap[k]?=w.heap[k]?):Jd w' ad G c at_:=by
 rcases h with h | h | ⟨i,j,J,K,M,y,N⟩
 ·exact Or.inl h
 ·exact Or.inr (Or.inl h)
 ·have D : j ≠ b := fun e => by
   subst e
   rw [O] at y
   cases y
  exact Or.inr (Or.inr ⟨i,j,J,K,M,(World.cell?_of_block (a:=⟨j,0,none⟩) (I j D)).trans y,(World.cell?_of_block (a:=⟨j,1,none⟩) (I j D)).trans N⟩)
theorem YG  {o:Obj} (h:W.heap[b]?=some o):b < W.heap.size:=by
 rcases Nat.lt_or_ge b W.heap.size with j | j
 ·exact j
 ·rw [Array.getElem?_eq_none j] at h;cases h
structure iH (w W:World) (nm key:ByteArray) (op:Int) (f:Xg) (p:Option Addr) (cap:Nat) (fn:Int) (t:Xg) (q:Option Addr) (cap2:Nat) (tn:Int) (asks told st:ByteArray) (cv:Value):Prop where
 pl:W.heap[w.heap.size]?=some (.cells (lD nm key op f (.slice p f.L.length cap) fn t (.slice q t.L.length cap2) tn asks told st cv) 104 (0,0))
 rs:W.heap[w.heap.size+1]?=some (.cells Jj 93 (0,0))
 be:Below w.heap.size w W
theorem iH.below {y:World} {nm key:ByteArray} {op:Int} {f:Xg} {D:Nat} {G:Int} {t:Xg} {q:Option Addr} {I:Nat} {J:Int} {told st:ByteArray} (h:iH w W nm key op f p D G t q I J asks told st K) (j:Below W.heap.size W y):iH w y nm key op f p D G t q I J asks told st K:=⟨(j.block _ (YG h.pl)).trans h.pl,(j.block _ (YG h.rs)).trans h.rs,h.be.trans (j.mono h.be.size)⟩
theorem iH.start (w:World) (nm key:ByteArray) (op:Int) (f:Xg) (p:Option Addr) (j:Nat) (y:Int) (t:Xg) (q:Option Addr) (D:Nat) (G:Int) (asks told st:ByteArray) (I:Value):iH w ((w.alloc (.cells (lD nm key op f (.slice p f.L.length j) y t (.slice q t.L.length D) G asks told st I) 104)).alloc (.cells Jj 93)) nm key op f p j y t q D G asks told st I:=by
 have K:(w.alloc (.cells (lD nm key op f (.slice p f.L.length j) y t (.slice q t.L.length D) G asks told st I) 104)).heap.size=w.heap.size+1:=by simp
 refine ⟨?_,?_,((Below.refl _ _).alloc (Nat.le_refl _) _).alloc (by simp) _⟩
 ·rw [Below.heap_alloc _ _ _ (by omega)]
  show (w.heap.push _)[w.heap.size]?=_
  simp
 ·rw [<- K]
  generalize w.alloc _=J
  show (J.heap.push _)[J.heap.size]?=_
  simp
end Go.Proofs.YtmikbldbfnlfjaaGreatDoor
