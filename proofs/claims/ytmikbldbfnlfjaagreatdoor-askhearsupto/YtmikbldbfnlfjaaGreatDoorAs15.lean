/- Texts laid together. -/
import Derived.Test.YtmikbldbfnlfjaaGreatDoorAs14
set_option maxRecDepth 10000
set_option maxHeartbeats 16000000
namespace Go.Proofs.YtmikbldbfnlfjaaGreatDoor
open Go.Proofs.Tryz
open Go.RowKit
variable {T:TypeId}{w:World}{B:Nat}{v:Value}{l:List Yb}
section
variable {w w':World} {B:Nat} {S:Nat->Prop} {ab:Nat} {a:Za} {mv nv fv lv:Value} {vs:List Value}
theorem JdE (h:Xh w B S ab a mv nv fv lv vs) (x:Zb×Lv) (hl:a.c.L.length<=1000) (J9:a.from_.length<=900) (f6:a.aM x.1=true) (H0:x.1.shut=false) (t3:a.st=.looking) (t4:a.put=true) (t5:a.aI=false) (t6:a.from_.length=a.L.length) (t7:(a.c.L.length:Int)=a.c.n) (t8:a.text.size<=1000) (t9:(a.heard x.1).L.flatten.length<=1000) (u1:(Xq (a.heard x.1).from_ (a.heard x.1).L a.c.L).flatten.length<=1000) (u2:Jh a.c<=a.from_.length+1) (j5:1<=a.c.k/\a.c.k<=a.c.n/\a.c.n<=12) (K3:a.L.length<=900) (K5:x.1.L.length<=1000) (H1:x.2.2.1=x.1.L.length) (u3:x.2.1=none->x.1.L=[]/\x.2.2.2=0) (u6:∀ W:World,w.heap.size<=W.heap.size->(∀ k,k < w.heap.size->¬ S k->W.heap[k]?=w.heap[k]?)->Ql Ze W x.2.1 x.1.L):Calls prog 20 #[.pointer (some ⟨ab,0,none⟩),.agg #[.string x.1.from_,.string x.1.aP,.string x.1.kind,.string x.1.key,.int .i64 x.1.op,.int .i64 x.1.config,.bool x.1.shut,.slice x.2.1 x.2.2.1 x.2.2.2]] w fun e w'=>(∃ p c,e=.returned (.slice p (fU (a.heard x.1)).2.length c)/\mN w' p (fU (a.heard x.1)).2)/\∃ S' u7 u8 u9,Xh w' B S' ab (fU (a.heard x.1)).1 mv nv u7 u8 u9/\Yd S S' w w':=by
 have f7:Hid ((a.heard x.1).put=true):=t4
 have f8:Hid ((a.heard x.1).aI=false):=t5
 have v5:Hid ((a.heard x.1).st=.looking):=t3
 have f9:Hid ((a.heard x.1).L.flatten.length<=1000):=t9
 have g8:Hid ((a.heard x.1).from_.length=(a.heard x.1).L.length/\(a.heard x.1).from_.length<=1000/\(a.heard x.1).L.length<=1000):=⟨by show (a.from_ ++ [x.1.from_]).length=(a.L ++ [x.1.L]).length;simp [t6],by show (a.from_ ++ [x.1.from_]).length<=1000;simp;omega,by show (a.L ++ [x.1.L]).length<=1000;simp;omega⟩
 have j6:Hid ((a.heard x.1).text.size<=1000):=t8
 have j8:Hid (¬ (a.heard x.1).from_.length < Jh (a.heard x.1).c):=by show ¬ (a.from_ ++ [x.1.from_]).length < Jh a.c;simp;omega
 have k0:Hid (((a.heard x.1).c.L.length:Int)=(a.heard x.1).c.n/\1<=(a.heard x.1).c.k/\(a.heard x.1).c.k<=(a.heard x.1).c.n/\(a.heard x.1).c.n<=12):=⟨t7,j5⟩
 have v7:Hid ((a.heard x.1).L.length=a.L.length+1/\(a.heard x.1).c=a.c):=⟨by show (a.L ++ [x.1.L]).length=_;simp,rfl⟩
 have v9:Hid ((Xq (a.heard x.1).from_ (a.heard x.1).L (a.heard x.1).c.L).flatten.length<=1000):=u1
 clear t4 t5 t6 t7 t8 t9 u1
 obtain ⟨i0,w0,w5,w7,x0⟩:=info_parts (P:=prog) (e:=9) (z:=.string ⟨#[]⟩) (size:=1) (bytes:=16) (by kernel_rfl)
 obtain ⟨j0,x1,x2,x4,x5⟩:=info_parts VU
 obtain ⟨mp,K,x7,k6,H2,y0,y1⟩:=h.mem.at_
 obtain ⟨Z,fc,y2,k7,H4,y3,_⟩:=h.from_.form
 have y4:Hid (Xh w B S ab a mv nv fv lv vs):=h
 subst x7 y2
 obtain ⟨⟨m1,m2,m3,m4,m5,m6,m7,J⟩,lp,ln,lc⟩:=x
 dsimp only at *
 subst H0
 subst H1
 obtain ⟨G,a0⟩:∃ G,G=w.alloc (.cells #[.string m1,.string m2,.string m3,.string m4,.int .i64 m5,.int .i64 m6,.bool false,.slice lp J.length lc] 59):=⟨_,rfl⟩
 have b5:Below w.heap.size w G:=by rw [a0];exact (Below.refl _ _).alloc (Nat.le_refl _) _
 have a3:=h.below b5
 have l0:=H7 a3
 have c0:G.cell? ⟨ab,0,none⟩=some (.string a.name):=a3.cell 0
 have c1:G.cell? ⟨ab,1,none⟩=some (.string a.key):=a3.cell 1
 have c3:G.cell? ⟨ab,3,none⟩=some (.int .i64 a.op):=a3.cell 3
 have c4:G.cell? ⟨ab,4,none⟩=some (.int .i64 a.config):=a3.cell 4
 have c7:G.cell? ⟨ab,7,none⟩=some (.slice mp a.c.L.length K):=a3.cell 7
 have b0:G.cell? ⟨ab,14,none⟩=some (.slice Z a.from_.length fc):=a3.cell 14
 have d0:G.cell? ⟨w.heap.size,0,none⟩=some (.string m1):=by rw [a0,World.cell?_alloc_at _ _ _ _ rfl];rfl
 have d1:G.cell? ⟨w.heap.size,1,none⟩=some (.string m2):=by rw [a0,World.cell?_alloc_at _ _ _ _ rfl];rfl
 have d2:G.cell? ⟨w.heap.size,2,none⟩=some (.string m3):=by rw [a0,World.cell?_alloc_at _ _ _ _ rfl];rfl
 have d3:G.cell? ⟨w.heap.size,3,none⟩=some (.string m4):=by rw [a0,World.cell?_alloc_at _ _ _ _ rfl];rfl
 have d4:G.cell? ⟨w.heap.size,4,none⟩=some (.int .i64 m5):=by rw [a0,World.cell?_alloc_at _ _ _ _ rfl];rfl
 have d5:G.cell? ⟨w.heap.size,5,none⟩=some (.int .i64 m6):=by rw [a0,World.cell?_alloc_at _ _ _ _ rfl];rfl
 have l1:Hid (∀ W,Below G.heap.size G W->Strs W mp a.c.L):=fun W hW=>(k6.below b5).below hW
 have l2:Hid (∀ W,Below G.heap.size G W->Strs W Z a.from_):=fun W hW=>(k7.below b5).below hW
 have y5:Hid (G=w.alloc (.cells #[.string m1,.string m2,.string m3,.string m4,.int .i64 m5,.int .i64 m6,.bool false,.slice lp J.length lc] 59)):=a0
 have l3:Hid (Below w.heap.size w G):=b5
 have d6:G.cell? ⟨w.heap.size,6,none⟩=some (.bool false):=by rw [a0,World.cell?_alloc_at _ _ _ _ rfl];rfl
 have d7:G.cell? ⟨w.heap.size,7,none⟩=some (.slice lp J.length lc):=by rw [a0,World.cell?_alloc_at _ _ _ _ rfl];rfl
 have H5:G.heap.size=w.heap.size+1:=by rw [a0];simp
 have y6:Hid (Xh G B S ab a (.slice mp a.c.L.length K) nv (.slice Z a.from_.length fc) lv vs):=a3
 have l7:Hid (∀ W:World,w.heap.size<=W.heap.size->(∀ k,k < w.heap.size->¬ S k->W.heap[k]?=w.heap[k]?)->Ql Ze W lp J):=u6
 have y7:Hid (lp=none->J=[]/\lc=0):=u3
 have g9:Hid (Jh a.c<=a.from_.length+1):=u2
 have H6:Hid (a.st.word=⟨#[108,111,111,107,105,110,103]⟩):=by show _=_;rw [t3];rfl
 have l8:Hid (1<=a.c.k/\a.c.k<=a.c.n/\a.c.n<=12):=j5
 obtain ⟨g0,g1,g2,g3,g4,g5,g6,g7⟩:a.st.waits≠⟨#[]⟩/\m3=a.st.waits/\m2=a.name/\m4=a.key/\m5=a.op/\m6=a.config/\m1 ∈ a.c.L/\m1 ∉ a.from_:=by
  unfold Za.aM at f6
  rw [Bool.and_eq_true,Bool.and_eq_true] at f6
  obtain ⟨q1,q2,q3⟩:=f6
  have b1:=of_decide_eq_true q1
  exact ⟨b1.1,b1.2.1,b1.2.2.1,b1.2.2.2.1,b1.2.2.2.2.1,b1.2.2.2.2.2,Zl.1 q2,fun hm=>by rw [Zl.2 hm] at q3;cases q3⟩
 have l9:Hid (∀ W,Below G.heap.size G W->Calls prog 46 #[.slice mp a.c.L.length K,.string m1] W fun e w'=>e=.returned (.int .i64 ((ZJ a.c.L m1:Nat):Int))/\w'=W):=fun W hW=>wS mp a.c.L K m1 W (by omega) (l1.out W hW) g6
 have m0:Hid (∀ W,Below G.heap.size G W->Calls prog 46 #[.slice Z a.from_.length fc,.string m1] W fun e w'=>e=.returned (.int .i64 (-1))/\w'=W):=fun W hW=>BL Z a.from_ fc m1 W (by omega) (l2.out W hW) g7
 clear h k6 y1 k7 y3 y0 b5 a0 a3 f6 l1 l2 u6 u3 u2 j5 g6 g7
 generalize ZJ a.c.L m1=j1 at *
 have n1:decide ((j1:Int) < 0)=false:=decide_eq_false (by omega)
 have t0:=XT g0
 have u0:=YT g0
 have v0:=Y8 g0
 have e0:(⟨#[]⟩:ByteArray).toList=[]:=by decide +kernel
 rw [e0] at t0 u0
 subst g1 g2 g3 g4 g5
 generalize a.st.waits=wt at *
 clear g0
 go_enter func20,ntmps20
 go_wp2_with (first | rw [<- y5.out] | fail)
 refine l0.mono ?_
 rintro e w2 ⟨rfl,m8⟩
 rw [m8]
 clear m8 w2 l0
 go_wp2
 go_quiet (fail)
 generalize a8:World.drewN G _=wq
 have y8:wq.cell? ⟨ab,7,none⟩=some (.slice mp a.c.L.length K):=by rw [<- a8];exact c7
 have m9:wq.cell? ⟨ab,14,none⟩=some (.slice Z a.from_.length fc):=by rw [<- a8];exact b0
 have n0:wq.cell? ⟨w.heap.size,0,none⟩=some (.string m1):=by rw [<- a8];exact d0
 have n2:wq.cell? ⟨w.heap.size,6,none⟩=some (.bool false):=by rw [<- a8];exact d6
 have n3:wq.cell? ⟨w.heap.size,7,none⟩=some (.slice lp J.length lc):=by rw [<- a8];exact d7
 have d8:Below G.heap.size G wq:=by rw [<- a8];exact below_drewN (Below.refl _ _) _
 clear a8 c0 c1 c3 c4 c7 b0 d0 d1 d2 d3 d4 d5 d6 d7
 go_wp2
 go_quiet (first | (go_at_call 46;with_reducible exact Calls.quiet_of_same (l9.out _ (below_drewN d8 _))) | (go_at_call 46;with_reducible exact Calls.quiet_of_same (m0.out _ (below_drewN d8 _))))
 generalize a6:World.drewN wq _=wr
 have z0:wr.cell? ⟨ab,14,none⟩=some (.slice Z a.from_.length fc):=by rw [<- a6];exact m9
 have n4:wr.cell? ⟨w.heap.size,0,none⟩=some (.string m1):=by rw [<- a6];exact n0
 have z1:wr.cell? ⟨w.heap.size,6,none⟩=some (.bool false):=by rw [<- a6];exact n2
 have n5:wr.cell? ⟨w.heap.size,7,none⟩=some (.slice lp J.length lc):=by rw [<- a6];exact n3
 have n6:Below G.heap.size G wr:=by rw [<- a6];exact below_drewN d8 _
 have h1:Hid (Below G.heap.size G wr):=n6
 clear a6 y8 m9 n0 n2 n3 d8 n6 l9 m0 n1 t0 u0 v0 e0
 go_wp2
 have d9:Below wr.heap.size wr (wr.alloc (.cells #[.string m1] 9)):=(Below.refl _ _).alloc (Nat.le_refl _) _
 have n7:=h1.out.size
 have e4:Hid (Below G.heap.size G ((wr.alloc (.cells #[.string m1] 9)).drew)):=(h1.out.trans (d9.mono n7)).drew
 have a4:Hid (Xh ((wr.alloc (.cells #[.string m1] 9)).drew) B S ab a (.slice mp a.c.L.length K) nv (.slice Z a.from_.length fc) lv vs):=y6.out.below e4.out
 have z2:(wr.alloc (.cells #[.string m1] 9)).cell? ⟨ab,14,none⟩=some (.slice Z a.from_.length fc):=a4.out.cell 14
 have z3:(wr.alloc (.cells #[.string m1] 9)).cell? ⟨w.heap.size,0,none⟩=some (.string m1):=(d9.cell (p:=⟨w.heap.size,0,none⟩) (by show w.heap.size < wr.heap.size;omega)).trans n4
 have n8:(wr.alloc (.cells #[.string m1] 9)).cell? ⟨w.heap.size,7,none⟩=some (.slice lp J.length lc):=(d9.cell (p:=⟨w.heap.size,7,none⟩) (by show w.heap.size < wr.heap.size;omega)).trans n5
 have o0:Hid ((wr.alloc (.cells #[.string m1] 9)).cell? ⟨wr.heap.size,0,none⟩=some (.string m1)):=by show _=_;rw [World.cell?_alloc_at _ _ _ _ rfl];rfl
 have o1:Hid (((wr.alloc (.cells #[.string m1] 9)).drew).cell? ⟨w.heap.size,7,none⟩=some (.slice lp J.length lc)):=n8
 clear d9 n8 n5 z1
 have o2:Hid (∀ v Q,JM Q B 9 v (a.from_.map Value.string ++ [.string m1])->((wr.alloc (.cells #[.string m1] 9)).drew).grownBy Q (Value.slice Z a.from_.length fc).ownBlock->(v.ownBlock=(Value.slice Z a.from_.length fc).ownBlock∨v.ownBlock=some ((wr.alloc (.cells #[.string m1] 9)).drew).heap.size)->∃ I c3,v=.slice I (a.from_.length+1) c3/\Xh (Q.setCell ⟨ab,14,none⟩ (.slice I (a.from_.length+1) c3)) B (fun k=>S k∨(Value.slice I (a.from_.length+1) c3).ownBlock=some k) ab { a with from_:=a.from_ ++ [m1] } (.slice mp a.c.L.length K) nv (.slice I (a.from_.length+1) c3) lv vs/\Yd S (fun k=>S k∨(Value.slice I (a.from_.length+1) c3).ownBlock=some k) w (Q.setCell ⟨ab,14,none⟩ (.slice I (a.from_.length+1) c3))/\Q.frozen? ⟨ab,14,none⟩=false/\Q.cell? ⟨ab,14,none⟩=some (.slice Z a.from_.length fc)/\(Q.setCell ⟨ab,14,none⟩ (.slice I (a.from_.length+1) c3)).cell? ⟨w.heap.size,7,none⟩=some (.slice lp J.length lc)):=fun v Q e5 b6 e6=>by
  have o3:Zq Q B v (a.from_ ++ [m1]):=by unfold Zq;rw [List.map_append];exact e5
  obtain ⟨I,c3,o4,_⟩:=o3.form
  rw [List.length_append,List.length_singleton] at o4
  subst o4
  have HF:=a4.out.from o3 b6 e6
  have o5:=(b6.block ab (a4.out.aO ab a4.out.self).2 (fun e=>(a4.out.sF ab e.symm).2 rfl)).trans a4.out.dT
  have z4:Below w.heap.size w ((wr.alloc (.cells #[.string m1] 9)).drew):=l3.out.trans (e4.out.mono l3.out.size)
  have z5:¬ S w.heap.size:=fun hs=>by have:=(y4.out.aO _ hs).2;omega
  exact ⟨I,c3,rfl,HF.1,(Yd.aJ z4).trans HF.2,by simp [World.frozen?,o5],by simp [World.cell?,o5,Qo],(World.cell?_of_block (a:=⟨w.heap.size,7,none⟩) (HF.2.block w.heap.size (by have:=e4.out.size;omega) z5)).trans o1.out⟩
 clear o1
 go_cut [6] from 93 to 100 (fun v Q=>∃ I c3,v=.slice I (a.from_.length+1) c3/\Xh (Q.setCell ⟨ab,14,none⟩ (.slice I (a.from_.length+1) c3)) B (fun k=>S k∨(Value.slice I (a.from_.length+1) c3).ownBlock=some k) ab { a with from_:=a.from_ ++ [m1] } (.slice mp a.c.L.length K) nv (.slice I (a.from_.length+1) c3) lv vs/\Yd S (fun k=>S k∨(Value.slice I (a.from_.length+1) c3).ownBlock=some k) w (Q.setCell ⟨ab,14,none⟩ (.slice I (a.from_.length+1) c3))/\Q.frozen? ⟨ab,14,none⟩=false/\Q.cell? ⟨ab,14,none⟩=some (.slice Z a.from_.length fc)/\(Q.setCell ⟨ab,14,none⟩ (.slice I (a.from_.length+1) c3)).cell? ⟨w.heap.size,7,none⟩=some (.slice lp J.length lc))
 case first =>
  go_region_law (refine Jy rfl (.tmp 96) (.tmp 99) 22 rfl B 9 i0 (.string ⟨#[]⟩) 16 underlying22 w0 w5 rfl w7 x0 (by decide) (.slice Z a.from_.length fc) (a.from_.map Value.string) (by simp [Act.eval]) a4.out.from_ ⟨wr.heap.size,0,none⟩ 1 (.string m1) rfl (by simp [Act.eval]) o0.out (by rw [List.length_map];omega) a4.out.vP ?_;intro v3 Q e5 b6 e6;have z6:Hid _:=o2.out v3 Q e5 b6 e6;clear e5 b6 e6)
  all_goals (go_wp2_with fail;go_meet)
  all_goals exact z6.out
 case rest =>
  obtain ⟨I,c3,rfl,h2,h3,h4,b0,o6⟩:=hcut
  clear o2 o0 z2 z3 z0 n4 e4 a4 h1 n7
  obtain ⟨w4,h5⟩:∃ w4,w4=wc.setCell ⟨ab,14,none⟩ (.slice I (a.from_.length+1) c3):=⟨_,rfl⟩
  rw [<- h5] at h2 h3 o6
  have o7:Hid (w4=wc.setCell ⟨ab,14,none⟩ (.slice I (a.from_.length+1) c3)):=h5
  have e7:Hid (Xh w4 B (fun k=>S k∨(Value.slice I (a.from_.length+1) c3).ownBlock=some k) ab { a with from_:=a.from_ ++ [m1] } (.slice mp a.c.L.length K) nv (.slice I (a.from_.length+1) c3) lv vs):=h2
  have e8:Hid (Yd S (fun k=>S k∨(Value.slice I (a.from_.length+1) c3).ownBlock=some k) w w4):=h3
  clear h5 h2 h3
  go_wp2
  rw [<- o7.out]
  have h6:w4.cell? ⟨ab,15,none⟩=some lv:=e7.out.cell 15
  have e9:Hid (Xh w4.drew B (fun k=>S k∨(Value.slice I (a.from_.length+1) c3).ownBlock=some k) ab { a with from_:=a.from_ ++ [m1] } (.slice mp a.c.L.length K) nv (.slice I (a.from_.length+1) c3) lv vs):=e7.out.below (Below.refl _ _).drew
  have o9:Hid (Ql Ze w4.drew lp J):=l7.out _ e8.out.size (fun k hk hs=>e8.out.block k hk hs)
  have p0:Hid (∀ v6 U,Zc Ze 76 U w4.heap.size v6 ([] ++ J)->Below w4.heap.size w4.drew U->∃ X c6,v6=.slice X J.length c6/\U.cell? ⟨ab,15,none⟩=some lv/\(U.alloc (.cells #[.slice X J.length c6] 55)).cell? ⟨ab,15,none⟩=some lv/\JM (U.alloc (.cells #[.slice X J.length c6] 55)) B 55 lv vs/\B<=(U.alloc (.cells #[.slice X J.length c6] 55)).heap.size/\(∀ v w8,JM w8 B 55 v (vs ++ [.slice X J.length c6])->(U.alloc (.cells #[.slice X J.length c6] 55)).grownBy w8 lv.ownBlock->(v.ownBlock=lv.ownBlock∨v.ownBlock=some (U.alloc (.cells #[.slice X J.length c6] 55)).heap.size)->∃ Y c8 S2 b2,v=.slice Y (a.L.length+1) c8/\Xh (w8.setCell ⟨ab,15,none⟩ (.slice Y (a.L.length+1) c8)) B S2 ab (a.heard ⟨m1,a.name,wt,a.key,a.op,a.config,false,J⟩) (.slice mp a.c.L.length K) nv (.slice I (a.from_.length+1) c3) (.slice Y (a.L.length+1) c8) b2/\Yd S S2 w (w8.setCell ⟨ab,15,none⟩ (.slice Y (a.L.length+1) c8))/\w8.frozen? ⟨ab,15,none⟩=false/\w8.cell? ⟨ab,15,none⟩=some lv)):=fun v6 U b3 f3=>by
   rw [List.nil_append] at b3
   obtain ⟨X,c6,rfl,_⟩:=b3.form
   have p1:Below w4.drew.heap.size w4.drew U:=f3
   have p2:=e9.out.below p1
   have a9:=p2.below ((Below.refl _ _).alloc (Nat.le_refl _) (.cells #[.slice X J.length c6] 55))
   refine ⟨X,c6,rfl,p2.cell 15,a9.cell 15,a9.told.1,a9.vP,fun v w8 hv hg f4=>?_⟩
   have HF:=e9.out.list (r:=.slice X J.length c6) (row:=J) b3 p1 hv hg f4
   have z7:=a9.aO ab a9.self
   have p4:=(hg.block ab z7.2 (fun e=>(a9.sL ab e.symm).2.1 rfl)).trans a9.dT
   have z8:vs.length=a.L.length:=e9.out.told.2.1
   rcases hv.cells with ⟨_,h0⟩ | ⟨g,H9,p5,_⟩
   ·exact absurd h0 (by simp)
   rw [List.length_append,List.length_singleton,z8] at p5
   subst p5
   exact ⟨_,_,_,_,rfl,HF.1,((e8.out.trans (Yd.aJ (Below.refl _ _).drew)).trans HF.2),by simp [World.frozen?,p4],by simp [World.cell?,p4,Qo]⟩
  have z9:Hid (vs.length=a.L.length):=e7.out.told.2.1
  go_cut [8] from 105 to 114 (fun v w8=>∃ Y c8 S2 b2,v=.slice Y (a.L.length+1) c8/\Xh (w8.setCell ⟨ab,15,none⟩ (.slice Y (a.L.length+1) c8)) B S2 ab (a.heard ⟨m1,a.name,wt,a.key,a.op,a.config,false,J⟩) (.slice mp a.c.L.length K) nv (.slice I (a.from_.length+1) c3) (.slice Y (a.L.length+1) c8) b2/\Yd S S2 w (w8.setCell ⟨ab,15,none⟩ (.slice Y (a.L.length+1) c8))/\w8.frozen? ⟨ab,15,none⟩=false/\w8.cell? ⟨ab,15,none⟩=some lv)
  case first =>
   go_region_law (first | (refine Jai (E:=Ze) rfl (.tmp 109) (.tmp 111) 55 76 rfl (.agg #[.int .i64 0,.int .i64 0,.int .i64 0,.int .i64 0,.string ⟨#[]⟩]) 48 underlying55 qS rfl w4.heap.size (.slice none 0 0) [] (by simp [Act.eval]) (Zc.nil _ _ _) lp J lc (by simp [Act.eval]) o9.out y7.out (by unfold maxLen;simp;omega) (by simp;omega) (Nat.le_refl _) ?_;intro v6 U b3 f3;obtain ⟨X,c6,A1,I0,I2,p7,p9,q0⟩:=p0.out v6 U b3 f3;subst A1;have q4:Hid (JM (U.alloc (.cells #[.slice X J.length c6] 55)) B 55 lv vs):=p7;have q5:Hid (B<=(U.alloc (.cells #[.slice X J.length c6] 55)).heap.size):=p9;have q6:Hid _:=q0;clear b3 f3 p7 p9 q0) | (refine Jy rfl (.tmp 108) (.tmp 113) 44 rfl B 55 j0 (.slice none 0 0) 24 underlying44 x1 x2 rfl x4 x5 (by decide) lv vs (by simp [Act.eval]) q4.out ⟨U.heap.size,0,none⟩ 1 (.slice X J.length c6) rfl (by simp [Act.eval]) (by rw [World.cell?_alloc_at _ _ _ _ rfl];rfl) (by have:=z9.out;omega) q5.out ?_;intro v8 w8 q7 r0 f4;have A2:Hid _:=q6.out v8 w8 q7 r0 f4;clear q7 r0 f4 q6 q4 q5))
   all_goals (go_wp2_with fail;go_meet)
   all_goals exact A2.out
  case rest =>
   obtain ⟨Y,c8,S2,b2,rfl,h7,h8,h9,A3⟩:=hcut
   clear p0 o9 l7 e9 e7 e8 o7 h6 o6 h4 b0
   obtain ⟨O,i1⟩:∃ O,O=wc.setCell ⟨ab,15,none⟩ (.slice Y (a.L.length+1) c8):=⟨_,rfl⟩
   rw [<- i1] at h7 h8
   have r1:Hid (O=wc.setCell ⟨ab,15,none⟩ (.slice Y (a.L.length+1) c8)):=i1
   have i2:Hid (Xh O B S2 ab (a.heard ⟨m1,a.name,wt,a.key,a.op,a.config,false,J⟩) (.slice mp a.c.L.length K) nv (.slice I (a.from_.length+1) c3) (.slice Y (a.L.length+1) c8) b2):=h7
   have r2:Hid (Yd S S2 w O):=h8
   have i3:Hid (∀ W,Below O.heap.size O W->(W.cell? ⟨ab,14,none⟩=some (.slice I (a.from_.length+1) c3)/\W.cell? ⟨ab,5,none⟩=some (.int .i64 a.c.n)/\W.cell? ⟨ab,6,none⟩=some (.int .i64 a.c.k)/\W.cell? ⟨ab,7,none⟩=some (.slice mp a.c.L.length K)/\Below O.heap.size O W)):=fun W hW=>by
    have hq:=i2.out.below hW
    exact ⟨hq.cell 14,hq.cell 5,hq.cell 6,hq.cell 7,hW⟩
   have r3:Hid (∀ W,(W.cell? ⟨ab,14,none⟩=some (.slice I (a.from_.length+1) c3)/\W.cell? ⟨ab,5,none⟩=some (.int .i64 a.c.n)/\W.cell? ⟨ab,6,none⟩=some (.int .i64 a.c.k)/\W.cell? ⟨ab,7,none⟩=some (.slice mp a.c.L.length K)/\Below O.heap.size O W)->Calls prog 47 #[.agg #[.int .i64 a.c.n,.int .i64 a.c.k,(.slice mp a.c.L.length K)]] W fun e w'=>e=.returned (.int .i64 ((Jh a.c:Nat):Int))/\(w'.cell? ⟨ab,14,none⟩=some (.slice I (a.from_.length+1) c3)/\w'.cell? ⟨ab,5,none⟩=some (.int .i64 a.c.n)/\w'.cell? ⟨ab,6,none⟩=some (.int .i64 a.c.k)/\w'.cell? ⟨ab,7,none⟩=some (.slice mp a.c.L.length K)/\Below O.heap.size O w')):=fun W hW=>(JaF a.c (.slice mp a.c.L.length K) ⟨_,_,_,rfl⟩ W l8.out).mono fun e w' hp=>⟨hp.1,i3.out w' (hW.2.2.2.2.trans (hp.2.mono hW.2.2.2.2.size))⟩
   have A5:decide (((a.from_.length+1:Nat):Int) < ((Jh a.c:Nat):Int))=false:=decide_eq_false (by have:=g9.out;omega)
   have A6:Hid (¬ ((a.from_.length+1:Nat):Int) < ((Jh a.c:Nat):Int)):=by show ¬ _ < _;have:=g9.out;omega
   generalize Jh a.c=en at *
   clear i1 h7 h8 l8 g9
   go_wp2
   rw [<- r1.out]
   go_cut [129] from 119 to 129 (fun v W=>v=.bool false/\Below O.heap.size O W)
   case first =>
    go_region_held3 (fun W=>(W.cell? ⟨ab,14,none⟩=some (.slice I (a.from_.length+1) c3)/\W.cell? ⟨ab,5,none⟩=some (.int .i64 a.c.n)/\W.cell? ⟨ab,6,none⟩=some (.int .i64 a.c.k)/\W.cell? ⟨ab,7,none⟩=some (.slice mp a.c.L.length K)/\Below O.heap.size O W)) (first | assumption | exact i3.out _ (Below.refl _ _).drew) (first | (go_at_call 47;refine (r3.out _ (by assumption)).mono ?_;rintro e I3 ⟨rfl,A9⟩))
    all_goals (go_wp2_with fail;go_meet)
    all_goals exact ⟨by first | rfl | (rw [A5]) | simpa using A6.out,(by first | assumption | exact hSs.2.2.2.2 | exact A9.2.2.2.2)⟩
   case rest =>
    obtain ⟨rfl,r4⟩:=hcut
    have i4:Hid (Below O.heap.size O wc):=r4
    clear r4 r3 i3 r1 h9 A3
    have N:=i2.out.below i4.out
    have B0:Hid (a.heard ⟨m1,a.name,wt,a.key,a.op,a.config,false,J⟩=a.heard ⟨m1,a.name,wt,a.key,a.op,a.config,false,J⟩):=by show _=_;rfl
    generalize r5:a.heard ⟨m1,a.name,wt,a.key,a.op,a.config,false,J⟩=D at *
    have i5:Hid (Xh wc B S2 ab D (.slice mp a.c.L.length K) nv (.slice I (a.from_.length+1) c3) (.slice Y (a.L.length+1) c8) b2):=N
    have B2:Hid (Yd S S2 w wc):=r2.out.trans (Yd.aJ i4.out)
    obtain ⟨lq,i7,i8,r6⟩:=N.told.wO
    have B3:lq=Y/\i7=c8:=by injection i8 with e1 e2 e3;exact ⟨e1.symm,e3.symm⟩
    obtain ⟨rfl,rfl⟩:=B3
    have B5:wc.cell? ⟨ab,13,none⟩=some (.string ⟨#[108,111,111,107,105,110,103]⟩):=by rw [N.cell 13];show some (Value.string D.st.word)=_;rw [v5.out];rfl
    have oP:wc.cell? ⟨ab,11,none⟩=some (.bool true):=by rw [N.cell 11];show some (Value.bool D.put)=_;rw [f7.out]
    have B8:wc.cell? ⟨ab,12,none⟩=some (.bool false):=by rw [N.cell 12];show some (Value.bool D.aI)=_;rw [f8.out]
    have c2:wc.cell? ⟨ab,2,none⟩=some (.int .i64 D.who):=N.cell 2
    have b0:wc.cell? ⟨ab,14,none⟩=some (.slice I (a.from_.length+1) c3):=N.cell 14
    have h6:wc.cell? ⟨ab,15,none⟩=some (.slice lq D.L.length i7):=by rw [N.cell 15,<- i8];rfl
    have B9:wc.cell? ⟨ab,16,none⟩=some (.int .i64 D.tag.1):=N.cell 16
    have C0:wc.cell? ⟨ab,17,none⟩=some (.int .i64 D.tag.2):=N.cell 17
    have C1:wc.cell? ⟨ab,18,none⟩=some (.string D.text):=N.cell 18
    have C2:wc.cell? ⟨ab,19,none⟩=some (.bool D.found):=N.cell 19
    have C4:wc.frozen? ⟨ab,13,none⟩=false:=N.free 13
    have h4:wc.frozen? ⟨ab,14,none⟩=false:=N.free 14
    have h9:wc.frozen? ⟨ab,15,none⟩=false:=N.free 15
    have C5:wc.frozen? ⟨ab,16,none⟩=false:=N.free 16
    have C9:wc.frozen? ⟨ab,17,none⟩=false:=N.free 17
    have D1:wc.frozen? ⟨ab,18,none⟩=false:=N.free 18
    have D5:wc.frozen? ⟨ab,19,none⟩=false:=N.free 19
    have D7:Hid (eU wc lq D.L):=r6
    have D8:Hid (a.heard ⟨m1,a.name,wt,a.key,a.op,a.config,false,J⟩=D):=r5
    have r7:D.bR.keeps=({ D with tag:=(XF D.L+1,D.who),found:=true,st:=.keeping,from_:=[],L:=[] }:Za):=by unfold Za.keeps Za.bR;rw [f7.out,if_pos rfl];show (if D.aI=true then _ else _)=_;rw [f8.out];rfl
    have s1:fU D=({ D with tag:=(XF D.L+1,D.who),found:=true,st:=.keeping,from_:=[],L:=[] },Za.send ({ D with tag:=(XF D.L+1,D.who),found:=true,st:=.keeping,from_:=[],L:=[] }:Za) JJ true):=by
     unfold fU
     rw [if_neg j8.out,if_neg (by unfold Za.bR;rw [f7.out,if_pos rfl];intro e;cases e),r7]
    have D9:Hid (fU D=({ D with tag:=(XF D.L+1,D.who),found:=true,st:=.keeping,from_:=[],L:=[] },Za.send ({ D with tag:=(XF D.L+1,D.who),found:=true,st:=.keeping,from_:=[],L:=[] }:Za) JJ true)):=s1
    clear N r5 i8 r6 r7 s1 B0 i2 r2 i4
    go_wp2
    go_loopw [9,10] (fun x y wr=>∃ i:Nat,i<=D.L.length/\y=.int .i64 i/\x=.int .i64 (XF (D.L.take i))/\wr=wc) (fun _ y _=>D.L.length - (intOf y).toNat)
    case atStart=>exact ⟨0,Nat.zero_le _,rfl,rfl,rfl⟩
    case round =>
     obtain ⟨i,hi,rfl,rfl,a6⟩:=hrel
     subst a6
     by_cases b4:i < D.L.length
     ·rcases D7.out with h0 | ⟨vb,vo,E4,I4,s2⟩
      ·rw [h0] at b4;exact absurd b4 (Nat.not_lt_zero _)
      obtain ⟨rq,rc,I5,s3,I6,E5⟩:=s2 i b4
      have F1:Hid (XF (D.L.take (i+1))=(D.L.getD i []).foldl Yk (XF (D.L.take i))):=M2 b4
      have I7:=sH (D.L.take i)
      have I8:(D.L.getD i []).length<=1000:=by
       have e:D.L.getD i []=D.L[i]:=by rw [List.getD_eq_getElem?_getD,List.getElem?_eq_getElem b4];rfl
       rw [e]
       have:=KH (List.getElem_mem b4)
       have:=f9.out
       omega
      have F2:Hid (Ql Ze wr rq (D.L.getD i [])):=s3
      have F5:Hid (D.L.length<=1000):=g8.out.2.2
      subst E4
      clear s2 s3 E5 g8 f9
      generalize D.L.getD i []=a2 at *
      generalize XF (D.L.take i)=M at *
      have I9:D.L.length<=1000:=F5.out
      go_wp2
      go_loopw [9,11] (fun x y F6=>∃ j:Nat,j<=a2.length/\y=.int .i64 j/\x=.int .i64 ((a2.take j).foldl Yk M)/\F6=wr) (fun _ y _=>a2.length - (intOf y).toNat)
      case atStart=>exact ⟨0,Nat.zero_le _,rfl,rfl,rfl⟩
      case round =>
       obtain ⟨j,hj,rfl,rfl,F7⟩:=hrel
       subst F7
       by_cases s4:j < a2.length
       ·obtain ⟨xb,xo,F8,J2,v0,v1,v2,v3,v4⟩:=QU F2.out s4
        have i9:Hid ((a2.take (j+1)).foldl Yk M=Yk ((a2.take j).foldl Yk M) (Xd a2 j)):=OI s4 M
        subst F8
        clear v1 v2 v3 v4
        generalize (a2.take j).foldl Yk M=a7 at *
        generalize Xd a2 j=xv at *
        obtain ⟨xn,xw,xs,xa,xt⟩:=xv
        dsimp only at v0
        by_cases q1:a7 < xn
        ·have d1:decide (a7 < xn)=true:=decide_eq_true q1
         by_cases q2:xn<=1099511627776
         ·have d2:decide (xn<=1099511627776)=true:=decide_eq_true q2
          have b7:Hid (Yk a7 ⟨xn,xw,xs,xa,xt⟩=xn):=if_pos ⟨q1,q2⟩
          go_wp2
          go_roundw
          case rel=>exact ⟨j+1,by omega,by go_num,by rw [i9.out,b7.out],trivial⟩
          case measure=>simp [intOf];omega
         ·have d2:decide (xn<=1099511627776)=false:=decide_eq_false q2
          have b7:Hid (Yk a7 ⟨xn,xw,xs,xa,xt⟩=a7):=if_neg (fun h=>q2 h.2)
          go_wp2
          go_roundw
          case rel=>exact ⟨j+1,by omega,by go_num,by rw [i9.out,b7.out],trivial⟩
          case measure=>simp [intOf];omega
        ·have d1:decide (a7 < xn)=false:=decide_eq_false q1
         have b7:Hid (Yk a7 ⟨xn,xw,xs,xa,xt⟩=a7):=if_neg (fun h=>q1 h.1)
         go_wp2
         go_roundw
         case rel=>exact ⟨j+1,by omega,by go_num,by rw [i9.out,b7.out],trivial⟩
         case measure=>simp [intOf];omega
       ·have F9:Hid (a2.take j=a2):=by show _=_;exact List.take_of_length_le (by omega)
        rw [F9.out]
        go_wp2
        go_roundw
        case rel=>exact ⟨i+1,by omega,by go_num,by rw [F1.out],trivial⟩
        case measure=>simp [intOf];omega
     ·have G0:Hid (D.L.take i=D.L):=by show _=_;exact List.take_of_length_le (by omega)
      rw [G0.out]
      have J3:=sH D.L
      obtain ⟨a5,j2⟩:∃ a5,a5=(((((wr.setCell ⟨ab,16,none⟩ (.int .i64 (XF D.L+1))).setCell ⟨ab,17,none⟩ (.int .i64 D.who)).setCell ⟨ab,19,none⟩ (.bool true)).setCell ⟨ab,13,none⟩ (.string ⟨#[107,101,101,112,105,110,103]⟩)).setCell ⟨ab,14,none⟩ (.slice none 0 0)).setCell ⟨ab,15,none⟩ (.slice none 0 0):=⟨_,rfl⟩
      have s5:=Jcs (a:=D) (mv:=(.slice mp a.c.L.length K)) (nv:=nv) (fv:=(.slice I (a.from_.length+1) c3)) (lv:=(.slice lq (a.L.length+1) i7)) (a':={ D with tag:=(XF D.L+1,D.who),found:=true,st:=.keeping,from_:=[],L:=[] }) rfl rfl rfl rfl rfl rfl rfl rfl rfl rfl
      have j3:q9 ab (Qo { D with tag:=(XF D.L+1,D.who),found:=true,st:=.keeping,from_:=[],L:=[] } (.slice mp a.c.L.length K) nv (.slice none 0 0) (.slice none 0 0)) wr a5:=by rw [j2];exact s5 ▸ (((((((q9.refl i5.out.dT).set 16 (.int .i64 (XF D.L+1))).set 17 (.int .i64 D.who)).set 19 (.bool true)).set 13 (.string ⟨#[107,101,101,112,105,110,103]⟩)).set 14 (.slice none 0 0)).set 15 (.slice none 0 0))
      have f5:=i5.out.fresh (a':={ D with tag:=(XF D.L+1,D.who),found:=true,st:=.keeping,from_:=[],L:=[] }) j3 rfl rfl rfl rfl
      obtain ⟨k1,k2,k3,k4⟩:=k0.out
      have s6:=Jcd f5 ⟨#[107,101,101,112]⟩ D.c.n.toNat D.c.k.toNat (by show D.c.n=_;omega) (by show D.c.k=_;omega) (by omega) (by omega) (by omega) (by show D.c.L.length=_;omega) (by show D.text.size<=3000;have:=j6.out;omega)
      have G1:Hid (Xh a5 B S2 ab { D with tag:=(XF D.L+1,D.who),found:=true,st:=.keeping,from_:=[],L:=[] } (.slice mp a.c.L.length K) nv (.slice none 0 0) (.slice none 0 0) []):=f5
      have J5:a5.cell? ⟨ab,12,none⟩=some (.bool false):=by rw [f5.cell 12];show some (Value.bool D.aI)=_;rw [f8.out]
      have G2:Hid (Yd S S2 w a5):=B2.out.trans (j3.nJ i5.out.self)
      have G3:Hid (a5=(((((wr.setCell ⟨ab,16,none⟩ (.int .i64 (XF D.L+1))).setCell ⟨ab,17,none⟩ (.int .i64 D.who)).setCell ⟨ab,19,none⟩ (.bool true)).setCell ⟨ab,13,none⟩ (.string ⟨#[107,101,101,112,105,110,103]⟩)).setCell ⟨ab,14,none⟩ (.slice none 0 0)).setCell ⟨ab,15,none⟩ (.slice none 0 0)):=j2
      clear j2 j3 s5 f5 k1 k2 k3 k4 k0 f9 g8 j6 j8 v7 v9
      generalize XF D.L=M at *
      have J8:IntKind.i64.wrap (M+1)=M+1:=by rw [IntKind.wrap_i64];omega
      go_wp2_with (first | rw [<- G3.out] | fail)
      refine s6.mono ?_
      rintro e s7 ⟨⟨s8,G8,rfl,s9⟩,t1⟩
      have G9:Hid (mN s7 s8 (Za.send ({ D with tag:=(M+1,D.who),found:=true,st:=.keeping,from_:=[],L:=[] }:Za) JJ true)):=s9
      have t2:Hid (Below a5.heap.size a5 s7):=t1
      clear s9 t1 s6 oP B8 B5 b0 h6 B9 C0 C1 C2 c2 C4 h4 h9 C5 C9 D1 D5
      go_wp2
      go_ret
      rw [D8.out,D9.out]
      exact ⟨⟨s8,G8,rfl,G9.out⟩,S2,_,_,_,G1.out.below t2.out,G2.out.trans (Yd.aJ t2.out)⟩
end
section
variable {w w':World} {B:Nat} {S:Nat->Prop} {ab:Nat} {a:Za} {mv nv fv lv:Value} {vs:List Value}
theorem JdD (h:Xh w B S ab a mv nv fv lv vs) (x:Zb×Lv) (hl:a.c.L.length<=1000) (M8:a.from_.length<=900) (i9:a.aM x.1=true) (K7:x.1.shut=false) (A2:a.st=.looking) (A3:a.put=false) (A5:a.aI=false) (A6:a.from_.length=a.L.length) (A9:(a.c.L.length:Int)=a.c.n) (B0:a.text.size<=1000) (B2:(a.heard x.1).L.flatten.length<=1000) (B3:(Xq (a.heard x.1).from_ (a.heard x.1).L a.c.L).flatten.length<=1000) (B5:Jh a.c<=a.from_.length+1) (o9:1<=a.c.k/\a.c.k<=a.c.n/\a.c.n<=12) (I9:a.L.length<=900) (M9:x.1.L.length<=1000) (K8:x.2.2.1=x.1.L.length) (B8:x.2.1=none->x.1.L=[]/\x.2.2.2=0) (B9:∀ W:World,w.heap.size<=W.heap.size->(∀ k,k < w.heap.size->¬ S k->W.heap[k]?=w.heap[k]?)->Ql Ze W x.2.1 x.1.L):Calls prog 20 #[.pointer (some ⟨ab,0,none⟩),.agg #[.string x.1.from_,.string x.1.aP,.string x.1.kind,.string x.1.key,.int .i64 x.1.op,.int .i64 x.1.config,.bool x.1.shut,.slice x.2.1 x.2.2.1 x.2.2.2]] w fun e w'=>(∃ p c,e=.returned (.slice p (fU (a.heard x.1)).2.length c)/\mN w' p (fU (a.heard x.1)).2)/\∃ S' C0 C1 C2,Xh w' B S' ab (fU (a.heard x.1)).1 mv nv C0 C1 C2/\Yd S S' w w':=by
 have p0:Hid ((a.heard x.1).put=false):=A3
 have f7:Hid ((a.heard x.1).aI=false):=A5
 have C4:Hid ((a.heard x.1).st=.looking):=A2
 have p1:Hid ((a.heard x.1).L.flatten.length<=1000):=B2
 have f8:Hid ((a.heard x.1).from_.length=(a.heard x.1).L.length/\(a.heard x.1).from_.length<=1000/\(a.heard x.1).L.length<=1000):=⟨by show (a.from_ ++ [x.1.from_]).length=(a.L ++ [x.1.L]).length;simp [A6],by show (a.from_ ++ [x.1.from_]).length<=1000;simp;omega,by show (a.L ++ [x.1.L]).length<=1000;simp;omega⟩
 have p2:Hid ((a.heard x.1).text.size<=1000):=B0
 have f9:Hid (¬ (a.heard x.1).from_.length < Jh (a.heard x.1).c):=by show ¬ (a.from_ ++ [x.1.from_]).length < Jh a.c;simp;omega
 have g8:Hid (((a.heard x.1).c.L.length:Int)=(a.heard x.1).c.n/\1<=(a.heard x.1).c.k/\(a.heard x.1).c.k<=(a.heard x.1).c.n/\(a.heard x.1).c.n<=12):=⟨A9,o9⟩
 have p5:Hid ((a.heard x.1).L.length=a.L.length+1/\(a.heard x.1).c=a.c):=⟨by show (a.L ++ [x.1.L]).length=_;simp,rfl⟩
 have j2:Hid ((Xq (a.heard x.1).from_ (a.heard x.1).L (a.heard x.1).c.L).flatten.length<=1000):=B3
 clear A3 A5 A6 A9 B0 B2 B3
 obtain ⟨i0,C5,C9,D1,D5⟩:=info_parts (P:=prog) (e:=9) (z:=.string ⟨#[]⟩) (size:=1) (bytes:=16) (by kernel_rfl)
 obtain ⟨j0,D7,D8,D9,E4⟩:=info_parts VU
 obtain ⟨mp,G,E5,p7,K9,F1,F2⟩:=h.mem.at_
 obtain ⟨fp,fc,F5,p9,L0,F6,_⟩:=h.from_.form
 have F7:Hid (Xh w B S ab a mv nv fv lv vs):=h
 subst E5 F5
 obtain ⟨⟨m1,m2,m3,m4,m5,m6,m7,K⟩,lp,ln,lc⟩:=x
 dsimp only at *
 subst K7
 subst K8
 obtain ⟨J,a2⟩:∃ J,J=w.alloc (.cells #[.string m1,.string m2,.string m3,.string m4,.int .i64 m5,.int .i64 m6,.bool false,.slice lp K.length lc] 59):=⟨_,rfl⟩
 have d9:Below w.heap.size w J:=by rw [a2];exact (Below.refl _ _).alloc (Nat.le_refl _) _
 have a4:=h.below d9
 have q0:=H7 a4
 have c0:J.cell? ⟨ab,0,none⟩=some (.string a.name):=a4.cell 0
 have c1:J.cell? ⟨ab,1,none⟩=some (.string a.key):=a4.cell 1
 have c3:J.cell? ⟨ab,3,none⟩=some (.int .i64 a.op):=a4.cell 3
 have c4:J.cell? ⟨ab,4,none⟩=some (.int .i64 a.config):=a4.cell 4
 have c7:J.cell? ⟨ab,7,none⟩=some (.slice mp a.c.L.length G):=a4.cell 7
 have a7:J.cell? ⟨ab,14,none⟩=some (.slice fp a.from_.length fc):=a4.cell 14
 have d0:J.cell? ⟨w.heap.size,0,none⟩=some (.string m1):=by rw [a2,World.cell?_alloc_at _ _ _ _ rfl];rfl
 have d1:J.cell? ⟨w.heap.size,1,none⟩=some (.string m2):=by rw [a2,World.cell?_alloc_at _ _ _ _ rfl];rfl
 have d2:J.cell? ⟨w.heap.size,2,none⟩=some (.string m3):=by rw [a2,World.cell?_alloc_at _ _ _ _ rfl];rfl
 have d3:J.cell? ⟨w.heap.size,3,none⟩=some (.string m4):=by rw [a2,World.cell?_alloc_at _ _ _ _ rfl];rfl
 have d4:J.cell? ⟨w.heap.size,4,none⟩=some (.int .i64 m5):=by rw [a2,World.cell?_alloc_at _ _ _ _ rfl];rfl
 have d5:J.cell? ⟨w.heap.size,5,none⟩=some (.int .i64 m6):=by rw [a2,World.cell?_alloc_at _ _ _ _ rfl];rfl
 have q4:Hid (∀ W,Below J.heap.size J W->Strs W mp a.c.L):=fun W Q=>(p7.below d9).below Q
 have q5:Hid (∀ W,Below J.heap.size J W->Strs W fp a.from_):=fun W Q=>(p9.below d9).below Q
 have F8:Hid (J=w.alloc (.cells #[.string m1,.string m2,.string m3,.string m4,.int .i64 m5,.int .i64 m6,.bool false,.slice lp K.length lc] 59)):=a2
 have q6:Hid (Below w.heap.size w J):=d9
 have d6:J.cell? ⟨w.heap.size,6,none⟩=some (.bool false):=by rw [a2,World.cell?_alloc_at _ _ _ _ rfl];rfl
 have d7:J.cell? ⟨w.heap.size,7,none⟩=some (.slice lp K.length lc):=by rw [a2,World.cell?_alloc_at _ _ _ _ rfl];rfl
 have L3:J.heap.size=w.heap.size+1:=by rw [a2];simp
 have F9:Hid (Xh J B S ab a (.slice mp a.c.L.length G) nv (.slice fp a.from_.length fc) lv vs):=a4
 have q7:Hid (∀ W:World,w.heap.size<=W.heap.size->(∀ k,k < w.heap.size->¬ S k->W.heap[k]?=w.heap[k]?)->Ql Ze W lp K):=B9
 have G0:Hid (lp=none->K=[]/\lc=0):=B8
 have j3:Hid (Jh a.c<=a.from_.length+1):=B5
 have L4:Hid (a.st.word=⟨#[108,111,111,107,105,110,103]⟩):=by show _=_;rw [A2];rfl
 have r0:Hid (1<=a.c.k/\a.c.k<=a.c.n/\a.c.n<=12):=o9
 obtain ⟨g0,g1,g2,g3,g4,g5,g6,g7⟩:a.st.waits≠⟨#[]⟩/\m3=a.st.waits/\m2=a.name/\m4=a.key/\m5=a.op/\m6=a.config/\m1 ∈ a.c.L/\m1 ∉ a.from_:=by
  unfold Za.aM at i9
  rw [Bool.and_eq_true,Bool.and_eq_true] at i9
  obtain ⟨q1,q2,q3⟩:=i9
  have b6:=of_decide_eq_true q1
  exact ⟨b6.1,b6.2.1,b6.2.2.1,b6.2.2.2.1,b6.2.2.2.2.1,b6.2.2.2.2.2,Zl.1 q2,fun hm=>by rw [Zl.2 hm] at q3;cases q3⟩
 have r1:Hid (∀ W,Below J.heap.size J W->Calls prog 46 #[.slice mp a.c.L.length G,.string m1] W fun e w'=>e=.returned (.int .i64 ((ZJ a.c.L m1:Nat):Int))/\w'=W):=fun W Q=>wS mp a.c.L G m1 W (by omega) (q4.out W Q) g6
 have r2:Hid (∀ W,Below J.heap.size J W->Calls prog 46 #[.slice fp a.from_.length fc,.string m1] W fun e w'=>e=.returned (.int .i64 (-1))/\w'=W):=fun W Q=>BL fp a.from_ fc m1 W (by omega) (q5.out W Q) g7
 clear h p7 F2 p9 F6 F1 d9 a2 a4 i9 q4 q5 B9 B8 B5 o9 g6 g7
 generalize ZJ a.c.L m1=j1 at *
 have n1:decide ((j1:Int) < 0)=false:=decide_eq_false (by omega)
 have t0:=XT g0
 have u0:=YT g0
 have v0:=Y8 g0
 have e0:(⟨#[]⟩:ByteArray).toList=[]:=by decide +kernel
 rw [e0] at t0 u0
 subst g1 g2 g3 g4 g5
 generalize a.st.waits=wt at *
 clear g0
 go_enter func20,ntmps20
 go_wp2_with (first | rw [<- F8.out] | fail)
 refine q0.mono ?_
 rintro e w2 ⟨rfl,r3⟩
 rw [r3]
 clear r3 w2 q0
 go_wp2
 go_quiet (fail)
 generalize a8:World.drewN J _=wq
 have G1:wq.cell? ⟨ab,7,none⟩=some (.slice mp a.c.L.length G):=by rw [<- a8];exact c7
 have r4:wq.cell? ⟨ab,14,none⟩=some (.slice fp a.from_.length fc):=by rw [<- a8];exact a7
 have r5:wq.cell? ⟨w.heap.size,0,none⟩=some (.string m1):=by rw [<- a8];exact d0
 have r6:wq.cell? ⟨w.heap.size,6,none⟩=some (.bool false):=by rw [<- a8];exact d6
 have r7:wq.cell? ⟨w.heap.size,7,none⟩=some (.slice lp K.length lc):=by rw [<- a8];exact d7
 have g9:Below J.heap.size J wq:=by rw [<- a8];exact below_drewN (Below.refl _ _) _
 clear a8 c0 c1 c3 c4 c7 a7 d0 d1 d2 d3 d4 d5 d6 d7
 go_wp2
 go_quiet (first | (go_at_call 46;with_reducible exact Calls.quiet_of_same (r1.out _ (below_drewN g9 _))) | (go_at_call 46;with_reducible exact Calls.quiet_of_same (r2.out _ (below_drewN g9 _))))
 generalize b7:World.drewN wq _=wr
 have G2:wr.cell? ⟨ab,14,none⟩=some (.slice fp a.from_.length fc):=by rw [<- b7];exact r4
 have s1:wr.cell? ⟨w.heap.size,0,none⟩=some (.string m1):=by rw [<- b7];exact r5
 have G3:wr.cell? ⟨w.heap.size,6,none⟩=some (.bool false):=by rw [<- b7];exact r6
 have s2:wr.cell? ⟨w.heap.size,7,none⟩=some (.slice lp K.length lc):=by rw [<- b7];exact r7
 have s3:Below J.heap.size J wr:=by rw [<- b7];exact below_drewN g9 _
 have j5:Hid (Below J.heap.size J wr):=s3
 clear b7 G1 r4 r5 r6 r7 g9 s3 r1 r2 n1 t0 u0 v0 e0
 go_wp2
 have a9:Below wr.heap.size wr (wr.alloc (.cells #[.string m1] 9)):=(Below.refl _ _).alloc (Nat.le_refl _) _
 have s4:=j5.out.size
 have h4:Hid (Below J.heap.size J ((wr.alloc (.cells #[.string m1] 9)).drew)):=(j5.out.trans (a9.mono s4)).drew
 have a5:Hid (Xh ((wr.alloc (.cells #[.string m1] 9)).drew) B S ab a (.slice mp a.c.L.length G) nv (.slice fp a.from_.length fc) lv vs):=F9.out.below h4.out
 have G8:(wr.alloc (.cells #[.string m1] 9)).cell? ⟨ab,14,none⟩=some (.slice fp a.from_.length fc):=a5.out.cell 14
 have G9:(wr.alloc (.cells #[.string m1] 9)).cell? ⟨w.heap.size,0,none⟩=some (.string m1):=(a9.cell (p:=⟨w.heap.size,0,none⟩) (by show w.heap.size < wr.heap.size;omega)).trans s1
 have s5:(wr.alloc (.cells #[.string m1] 9)).cell? ⟨w.heap.size,7,none⟩=some (.slice lp K.length lc):=(a9.cell (p:=⟨w.heap.size,7,none⟩) (by show w.heap.size < wr.heap.size;omega)).trans s2
 have e4:Hid ((wr.alloc (.cells #[.string m1] 9)).cell? ⟨wr.heap.size,0,none⟩=some (.string m1)):=by show _=_;rw [World.cell?_alloc_at _ _ _ _ rfl];rfl
 have s6:Hid (((wr.alloc (.cells #[.string m1] 9)).drew).cell? ⟨w.heap.size,7,none⟩=some (.slice lp K.length lc)):=s5
 clear a9 s5 s2 G3
 have s7:Hid (∀ v Y,JM Y B 9 v (a.from_.map Value.string ++ [.string m1])->((wr.alloc (.cells #[.string m1] 9)).drew).grownBy Y (Value.slice fp a.from_.length fc).ownBlock->(v.ownBlock=(Value.slice fp a.from_.length fc).ownBlock∨v.ownBlock=some ((wr.alloc (.cells #[.string m1] 9)).drew).heap.size)->∃ I c3,v=.slice I (a.from_.length+1) c3/\Xh (Y.setCell ⟨ab,14,none⟩ (.slice I (a.from_.length+1) c3)) B (fun k=>S k∨(Value.slice I (a.from_.length+1) c3).ownBlock=some k) ab { a with from_:=a.from_ ++ [m1] } (.slice mp a.c.L.length G) nv (.slice I (a.from_.length+1) c3) lv vs/\Yd S (fun k=>S k∨(Value.slice I (a.from_.length+1) c3).ownBlock=some k) w (Y.setCell ⟨ab,14,none⟩ (.slice I (a.from_.length+1) c3))/\Y.frozen? ⟨ab,14,none⟩=false/\Y.cell? ⟨ab,14,none⟩=some (.slice fp a.from_.length fc)/\(Y.setCell ⟨ab,14,none⟩ (.slice I (a.from_.length+1) c3)).cell? ⟨w.heap.size,7,none⟩=some (.slice lp K.length lc)):=fun v Y h5 e5 h6=>by
  have s8:Zq Y B v (a.from_ ++ [m1]):=by unfold Zq;rw [List.map_append];exact h5
  obtain ⟨I,c3,s9,_⟩:=s8.form
  rw [List.length_append,List.length_singleton] at s9
  subst s9
  have HF:=a5.out.from s8 e5 h6
  have t3:=(e5.block ab (a5.out.aO ab a5.out.self).2 (fun e=>(a5.out.sF ab e.symm).2 rfl)).trans a5.out.dT
  have H0:Below w.heap.size w ((wr.alloc (.cells #[.string m1] 9)).drew):=q6.out.trans (h4.out.mono q6.out.size)
  have H1:¬ S w.heap.size:=fun hs=>by have:=(F7.out.aO _ hs).2;omega
  exact ⟨I,c3,rfl,HF.1,(Yd.aJ H0).trans HF.2,by simp [World.frozen?,t3],by simp [World.cell?,t3,Qo],(World.cell?_of_block (a:=⟨w.heap.size,7,none⟩) (HF.2.block w.heap.size (by have:=h4.out.size;omega) H1)).trans s6.out⟩
 clear s6
 go_cut [6] from 93 to 100 (fun v Y=>∃ I c3,v=.slice I (a.from_.length+1) c3/\Xh (Y.setCell ⟨ab,14,none⟩ (.slice I (a.from_.length+1) c3)) B (fun k=>S k∨(Value.slice I (a.from_.length+1) c3).ownBlock=some k) ab { a with from_:=a.from_ ++ [m1] } (.slice mp a.c.L.length G) nv (.slice I (a.from_.length+1) c3) lv vs/\Yd S (fun k=>S k∨(Value.slice I (a.from_.length+1) c3).ownBlock=some k) w (Y.setCell ⟨ab,14,none⟩ (.slice I (a.from_.length+1) c3))/\Y.frozen? ⟨ab,14,none⟩=false/\Y.cell? ⟨ab,14,none⟩=some (.slice fp a.from_.length fc)/\(Y.setCell ⟨ab,14,none⟩ (.slice I (a.from_.length+1) c3)).cell? ⟨w.heap.size,7,none⟩=some (.slice lp K.length lc))
 case first =>
  go_region_law (refine Jy rfl (.tmp 96) (.tmp 99) 22 rfl B 9 i0 (.string ⟨#[]⟩) 16 underlying22 C5 C9 rfl D1 D5 (by decide) (.slice fp a.from_.length fc) (a.from_.map Value.string) (by simp [Act.eval]) a5.out.from_ ⟨wr.heap.size,0,none⟩ 1 (.string m1) rfl (by simp [Act.eval]) e4.out (by rw [List.length_map];omega) a5.out.vP ?_;intro v3 Y h5 e5 h6;have H2:Hid _:=s7.out v3 Y h5 e5 h6;clear h5 e5 h6)
  all_goals (go_wp2_with fail;go_meet)
  all_goals exact H2.out
 case rest =>
  obtain ⟨I,c3,rfl,j6,j8,e6,a7,t4⟩:=hcut
  clear s7 e4 G8 G9 G2 s1 h4 a5 j5 s4
  obtain ⟨U,k6⟩:∃ U,U=wc.setCell ⟨ab,14,none⟩ (.slice I (a.from_.length+1) c3):=⟨_,rfl⟩
  rw [<- k6] at j6 j8 t4
  have t5:Hid (U=wc.setCell ⟨ab,14,none⟩ (.slice I (a.from_.length+1) c3)):=k6
  have h7:Hid (Xh U B (fun k=>S k∨(Value.slice I (a.from_.length+1) c3).ownBlock=some k) ab { a with from_:=a.from_ ++ [m1] } (.slice mp a.c.L.length G) nv (.slice I (a.from_.length+1) c3) lv vs):=j6
  have h8:Hid (Yd S (fun k=>S k∨(Value.slice I (a.from_.length+1) c3).ownBlock=some k) w U):=j8
  clear k6 j6 j8
  go_wp2
  rw [<- t5.out]
  have e7:U.cell? ⟨ab,15,none⟩=some lv:=h7.out.cell 15
  have h9:Hid (Xh U.drew B (fun k=>S k∨(Value.slice I (a.from_.length+1) c3).ownBlock=some k) ab { a with from_:=a.from_ ++ [m1] } (.slice mp a.c.L.length G) nv (.slice I (a.from_.length+1) c3) lv vs):=h7.out.below (Below.refl _ _).drew
  have t6:Hid (Ql Ze U.drew lp K):=q7.out _ h8.out.size (fun k hk hs=>h8.out.block k hk hs)
  have t7:Hid (∀ v6 w6,Zc Ze 76 w6 U.heap.size v6 ([] ++ K)->Below U.heap.size U.drew w6->∃ p6 c6,v6=.slice p6 K.length c6/\w6.cell? ⟨ab,15,none⟩=some lv/\(w6.alloc (.cells #[.slice p6 K.length c6] 55)).cell? ⟨ab,15,none⟩=some lv/\JM (w6.alloc (.cells #[.slice p6 K.length c6] 55)) B 55 lv vs/\B<=(w6.alloc (.cells #[.slice p6 K.length c6] 55)).heap.size/\(∀ v w8,JM w8 B 55 v (vs ++ [.slice p6 K.length c6])->(w6.alloc (.cells #[.slice p6 K.length c6] 55)).grownBy w8 lv.ownBlock->(v.ownBlock=lv.ownBlock∨v.ownBlock=some (w6.alloc (.cells #[.slice p6 K.length c6] 55)).heap.size)->∃ p8 c8 Z b0,v=.slice p8 (a.L.length+1) c8/\Xh (w8.setCell ⟨ab,15,none⟩ (.slice p8 (a.L.length+1) c8)) B Z ab (a.heard ⟨m1,a.name,wt,a.key,a.op,a.config,false,K⟩) (.slice mp a.c.L.length G) nv (.slice I (a.from_.length+1) c3) (.slice p8 (a.L.length+1) c8) b0/\Yd S Z w (w8.setCell ⟨ab,15,none⟩ (.slice p8 (a.L.length+1) c8))/\w8.frozen? ⟨ab,15,none⟩=false/\w8.cell? ⟨ab,15,none⟩=some lv)):=fun v6 w6 d8 i1=>by
   rw [List.nil_append] at d8
   obtain ⟨p6,c6,rfl,_⟩:=d8.form
   have t8:Below U.drew.heap.size U.drew w6:=i1
   have t9:=h9.out.below t8
   have b1:=t9.below ((Below.refl _ _).alloc (Nat.le_refl _) (.cells #[.slice p6 K.length c6] 55))
   refine ⟨p6,c6,rfl,t9.cell 15,b1.cell 15,b1.told.1,b1.vP,fun v w8 hv hg i2=>?_⟩
   have HF:=h9.out.list (r:=.slice p6 K.length c6) (row:=K) d8 t8 hv hg i2
   have H4:=b1.aO ab b1.self
   have u1:=(hg.block ab H4.2 (fun e=>(b1.sL ab e.symm).2.1 rfl)).trans b1.dT
   have H5:vs.length=a.L.length:=h9.out.told.2.1
   rcases hv.cells with ⟨_,h0⟩ | ⟨g,L5,u2,_⟩
   ·exact absurd h0 (by simp)
   rw [List.length_append,List.length_singleton,H5] at u2
   subst u2
   exact ⟨_,_,_,_,rfl,HF.1,((h8.out.trans (Yd.aJ (Below.refl _ _).drew)).trans HF.2),by simp [World.frozen?,u1],by simp [World.cell?,u1,Qo]⟩
  have H6:Hid (vs.length=a.L.length):=h7.out.told.2.1
  go_cut [8] from 105 to 114 (fun v w8=>∃ p8 c8 Z b0,v=.slice p8 (a.L.length+1) c8/\Xh (w8.setCell ⟨ab,15,none⟩ (.slice p8 (a.L.length+1) c8)) B Z ab (a.heard ⟨m1,a.name,wt,a.key,a.op,a.config,false,K⟩) (.slice mp a.c.L.length G) nv (.slice I (a.from_.length+1) c3) (.slice p8 (a.L.length+1) c8) b0/\Yd S Z w (w8.setCell ⟨ab,15,none⟩ (.slice p8 (a.L.length+1) c8))/\w8.frozen? ⟨ab,15,none⟩=false/\w8.cell? ⟨ab,15,none⟩=some lv)
  case first =>
   go_region_law (first | (refine Jai (E:=Ze) rfl (.tmp 109) (.tmp 111) 55 76 rfl (.agg #[.int .i64 0,.int .i64 0,.int .i64 0,.int .i64 0,.string ⟨#[]⟩]) 48 underlying55 qS rfl U.heap.size (.slice none 0 0) [] (by simp [Act.eval]) (Zc.nil _ _ _) lp K lc (by simp [Act.eval]) t6.out G0.out (by unfold maxLen;simp;omega) (by simp;omega) (Nat.le_refl _) ?_;intro v6 w6 d8 i1;obtain ⟨p6,c6,H9,L6,L8,u3,u6,u7⟩:=t7.out v6 w6 d8 i1;subst H9;have u8:Hid (JM (w6.alloc (.cells #[.slice p6 K.length c6] 55)) B 55 lv vs):=u3;have u9:Hid (B<=(w6.alloc (.cells #[.slice p6 K.length c6] 55)).heap.size):=u6;have v4:Hid _:=u7;clear d8 i1 u3 u6 u7) | (refine Jy rfl (.tmp 108) (.tmp 113) 44 rfl B 55 j0 (.slice none 0 0) 24 underlying44 D7 D8 rfl D9 E4 (by decide) lv vs (by simp [Act.eval]) u8.out ⟨w6.heap.size,0,none⟩ 1 (.slice p6 K.length c6) rfl (by simp [Act.eval]) (by rw [World.cell?_alloc_at _ _ _ _ rfl];rfl) (by have:=H6.out;omega) u9.out ?_;intro v8 w8 v5 v7 i2;have I0:Hid _:=v4.out v8 w8 v5 v7 i2;clear v5 v7 i2 v4 u8 u9))
   all_goals (go_wp2_with fail;go_meet)
   all_goals exact I0.out
  case rest =>
   obtain ⟨p8,c8,Z,b0,rfl,k7,l0,e8,I2⟩:=hcut
   clear t7 t6 q7 h9 h7 h8 t5 e7 t4 e6 a7
   obtain ⟨X,l1⟩:∃ X,X=wc.setCell ⟨ab,15,none⟩ (.slice p8 (a.L.length+1) c8):=⟨_,rfl⟩
   rw [<- l1] at k7 l0
   have v9:Hid (X=wc.setCell ⟨ab,15,none⟩ (.slice p8 (a.L.length+1) c8)):=l1
   have l2:Hid (Xh X B Z ab (a.heard ⟨m1,a.name,wt,a.key,a.op,a.config,false,K⟩) (.slice mp a.c.L.length G) nv (.slice I (a.from_.length+1) c3) (.slice p8 (a.L.length+1) c8) b0):=k7
   have w0:Hid (Yd S Z w X):=l0
   have l3:Hid (∀ W,Below X.heap.size X W->(W.cell? ⟨ab,14,none⟩=some (.slice I (a.from_.length+1) c3)/\W.cell? ⟨ab,5,none⟩=some (.int .i64 a.c.n)/\W.cell? ⟨ab,6,none⟩=some (.int .i64 a.c.k)/\W.cell? ⟨ab,7,none⟩=some (.slice mp a.c.L.length G)/\Below X.heap.size X W)):=fun W Q=>by
    have O:=l2.out.below Q
    exact ⟨O.cell 14,O.cell 5,O.cell 6,O.cell 7,Q⟩
   have w7:Hid (∀ W,(W.cell? ⟨ab,14,none⟩=some (.slice I (a.from_.length+1) c3)/\W.cell? ⟨ab,5,none⟩=some (.int .i64 a.c.n)/\W.cell? ⟨ab,6,none⟩=some (.int .i64 a.c.k)/\W.cell? ⟨ab,7,none⟩=some (.slice mp a.c.L.length G)/\Below X.heap.size X W)->Calls prog 47 #[.agg #[.int .i64 a.c.n,.int .i64 a.c.k,(.slice mp a.c.L.length G)]] W fun e w'=>e=.returned (.int .i64 ((Jh a.c:Nat):Int))/\(w'.cell? ⟨ab,14,none⟩=some (.slice I (a.from_.length+1) c3)/\w'.cell? ⟨ab,5,none⟩=some (.int .i64 a.c.n)/\w'.cell? ⟨ab,6,none⟩=some (.int .i64 a.c.k)/\w'.cell? ⟨ab,7,none⟩=some (.slice mp a.c.L.length G)/\Below X.heap.size X w')):=fun W Q=>(JaF a.c (.slice mp a.c.L.length G) ⟨_,_,_,rfl⟩ W r0.out).mono fun e w' hp=>⟨hp.1,l3.out w' (Q.2.2.2.2.trans (hp.2.mono Q.2.2.2.2.size))⟩
   have I3:decide (((a.from_.length+1:Nat):Int) < ((Jh a.c:Nat):Int))=false:=decide_eq_false (by have:=j3.out;omega)
   have I4:Hid (¬ ((a.from_.length+1:Nat):Int) < ((Jh a.c:Nat):Int)):=by show ¬ _ < _;have:=j3.out;omega
   generalize Jh a.c=en at *
   clear l1 k7 l0 r0 j3
   go_wp2
   rw [<- v9.out]
   go_cut [129] from 119 to 129 (fun v W=>v=.bool false/\Below X.heap.size X W)
   case first =>
    go_region_held3 (fun W=>(W.cell? ⟨ab,14,none⟩=some (.slice I (a.from_.length+1) c3)/\W.cell? ⟨ab,5,none⟩=some (.int .i64 a.c.n)/\W.cell? ⟨ab,6,none⟩=some (.int .i64 a.c.k)/\W.cell? ⟨ab,7,none⟩=some (.slice mp a.c.L.length G)/\Below X.heap.size X W)) (first | assumption | exact l3.out _ (Below.refl _ _).drew) (first | (go_at_call 47;refine (w7.out _ (by assumption)).mono ?_;rintro e L9 ⟨rfl,I5⟩))
    all_goals (go_wp2_with fail;go_meet)
    all_goals exact ⟨by first | rfl | (rw [I3]) | simpa using I4.out,(by first | assumption | exact hSs.2.2.2.2 | exact I5.2.2.2.2)⟩
   case rest =>
    obtain ⟨rfl,x0⟩:=hcut
    have l7:Hid (Below X.heap.size X wc):=x0
    clear x0 w7 l3 v9 e8 I2
    have D:=l2.out.below l7.out
    have I6:Hid (a.heard ⟨m1,a.name,wt,a.key,a.op,a.config,false,K⟩=a.heard ⟨m1,a.name,wt,a.key,a.op,a.config,false,K⟩):=by show _=_;rfl
    generalize x1:a.heard ⟨m1,a.name,wt,a.key,a.op,a.config,false,K⟩=j at *
    have e9:Hid (Xh wc B Z ab j (.slice mp a.c.L.length G) nv (.slice I (a.from_.length+1) c3) (.slice p8 (a.L.length+1) c8) b0):=D
    have I7:Hid (Yd S Z w wc):=w0.out.trans (Yd.aJ l7.out)
    obtain ⟨lq,b2,l8,x2⟩:=D.told.wO
    have I8:lq=p8/\b2=c8:=by injection l8 with e1 e2 e3;exact ⟨e1.symm,e3.symm⟩
    obtain ⟨rfl,rfl⟩:=I8
    have x4:wc.cell? ⟨ab,13,none⟩=some (.string ⟨#[108,111,111,107,105,110,103]⟩):=by rw [D.cell 13];show some (Value.string j.st.word)=_;rw [C4.out];rfl
    have oP:wc.cell? ⟨ab,11,none⟩=some (.bool false):=by rw [D.cell 11];show some (Value.bool j.put)=_;rw [p0.out]
    have l9:wc.cell? ⟨ab,12,none⟩=some (.bool false):=by rw [D.cell 12];show some (Value.bool j.aI)=_;rw [f7.out]
    have c2:wc.cell? ⟨ab,2,none⟩=some (.int .i64 j.who):=D.cell 2
    have a7:wc.cell? ⟨ab,14,none⟩=some (.slice I (a.from_.length+1) c3):=D.cell 14
    have e7:wc.cell? ⟨ab,15,none⟩=some (.slice lq j.L.length b2):=by rw [D.cell 15,<- l8];rfl
    have m0:wc.cell? ⟨ab,16,none⟩=some (.int .i64 j.tag.1):=D.cell 16
    have m8:wc.cell? ⟨ab,17,none⟩=some (.int .i64 j.tag.2):=D.cell 17
    have m9:wc.cell? ⟨ab,18,none⟩=some (.string j.text):=D.cell 18
    have n0:wc.cell? ⟨ab,19,none⟩=some (.bool j.found):=D.cell 19
    have n2:wc.frozen? ⟨ab,13,none⟩=false:=D.free 13
    have e6:wc.frozen? ⟨ab,14,none⟩=false:=D.free 14
    have e8:wc.frozen? ⟨ab,15,none⟩=false:=D.free 15
    have n3:wc.frozen? ⟨ab,16,none⟩=false:=D.free 16
    have n4:wc.frozen? ⟨ab,17,none⟩=false:=D.free 17
    have n5:wc.frozen? ⟨ab,18,none⟩=false:=D.free 18
    have n6:wc.frozen? ⟨ab,19,none⟩=false:=D.free 19
    have M3:Hid (eU wc lq j.L):=x2
    have x5:Hid (a.heard ⟨m1,a.name,wt,a.key,a.op,a.config,false,K⟩=j):=x1
    obtain ⟨y,rfl⟩:∃ y,y=wc:=⟨_,rfl⟩
    obtain ⟨T,hT⟩:∃ T,T=Ys j.c.n.toNat j.c.k.toNat (Xq j.from_ j.L j.c.L).flatten (Xq j.from_ j.L j.c.L).flatten:=⟨_,rfl⟩
    obtain ⟨k1,k2,k3,k4⟩:=g8.out
    have x7:T.2.1.size<=1000:=by rw [hT];exact y9 (by omega) _ _ (by decide)
    have y2:j.bR={ j with tag:=T.1,text:=T.2.1,found:=T.2.2 }:=by unfold Za.bR;rw [p0.out,if_neg (by decide),hT]
    obtain ⟨LL,f3⟩:∃ LL,LL=Xq j.from_ j.L j.c.L:=⟨_,rfl⟩
    have I9:LL.length<=12:=by rw [f3];have:=Jbn j.from_ j.L j.c.L;omega
    have J2:LL.flatten.length<=1000:=by rw [f3];exact j2.out
    obtain ⟨M,N,tx,fd,i3⟩:∃ M N tx fd,T=((M,N),tx,fd):=⟨T.1.1,T.1.2,T.2.1,T.2.2,rfl⟩
    have HS:Hid (∀ W:World,Below y.heap.size y W->(W.cell? ⟨ab,5,none⟩=some (.int .i64 j.c.n)/\W.cell? ⟨ab,6,none⟩=some (.int .i64 j.c.k)/\W.cell? ⟨ab,7,none⟩=some (.slice mp a.c.L.length G)/\Below y.heap.size y W)):=fun W Q=>by
     have O:=e9.out.below Q
     exact ⟨O.cell 5,O.cell 6,O.cell 7,Q⟩
    have y3:=HS.out y.drew (Below.refl _ _).drew
    have y4:=HS.out (y.alloc (.cells #[.int .i64 0,.int .i64 0] 46)).drew (((Below.refl _ _).alloc (Nat.le_refl _) _).drew)
    have n7:∀ W,Below y.heap.size y W->Calls prog 49 #[.pointer (some ⟨ab,0,none⟩)] W fun e w'=>(∃ p c,e=.returned (.slice p LL.length c)/\eU w' p LL)/\Below W.heap.size W w':=fun W Q=>by rw [f3];exact JdL (e9.out.below Q) (by omega) (by have:=f8.out;omega) f8.out.1
    have i4:∀ W,Below y.heap.size y W->∀ p c,eU W p LL->Calls prog 48 #[.agg #[.int .i64 j.c.n,.int .i64 j.c.k,(.slice mp a.c.L.length G)],.slice p LL.length c] W fun e w'=>e=.returned (.tuple #[.agg #[.int .i64 M,.int .i64 N],.string tx,.bool fd])/\Below W.heap.size W w':=fun W Q p c hv=>by
     have hb:=Jdv j.c.n.toNat j.c.k.toNat mp a.c.L.length G p LL c W (by omega) (by omega) (by omega) (by omega) J2 hv
     have e1:((j.c.n.toNat:Nat):Int)=j.c.n:=by omega
     have e2:((j.c.k.toNat:Nat):Int)=j.c.k:=by omega
     rw [e1,e2] at hb
     have e3:Ys j.c.n.toNat j.c.k.toNat LL.flatten LL.flatten=((M,N),tx,fd):=by rw [f3,<- hT];exact i3
     rw [e3] at hb
     exact hb
    have y5:Hid (Calls prog 49 #[.pointer (some ⟨ab,0,none⟩)] y.drew fun e w'=>∃ p c,e=.returned (.slice p LL.length c)/\Hid (eU w' p LL)/\(w'.cell? ⟨ab,5,none⟩=some (.int .i64 j.c.n)/\w'.cell? ⟨ab,6,none⟩=some (.int .i64 j.c.k)/\w'.cell? ⟨ab,7,none⟩=some (.slice mp a.c.L.length G)/\Below y.heap.size y w')):=(n7 _ (Below.refl _ _).drew).mono fun e w' O=>by
     obtain ⟨⟨p,c,h1,h2⟩,h3⟩:=O
     exact ⟨p,c,h1,h2,HS.out w' ((Below.refl _ y).drew.trans h3)⟩
    have n8:y.heap.size < (y.alloc (.cells #[.int .i64 0,.int .i64 0] 46)).drew.heap.size:=by show y.heap.size < (y.alloc _).heap.size;simp
    have y6:(y.alloc (.cells #[.int .i64 0,.int .i64 0] 46)).drew.heap[y.heap.size]?=some (.cells #[.int .i64 0,.int .i64 0] 46 (0,0)):=by
     show (y.heap.push _)[y.heap.size]?=_
     simp
    have y7:Hid (Calls prog 49 #[.pointer (some ⟨ab,0,none⟩)] (y.alloc (.cells #[.int .i64 0,.int .i64 0] 46)).drew fun e w'=>∃ p c,e=.returned (.slice p LL.length c)/\Hid (eU w' p LL/\w'.heap[y.heap.size]?=some (.cells #[.int .i64 0,.int .i64 0] 46 (0,0)))/\(w'.cell? ⟨ab,5,none⟩=some (.int .i64 j.c.n)/\w'.cell? ⟨ab,6,none⟩=some (.int .i64 j.c.k)/\w'.cell? ⟨ab,7,none⟩=some (.slice mp a.c.L.length G)/\Below y.heap.size y w')):=(n7 _ (((Below.refl _ _).alloc (Nat.le_refl _) _).drew)).mono fun e w' O=>by
     obtain ⟨⟨p,c,h1,h2⟩,h3⟩:=O
     exact ⟨p,c,h1,⟨h2,(h3.block _ n8).trans y6⟩,HS.out w' ((((Below.refl _ y).alloc (Nat.le_refl _) _).drew).trans (h3.mono (Nat.le_of_lt n8)))⟩
    have e4:Hid (∀ W p c,Hid (eU W p LL)->(W.cell? ⟨ab,5,none⟩=some (.int .i64 j.c.n)/\W.cell? ⟨ab,6,none⟩=some (.int .i64 j.c.k)/\W.cell? ⟨ab,7,none⟩=some (.slice mp a.c.L.length G)/\Below y.heap.size y W)->Calls prog 48 #[.agg #[.int .i64 j.c.n,.int .i64 j.c.k,(.slice mp a.c.L.length G)],.slice p LL.length c] W fun e w'=>e=.returned (.tuple #[.agg #[.int .i64 M,.int .i64 N],.string tx,.bool fd])/\(w'.cell? ⟨ab,5,none⟩=some (.int .i64 j.c.n)/\w'.cell? ⟨ab,6,none⟩=some (.int .i64 j.c.k)/\w'.cell? ⟨ab,7,none⟩=some (.slice mp a.c.L.length G)/\Below y.heap.size y w')):=fun W p c hV hS=>(i4 W hS.2.2.2 p c hV.out).mono fun e w' O=>⟨O.1,HS.out w' (hS.2.2.2.trans (O.2.mono hS.2.2.2.size))⟩
    have y8:Hid (∀ W p c,Hid (eU W p LL)->(W.cell? ⟨ab,5,none⟩=some (.int .i64 j.c.n)/\W.cell? ⟨ab,6,none⟩=some (.int .i64 j.c.k)/\W.cell? ⟨ab,7,none⟩=some (.slice mp a.c.L.length G)/\Below y.heap.size y W)->Calls prog 48 #[.agg #[.int .i64 j.c.n,.int .i64 j.c.k,(.slice mp a.c.L.length G)],.slice p LL.length c] (W.alloc (.cells #[.int .i64 0,.int .i64 0] 46)) fun e w'=>e=.returned (.tuple #[.agg #[.int .i64 M,.int .i64 N],.string tx,.bool fd])/\(w'.cell? ⟨ab,5,none⟩=some (.int .i64 j.c.n)/\w'.cell? ⟨ab,6,none⟩=some (.int .i64 j.c.k)/\w'.cell? ⟨ab,7,none⟩=some (.slice mp a.c.L.length G)/\Below y.heap.size y w')/\(w'.cell? ⟨W.heap.size,0,none⟩=some (.int .i64 0)/\w'.cell? ⟨W.heap.size,1,none⟩=some (.int .i64 0)/\w'.frozen? ⟨W.heap.size,0,none⟩=false/\w'.frozen? ⟨W.heap.size,1,none⟩=false)/\Hid (y.heap.size<=W.heap.size)):=fun W p c hV hS=>by
     have a9:Below W.heap.size W (W.alloc (.cells #[.int .i64 0,.int .i64 0] 46)):=(Below.refl _ _).alloc (Nat.le_refl _) _
     have o2:=hS.2.2.2.trans (a9.mono hS.2.2.2.size)
     refine (i4 _ o2 p c (hV.out.below a9)).mono fun e w' O=>?_
     have a6:w'.heap[W.heap.size]?=some (.cells #[.int .i64 0,.int .i64 0] 46 (0,0)):=(O.2.block _ (by simp)).trans (by show (W.heap.push _)[W.heap.size]?=_;simp)
     exact ⟨O.1,HS.out w' (o2.trans (O.2.mono o2.size)),⟨(Ja a6 0).1,(Ja a6 1).1,(Ja a6 0).2,(Ja a6 1).2⟩,hS.2.2.2.size⟩
    have z0:Hid (∀ W p c,Hid (eU W p LL/\W.heap[y.heap.size]?=some (.cells #[.int .i64 0,.int .i64 0] 46 (0,0)))->(W.cell? ⟨ab,5,none⟩=some (.int .i64 j.c.n)/\W.cell? ⟨ab,6,none⟩=some (.int .i64 j.c.k)/\W.cell? ⟨ab,7,none⟩=some (.slice mp a.c.L.length G)/\Below y.heap.size y W)->Calls prog 48 #[.agg #[.int .i64 j.c.n,.int .i64 j.c.k,(.slice mp a.c.L.length G)],.slice p LL.length c] W fun e w'=>e=.returned (.tuple #[.agg #[.int .i64 M,.int .i64 N],.string tx,.bool fd])/\(w'.cell? ⟨ab,5,none⟩=some (.int .i64 j.c.n)/\w'.cell? ⟨ab,6,none⟩=some (.int .i64 j.c.k)/\w'.cell? ⟨ab,7,none⟩=some (.slice mp a.c.L.length G)/\Below y.heap.size y w')/\(w'.cell? ⟨y.heap.size,0,none⟩=some (.int .i64 0)/\w'.cell? ⟨y.heap.size,1,none⟩=some (.int .i64 0)/\w'.frozen? ⟨y.heap.size,0,none⟩=false/\w'.frozen? ⟨y.heap.size,1,none⟩=false)):=fun W p c hV hS=>by
     refine (i4 W hS.2.2.2 p c hV.out.1).mono fun e w' O=>?_
     have J3:y.heap.size < W.heap.size:=by
      rcases Nat.lt_or_ge y.heap.size W.heap.size with h' | h'
      ·exact h'
      ·have:=hV.out.2;rw [Array.getElem?_eq_none h'] at this;cases this
     have a6:=(O.2.block _ J3).trans hV.out.2
     exact ⟨O.1,HS.out w' (hS.2.2.2.trans (O.2.mono hS.2.2.2.size)),(Ja a6 0).1,(Ja a6 1).1,(Ja a6 0).2,(Ja a6 1).2⟩
    have z1:Hid (T=((M,N),tx,fd)):=i3
    have z2:Hid (j.bR={ j with tag:=T.1,text:=T.2.1,found:=T.2.2 }):=y2
    have J5:Hid (tx.size<=1000):=by have:=x7;rw [i3] at this;exact this
    clear D x1 l8 x2 I6 l2 w0 l7 n7 n8 y6 i4 hT f3 x7 y2 i3 k1 k2 k3 k4 a7 e7 m0 m8 m9 n0 c2 n2 e6 e8 n3 n4 n5 n6 l9
    go_wp2
    go_cut [13,14,15] from 196 to 206 (fun v1 v2 v3 W=>∃ tb,v1=.pointer (some ⟨tb,0,none⟩)/\v2=.string tx/\v3=.bool fd/\(W.cell? ⟨tb,0,none⟩=some (.int .i64 M)/\W.cell? ⟨tb,1,none⟩=some (.int .i64 N))/\Below y.heap.size y W/\y.heap.size<=tb)
    case first =>
     go_region_held3 (fun W=>(W.cell? ⟨ab,5,none⟩=some (.int .i64 j.c.n)/\W.cell? ⟨ab,6,none⟩=some (.int .i64 j.c.k)/\W.cell? ⟨ab,7,none⟩=some (.slice mp a.c.L.length G)/\Below y.heap.size y W)) (first | with_reducible assumption | with_reducible exact y3 | with_reducible exact y4 | (with_reducible exact HS.out _ (o3.2.2.2.alloc o3.2.2.2.size _)) | (with_reducible exact HS.out _ (a3.2.2.2.alloc a3.2.2.2.size _)) | exact HS.out _ ((a3.2.2.2.setCell (by first | exact Nat.le_refl _ | exact f4.out) _).setCell (by first | exact Nat.le_refl _ | exact f4.out) _)) (first | (go_at_call 49;with_reducible refine y5.out.mono ?_;rintro e U ⟨p4,c4,rfl,J8,o3⟩) | (go_at_call 49;with_reducible refine y7.out.mono ?_;rintro e U ⟨p4,c4,rfl,J8,o3⟩) | (go_at_call 48;with_reducible refine (z0.out U p4 c4 (by with_reducible assumption) (by with_reducible assumption)).mono ?_;rintro e w5 ⟨rfl,a3,k0,k1,y0,y1⟩) | (go_at_call 48;with_reducible refine (e4.out U p4 c4 (by with_reducible assumption) (by with_reducible assumption)).mono ?_;rintro e w5 ⟨rfl,a3⟩) | (go_at_call 48;with_reducible refine (y8.out U p4 c4 (by with_reducible assumption) (by with_reducible assumption)).mono ?_;rintro e w5 ⟨rfl,a3,⟨k0,k1,y0,y1⟩,f4⟩))
     all_goals (go_wp2_with fail;go_meet)
     all_goals first
      | exact ⟨_,rfl,rfl,rfl,⟨by rw [World.cell?_alloc_at _ _ _ _ rfl];rfl,by rw [World.cell?_alloc_at _ _ _ _ rfl];rfl⟩,a3.2.2.2.alloc a3.2.2.2.size _,a3.2.2.2.size⟩
      | exact ⟨_,rfl,rfl,rfl,JcR k0 k1,(a3.2.2.2.setCell (Nat.le_refl _) _).setCell (Nat.le_refl _) _,Nat.le_refl _⟩
      | exact ⟨_,rfl,rfl,rfl,JcR k0 k1,(a3.2.2.2.setCell f4.out _).setCell f4.out _,f4.out⟩
    case rest =>
     obtain ⟨tb,rfl,rfl,rfl,⟨o0,o1⟩,i5,z3⟩:=hcut
     have D:=e9.out.below i5
     have i7:=I7.out.trans (Yd.aJ i5)
     have l9:wc.cell? ⟨ab,12,none⟩=some (.bool false):=by rw [D.cell 12];show some (Value.bool j.aI)=_;rw [f7.out]
     have x4:wc.cell? ⟨ab,13,none⟩=some (.string j.st.word):=D.cell 13
     have a7:wc.cell? ⟨ab,14,none⟩=some (.slice I (a.from_.length+1) c3):=D.cell 14
     have e7:wc.cell? ⟨ab,15,none⟩=some (.slice lq (a.L.length+1) b2):=D.cell 15
     have m0:wc.cell? ⟨ab,16,none⟩=some (.int .i64 j.tag.1):=D.cell 16
     have m8:wc.cell? ⟨ab,17,none⟩=some (.int .i64 j.tag.2):=D.cell 17
     have m9:wc.cell? ⟨ab,18,none⟩=some (.string j.text):=D.cell 18
     have n0:wc.cell? ⟨ab,19,none⟩=some (.bool j.found):=D.cell 19
     have n2:wc.frozen? ⟨ab,13,none⟩=false:=D.free 13
     have e6:wc.frozen? ⟨ab,14,none⟩=false:=D.free 14
     have e8:wc.frozen? ⟨ab,15,none⟩=false:=D.free 15
     have n3:wc.frozen? ⟨ab,16,none⟩=false:=D.free 16
     have n4:wc.frozen? ⟨ab,17,none⟩=false:=D.free 17
     have n5:wc.frozen? ⟨ab,18,none⟩=false:=D.free 18
     have n6:wc.frozen? ⟨ab,19,none⟩=false:=D.free 19
     have J9:tb≠ab:=by have:=(e9.out.aO ab e9.out.self).2;omega
     have M5:ab≠tb:=fun e=>J9 e.symm
     clear y5 y7 e4 y8 z0 y3 y4 oP
     cases fd with
     | false =>
      have b3:j.bR={ j with tag:=(M,N),text:=tx,found:=false }:=by rw [z2.out,z1.out]
      have f5:fU j=({ j with tag:=(M,N),text:=tx,found:=false,st:=.done },[]):=by
       unfold fU
       rw [if_neg f9.out,if_pos (by rw [b3]),b3]
      have o4:Hid (fU j=({ j with tag:=(M,N),text:=tx,found:=false,st:=.done },[])):=f5
      obtain ⟨a0,b4⟩:∃ a0,a0=((((wc.setCell ⟨ab,16,none⟩ (.int .i64 M)).setCell ⟨ab,17,none⟩ (.int .i64 N)).setCell ⟨ab,18,none⟩ (.string tx)).setCell ⟨ab,19,none⟩ (.bool false)).setCell ⟨ab,13,none⟩ (.string ⟨#[100,111,110,101]⟩):=⟨_,rfl⟩
      have f6:=JcJ (a:=j) (mv:=(.slice mp a.c.L.length G)) (nv:=nv) (fv:=(.slice I (a.from_.length+1) c3)) (lv:=(.slice lq (a.L.length+1) b2)) (a':={ j with tag:=(M,N),text:=tx,found:=false,st:=.done }) rfl rfl rfl rfl rfl rfl rfl rfl rfl
      have b5:q9 ab (Qo { j with tag:=(M,N),text:=tx,found:=false,st:=.done } (.slice mp a.c.L.length G) nv (.slice I (a.from_.length+1) c3) (.slice lq (a.L.length+1) b2)) wc a0:=by rw [b4];exact f6 ▸ ((((((q9.refl D.dT).set 16 (.int .i64 M)).set 17 (.int .i64 N)).set 18 (.string tx)).set 19 (.bool false)).set 13 (.string ⟨#[100,111,110,101]⟩))
      have o5:Hid (Xh a0 B Z ab { j with tag:=(M,N),text:=tx,found:=false,st:=.done } (.slice mp a.c.L.length G) nv (.slice I (a.from_.length+1) c3) (.slice lq (a.L.length+1) b2) b0):=D.written (a':={ j with tag:=(M,N),text:=tx,found:=false,st:=.done }) b5 rfl rfl rfl rfl
      have o6:Hid (Yd S Z w a0):=i7.trans (b5.nJ D.self)
      have o7:Hid (a0=((((wc.setCell ⟨ab,16,none⟩ (.int .i64 M)).setCell ⟨ab,17,none⟩ (.int .i64 N)).setCell ⟨ab,18,none⟩ (.string tx)).setCell ⟨ab,19,none⟩ (.bool false)).setCell ⟨ab,13,none⟩ (.string ⟨#[100,111,110,101]⟩)):=b4
      clear b4 b5 f6 D i7 i5 f5 b3 p1 f8 p2 f9 g8 p5 j2 z3
      go_wp2_with (first | rw [<- o7.out] | fail)
      go_ret
      rw [x5.out,o4.out]
      exact ⟨⟨none,0,rfl,mN.nil _ _⟩,Z,_,_,_,o5.out,o6.out⟩
     | true =>
      have b3:j.bR={ j with tag:=(M,N),text:=tx,found:=true }:=by rw [z2.out,z1.out]
      have z4:j.bR.keeps=({ j with tag:=(M,N),text:=tx,found:=true,st:=.keeping,from_:=[],L:=[] }:Za):=by rw [b3];unfold Za.keeps;show (if j.aI=true then _ else _)=_;rw [f7.out];rfl
      have f5:fU j=({ j with tag:=(M,N),text:=tx,found:=true,st:=.keeping,from_:=[],L:=[] },Za.send ({ j with tag:=(M,N),text:=tx,found:=true,st:=.keeping,from_:=[],L:=[] }:Za) JJ true):=by
       unfold fU
       rw [if_neg f9.out,if_neg (by rw [b3];intro e;cases e),z4]
      have o4:Hid (fU j=({ j with tag:=(M,N),text:=tx,found:=true,st:=.keeping,from_:=[],L:=[] },Za.send ({ j with tag:=(M,N),text:=tx,found:=true,st:=.keeping,from_:=[],L:=[] }:Za) JJ true)):=f5
      obtain ⟨a0,b4⟩:∃ a0,a0=((((((wc.setCell ⟨ab,16,none⟩ (.int .i64 M)).setCell ⟨ab,17,none⟩ (.int .i64 N)).setCell ⟨ab,18,none⟩ (.string tx)).setCell ⟨ab,19,none⟩ (.bool true)).setCell ⟨ab,13,none⟩ (.string ⟨#[107,101,101,112,105,110,103]⟩)).setCell ⟨ab,14,none⟩ (.slice none 0 0)).setCell ⟨ab,15,none⟩ (.slice none 0 0):=⟨_,rfl⟩
      have f6:=JcI (a:=j) (mv:=(.slice mp a.c.L.length G)) (nv:=nv) (fv:=(.slice I (a.from_.length+1) c3)) (lv:=(.slice lq (a.L.length+1) b2)) (a':={ j with tag:=(M,N),text:=tx,found:=true,st:=.keeping,from_:=[],L:=[] }) rfl rfl rfl rfl rfl rfl rfl rfl rfl
      have b5:q9 ab (Qo { j with tag:=(M,N),text:=tx,found:=true,st:=.keeping,from_:=[],L:=[] } (.slice mp a.c.L.length G) nv (.slice none 0 0) (.slice none 0 0)) wc a0:=by rw [b4];exact f6 ▸ ((((((((q9.refl D.dT).set 16 (.int .i64 M)).set 17 (.int .i64 N)).set 18 (.string tx)).set 19 (.bool true)).set 13 (.string ⟨#[107,101,101,112,105,110,103]⟩)).set 14 (.slice none 0 0)).set 15 (.slice none 0 0))
      have i8:=D.fresh (a':={ j with tag:=(M,N),text:=tx,found:=true,st:=.keeping,from_:=[],L:=[] }) b5 rfl rfl rfl rfl
      obtain ⟨k1,k2,k3,k4⟩:=g8.out
      have z5:=Jcd i8 ⟨#[107,101,101,112]⟩ j.c.n.toNat j.c.k.toNat (by show j.c.n=_;omega) (by show j.c.k=_;omega) (by omega) (by omega) (by omega) (by show j.c.L.length=_;omega) (by show tx.size<=3000;have:=J5.out;omega)
      have o5:Hid (Xh a0 B Z ab { j with tag:=(M,N),text:=tx,found:=true,st:=.keeping,from_:=[],L:=[] } (.slice mp a.c.L.length G) nv (.slice none 0 0) (.slice none 0 0) []):=i8
      have M6:a0.cell? ⟨ab,12,none⟩=some (.bool false):=by rw [i8.cell 12];show some (Value.bool j.aI)=_;rw [f7.out]
      have o6:Hid (Yd S Z w a0):=i7.trans (b5.nJ D.self)
      have o7:Hid (a0=((((((wc.setCell ⟨ab,16,none⟩ (.int .i64 M)).setCell ⟨ab,17,none⟩ (.int .i64 N)).setCell ⟨ab,18,none⟩ (.string tx)).setCell ⟨ab,19,none⟩ (.bool true)).setCell ⟨ab,13,none⟩ (.string ⟨#[107,101,101,112,105,110,103]⟩)).setCell ⟨ab,14,none⟩ (.slice none 0 0)).setCell ⟨ab,15,none⟩ (.slice none 0 0)):=b4
      clear b4 b5 f6 D i8 i7 i5 f5 b3 z4 p1 f8 p2 f9 g8 p5 j2 z3 k1 k2 k3 k4
      go_wp2_with (first | rw [<- o7.out] | fail)
      refine z5.mono ?_
      rintro e z6 ⟨⟨z7,K3,rfl,z8⟩,z9⟩
      have K5:Hid (mN z6 z7 (Za.send ({ j with tag:=(M,N),text:=tx,found:=true,st:=.keeping,from_:=[],L:=[] }:Za) JJ true)):=z8
      have A1:Hid (Below a0.heap.size a0 z6):=z9
      clear z8 z9 z5 l9 x4 a7 e7 m0 m8 m9 n0 n2 e6 e8 n3 n4 n5 n6
      go_wp2
      go_ret
      rw [x5.out,o4.out]
      exact ⟨⟨z7,K3,rfl,K5.out⟩,Z,_,_,_,o5.out.below A1.out,o6.out.trans (Yd.aJ A1.out)⟩
end
section
variable {w w':World} {B:Nat} {S:Nat->Prop} {ab:Nat} {a:Za} {mv nv fv lv:Value} {vs:List Value}
theorem JdP (h:Xh w B S ab a mv nv fv lv vs) (x:Zb×Lv) (D:JU a) (K:Jn w x) (a9:a.small x.1) (U:∀ W:World,w.heap.size<=W.heap.size->(∀ k,k < w.heap.size->¬ S k->W.heap[k]?=w.heap[k]?)->Ql Ze W x.2.1 x.1.L) :
 Calls prog 20 #[.pointer (some ⟨ab,0,none⟩),.agg #[.string x.1.from_,.string x.1.aP,.string x.1.kind,.string x.1.key,.int .i64 x.1.op,.int .i64 x.1.config,.bool x.1.shut,.slice x.2.1 x.2.2.1 x.2.2.2]] w fun e w'=>(∃ p c,e=.returned (.slice p (a.aD x.1).2.length c)/\mN w' p (a.aD x.1).2)/\∃ S' a2 a3 a4,Xh w' B S' ab (a.aD x.1).1 mv nv a2 a3 a4/\Yd S S' w w':=by
 obtain ⟨⟨M,N,O⟩,Z,_,_,a5⟩:=Xm D.cfg
 have a6:a.from_.length<=12:=by have:=YS D.nodup D.sub;omega
 have b0:a.L.length<=12:=by rw [<- D.both];exact a6
 obtain ⟨b1,b2,b3,b4,b5⟩:=EM a9
 cases I:a.aM x.1 with
 | false =>
  rw [pW I]
  exact (Jd8 h x (by omega) (by omega) I).mono fun e w' j=>⟨⟨none,0,j.1,mN.nil _ _⟩,S,_,_,_,h.below j.2,Yd.aJ j.2⟩
 | true =>
  obtain ⟨a0,_,_⟩:=EB D.st I
  cases G:x.1.shut with
  | true =>
   rw [qQ I G D.st]
   have:=Jch h x (by omega) (by omega) I G D.st
   rw [G] at this
   exact this.mono fun e w' j=>⟨⟨none,0,j.1,mN.nil _ _⟩,S,_,_,_,j.2.1,j.2.2⟩
  | false =>
   by_cases X:a.from_.length+1 < Jh a.c
   ·have Y:=Jc6 h x (by omega) (by omega) I G X ⟨M,N,O⟩ (by omega) (by omega) K.len K.empty U
    rw [G] at Y
    have Q:(a.heard x.1).from_.length < Jh a.c:=by show (a.from_ ++ [x.1.from_]).length < _;simpa using X
    rcases a0 with J | J
    ·rw [H8 I G J]
     have e:fU (a.heard x.1)=(a.heard x.1,[]):=if_pos Q
     rw [e]
     exact Y.mono fun e w' j=>⟨⟨none,0,j.1,mN.nil _ _⟩,j.2⟩
    ·rw [uB I G J,if_pos Q]
     exact Y.mono fun e w' j=>⟨⟨none,0,j.1,mN.nil _ _⟩,j.2⟩
   ·rcases a0 with J | J
    ·rw [H8 I G J]
     have a7:(a.heard x.1).from_.length=(a.heard x.1).L.length:=by show (a.from_ ++ [x.1.from_]).length=(a.L ++ [x.1.L]).length;simp [D.both]
     have a8:(a.heard x.1).from_.Nodup:=by
      obtain ⟨_,_,hx⟩:=EB D.st I
      show (a.from_ ++ [x.1.from_]).Nodup
      rw [List.nodup_append]
      exact ⟨D.nodup,by simp,fun y hy z hz=>by rw [List.mem_singleton.1 hz];intro e;exact hx (e ▸ hy)⟩
     have a1:(Xq (a.heard x.1).from_ (a.heard x.1).L a.c.L).flatten.length<=1000:=by
      rw [<- B7 (a.heard x.1) a.c.L]
      exact Nat.le_trans (PH a7 a8 a5) (by omega)
     cases hp:a.put with
     | true =>
      have:=JdE h x (by omega) (by omega) I G J hp D.still D.both Z D.text (by omega) a1 (by omega) ⟨M,N,O⟩ (by omega) (by omega) K.len K.empty U
      rw [G] at this
      exact this
     | false =>
      have:=JdD h x (by omega) (by omega) I G J hp D.still D.both Z D.text (by omega) a1 (by omega) ⟨M,N,O⟩ (by omega) (by omega) K.len K.empty U
      rw [G] at this
      exact this
    ·have Q:¬ (a.heard x.1).from_.length < Jh a.c:=by show ¬ (a.from_ ++ [x.1.from_]).length < _;simpa using X
     rw [uB I G J,if_neg Q]
     have:=Jc9 h x (by omega) (by omega) I G J (by omega) ⟨M,N,O⟩ (by omega) (by omega) K.len K.empty U
     rw [G] at this
     exact this.mono fun e w' j=>⟨⟨none,0,j.1,mN.nil _ _⟩,j.2⟩
end
theorem Jcn (X Y:Option Addr) (l m:List Yb) (ca cb:Nat) (w:World) (hl:l.length<=1000000) (ha:Ql Ze w X l) (hb:Ql Ze w Y m) :
 Calls prog 62 #[.slice X l.length ca,.slice Y m.length cb] w fun e w'=>e=.returned (.bool (decide (l=m)))/\Below w.heap.size w w':=by
 by_cases I:l.length=m.length
 ·have HT:Hid ((∀ i,i < l.length->Xd l i=Xd m i)->decide (l=m)=true):=fun h=>decide_eq_true (Jez I h)
  have HF:Hid (∀ i,i < l.length->Xd l i≠Xd m i->decide (l=m)=false):=fun i _ h=>decide_eq_false (fun e=>h (by rw [e]))
  generalize decide (l=m)=r at *
  have HM:Hid (m.length=l.length):=I.symm
  rw [<- I]
  clear I
  go_enter func62,ntmps62
  go_wp2
  go_loopw [5] (fun x wq=>∃ i:Nat,i<=l.length/\x=.int .i64 i/\(∀ j,j < i->Xd l j=Xd m j)/\∃ n,wq=w.drewN n) (fun x _=>l.length - (intOf x).toNat)
  case atStart=>exact ⟨0,Nat.zero_le _,rfl,fun j Z=>absurd Z (Nat.not_lt_zero _),0,rfl⟩
  case round =>
   obtain ⟨i,hi,rfl,a5,n,M⟩:=hrel
   obtain ⟨D,rfl⟩:∃ D,D=wr:=⟨_,rfl⟩
   have N:Hid (∀ j,j < i->Xd l j=Xd m j):=a5
   have O:Hid (∃ n,D=w.drewN n):=⟨n,M⟩
   have HA:Hid (Ql Ze D X l):=by show Ql Ze D X l;rw [M];exact ha.drewN n
   have HB:Hid (Ql Ze D Y m):=by show Ql Ze D Y m;rw [M];exact hb.drewN n
   clear M a5
   by_cases a6:i < l.length
   ·obtain ⟨b1,o1,a8,_,a0,a1,a2,a3,a4⟩:=QU HA.out a6
    obtain ⟨b2,o2,a9,_,e0,e1,e2,e3,e4⟩:=QU HB.out (show i < m.length by have:=HM.out;omega)
    subst a8 a9
    by_cases J:Xd l i=Xd m i
    ·have b0 : Hid (∀ j, j < i + 1 -> Xd l j = Xd m j) := fun j Z => by
      rcases Nat.lt_or_ge j i with h | h
      ·exact N.out j h
      ·obtain rfl:j=i:=by omega
       exact J
     rw [<- J] at e0 e1 e2 e3 e4
     clear J N
     generalize Xd l i=x at *
     obtain ⟨Q,U,xs,W,xt⟩:=x
     go_wp2
     go_quiet (fail)
     go_wp2
     go_roundw
     case rel=>exact ⟨i+1,by omega,by go_num,b0.out,by obtain ⟨n,G⟩:=O.out;exact ⟨_,by rw [G,World.drewN_drewN]⟩⟩
     case measure=>simp [intOf];omega
    ·have K:Hid (r=false):=HF.out i a6 J
     have a7:Hid (Xd l i≠Xd m i):=J
     clear J HF HT N
     generalize Xd l i=x at *
     generalize Xd m i=y at *
     obtain ⟨Q,U,xs,W,xt⟩:=x
     obtain ⟨yn,yw,ys,ya,yt⟩:=y
     have b3:((Q==yn)=false)∨Q=yn/\(((U==yw)=false)∨U=yw/\(((xs==ys)=false)∨xs=ys/\(((W==ya)=false)∨W=ya/\xt≠yt))):=by
      by_cases h1:Q=yn
      ·refine Or.inr ⟨h1,?_⟩
       by_cases h2:U=yw
       ·refine Or.inr ⟨h2,?_⟩
        by_cases h3:xs=ys
        ·refine Or.inr ⟨h3,?_⟩
         by_cases h4:W=ya
         ·refine Or.inr ⟨h4,fun h5=>a7.out (by rw [h1,h2,h3,h4,h5])⟩
         ·exact Or.inl (beq_eq_false_iff_ne.2 h4)
        ·exact Or.inl (beq_eq_false_iff_ne.2 h3)
       ·exact Or.inl (beq_eq_false_iff_ne.2 h2)
      ·exact Or.inl (beq_eq_false_iff_ne.2 h1)
     clear a7
     rcases b3 with g | ⟨rfl,g | ⟨rfl,g | ⟨rfl,g | ⟨rfl,g⟩⟩⟩⟩
     rotate_right
     ·have d1:=XT g
      have d2:=YT g
      have d3:=Y8 g
      clear g
      go_wp2
      go_quiet (fail)
      go_wp2
      go_ret
      exact ⟨by rw [K.out];rfl,by obtain ⟨n,G⟩:=O.out;rw [G];exact below_drewN (below_drewN (Below.refl _ _) n) _⟩
     all_goals
      go_wp2
      go_quiet (fail)
      go_wp2
      go_ret
      exact ⟨by rw [K.out];rfl,by obtain ⟨n,G⟩:=O.out;rw [G];exact below_drewN (below_drewN (Below.refl _ _) n) _⟩
   ·have K:Hid (r=true):=HT.out (fun j Z=>N.out j (by omega))
    go_wp2
    go_ret
    exact ⟨by rw [K.out];rfl,by obtain ⟨n,G⟩:=O.out;rw [G];exact below_drewN (Below.refl _ _) n⟩
 ·have K:Hid (decide (l=m)=false):=decide_eq_false (fun e=>I (by rw [e]))
  rw [K.out]
  have h6:((l.length:Int) != (m.length:Int))=true:=by rw [bne_iff_ne];omega
  clear I
  go_enter func62,ntmps62
  go_wp2
  go_ret
  exact ⟨rfl,Below.refl _ _⟩
theorem JcB (m:Zb) (p:Option Addr) (n c:Nat) (w:World) :
 Calls prog 41 #[Z1 m (.slice p n c)] w fun e w'=>e=.returned (Z1 m (.slice p n c))/\Below w.heap.size w w':=by
 obtain ⟨m1,m2,m3,j,y,D,G,I⟩:=m
 unfold Z1
 simp only []
 go_enter func41,ntmps41
 go_wp2
 refine bodyPost_ret (v:=.agg #[.string m1,.string m2,.string m3,.string j,.int .i64 y,.int .i64 D,.bool G,.slice p n c]) (by simp [results,results41,go_sem]) rfl ⟨rfl,?_⟩
 exact ((Below.refl _ _).alloc (Nat.le_refl _) _).alloc (by simp) _
theorem JcN (m:Zb) (D G:Option Addr) (I J:Nat) (w:World) (hl:m.L.length<=1000000) (ha:Ql Ze w D m.L) (hb:Ql Ze w G m.L) :
 Calls prog 40 #[Z1 m (.slice D m.L.length I),Z1 m (.slice G m.L.length J)] w fun e w'=>e=.returned (.bool true)/\Below w.heap.size w w':=by
 obtain ⟨m1,m2,m3,K,M,N,O,y⟩:=m
 unfold Z1
 simp only [] at *
 obtain ⟨j,U⟩:∃ j,j=(w.alloc (.cells #[.string m1,.string m2,.string m3,.string K,.int .i64 M,.int .i64 N,.bool O,.slice D y.length I] 59)).alloc (.cells #[.string m1,.string m2,.string m3,.string K,.int .i64 M,.int .i64 N,.bool O,.slice G y.length J] 59):=⟨_,rfl⟩
 have X:Hid (j=(w.alloc (.cells #[.string m1,.string m2,.string m3,.string K,.int .i64 M,.int .i64 N,.bool O,.slice D y.length I] 59)).alloc (.cells #[.string m1,.string m2,.string m3,.string K,.int .i64 M,.int .i64 N,.bool O,.slice G y.length J] 59)):=U
 have Q:Below w.heap.size w j:=by rw [U];exact ((Below.refl _ _).alloc (Nat.le_refl _) _).alloc (by simp) _
 have W:=Jcn D G y y I J j hl (ha.below Q) (hb.below Q)
 rw [decide_eq_true rfl] at W
 have Y:Hid (Calls prog 62 #[.slice D y.length I,.slice G y.length J] j fun e w'=>e=.returned (.bool true)/\Below j.heap.size j w'):=W
 have Z:Hid (Below w.heap.size w j):=Q
 clear W Q U ha hb
 go_enter func40,ntmps40
 go_wp2_with fail
 rw [<- X.out]
 refine Y.out.mono ?_
 rintro e w2 ⟨rfl,a0⟩
 have a1:Hid (Below w.heap.size w w2):=Z.out.trans (a0.mono Z.out.size)
 clear a0 Y X
 go_wp2
 go_ret
 exact ⟨rfl,a1.out⟩
theorem Zc.T2 {w':World}  (h:Zc Ze T w B v l) (N:∀ k,v.ownBlock=some k->w'.heap[k]?=w.heap[k]?):Zc Ze T w' B v l:=by
 obtain ⟨D,j⟩:=h
 refine ⟨D,?_⟩
 rcases j with j | ⟨g,G,I,y,J,K,M⟩
 ·exact Or.inl j
 ·refine Or.inr ⟨g,G,I,y,J,?_,M⟩
  rw [N g (by rw [y];rfl)]
  exact K
theorem Zc.jX   (h:Zc Ze T w B v l) {b:Nat} (y:b < B) (i:Nat) (x:Value):Zc Ze T (w.setCell ⟨b,i,none⟩ x) B v l:=h.T2 (fun k j=>Deep.blk_setCell_other _ _ _ _ (by have:=(h.block j).1;show k≠b;omega))
theorem Jc1 (m:Zb) (p:Option Addr) (c:Nat) (w:World) (hl:m.L.length<=2932031007317) (hr:Ql Ze w p m.L) (hc:p=none->m.L=[]/\c=0) :
 Calls prog 19 #[Z1 m (.slice p m.L.length c)] w fun e w'=>(∃ lv,e=.returned (Z1 m lv)/\Zc Ze 76 w' w.heap.size lv m.L)/\Below w.heap.size w w':=by
 obtain ⟨m1,m2,m3,j,y,D,G,J⟩:=m
 unfold Z1
 simp only [] at *
 have Q:Below w.heap.size w (((w.alloc (.cells #[.string m1,.string m2,.string m3,.string j,.int .i64 y,.int .i64 D,.bool G,.slice p J.length c] 59)).alloc (.cells #[.string ⟨#[]⟩,.string ⟨#[]⟩,.string ⟨#[]⟩,.string ⟨#[]⟩,.int .i64 0,.int .i64 0,.bool false,.slice none 0 0] 57)).alloc (.cells #[.string m1,.string m2,.string m3,.string j,.int .i64 y,.int .i64 D,.bool G,.slice none 0 0] 57)):=(((Below.refl _ _).alloc (Nat.le_refl _) _).alloc (by simp) _).alloc (by simp;omega) _
 have W:(((w.alloc (.cells #[.string m1,.string m2,.string m3,.string j,.int .i64 y,.int .i64 D,.bool G,.slice p J.length c] 59)).alloc (.cells #[.string ⟨#[]⟩,.string ⟨#[]⟩,.string ⟨#[]⟩,.string ⟨#[]⟩,.int .i64 0,.int .i64 0,.bool false,.slice none 0 0] 57)).alloc (.cells #[.string m1,.string m2,.string m3,.string j,.int .i64 y,.int .i64 D,.bool G,.slice none 0 0] 57)).heap[w.heap.size+1]?=some (.cells #[.string ⟨#[]⟩,.string ⟨#[]⟩,.string ⟨#[]⟩,.string ⟨#[]⟩,.int .i64 0,.int .i64 0,.bool false,.slice none 0 0] 57 (0,0)):=by
  have e:w.heap.size+1=(w.alloc (.cells #[.string m1,.string m2,.string m3,.string j,.int .i64 y,.int .i64 D,.bool G,.slice p J.length c] 59)).heap.size:=by simp
  rw [heap_alloc_old _ _ (by simp),e]
  exact heap_alloc_new _ _
 have X:(((w.alloc (.cells #[.string m1,.string m2,.string m3,.string j,.int .i64 y,.int .i64 D,.bool G,.slice p J.length c] 59)).alloc (.cells #[.string ⟨#[]⟩,.string ⟨#[]⟩,.string ⟨#[]⟩,.string ⟨#[]⟩,.int .i64 0,.int .i64 0,.bool false,.slice none 0 0] 57)).alloc (.cells #[.string m1,.string m2,.string m3,.string j,.int .i64 y,.int .i64 D,.bool G,.slice none 0 0] 57)).heap[w.heap.size+2]?=some (.cells #[.string m1,.string m2,.string m3,.string j,.int .i64 y,.int .i64 D,.bool G,.slice none 0 0] 57 (0,0)):=by
  have e:w.heap.size+2=((w.alloc (.cells #[.string m1,.string m2,.string m3,.string j,.int .i64 y,.int .i64 D,.bool G,.slice p J.length c] 59)).alloc (.cells #[.string ⟨#[]⟩,.string ⟨#[]⟩,.string ⟨#[]⟩,.string ⟨#[]⟩,.int .i64 0,.int .i64 0,.bool false,.slice none 0 0] 57)).heap.size:=by simp
  rw [e]
  exact heap_alloc_new _ _
 have U:Hid ((((w.alloc (.cells #[.string m1,.string m2,.string m3,.string j,.int .i64 y,.int .i64 D,.bool G,.slice p J.length c] 59)).alloc (.cells #[.string ⟨#[]⟩,.string ⟨#[]⟩,.string ⟨#[]⟩,.string ⟨#[]⟩,.int .i64 0,.int .i64 0,.bool false,.slice none 0 0] 57)).alloc (.cells #[.string m1,.string m2,.string m3,.string j,.int .i64 y,.int .i64 D,.bool G,.slice none 0 0] 57)).heap[w.heap.size+1]?=some (.cells #[.string ⟨#[]⟩,.string ⟨#[]⟩,.string ⟨#[]⟩,.string ⟨#[]⟩,.int .i64 0,.int .i64 0,.bool false,.slice none 0 0] 57 (0,0))/\(((w.alloc (.cells #[.string m1,.string m2,.string m3,.string j,.int .i64 y,.int .i64 D,.bool G,.slice p J.length c] 59)).alloc (.cells #[.string ⟨#[]⟩,.string ⟨#[]⟩,.string ⟨#[]⟩,.string ⟨#[]⟩,.int .i64 0,.int .i64 0,.bool false,.slice none 0 0] 57)).alloc (.cells #[.string m1,.string m2,.string m3,.string j,.int .i64 y,.int .i64 D,.bool G,.slice none 0 0] 57)).heap[w.heap.size+2]?=some (.cells #[.string m1,.string m2,.string m3,.string j,.int .i64 y,.int .i64 D,.bool G,.slice none 0 0] 57 (0,0))/\Below w.heap.size w (((w.alloc (.cells #[.string m1,.string m2,.string m3,.string j,.int .i64 y,.int .i64 D,.bool G,.slice p J.length c] 59)).alloc (.cells #[.string ⟨#[]⟩,.string ⟨#[]⟩,.string ⟨#[]⟩,.string ⟨#[]⟩,.int .i64 0,.int .i64 0,.bool false,.slice none 0 0] 57)).alloc (.cells #[.string m1,.string m2,.string m3,.string j,.int .i64 y,.int .i64 D,.bool G,.slice none 0 0] 57))):=⟨W,X,Q⟩
 have HR:Hid (Ql Ze (((w.alloc (.cells #[.string m1,.string m2,.string m3,.string j,.int .i64 y,.int .i64 D,.bool G,.slice p J.length c] 59)).alloc (.cells #[.string ⟨#[]⟩,.string ⟨#[]⟩,.string ⟨#[]⟩,.string ⟨#[]⟩,.int .i64 0,.int .i64 0,.bool false,.slice none 0 0] 57)).alloc (.cells #[.string m1,.string m2,.string m3,.string j,.int .i64 y,.int .i64 D,.bool G,.slice none 0 0] 57)) p J):=hr.below Q
 have a0:w.heap.size+3<=(((w.alloc (.cells #[.string m1,.string m2,.string m3,.string j,.int .i64 y,.int .i64 D,.bool G,.slice p J.length c] 59)).alloc (.cells #[.string ⟨#[]⟩,.string ⟨#[]⟩,.string ⟨#[]⟩,.string ⟨#[]⟩,.int .i64 0,.int .i64 0,.bool false,.slice none 0 0] 57)).alloc (.cells #[.string m1,.string m2,.string m3,.string j,.int .i64 y,.int .i64 D,.bool G,.slice none 0 0] 57)).heap.size:=by simp
 have HC:Hid (p=none->J=[]/\c=0):=hc
 clear Q W X hr hc
 go_enter func19,ntmps19
 go_wp2_with (first | (at_builtin;refine F4 (E:=Ze) rfl (.tmp 20) (.tmp 22) 55 76 rfl (.agg #[.int .i64 0,.int .i64 0,.int .i64 0,.int .i64 0,.string ⟨#[]⟩]) 48 underlying55 qS rfl (w.heap.size+3) (.slice none 0 0) [] rfl (Zc.nil _ _ _) p J c rfl HR.out HC.out (by unfold maxLen;simp;omega) (by simp;omega) a0 ?_;intro v3 I N O;obtain ⟨Y,c3,Z,_⟩:=N.form;rw [List.nil_append] at Z N;subst Z;have K:=(O.block (w.heap.size+1) (by omega)).trans U.out.1;have M:=(O.block (w.heap.size+2) (by omega)).trans U.out.2.1;have a1:Hid (Below w.heap.size w I):=(U.out.2.2.trans (O.mono (by omega)));have a2:Hid (Zc Ze 76 I (w.heap.size+3) (.slice Y J.length c3) J):=N;have z0:I.cell? ⟨w.heap.size+1,0,none⟩=some (.string ⟨#[]⟩):=(by simp [World.cell?,K]);have z1:I.cell? ⟨w.heap.size+1,1,none⟩=some (.string ⟨#[]⟩):=(by simp [World.cell?,K]);have z2:I.cell? ⟨w.heap.size+1,2,none⟩=some (.string ⟨#[]⟩):=(by simp [World.cell?,K]);have z3:I.cell? ⟨w.heap.size+1,3,none⟩=some (.string ⟨#[]⟩):=(by simp [World.cell?,K]);have z4:I.cell? ⟨w.heap.size+1,4,none⟩=some (.int .i64 0):=(by simp [World.cell?,K]);have z5:I.cell? ⟨w.heap.size+1,5,none⟩=some (.int .i64 0):=(by simp [World.cell?,K]);have z6:I.cell? ⟨w.heap.size+1,6,none⟩=some (.bool false):=(by simp [World.cell?,K]);have z7:I.cell? ⟨w.heap.size+1,7,none⟩=some (.slice none 0 0):=(by simp [World.cell?,K]);have y0:I.cell? ⟨w.heap.size+2,0,none⟩=some (.string m1):=(by simp [World.cell?,M]);have y1:I.cell? ⟨w.heap.size+2,1,none⟩=some (.string m2):=(by simp [World.cell?,M]);have y2:I.cell? ⟨w.heap.size+2,2,none⟩=some (.string m3):=(by simp [World.cell?,M]);have y3:I.cell? ⟨w.heap.size+2,3,none⟩=some (.string j):=(by simp [World.cell?,M]);have y4:I.cell? ⟨w.heap.size+2,4,none⟩=some (.int .i64 y):=(by simp [World.cell?,M]);have y5:I.cell? ⟨w.heap.size+2,5,none⟩=some (.int .i64 D):=(by simp [World.cell?,M]);have y6:I.cell? ⟨w.heap.size+2,6,none⟩=some (.bool G):=(by simp [World.cell?,M]);have y7:I.cell? ⟨w.heap.size+2,7,none⟩=some (.slice none 0 0):=(by simp [World.cell?,M]);have g1:∀ o,I.frozen? ⟨w.heap.size+1,o,none⟩=false:=(fun o=>by simp [World.frozen?,K]);have g2:∀ o,I.frozen? ⟨w.heap.size+2,o,none⟩=false:=(fun o=>by simp [World.frozen?,M]);clear K M N O))
 refine bodyPost_ret (v:=.agg #[.string m1,.string m2,.string m3,.string j,.int .i64 y,.int .i64 D,.bool G,.slice Y J.length c3]) (by simp [results,results19,go_sem,z0,z1,z2,z3,z4,z5,z6,z7]) rfl ⟨⟨_,rfl,?_⟩,?_⟩
 ·exact Zc.base (((((((((a2.out.jX (b:=w.heap.size+2) (by omega) 7 _).jX (b:=w.heap.size+1) (by omega) 0 _).jX (b:=w.heap.size+1) (by omega) 1 _).jX (b:=w.heap.size+1) (by omega) 2 _).jX (b:=w.heap.size+1) (by omega) 3 _).jX (b:=w.heap.size+1) (by omega) 4 _).jX (b:=w.heap.size+1) (by omega) 5 _).jX (b:=w.heap.size+1) (by omega) 6 _).jX (b:=w.heap.size+1) (by omega) 7 _) (by omega)
 ·exact (((((((((a1.out.setCell (p:=⟨w.heap.size+2,7,none⟩) (by show w.heap.size<=w.heap.size+2;omega) _).setCell (p:=⟨w.heap.size+1,0,none⟩) (by show w.heap.size<=w.heap.size+1;omega) _).setCell (p:=⟨w.heap.size+1,1,none⟩) (by show w.heap.size<=w.heap.size+1;omega) _).setCell (p:=⟨w.heap.size+1,2,none⟩) (by show w.heap.size<=w.heap.size+1;omega) _).setCell (p:=⟨w.heap.size+1,3,none⟩) (by show w.heap.size<=w.heap.size+1;omega) _).setCell (p:=⟨w.heap.size+1,4,none⟩) (by show w.heap.size<=w.heap.size+1;omega) _).setCell (p:=⟨w.heap.size+1,5,none⟩) (by show w.heap.size<=w.heap.size+1;omega) _).setCell (p:=⟨w.heap.size+1,6,none⟩) (by show w.heap.size<=w.heap.size+1;omega) _).setCell (p:=⟨w.heap.size+1,7,none⟩) (by show w.heap.size<=w.heap.size+1;omega) _)
end Go.Proofs.YtmikbldbfnlfjaaGreatDoor
