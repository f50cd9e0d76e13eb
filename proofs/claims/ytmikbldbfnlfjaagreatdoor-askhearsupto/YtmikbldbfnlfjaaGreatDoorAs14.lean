/- Texts laid together. -/
import Derived.Test.YtmikbldbfnlfjaaGreatDoorAs11
import Derived.Deep.Heap
import Derived.OpenShut
import Derived.ChangeOld
import Derived.Deep.SlicePairs
import Derived.Lib.SmallJoins
set_option maxRecDepth 100000
set_option maxHeartbeats 16000000
namespace Go.Proofs.YtmikbldbfnlfjaaGreatDoor
open Go.Proofs.Tryz
open Go.RowKit
variable {j D:Array Value}{a':Za}{b fuel:Nat}{w W:World}{v:Value}{l:List Zb}{c:Xg}{m:Zb}{H:Type}
section
variable {w w':World} {B:Nat} {S:Nat->Prop} {ab:Nat} {a:Za} {mv nv fv lv:Value} {vs:List Value}
theorem Jc6 (h:Xh w B S ab a mv nv fv lv vs) (x:Zb×Lv) (hl:a.c.L.length<=1000) (u2:a.from_.length<=1000) (e3:a.aM x.1=true) (t2:x.1.shut=false) (n3:a.from_.length+1 < Jh a.c) (n4:1<=a.c.k/\a.c.k<=a.c.n/\a.c.n<=12) (u3:a.L.length<=1000) (u6:x.1.L.length<=1000) (t3:x.2.2.1=x.1.L.length) (n5:x.2.1=none->x.1.L=[]/\x.2.2.2=0) (n6:∀ W:World,w.heap.size<=W.heap.size->(∀ k,k < w.heap.size->¬ S k->W.heap[k]?=w.heap[k]?)->Ql Ze W x.2.1 x.1.L):Calls prog 20 #[.pointer (some ⟨ab,0,none⟩),.agg #[.string x.1.from_,.string x.1.aP,.string x.1.kind,.string x.1.key,.int .i64 x.1.op,.int .i64 x.1.config,.bool x.1.shut,.slice x.2.1 x.2.2.1 x.2.2.2]] w fun e w'=>e=.returned (.slice none 0 0)/\∃ S' n7 n8 o0,Xh w' B S' ab (a.heard x.1) mv nv n7 n8 o0/\Yd S S' w w':=by
 obtain ⟨i0,o1,o2,o3,o4⟩:=info_parts (P:=prog) (e:=9) (z:=.string ⟨#[]⟩) (size:=1) (bytes:=16) (by kernel_rfl)
 obtain ⟨j0,o5,o6,o7,o9⟩:=info_parts VU
 obtain ⟨mp,G,p0,f6,t4,p1,p2⟩:=h.mem.at_
 obtain ⟨N,U,p4,f7,t5,p5,_⟩:=h.from_.form
 have p7:Hid (Xh w B S ab a mv nv fv lv vs):=h
 subst p0 p4
 obtain ⟨⟨m1,m2,m3,m4,m5,m6,m7,D⟩,X,ln,lc⟩:=x
 dsimp only at *
 subst t2
 subst t3
 obtain ⟨j,a0⟩:∃ j,j=w.alloc (.cells #[.string m1,.string m2,.string m3,.string m4,.int .i64 m5,.int .i64 m6,.bool false,.slice X D.length lc] 59):=⟨_,rfl⟩
 have a9:Below w.heap.size w j:=by rw [a0];exact (Below.refl _ _).alloc (Nat.le_refl _) _
 have a1:=h.below a9
 have f8:=H7 a1
 have c0:j.cell? ⟨ab,0,none⟩=some (.string a.name):=a1.cell 0
 have c1:j.cell? ⟨ab,1,none⟩=some (.string a.key):=a1.cell 1
 have c3:j.cell? ⟨ab,3,none⟩=some (.int .i64 a.op):=a1.cell 3
 have c4:j.cell? ⟨ab,4,none⟩=some (.int .i64 a.config):=a1.cell 4
 have c7:j.cell? ⟨ab,7,none⟩=some (.slice mp a.c.L.length G):=a1.cell 7
 have b1:j.cell? ⟨ab,14,none⟩=some (.slice N a.from_.length U):=a1.cell 14
 have d0:j.cell? ⟨w.heap.size,0,none⟩=some (.string m1):=by rw [a0,World.cell?_alloc_at _ _ _ _ rfl];rfl
 have d1:j.cell? ⟨w.heap.size,1,none⟩=some (.string m2):=by rw [a0,World.cell?_alloc_at _ _ _ _ rfl];rfl
 have d2:j.cell? ⟨w.heap.size,2,none⟩=some (.string m3):=by rw [a0,World.cell?_alloc_at _ _ _ _ rfl];rfl
 have d3:j.cell? ⟨w.heap.size,3,none⟩=some (.string m4):=by rw [a0,World.cell?_alloc_at _ _ _ _ rfl];rfl
 have d4:j.cell? ⟨w.heap.size,4,none⟩=some (.int .i64 m5):=by rw [a0,World.cell?_alloc_at _ _ _ _ rfl];rfl
 have d5:j.cell? ⟨w.heap.size,5,none⟩=some (.int .i64 m6):=by rw [a0,World.cell?_alloc_at _ _ _ _ rfl];rfl
 have f9:Hid (∀ W,Below j.heap.size j W->Strs W mp a.c.L):=fun W Y=>(f6.below a9).below Y
 have g8:Hid (∀ W,Below j.heap.size j W->Strs W N a.from_):=fun W Y=>(f7.below a9).below Y
 have p9:Hid (j=w.alloc (.cells #[.string m1,.string m2,.string m3,.string m4,.int .i64 m5,.int .i64 m6,.bool false,.slice X D.length lc] 59)):=a0
 have g9:Hid (Below w.heap.size w j):=a9
 have d6:j.cell? ⟨w.heap.size,6,none⟩=some (.bool false):=by rw [a0,World.cell?_alloc_at _ _ _ _ rfl];rfl
 have d7:j.cell? ⟨w.heap.size,7,none⟩=some (.slice X D.length lc):=by rw [a0,World.cell?_alloc_at _ _ _ _ rfl];rfl
 have t6:j.heap.size=w.heap.size+1:=by rw [a0];simp
 have q0:Hid (Xh j B S ab a (.slice mp a.c.L.length G) nv (.slice N a.from_.length U) lv vs):=a1
 have h1:Hid (∀ W:World,w.heap.size<=W.heap.size->(∀ k,k < w.heap.size->¬ S k->W.heap[k]?=w.heap[k]?)->Ql Ze W X D):=n6
 have q4:Hid (X=none->D=[]/\lc=0):=n5
 have e4:Hid (a.from_.length+1 < Jh a.c):=n3
 have h2:Hid (1<=a.c.k/\a.c.k<=a.c.n/\a.c.n<=12):=n4
 obtain ⟨g0,g1,g2,g3,g4,g5,g6,g7⟩:a.st.waits≠⟨#[]⟩/\m3=a.st.waits/\m2=a.name/\m4=a.key/\m5=a.op/\m6=a.config/\m1 ∈ a.c.L/\m1 ∉ a.from_:=by
  unfold Za.aM at e3
  rw [Bool.and_eq_true,Bool.and_eq_true] at e3
  obtain ⟨q1,q2,q3⟩:=e3
  have a5:=of_decide_eq_true q1
  exact ⟨a5.1,a5.2.1,a5.2.2.1,a5.2.2.2.1,a5.2.2.2.2.1,a5.2.2.2.2.2,Zl.1 q2,fun hm=>by rw [Zl.2 hm] at q3;cases q3⟩
 have h3:Hid (∀ W,Below j.heap.size j W->Calls prog 46 #[.slice mp a.c.L.length G,.string m1] W fun e w'=>e=.returned (.int .i64 ((ZJ a.c.L m1:Nat):Int))/\w'=W):=fun W Y=>wS mp a.c.L G m1 W (by omega) (f9.out W Y) g6
 have h4:Hid (∀ W,Below j.heap.size j W->Calls prog 46 #[.slice N a.from_.length U,.string m1] W fun e w'=>e=.returned (.int .i64 (-1))/\w'=W):=fun W Y=>BL N a.from_ U m1 W (by omega) (g8.out W Y) g7
 clear h f6 p2 f7 p5 p1 a9 a0 a1 e3 f9 g8 n6 n5 n3 n4 g6 g7
 generalize ZJ a.c.L m1=j1 at *
 have n1:decide ((j1:Int) < 0)=false:=decide_eq_false (by omega)
 have t0:=XT g0
 have u0:=YT g0
 have v0:=Y8 g0
 have e0:(⟨#[]⟩:ByteArray).toList=[]:=by decide +kernel
 rw [e0] at t0 u0
 subst g1 g2 g3 g4 g5
 generalize a.st.waits=wt at *
 clear g0
 go_enter func20,ntmps20
 go_wp2_with (first | rw [<- p9.out] | fail)
 refine f8.mono ?_
 rintro e w2 ⟨rfl,h5⟩
 rw [h5]
 clear h5 w2 f8
 go_wp2
 go_quiet (fail)
 generalize a3:World.drewN j _=wq
 have q5:wq.cell? ⟨ab,7,none⟩=some (.slice mp a.c.L.length G):=by rw [<- a3];exact c7
 have h6:wq.cell? ⟨ab,14,none⟩=some (.slice N a.from_.length U):=by rw [<- a3];exact b1
 have h7:wq.cell? ⟨w.heap.size,0,none⟩=some (.string m1):=by rw [<- a3];exact d0
 have h8:wq.cell? ⟨w.heap.size,6,none⟩=some (.bool false):=by rw [<- a3];exact d6
 have h9:wq.cell? ⟨w.heap.size,7,none⟩=some (.slice X D.length lc):=by rw [<- a3];exact d7
 have b2:Below j.heap.size j wq:=by rw [<- a3];exact below_drewN (Below.refl _ _) _
 clear a3 c0 c1 c3 c4 c7 b1 d0 d1 d2 d3 d4 d5 d6 d7
 go_wp2
 go_quiet (first | (go_at_call 46;with_reducible exact Calls.quiet_of_same (h3.out _ (below_drewN b2 _))) | (go_at_call 46;with_reducible exact Calls.quiet_of_same (h4.out _ (below_drewN b2 _))))
 generalize a6:World.drewN wq _=wr
 have q6:wr.cell? ⟨ab,14,none⟩=some (.slice N a.from_.length U):=by rw [<- a6];exact h6
 have i1:wr.cell? ⟨w.heap.size,0,none⟩=some (.string m1):=by rw [<- a6];exact h7
 have q7:wr.cell? ⟨w.heap.size,6,none⟩=some (.bool false):=by rw [<- a6];exact h8
 have i2:wr.cell? ⟨w.heap.size,7,none⟩=some (.slice X D.length lc):=by rw [<- a6];exact h9
 have i3:Below j.heap.size j wr:=by rw [<- a6];exact below_drewN b2 _
 have e5:Hid (Below j.heap.size j wr):=i3
 clear a6 q5 h6 h7 h8 h9 b2 i3 h3 h4 n1 t0 u0 v0 e0
 go_wp2
 have b3:Below wr.heap.size wr (wr.alloc (.cells #[.string m1] 9)):=(Below.refl _ _).alloc (Nat.le_refl _) _
 have i4:=e5.out.size
 have b4:Hid (Below j.heap.size j ((wr.alloc (.cells #[.string m1] 9)).drew)):=(e5.out.trans (b3.mono i4)).drew
 have a2:Hid (Xh ((wr.alloc (.cells #[.string m1] 9)).drew) B S ab a (.slice mp a.c.L.length G) nv (.slice N a.from_.length U) lv vs):=q0.out.below b4.out
 have r0:(wr.alloc (.cells #[.string m1] 9)).cell? ⟨ab,14,none⟩=some (.slice N a.from_.length U):=a2.out.cell 14
 have r1:(wr.alloc (.cells #[.string m1] 9)).cell? ⟨w.heap.size,0,none⟩=some (.string m1):=(b3.cell (p:=⟨w.heap.size,0,none⟩) (by show w.heap.size < wr.heap.size;omega)).trans i1
 have i5:(wr.alloc (.cells #[.string m1] 9)).cell? ⟨w.heap.size,7,none⟩=some (.slice X D.length lc):=(b3.cell (p:=⟨w.heap.size,7,none⟩) (by show w.heap.size < wr.heap.size;omega)).trans i2
 have i7:Hid ((wr.alloc (.cells #[.string m1] 9)).cell? ⟨wr.heap.size,0,none⟩=some (.string m1)):=by show _=_;rw [World.cell?_alloc_at _ _ _ _ rfl];rfl
 have i8:Hid (((wr.alloc (.cells #[.string m1] 9)).drew).cell? ⟨w.heap.size,7,none⟩=some (.slice X D.length lc)):=i5
 clear b3 i5 i2 q7
 have i9:Hid (∀ v J,JM J B 9 v (a.from_.map Value.string ++ [.string m1])->((wr.alloc (.cells #[.string m1] 9)).drew).grownBy J (Value.slice N a.from_.length U).ownBlock->(v.ownBlock=(Value.slice N a.from_.length U).ownBlock∨v.ownBlock=some ((wr.alloc (.cells #[.string m1] 9)).drew).heap.size)->∃ y c3,v=.slice y (a.from_.length+1) c3/\Xh (J.setCell ⟨ab,14,none⟩ (.slice y (a.from_.length+1) c3)) B (fun k=>S k∨(Value.slice y (a.from_.length+1) c3).ownBlock=some k) ab { a with from_:=a.from_ ++ [m1] } (.slice mp a.c.L.length G) nv (.slice y (a.from_.length+1) c3) lv vs/\Yd S (fun k=>S k∨(Value.slice y (a.from_.length+1) c3).ownBlock=some k) w (J.setCell ⟨ab,14,none⟩ (.slice y (a.from_.length+1) c3))/\J.frozen? ⟨ab,14,none⟩=false/\J.cell? ⟨ab,14,none⟩=some (.slice N a.from_.length U)/\(J.setCell ⟨ab,14,none⟩ (.slice y (a.from_.length+1) c3)).cell? ⟨w.heap.size,7,none⟩=some (.slice X D.length lc)):=fun v J b5 b0 b6=>by
  have j2:Zq J B v (a.from_ ++ [m1]):=by unfold Zq;rw [List.map_append];exact b5
  obtain ⟨y,c3,j3,_⟩:=j2.form
  rw [List.length_append,List.length_singleton] at j3
  subst j3
  have HF:=a2.out.from j2 b0 b6
  have j5:=(b0.block ab (a2.out.aO ab a2.out.self).2 (fun e=>(a2.out.sF ab e.symm).2 rfl)).trans a2.out.dT
  have r2:Below w.heap.size w ((wr.alloc (.cells #[.string m1] 9)).drew):=g9.out.trans (b4.out.mono g9.out.size)
  have r3:¬ S w.heap.size:=fun hs=>by have:=(p7.out.aO _ hs).2;omega
  exact ⟨y,c3,rfl,HF.1,(Yd.aJ r2).trans HF.2,by simp [World.frozen?,j5],by simp [World.cell?,j5,Qo],(World.cell?_of_block (a:=⟨w.heap.size,7,none⟩) (HF.2.block w.heap.size (by have:=b4.out.size;omega) r3)).trans i8.out⟩
 clear i8
 go_cut [6] from 93 to 100 (fun v J=>∃ y c3,v=.slice y (a.from_.length+1) c3/\Xh (J.setCell ⟨ab,14,none⟩ (.slice y (a.from_.length+1) c3)) B (fun k=>S k∨(Value.slice y (a.from_.length+1) c3).ownBlock=some k) ab { a with from_:=a.from_ ++ [m1] } (.slice mp a.c.L.length G) nv (.slice y (a.from_.length+1) c3) lv vs/\Yd S (fun k=>S k∨(Value.slice y (a.from_.length+1) c3).ownBlock=some k) w (J.setCell ⟨ab,14,none⟩ (.slice y (a.from_.length+1) c3))/\J.frozen? ⟨ab,14,none⟩=false/\J.cell? ⟨ab,14,none⟩=some (.slice N a.from_.length U)/\(J.setCell ⟨ab,14,none⟩ (.slice y (a.from_.length+1) c3)).cell? ⟨w.heap.size,7,none⟩=some (.slice X D.length lc))
 case first =>
  go_region_law (refine Jy rfl (.tmp 96) (.tmp 99) 22 rfl B 9 i0 (.string ⟨#[]⟩) 16 underlying22 o1 o2 rfl o3 o4 (by decide) (.slice N a.from_.length U) (a.from_.map Value.string) (by simp [Act.eval]) a2.out.from_ ⟨wr.heap.size,0,none⟩ 1 (.string m1) rfl (by simp [Act.eval]) i7.out (by rw [List.length_map];omega) a2.out.vP ?_;intro v3 J b5 b0 b6;have r4:Hid _:=i9.out v3 J b5 b0 b6;clear b5 b0 b6)
  all_goals (go_wp2_with fail;go_meet)
  all_goals exact r4.out
 case rest =>
  obtain ⟨y,c3,rfl,e6,e7,r5,b1,j6⟩:=hcut
  clear i9 i7 r0 r1 q6 i1 b4 a2 e5 i4
  obtain ⟨O,e8⟩:∃ O,O=wc.setCell ⟨ab,14,none⟩ (.slice y (a.from_.length+1) c3):=⟨_,rfl⟩
  rw [<- e8] at e6 e7 j6
  have j8:Hid (O=wc.setCell ⟨ab,14,none⟩ (.slice y (a.from_.length+1) c3)):=e8
  have b7:Hid (Xh O B (fun k=>S k∨(Value.slice y (a.from_.length+1) c3).ownBlock=some k) ab { a with from_:=a.from_ ++ [m1] } (.slice mp a.c.L.length G) nv (.slice y (a.from_.length+1) c3) lv vs):=e6
  have d8:Hid (Yd S (fun k=>S k∨(Value.slice y (a.from_.length+1) c3).ownBlock=some k) w O):=e7
  clear e8 e6 e7
  go_wp2
  rw [<- j8.out]
  have r6:O.cell? ⟨ab,15,none⟩=some lv:=b7.out.cell 15
  have d9:Hid (Xh O.drew B (fun k=>S k∨(Value.slice y (a.from_.length+1) c3).ownBlock=some k) ab { a with from_:=a.from_ ++ [m1] } (.slice mp a.c.L.length G) nv (.slice y (a.from_.length+1) c3) lv vs):=b7.out.below (Below.refl _ _).drew
  have k0:Hid (Ql Ze O.drew X D):=h1.out _ d8.out.size (fun k hk hs=>d8.out.block k hk hs)
  have k1:Hid (∀ v6 K,Zc Ze 76 K O.heap.size v6 ([] ++ D)->Below O.heap.size O.drew K->∃ M c6,v6=.slice M D.length c6/\K.cell? ⟨ab,15,none⟩=some lv/\(K.alloc (.cells #[.slice M D.length c6] 55)).cell? ⟨ab,15,none⟩=some lv/\JM (K.alloc (.cells #[.slice M D.length c6] 55)) B 55 lv vs/\B<=(K.alloc (.cells #[.slice M D.length c6] 55)).heap.size/\(∀ v Q,JM Q B 55 v (vs ++ [.slice M D.length c6])->(K.alloc (.cells #[.slice M D.length c6] 55)).grownBy Q lv.ownBlock->(v.ownBlock=lv.ownBlock∨v.ownBlock=some (K.alloc (.cells #[.slice M D.length c6] 55)).heap.size)->∃ Z c8 S2 a7,v=.slice Z (a.L.length+1) c8/\Xh (Q.setCell ⟨ab,15,none⟩ (.slice Z (a.L.length+1) c8)) B S2 ab (a.heard ⟨m1,a.name,wt,a.key,a.op,a.config,false,D⟩) (.slice mp a.c.L.length G) nv (.slice y (a.from_.length+1) c3) (.slice Z (a.L.length+1) c8) a7/\Yd S S2 w (Q.setCell ⟨ab,15,none⟩ (.slice Z (a.L.length+1) c8))/\Q.frozen? ⟨ab,15,none⟩=false/\Q.cell? ⟨ab,15,none⟩=some lv)):=fun v6 K a8 e1=>by
   rw [List.nil_append] at a8
   obtain ⟨M,c6,rfl,_⟩:=a8.form
   have k2:Below O.drew.heap.size O.drew K:=e1
   have k3:=d9.out.below k2
   have a4:=k3.below ((Below.refl _ _).alloc (Nat.le_refl _) (.cells #[.slice M D.length c6] 55))
   refine ⟨M,c6,rfl,k3.cell 15,a4.cell 15,a4.told.1,a4.vP,fun v Q hv hg e2=>?_⟩
   have HF:=d9.out.list (r:=.slice M D.length c6) (row:=D) a8 k2 hv hg e2
   have r7:=a4.aO ab a4.self
   have k4:=(hg.block ab r7.2 (fun e=>(a4.sL ab e.symm).2.1 rfl)).trans a4.dT
   have s1:vs.length=a.L.length:=d9.out.told.2.1
   rcases hv.cells with ⟨_,h0⟩ | ⟨g,t7,k6,_⟩
   ·exact absurd h0 (by simp)
   rw [List.length_append,List.length_singleton,s1] at k6
   subst k6
   exact ⟨_,_,_,_,rfl,HF.1,((d8.out.trans (Yd.aJ (Below.refl _ _).drew)).trans HF.2),by simp [World.frozen?,k4],by simp [World.cell?,k4,Qo]⟩
  have s2:Hid (vs.length=a.L.length):=b7.out.told.2.1
  go_cut [8] from 105 to 114 (fun v Q=>∃ Z c8 S2 a7,v=.slice Z (a.L.length+1) c8/\Xh (Q.setCell ⟨ab,15,none⟩ (.slice Z (a.L.length+1) c8)) B S2 ab (a.heard ⟨m1,a.name,wt,a.key,a.op,a.config,false,D⟩) (.slice mp a.c.L.length G) nv (.slice y (a.from_.length+1) c3) (.slice Z (a.L.length+1) c8) a7/\Yd S S2 w (Q.setCell ⟨ab,15,none⟩ (.slice Z (a.L.length+1) c8))/\Q.frozen? ⟨ab,15,none⟩=false/\Q.cell? ⟨ab,15,none⟩=some lv)
  case first =>
   go_region_law (first | (refine Jai (E:=Ze) rfl (.tmp 109) (.tmp 111) 55 76 rfl (.agg #[.int .i64 0,.int .i64 0,.int .i64 0,.int .i64 0,.string ⟨#[]⟩]) 48 underlying55 qS rfl O.heap.size (.slice none 0 0) [] (by simp [Act.eval]) (Zc.nil _ _ _) X D lc (by simp [Act.eval]) k0.out q4.out (by unfold maxLen;simp;omega) (by simp;omega) (Nat.le_refl _) ?_;intro v6 K a8 e1;obtain ⟨M,c6,s3,t8,t9,k7,l0,l1⟩:=k1.out v6 K a8 e1;subst s3;have l2:Hid (JM (K.alloc (.cells #[.slice M D.length c6] 55)) B 55 lv vs):=k7;have l3:Hid (B<=(K.alloc (.cells #[.slice M D.length c6] 55)).heap.size):=l0;have l7:Hid _:=l1;clear a8 e1 k7 l0 l1) | (refine Jy rfl (.tmp 108) (.tmp 113) 44 rfl B 55 j0 (.slice none 0 0) 24 underlying44 o5 o6 rfl o7 o9 (by decide) lv vs (by simp [Act.eval]) l2.out ⟨K.heap.size,0,none⟩ 1 (.slice M D.length c6) rfl (by simp [Act.eval]) (by rw [World.cell?_alloc_at _ _ _ _ rfl];rfl) (by have:=s2.out;omega) l3.out ?_;intro v8 Q l8 l9 e2;have s4:Hid _:=l7.out v8 Q l8 l9 e2;clear l8 l9 e2 l7 l2 l3))
   all_goals (go_wp2_with fail;go_meet)
   all_goals exact s4.out
  case rest =>
   obtain ⟨Z,c8,S2,a7,rfl,e9,f3,s5,s6⟩:=hcut
   clear k1 k0 h1 d9 b7 d8 j8 r6 j6 r5 b1
   obtain ⟨I,f4⟩:∃ I,I=wc.setCell ⟨ab,15,none⟩ (.slice Z (a.L.length+1) c8):=⟨_,rfl⟩
   rw [<- f4] at e9 f3
   have m0:Hid (I=wc.setCell ⟨ab,15,none⟩ (.slice Z (a.L.length+1) c8)):=f4
   have m8:Hid (Xh I B S2 ab (a.heard ⟨m1,a.name,wt,a.key,a.op,a.config,false,D⟩) (.slice mp a.c.L.length G) nv (.slice y (a.from_.length+1) c3) (.slice Z (a.L.length+1) c8) a7):=e9
   have s7:Hid (Yd S S2 w I):=f3
   have f5:Hid (∀ W,Below I.heap.size I W->(W.cell? ⟨ab,14,none⟩=some (.slice y (a.from_.length+1) c3)/\W.cell? ⟨ab,5,none⟩=some (.int .i64 a.c.n)/\W.cell? ⟨ab,6,none⟩=some (.int .i64 a.c.k)/\W.cell? ⟨ab,7,none⟩=some (.slice mp a.c.L.length G)/\Below I.heap.size I W)):=fun W Y=>by
    have hq:=m8.out.below Y
    exact ⟨hq.cell 14,hq.cell 5,hq.cell 6,hq.cell 7,Y⟩
   have m9:Hid (∀ W,(W.cell? ⟨ab,14,none⟩=some (.slice y (a.from_.length+1) c3)/\W.cell? ⟨ab,5,none⟩=some (.int .i64 a.c.n)/\W.cell? ⟨ab,6,none⟩=some (.int .i64 a.c.k)/\W.cell? ⟨ab,7,none⟩=some (.slice mp a.c.L.length G)/\Below I.heap.size I W)->Calls prog 47 #[.agg #[.int .i64 a.c.n,.int .i64 a.c.k,(.slice mp a.c.L.length G)]] W fun e w'=>e=.returned (.int .i64 ((Jh a.c:Nat):Int))/\(w'.cell? ⟨ab,14,none⟩=some (.slice y (a.from_.length+1) c3)/\w'.cell? ⟨ab,5,none⟩=some (.int .i64 a.c.n)/\w'.cell? ⟨ab,6,none⟩=some (.int .i64 a.c.k)/\w'.cell? ⟨ab,7,none⟩=some (.slice mp a.c.L.length G)/\Below I.heap.size I w')):=fun W Y=>(JaF a.c (.slice mp a.c.L.length G) ⟨_,_,_,rfl⟩ W h2.out).mono fun e w' hp=>⟨hp.1,f5.out w' (Y.2.2.2.2.trans (hp.2.mono Y.2.2.2.2.size))⟩
   have s8:decide (((a.from_.length+1:Nat):Int) < ((Jh a.c:Nat):Int))=true:=decide_eq_true (by have:=e4.out;omega)
   have s9:Hid (((a.from_.length+1:Nat):Int) < ((Jh a.c:Nat):Int)):=by show _ < _;have:=e4.out;omega
   generalize Jh a.c=en at *
   clear f4 e9 f3 h2 e4
   go_wp2
   rw [<- m0.out]
   go_cut [129] from 119 to 129 (fun v W=>v=.bool true/\Below I.heap.size I W)
   case first =>
    go_region_held3 (fun W=>(W.cell? ⟨ab,14,none⟩=some (.slice y (a.from_.length+1) c3)/\W.cell? ⟨ab,5,none⟩=some (.int .i64 a.c.n)/\W.cell? ⟨ab,6,none⟩=some (.int .i64 a.c.k)/\W.cell? ⟨ab,7,none⟩=some (.slice mp a.c.L.length G)/\Below I.heap.size I W)) (first | assumption | exact f5.out _ (Below.refl _ _).drew) (first | (go_at_call 47;refine (m9.out _ (by assumption)).mono ?_;rintro e u1 ⟨rfl,t1⟩))
    all_goals (go_wp2_with fail;go_meet)
    all_goals exact ⟨by first | rfl | (rw [s8]) | simpa using s9.out,(by first | assumption | exact hSs.2.2.2.2 | exact t1.2.2.2.2)⟩
   case rest =>
    obtain ⟨rfl,n0⟩:=hcut
    have n2:Hid (Below I.heap.size I wc):=n0
    clear n0 m9 f5 m0 s5 s6
    go_wp2
    go_ret
    exact ⟨rfl,S2,_,_,a7,m8.out.below n2.out,s7.out.trans (Yd.aJ n2.out)⟩
end
section
variable {w w':World} {B:Nat} {S:Nat->Prop} {ab:Nat} {a:Za} {mv nv fv lv:Value} {vs:List Value}
theorem Jc9 (h:Xh w B S ab a mv nv fv lv vs) (x:Zb×Lv) (hl:a.c.L.length<=1000) (v1:a.from_.length<=1000) (e4:a.aM x.1=true) (t5:x.1.shut=false) (t6:a.st=.keeping) (n5:Jh a.c<=a.from_.length+1) (n6:1<=a.c.k/\a.c.k<=a.c.n/\a.c.n<=12) (v2:a.L.length<=1000) (v4:x.1.L.length<=1000) (t7:x.2.2.1=x.1.L.length) (n7:x.2.1=none->x.1.L=[]/\x.2.2.2=0) (n8:∀ W:World,w.heap.size<=W.heap.size->(∀ k,k < w.heap.size->¬ S k->W.heap[k]?=w.heap[k]?)->Ql Ze W x.2.1 x.1.L):Calls prog 20 #[.pointer (some ⟨ab,0,none⟩),.agg #[.string x.1.from_,.string x.1.aP,.string x.1.kind,.string x.1.key,.int .i64 x.1.op,.int .i64 x.1.config,.bool x.1.shut,.slice x.2.1 x.2.2.1 x.2.2.2]] w fun e w'=>e=.returned (.slice none 0 0)/\∃ S' o0 o1 o2,Xh w' B S' ab { a.heard x.1 with st:=.done } mv nv o0 o1 o2/\Yd S S' w w':=by
 obtain ⟨i0,o3,o4,o5,o6⟩:=info_parts (P:=prog) (e:=9) (z:=.string ⟨#[]⟩) (size:=1) (bytes:=16) (by kernel_rfl)
 obtain ⟨j0,o7,o9,p0,p1⟩:=info_parts VU
 obtain ⟨mp,G,p2,f8,t8,p4,p5⟩:=h.mem.at_
 obtain ⟨O,Y,p7,f9,t9,p9,_⟩:=h.from_.form
 have q0:Hid (Xh w B S ab a mv nv fv lv vs):=h
 subst p2 p7
 obtain ⟨⟨m1,m2,m3,m4,m5,m6,m7,D⟩,Z,ln,lc⟩:=x
 dsimp only at *
 subst t5
 subst t7
 obtain ⟨j,a0⟩:∃ j,j=w.alloc (.cells #[.string m1,.string m2,.string m3,.string m4,.int .i64 m5,.int .i64 m6,.bool false,.slice Z D.length lc] 59):=⟨_,rfl⟩
 have a9:Below w.heap.size w j:=by rw [a0];exact (Below.refl _ _).alloc (Nat.le_refl _) _
 have a1:=h.below a9
 have g8:=H7 a1
 have c0:j.cell? ⟨ab,0,none⟩=some (.string a.name):=a1.cell 0
 have c1:j.cell? ⟨ab,1,none⟩=some (.string a.key):=a1.cell 1
 have c3:j.cell? ⟨ab,3,none⟩=some (.int .i64 a.op):=a1.cell 3
 have c4:j.cell? ⟨ab,4,none⟩=some (.int .i64 a.config):=a1.cell 4
 have c7:j.cell? ⟨ab,7,none⟩=some (.slice mp a.c.L.length G):=a1.cell 7
 have b2:j.cell? ⟨ab,14,none⟩=some (.slice O a.from_.length Y):=a1.cell 14
 have d0:j.cell? ⟨w.heap.size,0,none⟩=some (.string m1):=by rw [a0,World.cell?_alloc_at _ _ _ _ rfl];rfl
 have d1:j.cell? ⟨w.heap.size,1,none⟩=some (.string m2):=by rw [a0,World.cell?_alloc_at _ _ _ _ rfl];rfl
 have d2:j.cell? ⟨w.heap.size,2,none⟩=some (.string m3):=by rw [a0,World.cell?_alloc_at _ _ _ _ rfl];rfl
 have d3:j.cell? ⟨w.heap.size,3,none⟩=some (.string m4):=by rw [a0,World.cell?_alloc_at _ _ _ _ rfl];rfl
 have d4:j.cell? ⟨w.heap.size,4,none⟩=some (.int .i64 m5):=by rw [a0,World.cell?_alloc_at _ _ _ _ rfl];rfl
 have d5:j.cell? ⟨w.heap.size,5,none⟩=some (.int .i64 m6):=by rw [a0,World.cell?_alloc_at _ _ _ _ rfl];rfl
 have g9:Hid (∀ W,Below j.heap.size j W->Strs W mp a.c.L):=fun W hW=>(f8.below a9).below hW
 have h1:Hid (∀ W,Below j.heap.size j W->Strs W O a.from_):=fun W hW=>(f9.below a9).below hW
 have q4:Hid (j=w.alloc (.cells #[.string m1,.string m2,.string m3,.string m4,.int .i64 m5,.int .i64 m6,.bool false,.slice Z D.length lc] 59)):=a0
 have h2:Hid (Below w.heap.size w j):=a9
 have d6:j.cell? ⟨w.heap.size,6,none⟩=some (.bool false):=by rw [a0,World.cell?_alloc_at _ _ _ _ rfl];rfl
 have d7:j.cell? ⟨w.heap.size,7,none⟩=some (.slice Z D.length lc):=by rw [a0,World.cell?_alloc_at _ _ _ _ rfl];rfl
 have u1:j.heap.size=w.heap.size+1:=by rw [a0];simp
 have q5:Hid (Xh j B S ab a (.slice mp a.c.L.length G) nv (.slice O a.from_.length Y) lv vs):=a1
 have h3:Hid (∀ W:World,w.heap.size<=W.heap.size->(∀ k,k < w.heap.size->¬ S k->W.heap[k]?=w.heap[k]?)->Ql Ze W Z D):=n8
 have q6:Hid (Z=none->D=[]/\lc=0):=n7
 have e5:Hid (Jh a.c<=a.from_.length+1):=n5
 have q7:Hid (a.st.word=⟨#[107,101,101,112,105,110,103]⟩):=by show _=_;rw [t6];rfl
 have h4:Hid (1<=a.c.k/\a.c.k<=a.c.n/\a.c.n<=12):=n6
 obtain ⟨g0,g1,g2,g3,g4,g5,g6,g7⟩:a.st.waits≠⟨#[]⟩/\m3=a.st.waits/\m2=a.name/\m4=a.key/\m5=a.op/\m6=a.config/\m1 ∈ a.c.L/\m1 ∉ a.from_:=by
  unfold Za.aM at e4
  rw [Bool.and_eq_true,Bool.and_eq_true] at e4
  obtain ⟨q1,q2,q3⟩:=e4
  have a6:=of_decide_eq_true q1
  exact ⟨a6.1,a6.2.1,a6.2.2.1,a6.2.2.2.1,a6.2.2.2.2.1,a6.2.2.2.2.2,Zl.1 q2,fun hm=>by rw [Zl.2 hm] at q3;cases q3⟩
 have h5:Hid (∀ W,Below j.heap.size j W->Calls prog 46 #[.slice mp a.c.L.length G,.string m1] W fun e w'=>e=.returned (.int .i64 ((ZJ a.c.L m1:Nat):Int))/\w'=W):=fun W hW=>wS mp a.c.L G m1 W (by omega) (g9.out W hW) g6
 have h6:Hid (∀ W,Below j.heap.size j W->Calls prog 46 #[.slice O a.from_.length Y,.string m1] W fun e w'=>e=.returned (.int .i64 (-1))/\w'=W):=fun W hW=>BL O a.from_ Y m1 W (by omega) (h1.out W hW) g7
 clear h f8 p5 f9 p9 p4 a9 a0 a1 e4 g9 h1 n8 n7 n5 n6 g6 g7
 generalize ZJ a.c.L m1=j1 at *
 have n1:decide ((j1:Int) < 0)=false:=decide_eq_false (by omega)
 have t0:=XT g0
 have u0:=YT g0
 have v0:=Y8 g0
 have e0:(⟨#[]⟩:ByteArray).toList=[]:=by decide +kernel
 rw [e0] at t0 u0
 subst g1 g2 g3 g4 g5
 generalize a.st.waits=wt at *
 clear g0
 go_enter func20,ntmps20
 go_wp2_with (first | rw [<- q4.out] | fail)
 refine g8.mono ?_
 rintro e w2 ⟨rfl,h7⟩
 rw [h7]
 clear h7 w2 g8
 go_wp2
 go_quiet (fail)
 generalize a4:World.drewN j _=wq
 have r0:wq.cell? ⟨ab,7,none⟩=some (.slice mp a.c.L.length G):=by rw [<- a4];exact c7
 have h8:wq.cell? ⟨ab,14,none⟩=some (.slice O a.from_.length Y):=by rw [<- a4];exact b2
 have h9:wq.cell? ⟨w.heap.size,0,none⟩=some (.string m1):=by rw [<- a4];exact d0
 have i1:wq.cell? ⟨w.heap.size,6,none⟩=some (.bool false):=by rw [<- a4];exact d6
 have i2:wq.cell? ⟨w.heap.size,7,none⟩=some (.slice Z D.length lc):=by rw [<- a4];exact d7
 have b3:Below j.heap.size j wq:=by rw [<- a4];exact below_drewN (Below.refl _ _) _
 clear a4 c0 c1 c3 c4 c7 b2 d0 d1 d2 d3 d4 d5 d6 d7
 go_wp2
 go_quiet (first | (go_at_call 46;with_reducible exact Calls.quiet_of_same (h5.out _ (below_drewN b3 _))) | (go_at_call 46;with_reducible exact Calls.quiet_of_same (h6.out _ (below_drewN b3 _))))
 generalize a7:World.drewN wq _=wr
 have r1:wr.cell? ⟨ab,14,none⟩=some (.slice O a.from_.length Y):=by rw [<- a7];exact h8
 have i3:wr.cell? ⟨w.heap.size,0,none⟩=some (.string m1):=by rw [<- a7];exact h9
 have r2:wr.cell? ⟨w.heap.size,6,none⟩=some (.bool false):=by rw [<- a7];exact i1
 have i4:wr.cell? ⟨w.heap.size,7,none⟩=some (.slice Z D.length lc):=by rw [<- a7];exact i2
 have i5:Below j.heap.size j wr:=by rw [<- a7];exact below_drewN b3 _
 have e6:Hid (Below j.heap.size j wr):=i5
 clear a7 r0 h8 h9 i1 i2 b3 i5 h5 h6 n1 t0 u0 v0 e0
 go_wp2
 have b4:Below wr.heap.size wr (wr.alloc (.cells #[.string m1] 9)):=(Below.refl _ _).alloc (Nat.le_refl _) _
 have i7:=e6.out.size
 have b5:Hid (Below j.heap.size j ((wr.alloc (.cells #[.string m1] 9)).drew)):=(e6.out.trans (b4.mono i7)).drew
 have a2:Hid (Xh ((wr.alloc (.cells #[.string m1] 9)).drew) B S ab a (.slice mp a.c.L.length G) nv (.slice O a.from_.length Y) lv vs):=q5.out.below b5.out
 have r3:(wr.alloc (.cells #[.string m1] 9)).cell? ⟨ab,14,none⟩=some (.slice O a.from_.length Y):=a2.out.cell 14
 have r4:(wr.alloc (.cells #[.string m1] 9)).cell? ⟨w.heap.size,0,none⟩=some (.string m1):=(b4.cell (p:=⟨w.heap.size,0,none⟩) (by show w.heap.size < wr.heap.size;omega)).trans i3
 have i8:(wr.alloc (.cells #[.string m1] 9)).cell? ⟨w.heap.size,7,none⟩=some (.slice Z D.length lc):=(b4.cell (p:=⟨w.heap.size,7,none⟩) (by show w.heap.size < wr.heap.size;omega)).trans i4
 have i9:Hid ((wr.alloc (.cells #[.string m1] 9)).cell? ⟨wr.heap.size,0,none⟩=some (.string m1)):=by show _=_;rw [World.cell?_alloc_at _ _ _ _ rfl];rfl
 have j2:Hid (((wr.alloc (.cells #[.string m1] 9)).drew).cell? ⟨w.heap.size,7,none⟩=some (.slice Z D.length lc)):=i8
 clear b4 i8 i4 r2
 have j3:Hid (∀ v J,JM J B 9 v (a.from_.map Value.string ++ [.string m1])->((wr.alloc (.cells #[.string m1] 9)).drew).grownBy J (Value.slice O a.from_.length Y).ownBlock->(v.ownBlock=(Value.slice O a.from_.length Y).ownBlock∨v.ownBlock=some ((wr.alloc (.cells #[.string m1] 9)).drew).heap.size)->∃ y c3,v=.slice y (a.from_.length+1) c3/\Xh (J.setCell ⟨ab,14,none⟩ (.slice y (a.from_.length+1) c3)) B (fun k=>S k∨(Value.slice y (a.from_.length+1) c3).ownBlock=some k) ab { a with from_:=a.from_ ++ [m1] } (.slice mp a.c.L.length G) nv (.slice y (a.from_.length+1) c3) lv vs/\Yd S (fun k=>S k∨(Value.slice y (a.from_.length+1) c3).ownBlock=some k) w (J.setCell ⟨ab,14,none⟩ (.slice y (a.from_.length+1) c3))/\J.frozen? ⟨ab,14,none⟩=false/\J.cell? ⟨ab,14,none⟩=some (.slice O a.from_.length Y)/\(J.setCell ⟨ab,14,none⟩ (.slice y (a.from_.length+1) c3)).cell? ⟨w.heap.size,7,none⟩=some (.slice Z D.length lc)):=fun v J b6 b0 b7=>by
  have j5:Zq J B v (a.from_ ++ [m1]):=by unfold Zq;rw [List.map_append];exact b6
  obtain ⟨y,c3,j6,_⟩:=j5.form
  rw [List.length_append,List.length_singleton] at j6
  subst j6
  have HF:=a2.out.from j5 b0 b7
  have j8:=(b0.block ab (a2.out.aO ab a2.out.self).2 (fun e=>(a2.out.sF ab e.symm).2 rfl)).trans a2.out.dT
  have r5:Below w.heap.size w ((wr.alloc (.cells #[.string m1] 9)).drew):=h2.out.trans (b5.out.mono h2.out.size)
  have r6:¬ S w.heap.size:=fun hs=>by have:=(q0.out.aO _ hs).2;omega
  exact ⟨y,c3,rfl,HF.1,(Yd.aJ r5).trans HF.2,by simp [World.frozen?,j8],by simp [World.cell?,j8,Qo],(World.cell?_of_block (a:=⟨w.heap.size,7,none⟩) (HF.2.block w.heap.size (by have:=b5.out.size;omega) r6)).trans j2.out⟩
 clear j2
 go_cut [6] from 93 to 100 (fun v J=>∃ y c3,v=.slice y (a.from_.length+1) c3/\Xh (J.setCell ⟨ab,14,none⟩ (.slice y (a.from_.length+1) c3)) B (fun k=>S k∨(Value.slice y (a.from_.length+1) c3).ownBlock=some k) ab { a with from_:=a.from_ ++ [m1] } (.slice mp a.c.L.length G) nv (.slice y (a.from_.length+1) c3) lv vs/\Yd S (fun k=>S k∨(Value.slice y (a.from_.length+1) c3).ownBlock=some k) w (J.setCell ⟨ab,14,none⟩ (.slice y (a.from_.length+1) c3))/\J.frozen? ⟨ab,14,none⟩=false/\J.cell? ⟨ab,14,none⟩=some (.slice O a.from_.length Y)/\(J.setCell ⟨ab,14,none⟩ (.slice y (a.from_.length+1) c3)).cell? ⟨w.heap.size,7,none⟩=some (.slice Z D.length lc))
 case first =>
  go_region_law (refine Jy rfl (.tmp 96) (.tmp 99) 22 rfl B 9 i0 (.string ⟨#[]⟩) 16 underlying22 o3 o4 rfl o5 o6 (by decide) (.slice O a.from_.length Y) (a.from_.map Value.string) (by simp [Act.eval]) a2.out.from_ ⟨wr.heap.size,0,none⟩ 1 (.string m1) rfl (by simp [Act.eval]) i9.out (by rw [List.length_map];omega) a2.out.vP ?_;intro v3 J b6 b0 b7;have r7:Hid _:=j3.out v3 J b6 b0 b7;clear b6 b0 b7)
  all_goals (go_wp2_with fail;go_meet)
  all_goals exact r7.out
 case rest =>
  obtain ⟨y,c3,rfl,e7,e8,s1,b2,k0⟩:=hcut
  clear j3 i9 r3 r4 r1 i3 b5 a2 e6 i7
  obtain ⟨Q,e9⟩:∃ Q,Q=wc.setCell ⟨ab,14,none⟩ (.slice y (a.from_.length+1) c3):=⟨_,rfl⟩
  rw [<- e9] at e7 e8 k0
  have k1:Hid (Q=wc.setCell ⟨ab,14,none⟩ (.slice y (a.from_.length+1) c3)):=e9
  have d8:Hid (Xh Q B (fun k=>S k∨(Value.slice y (a.from_.length+1) c3).ownBlock=some k) ab { a with from_:=a.from_ ++ [m1] } (.slice mp a.c.L.length G) nv (.slice y (a.from_.length+1) c3) lv vs):=e7
  have d9:Hid (Yd S (fun k=>S k∨(Value.slice y (a.from_.length+1) c3).ownBlock=some k) w Q):=e8
  clear e9 e7 e8
  go_wp2
  rw [<- k1.out]
  have s2:Q.cell? ⟨ab,15,none⟩=some lv:=d8.out.cell 15
  have e1:Hid (Xh Q.drew B (fun k=>S k∨(Value.slice y (a.from_.length+1) c3).ownBlock=some k) ab { a with from_:=a.from_ ++ [m1] } (.slice mp a.c.L.length G) nv (.slice y (a.from_.length+1) c3) lv vs):=d8.out.below (Below.refl _ _).drew
  have k2:Hid (Ql Ze Q.drew Z D):=h3.out _ d9.out.size (fun k hk hs=>d9.out.block k hk hs)
  have k3:Hid (∀ v6 K,Zc Ze 76 K Q.heap.size v6 ([] ++ D)->Below Q.heap.size Q.drew K->∃ M c6,v6=.slice M D.length c6/\K.cell? ⟨ab,15,none⟩=some lv/\(K.alloc (.cells #[.slice M D.length c6] 55)).cell? ⟨ab,15,none⟩=some lv/\JM (K.alloc (.cells #[.slice M D.length c6] 55)) B 55 lv vs/\B<=(K.alloc (.cells #[.slice M D.length c6] 55)).heap.size/\(∀ v U,JM U B 55 v (vs ++ [.slice M D.length c6])->(K.alloc (.cells #[.slice M D.length c6] 55)).grownBy U lv.ownBlock->(v.ownBlock=lv.ownBlock∨v.ownBlock=some (K.alloc (.cells #[.slice M D.length c6] 55)).heap.size)->∃ N c8 X a3,v=.slice N (a.L.length+1) c8/\Xh (U.setCell ⟨ab,15,none⟩ (.slice N (a.L.length+1) c8)) B X ab (a.heard ⟨m1,a.name,wt,a.key,a.op,a.config,false,D⟩) (.slice mp a.c.L.length G) nv (.slice y (a.from_.length+1) c3) (.slice N (a.L.length+1) c8) a3/\Yd S X w (U.setCell ⟨ab,15,none⟩ (.slice N (a.L.length+1) c8))/\U.frozen? ⟨ab,15,none⟩=false/\U.cell? ⟨ab,15,none⟩=some lv)):=fun v6 K a8 e2=>by
   rw [List.nil_append] at a8
   obtain ⟨M,c6,rfl,_⟩:=a8.form
   have k4:Below Q.drew.heap.size Q.drew K:=e2
   have k6:=e1.out.below k4
   have a5:=k6.below ((Below.refl _ _).alloc (Nat.le_refl _) (.cells #[.slice M D.length c6] 55))
   refine ⟨M,c6,rfl,k6.cell 15,a5.cell 15,a5.told.1,a5.vP,fun v U hv hg e3=>?_⟩
   have HF:=e1.out.list (r:=.slice M D.length c6) (row:=D) a8 k4 hv hg e3
   have s3:=a5.aO ab a5.self
   have k7:=(hg.block ab s3.2 (fun e=>(a5.sL ab e.symm).2.1 rfl)).trans a5.dT
   have s4:vs.length=a.L.length:=e1.out.told.2.1
   rcases hv.cells with ⟨_,h0⟩ | ⟨g,u2,l0,_⟩
   ·exact absurd h0 (by simp)
   rw [List.length_append,List.length_singleton,s4] at l0
   subst l0
   exact ⟨_,_,_,_,rfl,HF.1,((d9.out.trans (Yd.aJ (Below.refl _ _).drew)).trans HF.2),by simp [World.frozen?,k7],by simp [World.cell?,k7,Qo]⟩
  have s5:Hid (vs.length=a.L.length):=d8.out.told.2.1
  go_cut [8] from 105 to 114 (fun v U=>∃ N c8 X a3,v=.slice N (a.L.length+1) c8/\Xh (U.setCell ⟨ab,15,none⟩ (.slice N (a.L.length+1) c8)) B X ab (a.heard ⟨m1,a.name,wt,a.key,a.op,a.config,false,D⟩) (.slice mp a.c.L.length G) nv (.slice y (a.from_.length+1) c3) (.slice N (a.L.length+1) c8) a3/\Yd S X w (U.setCell ⟨ab,15,none⟩ (.slice N (a.L.length+1) c8))/\U.frozen? ⟨ab,15,none⟩=false/\U.cell? ⟨ab,15,none⟩=some lv)
  case first =>
   go_region_law (first | (refine Jai (E:=Ze) rfl (.tmp 109) (.tmp 111) 55 76 rfl (.agg #[.int .i64 0,.int .i64 0,.int .i64 0,.int .i64 0,.string ⟨#[]⟩]) 48 underlying55 qS rfl Q.heap.size (.slice none 0 0) [] (by simp [Act.eval]) (Zc.nil _ _ _) Z D lc (by simp [Act.eval]) k2.out q6.out (by unfold maxLen;simp;omega) (by simp;omega) (Nat.le_refl _) ?_;intro v6 K a8 e2;obtain ⟨M,c6,s6,u3,u6,l1,l2,l3⟩:=k3.out v6 K a8 e2;subst s6;have l7:Hid (JM (K.alloc (.cells #[.slice M D.length c6] 55)) B 55 lv vs):=l1;have l8:Hid (B<=(K.alloc (.cells #[.slice M D.length c6] 55)).heap.size):=l2;have l9:Hid _:=l3;clear a8 e2 l1 l2 l3) | (refine Jy rfl (.tmp 108) (.tmp 113) 44 rfl B 55 j0 (.slice none 0 0) 24 underlying44 o7 o9 rfl p0 p1 (by decide) lv vs (by simp [Act.eval]) l7.out ⟨K.heap.size,0,none⟩ 1 (.slice M D.length c6) rfl (by simp [Act.eval]) (by rw [World.cell?_alloc_at _ _ _ _ rfl];rfl) (by have:=s5.out;omega) l8.out ?_;intro v8 U m0 m8 e3;have s7:Hid _:=l9.out v8 U m0 m8 e3;clear m0 m8 e3 l9 l7 l8))
   all_goals (go_wp2_with fail;go_meet)
   all_goals exact s7.out
  case rest =>
   obtain ⟨N,c8,X,a3,rfl,f3,f4,s8,s9⟩:=hcut
   clear k3 k2 h3 e1 d8 d9 k1 s2 k0 s1 b2
   obtain ⟨I,f5⟩:∃ I,I=wc.setCell ⟨ab,15,none⟩ (.slice N (a.L.length+1) c8):=⟨_,rfl⟩
   rw [<- f5] at f3 f4
   have m9:Hid (I=wc.setCell ⟨ab,15,none⟩ (.slice N (a.L.length+1) c8)):=f5
   have n0:Hid (Xh I B X ab (a.heard ⟨m1,a.name,wt,a.key,a.op,a.config,false,D⟩) (.slice mp a.c.L.length G) nv (.slice y (a.from_.length+1) c3) (.slice N (a.L.length+1) c8) a3):=f3
   have t1:Hid (Yd S X w I):=f4
   have f6:Hid (∀ W,Below I.heap.size I W->(W.cell? ⟨ab,14,none⟩=some (.slice y (a.from_.length+1) c3)/\W.cell? ⟨ab,5,none⟩=some (.int .i64 a.c.n)/\W.cell? ⟨ab,6,none⟩=some (.int .i64 a.c.k)/\W.cell? ⟨ab,7,none⟩=some (.slice mp a.c.L.length G)/\Below I.heap.size I W)):=fun W hW=>by
    have hq:=n0.out.below hW
    exact ⟨hq.cell 14,hq.cell 5,hq.cell 6,hq.cell 7,hW⟩
   have n2:Hid (∀ W,(W.cell? ⟨ab,14,none⟩=some (.slice y (a.from_.length+1) c3)/\W.cell? ⟨ab,5,none⟩=some (.int .i64 a.c.n)/\W.cell? ⟨ab,6,none⟩=some (.int .i64 a.c.k)/\W.cell? ⟨ab,7,none⟩=some (.slice mp a.c.L.length G)/\Below I.heap.size I W)->Calls prog 47 #[.agg #[.int .i64 a.c.n,.int .i64 a.c.k,(.slice mp a.c.L.length G)]] W fun e w'=>e=.returned (.int .i64 ((Jh a.c:Nat):Int))/\(w'.cell? ⟨ab,14,none⟩=some (.slice y (a.from_.length+1) c3)/\w'.cell? ⟨ab,5,none⟩=some (.int .i64 a.c.n)/\w'.cell? ⟨ab,6,none⟩=some (.int .i64 a.c.k)/\w'.cell? ⟨ab,7,none⟩=some (.slice mp a.c.L.length G)/\Below I.heap.size I w')):=fun W hW=>(JaF a.c (.slice mp a.c.L.length G) ⟨_,_,_,rfl⟩ W h4.out).mono fun e w' hp=>⟨hp.1,f6.out w' (hW.2.2.2.2.trans (hp.2.mono hW.2.2.2.2.size))⟩
   have t2:decide (((a.from_.length+1:Nat):Int) < ((Jh a.c:Nat):Int))=false:=decide_eq_false (by have:=e5.out;omega)
   have t3:Hid (¬ ((a.from_.length+1:Nat):Int) < ((Jh a.c:Nat):Int)):=by show ¬ _ < _;have:=e5.out;omega
   generalize Jh a.c=en at *
   clear f5 f3 f4 h4 e5
   go_wp2
   rw [<- m9.out]
   go_cut [129] from 119 to 129 (fun v W=>v=.bool false/\Below I.heap.size I W)
   case first =>
    go_region_held3 (fun W=>(W.cell? ⟨ab,14,none⟩=some (.slice y (a.from_.length+1) c3)/\W.cell? ⟨ab,5,none⟩=some (.int .i64 a.c.n)/\W.cell? ⟨ab,6,none⟩=some (.int .i64 a.c.k)/\W.cell? ⟨ab,7,none⟩=some (.slice mp a.c.L.length G)/\Below I.heap.size I W)) (first | assumption | exact f6.out _ (Below.refl _ _).drew) (first | (go_at_call 47;refine (n2.out _ (by assumption)).mono ?_;rintro e u7 ⟨rfl,t4⟩))
    all_goals (go_wp2_with fail;go_meet)
    all_goals exact ⟨by first | rfl | (rw [t2]) | simpa using t3.out,(by first | assumption | exact hSs.2.2.2.2 | exact t4.2.2.2.2)⟩
   case rest =>
    obtain ⟨rfl,n3⟩:=hcut
    have n4:Hid (Below I.heap.size I wc):=n3
    clear n3 n2 f6 m9 s8 s9
    have b1:Hid (Xh wc B X ab (a.heard ⟨m1,a.name,wt,a.key,a.op,a.config,false,D⟩) (.slice mp a.c.L.length G) nv (.slice y (a.from_.length+1) c3) (.slice N (a.L.length+1) c8) a3):=n0.out.below n4.out
    have u8:wc.cell? ⟨ab,13,none⟩=some (.string ⟨#[107,101,101,112,105,110,103]⟩):=by rw [<- q7.out];exact b1.out.cell 13
    have u9:wc.frozen? ⟨ab,13,none⟩=false:=b1.out.free 13
    have f7:Hid (Xh (wc.setCell ⟨ab,13,none⟩ (.string ⟨#[100,111,110,101]⟩)) B X ab { a.heard ⟨m1,a.name,wt,a.key,a.op,a.config,false,D⟩ with st:=.done } (.slice mp a.c.L.length G) nv (.slice y (a.from_.length+1) c3) (.slice N (a.L.length+1) c8) a3/\Yd S X w (wc.setCell ⟨ab,13,none⟩ (.string ⟨#[100,111,110,101]⟩))):=by
     have hU:=t1.out.trans (Yd.aJ n4.out)
     refine ⟨b1.out.set 13 _ rfl rfl rfl rfl rfl rfl rfl,hU.trans (S1:=X) ⟨rfl,rfl,rfl,by simp [World.setCell],fun k hk hs=>Below.heap_setCell wc _ _ k (fun e=>hs (by rw [e];exact b1.out.self)),fun k hk=>Or.inl hk⟩⟩
    clear b1
    go_wp2
    go_ret
    first | exact ⟨rfl,X,_,_,a3,f7.out⟩ | exact ⟨rfl,X,⟨_,_,a3,f7.out.1⟩,f7.out.2⟩
end
section
variable {w w':World} {B:Nat} {S:Nat->Prop} {ab:Nat} {a:Za} {mv nv fv lv:Value} {vs:List Value}
structure q9 (ab:Nat) (cs:Array Value) (w w':World):Prop where
 os:w'.os=w.os
 tape:w'.tape=w.tape
 output:w'.output=w.output
 size:w'.heap.size=w.heap.size
 dT:w'.heap[ab]?=some (.cells cs 48 (0,0))
 cW:∀ k,k≠ab->w'.heap[k]?=w.heap[k]?
theorem q9.refl (y:w.heap[ab]?=some (.cells j 48 (0,0))):q9 ab j w w:=⟨rfl,rfl,rfl,rfl,y,fun _ _=>rfl⟩
theorem q9.set (j:q9 ab D w w') (i:Nat) (v:Value):q9 ab (D.setIfInBounds i v) w (w'.setCell ⟨ab,i,none⟩ v):=⟨j.os,j.tape,j.output,by simpa [World.setCell] using j.size,O1 j.dT i v,fun k y=>(Below.heap_setCell w' _ v k y).trans (j.cW k y)⟩
theorem q9.nJ (j:q9 ab D w w') (G:S ab):Yd S S w w':=⟨j.os,j.tape,j.output,Nat.le_of_eq j.size.symm,fun k _ y=>j.cW k (fun e=>y (e ▸ G)),fun _ h=>Or.inl h⟩
theorem Xh.written (h:Xh w B S ab a mv nv fv lv vs) (j:q9 ab (Qo a' mv nv fv lv) w w') (I:a'.c.L=a.c.L) (J:a'.next.L=a.next.L) (K:a'.from_=a.from_) (M:a'.L=a.L):Xh w' B S ab a' mv nv fv lv vs:=by
 have D:Below B w w':=⟨j.os,j.tape,j.output,Nat.le_of_eq j.size.symm,fun k y=>j.cW k (fun e=>by have:=(h.aO ab h.self).1;omega)⟩
 exact ⟨j.dT,by rw [I];exact h.mem.eK D,by rw [J];exact h.rD.eK D,by rw [K];exact O3 h.from_ fun k y=>j.cW k (h.sF k y).2,by rw [M];exact O6 h.told (Nat.le_of_eq j.size.symm) (fun k y=>j.cW k (h.sL k y).2.1) (fun x G k y=>j.cW k (h.sV x G k y).2.1),h.self,h.sF,h.sL,h.sV,fun k y=>⟨(h.aO k y).1,by rw [j.size];exact (h.aO k y).2⟩⟩
theorem Xh.fresh (h:Xh w B S ab a mv nv fv lv vs) (y:q9 ab (Qo a' mv nv (.slice none 0 0) (.slice none 0 0)) w w') (J:a'.c.L=a.c.L) (K:a'.next.L=a.next.L) (M:a'.from_=[]) (N:a'.L=[]):Xh w' B S ab a' mv nv (.slice none 0 0) (.slice none 0 0) []:=by
 have D:Below B w w':=⟨y.os,y.tape,y.output,Nat.le_of_eq y.size.symm,fun k j=>y.cW k (fun e=>by have:=(h.aO ab h.self).1;omega)⟩
 exact ⟨y.dT,by rw [J];exact h.mem.eK D,by rw [K];exact h.rD.eK D,by rw [M];exact Zq.nil _ _,by rw [N];exact ⟨JM.nil _ _ _,rfl,fun i G=>absurd G (Nat.not_lt_zero _)⟩,h.self,(fun k j=>by cases j),(fun k j=>by cases j),(fun v I=>by cases I),fun k j=>⟨(h.aO k j).1,by rw [y.size];exact (h.aO k j).2⟩⟩
theorem Ja {T:TypeId} (y:w.heap[ab]?=some (.cells j T (0,0))) (i:Nat):w.cell? ⟨ab,i,none⟩=j[i]?/\w.frozen? ⟨ab,i,none⟩=false:=⟨by simp [World.cell?,y],by simp [World.frozen?,y]⟩
theorem JcR {w:World} {j y D G:Value} (I:w.cell? ⟨b,0,none⟩=some D) (J:w.cell? ⟨b,1,none⟩=some G):((w.setCell ⟨b,0,none⟩ j).setCell ⟨b,1,none⟩ y).cell? ⟨b,0,none⟩=some j/\((w.setCell ⟨b,0,none⟩ j).setCell ⟨b,1,none⟩ y).cell? ⟨b,1,none⟩=some y:=by
 refine ⟨?_,?_⟩ <;> simp [go_sem,I,J]
theorem JcI (j:a'.name=a.name) (y:a'.key=a.key) (D:a'.who=a.who) (G:a'.op=a.op) (I:a'.config=a.config) (J:a'.c=a.c) (K:a'.next=a.next) (M:a'.put=a.put) (N:a'.aI=a.aI) :
 ((((((((Qo a mv nv fv lv).setIfInBounds 16 (.int .i64 a'.tag.1)).setIfInBounds 17 (.int .i64 a'.tag.2)).setIfInBounds 18 (.string a'.text)).setIfInBounds 19 (.bool a'.found)).setIfInBounds 13 (.string a'.st.word)).setIfInBounds 14 (.slice none 0 0)).setIfInBounds 15 (.slice none 0 0))=Qo a' mv nv (.slice none 0 0) (.slice none 0 0):=by
 unfold Qo
 rw [j,y,D,G,I,J,K,M,N]
 simp only [List.setIfInBounds_toArray,List.set_cons_zero,List.set_cons_succ]
theorem Jcs (j:a'.name=a.name) (y:a'.key=a.key) (D:a'.who=a.who) (G:a'.op=a.op) (I:a'.config=a.config) (J:a'.c=a.c) (K:a'.next=a.next) (M:a'.put=a.put) (N:a'.aI=a.aI) (O:a'.text=a.text) :
 (((((((Qo a mv nv fv lv).setIfInBounds 16 (.int .i64 a'.tag.1)).setIfInBounds 17 (.int .i64 a'.tag.2)).setIfInBounds 19 (.bool a'.found)).setIfInBounds 13 (.string a'.st.word)).setIfInBounds 14 (.slice none 0 0)).setIfInBounds 15 (.slice none 0 0))=Qo a' mv nv (.slice none 0 0) (.slice none 0 0):=by
 unfold Qo
 rw [j,y,D,G,I,J,K,M,N,O]
 simp only [List.setIfInBounds_toArray,List.set_cons_zero,List.set_cons_succ]
theorem JcJ (j:a'.name=a.name) (y:a'.key=a.key) (D:a'.who=a.who) (G:a'.op=a.op) (I:a'.config=a.config) (J:a'.c=a.c) (K:a'.next=a.next) (M:a'.put=a.put) (N:a'.aI=a.aI) :
 (((((Qo a mv nv fv lv).setIfInBounds 16 (.int .i64 a'.tag.1)).setIfInBounds 17 (.int .i64 a'.tag.2)).setIfInBounds 18 (.string a'.text)).setIfInBounds 19 (.bool a'.found)).setIfInBounds 13 (.string a'.st.word)=Qo a' mv nv fv lv:=by
 unfold Qo
 rw [j,y,D,G,I,J,K,M,N]
 simp only [List.setIfInBounds_toArray,List.set_cons_zero,List.set_cons_succ]
end
theorem Jb6 (s:ByteArray) (k y i c:Nat):∀ j,Qu (Zj s) k y i c j=Jl (fun i j=>Gf.aQ (JB k) j i) (gN s y) i c j
 | 0=>rfl
 | j+1=>by
  show (if j*y+c < (Zj s).length then Qu (Zj s) k y i c j ^^^ _ else Qu (Zj s) k y i c j)=Jl _ _ i c j ^^^ Gf.mul _ (gN s y j c)
  rw [Jb6 s k y i c j]
  have D:(Zj s).length=s.size:=by simp [Zj]
  by_cases h:j*y+c < s.size
  ·rw [if_pos (by omega)]
   rfl
  ·rw [if_neg (by omega),VE h,Gf.mul_zero,Nat.xor_zero]
theorem Jes (k:Nat) (s:ByteArray) (i:Nat):Jp (X1 (Zj s) k (Jk k s.size) i)=JW k s i:=by
 unfold JW X1 J7
 rw [YL _ _ _ (fun c _=>Jb6 s k (Jk k s.size) i c k)]
theorem Jco (l:List (Nat×List Nat)):x6 l=Js (l.map fun x=>((x.1:Int),Jp x.2)):=by
 unfold x6 Js
 rw [List.flatMap_map]
theorem JaE (n k:Nat) (s:ByteArray):(sA n k s).length=n:=by simp [sA]
theorem JcF (n k:Nat) (s:ByteArray) (w:World) (I:1<=k) (J:k<=n) (K:n<=12) (M:s.size<=3000) :
 Calls prog 65 #[.int .i64 (n:Int),.int .i64 (k:Int),.string s] w fun e w'=>(∃ p c,e=.returned (.slice p n c)/\fE w' p (sA n k s))/\Below w.heap.size w w':=by
 refine (JcM n k s w I J K M).mono ?_
 rintro e w' ⟨⟨v,rfl,j⟩,y⟩
 refine ⟨?_,y⟩
 unfold sT at j
 rw [Jco,List.map_map,List.length_map,List.length_range] at j
 have D:(List.range n).map ((fun x:Nat×List Nat=>((x.1:Int),Jp x.2)) ∘ fun i=>(i,X1 (Zj s) k (Jk k s.size) i))=sA n k s:=by
  unfold sA
  refine List.map_congr_left fun i _=>?_
  show ((i:Int),Jp (X1 (Zj s) k (Jk k s.size) i))=fR k s i
  rw [Jes]
  rfl
 rw [D] at j
 have G:w'.ownsRow w.heap.size 74 2 v (sA n k s).length (Js (sA n k s)):=by rw [JaE];exact j
 obtain ⟨p,c,rfl,h⟩:=nL G
 exact ⟨p,c,by rw [JaE],h⟩
section
variable {w w':World} {B:Nat} {S:Nat->Prop} {ab:Nat} {a:Za} {mv nv fv lv:Value} {vs:List Value}
theorem Jcd (h:Xh w B S ab a mv nv fv lv vs) (kind:ByteArray) (n k:Nat) (j8:a.c.n=(n:Int)) (b7:a.c.k=(k:Int)) (o1:1<=k) (o2:k<=n) (hn:n<=12) (k0:a.c.L.length=n) (k1:a.text.size<=3000):Calls prog 43 #[.pointer (some ⟨ab,0,none⟩),.string kind,.bool true] w fun e w'=>(∃ p c,e=.returned (.slice p (a.send kind true).length c)/\mN w' p (a.send kind true))/\Below w.heap.size w w':=by
 obtain ⟨i1,k2,k3,k4,k6⟩:=info_parts JeI
 have d2:Hid (Xh w B S ab a mv nv fv lv vs):=h
 obtain ⟨mp,mc,k7,d5,o3,o4,l0⟩:=h.mem.at_
 subst k7
 have o5:ab < w.heap.size:=(h.aO ab h.self).2
 have a7:Hid (∀ W,Below w.heap.size w W->(W.cell? ⟨ab,0,none⟩=some (.string a.name)/\W.cell? ⟨ab,1,none⟩=some (.string a.key)/\W.cell? ⟨ab,3,none⟩=some (.int .i64 a.op)/\W.cell? ⟨ab,4,none⟩=some (.int .i64 a.config)/\W.cell? ⟨ab,7,none⟩=some (.slice mp a.c.L.length mc))/\(W.cell? ⟨ab,16,none⟩=some (.int .i64 a.tag.1)/\W.cell? ⟨ab,17,none⟩=some (.int .i64 a.tag.2)/\W.cell? ⟨ab,18,none⟩=some (.string a.text))/\Strs W mp a.c.L):=fun W hW=>by
  have Z:=d2.out.below hW
  exact ⟨⟨Z.cell 0,Z.cell 1,Z.cell 3,Z.cell 4,Z.cell 7⟩,⟨Z.cell 16,Z.cell 17,Z.cell 18⟩,d5.below hW⟩
 have c5:w.cell? ⟨ab,5,none⟩=some (.int .i64 (n:Int)):=by rw [<- j8];exact h.cell 5
 have c6:w.cell? ⟨ab,6,none⟩=some (.int .i64 (k:Int)):=by rw [<- b7];exact h.cell 6
 have l1:w.cell? ⟨ab,18,none⟩=some (.string a.text):=h.cell 18
 have l2:Hid (a.c.L.length=n):=k0
 have hl:a.c.L.length<=12:=by omega
 have d6:Hid ((a.send kind true).length=a.c.L.length):=by show _=_;rw [Jbr,List.length_map,List.length_range]
 have d8:Hid (∀ i,a.msg kind true i=⟨a.name,Yc a.c.L i,kind,a.key,a.op,a.config,false,[⟨a.tag.1,a.tag.2,(a.text.size:Int),(i:Int),JW k a.text i⟩]⟩):=fun i=>by
  have hk:a.c.k.toNat=k:=by rw [b7];rfl
  unfold Za.msg Za.sQ
  rw [hk]
  rfl
 have l3:Hid (a.send kind true=(List.range a.c.L.length).map (a.msg kind true)):=Jbr a kind true
 have d9:Hid (∀ W,Below w.heap.size w W->Calls prog 65 #[.int .i64 (n:Int),.int .i64 (k:Int),.string a.text] W fun e w'=>(∃ p c,e=.returned (.slice p n c)/\fE w' p (sA n k a.text))/\Below w.heap.size w w'):=fun W hW=>(JcF n k a.text W o1 o2 hn k1).mono fun e w' ⟨h1,h2⟩=>⟨h1,hW.trans (h2.mono hW.size)⟩
 rw [d6.out]
 clear h d5 l0 j8 b7 k0
 go_enter func43,ntmps43
 go_wp2
 refine wp_region_still_tail 14 (by kernel_rfl) (by kernel_rfl) ?_
 simp only [List.take_succ_cons,List.take_zero,List.drop_succ_cons,List.drop_zero]
 still_step
 still_step
 still_step
 still_step
 still_step
 still_step
 still_step
 still_step
 still_step
 still_step
 still_step
 still_step
 still_step
 still_step
 refine wpStill_nil ?_
 have e2:=d9.out w.drew (Below.refl _ _).drew
 clear d9
 go_wp2_with (go_at_call 65;refine e2.mono ?_;rintro e J ⟨⟨sp,sc,rfl,e3⟩,a8⟩;have c7:=(a7.out J a8).1.2.2.2.2)
 have e4:Hid (fE J sp (sA n k a.text)):=e3
 have e5:Hid (Below w.heap.size w J):=a8
 clear e3 a8 e2 c5 c6 l1
 go_loopw [8,9] (fun v x wr=>∃ i:Nat,i<=a.c.L.length/\x=.int .i64 i/\(∃ G,G.map Prod.fst=(List.range i).map (a.msg kind true)/\J1 59 J.heap.size wr v G)/\Below J.heap.size J wr) (fun _ x _=>a.c.L.length - (intOf x).toNat)
 case atStart=>exact ⟨0,Nat.zero_le _,rfl,⟨[],rfl,Zc.nil _ _ _,fun x hx=>by cases hx⟩,Below.refl _ _⟩
 case round =>
  obtain ⟨i,hi,rfl,⟨G,a9,hO⟩,hB⟩:=hrel
  obtain ⟨y,rfl⟩:∃ y,y=wr:=⟨_,rfl⟩
  obtain ⟨pv,cv,rfl,e6,o6,l7,_⟩:=hO.1.form
  have e7:G.length=i:=by have:=congrArg List.length a9;simpa using this
  have o7:G.length<=12:=by omega
  have e8:Hid (G.map Prod.fst=(List.range i).map (a.msg kind true)):=a9
  have HO:Hid (J1 59 J.heap.size y (.slice pv G.length cv) G):=hO
  have HB:Hid (Below J.heap.size J y):=hB
  have b0:Hid (Below w.heap.size w y):=e5.out.trans (hB.mono e5.out.size)
  have l8:Hid (Ql mE y pv G):=e6
  have l9:Hid (G.length=i):=e7
  obtain ⟨⟨d0,d1,d3,d4,d7⟩,⟨e9,f3,f4⟩,m0⟩:=a7.out y b0.out
  have o9:w.heap.size<=y.heap.size:=b0.out.size
  clear hO e6 l7 c7 a9 e7
  by_cases a4:i < a.c.L.length
  ·rcases m0 with h0 | ⟨b,o,m4,p0,f5⟩
   ·rw [h0] at a4;exact absurd a4 (Nat.not_lt_zero _)
   have q1:=f5 i a4
   have f6:i < n:=by rw [<- l2.out];exact a4
   rcases (e4.out.below hB) with h0 | ⟨sb,so,m5,f7,f8⟩
   ·have:(sA n k a.text).length=0:=by rw [h0];rfl
    rw [JaE] at this
    omega
   obtain ⟨s0,s1⟩:=f8 i (by rw [JaE];exact f6)
   rw [Jev f6] at s0 s1
   dsimp only at s0 s1
   have HT:Hid ((List.range (i+1)).map (a.msg kind true)=(List.range i).map (a.msg kind true) ++ [a.msg kind true i]):=Ja2 _ i
   have m6:Hid (a.msg kind true i=⟨a.name,Yc a.c.L i,kind,a.key,a.op,a.config,false,[⟨a.tag.1,a.tag.2,(a.text.size:Int),(i:Int),JW k a.text i⟩]⟩):=d8.out i
   have b1:ab < y.heap.size:=by omega
   subst m4 m5
   have p1:Hid (a.text.size<=3000):=k1
   clear f5 hB f8 e4 a7 d8 l8 d2 d6
   generalize Yc a.c.L i=t at *
   generalize JW k a.text i=O at *
   generalize a.name=nm at *
   generalize a.key=K at *
   generalize a.op=M at *
   generalize a.config=N at *
   generalize a.tag.1=Q at *
   generalize a.tag.2=U at *
   generalize a.text=tx at *
   go_wp2
   go_cut [10] from 27 to 83 (fun v W=>v=.pointer (some ⟨y.heap.size,0,none⟩)/\W=(y.alloc (.cells #[.string nm,.string t,.string kind,.string K,.int .i64 M,.int .i64 N,.bool false,.slice none 0 0] 59)).drew)
   case first =>
    go_region
    all_goals (go_wp2_with fail;go_meet)
    all_goals exact ⟨rfl,rfl⟩
   case rest =>
    obtain ⟨rfl,a5⟩:=hcut
    obtain ⟨D,rfl⟩:∃ D,D=wc:=⟨_,rfl⟩
    have a1:D=(y.alloc (.cells #[.string nm,.string t,.string kind,.string K,.int .i64 M,.int .i64 N,.bool false,.slice none 0 0] 59)).drew:=a5
    clear a5
    have a0:Below y.heap.size y D:=by rw [a1];exact ((Below.refl _ _).alloc (Nat.le_refl _) _).drew
    have f9:∀ j u,(#[Value.string nm,.string t,.string kind,.string K,.int .i64 M,.int .i64 N,.bool false,.slice none 0 0])[j]?=some u->D.cell? ⟨y.heap.size,j,none⟩=some u:=fun j u hj=>by
     rw [a1]
     show (y.alloc _).cell? ⟨y.heap.size,j,none⟩=some u
     rw [World.cell?_alloc_at _ _ _ _ rfl]
     exact hj
    have g8:D.heap[y.heap.size]?=some (.cells #[.string nm,.string t,.string kind,.string K,.int .i64 M,.int .i64 N,.bool false,.slice none 0 0] 59 (0,0)):=by
     rw [a1]
     show (y.heap.push _)[y.heap.size]?=_
     simp
    have g9:∀ j,D.frozen? ⟨y.heap.size,j,none⟩=false:=fun j=>by
     rw [a1]
     show (y.alloc _).frozen? ⟨y.heap.size,j,none⟩=false
     exact World.frozen?_alloc_at _ _ _ _ rfl
    have h3:D.heap.size=y.heap.size+1:=by rw [a1];show (y.alloc _).heap.size=_;simp
    have m7:=f9 7 _ rfl
    have h4:=g9 7
    have m8:D.cell? ⟨ab,16,none⟩=some (.int .i64 Q):=(a0.cell (p:=⟨ab,16,none⟩) b1).trans e9
    have m9:D.cell? ⟨ab,17,none⟩=some (.int .i64 U):=(a0.cell (p:=⟨ab,17,none⟩) b1).trans f3
    have n0:D.cell? ⟨ab,18,none⟩=some (.string tx):=(a0.cell (p:=⟨ab,18,none⟩) b1).trans f4
    have z0:D.cell? ⟨sb,so+i*2,none⟩=some (.int .i64 (i:Int)):=(a0.cell (p:=⟨sb,so+i*2,none⟩) f7).trans s0
    have z1:D.cell? ⟨sb,so+i*2+1,none⟩=some (.string O):=(a0.cell (p:=⟨sb,so+i*2+1,none⟩) f7).trans s1
    obtain ⟨w5,h5⟩:∃ w5,w5=((D.setCell ⟨y.heap.size,7,none⟩ (.slice (some ⟨D.heap.size,0,none⟩) 1 1)).alloc (.cells #[.int .i64 Q,.int .i64 U,.int .i64 (tx.size:Int),.int .i64 (i:Int),.string O] 76)).drew:=⟨_,rfl⟩
    have h6:Hid (D.heap.size=y.heap.size+1):=h3
    have b2:Hid (Below y.heap.size y D):=a0
    have h7:Hid (D.heap[y.heap.size]?=some (.cells #[.string nm,.string t,.string kind,.string K,.int .i64 M,.int .i64 N,.bool false,.slice none 0 0] 59 (0,0))):=g8
    have a2:Hid (w5=((D.setCell ⟨y.heap.size,7,none⟩ (.slice (some ⟨D.heap.size,0,none⟩) 1 1)).alloc (.cells #[.int .i64 Q,.int .i64 U,.int .i64 (tx.size:Int),.int .i64 (i:Int),.string O] 76)).drew):=h5
    have h8:y.heap.size < D.heap.size:=by omega
    have n1:(D.alloc (.cells #[.int .i64 Q,.int .i64 U,.int .i64 (tx.size:Int),.int .i64 (i:Int),.string O] 76)).cell? ⟨y.heap.size,7,none⟩=some (.slice none 0 0):=(Below.cell ((Below.refl D.heap.size D).alloc (Nat.le_refl _) _) (p:=⟨y.heap.size,7,none⟩) h8).trans m7
    have n2:(D.alloc (.cells #[.int .i64 Q,.int .i64 U,.int .i64 (tx.size:Int),.int .i64 (i:Int),.string O] 76)).frozen? ⟨y.heap.size,7,none⟩=false:=(Below.frozen ((Below.refl D.heap.size D).alloc (Nat.le_refl _) _) (p:=⟨y.heap.size,7,none⟩) h8).trans h4
    clear a1 h5 a0 f9 g9 g8 h3 d0 d1 d3 d4 d7 e9 f3 f4 s0 s1 q1
    go_wp2
    go_cut [] from 27 to 83 (fun W=>W=w5)
    case first =>
     go_region
     all_goals (go_wp2_with fail;go_meet)
     all_goals (rw [a2.out])
    case rest =>
     have a5:=hcut
     obtain ⟨I,rfl⟩:∃ I,I=wc:=⟨_,rfl⟩
     subst a5
     have h9:I.heap.size=D.heap.size+1:=by rw [a2.out];show ((D.setCell _ _).alloc _).heap.size=_;simp [World.setCell]
     have b3:Below y.heap.size y I:=by
      rw [a2.out]
      exact ((b2.out.setCell (Nat.le_refl _) _).alloc (by have:=b2.out.size;simpa [World.setCell] using this) _).drew
     have i0:I.heap[y.heap.size]?=some (.cells #[.string nm,.string t,.string kind,.string K,.int .i64 M,.int .i64 N,.bool false,.slice (some ⟨D.heap.size,0,none⟩) 1 1] 59 (0,0)):=by
      rw [a2.out]
      show ((D.setCell _ _).alloc _).heap[y.heap.size]?=_
      rw [Below.heap_alloc _ _ _ (by simp [World.setCell];have:=h6.out;omega)]
      exact (O1 h7.out 7 _).trans rfl
     have i2:∀ j u,(Ze.enc ⟨Q,U,(tx.size:Int),(i:Int),O⟩)[j]?=some u->I.cell? ⟨D.heap.size,j,none⟩=some u:=fun j u hj=>by
      rw [a2.out]
      show ((D.setCell _ _).alloc _).cell? ⟨D.heap.size,j,none⟩=some u
      rw [World.cell?_alloc_at _ _ _ _ (by simp [World.setCell])]
      simpa [Ze,JL] using hj
     have i3:Jn I (⟨nm,t,kind,K,M,N,false,[⟨Q,U,(tx.size:Int),(i:Int),O⟩]⟩,(some ⟨D.heap.size,0,none⟩,1,1)):=⟨rfl,Or.inr ⟨D.heap.size,0,rfl,by omega,fun j x hx jj u hu=>by
      match j,hx with
      | 0,hx =>
       obtain rfl:(⟨Q,U,(tx.size:Int),(i:Int),O⟩:Yb)=x:=by simpa using hx
       simpa using i2 jj u hu⟩,Nat.le_refl _,fun e=>by cases e⟩
     have Y:∀ j u,(#[.string nm,.string t,.string kind,.string K,.int .i64 M,.int .i64 N,.bool false,.slice (some ⟨D.heap.size,0,none⟩) 1 1]:Array Value)[j]?=some u->I.cell? ⟨y.heap.size,j,none⟩=some u:=fun j u hj=>by simpa [World.cell?,i0] using hj
     have g0:=Y 0 _ rfl
     have g1:=Y 1 _ rfl
     have g2:=Y 2 _ rfl
     have g3:=Y 3 _ rfl
     have g4:=Y 4 _ rfl
     have g5:=Y 5 _ rfl
     have g6:=Y 6 _ rfl
     have g7:=Y 7 _ rfl
     obtain ⟨X,a3⟩:∃ X,X=I.alloc (.cells #[.string nm,.string t,.string kind,.string K,.int .i64 M,.int .i64 N,.bool false,.slice (some ⟨D.heap.size,0,none⟩) 1 1] 59):=⟨_,rfl⟩
     have b4:Below I.heap.size I X:=by rw [a3];exact (Below.refl _ _).alloc (Nat.le_refl _) _
     have a6:Below y.heap.size y X:=b3.trans (b4.mono b3.size)
     have i4:Hid (X=I.alloc (.cells #[.string nm,.string t,.string kind,.string K,.int .i64 M,.int .i64 N,.bool false,.slice (some ⟨D.heap.size,0,none⟩) 1 1] 59)):=a3
     have i5:Hid (X.ownsRow J.heap.size 59 8 (.slice pv G.length cv) G.length (Qb mE G)):=(HO.out.kept a6).1
     have i7:Hid (∀ j u,(mE.enc (⟨nm,t,kind,K,M,N,false,[⟨Q,U,(tx.size:Int),(i:Int),O⟩]⟩,(some ⟨D.heap.size,0,none⟩,1,1)))[j]?=some u->X.cell? ((⟨I.heap.size,0,none⟩:Addr).add j)=some u):=fun j u hj=>by
      have e:X.cell? ⟨I.heap.size,j,none⟩=some u:=by
       rw [a3,World.cell?_alloc_at _ _ _ _ rfl]
       simpa [mE,Jw] using hj
      by_cases e0:j=0
      ·subst e0;simpa [Addr.add] using e
      ·simpa [Addr.add,e0] using e
     have i8:Hid (Jn X (⟨nm,t,kind,K,M,N,false,[⟨Q,U,(tx.size:Int),(i:Int),O⟩]⟩,(some ⟨D.heap.size,0,none⟩,1,1))):=i3.below b4
     have b5:Hid (Below y.heap.size y X):=a6
     have n3:Hid (I.heap.size=D.heap.size+1):=h9
     have i9:Hid (J.heap.size<=X.heap.size/\X.heap.size=I.heap.size+1):=⟨Nat.le_trans HB.out.size a6.size,by rw [a3];simp⟩
     clear h9 b3 i0 i2 i3 Y a3 b4 a6 a2 b2 h7 m7 h4 n1 n2 m8 m9 n0 z0 z1
     go_wp2_with (first | rw [<- i4.out] | (at_builtin;refine EW rfl (.tmp 80) (.tmp 82) 27 rfl J.heap.size 59 i1 (.agg #[.string ⟨#[]⟩,.string ⟨#[]⟩,.string ⟨#[]⟩,.string ⟨#[]⟩,.int .i64 0,.int .i64 0,.bool false,.slice none 0 0]) 8 112 underlying27 k2 k3 k4 k6 rfl (by decide) (.slice pv G.length cv) G.length (Qb mE G) rfl i5.out ⟨I.heap.size,0,none⟩ 1 1 (mE.enc (⟨nm,t,kind,K,M,N,false,[⟨Q,U,(tx.size:Int),(i:Int),O⟩]⟩,(some ⟨D.heap.size,0,none⟩,1,1))) rfl rfl i7.out (mE.one _) (by unfold maxLen;omega) (by omega) i9.out.1 (by decide) ?_;intro v7 w7 j0 b6 j1))
     have j2:Zc mE 59 w7 J.heap.size v7 (G ++ [(⟨nm,t,kind,K,M,N,false,[⟨Q,U,(tx.size:Int),(i:Int),O⟩]⟩,(some ⟨D.heap.size,0,none⟩,1,1))]):=by
      unfold Zc
      rw [Qj,qK,List.length_append]
      exact j0
     have n4:Hid (J1 59 J.heap.size w7 v7 (G ++ [(⟨nm,t,kind,K,M,N,false,[⟨Q,U,(tx.size:Int),(i:Int),O⟩]⟩,(some ⟨D.heap.size,0,none⟩,1,1))])):=HO.out.snoc HB.out.size b5.out i8.out (fun b' o' e=>by
      have e1:=congrArg Addr.block (Option.some.inj e)
      have:=i9.out.2;have:=n3.out;have:=h6.out
      exact ⟨by simp at e1;omega,by simp at e1;omega⟩) j2 b6 j1
     have n5:Hid (Below J.heap.size J w7):=(HB.out.trans (b5.out.mono HB.out.size)).grown b6 (by have:=HB.out.size;have:=b5.out.size;omega) (fun k' n6=>(HO.out.1.block n6).1)
     have n7:Hid ((G ++ [((⟨nm,t,kind,K,M,N,false,[⟨Q,U,(tx.size:Int),(i:Int),O⟩]⟩:Zb),((some ⟨D.heap.size,0,none⟩,1,1):Lv))]).map Prod.fst=(List.range (i+1)).map (a.msg kind true)):=by
      show _=_
      rw [List.map_append,e8.out,HT.out,m6.out]
      rfl
     clear j0 j2 b6 j1 i5 i7 i8 i4 g0 g1 g2 g3 g4 g5 g6 g7
     go_wp2
     go_roundw
     case rel=>exact ⟨i+1,by omega,by go_num,⟨_,n7.out,n4.out⟩,n5.out⟩
     case measure=>simp [intOf];omega
  ·have j3:i=a.c.L.length:=by omega
   obtain ⟨p6,c6,j5,j6⟩:=HO.out.at_
   have n8:Hid (mN y p6 (G.map Prod.fst)):=j6.at_
   have o0:Hid (Value.slice pv G.length cv=.slice p6 G.length c6):=j5
   clear j5 j6
   go_wp2
   go_ret
   refine ⟨⟨p6,c6,?_,?_⟩,b0.out⟩
   ·rw [o0.out,l9.out,j3]
    rfl
   ·have:=n8.out
    rw [e8.out,j3,<- l3.out] at this
    exact this
end
theorem Zq.jX {B:Nat} {l:List ByteArray} (h:Zq w B v l) (y:b < B) (i:Nat) (x:Value):Zq (w.setCell ⟨b,i,none⟩ x) B v l :=
 World.ownsRow.kept (row:=some b) h ⟨rfl,rfl,rfl,by simp,fun k _ j=>Deep.blk_setCell_other _ _ _ _ (fun e=>j (by rw [e]))⟩ (Or.inr fun e=>by have:=(h.block e).1;omega)
theorem Jao (c:Xg) (p:Option Addr) (G:Nat) (w:World) (hl:c.L.length<=8796093021952) (hs:Strs w p c.L) (hn:p=none->c.L=[]/\G=0) :
 Calls prog 9 #[iE c (.slice p c.L.length G)] w fun e w'=>(∃ q d,e=.returned (iE c (.slice q c.L.length d))/\Strs w' q c.L/\c.L.length<=d/\(q=none->c.L=[]/\d=0))/\Below w.heap.size w w':=by
 obtain ⟨I,J,j⟩:=c
 unfold iE
 simp only [] at *
 obtain ⟨y,M⟩:∃ y,y=(w.alloc (.cells #[.int .i64 I,.int .i64 J,.slice p j.length G] 24)).alloc (.cells #[.int .i64 0,.int .i64 0,.slice none 0 0] 24):=⟨_,rfl⟩
 have a5:Hid (y=(w.alloc (.cells #[.int .i64 I,.int .i64 J,.slice p j.length G] 24)).alloc (.cells #[.int .i64 0,.int .i64 0,.slice none 0 0] 24)):=M
 have X:Below w.heap.size w y:=by rw [M];exact ((Below.refl _ _).alloc (Nat.le_refl _) _).alloc (by simp) _
 have N:(w.alloc (.cells #[.int .i64 I,.int .i64 J,.slice p j.length G] 24)).heap.size=w.heap.size+1:=by simp
 have Y:y.heap[w.heap.size]?=some (.cells #[.int .i64 I,.int .i64 J,.slice p j.length G] 24 (0,0)):=by
  rw [M,heap_alloc_old _ _ (by rw [N];omega)]
  exact heap_alloc_new _ _
 have a0:y.heap[w.heap.size+1]?=some (.cells #[.int .i64 0,.int .i64 0,.slice none 0 0] 24 (0,0)):=by
  rw [M,<- N]
  exact heap_alloc_new _ _
 have a1:y.heap.size=w.heap.size+2:=by rw [M];simp
 have a6:Hid (Strs y p j):=hs.below X
 have K:Hid (y.heap[w.heap.size]?=some (.cells #[.int .i64 I,.int .i64 J,.slice p j.length G] 24 (0,0))/\y.heap[w.heap.size+1]?=some (.cells #[.int .i64 0,.int .i64 0,.slice none 0 0] 24 (0,0))/\Below w.heap.size w y/\y.heap.size=w.heap.size+2):=⟨Y,a0,X,a1⟩
 have q2:y.cell? ⟨w.heap.size,2,none⟩=some (.slice p j.length G):=by simp [World.cell?,Y]
 clear M X N Y a0 a1 hs
 go_enter func9,ntmps9
 go_wp2_with (first | (at_builtin;rw [<- a5.out];refine R8 rfl (.tmp 4) (.tmp 6) rfl y.heap.size (.slice none 0 0) [] rfl (Zq.nil _ _) p j G rfl a6.out hn (by show 0+j.length<=_;omega) (Nat.le_refl _) ?_;intro v2 D U W;rw [List.nil_append] at U;obtain ⟨q,d,a7,a2,a3,a4,a8⟩:=U.form;subst a7;have O:=(W.block _ (by have:=K.out.2.2.2;omega)).trans K.out.1;have Q:=(W.block _ (by have:=K.out.2.2.2;omega)).trans K.out.2.1;have a9:Hid (q=none->j=[]/\d=0):=(fun e=>⟨(by rcases a2 with h | ⟨b,o,hq,_⟩;exact h;rw [e] at hq;cases hq),a4 e⟩);have Z:Hid (Zq D y.heap.size (.slice q j.length d) j/\j.length<=d/\Below w.heap.size w D):=⟨U,a3,K.out.2.2.1.trans (W.mono K.out.2.2.1.size)⟩;have k0:D.cell? ⟨w.heap.size,0,none⟩=some (.int .i64 I):=(by simp [World.cell?,O]);have k1:D.cell? ⟨w.heap.size,1,none⟩=some (.int .i64 J):=(by simp [World.cell?,O]);have k2:D.cell? ⟨w.heap.size,2,none⟩=some (.slice p j.length G):=(by simp [World.cell?,O]);have k3:D.frozen? ⟨w.heap.size,2,none⟩=false:=(by simp [World.frozen?,O]);have z0:D.cell? ⟨w.heap.size+1,0,none⟩=some (.int .i64 0):=(by simp [World.cell?,Q]);have z1:D.cell? ⟨w.heap.size+1,1,none⟩=some (.int .i64 0):=(by simp [World.cell?,Q]);have z2:D.cell? ⟨w.heap.size+1,2,none⟩=some (.slice none 0 0):=(by simp [World.cell?,Q]);have z3:∀ i,D.frozen? ⟨w.heap.size+1,i,none⟩=false:=(fun i=>by simp [World.frozen?,Q]);clear U W a2 a3 a4 a8 O Q q2))
 refine bodyPost_ret (v:=.agg #[.int .i64 I,.int .i64 J,.slice q j.length d]) (by simp [results,results9,go_sem,z0,z1,z2]) rfl ?_
 have b0:=K.out.2.2.2
 have ho:=(((Z.out.1.jX (b:=w.heap.size) (by omega) 2 (.slice q j.length d)).jX (b:=w.heap.size+1) (by omega) 0 (.int .i64 I)).jX (b:=w.heap.size+1) (by omega) 1 (.int .i64 J)).jX (b:=w.heap.size+1) (by omega) 2 (.slice q j.length d)
 obtain ⟨q',d',hv,hS,_⟩:=ho.form
 injection hv with e1 _ N
 subst e1 N
 exact ⟨⟨q,d,rfl,hS,Z.out.2.1,a9.out⟩,(((Z.out.2.2.setCell (p:=⟨w.heap.size,2,none⟩) (Nat.le_refl _) _).setCell (p:=⟨w.heap.size+1,0,none⟩) (by show w.heap.size<=w.heap.size+1;omega) _).setCell (p:=⟨w.heap.size+1,1,none⟩) (by show w.heap.size<=w.heap.size+1;omega) _).setCell (p:=⟨w.heap.size+1,2,none⟩) (by show w.heap.size<=w.heap.size+1;omega) _⟩
def Zx (c:Xg):Bool:=decide (30 < c.L.length) || c.L.any fun x=>decide (60 < x.size)
theorem L1 (h:Zx c=false):c.L.length<=30/\∀ x ∈ c.L,x.size<=60:=by
 unfold Zx at h
 rw [Bool.or_eq_false_iff] at h
 refine ⟨by have:=of_decide_eq_false h.1;omega,fun x j=>?_⟩
 have:=List.any_eq_false.1 h.2 x j
 simpa using this
theorem X3 (c:Xg) (p:Option Addr) (O:Nat) (w:World) (hl:c.L.length<=maxLen) (M:∀ x ∈ c.L,x.size<=maxLen) (hs:Strs w p c.L) :
 Calls prog 6 #[iE c (.slice p c.L.length O)] w fun e w'=>e=.returned (.bool (Zx c))/\Below w.heap.size w w':=by
 obtain ⟨D,G,l⟩:=c
 unfold maxLen at hl
 unfold iE
 simp only [] at *
 obtain ⟨y,J⟩:∃ y,y=w.alloc (.cells #[.int .i64 D,.int .i64 G,.slice p l.length O] 24):=⟨_,rfl⟩
 have U:Hid (y=w.alloc (.cells #[.int .i64 D,.int .i64 G,.slice p l.length O] 24)):=J
 have Q:Below w.heap.size w y:=by rw [J];exact (Below.refl _ _).alloc (Nat.le_refl _) _
 have q2:y.cell? ⟨w.heap.size,2,none⟩=some (.slice p l.length O):=by rw [J,World.cell?_alloc_at _ _ _ _ rfl];rfl
 have W:Hid (Below w.heap.size w y):=Q
 by_cases X:30 < l.length
 ·have K:Hid (Zx ⟨D,G,l⟩=true):=by show _=_;unfold Zx;rw [decide_eq_true X,Bool.true_or]
  rw [K.out]
  clear J Q hs M
  go_enter func6,ntmps6
  go_wp2
  go_ret
  exact ⟨rfl,by rw [<- U.out];exact W.out⟩
 have Y:Hid (∀ i,i < l.length->(Yc l i).size<=9223372036854775807):=fun i I=>by have:=M _ (oQ I);unfold maxLen at this;omega
 have Z:Hid (∀ i,i < l.length->60 < (Yc l i).size->Zx ⟨D,G,l⟩=true):=fun i I h=>by
  unfold Zx
  rw [decide_eq_false X,Bool.false_or,List.any_eq_true]
  exact ⟨Yc l i,oQ I,decide_eq_true h⟩
 have HF:Hid ((∀ i,i < l.length->¬ 60 < (Yc l i).size)->Zx ⟨D,G,l⟩=false):=fun h=>by
  unfold Zx
  rw [decide_eq_false X,Bool.false_or,List.any_eq_false]
  intro x M h2
  obtain ⟨i,I,rfl⟩:=tF M
  exact h i I (of_decide_eq_true h2)
 generalize Zx ⟨D,G,l⟩=r at *
 have HS:Hid (Strs y p l):=hs.below Q
 clear hs M J Q
 go_enter func6,ntmps6
 go_wp2
 rw [show w.alloc (.cells #[.int .i64 D,.int .i64 G,.slice p l.length O] 24)=y from U.out.symm]
 clear U
 go_loopw [3] (fun x wr=>∃ i:Nat,i<=l.length/\x=.int .i64 i/\(∀ j,j < i->¬ 60 < (Yc l j).size)/\wr=y) (fun x _=>l.length - (intOf x).toNat)
 case atStart=>exact ⟨0,Nat.zero_le _,rfl,(fun j hj=>absurd hj (Nat.not_lt_zero _)),rfl⟩
 case round =>
  obtain ⟨i,I,rfl,a1,a4⟩:=hrel
  subst a4
  have a0:Hid (∀ j,j < i->¬ 60 < (Yc l j).size):=a1
  clear a1
  by_cases N:i < l.length
  ·rcases HS.out with h0 | ⟨b,o,rfl,a7,hc⟩
   ·rw [h0] at N;exact absurd N (Nat.not_lt_zero _)
   have q1:=hc i N
   have a8:=Y.out i N
   clear hc
   by_cases a2:60 < (Yc l i).size
   ·have K:Hid (r=true):=Z.out i N a2
    clear Z HF a0 Y
    generalize Yc l i=t at *
    go_wp2
    go_ret
    exact ⟨by rw [K.out];rfl,W.out⟩
   ·have a5:Hid (¬ 60 < (Yc l i).size):=a2
    clear Z HF Y
    generalize a3:Yc l i=t at *
    have a6:Hid (Yc l i=t):=a3
    clear a3
    go_wp2
    go_roundw
    case rel=>exact ⟨i+1,by omega,by go_num,(fun j hj=>by
     rcases Nat.lt_or_ge j i with h | h
     ·exact a0.out j h
     ·obtain rfl:j=i:=by omega
      rw [a6.out];exact a5.out),trivial⟩
    case measure=>simp [intOf];omega
  ·have K:Hid (r=false):=HF.out (fun j hj=>a0.out j (by omega))
   go_wp2
   go_ret
   exact ⟨by rw [K.out];rfl,W.out⟩
theorem Ja5  {p:Option Addr} {j:Nat} (G:Strs w p c.L) (I:c.L.length<=j) (J:p=none->c.L=[]/\j=0) (y:Zx c=false) (K:Jt5 c):Yn w c p j :=
 ⟨G,I,J,by have:=(L1 y).1;omega,fun x D=>by have:=(L1 y).2 x D;omega,K⟩
def Qa (l:List Zb):Nat:=(l.map fun m=>20+nR m).sum
def X5 (l:List Zb):Bool:=!(l.any fun m=>m.L.any X2) && decide (Qa l < 6000)
theorem JbB  {i:Nat} (h:l[i]?=some m):Qa (l.take (i+1))=Qa (l.take i)+(20+nR m):=by
 unfold Qa
 rw [List.take_add_one,h,List.map_append,List.sum_append]
 simp
theorem JdX (l:List Zb) (i:Nat):Qa (l.take i)<=Qa l:=by
 have h:Qa l=Qa (l.take i)+Qa (l.drop i):=by
  unfold Qa
  rw [<- List.sum_append,<- List.map_append,List.take_append_drop]
 omega
theorem Jbd (l:List Zb):l.length<=Qa l:=by
 unfold Qa
 induction l with
 | nil=>exact Nat.zero_le _
 | cons x r ih=>rw [List.map_cons,List.sum_cons,List.length_cons];omega
theorem Jdh  (h:m ∈ l):20+nR m<=Qa l:=by
 unfold Qa
 induction l with
 | nil=>cases h
 | cons x r ih =>
  rw [List.map_cons,List.sum_cons]
  rcases List.mem_cons.1 h with e | e
  ·subst e;omega
  ·have:=ih e;omega
theorem JdY  (h:m ∈ l) (j:m.L.any X2=true):X5 l=false:=by
 unfold X5
 have:(l.any fun m=>m.L.any X2)=true:=List.any_eq_true.2 ⟨m,h,j⟩
 rw [this]
 rfl
theorem JdZ (h:∀ m ∈ l,m.L.any X2=false):X5 l=decide (Qa l < 6000):=by
 unfold X5
 have:(l.any fun m=>m.L.any X2)=false:=List.any_eq_false.2 fun m y j=>by rw [h m y] at j;cases j
 rw [this]
 rfl
theorem Qy (p:Option Addr) (l:List Zb) (f9:Nat) (w:World) (hw:Qa l<=4611686018427387904) (h:mN w p l) :
 Calls prog 7 #[.slice p l.length f9] w fun e w'=>e=.returned (.bool (X5 l))/\Below w.heap.size w w':=by
 obtain ⟨D,N,hr,hh⟩:=h
 have a2:l.length=D.length:=by rw [<- N,List.length_map]
 have g0:D.length<=4611686018427387904:=by have:=Jbd l;omega
 have HR:Hid (Ql mE w p D):=hr
 have HH:Hid (∀ x ∈ D,Jn w x):=hh
 have a3:∀ i,i < D.length->(JN D i).1 ∈ l:=fun i I=>by rw [<- N];exact List.mem_map.2 ⟨_,vV I,rfl⟩
 have HG:Hid (∀ i,i < D.length->l[i]?=some (JN D i).1):=fun i I=>by rw [<- N,List.getElem?_map,List.getElem?_eq_getElem I,rR I];rfl
 have b3:Hid (∀ i,i < D.length->Qa (l.take (i+1))=Qa (l.take i)+(20+nR (JN D i).1)):=fun i I=>JbB (HG.out i I)
 have a4:Hid (∀ i,Qa (l.take i)<=Qa l):=fun i=>JdX l i
 have b4:Hid (∀ i,i < D.length->20+nR (JN D i).1<=Qa l):=fun i I=>Jdh (a3 i I)
 have b5:Hid (∀ i,i < D.length->(JN D i).1.L.any X2=true->X5 l=false):=fun i I O=>JdY (a3 i I) O
 have e3:Hid ((∀ i,i < D.length->(JN D i).1.L.any X2=false)->X5 l=decide (Qa (l.take D.length) < 6000)):=fun U=>by
  rw [<- a2,List.take_length]
  refine JdZ fun m hm=>?_
  rw [<- N] at hm
  obtain ⟨x,X,rfl⟩:=List.mem_map.1 hm
  obtain ⟨i,I,rfl⟩:=List.getElem_of_mem X
  have:=U i I
  rw [<- rR I] at this
  exact this
 have H0:Hid (Qa (l.take 0)=0):=by show _=_;rfl
 rw [a2]
 generalize X5 l=R at *
 generalize Qa l=WW at *
 have b6:Hid (∀ (x:Zb×Lv) W,Jn W x->nR x.1<=9223372036854775807->Calls prog 32 #[.agg #[.string x.1.from_,.string x.1.aP,.string x.1.kind,.string x.1.key,.int .i64 x.1.op,.int .i64 x.1.config,.bool x.1.shut,.slice x.2.1 x.2.2.1 x.2.2.2]] W fun e w'=>e=.returned (.int .i64 ((nR x.1:Nat):Int))/\Below W.heap.size W w'):=fun x W X O=>by
  have h:=Jeh x.1 x.2.1 x.2.2.2 W X.eC O
  rw [X.len]
  exact h
 clear hr hh N a2 a3 HG
 go_enter func7,ntmps7
 go_wp2
 go_loopw [3,4] (fun nv x wr=>∃ i:Nat,i<=D.length/\x=.int .i64 i/\nv=.int .i64 ((Qa (l.take i):Nat):Int)/\(∀ j,j < i->(JN D j).1.L.any X2=false)/\Below w.heap.size w wr) (fun _ x _=>D.length - (intOf x).toNat)
 case atStart=>exact ⟨0,Nat.zero_le _,rfl,by rw [H0.out];rfl,fun j J=>absurd J (Nat.not_lt_zero _),Below.refl _ _⟩
 case round =>
  obtain ⟨i,I,rfl,rfl,U,hB⟩:=hrel
  obtain ⟨K,rfl⟩:∃ K,K=wr:=⟨_,rfl⟩
  have Y:Hid (Below w.heap.size w K):=hB
  have a5:Hid (∀ j,j < i->(JN D j).1.L.any X2=false):=U
  have g1:=a4.out i
  clear U
  by_cases M:i < D.length
  ·obtain ⟨b,o,a6,e4,d0,Z,d2,d3,d4,d5,d6,d7⟩:=ML (HR.out.below hB) M
   rw [rR M] at d0 Z d2 d3 d4 d5 d6 d7
   have g2:=b4.out i M
   have a7:=b3.out i M
   have e5:=a4.out (i+1)
   rw [a7] at e5
   have a8:Hid (Jn w (JN D i)):=HH.out _ (vV M)
   have b7:=b6.out (JN D i) K (a8.out.below hB) (by omega)
   have e6:Hid (Qa (l.take (i+1))=Qa (l.take i)+(20+nR (JN D i).1)):=a7
   have e7:Hid ((JN D i).1.L.any X2=true->R=false):=b5.out i M
   have e8:Hid ((JN D i).1.L.any X2=false->∀ j,j < i+1->(JN D j).1.L.any X2=false):=fun O j J=>by
    by_cases e:j=i
    ·rw [e];exact O
    ·exact a5.out j (by omega)
   have g3:=WZ (JN D i).1.L
   have g4:Xi (JN D i).1.L<=nR (JN D i).1:=by unfold nR;omega
   subst a6
   clear a7 hB HH b6 b3 a4 b4 b5 a5
   generalize JN D i=x at *
   generalize Qa (l.take i)=ni at *
   obtain ⟨⟨m1,m2,m3,m4,m5,m6,m7,G⟩,lp,ln,lc⟩:=x
   have e9:ln=G.length:=a8.out.len
   subst e9
   dsimp only at *
   generalize nR ⟨m1,m2,m3,m4,m5,m6,m7,G⟩=bn at *
   have a0:Hid (∀ W,Below K.heap.size K W->W.cell? ⟨b,o+i*8+7,none⟩=some (.slice lp G.length lc)/\Ql Ze W lp G/\Below w.heap.size w W):=fun W hW=>⟨(hW.cell (p:=⟨b,o+i*8+7,none⟩) e4).trans d7,(a8.out.eC.below Y.out).below hW,Y.out.trans (hW.mono Y.out.size)⟩
   have f3:Hid (∀ j,j < G.length->X2 (Xd G j)=true->G.any X2=true):=fun j J hv=>Jd0 J hv
   have f4:Hid (∀ j,j < G.length->(G.take (j+1)).any X2=((G.take j).any X2 || X2 (Xd G j))):=fun j J=>Jen J
   have g5:Hid (G.take G.length=G):=List.take_length
   go_wp2_with fail
   refine b7.mono ?_
   rintro e w2 ⟨rfl,a9⟩
   have b0:Hid (Below K.heap.size K w2):=a9
   have q7:=(a0.out w2 a9).1
   clear b7 a9 d0 Z d2 d3 d4 d5 d6 d7
   go_wp2
   go_loopw [5] (fun y wr=>∃ j:Nat,j<=G.length/\y=.int .i64 j/\(G.take j).any X2=false/\wr=w2) (fun y _=>G.length - (intOf y).toNat)
   case atStart=>exact ⟨0,Nat.zero_le _,rfl,rfl,rfl⟩
   case round =>
    obtain ⟨j,J,rfl,d8,f5⟩:=hrel
    subst f5
    have b1:Hid ((G.take j).any X2=false):=d8
    clear d8
    by_cases b2:j < G.length
    ·obtain ⟨b',o',a6,g6,v0,v1,v2,v3,v4⟩:=QU (a0.out wr b0.out).2.1 b2
     subst a6
     have HS:=f4.out j b2
     have HI:=f3.out j b2
     have a1:Hid (X2 (Xd G j)=decide (200 < (Xd G j).size/\(Xd G j).size<=1000)):=by show _=_;rfl
     rw [b1.out,Bool.false_or] at HS
     have d9:Hid ((G.take (j+1)).any X2=X2 (Xd G j)):=HS
     have f6:Hid (X2 (Xd G j)=true->G.any X2=true):=HI
     clear HS HI v0 v1 v3 v4
     generalize Xd G j=x at *
     obtain ⟨xn,xw,xs,xa,xt⟩:=x
     dsimp only at v2 a1
     by_cases h1:200 < xs
     ·have Z:decide (200 < xs)=true:=decide_eq_true h1
      by_cases h2:xs<=1000
      ·have d2:decide (xs<=1000)=true:=decide_eq_true h2
       have f7:Hid (R=false):=e7.out (f6.out (by rw [a1.out];exact decide_eq_true ⟨h1,h2⟩))
       go_wp2
       go_ret
       exact ⟨by rw [f7.out];rfl,(a0.out wr b0.out).2.2⟩
      ·have d2:decide (xs<=1000)=false:=decide_eq_false h2
       have Q:Hid ((G.take (j+1)).any X2=false):=by show _=_;rw [d9.out,a1.out];exact decide_eq_false fun h=>h2 h.2
       go_wp2
       go_roundw
       case rel=>exact ⟨j+1,by omega,by go_num,Q.out,trivial⟩
       case measure=>simp [intOf];omega
     ·have Z:decide (200 < xs)=false:=decide_eq_false h1
      have Q:Hid ((G.take (j+1)).any X2=false):=by show _=_;rw [d9.out,a1.out];exact decide_eq_false fun h=>h1 h.1
      go_wp2
      go_roundw
      case rel=>exact ⟨j+1,by omega,by go_num,Q.out,trivial⟩
      case measure=>simp [intOf];omega
    ·have e0:G.take j=G:=List.take_of_length_le (by omega)
     have Q:Hid (G.any X2=false):=by have:=b1.out;rw [e0] at this;exact this
     have f8:Hid (((ni:Int)+20+(bn:Int))=((Qa (l.take (i+1)):Nat):Int)):=by show _=_;rw [e6.out];omega
     clear e0 b1
     go_wp2
     go_roundw
     case rel=>exact ⟨i+1,by omega,by go_num,by rw [<- f8.out],e8.out Q.out,(a0.out wr b0.out).2.2⟩
     case measure=>simp [intOf];omega
  ·have e1:Hid (R=decide (Qa (l.take D.length) < 6000)):=e3.out fun j J=>a5.out j (by omega)
   have e2:i=D.length:=by omega
   rw [<- e2] at e1
   clear hB e2
   generalize Qa (l.take i)=ni at *
   go_wp2
   go_ret
   exact ⟨sB (by rw [e1.out];exact decide_eq_decide.2 (by omega)),Y.out⟩
theorem JdW (n:Nat) (w:World) :
 Calls prog 61 #[.int .i64 (n:Int)] w fun e w'=>e=.returned (.string (Jp [n % 256]))/\Below w.heap.size w w':=by
 have D:Sem.run prog (convert 138 9 (.slice (some ⟨w.heap.size,0,none⟩) 1 1)) (w.alloc (.cells #[.int .u8 ((n:Int) % 256)] 5))=.ok (.string (Jp [n % 256])) (w.alloc (.cells #[.int .u8 ((n:Int) % 256)] 5)):=by
  have j:jU (w.alloc (.cells #[.int .u8 ((n:Int) % 256)] 5)) (some ⟨w.heap.size,0,none⟩) [n % 256]:=⟨fun i=>by
   match i with
   | 0=>show n % 256 < 256;omega
   | i+1=>show (([n % 256]:List Nat).getD (i+1) 0) < 256;simp,Or.inr ⟨w.heap.size,0,rfl,by simp,fun i y=>by
   obtain rfl:i=0:=by simpa using y
   rw [World.cell?_alloc_at _ _ _ _ rfl]
   show some (Value.int .u8 ((n:Int) % 256))=some (.int .u8 ((n % 256:Nat):Int))
   rw [Int.natCast_emod]
   rfl⟩⟩
  exact WU j 1
 go_enter func61,ntmps61
 go_wp2
 go_ret
 exact ⟨rfl,(Below.refl _ _).alloc (Nat.le_refl _) _⟩
section
variable {w w':World} {B:Nat} {S:Nat->Prop} {ab:Nat} {a:Za} {mv nv fv lv:Value} {vs:List Value}
theorem JbI (h:Xh w B S ab a mv nv fv lv vs) (O:a.c.L.length<=1000):Calls prog 17 #[.pointer (some ⟨ab,0,none⟩)] w fun e w'=>(∃ p c,e=.returned (.slice p a.begin.length c)/\mN w' p a.begin)/\Below w.heap.size w w':=by
 have Y:w.cell? ⟨ab,12,none⟩=some (.bool a.aI):=h.cell 12
 have J:w.cell? ⟨ab,13,none⟩=some (.string a.st.word):=h.cell 13
 have j:=JbS h C3 O
 have y:=JbS h rO O
 have K:C3=⟨#[115,101,97,108]⟩:=rfl
 have M:rO=⟨#[108,111,111,107]⟩:=rfl
 have N:Hid (a.begin=if a.aI then (if a.st=.sealing then a.send C3 false else []) else a.send rO false):=by show _=_;rfl
 rw [N.out]
 clear N
 generalize Q:a.send C3 false=Z at *
 generalize U:a.send rO false=l2 at *
 rw [K] at j
 rw [M] at y
 clear h Q U K M
 generalize a.aI=W at *
 generalize a.st=st at *
 cases W with
 | false =>
  rw [if_neg (by decide)]
  clear j
  go_enter func17,ntmps17
  go_wp2_with fail
  refine y.mono ?_
  rintro e X ⟨⟨p,c,rfl,G⟩,I⟩
  clear y
  go_wp2
  go_ret
  exact ⟨⟨p,c,rfl,G⟩,I⟩
 | true =>
  rw [if_pos rfl]
  by_cases D:st=.sealing
  ·rw [if_pos D]
   have q:w.cell? ⟨ab,13,none⟩=some (.string ⟨#[115,101,97,108,105,110,103]⟩):=by rw [J,D];rfl
   clear J y
   go_enter func17,ntmps17
   go_wp2_with fail
   refine j.mono ?_
   rintro e X ⟨⟨p,c,rfl,G⟩,I⟩
   clear j
   go_wp2
   go_ret
   exact ⟨⟨p,c,rfl,G⟩,I⟩
  ·rw [if_neg D]
   have a0:¬ st.word.toList=[115,101,97,108,105,110,103]:=by cases st <;> first | exact absurd rfl D | decide +kernel
   have a1:(st.word.toList==[115,101,97,108,105,110,103])=false:=by cases st <;> first | exact absurd rfl D | decide +kernel
   clear j y
   generalize st.word=sw at *
   go_enter func17,ntmps17
   go_wp2
   go_ret
   exact ⟨⟨none,0,rfl,mN.nil _ _⟩,Below.refl _ _⟩
end
section
open Go.ChangeShapes Go.WideShapes Go.ChangeAt Go.RowKit
theorem MD:prog.cellsOf 3=1:=by kernel_rfl
theorem Jc2:∃ f0 f1 f2,prog.underlying 76=some (.struct #[f0,f1,f2])/\f0.offset=0/\f1.offset=2/\f2.offset=3/\f0.type=46/\f1.type=3/\f2.type=74:=⟨_,_,_,underlying76,rfl,rfl,rfl,rfl,rfl,rfl⟩
theorem Jc3:∃ f0 f1,prog.underlying 46=some (.struct #[f0,f1])/\f0.offset=0/\f1.offset=1/\f0.type=3/\f1.type=3:=⟨_,_,underlying46,rfl,rfl,rfl,rfl⟩
theorem Jcu:∃ f0 f1,prog.underlying 74=some (.struct #[f0,f1])/\f0.offset=0/\f1.offset=1/\f0.type=3/\f1.type=9:=⟨_,_,underlying74,rfl,rfl,rfl,rfl⟩
theorem Jb9:prog.cellsOf 76=5:=by kernel_rfl
theorem Jdr:prog.cellsOf 46=2:=by kernel_rfl
theorem JcL:prog.cellsOf 74=2:=by kernel_rfl
theorem D2:prog.cellsOf 9=1:=by kernel_rfl
theorem Jc4:prog.cellsOf 55=1:=by kernel_rfl
structure u5 {H:Type} (m:DataW H->Nat):Prop where
 one:∀ d,1<=m d
 str:∀ l:List UInt8,l.length<=m (.lit (.string l))
 agg:∀ l:List (DataW H),(l.map m).sum<=m (.agg l)
 slice:∀ es sp:List (DataW H),(es.map m).sum<=m (.slice es sp)
theorem JaR {f g:Nat->Nat}:∀ n,(∀ i,i < n->f i<=g i)->((List.range n).map f).sum<=((List.range n).map g).sum
 | 0,_=>Nat.le_refl _
 | n+1,h=>by
  have ih:=JaR n (fun i j=>h i (by omega))
  have:=h n (by omega)
  simp only [List.range_succ,List.map_append,List.sum_append,List.map_cons,List.map_nil,List.sum_cons,List.sum_nil]
  omega
theorem Jc5 {α:Type} {f:α->Nat} {l:List α} {x:α} (h:x ∈ l):f x<=(l.map f).sum:=by
 induction l with
 | nil=>cases h
 | cons y r ih =>
  rw [List.map_cons,List.sum_cons]
  cases List.mem_cons.1 h with
  | inl e=>subst e;omega
  | inr e=>have:=ih e;omega
theorem u5.sZ {m:DataW H->Nat} (j:u5 m) (s:ByteArray):s.size<=m (.lit (.string s.data.toList)):=by
 have e:s.data.toList.length=s.size:=by simp
 have:=j.str s.data.toList
 omega
theorem u5.T1 {m:DataW H->Nat} (j:u5 m) {d:DataW H} {l:List (DataW H)} (h:d ∈ l):m d<=m (.agg l):=Nat.le_trans (Jc5 h) (j.agg l)
theorem Jds {m:DataW H->Nat} (I:u5 m) {enc:TypeId×Value->H}  {M:List Value} {y:DataW H×List MemPlace} (h:DataW.trod enc prog W 0 (fun _=>true) true fuel 76 M=some y):∃ x:Yb,M=JL x/\Jt x/\1+x.text.size / 20<=m y.1:=by
 obtain ⟨g0,g1,g2,a6,p0,p1,p2,u0,u1,u2⟩:=Jc2
 obtain ⟨a0,a1,a7,b0,b1,c0,c1⟩:=Jc3
 obtain ⟨d0,d1,a8,e0,N,i0,i1⟩:=Jcu
 obtain ⟨J,K,j,n2,rfl,O,Q,U,X⟩:=Deep.trod_struct3 a6 h
 rw [Jb9] at O
 match M,O with
 | [v0,v1,v2,v3,v4],_ =>
  rw [u0,p0,Jdr] at Q
  rw [u1,p1,MD] at U
  rw [u2,p2,JcL] at X
  obtain ⟨xs,Y,_,ws⟩:=DataW.trod_int underlying3 U
  obtain ⟨r0,r1,n3,_,_,Z,l1⟩:=trod_struct2 a7 Q
  rw [c0,b0,MD] at Z
  rw [c1,b1,MD] at l1
  obtain ⟨xn,a2,_,wn⟩:=DataW.trod_int underlying3 Z
  obtain ⟨xw,a3,_,ww⟩:=DataW.trod_int underlying3 l1
  obtain ⟨q0,D,n4,a9,_,m0,m1⟩:=trod_struct2 a8 X
  rw [i0,e0,MD] at m0
  rw [i1,N,D2] at m1
  obtain ⟨xa,a4,_,wa⟩:=DataW.trod_int underlying3 m0
  obtain ⟨G,a5,b2,b3⟩:=DataW.trod_string underlying9 m1
  simp at Y a2 a3 a4 a5
  subst Y a2 a3 a4 a5
  refine ⟨⟨xn,xw,xs,xa,G⟩,rfl,⟨bounds_i64 wn,bounds_i64 ww,bounds_i64 ws,bounds_i64 wa⟩,?_⟩
  have h0:=I.one (DataW.agg (H:=H) [J.1,K.1,j.1])
  have h1:=I.sZ G
  have h2:m D.1<=m (.agg [q0.1,D.1]):=I.T1 (by simp)
  have h3:m j.1<=m (.agg [J.1,K.1,j.1]):=I.T1 (by simp)
  have N:m D.1=m (DataW.lit (H:=H) (.string G.data.toList)):=by rw [b2]
  have e2:m j.1=m (.agg [q0.1,D.1]):=by rw [a9]
  show 1+G.size / 20<=m (.agg [J.1,K.1,j.1])
  omega
theorem Jdt {m:DataW H->Nat} (hb:u5 m) {enc:TypeId×Value->H}  {y:DataW H×List MemPlace} (h:DataW.trod enc prog W 0 (fun _=>true) true fuel 55 [v]=some y) :
 ∃ p l U,v=.slice p l.length U/\Ql Ze W p l/\l.length<=U/\(p=none->l=[]/\U=0)/\(∀ x ∈ l,Jt x)/\L2 l<=m y.1:=by
 rcases Deep.open_slice underlying55 h with ⟨K,_⟩ | ⟨a,G,a0,m0,nn,D,Pl,K,_,b0,b1,hm,hy,X⟩
 ·simp at K
  subst K
  exact ⟨none,[],0,rfl,Or.inl rfl,Nat.le_refl _,fun _=>⟨rfl,rfl⟩,(fun x X=>by cases X),Nat.zero_le _⟩
 ·simp at K
  subst K
  have b2:G<=m0:=by rw [hm];split <;> omega
  have a1:((List.range G).map fun i=>m (D i)).sum<=m y.1:=by
   rw [hy]
   have M:=hb.slice ((List.range G).map D)
   simp only [List.map_map] at M
   exact M _
  have J:∀ i,∃ x:Yb,i < G->(∀ j u,(JL x)[j]?=some u->W.cell? ((a.add (i*5)).add j)=some u)/\Jt x/\1+x.text.size / 20<=m (D i):=fun i=>by
   by_cases I:i < G
   ·obtain ⟨b3,M,h2⟩:=X i (by omega)
    obtain ⟨x,a2,a3,a4⟩:=Jds hb h2
    rw [Jb9] at M
    obtain ⟨_,N,a5⟩:=World.cells?_some M
    refine ⟨x,fun _=>⟨fun j u O=>?_,a3,a4⟩⟩
    have b4:j < 5:=(List.getElem?_eq_some_iff.1 O).1
    have:=a5 j (by omega)
    rw [this,a2]
    exact O
   ·exact ⟨⟨0,0,0,0,⟨#[]⟩⟩,fun h=>absurd h I⟩
  have N:((List.range G).map fun i=>Classical.choose (J i)).length=G:=by simp
  have a6:∀ i,i < G->((List.range G).map fun i=>Classical.choose (J i))[i]?=some (Classical.choose (J i)):=fun i I=>by
   rw [List.getElem?_map,List.getElem?_range I]
   rfl
  refine ⟨some a,(List.range G).map fun i=>Classical.choose (J i),a0,by rw [N],?_,by rw [N];omega,(fun e=>by cases e),fun x a7=>?_,?_⟩
  ·by_cases h0:G=0
   ·exact Or.inl (List.length_eq_zero_iff.1 (by rw [N];exact h0))
   ·obtain ⟨u0,Q⟩:∃ u,W.cell? ((a.add (0*5)).add 0)=some u:=⟨_,(Classical.choose_spec (J 0) (by omega)).1 0 _ rfl⟩
    obtain ⟨b,a8,sp⟩:=a
    have a9:sp=none:=by
     cases sp with
     | none=>rfl
     | some q =>
      exfalso
      simp [Addr.add,World.cell?] at Q
      revert Q
      split <;> intro h9 <;> cases h9
    subst a9
    refine Or.inr ⟨b,a8,rfl,?_,fun i x Y j u O=>?_⟩
    ·rw [Addr.add_lit,Addr.add_lit] at Q
     rcases Nat.lt_or_ge b W.heap.size with Z | Z
     ·exact Z
     ·simp [World.cell?,Array.getElem?_eq_none Z] at Q
    ·have I:i < G:=by have:=(List.getElem?_eq_some_iff.1 Y).1;rw [N] at this;exact this
     rw [a6 i I] at Y
     have e:=Option.some.inj Y
     have hc:=(Classical.choose_spec (J i) I).1 j u (by rw [e];exact O)
     rw [Addr.add_lit,Addr.add_lit] at hc
     exact hc
  ·obtain ⟨i,I,rfl⟩:=List.mem_map.1 a7
   exact (Classical.choose_spec (J i) (List.mem_range.1 I)).2.1
  ·refine Nat.le_trans ?_ a1
   unfold L2
   rw [List.map_map]
   exact JaR G fun i I=>(Classical.choose_spec (J i) I).2.2
end
end Go.Proofs.YtmikbldbfnlfjaaGreatDoor
