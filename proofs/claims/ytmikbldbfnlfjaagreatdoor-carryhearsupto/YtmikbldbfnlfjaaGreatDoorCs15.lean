/- Texts laid together. -/
import Derived.Test.YtmikbldbfnlfjaaGreatDoorCs14
import Derived.Deep.Heap
import Derived.OpenShut
import Derived.ChangeOld
import Derived.Deep.SlicePairs
import Derived.Lib.SmallJoins
set_option maxRecDepth 100000
set_option maxHeartbeats 16000000
namespace Go.Proofs.YtmikbldbfnlfjaaGreatDoor
open Go.Proofs.Tryz
open Go.RowKit
variable {T:TypeId}{w W:World}{B b fuel:Nat}{v:Value}{l:List Zb}{c:Xg}{m:Zb}{H:Type}
section
variable {w w':World} {B:Nat} {S:Nat->Prop} {ab:Nat} {a:Za} {mv nv fv lv:Value} {vs:List Value}
theorem Jdg (h:Qa w B S ab a mv nv fv lv vs) (x:Zb×Lv) (hl:a.c.L.length<=1000) (u9:a.from_.length<=1000) (e4:a.aM x.1=true) (t4:x.1.shut=false) (t5:a.st=.keeping) (n4:Jh a.c<=a.from_.length+1) (n6:1<=a.c.k/\a.c.k<=a.c.n/\a.c.n<=12) (v1:a.L.length<=1000) (v2:x.1.L.length<=1000) (t6:x.2.2.1=x.1.L.length) (n7:x.2.1=none->x.1.L=[]/\x.2.2.2=0) (n8:∀ W:World,w.heap.size<=W.heap.size->(∀ k,k < w.heap.size->¬ S k->W.heap[k]?=w.heap[k]?)->Ql Ze W x.2.1 x.1.L):Calls prog 20 #[.pointer (some ⟨ab,0,none⟩),.agg #[.string x.1.from_,.string x.1.aP,.string x.1.kind,.string x.1.key,.int .i64 x.1.op,.int .i64 x.1.config,.bool x.1.shut,.slice x.2.1 x.2.2.1 x.2.2.2]] w fun e w'=>e=.returned (.slice none 0 0)/\∃ S' n9 o0 o1,Qa w' B S' ab { a.heard x.1 with st:=.done } mv nv n9 o0 o1/\Yd S S' w w':=by
 obtain ⟨i0,o2,o3,o4,o5⟩:=info_parts (P:=prog) (e:=9) (z:=.string ⟨#[]⟩) (size:=1) (bytes:=16) (by kernel_rfl)
 obtain ⟨j0,o6,o7,o9,p0⟩:=info_parts VU
 obtain ⟨mp,G,p1,f8,t7,p2,p4⟩:=h.mem.at_
 obtain ⟨O,Y,p5,f9,t8,p7,_⟩:=h.from_.form
 have p9:Hid (Qa w B S ab a mv nv fv lv vs):=h
 subst p1 p5
 obtain ⟨⟨m1,m2,m3,m4,m5,m6,m7,D⟩,Z,ln,lc⟩:=x
 dsimp only at *
 subst t4
 subst t6
 obtain ⟨j,a0⟩:∃ j,j=w.alloc (.cells #[.string m1,.string m2,.string m3,.string m4,.int .i64 m5,.int .i64 m6,.bool false,.slice Z D.length lc] 59):=⟨_,rfl⟩
 have a9:Below w.heap.size w j:=by rw [a0];exact (Below.refl _ _).alloc (Nat.le_refl _) _
 have a1:=h.below a9
 have g8:=U1 a1
 have c0:j.cell? ⟨ab,0,none⟩=some (.string a.name):=a1.cell 0
 have c1:j.cell? ⟨ab,1,none⟩=some (.string a.key):=a1.cell 1
 have c3:j.cell? ⟨ab,3,none⟩=some (.int .i64 a.op):=a1.cell 3
 have c4:j.cell? ⟨ab,4,none⟩=some (.int .i64 a.config):=a1.cell 4
 have c7:j.cell? ⟨ab,7,none⟩=some (.slice mp a.c.L.length G):=a1.cell 7
 have b2:j.cell? ⟨ab,14,none⟩=some (.slice O a.from_.length Y):=a1.cell 14
 have d0:j.cell? ⟨w.heap.size,0,none⟩=some (.string m1):=by rw [a0,World.cell?_alloc_at _ _ _ _ rfl];rfl
 have d1:j.cell? ⟨w.heap.size,1,none⟩=some (.string m2):=by rw [a0,World.cell?_alloc_at _ _ _ _ rfl];rfl
 have d2:j.cell? ⟨w.heap.size,2,none⟩=some (.string m3):=by rw [a0,World.cell?_alloc_at _ _ _ _ rfl];rfl
 have d3:j.cell? ⟨w.heap.size,3,none⟩=some (.string m4):=by rw [a0,World.cell?_alloc_at _ _ _ _ rfl];rfl
 have d4:j.cell? ⟨w.heap.size,4,none⟩=some (.int .i64 m5):=by rw [a0,World.cell?_alloc_at _ _ _ _ rfl];rfl
 have d5:j.cell? ⟨w.heap.size,5,none⟩=some (.int .i64 m6):=by rw [a0,World.cell?_alloc_at _ _ _ _ rfl];rfl
 have g9:Hid (∀ W,Below j.heap.size j W->Strs W mp a.c.L):=fun W hW=>(f8.below a9).below hW
 have h1:Hid (∀ W,Below j.heap.size j W->Strs W O a.from_):=fun W hW=>(f9.below a9).below hW
 have q0:Hid (j=w.alloc (.cells #[.string m1,.string m2,.string m3,.string m4,.int .i64 m5,.int .i64 m6,.bool false,.slice Z D.length lc] 59)):=a0
 have h2:Hid (Below w.heap.size w j):=a9
 have d6:j.cell? ⟨w.heap.size,6,none⟩=some (.bool false):=by rw [a0,World.cell?_alloc_at _ _ _ _ rfl];rfl
 have d7:j.cell? ⟨w.heap.size,7,none⟩=some (.slice Z D.length lc):=by rw [a0,World.cell?_alloc_at _ _ _ _ rfl];rfl
 have t9:j.heap.size=w.heap.size+1:=by rw [a0];simp
 have q4:Hid (Qa j B S ab a (.slice mp a.c.L.length G) nv (.slice O a.from_.length Y) lv vs):=a1
 have h3:Hid (∀ W:World,w.heap.size<=W.heap.size->(∀ k,k < w.heap.size->¬ S k->W.heap[k]?=w.heap[k]?)->Ql Ze W Z D):=n8
 have q5:Hid (Z=none->D=[]/\lc=0):=n7
 have e5:Hid (Jh a.c<=a.from_.length+1):=n4
 have q6:Hid (a.st.word=⟨#[107,101,101,112,105,110,103]⟩):=by show _=_;rw [t5];rfl
 have h4:Hid (1<=a.c.k/\a.c.k<=a.c.n/\a.c.n<=12):=n6
 obtain ⟨g0,g1,g2,g3,g4,g5,g6,g7⟩:a.st.waits≠⟨#[]⟩/\m3=a.st.waits/\m2=a.name/\m4=a.key/\m5=a.op/\m6=a.config/\m1 ∈ a.c.L/\m1 ∉ a.from_:=by
  unfold Za.aM at e4
  rw [Bool.and_eq_true,Bool.and_eq_true] at e4
  obtain ⟨q1,q2,q3⟩:=e4
  have a6:=of_decide_eq_true q1
  exact ⟨a6.1,a6.2.1,a6.2.2.1,a6.2.2.2.1,a6.2.2.2.2.1,a6.2.2.2.2.2,Zl.1 q2,fun hm=>by rw [Zl.2 hm] at q3;cases q3⟩
 have h5:Hid (∀ W,Below j.heap.size j W->Calls prog 46 #[.slice mp a.c.L.length G,.string m1] W fun e w'=>e=.returned (.int .i64 ((ZJ a.c.L m1:Nat):Int))/\w'=W):=fun W hW=>ML mp a.c.L G m1 W (by omega) (g9.out W hW) g6
 have h6:Hid (∀ W,Below j.heap.size j W->Calls prog 46 #[.slice O a.from_.length Y,.string m1] W fun e w'=>e=.returned (.int .i64 (-1))/\w'=W):=fun W hW=>O5 O a.from_ Y m1 W (by omega) (h1.out W hW) g7
 clear h f8 p4 f9 p7 p2 a9 a0 a1 e4 g9 h1 n8 n7 n4 n6 g6 g7
 generalize ZJ a.c.L m1=j1 at *
 have n1:decide ((j1:Int) < 0)=false:=decide_eq_false (by omega)
 have t0:=XT g0
 have u0:=YT g0
 have v0:=Y8 g0
 have e0:(⟨#[]⟩:ByteArray).toList=[]:=by decide +kernel
 rw [e0] at t0 u0
 subst g1 g2 g3 g4 g5
 generalize a.st.waits=wt at *
 clear g0
 go_enter func20,ntmps20
 go_wp2_with (first | rw [<- q0.out] | fail)
 refine g8.mono ?_
 rintro e w2 ⟨rfl,h7⟩
 rw [h7]
 clear h7 w2 g8
 go_wp2
 go_quiet (fail)
 generalize a4:World.drewN j _=wq
 have q7:wq.cell? ⟨ab,7,none⟩=some (.slice mp a.c.L.length G):=by rw [<- a4];exact c7
 have h8:wq.cell? ⟨ab,14,none⟩=some (.slice O a.from_.length Y):=by rw [<- a4];exact b2
 have h9:wq.cell? ⟨w.heap.size,0,none⟩=some (.string m1):=by rw [<- a4];exact d0
 have i1:wq.cell? ⟨w.heap.size,6,none⟩=some (.bool false):=by rw [<- a4];exact d6
 have i2:wq.cell? ⟨w.heap.size,7,none⟩=some (.slice Z D.length lc):=by rw [<- a4];exact d7
 have b3:Below j.heap.size j wq:=by rw [<- a4];exact below_drewN (Below.refl _ _) _
 clear a4 c0 c1 c3 c4 c7 b2 d0 d1 d2 d3 d4 d5 d6 d7
 go_wp2
 go_quiet (first | (go_at_call 46;with_reducible exact Calls.quiet_of_same (h5.out _ (below_drewN b3 _))) | (go_at_call 46;with_reducible exact Calls.quiet_of_same (h6.out _ (below_drewN b3 _))))
 generalize a7:World.drewN wq _=wr
 have r0:wr.cell? ⟨ab,14,none⟩=some (.slice O a.from_.length Y):=by rw [<- a7];exact h8
 have i3:wr.cell? ⟨w.heap.size,0,none⟩=some (.string m1):=by rw [<- a7];exact h9
 have r1:wr.cell? ⟨w.heap.size,6,none⟩=some (.bool false):=by rw [<- a7];exact i1
 have i4:wr.cell? ⟨w.heap.size,7,none⟩=some (.slice Z D.length lc):=by rw [<- a7];exact i2
 have i5:Below j.heap.size j wr:=by rw [<- a7];exact below_drewN b3 _
 have e6:Hid (Below j.heap.size j wr):=i5
 clear a7 q7 h8 h9 i1 i2 b3 i5 h5 h6 n1 t0 u0 v0 e0
 go_wp2
 have b4:Below wr.heap.size wr (wr.alloc (.cells #[.string m1] 9)):=(Below.refl _ _).alloc (Nat.le_refl _) _
 have i7:=e6.out.size
 have b5:Hid (Below j.heap.size j ((wr.alloc (.cells #[.string m1] 9)).drew)):=(e6.out.trans (b4.mono i7)).drew
 have a2:Hid (Qa ((wr.alloc (.cells #[.string m1] 9)).drew) B S ab a (.slice mp a.c.L.length G) nv (.slice O a.from_.length Y) lv vs):=q4.out.below b5.out
 have r2:(wr.alloc (.cells #[.string m1] 9)).cell? ⟨ab,14,none⟩=some (.slice O a.from_.length Y):=a2.out.cell 14
 have r3:(wr.alloc (.cells #[.string m1] 9)).cell? ⟨w.heap.size,0,none⟩=some (.string m1):=(b4.cell (p:=⟨w.heap.size,0,none⟩) (by show w.heap.size < wr.heap.size;omega)).trans i3
 have i8:(wr.alloc (.cells #[.string m1] 9)).cell? ⟨w.heap.size,7,none⟩=some (.slice Z D.length lc):=(b4.cell (p:=⟨w.heap.size,7,none⟩) (by show w.heap.size < wr.heap.size;omega)).trans i4
 have i9:Hid ((wr.alloc (.cells #[.string m1] 9)).cell? ⟨wr.heap.size,0,none⟩=some (.string m1)):=by show _=_;rw [World.cell?_alloc_at _ _ _ _ rfl];rfl
 have j2:Hid (((wr.alloc (.cells #[.string m1] 9)).drew).cell? ⟨w.heap.size,7,none⟩=some (.slice Z D.length lc)):=i8
 clear b4 i8 i4 r1
 have j3:Hid (∀ v J,JM J B 9 v (a.from_.map Value.string ++ [.string m1])->((wr.alloc (.cells #[.string m1] 9)).drew).grownBy J (Value.slice O a.from_.length Y).ownBlock->(v.ownBlock=(Value.slice O a.from_.length Y).ownBlock∨v.ownBlock=some ((wr.alloc (.cells #[.string m1] 9)).drew).heap.size)->∃ y c3,v=.slice y (a.from_.length+1) c3/\Qa (J.setCell ⟨ab,14,none⟩ (.slice y (a.from_.length+1) c3)) B (fun k=>S k∨(Value.slice y (a.from_.length+1) c3).ownBlock=some k) ab { a with from_:=a.from_ ++ [m1] } (.slice mp a.c.L.length G) nv (.slice y (a.from_.length+1) c3) lv vs/\Yd S (fun k=>S k∨(Value.slice y (a.from_.length+1) c3).ownBlock=some k) w (J.setCell ⟨ab,14,none⟩ (.slice y (a.from_.length+1) c3))/\J.frozen? ⟨ab,14,none⟩=false/\J.cell? ⟨ab,14,none⟩=some (.slice O a.from_.length Y)/\(J.setCell ⟨ab,14,none⟩ (.slice y (a.from_.length+1) c3)).cell? ⟨w.heap.size,7,none⟩=some (.slice Z D.length lc)):=fun v J b6 b0 b7=>by
  have j5:Zq J B v (a.from_ ++ [m1]):=by unfold Zq;rw [List.map_append];exact b6
  obtain ⟨y,c3,j6,_⟩:=j5.form
  rw [List.length_append,List.length_singleton] at j6
  subst j6
  have HF:=a2.out.from j5 b0 b7
  have j8:=(b0.block ab (a2.out.aO ab a2.out.self).2 (fun e=>(a2.out.sF ab e.symm).2 rfl)).trans a2.out.eK
  have r4:Below w.heap.size w ((wr.alloc (.cells #[.string m1] 9)).drew):=h2.out.trans (b5.out.mono h2.out.size)
  have r5:¬ S w.heap.size:=fun hs=>by have:=(p9.out.aO _ hs).2;omega
  exact ⟨y,c3,rfl,HF.1,(Yd.aJ r4).trans HF.2,by simp [World.frozen?,j8],by simp [World.cell?,j8,Jy],(World.cell?_of_block (a:=⟨w.heap.size,7,none⟩) (HF.2.block w.heap.size (by have:=b5.out.size;omega) r5)).trans j2.out⟩
 clear j2
 go_cut [6] from 93 to 100 (fun v J=>∃ y c3,v=.slice y (a.from_.length+1) c3/\Qa (J.setCell ⟨ab,14,none⟩ (.slice y (a.from_.length+1) c3)) B (fun k=>S k∨(Value.slice y (a.from_.length+1) c3).ownBlock=some k) ab { a with from_:=a.from_ ++ [m1] } (.slice mp a.c.L.length G) nv (.slice y (a.from_.length+1) c3) lv vs/\Yd S (fun k=>S k∨(Value.slice y (a.from_.length+1) c3).ownBlock=some k) w (J.setCell ⟨ab,14,none⟩ (.slice y (a.from_.length+1) c3))/\J.frozen? ⟨ab,14,none⟩=false/\J.cell? ⟨ab,14,none⟩=some (.slice O a.from_.length Y)/\(J.setCell ⟨ab,14,none⟩ (.slice y (a.from_.length+1) c3)).cell? ⟨w.heap.size,7,none⟩=some (.slice Z D.length lc))
 case first =>
  go_region_law (refine X2 rfl (.tmp 96) (.tmp 99) 22 rfl B 9 i0 (.string ⟨#[]⟩) 16 underlying22 o2 o3 rfl o4 o5 (by decide) (.slice O a.from_.length Y) (a.from_.map Value.string) (by simp [Act.eval]) a2.out.from_ ⟨wr.heap.size,0,none⟩ 1 (.string m1) rfl (by simp [Act.eval]) i9.out (by rw [List.length_map];omega) a2.out.vP ?_;intro v3 J b6 b0 b7;have r6:Hid _:=j3.out v3 J b6 b0 b7;clear b6 b0 b7)
  all_goals (go_wp2_with fail;go_meet)
  all_goals exact r6.out
 case rest =>
  obtain ⟨y,c3,rfl,e7,e8,r7,b2,k0⟩:=hcut
  clear j3 i9 r2 r3 r0 i3 b5 a2 e6 i7
  obtain ⟨Q,e9⟩:∃ Q,Q=wc.setCell ⟨ab,14,none⟩ (.slice y (a.from_.length+1) c3):=⟨_,rfl⟩
  rw [<- e9] at e7 e8 k0
  have k1:Hid (Q=wc.setCell ⟨ab,14,none⟩ (.slice y (a.from_.length+1) c3)):=e9
  have d8:Hid (Qa Q B (fun k=>S k∨(Value.slice y (a.from_.length+1) c3).ownBlock=some k) ab { a with from_:=a.from_ ++ [m1] } (.slice mp a.c.L.length G) nv (.slice y (a.from_.length+1) c3) lv vs):=e7
  have d9:Hid (Yd S (fun k=>S k∨(Value.slice y (a.from_.length+1) c3).ownBlock=some k) w Q):=e8
  clear e9 e7 e8
  go_wp2
  rw [<- k1.out]
  have s1:Q.cell? ⟨ab,15,none⟩=some lv:=d8.out.cell 15
  have e1:Hid (Qa Q.drew B (fun k=>S k∨(Value.slice y (a.from_.length+1) c3).ownBlock=some k) ab { a with from_:=a.from_ ++ [m1] } (.slice mp a.c.L.length G) nv (.slice y (a.from_.length+1) c3) lv vs):=d8.out.below (Below.refl _ _).drew
  have k2:Hid (Ql Ze Q.drew Z D):=h3.out _ d9.out.size (fun k hk hs=>d9.out.block k hk hs)
  have k3:Hid (∀ v6 K,Zc Ze 76 K Q.heap.size v6 ([] ++ D)->Below Q.heap.size Q.drew K->∃ M c6,v6=.slice M D.length c6/\K.cell? ⟨ab,15,none⟩=some lv/\(K.alloc (.cells #[.slice M D.length c6] 55)).cell? ⟨ab,15,none⟩=some lv/\JM (K.alloc (.cells #[.slice M D.length c6] 55)) B 55 lv vs/\B<=(K.alloc (.cells #[.slice M D.length c6] 55)).heap.size/\(∀ v U,JM U B 55 v (vs ++ [.slice M D.length c6])->(K.alloc (.cells #[.slice M D.length c6] 55)).grownBy U lv.ownBlock->(v.ownBlock=lv.ownBlock∨v.ownBlock=some (K.alloc (.cells #[.slice M D.length c6] 55)).heap.size)->∃ N c8 X a3,v=.slice N (a.L.length+1) c8/\Qa (U.setCell ⟨ab,15,none⟩ (.slice N (a.L.length+1) c8)) B X ab (a.heard ⟨m1,a.name,wt,a.key,a.op,a.config,false,D⟩) (.slice mp a.c.L.length G) nv (.slice y (a.from_.length+1) c3) (.slice N (a.L.length+1) c8) a3/\Yd S X w (U.setCell ⟨ab,15,none⟩ (.slice N (a.L.length+1) c8))/\U.frozen? ⟨ab,15,none⟩=false/\U.cell? ⟨ab,15,none⟩=some lv)):=fun v6 K a8 e2=>by
   rw [List.nil_append] at a8
   obtain ⟨M,c6,rfl,_⟩:=a8.form
   have k4:Below Q.drew.heap.size Q.drew K:=e2
   have k5:=e1.out.below k4
   have a5:=k5.below ((Below.refl _ _).alloc (Nat.le_refl _) (.cells #[.slice M D.length c6] 55))
   refine ⟨M,c6,rfl,k5.cell 15,a5.cell 15,a5.told.1,a5.vP,fun v U hv hg e3=>?_⟩
   have HF:=e1.out.list (r:=.slice M D.length c6) (row:=D) a8 k4 hv hg e3
   have s2:=a5.aO ab a5.self
   have k6:=(hg.block ab s2.2 (fun e=>(a5.sL ab e.symm).2.1 rfl)).trans a5.eK
   have s3:vs.length=a.L.length:=e1.out.told.2.1
   rcases hv.cells with ⟨_,h0⟩ | ⟨g,u1,k7,_⟩
   ·exact absurd h0 (by simp)
   rw [List.length_append,List.length_singleton,s3] at k7
   subst k7
   exact ⟨_,_,_,_,rfl,HF.1,((d9.out.trans (Yd.aJ (Below.refl _ _).drew)).trans HF.2),by simp [World.frozen?,k6],by simp [World.cell?,k6,Jy]⟩
  have s4:Hid (vs.length=a.L.length):=d8.out.told.2.1
  go_cut [8] from 105 to 114 (fun v U=>∃ N c8 X a3,v=.slice N (a.L.length+1) c8/\Qa (U.setCell ⟨ab,15,none⟩ (.slice N (a.L.length+1) c8)) B X ab (a.heard ⟨m1,a.name,wt,a.key,a.op,a.config,false,D⟩) (.slice mp a.c.L.length G) nv (.slice y (a.from_.length+1) c3) (.slice N (a.L.length+1) c8) a3/\Yd S X w (U.setCell ⟨ab,15,none⟩ (.slice N (a.L.length+1) c8))/\U.frozen? ⟨ab,15,none⟩=false/\U.cell? ⟨ab,15,none⟩=some lv)
  case first =>
   go_region_law (first | (refine Jak (E:=Ze) rfl (.tmp 109) (.tmp 111) 55 76 rfl (.agg #[.int .i64 0,.int .i64 0,.int .i64 0,.int .i64 0,.string ⟨#[]⟩]) 48 underlying55 qS rfl Q.heap.size (.slice none 0 0) [] (by simp [Act.eval]) (Zc.nil _ _ _) Z D lc (by simp [Act.eval]) k2.out q5.out (by unfold maxLen;simp;omega) (by simp;omega) (Nat.le_refl _) ?_;intro v6 K a8 e2;obtain ⟨M,c6,s5,u2,u3,l0,l1,l2⟩:=k3.out v6 K a8 e2;subst s5;have l3:Hid (JM (K.alloc (.cells #[.slice M D.length c6] 55)) B 55 lv vs):=l0;have l7:Hid (B<=(K.alloc (.cells #[.slice M D.length c6] 55)).heap.size):=l1;have l8:Hid _:=l2;clear a8 e2 l0 l1 l2) | (refine X2 rfl (.tmp 108) (.tmp 113) 44 rfl B 55 j0 (.slice none 0 0) 24 underlying44 o6 o7 rfl o9 p0 (by decide) lv vs (by simp [Act.eval]) l3.out ⟨K.heap.size,0,none⟩ 1 (.slice M D.length c6) rfl (by simp [Act.eval]) (by rw [World.cell?_alloc_at _ _ _ _ rfl];rfl) (by have:=s4.out;omega) l7.out ?_;intro v8 U l9 m0 e3;have s6:Hid _:=l8.out v8 U l9 m0 e3;clear l9 m0 e3 l8 l3 l7))
   all_goals (go_wp2_with fail;go_meet)
   all_goals exact s6.out
  case rest =>
   obtain ⟨N,c8,X,a3,rfl,f3,f4,s7,s8⟩:=hcut
   clear k3 k2 h3 e1 d8 d9 k1 s1 k0 r7 b2
   obtain ⟨I,f5⟩:∃ I,I=wc.setCell ⟨ab,15,none⟩ (.slice N (a.L.length+1) c8):=⟨_,rfl⟩
   rw [<- f5] at f3 f4
   have m8:Hid (I=wc.setCell ⟨ab,15,none⟩ (.slice N (a.L.length+1) c8)):=f5
   have m9:Hid (Qa I B X ab (a.heard ⟨m1,a.name,wt,a.key,a.op,a.config,false,D⟩) (.slice mp a.c.L.length G) nv (.slice y (a.from_.length+1) c3) (.slice N (a.L.length+1) c8) a3):=f3
   have s9:Hid (Yd S X w I):=f4
   have f6:Hid (∀ W,Below I.heap.size I W->(W.cell? ⟨ab,14,none⟩=some (.slice y (a.from_.length+1) c3)/\W.cell? ⟨ab,5,none⟩=some (.int .i64 a.c.n)/\W.cell? ⟨ab,6,none⟩=some (.int .i64 a.c.k)/\W.cell? ⟨ab,7,none⟩=some (.slice mp a.c.L.length G)/\Below I.heap.size I W)):=fun W hW=>by
    have hq:=m9.out.below hW
    exact ⟨hq.cell 14,hq.cell 5,hq.cell 6,hq.cell 7,hW⟩
   have n0:Hid (∀ W,(W.cell? ⟨ab,14,none⟩=some (.slice y (a.from_.length+1) c3)/\W.cell? ⟨ab,5,none⟩=some (.int .i64 a.c.n)/\W.cell? ⟨ab,6,none⟩=some (.int .i64 a.c.k)/\W.cell? ⟨ab,7,none⟩=some (.slice mp a.c.L.length G)/\Below I.heap.size I W)->Calls prog 47 #[.agg #[.int .i64 a.c.n,.int .i64 a.c.k,(.slice mp a.c.L.length G)]] W fun e w'=>e=.returned (.int .i64 ((Jh a.c:Nat):Int))/\(w'.cell? ⟨ab,14,none⟩=some (.slice y (a.from_.length+1) c3)/\w'.cell? ⟨ab,5,none⟩=some (.int .i64 a.c.n)/\w'.cell? ⟨ab,6,none⟩=some (.int .i64 a.c.k)/\w'.cell? ⟨ab,7,none⟩=some (.slice mp a.c.L.length G)/\Below I.heap.size I w')):=fun W hW=>(Jau a.c (.slice mp a.c.L.length G) ⟨_,_,_,rfl⟩ W h4.out).mono fun e w' hp=>⟨hp.1,f6.out w' (hW.2.2.2.2.trans (hp.2.mono hW.2.2.2.2.size))⟩
   have t1:decide (((a.from_.length+1:Nat):Int) < ((Jh a.c:Nat):Int))=false:=decide_eq_false (by have:=e5.out;omega)
   have t2:Hid (¬ ((a.from_.length+1:Nat):Int) < ((Jh a.c:Nat):Int)):=by show ¬ _ < _;have:=e5.out;omega
   generalize Jh a.c=en at *
   clear f5 f3 f4 h4 e5
   go_wp2
   rw [<- m8.out]
   go_cut [129] from 119 to 129 (fun v W=>v=.bool false/\Below I.heap.size I W)
   case first =>
    go_region_held3 (fun W=>(W.cell? ⟨ab,14,none⟩=some (.slice y (a.from_.length+1) c3)/\W.cell? ⟨ab,5,none⟩=some (.int .i64 a.c.n)/\W.cell? ⟨ab,6,none⟩=some (.int .i64 a.c.k)/\W.cell? ⟨ab,7,none⟩=some (.slice mp a.c.L.length G)/\Below I.heap.size I W)) (first | assumption | exact f6.out _ (Below.refl _ _).drew) (first | (go_at_call 47;refine (n0.out _ (by assumption)).mono ?_;rintro e u6 ⟨rfl,t3⟩))
    all_goals (go_wp2_with fail;go_meet)
    all_goals exact ⟨by first | rfl | (rw [t1]) | simpa using t2.out,(by first | assumption | exact hSs.2.2.2.2 | exact t3.2.2.2.2)⟩
   case rest =>
    obtain ⟨rfl,n2⟩:=hcut
    have n3:Hid (Below I.heap.size I wc):=n2
    clear n2 n0 f6 m8 s7 s8
    have b1:Hid (Qa wc B X ab (a.heard ⟨m1,a.name,wt,a.key,a.op,a.config,false,D⟩) (.slice mp a.c.L.length G) nv (.slice y (a.from_.length+1) c3) (.slice N (a.L.length+1) c8) a3):=m9.out.below n3.out
    have u7:wc.cell? ⟨ab,13,none⟩=some (.string ⟨#[107,101,101,112,105,110,103]⟩):=by rw [<- q6.out];exact b1.out.cell 13
    have u8:wc.frozen? ⟨ab,13,none⟩=false:=b1.out.free 13
    have f7:Hid (Qa (wc.setCell ⟨ab,13,none⟩ (.string ⟨#[100,111,110,101]⟩)) B X ab { a.heard ⟨m1,a.name,wt,a.key,a.op,a.config,false,D⟩ with st:=.done } (.slice mp a.c.L.length G) nv (.slice y (a.from_.length+1) c3) (.slice N (a.L.length+1) c8) a3/\Yd S X w (wc.setCell ⟨ab,13,none⟩ (.string ⟨#[100,111,110,101]⟩))):=by
     have hU:=s9.out.trans (Yd.aJ n3.out)
     refine ⟨b1.out.set 13 _ rfl rfl rfl rfl rfl rfl rfl,hU.trans (S1:=X) ⟨rfl,rfl,rfl,by simp [World.setCell],fun k hk hs=>Below.heap_setCell wc _ _ k (fun e=>hs (by rw [e];exact b1.out.self)),fun k hk=>Or.inl hk⟩⟩
    clear b1
    go_wp2
    go_ret
    first | exact ⟨rfl,X,_,_,a3,f7.out⟩ | exact ⟨rfl,X,⟨_,_,a3,f7.out.1⟩,f7.out.2⟩
end
section
variable {w w':World} {B:Nat} {S:Nat->Prop} {ab:Nat} {a:Za} {mv nv fv lv:Value} {vs:List Value}
theorem Jcr (h:Qa w B S ab a mv nv fv lv vs) (x:Zb×Lv) (hl:a.c.L.length<=1000) (h0:a.from_.length<=1000) (a0:a.aM x.1=true) (e9:x.1.shut=true) (a1:a.st≠.sealing):Calls prog 20 #[.pointer (some ⟨ab,0,none⟩),.agg #[.string x.1.from_,.string x.1.aP,.string x.1.kind,.string x.1.key,.int .i64 x.1.op,.int .i64 x.1.config,.bool x.1.shut,.slice x.2.1 x.2.2.1 x.2.2.2]] w fun e w'=>e=.returned (.slice none 0 0)/\Qa w' B S ab { a with st:=.refused } mv nv fv lv vs/\Yd S S w w':=by
 obtain ⟨mp,O,b5,a2,f3,b6,b7⟩:=h.mem.at_
 obtain ⟨M,Q,d7,a3,f4,d8,_⟩:=h.from_.form
 have a4:Hid (Qa w B S ab a mv nv fv lv vs):=h
 subst b5 d7
 obtain ⟨⟨m1,m2,m3,Z,m5,m6,m7,mL⟩,lp,ln,lc⟩:=x
 dsimp only at *
 subst e9
 obtain ⟨j,D⟩:∃ j,j=w.alloc (.cells #[.string m1,.string m2,.string m3,.string Z,.int .i64 m5,.int .i64 m6,.bool true,.slice lp ln lc] 59):=⟨_,rfl⟩
 have K:Below w.heap.size w j:=by rw [D];exact (Below.refl _ _).alloc (Nat.le_refl _) _
 have y:=h.below K
 have a5:=U1 y
 have c0:j.cell? ⟨ab,0,none⟩=some (.string a.name):=y.cell 0
 have c1:j.cell? ⟨ab,1,none⟩=some (.string a.key):=y.cell 1
 have c3:j.cell? ⟨ab,3,none⟩=some (.int .i64 a.op):=y.cell 3
 have c4:j.cell? ⟨ab,4,none⟩=some (.int .i64 a.config):=y.cell 4
 have c7:j.cell? ⟨ab,7,none⟩=some (.slice mp a.c.L.length O):=y.cell 7
 have a6:j.cell? ⟨ab,14,none⟩=some (.slice M a.from_.length Q):=y.cell 14
 have d0:j.cell? ⟨w.heap.size,0,none⟩=some (.string m1):=by rw [D,World.cell?_alloc_at _ _ _ _ rfl];rfl
 have d1:j.cell? ⟨w.heap.size,1,none⟩=some (.string m2):=by rw [D,World.cell?_alloc_at _ _ _ _ rfl];rfl
 have d2:j.cell? ⟨w.heap.size,2,none⟩=some (.string m3):=by rw [D,World.cell?_alloc_at _ _ _ _ rfl];rfl
 have d3:j.cell? ⟨w.heap.size,3,none⟩=some (.string Z):=by rw [D,World.cell?_alloc_at _ _ _ _ rfl];rfl
 have d4:j.cell? ⟨w.heap.size,4,none⟩=some (.int .i64 m5):=by rw [D,World.cell?_alloc_at _ _ _ _ rfl];rfl
 have d5:j.cell? ⟨w.heap.size,5,none⟩=some (.int .i64 m6):=by rw [D,World.cell?_alloc_at _ _ _ _ rfl];rfl
 have a7:Hid (∀ W,Below j.heap.size j W->Strs W mp a.c.L):=fun W G=>(a2.below K).below G
 have a8:Hid (∀ W,Below j.heap.size j W->Strs W M a.from_):=fun W G=>(a3.below K).below G
 have d9:Hid (j=w.alloc (.cells #[.string m1,.string m2,.string m3,.string Z,.int .i64 m5,.int .i64 m6,.bool true,.slice lp ln lc] 59)):=D
 have f5:Hid (Below w.heap.size w j):=K
 have d6:j.cell? ⟨w.heap.size,6,none⟩=some (.bool true):=by rw [D,World.cell?_alloc_at _ _ _ _ rfl];rfl
 have a9:j.cell? ⟨ab,13,none⟩=some (.string a.st.word):=y.cell 13
 have b0:j.frozen? ⟨ab,13,none⟩=false:=y.free 13
 have f6:¬ a.st.word.toList=[115,101,97,108,105,110,103]:=by cases hq:a.st <;> first | exact absurd hq a1 | decide +kernel
 have f7:(a.st.word.toList==[115,101,97,108,105,110,103])=false:=by cases hq:a.st <;> first | exact absurd hq a1 | decide +kernel
 have e1:Hid (∀ W,Below j.heap.size j W->Qa (W.setCell ⟨ab,13,none⟩ (.string ⟨#[114,101,102,117,115,101,100]⟩)) B S ab { a with st:=.refused } (.slice mp a.c.L.length O) nv (.slice M a.from_.length Q) lv vs/\Yd S S w (W.setCell ⟨ab,13,none⟩ (.string ⟨#[114,101,102,117,115,101,100]⟩))):=fun W G=>by
  have e2:=y.below G
  have U:Below w.heap.size w W:=K.trans (G.mono K.size)
  refine ⟨e2.set 13 _ rfl rfl rfl rfl rfl rfl rfl,⟨U.os,U.tape,U.output,by simpa [World.setCell] using U.size,fun k hk hs=>?_,fun k hk=>Or.inl hk⟩⟩
  exact (Below.heap_setCell W _ _ k (fun e=>hs (by rw [e];exact a4.out.self))).trans (U.block k hk)
 obtain ⟨g0,g1,g2,g3,g4,g5,g6,g7⟩:a.st.waits≠⟨#[]⟩/\m3=a.st.waits/\m2=a.name/\Z=a.key/\m5=a.op/\m6=a.config/\m1 ∈ a.c.L/\m1 ∉ a.from_:=by
  unfold Za.aM at a0
  rw [Bool.and_eq_true,Bool.and_eq_true] at a0
  obtain ⟨q1,q2,q3⟩:=a0
  have N:=of_decide_eq_true q1
  exact ⟨N.1,N.2.1,N.2.2.1,N.2.2.2.1,N.2.2.2.2.1,N.2.2.2.2.2,Zl.1 q2,fun hm=>by rw [Zl.2 hm] at q3;cases q3⟩
 have e3:Hid (∀ W,Below j.heap.size j W->Calls prog 46 #[.slice mp a.c.L.length O,.string m1] W fun e w'=>e=.returned (.int .i64 ((ZJ a.c.L m1:Nat):Int))/\w'=W):=fun W G=>ML mp a.c.L O m1 W (by omega) (a7.out W G) g6
 have e4:Hid (∀ W,Below j.heap.size j W->Calls prog 46 #[.slice M a.from_.length Q,.string m1] W fun e w'=>e=.returned (.int .i64 (-1))/\w'=W):=fun W G=>O5 M a.from_ Q m1 W (by omega) (a8.out W G) g7
 clear h a2 b7 a3 d8 b6 K D y a0 a1 a4 g6 g7 a7 a8
 generalize ZJ a.c.L m1=j1 at *
 have n1:decide ((j1:Int) < 0)=false:=decide_eq_false (by omega)
 have t0:=XT g0
 have u0:=YT g0
 have v0:=Y8 g0
 have e0:(⟨#[]⟩:ByteArray).toList=[]:=by decide +kernel
 rw [e0] at t0 u0
 subst g1 g2 g3 g4 g5
 generalize a.st.waits=wt at *
 generalize a.st.word=sw at *
 clear g0
 go_enter func20,ntmps20
 go_wp2_with (first | rw [<- d9.out] | fail)
 refine a5.mono ?_
 rintro e w2 ⟨rfl,b1⟩
 rw [b1]
 clear b1 w2 a5
 go_wp2
 go_quiet (fail)
 generalize J:World.drewN j _=I
 have e5:I.cell? ⟨ab,7,none⟩=some (.slice mp a.c.L.length O):=by rw [<- J];exact c7
 have b2:I.cell? ⟨ab,13,none⟩=some (.string sw):=by rw [<- J];exact a9
 have e6:I.cell? ⟨ab,14,none⟩=some (.slice M a.from_.length Q):=by rw [<- J];exact a6
 have e7:I.cell? ⟨w.heap.size,0,none⟩=some (.string m1):=by rw [<- J];exact d0
 have b3:I.cell? ⟨w.heap.size,6,none⟩=some (.bool true):=by rw [<- J];exact d6
 have X:Below j.heap.size j I:=by rw [<- J];exact below_drewN (Below.refl _ _) _
 have f8:Hid (Below j.heap.size j I):=X
 have b4:I.frozen? ⟨ab,13,none⟩=false:=by rw [<- J];exact b0
 clear J c0 c1 c3 c4 c7 a9 a6 d0 d1 d2 d3 d4 d5 d6 b0
 go_wp2
 go_quiet (first | (go_at_call 46;with_reducible exact Calls.quiet_of_same (e3.out _ (below_drewN X _))) | (go_at_call 46;with_reducible exact Calls.quiet_of_same (e4.out _ (below_drewN X _))))
 generalize Y:World.drewN I _=wr
 have f9:wr.cell? ⟨ab,13,none⟩=some (.string sw):=by rw [<- Y];exact b2
 have g8:wr.cell? ⟨w.heap.size,6,none⟩=some (.bool true):=by rw [<- Y];exact b3
 have g9:wr.frozen? ⟨ab,13,none⟩=false:=by rw [<- Y];exact b4
 have e8:Hid (Below j.heap.size j wr):=by rw [<- Y];exact below_drewN X _
 clear Y e5 b2 e6 e7 b3 b4 X
 go_wp2
 go_ret
 exact ⟨rfl,e1.out wr e8.out⟩
end
section
variable {w w':World} {B:Nat} {S:Nat->Prop} {ab:Nat} {a:Za} {mv nv fv lv:Value} {vs:List Value}
theorem Jd7 (h:Qa w B S ab a mv nv fv lv vs) (x:Zb×Lv) (hl:a.c.L.length<=1000) (e6:a.from_.length<=1000) (a0:a.aM x.1=false):Calls prog 20 #[.pointer (some ⟨ab,0,none⟩),.agg #[.string x.1.from_,.string x.1.aP,.string x.1.kind,.string x.1.key,.int .i64 x.1.op,.int .i64 x.1.config,.bool x.1.shut,.slice x.2.1 x.2.2.1 x.2.2.2]] w fun e w'=>e=.returned (.slice none 0 0)/\Below w.heap.size w w':=by
 obtain ⟨mp,Z,b6,b0,e4,b7,d6⟩:=h.mem.at_
 obtain ⟨fp,fc,d7,b1,e5,d8,_⟩:=h.from_.form
 subst b6 d7
 obtain ⟨⟨m1,m2,m3,m4,m5,m6,m7,mL⟩,lp,ln,lc⟩:=x
 dsimp only at *
 obtain ⟨j,M⟩:∃ j,j=w.alloc (.cells #[.string m1,.string m2,.string m3,.string m4,.int .i64 m5,.int .i64 m6,.bool m7,.slice lp ln lc] 59):=⟨_,rfl⟩
 have a1:Below w.heap.size w j:=by rw [M];exact (Below.refl _ _).alloc (Nat.le_refl _) _
 have Q:=h.below a1
 have D:=U1 Q
 have c0:j.cell? ⟨ab,0,none⟩=some (.string a.name):=Q.cell 0
 have c1:j.cell? ⟨ab,1,none⟩=some (.string a.key):=Q.cell 1
 have c3:j.cell? ⟨ab,3,none⟩=some (.int .i64 a.op):=Q.cell 3
 have c4:j.cell? ⟨ab,4,none⟩=some (.int .i64 a.config):=Q.cell 4
 have c7:j.cell? ⟨ab,7,none⟩=some (.slice mp a.c.L.length Z):=Q.cell 7
 have a4:j.cell? ⟨ab,14,none⟩=some (.slice fp a.from_.length fc):=Q.cell 14
 have d0:j.cell? ⟨w.heap.size,0,none⟩=some (.string m1):=by rw [M,World.cell?_alloc_at _ _ _ _ rfl];rfl
 have d1:j.cell? ⟨w.heap.size,1,none⟩=some (.string m2):=by rw [M,World.cell?_alloc_at _ _ _ _ rfl];rfl
 have d2:j.cell? ⟨w.heap.size,2,none⟩=some (.string m3):=by rw [M,World.cell?_alloc_at _ _ _ _ rfl];rfl
 have d3:j.cell? ⟨w.heap.size,3,none⟩=some (.string m4):=by rw [M,World.cell?_alloc_at _ _ _ _ rfl];rfl
 have d4:j.cell? ⟨w.heap.size,4,none⟩=some (.int .i64 m5):=by rw [M,World.cell?_alloc_at _ _ _ _ rfl];rfl
 have d5:j.cell? ⟨w.heap.size,5,none⟩=some (.int .i64 m6):=by rw [M,World.cell?_alloc_at _ _ _ _ rfl];rfl
 have a5:Hid (∀ W,Below j.heap.size j W->Strs W mp a.c.L):=fun W N=>(b0.below a1).below N
 have a7:Hid (∀ W,Below j.heap.size j W->Strs W fp a.from_):=fun W N=>(b1.below a1).below N
 have U:Hid (j=w.alloc (.cells #[.string m1,.string m2,.string m3,.string m4,.int .i64 m5,.int .i64 m6,.bool m7,.slice lp ln lc] 59)):=M
 have K:Hid (Below w.heap.size w j):=a1
 have O:a.st.waits=⟨#[]⟩∨m3≠a.st.waits∨m2≠a.name∨m4≠a.key∨m5≠a.op∨m6≠a.config∨m1 ∉ a.c.L∨m1 ∈ a.from_:=by
  unfold Za.aM at a0
  by_cases X:a.st.waits=⟨#[]⟩
  ·exact Or.inl X
  by_cases g1:m3=a.st.waits
  ·by_cases g2:m2=a.name
   ·by_cases g3:m4=a.key
    ·by_cases g4:m5=a.op
     ·by_cases g5:m6=a.config
      ·rw [decide_eq_true ⟨X,g1,g2,g3,g4,g5⟩,Bool.true_and] at a0
       by_cases Y:m1 ∈ a.c.L
       ·rw [Zl.2 Y,Bool.true_and] at a0
        right;right;right;right;right;right;right
        cases hq:Xu a.from_ m1 with
        | true=>exact Zl.1 hq
        | false=>rw [hq] at a0;cases a0
       ·right;right;right;right;right;right;left;exact Y
      ·right;right;right;right;right;left;exact g5
     ·right;right;right;right;left;exact g4
    ·right;right;right;left;exact g3
   ·right;right;left;exact g2
  ·right;left;exact g1
 clear h b0 d6 b1 d8 b7 a1 M Q a0
 generalize a.st.waits=wt at *
 generalize a.name=nm at *
 generalize a.key=ky at *
 generalize a.op=b2 at *
 generalize a.config=b3 at *
 by_cases X:wt=⟨#[]⟩
 ·subst X
  clear O
  go_enter func20,ntmps20
  go_wp2_with (first | rw [<- U.out] | fail)
  refine D.mono ?_
  rintro e G ⟨rfl,y⟩
  rw [y]
  clear y G D
  go_wp2
  go_quiet (fail)
  go_wp2
  go_ret
  exact ⟨rfl,below_drewN K.out _⟩
 ·skip
  have t0:=XT X
  have u0:=YT X
  have v0:=Y8 X
  have e0:(⟨#[]⟩:ByteArray).toList=[]:=by decide +kernel
  rw [e0] at t0 u0
  by_cases g1:m3=wt
  ·subst g1
   by_cases g2:m2=nm
   ·subst g2
    by_cases g3:m4=ky
    ·subst g3
     by_cases g4:m5=b2
     ·subst g4
      by_cases g5:m6=b3
      ·subst g5
       have a8:m1 ∉ a.c.L∨m1 ∈ a.from_:=by
        rcases O with h | h | h | h | h | h | h
        ·exact absurd h X
        ·exact absurd rfl h
        ·exact absurd rfl h
        ·exact absurd rfl h
        ·exact absurd rfl h
        ·exact absurd rfl h
        ·exact h
       by_cases Y:m1 ∈ a.c.L
       ·have g7:m1 ∈ a.from_:=by rcases a8 with h | h;exact absurd Y h;exact h
        have a9:Hid (∀ W,Below j.heap.size j W->Calls prog 46 #[.slice mp a.c.L.length Z,.string m1] W fun e w'=>e=.returned (.int .i64 ((ZJ a.c.L m1:Nat):Int))/\w'=W):=fun W N=>ML mp a.c.L Z m1 W (by omega) (a5.out W N) Y
        have d9:Hid (∀ W,Below j.heap.size j W->Calls prog 46 #[.slice fp a.from_.length fc,.string m1] W fun e w'=>e=.returned (.int .i64 ((ZJ a.from_ m1:Nat):Int))/\w'=W):=fun W N=>ML fp a.from_ fc m1 W (by omega) (a7.out W N) g7
        clear O a8 Y g7 a5 a7
        generalize ZJ a.c.L m1=j1 at *
        generalize ZJ a.from_ m1=j2 at *
        have n1:decide ((j1:Int) < 0)=false:=decide_eq_false (by omega)
        have n2:decide ((0:Int)<=(j2:Int))=true:=decide_eq_true (by omega)
        go_enter func20,ntmps20
        go_wp2_with (first | rw [<- U.out] | fail)
        refine D.mono ?_
        rintro e G ⟨rfl,y⟩
        rw [y]
        clear y G D
        go_wp2
        go_quiet (fail)
        generalize I:World.drewN j _=J
        have e1:J.cell? ⟨ab,7,none⟩=some (.slice mp a.c.L.length Z):=by rw [<- I];exact c7
        have e2:J.cell? ⟨ab,14,none⟩=some (.slice fp a.from_.length fc):=by rw [<- I];exact a4
        have e3:J.cell? ⟨w.heap.size,0,none⟩=some (.string m1):=by rw [<- I];exact d0
        have a2:Below j.heap.size j J:=by rw [<- I];exact below_drewN (Below.refl _ _) _
        have a3:Hid (Below j.heap.size j J):=a2
        have a6:=a3.out
        clear I c0 c1 c3 c4 c7 a4 d0 d1 d2 d3 d4 d5 a2
        go_wp2
        go_quiet (first | (go_at_call 46;with_reducible exact Calls.quiet_of_same (a9.out _ (below_drewN a6 _))) | (go_at_call 46;with_reducible exact Calls.quiet_of_same (d9.out _ (below_drewN a6 _))))
        go_wp2
        go_ret
        exact ⟨rfl,below_drewN (K.out.trans (a3.out.mono K.out.size)) _⟩
       ·have a9:Hid (∀ W,Below j.heap.size j W->Calls prog 46 #[.slice mp a.c.L.length Z,.string m1] W fun e w'=>e=.returned (.int .i64 (-1))/\w'=W):=fun W N=>O5 mp a.c.L Z m1 W (by omega) (a5.out W N) Y
        clear O a8 Y a5 a7
        go_enter func20,ntmps20
        go_wp2_with (first | rw [<- U.out] | fail)
        refine D.mono ?_
        rintro e G ⟨rfl,y⟩
        rw [y]
        clear y G D
        go_wp2
        go_quiet (fail)
        generalize I:World.drewN j _=J
        have e1:J.cell? ⟨ab,7,none⟩=some (.slice mp a.c.L.length Z):=by rw [<- I];exact c7
        have e2:J.cell? ⟨ab,14,none⟩=some (.slice fp a.from_.length fc):=by rw [<- I];exact a4
        have e3:J.cell? ⟨w.heap.size,0,none⟩=some (.string m1):=by rw [<- I];exact d0
        have a2:Below j.heap.size j J:=by rw [<- I];exact below_drewN (Below.refl _ _) _
        have a3:Hid (Below j.heap.size j J):=a2
        have a6:=a3.out
        clear I c0 c1 c3 c4 c7 a4 d0 d1 d2 d3 d4 d5 a2
        go_wp2
        go_quiet ((go_at_call 46;exact Calls.quiet_of_same (a9.out _ (below_drewN a6 _))))
        go_wp2
        go_ret
        exact ⟨rfl,below_drewN (K.out.trans (a3.out.mono K.out.size)) _⟩
      ·have b5:(m6==b3)=false:=by rw [beq_eq_false_iff_ne];exact g5
       clear O
       go_enter func20,ntmps20
       go_wp2_with (first | rw [<- U.out] | fail)
       refine D.mono ?_
       rintro e G ⟨rfl,y⟩
       rw [y]
       clear y G D
       go_wp2
       go_quiet (fail)
       go_wp2
       go_ret
       exact ⟨rfl,below_drewN K.out _⟩
     ·have b4:(m5==b2)=false:=by rw [beq_eq_false_iff_ne];exact g4
      clear O
      go_enter func20,ntmps20
      go_wp2_with (first | rw [<- U.out] | fail)
      refine D.mono ?_
      rintro e G ⟨rfl,y⟩
      rw [y]
      clear y G D
      go_wp2
      go_quiet (fail)
      go_wp2
      go_ret
      exact ⟨rfl,below_drewN K.out _⟩
    ·skip
     have t3:=XT g3
     have u3:=YT g3
     have v3:=Y8 g3
     clear O
     go_enter func20,ntmps20
     go_wp2_with (first | rw [<- U.out] | fail)
     refine D.mono ?_
     rintro e G ⟨rfl,y⟩
     rw [y]
     clear y G D
     go_wp2
     go_quiet (fail)
     go_wp2
     go_ret
     exact ⟨rfl,below_drewN K.out _⟩
   ·skip
    have t2:=XT g2
    have u2:=YT g2
    have v2:=Y8 g2
    clear O
    go_enter func20,ntmps20
    go_wp2_with (first | rw [<- U.out] | fail)
    refine D.mono ?_
    rintro e G ⟨rfl,y⟩
    rw [y]
    clear y G D
    go_wp2
    go_quiet (fail)
    go_wp2
    go_ret
    exact ⟨rfl,below_drewN K.out _⟩
  ·skip
   have t1:=XT g1
   have u1:=YT g1
   have v1:=Y8 g1
   clear O
   go_enter func20,ntmps20
   go_wp2_with (first | rw [<- U.out] | fail)
   refine D.mono ?_
   rintro e G ⟨rfl,y⟩
   rw [y]
   clear y G D
   go_wp2
   go_quiet (fail)
   go_wp2
   go_ret
   exact ⟨rfl,below_drewN K.out _⟩
end
section
variable {w w':World} {B:Nat} {S:Nat->Prop} {ab:Nat} {a:Za} {mv nv fv lv:Value} {vs:List Value}
theorem JdV (h:Qa w B S ab a mv nv fv lv vs) (x:Zb×Lv) (j:X4 a) (J:Jn w x) (a9:a.small x.1) (a0:∀ W:World,w.heap.size<=W.heap.size->(∀ k,k < w.heap.size->¬ S k->W.heap[k]?=w.heap[k]?)->Ql Ze W x.2.1 x.1.L) :
 Calls prog 20 #[.pointer (some ⟨ab,0,none⟩),.agg #[.string x.1.from_,.string x.1.aP,.string x.1.kind,.string x.1.key,.int .i64 x.1.op,.int .i64 x.1.config,.bool x.1.shut,.slice x.2.1 x.2.2.1 x.2.2.2]] w fun e w'=>(∃ p c,e=.returned (.slice p (a.aD x.1).2.length c)/\mN w' p (a.aD x.1).2)/\∃ S' a2 N O Q,Qa w' B S' ab (a.aD x.1).1 a2 nv N O Q/\Yd S S' w w':=by
 obtain ⟨⟨Z,h2,h3⟩,h4,_,_,a3⟩:=Xm j.cfg
 obtain ⟨⟨n1,n2,n3⟩,n4,_⟩:=Xm j.rD
 have a4:a.from_.length<=12:=by have:=YS j.nodup j.sub;omega
 have b0:a.L.length<=12:=by rw [<- j.both];exact a4
 obtain ⟨b1,b2,b3,b4,b5⟩:=EM a9
 cases I:a.aM x.1 with
 | false =>
  rw [pW I]
  exact (Jd7 h x (by omega) (by omega) I).mono fun e w' G=>⟨⟨none,0,G.1,mN.nil _ _⟩,S,_,_,_,_,h.below G.2,Yd.aJ G.2⟩
 | true =>
  obtain ⟨a5,_,a6⟩:=JaX j.st I
  rcases a5 with K | K
  ·rw [uQ I K]
   have a7:(a.heard x.1).from_.length=(a.heard x.1).L.length:=by show (a.from_ ++ [x.1.from_]).length=(a.L ++ [x.1.L]).length;simp [j.both]
   have a8:(a.heard x.1).from_.Nodup:=by
    show (a.from_ ++ [x.1.from_]).Nodup
    rw [List.nodup_append]
    exact ⟨j.nodup,by simp,fun y hy z hz=>by rw [List.mem_singleton.1 hz];intro e;exact a6 (e ▸ hy)⟩
   have a1:(Xq (a.heard x.1).from_ (a.heard x.1).L a.c.L).flatten.length<=1000:=by
    rw [<- B7 (a.heard x.1) a.c.L]
    exact Nat.le_trans (PH a7 a8 a3) (by omega)
   by_cases U:a.from_.length+1 < Jh a.c
   ·have hl:(a.heard x.1).from_.length < Jh a.c:=by show (a.from_ ++ [x.1.from_]).length < _;simpa using U
    have e:fU (a.heard x.1)=(a.heard x.1,[]):=if_pos hl
    rw [e]
    cases D:x.1.shut with
    | true =>
     have M:=JcQ h x (by omega) (by omega) I D K U ⟨Z,h2,h3⟩ (by omega) (by omega) J.len J.empty a0
     rw [D] at M
     exact M.mono fun e w' G=>by
      obtain ⟨X,S',N,O,Q,Y⟩:=G
      exact ⟨⟨none,0,X,mN.nil _ _⟩,S',_,N,O,Q,Y⟩
    | false =>
     have M:=JbS h x (by omega) (by omega) I D U ⟨Z,h2,h3⟩ (by omega) (by omega) J.len J.empty a0
     rw [D] at M
     exact M.mono fun e w' G=>by
      obtain ⟨X,S',N,O,Q,Y⟩:=G
      exact ⟨⟨none,0,X,mN.nil _ _⟩,S',_,N,O,Q,Y⟩
   ·cases D:x.1.shut with
    | true =>
     have:=JcU h x (by omega) (by omega) I D K j.BL j.aI ⟨n4,n1,n2,n3⟩ ⟨j.sD.1,j.room K⟩ j.both h4 j.text (by omega) a1 (by omega) ⟨Z,h2,h3⟩ (by omega) (by omega) J.len J.empty a0
     rw [D] at this
     exact this
    | false =>
     have:=Jdl h x (by omega) (by omega) I D K j.BL j.aI ⟨n4,n1,n2,n3⟩ ⟨j.sD.1,j.room K⟩ j.both h4 j.text (by omega) a1 (by omega) ⟨Z,h2,h3⟩ (by omega) (by omega) J.len J.empty a0
     rw [D] at this
     exact this
  ·cases D:x.1.shut with
   | true =>
    rw [qQ I D (by rw [K];decide)]
    have:=Jcr h x (by omega) (by omega) I D (by rw [K];decide)
    rw [D] at this
    exact this.mono fun e w' G=>⟨⟨none,0,G.1,mN.nil _ _⟩,S,_,_,_,_,G.2.1,G.2.2⟩
   | false =>
    rw [uB I D K]
    by_cases U:a.from_.length+1 < Jh a.c
    ·have hl:(a.heard x.1).from_.length < Jh a.c:=by show (a.from_ ++ [x.1.from_]).length < _;simpa using U
     rw [if_pos hl]
     have M:=JbS h x (by omega) (by omega) I D U ⟨Z,h2,h3⟩ (by omega) (by omega) J.len J.empty a0
     rw [D] at M
     exact M.mono fun e w' G=>by
      obtain ⟨X,S',N,O,Q,Y⟩:=G
      exact ⟨⟨none,0,X,mN.nil _ _⟩,S',_,N,O,Q,Y⟩
    ·have hl:¬ (a.heard x.1).from_.length < Jh a.c:=by show ¬ (a.from_ ++ [x.1.from_]).length < _;simpa using U
     rw [if_neg hl]
     have M:=Jdg h x (by omega) (by omega) I D K (by omega) ⟨Z,h2,h3⟩ (by omega) (by omega) J.len J.empty a0
     rw [D] at M
     exact M.mono fun e w' G=>by
      obtain ⟨X,S',N,O,Q,Y⟩:=G
      exact ⟨⟨none,0,X,mN.nil _ _⟩,S',_,N,O,Q,Y⟩
end
theorem Jcu (X Y:Option Addr) (l m:List Yb) (ca cb:Nat) (w:World) (hl:l.length<=1000000) (ha:Ql Ze w X l) (hb:Ql Ze w Y m) :
 Calls prog 62 #[.slice X l.length ca,.slice Y m.length cb] w fun e w'=>e=.returned (.bool (decide (l=m)))/\Below w.heap.size w w':=by
 by_cases I:l.length=m.length
 ·have HT:Hid ((∀ i,i < l.length->Xd l i=Xd m i)->decide (l=m)=true):=fun h=>decide_eq_true (Jex I h)
  have HF:Hid (∀ i,i < l.length->Xd l i≠Xd m i->decide (l=m)=false):=fun i _ h=>decide_eq_false (fun e=>h (by rw [e]))
  generalize decide (l=m)=r at *
  have HM:Hid (m.length=l.length):=I.symm
  rw [<- I]
  clear I
  go_enter func62,ntmps62
  go_wp2
  go_loopw [5] (fun x wq=>∃ i:Nat,i<=l.length/\x=.int .i64 i/\(∀ j,j < i->Xd l j=Xd m j)/\∃ n,wq=w.drewN n) (fun x _=>l.length - (intOf x).toNat)
  case atStart=>exact ⟨0,Nat.zero_le _,rfl,fun j Z=>absurd Z (Nat.not_lt_zero _),0,rfl⟩
  case round =>
   obtain ⟨i,hi,rfl,a5,n,M⟩:=hrel
   obtain ⟨D,rfl⟩:∃ D,D=wr:=⟨_,rfl⟩
   have N:Hid (∀ j,j < i->Xd l j=Xd m j):=a5
   have O:Hid (∃ n,D=w.drewN n):=⟨n,M⟩
   have HA:Hid (Ql Ze D X l):=by show Ql Ze D X l;rw [M];exact ha.drewN n
   have HB:Hid (Ql Ze D Y m):=by show Ql Ze D Y m;rw [M];exact hb.drewN n
   clear M a5
   by_cases a6:i < l.length
   ·obtain ⟨b1,o1,a8,_,a0,a1,a2,a3,a4⟩:=QU HA.out a6
    obtain ⟨b2,o2,a9,_,e0,e1,e2,e3,e4⟩:=QU HB.out (show i < m.length by have:=HM.out;omega)
    subst a8 a9
    by_cases J:Xd l i=Xd m i
    ·have b0 : Hid (∀ j, j < i + 1 -> Xd l j = Xd m j) := fun j Z => by
      rcases Nat.lt_or_ge j i with h | h
      ·exact N.out j h
      ·obtain rfl:j=i:=by omega
       exact J
     rw [<- J] at e0 e1 e2 e3 e4
     clear J N
     generalize Xd l i=x at *
     obtain ⟨Q,U,xs,W,xt⟩:=x
     go_wp2
     go_quiet (fail)
     go_wp2
     go_roundw
     case rel=>exact ⟨i+1,by omega,by go_num,b0.out,by obtain ⟨n,G⟩:=O.out;exact ⟨_,by rw [G,World.drewN_drewN]⟩⟩
     case measure=>simp [intOf];omega
    ·have K:Hid (r=false):=HF.out i a6 J
     have a7:Hid (Xd l i≠Xd m i):=J
     clear J HF HT N
     generalize Xd l i=x at *
     generalize Xd m i=y at *
     obtain ⟨Q,U,xs,W,xt⟩:=x
     obtain ⟨yn,yw,ys,ya,yt⟩:=y
     have b3:((Q==yn)=false)∨Q=yn/\(((U==yw)=false)∨U=yw/\(((xs==ys)=false)∨xs=ys/\(((W==ya)=false)∨W=ya/\xt≠yt))):=by
      by_cases h1:Q=yn
      ·refine Or.inr ⟨h1,?_⟩
       by_cases h2:U=yw
       ·refine Or.inr ⟨h2,?_⟩
        by_cases h3:xs=ys
        ·refine Or.inr ⟨h3,?_⟩
         by_cases h4:W=ya
         ·refine Or.inr ⟨h4,fun h5=>a7.out (by rw [h1,h2,h3,h4,h5])⟩
         ·exact Or.inl (beq_eq_false_iff_ne.2 h4)
        ·exact Or.inl (beq_eq_false_iff_ne.2 h3)
       ·exact Or.inl (beq_eq_false_iff_ne.2 h2)
      ·exact Or.inl (beq_eq_false_iff_ne.2 h1)
     clear a7
     rcases b3 with g | ⟨rfl,g | ⟨rfl,g | ⟨rfl,g | ⟨rfl,g⟩⟩⟩⟩
     rotate_right
     ·have d1:=XT g
      have d2:=YT g
      have d3:=Y8 g
      clear g
      go_wp2
      go_quiet (fail)
      go_wp2
      go_ret
      exact ⟨by rw [K.out];rfl,by obtain ⟨n,G⟩:=O.out;rw [G];exact below_drewN (below_drewN (Below.refl _ _) n) _⟩
     all_goals
      go_wp2
      go_quiet (fail)
      go_wp2
      go_ret
      exact ⟨by rw [K.out];rfl,by obtain ⟨n,G⟩:=O.out;rw [G];exact below_drewN (below_drewN (Below.refl _ _) n) _⟩
   ·have K:Hid (r=true):=HT.out (fun j Z=>N.out j (by omega))
    go_wp2
    go_ret
    exact ⟨by rw [K.out];rfl,by obtain ⟨n,G⟩:=O.out;rw [G];exact below_drewN (Below.refl _ _) n⟩
 ·have K:Hid (decide (l=m)=false):=decide_eq_false (fun e=>I (by rw [e]))
  rw [K.out]
  have h6:((l.length:Int) != (m.length:Int))=true:=by rw [bne_iff_ne];omega
  clear I
  go_enter func62,ntmps62
  go_wp2
  go_ret
  exact ⟨rfl,Below.refl _ _⟩
theorem JcE (m:Zb) (p:Option Addr) (n c:Nat) (w:World) :
 Calls prog 41 #[Z1 m (.slice p n c)] w fun e w'=>e=.returned (Z1 m (.slice p n c))/\Below w.heap.size w w':=by
 obtain ⟨m1,m2,m3,j,y,D,G,I⟩:=m
 unfold Z1
 simp only []
 go_enter func41,ntmps41
 go_wp2
 refine bodyPost_ret (v:=.agg #[.string m1,.string m2,.string m3,.string j,.int .i64 y,.int .i64 D,.bool G,.slice p n c]) (by simp [results,results41,go_sem]) rfl ⟨rfl,?_⟩
 exact ((Below.refl _ _).alloc (Nat.le_refl _) _).alloc (by simp) _
theorem JcS (m:Zb) (D G:Option Addr) (I J:Nat) (w:World) (hl:m.L.length<=1000000) (ha:Ql Ze w D m.L) (hb:Ql Ze w G m.L) :
 Calls prog 40 #[Z1 m (.slice D m.L.length I),Z1 m (.slice G m.L.length J)] w fun e w'=>e=.returned (.bool true)/\Below w.heap.size w w':=by
 obtain ⟨m1,m2,m3,K,M,N,O,y⟩:=m
 unfold Z1
 simp only [] at *
 obtain ⟨j,U⟩:∃ j,j=(w.alloc (.cells #[.string m1,.string m2,.string m3,.string K,.int .i64 M,.int .i64 N,.bool O,.slice D y.length I] 59)).alloc (.cells #[.string m1,.string m2,.string m3,.string K,.int .i64 M,.int .i64 N,.bool O,.slice G y.length J] 59):=⟨_,rfl⟩
 have X:Hid (j=(w.alloc (.cells #[.string m1,.string m2,.string m3,.string K,.int .i64 M,.int .i64 N,.bool O,.slice D y.length I] 59)).alloc (.cells #[.string m1,.string m2,.string m3,.string K,.int .i64 M,.int .i64 N,.bool O,.slice G y.length J] 59)):=U
 have Q:Below w.heap.size w j:=by rw [U];exact ((Below.refl _ _).alloc (Nat.le_refl _) _).alloc (by simp) _
 have W:=Jcu D G y y I J j hl (ha.below Q) (hb.below Q)
 rw [decide_eq_true rfl] at W
 have Y:Hid (Calls prog 62 #[.slice D y.length I,.slice G y.length J] j fun e w'=>e=.returned (.bool true)/\Below j.heap.size j w'):=W
 have Z:Hid (Below w.heap.size w j):=Q
 clear W Q U ha hb
 go_enter func40,ntmps40
 go_wp2_with fail
 rw [<- X.out]
 refine Y.out.mono ?_
 rintro e w2 ⟨rfl,a0⟩
 have a1:Hid (Below w.heap.size w w2):=Z.out.trans (a0.mono Z.out.size)
 clear a0 Y X
 go_wp2
 go_ret
 exact ⟨rfl,a1.out⟩
theorem Zc.jau {w':World}  {l:List Yb} (h:Zc Ze T w B v l) (N:∀ k,v.ownBlock=some k->w'.heap[k]?=w.heap[k]?):Zc Ze T w' B v l:=by
 obtain ⟨D,j⟩:=h
 refine ⟨D,?_⟩
 rcases j with j | ⟨g,G,I,y,J,K,M⟩
 ·exact Or.inl j
 ·refine Or.inr ⟨g,G,I,y,J,?_,M⟩
  rw [N g (by rw [y];rfl)]
  exact K
theorem Zc.jX   {l:List Yb} (h:Zc Ze T w B v l) (y:b < B) (i:Nat) (x:Value):Zc Ze T (w.setCell ⟨b,i,none⟩ x) B v l:=h.jau (fun k j=>Deep.blk_setCell_other _ _ _ _ (by have:=(h.block j).1;show k≠b;omega))
theorem Jc6 (m:Zb) (p:Option Addr) (c:Nat) (w:World) (hl:m.L.length<=2932031007317) (hr:Ql Ze w p m.L) (hc:p=none->m.L=[]/\c=0) :
 Calls prog 19 #[Z1 m (.slice p m.L.length c)] w fun e w'=>(∃ lv,e=.returned (Z1 m lv)/\Zc Ze 76 w' w.heap.size lv m.L)/\Below w.heap.size w w':=by
 obtain ⟨m1,m2,m3,j,y,D,G,J⟩:=m
 unfold Z1
 simp only [] at *
 have Q:Below w.heap.size w (((w.alloc (.cells #[.string m1,.string m2,.string m3,.string j,.int .i64 y,.int .i64 D,.bool G,.slice p J.length c] 59)).alloc (.cells #[.string ⟨#[]⟩,.string ⟨#[]⟩,.string ⟨#[]⟩,.string ⟨#[]⟩,.int .i64 0,.int .i64 0,.bool false,.slice none 0 0] 57)).alloc (.cells #[.string m1,.string m2,.string m3,.string j,.int .i64 y,.int .i64 D,.bool G,.slice none 0 0] 57)):=(((Below.refl _ _).alloc (Nat.le_refl _) _).alloc (by simp) _).alloc (by simp;omega) _
 have W:(((w.alloc (.cells #[.string m1,.string m2,.string m3,.string j,.int .i64 y,.int .i64 D,.bool G,.slice p J.length c] 59)).alloc (.cells #[.string ⟨#[]⟩,.string ⟨#[]⟩,.string ⟨#[]⟩,.string ⟨#[]⟩,.int .i64 0,.int .i64 0,.bool false,.slice none 0 0] 57)).alloc (.cells #[.string m1,.string m2,.string m3,.string j,.int .i64 y,.int .i64 D,.bool G,.slice none 0 0] 57)).heap[w.heap.size+1]?=some (.cells #[.string ⟨#[]⟩,.string ⟨#[]⟩,.string ⟨#[]⟩,.string ⟨#[]⟩,.int .i64 0,.int .i64 0,.bool false,.slice none 0 0] 57 (0,0)):=by
  have e:w.heap.size+1=(w.alloc (.cells #[.string m1,.string m2,.string m3,.string j,.int .i64 y,.int .i64 D,.bool G,.slice p J.length c] 59)).heap.size:=by simp
  rw [heap_alloc_old _ _ (by simp),e]
  exact heap_alloc_new _ _
 have X:(((w.alloc (.cells #[.string m1,.string m2,.string m3,.string j,.int .i64 y,.int .i64 D,.bool G,.slice p J.length c] 59)).alloc (.cells #[.string ⟨#[]⟩,.string ⟨#[]⟩,.string ⟨#[]⟩,.string ⟨#[]⟩,.int .i64 0,.int .i64 0,.bool false,.slice none 0 0] 57)).alloc (.cells #[.string m1,.string m2,.string m3,.string j,.int .i64 y,.int .i64 D,.bool G,.slice none 0 0] 57)).heap[w.heap.size+2]?=some (.cells #[.string m1,.string m2,.string m3,.string j,.int .i64 y,.int .i64 D,.bool G,.slice none 0 0] 57 (0,0)):=by
  have e:w.heap.size+2=((w.alloc (.cells #[.string m1,.string m2,.string m3,.string j,.int .i64 y,.int .i64 D,.bool G,.slice p J.length c] 59)).alloc (.cells #[.string ⟨#[]⟩,.string ⟨#[]⟩,.string ⟨#[]⟩,.string ⟨#[]⟩,.int .i64 0,.int .i64 0,.bool false,.slice none 0 0] 57)).heap.size:=by simp
  rw [e]
  exact heap_alloc_new _ _
 have U:Hid ((((w.alloc (.cells #[.string m1,.string m2,.string m3,.string j,.int .i64 y,.int .i64 D,.bool G,.slice p J.length c] 59)).alloc (.cells #[.string ⟨#[]⟩,.string ⟨#[]⟩,.string ⟨#[]⟩,.string ⟨#[]⟩,.int .i64 0,.int .i64 0,.bool false,.slice none 0 0] 57)).alloc (.cells #[.string m1,.string m2,.string m3,.string j,.int .i64 y,.int .i64 D,.bool G,.slice none 0 0] 57)).heap[w.heap.size+1]?=some (.cells #[.string ⟨#[]⟩,.string ⟨#[]⟩,.string ⟨#[]⟩,.string ⟨#[]⟩,.int .i64 0,.int .i64 0,.bool false,.slice none 0 0] 57 (0,0))/\(((w.alloc (.cells #[.string m1,.string m2,.string m3,.string j,.int .i64 y,.int .i64 D,.bool G,.slice p J.length c] 59)).alloc (.cells #[.string ⟨#[]⟩,.string ⟨#[]⟩,.string ⟨#[]⟩,.string ⟨#[]⟩,.int .i64 0,.int .i64 0,.bool false,.slice none 0 0] 57)).alloc (.cells #[.string m1,.string m2,.string m3,.string j,.int .i64 y,.int .i64 D,.bool G,.slice none 0 0] 57)).heap[w.heap.size+2]?=some (.cells #[.string m1,.string m2,.string m3,.string j,.int .i64 y,.int .i64 D,.bool G,.slice none 0 0] 57 (0,0))/\Below w.heap.size w (((w.alloc (.cells #[.string m1,.string m2,.string m3,.string j,.int .i64 y,.int .i64 D,.bool G,.slice p J.length c] 59)).alloc (.cells #[.string ⟨#[]⟩,.string ⟨#[]⟩,.string ⟨#[]⟩,.string ⟨#[]⟩,.int .i64 0,.int .i64 0,.bool false,.slice none 0 0] 57)).alloc (.cells #[.string m1,.string m2,.string m3,.string j,.int .i64 y,.int .i64 D,.bool G,.slice none 0 0] 57))):=⟨W,X,Q⟩
 have HR:Hid (Ql Ze (((w.alloc (.cells #[.string m1,.string m2,.string m3,.string j,.int .i64 y,.int .i64 D,.bool G,.slice p J.length c] 59)).alloc (.cells #[.string ⟨#[]⟩,.string ⟨#[]⟩,.string ⟨#[]⟩,.string ⟨#[]⟩,.int .i64 0,.int .i64 0,.bool false,.slice none 0 0] 57)).alloc (.cells #[.string m1,.string m2,.string m3,.string j,.int .i64 y,.int .i64 D,.bool G,.slice none 0 0] 57)) p J):=hr.below Q
 have a0:w.heap.size+3<=(((w.alloc (.cells #[.string m1,.string m2,.string m3,.string j,.int .i64 y,.int .i64 D,.bool G,.slice p J.length c] 59)).alloc (.cells #[.string ⟨#[]⟩,.string ⟨#[]⟩,.string ⟨#[]⟩,.string ⟨#[]⟩,.int .i64 0,.int .i64 0,.bool false,.slice none 0 0] 57)).alloc (.cells #[.string m1,.string m2,.string m3,.string j,.int .i64 y,.int .i64 D,.bool G,.slice none 0 0] 57)).heap.size:=by simp
 have HC:Hid (p=none->J=[]/\c=0):=hc
 clear Q W X hr hc
 go_enter func19,ntmps19
 go_wp2_with (first | (at_builtin;refine F4 (E:=Ze) rfl (.tmp 20) (.tmp 22) 55 76 rfl (.agg #[.int .i64 0,.int .i64 0,.int .i64 0,.int .i64 0,.string ⟨#[]⟩]) 48 underlying55 qS rfl (w.heap.size+3) (.slice none 0 0) [] rfl (Zc.nil _ _ _) p J c rfl HR.out HC.out (by unfold maxLen;simp;omega) (by simp;omega) a0 ?_;intro v3 I N O;obtain ⟨Y,c3,Z,_⟩:=N.form;rw [List.nil_append] at Z N;subst Z;have K:=(O.block (w.heap.size+1) (by omega)).trans U.out.1;have M:=(O.block (w.heap.size+2) (by omega)).trans U.out.2.1;have a1:Hid (Below w.heap.size w I):=(U.out.2.2.trans (O.mono (by omega)));have a2:Hid (Zc Ze 76 I (w.heap.size+3) (.slice Y J.length c3) J):=N;have z0:I.cell? ⟨w.heap.size+1,0,none⟩=some (.string ⟨#[]⟩):=(by simp [World.cell?,K]);have z1:I.cell? ⟨w.heap.size+1,1,none⟩=some (.string ⟨#[]⟩):=(by simp [World.cell?,K]);have z2:I.cell? ⟨w.heap.size+1,2,none⟩=some (.string ⟨#[]⟩):=(by simp [World.cell?,K]);have z3:I.cell? ⟨w.heap.size+1,3,none⟩=some (.string ⟨#[]⟩):=(by simp [World.cell?,K]);have z4:I.cell? ⟨w.heap.size+1,4,none⟩=some (.int .i64 0):=(by simp [World.cell?,K]);have z5:I.cell? ⟨w.heap.size+1,5,none⟩=some (.int .i64 0):=(by simp [World.cell?,K]);have z6:I.cell? ⟨w.heap.size+1,6,none⟩=some (.bool false):=(by simp [World.cell?,K]);have z7:I.cell? ⟨w.heap.size+1,7,none⟩=some (.slice none 0 0):=(by simp [World.cell?,K]);have y0:I.cell? ⟨w.heap.size+2,0,none⟩=some (.string m1):=(by simp [World.cell?,M]);have y1:I.cell? ⟨w.heap.size+2,1,none⟩=some (.string m2):=(by simp [World.cell?,M]);have y2:I.cell? ⟨w.heap.size+2,2,none⟩=some (.string m3):=(by simp [World.cell?,M]);have y3:I.cell? ⟨w.heap.size+2,3,none⟩=some (.string j):=(by simp [World.cell?,M]);have y4:I.cell? ⟨w.heap.size+2,4,none⟩=some (.int .i64 y):=(by simp [World.cell?,M]);have y5:I.cell? ⟨w.heap.size+2,5,none⟩=some (.int .i64 D):=(by simp [World.cell?,M]);have y6:I.cell? ⟨w.heap.size+2,6,none⟩=some (.bool G):=(by simp [World.cell?,M]);have y7:I.cell? ⟨w.heap.size+2,7,none⟩=some (.slice none 0 0):=(by simp [World.cell?,M]);have g1:∀ o,I.frozen? ⟨w.heap.size+1,o,none⟩=false:=(fun o=>by simp [World.frozen?,K]);have g2:∀ o,I.frozen? ⟨w.heap.size+2,o,none⟩=false:=(fun o=>by simp [World.frozen?,M]);clear K M N O))
 refine bodyPost_ret (v:=.agg #[.string m1,.string m2,.string m3,.string j,.int .i64 y,.int .i64 D,.bool G,.slice Y J.length c3]) (by simp [results,results19,go_sem,z0,z1,z2,z3,z4,z5,z6,z7]) rfl ⟨⟨_,rfl,?_⟩,?_⟩
 ·exact Zc.base (((((((((a2.out.jX (b:=w.heap.size+2) (by omega) 7 _).jX (b:=w.heap.size+1) (by omega) 0 _).jX (b:=w.heap.size+1) (by omega) 1 _).jX (b:=w.heap.size+1) (by omega) 2 _).jX (b:=w.heap.size+1) (by omega) 3 _).jX (b:=w.heap.size+1) (by omega) 4 _).jX (b:=w.heap.size+1) (by omega) 5 _).jX (b:=w.heap.size+1) (by omega) 6 _).jX (b:=w.heap.size+1) (by omega) 7 _) (by omega)
 ·exact (((((((((a1.out.setCell (p:=⟨w.heap.size+2,7,none⟩) (by show w.heap.size<=w.heap.size+2;omega) _).setCell (p:=⟨w.heap.size+1,0,none⟩) (by show w.heap.size<=w.heap.size+1;omega) _).setCell (p:=⟨w.heap.size+1,1,none⟩) (by show w.heap.size<=w.heap.size+1;omega) _).setCell (p:=⟨w.heap.size+1,2,none⟩) (by show w.heap.size<=w.heap.size+1;omega) _).setCell (p:=⟨w.heap.size+1,3,none⟩) (by show w.heap.size<=w.heap.size+1;omega) _).setCell (p:=⟨w.heap.size+1,4,none⟩) (by show w.heap.size<=w.heap.size+1;omega) _).setCell (p:=⟨w.heap.size+1,5,none⟩) (by show w.heap.size<=w.heap.size+1;omega) _).setCell (p:=⟨w.heap.size+1,6,none⟩) (by show w.heap.size<=w.heap.size+1;omega) _).setCell (p:=⟨w.heap.size+1,7,none⟩) (by show w.heap.size<=w.heap.size+1;omega) _)
theorem Zq.jX  {l:List ByteArray} (h:Zq w B v l) (y:b < B) (i:Nat) (x:Value):Zq (w.setCell ⟨b,i,none⟩ x) B v l :=
 World.ownsRow.kept (row:=some b) h ⟨rfl,rfl,rfl,by simp,fun k _ j=>Deep.blk_setCell_other _ _ _ _ (fun e=>j (by rw [e]))⟩ (Or.inr fun e=>by have:=(h.block e).1;omega)
theorem Zx (c:Xg) (p:Option Addr) (G:Nat) (w:World) (hl:c.L.length<=8796093021952) (hs:Strs w p c.L) (hn:p=none->c.L=[]/\G=0) :
 Calls prog 9 #[iE c (.slice p c.L.length G)] w fun e w'=>(∃ q d,e=.returned (iE c (.slice q c.L.length d))/\Strs w' q c.L/\c.L.length<=d/\(q=none->c.L=[]/\d=0))/\Below w.heap.size w w':=by
 obtain ⟨I,J,j⟩:=c
 unfold iE
 simp only [] at *
 obtain ⟨y,M⟩:∃ y,y=(w.alloc (.cells #[.int .i64 I,.int .i64 J,.slice p j.length G] 24)).alloc (.cells #[.int .i64 0,.int .i64 0,.slice none 0 0] 24):=⟨_,rfl⟩
 have a5:Hid (y=(w.alloc (.cells #[.int .i64 I,.int .i64 J,.slice p j.length G] 24)).alloc (.cells #[.int .i64 0,.int .i64 0,.slice none 0 0] 24)):=M
 have X:Below w.heap.size w y:=by rw [M];exact ((Below.refl _ _).alloc (Nat.le_refl _) _).alloc (by simp) _
 have N:(w.alloc (.cells #[.int .i64 I,.int .i64 J,.slice p j.length G] 24)).heap.size=w.heap.size+1:=by simp
 have Y:y.heap[w.heap.size]?=some (.cells #[.int .i64 I,.int .i64 J,.slice p j.length G] 24 (0,0)):=by
  rw [M,heap_alloc_old _ _ (by rw [N];omega)]
  exact heap_alloc_new _ _
 have a0:y.heap[w.heap.size+1]?=some (.cells #[.int .i64 0,.int .i64 0,.slice none 0 0] 24 (0,0)):=by
  rw [M,<- N]
  exact heap_alloc_new _ _
 have a1:y.heap.size=w.heap.size+2:=by rw [M];simp
 have a6:Hid (Strs y p j):=hs.below X
 have K:Hid (y.heap[w.heap.size]?=some (.cells #[.int .i64 I,.int .i64 J,.slice p j.length G] 24 (0,0))/\y.heap[w.heap.size+1]?=some (.cells #[.int .i64 0,.int .i64 0,.slice none 0 0] 24 (0,0))/\Below w.heap.size w y/\y.heap.size=w.heap.size+2):=⟨Y,a0,X,a1⟩
 have q2:y.cell? ⟨w.heap.size,2,none⟩=some (.slice p j.length G):=by simp [World.cell?,Y]
 clear M X N Y a0 a1 hs
 go_enter func9,ntmps9
 go_wp2_with (first | (at_builtin;rw [<- a5.out];refine R8 rfl (.tmp 4) (.tmp 6) rfl y.heap.size (.slice none 0 0) [] rfl (Zq.nil _ _) p j G rfl a6.out hn (by show 0+j.length<=_;omega) (Nat.le_refl _) ?_;intro v2 D U W;rw [List.nil_append] at U;obtain ⟨q,d,a7,a2,a3,a4,a8⟩:=U.form;subst a7;have O:=(W.block _ (by have:=K.out.2.2.2;omega)).trans K.out.1;have Q:=(W.block _ (by have:=K.out.2.2.2;omega)).trans K.out.2.1;have a9:Hid (q=none->j=[]/\d=0):=(fun e=>⟨(by rcases a2 with h | ⟨b,o,hq,_⟩;exact h;rw [e] at hq;cases hq),a4 e⟩);have Z:Hid (Zq D y.heap.size (.slice q j.length d) j/\j.length<=d/\Below w.heap.size w D):=⟨U,a3,K.out.2.2.1.trans (W.mono K.out.2.2.1.size)⟩;have k0:D.cell? ⟨w.heap.size,0,none⟩=some (.int .i64 I):=(by simp [World.cell?,O]);have k1:D.cell? ⟨w.heap.size,1,none⟩=some (.int .i64 J):=(by simp [World.cell?,O]);have k2:D.cell? ⟨w.heap.size,2,none⟩=some (.slice p j.length G):=(by simp [World.cell?,O]);have k3:D.frozen? ⟨w.heap.size,2,none⟩=false:=(by simp [World.frozen?,O]);have z0:D.cell? ⟨w.heap.size+1,0,none⟩=some (.int .i64 0):=(by simp [World.cell?,Q]);have z1:D.cell? ⟨w.heap.size+1,1,none⟩=some (.int .i64 0):=(by simp [World.cell?,Q]);have z2:D.cell? ⟨w.heap.size+1,2,none⟩=some (.slice none 0 0):=(by simp [World.cell?,Q]);have z3:∀ i,D.frozen? ⟨w.heap.size+1,i,none⟩=false:=(fun i=>by simp [World.frozen?,Q]);clear U W a2 a3 a4 a8 O Q q2))
 refine bodyPost_ret (v:=.agg #[.int .i64 I,.int .i64 J,.slice q j.length d]) (by simp [results,results9,go_sem,z0,z1,z2]) rfl ?_
 have b0:=K.out.2.2.2
 have ho:=(((Z.out.1.jX (b:=w.heap.size) (by omega) 2 (.slice q j.length d)).jX (b:=w.heap.size+1) (by omega) 0 (.int .i64 I)).jX (b:=w.heap.size+1) (by omega) 1 (.int .i64 J)).jX (b:=w.heap.size+1) (by omega) 2 (.slice q j.length d)
 obtain ⟨q',d',hv,hS,_⟩:=ho.form
 injection hv with e1 _ N
 subst e1 N
 exact ⟨⟨q,d,rfl,hS,Z.out.2.1,a9.out⟩,(((Z.out.2.2.setCell (p:=⟨w.heap.size,2,none⟩) (Nat.le_refl _) _).setCell (p:=⟨w.heap.size+1,0,none⟩) (by show w.heap.size<=w.heap.size+1;omega) _).setCell (p:=⟨w.heap.size+1,1,none⟩) (by show w.heap.size<=w.heap.size+1;omega) _).setCell (p:=⟨w.heap.size+1,2,none⟩) (by show w.heap.size<=w.heap.size+1;omega) _⟩
def Qk (c:Xg):Bool:=decide (30 < c.L.length) || c.L.any fun x=>decide (60 < x.size)
theorem X1 (h:Qk c=false):c.L.length<=30/\∀ x ∈ c.L,x.size<=60:=by
 unfold Qk at h
 rw [Bool.or_eq_false_iff] at h
 refine ⟨by have:=of_decide_eq_false h.1;omega,fun x j=>?_⟩
 have:=List.any_eq_false.1 h.2 x j
 simpa using this
theorem Xh (c:Xg) (p:Option Addr) (O:Nat) (w:World) (hl:c.L.length<=maxLen) (M:∀ x ∈ c.L,x.size<=maxLen) (hs:Strs w p c.L) :
 Calls prog 6 #[iE c (.slice p c.L.length O)] w fun e w'=>e=.returned (.bool (Qk c))/\Below w.heap.size w w':=by
 obtain ⟨D,G,l⟩:=c
 unfold maxLen at hl
 unfold iE
 simp only [] at *
 obtain ⟨y,J⟩:∃ y,y=w.alloc (.cells #[.int .i64 D,.int .i64 G,.slice p l.length O] 24):=⟨_,rfl⟩
 have U:Hid (y=w.alloc (.cells #[.int .i64 D,.int .i64 G,.slice p l.length O] 24)):=J
 have Q:Below w.heap.size w y:=by rw [J];exact (Below.refl _ _).alloc (Nat.le_refl _) _
 have q2:y.cell? ⟨w.heap.size,2,none⟩=some (.slice p l.length O):=by rw [J,World.cell?_alloc_at _ _ _ _ rfl];rfl
 have W:Hid (Below w.heap.size w y):=Q
 by_cases X:30 < l.length
 ·have K:Hid (Qk ⟨D,G,l⟩=true):=by show _=_;unfold Qk;rw [decide_eq_true X,Bool.true_or]
  rw [K.out]
  clear J Q hs M
  go_enter func6,ntmps6
  go_wp2
  go_ret
  exact ⟨rfl,by rw [<- U.out];exact W.out⟩
 have Y:Hid (∀ i,i < l.length->(Yc l i).size<=9223372036854775807):=fun i I=>by have:=M _ (oQ I);unfold maxLen at this;omega
 have Z:Hid (∀ i,i < l.length->60 < (Yc l i).size->Qk ⟨D,G,l⟩=true):=fun i I h=>by
  unfold Qk
  rw [decide_eq_false X,Bool.false_or,List.any_eq_true]
  exact ⟨Yc l i,oQ I,decide_eq_true h⟩
 have HF:Hid ((∀ i,i < l.length->¬ 60 < (Yc l i).size)->Qk ⟨D,G,l⟩=false):=fun h=>by
  unfold Qk
  rw [decide_eq_false X,Bool.false_or,List.any_eq_false]
  intro x M h2
  obtain ⟨i,I,rfl⟩:=tF M
  exact h i I (of_decide_eq_true h2)
 generalize Qk ⟨D,G,l⟩=r at *
 have HS:Hid (Strs y p l):=hs.below Q
 clear hs M J Q
 go_enter func6,ntmps6
 go_wp2
 rw [show w.alloc (.cells #[.int .i64 D,.int .i64 G,.slice p l.length O] 24)=y from U.out.symm]
 clear U
 go_loopw [3] (fun x wr=>∃ i:Nat,i<=l.length/\x=.int .i64 i/\(∀ j,j < i->¬ 60 < (Yc l j).size)/\wr=y) (fun x _=>l.length - (intOf x).toNat)
 case atStart=>exact ⟨0,Nat.zero_le _,rfl,(fun j hj=>absurd hj (Nat.not_lt_zero _)),rfl⟩
 case round =>
  obtain ⟨i,I,rfl,a1,a4⟩:=hrel
  subst a4
  have a0:Hid (∀ j,j < i->¬ 60 < (Yc l j).size):=a1
  clear a1
  by_cases N:i < l.length
  ·rcases HS.out with h0 | ⟨b,o,rfl,a7,hc⟩
   ·rw [h0] at N;exact absurd N (Nat.not_lt_zero _)
   have q1:=hc i N
   have a8:=Y.out i N
   clear hc
   by_cases a2:60 < (Yc l i).size
   ·have K:Hid (r=true):=Z.out i N a2
    clear Z HF a0 Y
    generalize Yc l i=t at *
    go_wp2
    go_ret
    exact ⟨by rw [K.out];rfl,W.out⟩
   ·have a5:Hid (¬ 60 < (Yc l i).size):=a2
    clear Z HF Y
    generalize a3:Yc l i=t at *
    have a6:Hid (Yc l i=t):=a3
    clear a3
    go_wp2
    go_roundw
    case rel=>exact ⟨i+1,by omega,by go_num,(fun j hj=>by
     rcases Nat.lt_or_ge j i with h | h
     ·exact a0.out j h
     ·obtain rfl:j=i:=by omega
      rw [a6.out];exact a5.out),trivial⟩
    case measure=>simp [intOf];omega
  ·have K:Hid (r=false):=HF.out (fun j hj=>a0.out j (by omega))
   go_wp2
   go_ret
   exact ⟨by rw [K.out];rfl,W.out⟩
theorem C3  {p:Option Addr} {j:Nat} (G:Strs w p c.L) (I:c.L.length<=j) (J:p=none->c.L=[]/\j=0) (y:Qk c=false) (K:Jt5 c):Yn w c p j :=
 ⟨G,I,J,by have:=(X1 y).1;omega,fun x D=>by have:=(X1 y).2 x D;omega,K⟩
def Xi (l:List Zb):Nat:=(l.map fun m=>20+u5 m).sum
def X5 (l:List Zb):Bool:=!(l.any fun m=>m.L.any pE) && decide (Xi l < 6000)
theorem JbE  {i:Nat} (h:l[i]?=some m):Xi (l.take (i+1))=Xi (l.take i)+(20+u5 m):=by
 unfold Xi
 rw [List.take_add_one,h,List.map_append,List.sum_append]
 simp
theorem Jd3 (l:List Zb) (i:Nat):Xi (l.take i)<=Xi l:=by
 have h:Xi l=Xi (l.take i)+Xi (l.drop i):=by
  unfold Xi
  rw [<- List.sum_append,<- List.map_append,List.take_append_drop]
 omega
theorem Jb6 (l:List Zb):l.length<=Xi l:=by
 unfold Xi
 induction l with
 | nil=>exact Nat.zero_le _
 | cons x r ih=>rw [List.map_cons,List.sum_cons,List.length_cons];omega
theorem Jds  (h:m ∈ l):20+u5 m<=Xi l:=by
 unfold Xi
 induction l with
 | nil=>cases h
 | cons x r ih =>
  rw [List.map_cons,List.sum_cons]
  rcases List.mem_cons.1 h with e | e
  ·subst e;omega
  ·have:=ih e;omega
theorem Jd4  (h:m ∈ l) (j:m.L.any pE=true):X5 l=false:=by
 unfold X5
 have:(l.any fun m=>m.L.any pE)=true:=List.any_eq_true.2 ⟨m,h,j⟩
 rw [this]
 rfl
theorem Jd5 (h:∀ m ∈ l,m.L.any pE=false):X5 l=decide (Xi l < 6000):=by
 unfold X5
 have:(l.any fun m=>m.L.any pE)=false:=List.any_eq_false.2 fun m y j=>by rw [h m y] at j;cases j
 rw [this]
 rfl
theorem Qy (p:Option Addr) (l:List Zb) (f9:Nat) (w:World) (hw:Xi l<=4611686018427387904) (h:mN w p l) :
 Calls prog 7 #[.slice p l.length f9] w fun e w'=>e=.returned (.bool (X5 l))/\Below w.heap.size w w':=by
 obtain ⟨D,N,hr,hh⟩:=h
 have a2:l.length=D.length:=by rw [<- N,List.length_map]
 have g0:D.length<=4611686018427387904:=by have:=Jb6 l;omega
 have HR:Hid (Ql mE w p D):=hr
 have HH:Hid (∀ x ∈ D,Jn w x):=hh
 have a3:∀ i,i < D.length->(JN D i).1 ∈ l:=fun i I=>by rw [<- N];exact List.mem_map.2 ⟨_,vV I,rfl⟩
 have HG:Hid (∀ i,i < D.length->l[i]?=some (JN D i).1):=fun i I=>by rw [<- N,List.getElem?_map,List.getElem?_eq_getElem I,rR I];rfl
 have b3:Hid (∀ i,i < D.length->Xi (l.take (i+1))=Xi (l.take i)+(20+u5 (JN D i).1)):=fun i I=>JbE (HG.out i I)
 have a4:Hid (∀ i,Xi (l.take i)<=Xi l):=fun i=>Jd3 l i
 have b4:Hid (∀ i,i < D.length->20+u5 (JN D i).1<=Xi l):=fun i I=>Jds (a3 i I)
 have b5:Hid (∀ i,i < D.length->(JN D i).1.L.any pE=true->X5 l=false):=fun i I O=>Jd4 (a3 i I) O
 have e3:Hid ((∀ i,i < D.length->(JN D i).1.L.any pE=false)->X5 l=decide (Xi (l.take D.length) < 6000)):=fun U=>by
  rw [<- a2,List.take_length]
  refine Jd5 fun m hm=>?_
  rw [<- N] at hm
  obtain ⟨x,X,rfl⟩:=List.mem_map.1 hm
  obtain ⟨i,I,rfl⟩:=List.getElem_of_mem X
  have:=U i I
  rw [<- rR I] at this
  exact this
 have H0:Hid (Xi (l.take 0)=0):=by show _=_;rfl
 rw [a2]
 generalize X5 l=R at *
 generalize Xi l=WW at *
 have b6:Hid (∀ (x:Zb×Lv) W,Jn W x->u5 x.1<=9223372036854775807->Calls prog 32 #[.agg #[.string x.1.from_,.string x.1.aP,.string x.1.kind,.string x.1.key,.int .i64 x.1.op,.int .i64 x.1.config,.bool x.1.shut,.slice x.2.1 x.2.2.1 x.2.2.2]] W fun e w'=>e=.returned (.int .i64 ((u5 x.1:Nat):Int))/\Below W.heap.size W w'):=fun x W X O=>by
  have h:=Jeh x.1 x.2.1 x.2.2.2 W X.eC O
  rw [X.len]
  exact h
 clear hr hh N a2 a3 HG
 go_enter func7,ntmps7
 go_wp2
 go_loopw [3,4] (fun nv x wr=>∃ i:Nat,i<=D.length/\x=.int .i64 i/\nv=.int .i64 ((Xi (l.take i):Nat):Int)/\(∀ j,j < i->(JN D j).1.L.any pE=false)/\Below w.heap.size w wr) (fun _ x _=>D.length - (intOf x).toNat)
 case atStart=>exact ⟨0,Nat.zero_le _,rfl,by rw [H0.out];rfl,fun j J=>absurd J (Nat.not_lt_zero _),Below.refl _ _⟩
 case round =>
  obtain ⟨i,I,rfl,rfl,U,hB⟩:=hrel
  obtain ⟨K,rfl⟩:∃ K,K=wr:=⟨_,rfl⟩
  have Y:Hid (Below w.heap.size w K):=hB
  have a5:Hid (∀ j,j < i->(JN D j).1.L.any pE=false):=U
  have g1:=a4.out i
  clear U
  by_cases M:i < D.length
  ·obtain ⟨b,o,a6,e4,d0,Z,d2,d3,d4,d5,d6,d7⟩:=WB (HR.out.below hB) M
   rw [rR M] at d0 Z d2 d3 d4 d5 d6 d7
   have g2:=b4.out i M
   have a7:=b3.out i M
   have e5:=a4.out (i+1)
   rw [a7] at e5
   have a8:Hid (Jn w (JN D i)):=HH.out _ (vV M)
   have b7:=b6.out (JN D i) K (a8.out.below hB) (by omega)
   have e6:Hid (Xi (l.take (i+1))=Xi (l.take i)+(20+Go.Proofs.YtmikbldbfnlfjaaGreatDoor.u5 (JN D i).1)):=a7
   have e7:Hid ((JN D i).1.L.any pE=true->R=false):=b5.out i M
   have e8:Hid ((JN D i).1.L.any pE=false->∀ j,j < i+1->(JN D j).1.L.any pE=false):=fun O j J=>by
    by_cases e:j=i
    ·rw [e];exact O
    ·exact a5.out j (by omega)
   have g3:=Ja3 (JN D i).1.L
   have g4:Zm (JN D i).1.L<=Go.Proofs.YtmikbldbfnlfjaaGreatDoor.u5 (JN D i).1:=by unfold Go.Proofs.YtmikbldbfnlfjaaGreatDoor.u5;omega
   subst a6
   clear a7 hB HH b6 b3 a4 b4 b5 a5
   generalize JN D i=x at *
   generalize Xi (l.take i)=ni at *
   obtain ⟨⟨m1,m2,m3,m4,m5,m6,m7,G⟩,lp,ln,lc⟩:=x
   have e9:ln=G.length:=a8.out.len
   subst e9
   dsimp only at *
   generalize Go.Proofs.YtmikbldbfnlfjaaGreatDoor.u5 ⟨m1,m2,m3,m4,m5,m6,m7,G⟩=bn at *
   have a0:Hid (∀ W,Below K.heap.size K W->W.cell? ⟨b,o+i*8+7,none⟩=some (.slice lp G.length lc)/\Ql Ze W lp G/\Below w.heap.size w W):=fun W hW=>⟨(hW.cell (p:=⟨b,o+i*8+7,none⟩) e4).trans d7,(a8.out.eC.below Y.out).below hW,Y.out.trans (hW.mono Y.out.size)⟩
   have f3:Hid (∀ j,j < G.length->pE (Xd G j)=true->G.any pE=true):=fun j J hv=>Jd6 J hv
   have f4:Hid (∀ j,j < G.length->(G.take (j+1)).any pE=((G.take j).any pE || pE (Xd G j))):=fun j J=>Jel J
   have g5:Hid (G.take G.length=G):=List.take_length
   go_wp2_with fail
   refine b7.mono ?_
   rintro e w2 ⟨rfl,a9⟩
   have b0:Hid (Below K.heap.size K w2):=a9
   have q7:=(a0.out w2 a9).1
   clear b7 a9 d0 Z d2 d3 d4 d5 d6 d7
   go_wp2
   go_loopw [5] (fun y wr=>∃ j:Nat,j<=G.length/\y=.int .i64 j/\(G.take j).any pE=false/\wr=w2) (fun y _=>G.length - (intOf y).toNat)
   case atStart=>exact ⟨0,Nat.zero_le _,rfl,rfl,rfl⟩
   case round =>
    obtain ⟨j,J,rfl,d8,f5⟩:=hrel
    subst f5
    have b1:Hid ((G.take j).any pE=false):=d8
    clear d8
    by_cases b2:j < G.length
    ·obtain ⟨b',o',a6,g6,v0,v1,v2,v3,v4⟩:=QU (a0.out wr b0.out).2.1 b2
     subst a6
     have HS:=f4.out j b2
     have HI:=f3.out j b2
     have a1:Hid (pE (Xd G j)=decide (200 < (Xd G j).size/\(Xd G j).size<=1000)):=by show _=_;rfl
     rw [b1.out,Bool.false_or] at HS
     have d9:Hid ((G.take (j+1)).any pE=pE (Xd G j)):=HS
     have f6:Hid (pE (Xd G j)=true->G.any pE=true):=HI
     clear HS HI v0 v1 v3 v4
     generalize Xd G j=x at *
     obtain ⟨xn,xw,xs,xa,xt⟩:=x
     dsimp only at v2 a1
     by_cases h1:200 < xs
     ·have Z:decide (200 < xs)=true:=decide_eq_true h1
      by_cases h2:xs<=1000
      ·have d2:decide (xs<=1000)=true:=decide_eq_true h2
       have f7:Hid (R=false):=e7.out (f6.out (by rw [a1.out];exact decide_eq_true ⟨h1,h2⟩))
       go_wp2
       go_ret
       exact ⟨by rw [f7.out];rfl,(a0.out wr b0.out).2.2⟩
      ·have d2:decide (xs<=1000)=false:=decide_eq_false h2
       have Q:Hid ((G.take (j+1)).any pE=false):=by show _=_;rw [d9.out,a1.out];exact decide_eq_false fun h=>h2 h.2
       go_wp2
       go_roundw
       case rel=>exact ⟨j+1,by omega,by go_num,Q.out,trivial⟩
       case measure=>simp [intOf];omega
     ·have Z:decide (200 < xs)=false:=decide_eq_false h1
      have Q:Hid ((G.take (j+1)).any pE=false):=by show _=_;rw [d9.out,a1.out];exact decide_eq_false fun h=>h1 h.1
      go_wp2
      go_roundw
      case rel=>exact ⟨j+1,by omega,by go_num,Q.out,trivial⟩
      case measure=>simp [intOf];omega
    ·have e0:G.take j=G:=List.take_of_length_le (by omega)
     have Q:Hid (G.any pE=false):=by have:=b1.out;rw [e0] at this;exact this
     have f8:Hid (((ni:Int)+20+(bn:Int))=((Xi (l.take (i+1)):Nat):Int)):=by show _=_;rw [e6.out];omega
     clear e0 b1
     go_wp2
     go_roundw
     case rel=>exact ⟨i+1,by omega,by go_num,by rw [<- f8.out],e8.out Q.out,(a0.out wr b0.out).2.2⟩
     case measure=>simp [intOf];omega
  ·have e1:Hid (R=decide (Xi (l.take D.length) < 6000)):=e3.out fun j J=>a5.out j (by omega)
   have e2:i=D.length:=by omega
   rw [<- e2] at e1
   clear hB e2
   generalize Xi (l.take i)=ni at *
   go_wp2
   go_ret
   exact ⟨sB (by rw [e1.out];exact decide_eq_decide.2 (by omega)),Y.out⟩
section
variable {w w':World} {B:Nat} {S:Nat->Prop} {ab:Nat} {a:Za} {mv nv fv lv:Value} {vs:List Value}
theorem Jc5 (h:Qa w B S ab a mv nv fv lv vs) (O:a.c.L.length<=1000):Calls prog 17 #[.pointer (some ⟨ab,0,none⟩)] w fun e w'=>(∃ p c,e=.returned (.slice p a.begin.length c)/\mN w' p a.begin)/\Below w.heap.size w w':=by
 have Y:w.cell? ⟨ab,12,none⟩=some (.bool a.aI):=h.cell 12
 have J:w.cell? ⟨ab,13,none⟩=some (.string a.st.word):=h.cell 13
 have j:=JbZ h O1 O
 have y:=JbZ h rO O
 have K:O1=⟨#[115,101,97,108]⟩:=rfl
 have M:rO=⟨#[108,111,111,107]⟩:=rfl
 have N:Hid (a.begin=if a.aI then (if a.st=.sealing then a.send O1 false else []) else a.send rO false):=by show _=_;rfl
 rw [N.out]
 clear N
 generalize Q:a.send O1 false=Z at *
 generalize U:a.send rO false=l2 at *
 rw [K] at j
 rw [M] at y
 clear h Q U K M
 generalize a.aI=W at *
 generalize a.st=st at *
 cases W with
 | false =>
  rw [if_neg (by decide)]
  clear j
  go_enter func17,ntmps17
  go_wp2_with fail
  refine y.mono ?_
  rintro e X ⟨⟨p,c,rfl,G⟩,I⟩
  clear y
  go_wp2
  go_ret
  exact ⟨⟨p,c,rfl,G⟩,I⟩
 | true =>
  rw [if_pos rfl]
  by_cases D:st=.sealing
  ·rw [if_pos D]
   have q:w.cell? ⟨ab,13,none⟩=some (.string ⟨#[115,101,97,108,105,110,103]⟩):=by rw [J,D];rfl
   clear J y
   go_enter func17,ntmps17
   go_wp2_with fail
   refine j.mono ?_
   rintro e X ⟨⟨p,c,rfl,G⟩,I⟩
   clear j
   go_wp2
   go_ret
   exact ⟨⟨p,c,rfl,G⟩,I⟩
  ·rw [if_neg D]
   have a0:¬ st.word.toList=[115,101,97,108,105,110,103]:=by cases st <;> first | exact absurd rfl D | decide +kernel
   have a1:(st.word.toList==[115,101,97,108,105,110,103])=false:=by cases st <;> first | exact absurd rfl D | decide +kernel
   clear j y
   generalize st.word=sw at *
   go_enter func17,ntmps17
   go_wp2
   go_ret
   exact ⟨⟨none,0,rfl,mN.nil _ _⟩,Below.refl _ _⟩
end
theorem Qc  {j:Array Value} {t:TypeId} (h:w.heap[b]?=some (.cells j t (0,0))) (i:Nat) (v:Value):(w.setCell ⟨b,i,none⟩ v).heap[b]?=some (.cells (j.setIfInBounds i v) t (0,0)):=by
 simp [World.setCell,Array.getElem?_modify,h]
section
open Go.ChangeShapes Go.WideShapes Go.ChangeAt Go.RowKit
theorem Jaw:prog.cellsOf 3=1:=by kernel_rfl
theorem Jc7:∃ f0 f1 f2,prog.underlying 76=some (.struct #[f0,f1,f2])/\f0.offset=0/\f1.offset=2/\f2.offset=3/\f0.type=46/\f1.type=3/\f2.type=74:=⟨_,_,_,underlying76,rfl,rfl,rfl,rfl,rfl,rfl⟩
theorem Jc8:∃ f0 f1,prog.underlying 46=some (.struct #[f0,f1])/\f0.offset=0/\f1.offset=1/\f0.type=3/\f1.type=3:=⟨_,_,underlying46,rfl,rfl,rfl,rfl⟩
theorem Jcx:∃ f0 f1,prog.underlying 74=some (.struct #[f0,f1])/\f0.offset=0/\f1.offset=1/\f0.type=3/\f1.type=9:=⟨_,_,underlying74,rfl,rfl,rfl,rfl⟩
theorem Jci:prog.cellsOf 76=5:=by kernel_rfl
theorem JdB:prog.cellsOf 46=2:=by kernel_rfl
theorem JcL:prog.cellsOf 74=2:=by kernel_rfl
theorem JaL:prog.cellsOf 9=1:=by kernel_rfl
theorem Jc9:prog.cellsOf 55=1:=by kernel_rfl
structure RC {H:Type} (m:DataW H->Nat):Prop where
 one:∀ d,1<=m d
 str:∀ l:List UInt8,l.length<=m (.lit (.string l))
 agg:∀ l:List (DataW H),(l.map m).sum<=m (.agg l)
 slice:∀ es sp:List (DataW H),(es.map m).sum<=m (.slice es sp)
theorem JaU {f g:Nat->Nat}:∀ n,(∀ i,i < n->f i<=g i)->((List.range n).map f).sum<=((List.range n).map g).sum
 | 0,_=>Nat.le_refl _
 | n+1,h=>by
  have ih:=JaU n (fun i j=>h i (by omega))
  have:=h n (by omega)
  simp only [List.range_succ,List.map_append,List.sum_append,List.map_cons,List.map_nil,List.sum_cons,List.sum_nil]
  omega
theorem Jda {α:Type} {f:α->Nat} {l:List α} {x:α} (h:x ∈ l):f x<=(l.map f).sum:=by
 induction l with
 | nil=>cases h
 | cons y r ih =>
  rw [List.map_cons,List.sum_cons]
  cases List.mem_cons.1 h with
  | inl e=>subst e;omega
  | inr e=>have:=ih e;omega
theorem RC.H7 {m:DataW H->Nat} (j:RC m) (s:ByteArray):s.size<=m (.lit (.string s.data.toList)):=by
 have e:s.data.toList.length=s.size:=by simp
 have:=j.str s.data.toList
 omega
theorem RC.jak {m:DataW H->Nat} (j:RC m) {d:DataW H} {l:List (DataW H)} (h:d ∈ l):m d<=m (.agg l):=Nat.le_trans (Jda h) (j.agg l)
theorem JdC {m:DataW H->Nat} (I:RC m) {enc:TypeId×Value->H}  {M:List Value} {y:DataW H×List MemPlace} (h:DataW.trod enc prog W 0 (fun _=>true) true fuel 76 M=some y):∃ x:Yb,M=JL x/\Jt x/\1+x.text.size / 20<=m y.1:=by
 obtain ⟨g0,g1,g2,a6,p0,p1,p2,u0,u1,u2⟩:=Jc7
 obtain ⟨a0,a1,a7,b0,b1,c0,c1⟩:=Jc8
 obtain ⟨d0,d1,a8,e0,N,i0,i1⟩:=Jcx
 obtain ⟨J,K,j,n2,rfl,O,Q,U,X⟩:=Deep.trod_struct3 a6 h
 rw [Jci] at O
 match M,O with
 | [v0,v1,v2,v3,v4],_ =>
  rw [u0,p0,JdB] at Q
  rw [u1,p1,Jaw] at U
  rw [u2,p2,JcL] at X
  obtain ⟨xs,Y,_,ws⟩:=DataW.trod_int underlying3 U
  obtain ⟨r0,r1,n3,_,_,Z,l1⟩:=trod_struct2 a7 Q
  rw [c0,b0,Jaw] at Z
  rw [c1,b1,Jaw] at l1
  obtain ⟨xn,a2,_,wn⟩:=DataW.trod_int underlying3 Z
  obtain ⟨xw,a3,_,ww⟩:=DataW.trod_int underlying3 l1
  obtain ⟨q0,D,n4,a9,_,m0,m1⟩:=trod_struct2 a8 X
  rw [i0,e0,Jaw] at m0
  rw [i1,N,JaL] at m1
  obtain ⟨xa,a4,_,wa⟩:=DataW.trod_int underlying3 m0
  obtain ⟨G,a5,b2,b3⟩:=DataW.trod_string underlying9 m1
  simp at Y a2 a3 a4 a5
  subst Y a2 a3 a4 a5
  refine ⟨⟨xn,xw,xs,xa,G⟩,rfl,⟨bounds_i64 wn,bounds_i64 ww,bounds_i64 ws,bounds_i64 wa⟩,?_⟩
  have h0:=I.one (DataW.agg (H:=H) [J.1,K.1,j.1])
  have h1:=I.H7 G
  have h2:m D.1<=m (.agg [q0.1,D.1]):=I.jak (by simp)
  have h3:m j.1<=m (.agg [J.1,K.1,j.1]):=I.jak (by simp)
  have N:m D.1=m (DataW.lit (H:=H) (.string G.data.toList)):=by rw [b2]
  have e2:m j.1=m (.agg [q0.1,D.1]):=by rw [a9]
  show 1+G.size / 20<=m (.agg [J.1,K.1,j.1])
  omega
theorem JdD {m:DataW H->Nat} (hb:RC m) {enc:TypeId×Value->H}  {y:DataW H×List MemPlace} (h:DataW.trod enc prog W 0 (fun _=>true) true fuel 55 [v]=some y) :
 ∃ p l U,v=.slice p l.length U/\Ql Ze W p l/\l.length<=U/\(p=none->l=[]/\U=0)/\(∀ x ∈ l,Jt x)/\Jcf l<=m y.1:=by
 rcases Deep.open_slice underlying55 h with ⟨K,_⟩ | ⟨a,G,a0,m0,nn,D,Pl,K,_,b0,b1,hm,hy,X⟩
 ·simp at K
  subst K
  exact ⟨none,[],0,rfl,Or.inl rfl,Nat.le_refl _,fun _=>⟨rfl,rfl⟩,(fun x X=>by cases X),Nat.zero_le _⟩
 ·simp at K
  subst K
  have b2:G<=m0:=by rw [hm];split <;> omega
  have a1:((List.range G).map fun i=>m (D i)).sum<=m y.1:=by
   rw [hy]
   have M:=hb.slice ((List.range G).map D)
   simp only [List.map_map] at M
   exact M _
  have J:∀ i,∃ x:Yb,i < G->(∀ j u,(JL x)[j]?=some u->W.cell? ((a.add (i*5)).add j)=some u)/\Jt x/\1+x.text.size / 20<=m (D i):=fun i=>by
   by_cases I:i < G
   ·obtain ⟨b3,M,h2⟩:=X i (by omega)
    obtain ⟨x,a2,a3,a4⟩:=JdC hb h2
    rw [Jci] at M
    obtain ⟨_,N,a5⟩:=World.cells?_some M
    refine ⟨x,fun _=>⟨fun j u O=>?_,a3,a4⟩⟩
    have b4:j < 5:=(List.getElem?_eq_some_iff.1 O).1
    have:=a5 j (by omega)
    rw [this,a2]
    exact O
   ·exact ⟨⟨0,0,0,0,⟨#[]⟩⟩,fun h=>absurd h I⟩
  have N:((List.range G).map fun i=>Classical.choose (J i)).length=G:=by simp
  have a6:∀ i,i < G->((List.range G).map fun i=>Classical.choose (J i))[i]?=some (Classical.choose (J i)):=fun i I=>by
   rw [List.getElem?_map,List.getElem?_range I]
   rfl
  refine ⟨some a,(List.range G).map fun i=>Classical.choose (J i),a0,by rw [N],?_,by rw [N];omega,(fun e=>by cases e),fun x a7=>?_,?_⟩
  ·by_cases h0:G=0
   ·exact Or.inl (List.length_eq_zero_iff.1 (by rw [N];exact h0))
   ·obtain ⟨u0,Q⟩:∃ u,W.cell? ((a.add (0*5)).add 0)=some u:=⟨_,(Classical.choose_spec (J 0) (by omega)).1 0 _ rfl⟩
    obtain ⟨b,a8,sp⟩:=a
    have a9:sp=none:=by
     cases sp with
     | none=>rfl
     | some q =>
      exfalso
      simp [Addr.add,World.cell?] at Q
      revert Q
      split <;> intro h9 <;> cases h9
    subst a9
    refine Or.inr ⟨b,a8,rfl,?_,fun i x Y j u O=>?_⟩
    ·rw [Addr.add_lit,Addr.add_lit] at Q
     rcases Nat.lt_or_ge b W.heap.size with Z | Z
     ·exact Z
     ·simp [World.cell?,Array.getElem?_eq_none Z] at Q
    ·have I:i < G:=by have:=(List.getElem?_eq_some_iff.1 Y).1;rw [N] at this;exact this
     rw [a6 i I] at Y
     have e:=Option.some.inj Y
     have hc:=(Classical.choose_spec (J i) I).1 j u (by rw [e];exact O)
     rw [Addr.add_lit,Addr.add_lit] at hc
     exact hc
  ·obtain ⟨i,I,rfl⟩:=List.mem_map.1 a7
   exact (Classical.choose_spec (J i) (List.mem_range.1 I)).2.1
  ·refine Nat.le_trans ?_ a1
   unfold Jcf
   rw [List.map_map]
   exact JaU G fun i I=>(Classical.choose_spec (J i) I).2.2
end
end Go.Proofs.YtmikbldbfnlfjaaGreatDoor
