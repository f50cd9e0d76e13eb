/- Texts laid together. -/
import Derived.Test.YtmikbldbfnlfjaaGreatDoorCs12
set_option maxRecDepth 10000
set_option maxHeartbeats 16000000
namespace Go.Proofs.YtmikbldbfnlfjaaGreatDoor
open Go.Proofs.Tryz
open Go.RowKit
section
variable {w w':World} {B:Nat} {S:Nat->Prop} {ab:Nat} {a:Za} {mv nv fv lv:Value} {vs:List Value}
theorem JcU (h:Qa w B S ab a mv nv fv lv vs) (x:Zb×Lv) (hl:a.c.L.length<=1000) (Q3:a.from_.length<=900) (j3:a.aM x.1=true) (M9:x.1.shut=true) (p5:a.st=.sealing) (B3:a.put=false) (B5:a.aI=true) (B8:(a.next.L.length:Int)=a.next.n/\1<=a.next.k/\a.next.k<=a.next.n/\a.next.n<=12) (B9:0<=a.config/\a.config < 9223372036854775807) (C0:a.from_.length=a.L.length) (C1:(a.c.L.length:Int)=a.c.n) (C2:a.text.size<=1000) (C4:(a.heard x.1).L.flatten.length<=1000) (C5:(Xq (a.heard x.1).from_ (a.heard x.1).L a.c.L).flatten.length<=1000) (C9:Jh a.c<=a.from_.length+1) (p7:1<=a.c.k/\a.c.k<=a.c.n/\a.c.n<=12) (L5:a.L.length<=900) (Q4:x.1.L.length<=1000) (N3:x.2.2.1=x.1.L.length) (D1:x.2.1=none->x.1.L=[]/\x.2.2.2=0) (D5:∀ W:World,w.heap.size<=W.heap.size->(∀ k,k < w.heap.size->¬ S k->W.heap[k]?=w.heap[k]?)->Ql Ze W x.2.1 x.1.L):Calls prog 20 #[.pointer (some ⟨ab,0,none⟩),.agg #[.string x.1.from_,.string x.1.aP,.string x.1.kind,.string x.1.key,.int .i64 x.1.op,.int .i64 x.1.config,.bool x.1.shut,.slice x.2.1 x.2.2.1 x.2.2.2]] w fun e w'=>(∃ p c,e=.returned (.slice p (fU (a.heard x.1)).2.length c)/\mN w' p (fU (a.heard x.1)).2)/\∃ S' D7 D8 D9 E0,Qa w' B S' ab (fU (a.heard x.1)).1 D7 nv D8 D9 E0/\Yd S S' w w':=by
 have p9:Hid ((a.heard x.1).put=false):=B3
 have j5:Hid ((a.heard x.1).aI=true):=B5
 have E4:Hid (((a.heard x.1).next.L.length:Int)=(a.heard x.1).next.n/\1<=(a.heard x.1).next.k/\(a.heard x.1).next.k<=(a.heard x.1).next.n/\(a.heard x.1).next.n<=12):=B8
 have E5:Hid (0<=(a.heard x.1).config/\(a.heard x.1).config < 9223372036854775807):=B9
 have F1:Hid ((a.heard x.1).next=a.next):=by show _=_;rfl
 have F2:Hid ((a.heard x.1).st=.sealing):=p5
 have q0:Hid ((a.heard x.1).L.flatten.length<=1000):=C4
 have h4:Hid ((a.heard x.1).from_.length=(a.heard x.1).L.length/\(a.heard x.1).from_.length<=1000/\(a.heard x.1).L.length<=1000):=⟨by show (a.from_ ++ [x.1.from_]).length=(a.L ++ [x.1.L]).length;simp [C0],by show (a.from_ ++ [x.1.from_]).length<=1000;simp;omega,by show (a.L ++ [x.1.L]).length<=1000;simp;omega⟩
 have q4:Hid ((a.heard x.1).text.size<=1000):=C2
 have h5:Hid (¬ (a.heard x.1).from_.length < Jh (a.heard x.1).c):=by show ¬ (a.from_ ++ [x.1.from_]).length < Jh a.c;simp;omega
 have j6:Hid (((a.heard x.1).c.L.length:Int)=(a.heard x.1).c.n/\1<=(a.heard x.1).c.k/\(a.heard x.1).c.k<=(a.heard x.1).c.n/\(a.heard x.1).c.n<=12):=⟨C1,p7⟩
 have q5:Hid ((a.heard x.1).L.length=a.L.length+1/\(a.heard x.1).c=a.c):=⟨by show (a.L ++ [x.1.L]).length=_;simp,rfl⟩
 have j8:Hid ((Xq (a.heard x.1).from_ (a.heard x.1).L (a.heard x.1).c.L).flatten.length<=1000):=C5
 clear B3 B5 B8 B9 C0 C1 C2 C4 C5
 obtain ⟨i0,F5,F6,F7,F8⟩:=info_parts (P:=prog) (e:=9) (z:=.string ⟨#[]⟩) (size:=1) (bytes:=16) (by kernel_rfl)
 obtain ⟨j0,F9,G0,G1,G2⟩:=info_parts VU
 obtain ⟨mp,G,G3,q6,N6,G8,G9⟩:=h.mem.at_
 obtain ⟨Q,U,H0,_⟩:=h.rD.at_
 obtain ⟨fp,fc,H1,q7,N7,H4,_⟩:=h.from_.form
 have H5:Hid (Qa w B S ab a mv nv fv lv vs):=h
 subst G3 H1 H0
 obtain ⟨⟨m1,m2,m3,m4,m5,m6,m7,K⟩,lp,ln,lc⟩:=x
 dsimp only at *
 subst M9
 subst N3
 obtain ⟨I,a2⟩:∃ I,I=w.alloc (.cells #[.string m1,.string m2,.string m3,.string m4,.int .i64 m5,.int .i64 m6,.bool true,.slice lp K.length lc] 59):=⟨_,rfl⟩
 have d9:Below w.heap.size w I:=by rw [a2];exact (Below.refl _ _).alloc (Nat.le_refl _) _
 have a3:=h.below d9
 have r0:=U1 a3
 have c0:I.cell? ⟨ab,0,none⟩=some (.string a.name):=a3.cell 0
 have c1:I.cell? ⟨ab,1,none⟩=some (.string a.key):=a3.cell 1
 have c3:I.cell? ⟨ab,3,none⟩=some (.int .i64 a.op):=a3.cell 3
 have c4:I.cell? ⟨ab,4,none⟩=some (.int .i64 a.config):=a3.cell 4
 have c7:I.cell? ⟨ab,7,none⟩=some (.slice mp a.c.L.length G):=a3.cell 7
 have a7:I.cell? ⟨ab,14,none⟩=some (.slice fp a.from_.length fc):=a3.cell 14
 have e4:I.cell? ⟨ab,13,none⟩=some (.string ⟨#[115,101,97,108,105,110,103]⟩):=by rw [a3.cell 13];show some (Value.string a.st.word)=_;rw [p5];rfl
 have d0:I.cell? ⟨w.heap.size,0,none⟩=some (.string m1):=by rw [a2,World.cell?_alloc_at _ _ _ _ rfl];rfl
 have d1:I.cell? ⟨w.heap.size,1,none⟩=some (.string m2):=by rw [a2,World.cell?_alloc_at _ _ _ _ rfl];rfl
 have d2:I.cell? ⟨w.heap.size,2,none⟩=some (.string m3):=by rw [a2,World.cell?_alloc_at _ _ _ _ rfl];rfl
 have d3:I.cell? ⟨w.heap.size,3,none⟩=some (.string m4):=by rw [a2,World.cell?_alloc_at _ _ _ _ rfl];rfl
 have d4:I.cell? ⟨w.heap.size,4,none⟩=some (.int .i64 m5):=by rw [a2,World.cell?_alloc_at _ _ _ _ rfl];rfl
 have d5:I.cell? ⟨w.heap.size,5,none⟩=some (.int .i64 m6):=by rw [a2,World.cell?_alloc_at _ _ _ _ rfl];rfl
 have r1:Hid (∀ W,Below I.heap.size I W->Strs W mp a.c.L):=fun W X=>(q6.below d9).below X
 have r2:Hid (∀ W,Below I.heap.size I W->Strs W fp a.from_):=fun W X=>(q7.below d9).below X
 have H6:Hid (I=w.alloc (.cells #[.string m1,.string m2,.string m3,.string m4,.int .i64 m5,.int .i64 m6,.bool true,.slice lp K.length lc] 59)):=a2
 have r3:Hid (Below w.heap.size w I):=d9
 have d6:I.cell? ⟨w.heap.size,6,none⟩=some (.bool true):=by rw [a2,World.cell?_alloc_at _ _ _ _ rfl];rfl
 have d7:I.cell? ⟨w.heap.size,7,none⟩=some (.slice lp K.length lc):=by rw [a2,World.cell?_alloc_at _ _ _ _ rfl];rfl
 have N8:I.heap.size=w.heap.size+1:=by rw [a2];simp
 have H7:Hid (Qa I B S ab a (.slice mp a.c.L.length G) (.slice Q a.next.L.length U) (.slice fp a.from_.length fc) lv vs):=a3
 have r4:Hid (∀ W:World,w.heap.size<=W.heap.size->(∀ k,k < w.heap.size->¬ S k->W.heap[k]?=w.heap[k]?)->Ql Ze W lp K):=D5
 have H9:Hid (lp=none->K=[]/\lc=0):=D1
 have k5:Hid (Jh a.c<=a.from_.length+1):=C9
 have N9:Hid (a.st.word=⟨#[115,101,97,108,105,110,103]⟩):=by show _=_;rw [p5];rfl
 have r5:Hid (1<=a.c.k/\a.c.k<=a.c.n/\a.c.n<=12):=p7
 obtain ⟨g0,g1,g2,g3,g4,g5,g6,g7⟩:a.st.waits≠⟨#[]⟩/\m3=a.st.waits/\m2=a.name/\m4=a.key/\m5=a.op/\m6=a.config/\m1 ∈ a.c.L/\m1 ∉ a.from_:=by
  unfold Za.aM at j3
  rw [Bool.and_eq_true,Bool.and_eq_true] at j3
  obtain ⟨q1,q2,q3⟩:=j3
  have b7:=of_decide_eq_true q1
  exact ⟨b7.1,b7.2.1,b7.2.2.1,b7.2.2.2.1,b7.2.2.2.2.1,b7.2.2.2.2.2,Zl.1 q2,fun hm=>by rw [Zl.2 hm] at q3;cases q3⟩
 have r6:Hid (∀ W,Below I.heap.size I W->Calls prog 46 #[.slice mp a.c.L.length G,.string m1] W fun e w'=>e=.returned (.int .i64 ((ZJ a.c.L m1:Nat):Int))/\w'=W):=fun W X=>ML mp a.c.L G m1 W (by omega) (r1.out W X) g6
 have r7:Hid (∀ W,Below I.heap.size I W->Calls prog 46 #[.slice fp a.from_.length fc,.string m1] W fun e w'=>e=.returned (.int .i64 (-1))/\w'=W):=fun W X=>O5 fp a.from_ fc m1 W (by omega) (r2.out W X) g7
 clear h q6 G9 q7 H4 G8 d9 a2 a3 j3 r1 r2 D5 D1 C9 p7 g6 g7
 generalize ZJ a.c.L m1=j1 at *
 have n1:decide ((j1:Int) < 0)=false:=decide_eq_false (by omega)
 have t0:=XT g0
 have u0:=YT g0
 have v0:=Y8 g0
 have e0:(⟨#[]⟩:ByteArray).toList=[]:=by decide +kernel
 rw [e0] at t0 u0
 subst g1 g2 g3 g4 g5
 generalize a.st.waits=wt at *
 clear g0
 go_enter func20,ntmps20
 go_wp2_with (first | rw [<- H6.out] | fail)
 refine r0.mono ?_
 rintro e w2 ⟨rfl,s1⟩
 rw [s1]
 clear s1 w2 r0
 go_wp2
 go_quiet (fail)
 generalize a8:World.drewN I _=wq
 have I0:wq.cell? ⟨ab,7,none⟩=some (.slice mp a.c.L.length G):=by rw [<- a8];exact c7
 have s2:wq.cell? ⟨ab,14,none⟩=some (.slice fp a.from_.length fc):=by rw [<- a8];exact a7
 have s3:wq.cell? ⟨ab,13,none⟩=some (.string ⟨#[115,101,97,108,105,110,103]⟩):=by rw [<- a8];exact e4
 have s4:wq.cell? ⟨w.heap.size,0,none⟩=some (.string m1):=by rw [<- a8];exact d0
 have s5:wq.cell? ⟨w.heap.size,6,none⟩=some (.bool true):=by rw [<- a8];exact d6
 have s6:wq.cell? ⟨w.heap.size,7,none⟩=some (.slice lp K.length lc):=by rw [<- a8];exact d7
 have h6:Below I.heap.size I wq:=by rw [<- a8];exact below_drewN (Below.refl _ _) _
 clear a8 c0 c1 c3 c4 c7 e4 a7 d0 d1 d2 d3 d4 d5 d6 d7
 go_wp2
 go_quiet (first | (go_at_call 46;with_reducible exact Calls.quiet_of_same (r6.out _ (below_drewN h6 _))) | (go_at_call 46;with_reducible exact Calls.quiet_of_same (r7.out _ (below_drewN h6 _))))
 generalize a9:World.drewN wq _=wr
 have I2:wr.cell? ⟨ab,14,none⟩=some (.slice fp a.from_.length fc):=by rw [<- a9];exact s2
 have I3:wr.cell? ⟨ab,13,none⟩=some (.string ⟨#[115,101,97,108,105,110,103]⟩):=by rw [<- a9];exact s3
 have s7:wr.cell? ⟨w.heap.size,0,none⟩=some (.string m1):=by rw [<- a9];exact s4
 have I4:wr.cell? ⟨w.heap.size,6,none⟩=some (.bool true):=by rw [<- a9];exact s5
 have s8:wr.cell? ⟨w.heap.size,7,none⟩=some (.slice lp K.length lc):=by rw [<- a9];exact s6
 have s9:Below I.heap.size I wr:=by rw [<- a9];exact below_drewN h6 _
 have k6:Hid (Below I.heap.size I wr):=s9
 clear a9 I0 s3 s2 s4 s5 s6 h6 s9 r6 r7 n1 t0 u0 v0 e0
 go_wp2
 have b0:Below wr.heap.size wr (wr.alloc (.cells #[.string m1] 9)):=(Below.refl _ _).alloc (Nat.le_refl _) _
 have t3:=k6.out.size
 have h7:Hid (Below I.heap.size I ((wr.alloc (.cells #[.string m1] 9)).drew)):=(k6.out.trans (b0.mono t3)).drew
 have a5:Hid (Qa ((wr.alloc (.cells #[.string m1] 9)).drew) B S ab a (.slice mp a.c.L.length G) (.slice Q a.next.L.length U) (.slice fp a.from_.length fc) lv vs):=H7.out.below h7.out
 have I5:(wr.alloc (.cells #[.string m1] 9)).cell? ⟨ab,14,none⟩=some (.slice fp a.from_.length fc):=a5.out.cell 14
 have I6:(wr.alloc (.cells #[.string m1] 9)).cell? ⟨w.heap.size,0,none⟩=some (.string m1):=(b0.cell (p:=⟨w.heap.size,0,none⟩) (by show w.heap.size < wr.heap.size;omega)).trans s7
 have t4:(wr.alloc (.cells #[.string m1] 9)).cell? ⟨w.heap.size,7,none⟩=some (.slice lp K.length lc):=(b0.cell (p:=⟨w.heap.size,7,none⟩) (by show w.heap.size < wr.heap.size;omega)).trans s8
 have e5:Hid ((wr.alloc (.cells #[.string m1] 9)).cell? ⟨wr.heap.size,0,none⟩=some (.string m1)):=by show _=_;rw [World.cell?_alloc_at _ _ _ _ rfl];rfl
 have t5:Hid (((wr.alloc (.cells #[.string m1] 9)).drew).cell? ⟨w.heap.size,7,none⟩=some (.slice lp K.length lc)):=t4
 clear b0 t4 s8 I4 I3
 have t6:Hid (∀ v w3,JM w3 B 9 v (a.from_.map Value.string ++ [.string m1])->((wr.alloc (.cells #[.string m1] 9)).drew).grownBy w3 (Value.slice fp a.from_.length fc).ownBlock->(v.ownBlock=(Value.slice fp a.from_.length fc).ownBlock∨v.ownBlock=some ((wr.alloc (.cells #[.string m1] 9)).drew).heap.size)->∃ J c3,v=.slice J (a.from_.length+1) c3/\Qa (w3.setCell ⟨ab,14,none⟩ (.slice J (a.from_.length+1) c3)) B (fun k=>S k∨(Value.slice J (a.from_.length+1) c3).ownBlock=some k) ab { a with from_:=a.from_ ++ [m1] } (.slice mp a.c.L.length G) (.slice Q a.next.L.length U) (.slice J (a.from_.length+1) c3) lv vs/\Yd S (fun k=>S k∨(Value.slice J (a.from_.length+1) c3).ownBlock=some k) w (w3.setCell ⟨ab,14,none⟩ (.slice J (a.from_.length+1) c3))/\w3.frozen? ⟨ab,14,none⟩=false/\w3.cell? ⟨ab,14,none⟩=some (.slice fp a.from_.length fc)/\(w3.setCell ⟨ab,14,none⟩ (.slice J (a.from_.length+1) c3)).cell? ⟨w.heap.size,7,none⟩=some (.slice lp K.length lc)):=fun v w3 h8 e6 h9=>by
  have t7:Zq w3 B v (a.from_ ++ [m1]):=by unfold Zq;rw [List.map_append];exact h8
  obtain ⟨J,c3,t8,_⟩:=t7.form
  rw [List.length_append,List.length_singleton] at t8
  subst t8
  have HF:=a5.out.from t7 e6 h9
  have t9:=(e6.block ab (a5.out.aO ab a5.out.self).2 (fun e=>(a5.out.sF ab e.symm).2 rfl)).trans a5.out.eK
  have I7:Below w.heap.size w ((wr.alloc (.cells #[.string m1] 9)).drew):=r3.out.trans (h7.out.mono r3.out.size)
  have I8:¬ S w.heap.size:=fun hs=>by have:=(H5.out.aO _ hs).2;omega
  exact ⟨J,c3,rfl,HF.1,(Yd.aJ I7).trans HF.2,by simp [World.frozen?,t9],by simp [World.cell?,t9,Jy],(World.cell?_of_block (a:=⟨w.heap.size,7,none⟩) (HF.2.block w.heap.size (by have:=h7.out.size;omega) I8)).trans t5.out⟩
 clear t5
 go_cut [6] from 93 to 100 (fun v w3=>∃ J c3,v=.slice J (a.from_.length+1) c3/\Qa (w3.setCell ⟨ab,14,none⟩ (.slice J (a.from_.length+1) c3)) B (fun k=>S k∨(Value.slice J (a.from_.length+1) c3).ownBlock=some k) ab { a with from_:=a.from_ ++ [m1] } (.slice mp a.c.L.length G) (.slice Q a.next.L.length U) (.slice J (a.from_.length+1) c3) lv vs/\Yd S (fun k=>S k∨(Value.slice J (a.from_.length+1) c3).ownBlock=some k) w (w3.setCell ⟨ab,14,none⟩ (.slice J (a.from_.length+1) c3))/\w3.frozen? ⟨ab,14,none⟩=false/\w3.cell? ⟨ab,14,none⟩=some (.slice fp a.from_.length fc)/\(w3.setCell ⟨ab,14,none⟩ (.slice J (a.from_.length+1) c3)).cell? ⟨w.heap.size,7,none⟩=some (.slice lp K.length lc))
 case first =>
  go_region_law (refine X2 rfl (.tmp 96) (.tmp 99) 22 rfl B 9 i0 (.string ⟨#[]⟩) 16 underlying22 F5 F6 rfl F7 F8 (by decide) (.slice fp a.from_.length fc) (a.from_.map Value.string) (by simp [Act.eval]) a5.out.from_ ⟨wr.heap.size,0,none⟩ 1 (.string m1) rfl (by simp [Act.eval]) e5.out (by rw [List.length_map];omega) a5.out.vP ?_;intro v3 w3 h8 e6 h9;have I9:Hid _:=t6.out v3 w3 h8 e6 h9;clear h8 e6 h9)
  all_goals (go_wp2_with fail;go_meet)
  all_goals exact I9.out
 case rest =>
  obtain ⟨J,c3,rfl,k7,l0,e7,a7,u1⟩:=hcut
  clear t6 e5 I5 I6 I2 s7 h7 a5 k6 t3
  obtain ⟨Y,l1⟩:∃ Y,Y=wc.setCell ⟨ab,14,none⟩ (.slice J (a.from_.length+1) c3):=⟨_,rfl⟩
  rw [<- l1] at k7 l0 u1
  have u2:Hid (Y=wc.setCell ⟨ab,14,none⟩ (.slice J (a.from_.length+1) c3)):=l1
  have i1:Hid (Qa Y B (fun k=>S k∨(Value.slice J (a.from_.length+1) c3).ownBlock=some k) ab { a with from_:=a.from_ ++ [m1] } (.slice mp a.c.L.length G) (.slice Q a.next.L.length U) (.slice J (a.from_.length+1) c3) lv vs):=k7
  have i2:Hid (Yd S (fun k=>S k∨(Value.slice J (a.from_.length+1) c3).ownBlock=some k) w Y):=l0
  clear l1 k7 l0
  go_wp2
  rw [<- u2.out]
  have e8:Y.cell? ⟨ab,15,none⟩=some lv:=i1.out.cell 15
  have i3:Hid (Qa Y.drew B (fun k=>S k∨(Value.slice J (a.from_.length+1) c3).ownBlock=some k) ab { a with from_:=a.from_ ++ [m1] } (.slice mp a.c.L.length G) (.slice Q a.next.L.length U) (.slice J (a.from_.length+1) c3) lv vs):=i1.out.below (Below.refl _ _).drew
  have u3:Hid (Ql Ze Y.drew lp K):=r4.out _ i2.out.size (fun k hk hs=>i2.out.block k hk hs)
  have u6:Hid (∀ v6 w6,Zc Ze 76 w6 Y.heap.size v6 ([] ++ K)->Below Y.heap.size Y.drew w6->∃ p6 c6,v6=.slice p6 K.length c6/\w6.cell? ⟨ab,15,none⟩=some lv/\(w6.alloc (.cells #[.slice p6 K.length c6] 55)).cell? ⟨ab,15,none⟩=some lv/\JM (w6.alloc (.cells #[.slice p6 K.length c6] 55)) B 55 lv vs/\B<=(w6.alloc (.cells #[.slice p6 K.length c6] 55)).heap.size/\(∀ v w8,JM w8 B 55 v (vs ++ [.slice p6 K.length c6])->(w6.alloc (.cells #[.slice p6 K.length c6] 55)).grownBy w8 lv.ownBlock->(v.ownBlock=lv.ownBlock∨v.ownBlock=some (w6.alloc (.cells #[.slice p6 K.length c6] 55)).heap.size)->∃ p8 c8 S2 b1,v=.slice p8 (a.L.length+1) c8/\Qa (w8.setCell ⟨ab,15,none⟩ (.slice p8 (a.L.length+1) c8)) B S2 ab (a.heard ⟨m1,a.name,wt,a.key,a.op,a.config,true,K⟩) (.slice mp a.c.L.length G) (.slice Q a.next.L.length U) (.slice J (a.from_.length+1) c3) (.slice p8 (a.L.length+1) c8) b1/\Yd S S2 w (w8.setCell ⟨ab,15,none⟩ (.slice p8 (a.L.length+1) c8))/\w8.frozen? ⟨ab,15,none⟩=false/\w8.cell? ⟨ab,15,none⟩=some lv)):=fun v6 w6 d8 i4=>by
   rw [List.nil_append] at d8
   obtain ⟨p6,c6,rfl,_⟩:=d8.form
   have u7:Below Y.drew.heap.size Y.drew w6:=i4
   have u8:=i3.out.below u7
   have b2:=u8.below ((Below.refl _ _).alloc (Nat.le_refl _) (.cells #[.slice p6 K.length c6] 55))
   refine ⟨p6,c6,rfl,u8.cell 15,b2.cell 15,b2.told.1,b2.vP,fun v w8 hv hg i5=>?_⟩
   have HF:=i3.out.list (r:=.slice p6 K.length c6) (row:=K) d8 u7 hv hg i5
   have J2:=b2.aO ab b2.self
   have u9:=(hg.block ab J2.2 (fun e=>(b2.sL ab e.symm).2.1 rfl)).trans b2.eK
   have J3:vs.length=a.L.length:=i3.out.told.2.1
   rcases hv.cells with ⟨_,h0⟩ | ⟨g,O8,v4,_⟩
   ·exact absurd h0 (by simp)
   rw [List.length_append,List.length_singleton,J3] at v4
   subst v4
   exact ⟨_,_,_,_,rfl,HF.1,((i2.out.trans (Yd.aJ (Below.refl _ _).drew)).trans HF.2),by simp [World.frozen?,u9],by simp [World.cell?,u9,Jy]⟩
  have J5:Hid (vs.length=a.L.length):=i1.out.told.2.1
  go_cut [8] from 105 to 114 (fun v w8=>∃ p8 c8 S2 b1,v=.slice p8 (a.L.length+1) c8/\Qa (w8.setCell ⟨ab,15,none⟩ (.slice p8 (a.L.length+1) c8)) B S2 ab (a.heard ⟨m1,a.name,wt,a.key,a.op,a.config,true,K⟩) (.slice mp a.c.L.length G) (.slice Q a.next.L.length U) (.slice J (a.from_.length+1) c3) (.slice p8 (a.L.length+1) c8) b1/\Yd S S2 w (w8.setCell ⟨ab,15,none⟩ (.slice p8 (a.L.length+1) c8))/\w8.frozen? ⟨ab,15,none⟩=false/\w8.cell? ⟨ab,15,none⟩=some lv)
  case first =>
   go_region_law (first | (refine Jak (E:=Ze) rfl (.tmp 109) (.tmp 111) 55 76 rfl (.agg #[.int .i64 0,.int .i64 0,.int .i64 0,.int .i64 0,.string ⟨#[]⟩]) 48 underlying55 qS rfl Y.heap.size (.slice none 0 0) [] (by simp [Act.eval]) (Zc.nil _ _ _) lp K lc (by simp [Act.eval]) u3.out H9.out (by unfold maxLen;simp;omega) (by simp;omega) (Nat.le_refl _) ?_;intro v6 w6 d8 i4;obtain ⟨p6,c6,J8,P1,P2,v5,v7,v9⟩:=u6.out v6 w6 d8 i4;subst J8;have w0:Hid (JM (w6.alloc (.cells #[.slice p6 K.length c6] 55)) B 55 lv vs):=v5;have w7:Hid (B<=(w6.alloc (.cells #[.slice p6 K.length c6] 55)).heap.size):=v7;have x0:Hid _:=v9;clear d8 i4 v5 v7 v9) | (refine X2 rfl (.tmp 108) (.tmp 113) 44 rfl B 55 j0 (.slice none 0 0) 24 underlying44 F9 G0 rfl G1 G2 (by decide) lv vs (by simp [Act.eval]) w0.out ⟨w6.heap.size,0,none⟩ 1 (.slice p6 K.length c6) rfl (by simp [Act.eval]) (by rw [World.cell?_alloc_at _ _ _ _ rfl];rfl) (by have:=J5.out;omega) w7.out ?_;intro v8 w8 x1 x2 i5;have J9:Hid _:=x0.out v8 w8 x1 x2 i5;clear x1 x2 i5 x0 w0 w7))
   all_goals (go_wp2_with fail;go_meet)
   all_goals exact J9.out
  case rest =>
   obtain ⟨p8,c8,S2,b1,rfl,l2,l3,e9,K3⟩:=hcut
   clear u6 u3 r4 i3 i1 i2 u2 e8 u1 e7 a7
   obtain ⟨Z,l7⟩:∃ Z,Z=wc.setCell ⟨ab,15,none⟩ (.slice p8 (a.L.length+1) c8):=⟨_,rfl⟩
   rw [<- l7] at l2 l3
   have x4:Hid (Z=wc.setCell ⟨ab,15,none⟩ (.slice p8 (a.L.length+1) c8)):=l7
   have l8:Hid (Qa Z B S2 ab (a.heard ⟨m1,a.name,wt,a.key,a.op,a.config,true,K⟩) (.slice mp a.c.L.length G) (.slice Q a.next.L.length U) (.slice J (a.from_.length+1) c3) (.slice p8 (a.L.length+1) c8) b1):=l2
   have x5:Hid (Yd S S2 w Z):=l3
   have l9:Hid (∀ W,Below Z.heap.size Z W->(W.cell? ⟨ab,14,none⟩=some (.slice J (a.from_.length+1) c3)/\W.cell? ⟨ab,5,none⟩=some (.int .i64 a.c.n)/\W.cell? ⟨ab,6,none⟩=some (.int .i64 a.c.k)/\W.cell? ⟨ab,7,none⟩=some (.slice mp a.c.L.length G)/\Below Z.heap.size Z W)):=fun W X=>by
    have O:=l8.out.below X
    exact ⟨O.cell 14,O.cell 5,O.cell 6,O.cell 7,X⟩
   have x7:Hid (∀ W,(W.cell? ⟨ab,14,none⟩=some (.slice J (a.from_.length+1) c3)/\W.cell? ⟨ab,5,none⟩=some (.int .i64 a.c.n)/\W.cell? ⟨ab,6,none⟩=some (.int .i64 a.c.k)/\W.cell? ⟨ab,7,none⟩=some (.slice mp a.c.L.length G)/\Below Z.heap.size Z W)->Calls prog 47 #[.agg #[.int .i64 a.c.n,.int .i64 a.c.k,(.slice mp a.c.L.length G)]] W fun e w'=>e=.returned (.int .i64 ((Jh a.c:Nat):Int))/\(w'.cell? ⟨ab,14,none⟩=some (.slice J (a.from_.length+1) c3)/\w'.cell? ⟨ab,5,none⟩=some (.int .i64 a.c.n)/\w'.cell? ⟨ab,6,none⟩=some (.int .i64 a.c.k)/\w'.cell? ⟨ab,7,none⟩=some (.slice mp a.c.L.length G)/\Below Z.heap.size Z w')):=fun W X=>(Jau a.c (.slice mp a.c.L.length G) ⟨_,_,_,rfl⟩ W r5.out).mono fun e w' hp=>⟨hp.1,l9.out w' (X.2.2.2.2.trans (hp.2.mono X.2.2.2.2.size))⟩
   have K5:decide (((a.from_.length+1:Nat):Int) < ((Jh a.c:Nat):Int))=false:=decide_eq_false (by have:=k5.out;omega)
   have K7:Hid (¬ ((a.from_.length+1:Nat):Int) < ((Jh a.c:Nat):Int)):=by show ¬ _ < _;have:=k5.out;omega
   generalize Jh a.c=en at *
   clear l7 l2 l3 r5 k5
   go_wp2
   rw [<- x4.out]
   go_cut [129] from 119 to 129 (fun v W=>v=.bool false/\Below Z.heap.size Z W)
   case first =>
    go_region_held3 (fun W=>(W.cell? ⟨ab,14,none⟩=some (.slice J (a.from_.length+1) c3)/\W.cell? ⟨ab,5,none⟩=some (.int .i64 a.c.n)/\W.cell? ⟨ab,6,none⟩=some (.int .i64 a.c.k)/\W.cell? ⟨ab,7,none⟩=some (.slice mp a.c.L.length G)/\Below Z.heap.size Z W)) (first | assumption | exact l9.out _ (Below.refl _ _).drew) (first | (go_at_call 47;refine (x7.out _ (by assumption)).mono ?_;rintro e P4 ⟨rfl,K8⟩))
    all_goals (go_wp2_with fail;go_meet)
    all_goals exact ⟨by first | rfl | (rw [K5]) | simpa using K7.out,(by first | assumption | exact hSs.2.2.2.2 | exact K8.2.2.2.2)⟩
   case rest =>
    obtain ⟨rfl,y2⟩:=hcut
    have m0:Hid (Below Z.heap.size Z wc):=y2
    clear y2 x7 l9 x4 e9 K3
    have y:=l8.out.below m0.out
    have K9:Hid (a.heard ⟨m1,a.name,wt,a.key,a.op,a.config,true,K⟩=a.heard ⟨m1,a.name,wt,a.key,a.op,a.config,true,K⟩):=by show _=_;rfl
    generalize y3:a.heard ⟨m1,a.name,wt,a.key,a.op,a.config,true,K⟩=j at *
    have f3:Hid (Qa wc B S2 ab j (.slice mp a.c.L.length G) (.slice Q a.next.L.length U) (.slice J (a.from_.length+1) c3) (.slice p8 (a.L.length+1) c8) b1):=y
    have L0:Hid (Yd S S2 w wc):=x5.out.trans (Yd.aJ m0.out)
    obtain ⟨lq,b3,m8,y4⟩:=y.told.wO
    have L3:lq=p8/\b3=c8:=by injection m8 with e1 e2 e3;exact ⟨e1.symm,e3.symm⟩
    obtain ⟨rfl,rfl⟩:=L3
    have e4:wc.cell? ⟨ab,13,none⟩=some (.string ⟨#[115,101,97,108,105,110,103]⟩):=by rw [y.cell 13];show some (Value.string j.st.word)=_;rw [F2.out];rfl
    have x8:wc.cell? ⟨ab,11,none⟩=some (.bool false):=by rw [y.cell 11];show some (Value.bool j.put)=_;rw [p9.out]
    have m9:wc.cell? ⟨ab,12,none⟩=some (.bool true):=by rw [y.cell 12];show some (Value.bool j.aI)=_;rw [j5.out]
    have c2:wc.cell? ⟨ab,2,none⟩=some (.int .i64 j.dT):=y.cell 2
    have a7:wc.cell? ⟨ab,14,none⟩=some (.slice J (a.from_.length+1) c3):=y.cell 14
    have e8:wc.cell? ⟨ab,15,none⟩=some (.slice lq j.L.length b3):=by rw [y.cell 15,<- m8];rfl
    have n0:wc.cell? ⟨ab,16,none⟩=some (.int .i64 j.tag.1):=y.cell 16
    have n2:wc.cell? ⟨ab,17,none⟩=some (.int .i64 j.tag.2):=y.cell 17
    have n3:wc.cell? ⟨ab,18,none⟩=some (.string j.text):=y.cell 18
    have n4:wc.cell? ⟨ab,19,none⟩=some (.bool j.found):=y.cell 19
    have n6:wc.frozen? ⟨ab,13,none⟩=false:=y.free 13
    have e7:wc.frozen? ⟨ab,14,none⟩=false:=y.free 14
    have e9:wc.frozen? ⟨ab,15,none⟩=false:=y.free 15
    have n7:wc.frozen? ⟨ab,16,none⟩=false:=y.free 16
    have n8:wc.frozen? ⟨ab,17,none⟩=false:=y.free 17
    have n9:wc.frozen? ⟨ab,18,none⟩=false:=y.free 18
    have o2:wc.frozen? ⟨ab,19,none⟩=false:=y.free 19
    have P7:Hid (eU wc lq j.L):=y4
    have y5:Hid (a.heard ⟨m1,a.name,wt,a.key,a.op,a.config,true,K⟩=j):=y3
    obtain ⟨D,rfl⟩:∃ D,D=wc:=⟨_,rfl⟩
    obtain ⟨T,hT⟩:∃ T,T=Ys j.c.n.toNat j.c.k.toNat (Xq j.from_ j.L j.c.L).flatten (Xq j.from_ j.L j.c.L).flatten:=⟨_,rfl⟩
    obtain ⟨k1,k2,k3,k4⟩:=j6.out
    have y6:T.2.1.size<=1000:=by rw [hT];exact y9 (by omega) _ _ (by decide)
    have y7:j.bR={ j with tag:=T.1,text:=T.2.1,found:=T.2.2 }:=by unfold Za.bR;rw [p9.out,if_neg (by decide),hT]
    obtain ⟨LL,f8⟩:∃ LL,LL=Xq j.from_ j.L j.c.L:=⟨_,rfl⟩
    have L5:LL.length<=12:=by rw [f8];have:=Ja2 j.from_ j.L j.c.L;omega
    have L6:LL.flatten.length<=1000:=by rw [f8];exact j8.out
    obtain ⟨M,N,tx,fd,i7⟩:∃ M N tx fd,T=((M,N),tx,fd):=⟨T.1.1,T.1.2,T.2.1,T.2.2,rfl⟩
    have HS:Hid (∀ W:World,Below D.heap.size D W->(W.cell? ⟨ab,5,none⟩=some (.int .i64 j.c.n)/\W.cell? ⟨ab,6,none⟩=some (.int .i64 j.c.k)/\W.cell? ⟨ab,7,none⟩=some (.slice mp a.c.L.length G)/\Below D.heap.size D W)):=fun W X=>by
     have O:=f3.out.below X
     exact ⟨O.cell 5,O.cell 6,O.cell 7,X⟩
    have y8:=HS.out D.drew (Below.refl _ _).drew
    have z0:=HS.out (D.alloc (.cells #[.int .i64 0,.int .i64 0] 46)).drew (((Below.refl _ _).alloc (Nat.le_refl _) _).drew)
    have o3:∀ W,Below D.heap.size D W->Calls prog 49 #[.pointer (some ⟨ab,0,none⟩)] W fun e w'=>(∃ p c,e=.returned (.slice p LL.length c)/\eU w' p LL)/\Below W.heap.size W w':=fun W X=>by rw [f8];exact Jck (f3.out.below X) (by omega) (by have:=h4.out;omega) h4.out.1
    have i8:∀ W,Below D.heap.size D W->∀ p c,eU W p LL->Calls prog 48 #[.agg #[.int .i64 j.c.n,.int .i64 j.c.k,(.slice mp a.c.L.length G)],.slice p LL.length c] W fun e w'=>e=.returned (.tuple #[.agg #[.int .i64 M,.int .i64 N],.string tx,.bool fd])/\Below W.heap.size W w':=fun W X p c hv=>by
     have hb:=Jcj j.c.n.toNat j.c.k.toNat mp a.c.L.length G p LL c W (by omega) (by omega) (by omega) (by omega) L6 hv
     have e1:((j.c.n.toNat:Nat):Int)=j.c.n:=by omega
     have e2:((j.c.k.toNat:Nat):Int)=j.c.k:=by omega
     rw [e1,e2] at hb
     have e3:Ys j.c.n.toNat j.c.k.toNat LL.flatten LL.flatten=((M,N),tx,fd):=by rw [f8,<- hT];exact i7
     rw [e3] at hb
     exact hb
    have z1:Hid (Calls prog 49 #[.pointer (some ⟨ab,0,none⟩)] D.drew fun e w'=>∃ p c,e=.returned (.slice p LL.length c)/\Hid (eU w' p LL)/\(w'.cell? ⟨ab,5,none⟩=some (.int .i64 j.c.n)/\w'.cell? ⟨ab,6,none⟩=some (.int .i64 j.c.k)/\w'.cell? ⟨ab,7,none⟩=some (.slice mp a.c.L.length G)/\Below D.heap.size D w')):=(o3 _ (Below.refl _ _).drew).mono fun e w' O=>by
     obtain ⟨⟨p,c,h1,h2⟩,h3⟩:=O
     exact ⟨p,c,h1,h2,HS.out w' ((Below.refl _ D).drew.trans h3)⟩
    have o4:D.heap.size < (D.alloc (.cells #[.int .i64 0,.int .i64 0] 46)).drew.heap.size:=by show D.heap.size < (D.alloc _).heap.size;simp
    have z2:(D.alloc (.cells #[.int .i64 0,.int .i64 0] 46)).drew.heap[D.heap.size]?=some (.cells #[.int .i64 0,.int .i64 0] 46 (0,0)):=by
     show (D.heap.push _)[D.heap.size]?=_
     simp
    have z3:Hid (Calls prog 49 #[.pointer (some ⟨ab,0,none⟩)] (D.alloc (.cells #[.int .i64 0,.int .i64 0] 46)).drew fun e w'=>∃ p c,e=.returned (.slice p LL.length c)/\Hid (eU w' p LL/\w'.heap[D.heap.size]?=some (.cells #[.int .i64 0,.int .i64 0] 46 (0,0)))/\(w'.cell? ⟨ab,5,none⟩=some (.int .i64 j.c.n)/\w'.cell? ⟨ab,6,none⟩=some (.int .i64 j.c.k)/\w'.cell? ⟨ab,7,none⟩=some (.slice mp a.c.L.length G)/\Below D.heap.size D w')):=(o3 _ (((Below.refl _ _).alloc (Nat.le_refl _) _).drew)).mono fun e w' O=>by
     obtain ⟨⟨p,c,h1,h2⟩,h3⟩:=O
     exact ⟨p,c,h1,⟨h2,(h3.block _ o4).trans z2⟩,HS.out w' ((((Below.refl _ D).alloc (Nat.le_refl _) _).drew).trans (h3.mono (Nat.le_of_lt o4)))⟩
    have e5:Hid (∀ W p c,Hid (eU W p LL)->(W.cell? ⟨ab,5,none⟩=some (.int .i64 j.c.n)/\W.cell? ⟨ab,6,none⟩=some (.int .i64 j.c.k)/\W.cell? ⟨ab,7,none⟩=some (.slice mp a.c.L.length G)/\Below D.heap.size D W)->Calls prog 48 #[.agg #[.int .i64 j.c.n,.int .i64 j.c.k,(.slice mp a.c.L.length G)],.slice p LL.length c] W fun e w'=>e=.returned (.tuple #[.agg #[.int .i64 M,.int .i64 N],.string tx,.bool fd])/\(w'.cell? ⟨ab,5,none⟩=some (.int .i64 j.c.n)/\w'.cell? ⟨ab,6,none⟩=some (.int .i64 j.c.k)/\w'.cell? ⟨ab,7,none⟩=some (.slice mp a.c.L.length G)/\Below D.heap.size D w')):=fun W p c hV hS=>(i8 W hS.2.2.2 p c hV.out).mono fun e w' O=>⟨O.1,HS.out w' (hS.2.2.2.trans (O.2.mono hS.2.2.2.size))⟩
    have z4:Hid (∀ W p c,Hid (eU W p LL)->(W.cell? ⟨ab,5,none⟩=some (.int .i64 j.c.n)/\W.cell? ⟨ab,6,none⟩=some (.int .i64 j.c.k)/\W.cell? ⟨ab,7,none⟩=some (.slice mp a.c.L.length G)/\Below D.heap.size D W)->Calls prog 48 #[.agg #[.int .i64 j.c.n,.int .i64 j.c.k,(.slice mp a.c.L.length G)],.slice p LL.length c] (W.alloc (.cells #[.int .i64 0,.int .i64 0] 46)) fun e w'=>e=.returned (.tuple #[.agg #[.int .i64 M,.int .i64 N],.string tx,.bool fd])/\(w'.cell? ⟨ab,5,none⟩=some (.int .i64 j.c.n)/\w'.cell? ⟨ab,6,none⟩=some (.int .i64 j.c.k)/\w'.cell? ⟨ab,7,none⟩=some (.slice mp a.c.L.length G)/\Below D.heap.size D w')/\(w'.cell? ⟨W.heap.size,0,none⟩=some (.int .i64 0)/\w'.cell? ⟨W.heap.size,1,none⟩=some (.int .i64 0)/\w'.frozen? ⟨W.heap.size,0,none⟩=false/\w'.frozen? ⟨W.heap.size,1,none⟩=false)/\Hid (D.heap.size<=W.heap.size)):=fun W p c hV hS=>by
     have b0:Below W.heap.size W (W.alloc (.cells #[.int .i64 0,.int .i64 0] 46)):=(Below.refl _ _).alloc (Nat.le_refl _) _
     have o5:=hS.2.2.2.trans (b0.mono hS.2.2.2.size)
     refine (i8 _ o5 p c (hV.out.below b0)).mono fun e w' O=>?_
     have a6:w'.heap[W.heap.size]?=some (.cells #[.int .i64 0,.int .i64 0] 46 (0,0)):=(O.2.block _ (by simp)).trans (by show (W.heap.push _)[W.heap.size]?=_;simp)
     exact ⟨O.1,HS.out w' (o5.trans (O.2.mono o5.size)),⟨(Ja a6 0).1,(Ja a6 1).1,(Ja a6 0).2,(Ja a6 1).2⟩,hS.2.2.2.size⟩
    have z5:Hid (∀ W p c,Hid (eU W p LL/\W.heap[D.heap.size]?=some (.cells #[.int .i64 0,.int .i64 0] 46 (0,0)))->(W.cell? ⟨ab,5,none⟩=some (.int .i64 j.c.n)/\W.cell? ⟨ab,6,none⟩=some (.int .i64 j.c.k)/\W.cell? ⟨ab,7,none⟩=some (.slice mp a.c.L.length G)/\Below D.heap.size D W)->Calls prog 48 #[.agg #[.int .i64 j.c.n,.int .i64 j.c.k,(.slice mp a.c.L.length G)],.slice p LL.length c] W fun e w'=>e=.returned (.tuple #[.agg #[.int .i64 M,.int .i64 N],.string tx,.bool fd])/\(w'.cell? ⟨ab,5,none⟩=some (.int .i64 j.c.n)/\w'.cell? ⟨ab,6,none⟩=some (.int .i64 j.c.k)/\w'.cell? ⟨ab,7,none⟩=some (.slice mp a.c.L.length G)/\Below D.heap.size D w')/\(w'.cell? ⟨D.heap.size,0,none⟩=some (.int .i64 0)/\w'.cell? ⟨D.heap.size,1,none⟩=some (.int .i64 0)/\w'.frozen? ⟨D.heap.size,0,none⟩=false/\w'.frozen? ⟨D.heap.size,1,none⟩=false)):=fun W p c hV hS=>by
     refine (i8 W hS.2.2.2 p c hV.out.1).mono fun e w' O=>?_
     have L8:D.heap.size < W.heap.size:=by
      rcases Nat.lt_or_ge D.heap.size W.heap.size with h' | h'
      ·exact h'
      ·have:=hV.out.2;rw [Array.getElem?_eq_none h'] at this;cases this
     have a6:=(O.2.block _ L8).trans hV.out.2
     exact ⟨O.1,HS.out w' (hS.2.2.2.trans (O.2.mono hS.2.2.2.size)),(Ja a6 0).1,(Ja a6 1).1,(Ja a6 0).2,(Ja a6 1).2⟩
    have z6:Hid (T=((M,N),tx,fd)):=i7
    have z7:Hid (j.bR={ j with tag:=T.1,text:=T.2.1,found:=T.2.2 }):=y7
    have L9:Hid (tx.size<=1000):=by have:=y6;rw [i7] at this;exact this
    clear y y3 m8 y4 K9 l8 x5 m0 o3 o4 z2 i8 hT f8 y6 y7 i7 k1 k2 k3 k4 a7 e8 n0 n2 n3 n4 c2 n6 e7 e9 n7 n8 n9 o2 m9
    go_wp2
    go_cut [13,14,15] from 196 to 206 (fun v1 v2 v3 W=>∃ tb,v1=.pointer (some ⟨tb,0,none⟩)/\v2=.string tx/\v3=.bool fd/\(W.cell? ⟨tb,0,none⟩=some (.int .i64 M)/\W.cell? ⟨tb,1,none⟩=some (.int .i64 N))/\Below D.heap.size D W/\D.heap.size<=tb)
    case first =>
     go_region_held3 (fun W=>(W.cell? ⟨ab,5,none⟩=some (.int .i64 j.c.n)/\W.cell? ⟨ab,6,none⟩=some (.int .i64 j.c.k)/\W.cell? ⟨ab,7,none⟩=some (.slice mp a.c.L.length G)/\Below D.heap.size D W)) (first | with_reducible assumption | with_reducible exact y8 | with_reducible exact z0 | (with_reducible exact HS.out _ (o6.2.2.2.alloc o6.2.2.2.size _)) | (with_reducible exact HS.out _ (a4.2.2.2.alloc a4.2.2.2.size _)) | exact HS.out _ ((a4.2.2.2.setCell (by first | exact Nat.le_refl _ | exact f9.out) _).setCell (by first | exact Nat.le_refl _ | exact f9.out) _)) (first | (go_at_call 49;with_reducible refine z1.out.mono ?_;rintro e Y ⟨p4,c4,rfl,M2,o6⟩) | (go_at_call 49;with_reducible refine z3.out.mono ?_;rintro e Y ⟨p4,c4,rfl,M2,o6⟩) | (go_at_call 48;with_reducible refine (z5.out Y p4 c4 (by with_reducible assumption) (by with_reducible assumption)).mono ?_;rintro e w5 ⟨rfl,a4,k0,k1,y0,y1⟩) | (go_at_call 48;with_reducible refine (e5.out Y p4 c4 (by with_reducible assumption) (by with_reducible assumption)).mono ?_;rintro e w5 ⟨rfl,a4⟩) | (go_at_call 48;with_reducible refine (z4.out Y p4 c4 (by with_reducible assumption) (by with_reducible assumption)).mono ?_;rintro e w5 ⟨rfl,a4,⟨k0,k1,y0,y1⟩,f9⟩))
     all_goals (go_wp2_with fail;go_meet)
     all_goals first
      | exact ⟨_,rfl,rfl,rfl,⟨by rw [World.cell?_alloc_at _ _ _ _ rfl];rfl,by rw [World.cell?_alloc_at _ _ _ _ rfl];rfl⟩,a4.2.2.2.alloc a4.2.2.2.size _,a4.2.2.2.size⟩
      | exact ⟨_,rfl,rfl,rfl,Jbu k0 k1,(a4.2.2.2.setCell (Nat.le_refl _) _).setCell (Nat.le_refl _) _,Nat.le_refl _⟩
      | exact ⟨_,rfl,rfl,rfl,Jbu k0 k1,(a4.2.2.2.setCell f9.out _).setCell f9.out _,f9.out⟩
    case rest =>
     obtain ⟨tb,rfl,rfl,rfl,⟨o0,o1⟩,i9,z9⟩:=hcut
     have y:=f3.out.below i9
     have j2:=L0.out.trans (Yd.aJ i9)
     have m9:wc.cell? ⟨ab,12,none⟩=some (.bool true):=by rw [y.cell 12];show some (Value.bool j.aI)=_;rw [j5.out]
     have e4:wc.cell? ⟨ab,13,none⟩=some (.string j.st.word):=y.cell 13
     have a7:wc.cell? ⟨ab,14,none⟩=some (.slice J (a.from_.length+1) c3):=y.cell 14
     have e8:wc.cell? ⟨ab,15,none⟩=some (.slice lq (a.L.length+1) b3):=y.cell 15
     have n0:wc.cell? ⟨ab,16,none⟩=some (.int .i64 j.tag.1):=y.cell 16
     have n2:wc.cell? ⟨ab,17,none⟩=some (.int .i64 j.tag.2):=y.cell 17
     have n3:wc.cell? ⟨ab,18,none⟩=some (.string j.text):=y.cell 18
     have n4:wc.cell? ⟨ab,19,none⟩=some (.bool j.found):=y.cell 19
     have n6:wc.frozen? ⟨ab,13,none⟩=false:=y.free 13
     have e7:wc.frozen? ⟨ab,14,none⟩=false:=y.free 14
     have e9:wc.frozen? ⟨ab,15,none⟩=false:=y.free 15
     have n7:wc.frozen? ⟨ab,16,none⟩=false:=y.free 16
     have n8:wc.frozen? ⟨ab,17,none⟩=false:=y.free 17
     have n9:wc.frozen? ⟨ab,18,none⟩=false:=y.free 18
     have o2:wc.frozen? ⟨ab,19,none⟩=false:=y.free 19
     have M3:tb≠ab:=by have:=(f3.out.aO ab f3.out.self).2;omega
     have P9:ab≠tb:=fun e=>M3 e.symm
     clear z1 z3 e5 z4 z5 y8 z0 x8
     cases fd with
     | false =>
      have b4:j.bR={ j with tag:=(M,N),text:=tx,found:=false }:=by rw [z7.out,z6.out]
      have g8:fU j=({ j with tag:=(M,N),text:=tx,found:=false,st:=.done },[]):=by
       unfold fU
       rw [if_neg h5.out,if_pos (by rw [b4]),b4]
      have o7:Hid (fU j=({ j with tag:=(M,N),text:=tx,found:=false,st:=.done },[])):=g8
      obtain ⟨a0,b5⟩:∃ a0,a0=((((wc.setCell ⟨ab,16,none⟩ (.int .i64 M)).setCell ⟨ab,17,none⟩ (.int .i64 N)).setCell ⟨ab,18,none⟩ (.string tx)).setCell ⟨ab,19,none⟩ (.bool false)).setCell ⟨ab,13,none⟩ (.string ⟨#[100,111,110,101]⟩):=⟨_,rfl⟩
      have g9:=JbA (a:=j) (mv:=(.slice mp a.c.L.length G)) (nv:=(.slice Q a.next.L.length U)) (fv:=(.slice J (a.from_.length+1) c3)) (lv:=(.slice lq (a.L.length+1) b3)) (a':={ j with tag:=(M,N),text:=tx,found:=false,st:=.done }) rfl rfl rfl rfl rfl rfl rfl rfl rfl
      have b6:x6 ab (Jy { j with tag:=(M,N),text:=tx,found:=false,st:=.done } (.slice mp a.c.L.length G) (.slice Q a.next.L.length U) (.slice J (a.from_.length+1) c3) (.slice lq (a.L.length+1) b3)) wc a0:=by rw [b5];exact g9 ▸ ((((((x6.refl y.eK).set 16 (.int .i64 M)).set 17 (.int .i64 N)).set 18 (.string tx)).set 19 (.bool false)).set 13 (.string ⟨#[100,111,110,101]⟩))
      have o9:Hid (Qa a0 B S2 ab { j with tag:=(M,N),text:=tx,found:=false,st:=.done } (.slice mp a.c.L.length G) (.slice Q a.next.L.length U) (.slice J (a.from_.length+1) c3) (.slice lq (a.L.length+1) b3) b1):=y.written (a':={ j with tag:=(M,N),text:=tx,found:=false,st:=.done }) b6 rfl rfl rfl rfl
      have p0:Hid (Yd S S2 w a0):=j2.trans (b6.nJ y.self)
      have p1:Hid (a0=((((wc.setCell ⟨ab,16,none⟩ (.int .i64 M)).setCell ⟨ab,17,none⟩ (.int .i64 N)).setCell ⟨ab,18,none⟩ (.string tx)).setCell ⟨ab,19,none⟩ (.bool false)).setCell ⟨ab,13,none⟩ (.string ⟨#[100,111,110,101]⟩)):=b5
      clear b5 b6 g9 y j2 i9 g8 b4 q0 h4 q4 h5 j6 q5 j8 z9
      go_wp2_with (first | rw [<- p1.out] | fail)
      go_ret
      rw [y5.out,o7.out]
      exact ⟨⟨none,0,rfl,mN.nil _ _⟩,S2,_,_,_,_,o9.out,p0.out⟩
     | true =>
      have b4:j.bR={ j with tag:=(M,N),text:=tx,found:=true }:=by rw [z7.out,z6.out]
      have A1:j.bR.keeps=({ j with tag:=(M,N),text:=tx,found:=true,st:=.keeping,from_:=[],L:=[],c:=j.next,config:=j.config+1 }:Za):=by rw [b4];unfold Za.keeps;show (if j.aI=true then _ else _)=_;rw [j5.out];rfl
      have g8:fU j=({ j with tag:=(M,N),text:=tx,found:=true,st:=.keeping,from_:=[],L:=[],c:=j.next,config:=j.config+1 },Za.send ({ j with tag:=(M,N),text:=tx,found:=true,st:=.keeping,from_:=[],L:=[],c:=j.next,config:=j.config+1 }:Za) JJ true):=by
       unfold fU
       rw [if_neg h5.out,if_neg (by rw [b4];intro e;cases e),A1]
      have o7:Hid (fU j=({ j with tag:=(M,N),text:=tx,found:=true,st:=.keeping,from_:=[],L:=[],c:=j.next,config:=j.config+1 },Za.send ({ j with tag:=(M,N),text:=tx,found:=true,st:=.keeping,from_:=[],L:=[],c:=j.next,config:=j.config+1 }:Za) JJ true)):=g8
      have M5:j.next.L.length=a.next.L.length:=by rw [F1.out]
      obtain ⟨a0,b5⟩:∃ a0,a0=(((((((((((wc.setCell ⟨ab,16,none⟩ (.int .i64 M)).setCell ⟨ab,17,none⟩ (.int .i64 N)).setCell ⟨ab,18,none⟩ (.string tx)).setCell ⟨ab,19,none⟩ (.bool true)).setCell ⟨ab,13,none⟩ (.string ⟨#[107,101,101,112,105,110,103]⟩)).setCell ⟨ab,14,none⟩ (.slice none 0 0)).setCell ⟨ab,15,none⟩ (.slice none 0 0)).setCell ⟨ab,5,none⟩ (.int .i64 j.next.n)).setCell ⟨ab,6,none⟩ (.int .i64 j.next.k)).setCell ⟨ab,7,none⟩ (.slice Q a.next.L.length U)).setCell ⟨ab,4,none⟩ (.int .i64 (j.config+1))):=⟨_,rfl⟩
      have g9:=JbB (a:=j) (mv:=(.slice mp a.c.L.length G)) (nv:=(.slice Q a.next.L.length U)) (fv:=(.slice J (a.from_.length+1) c3)) (lv:=(.slice lq (a.L.length+1) b3)) (a':={ j with tag:=(M,N),text:=tx,found:=true,st:=.keeping,from_:=[],L:=[],c:=j.next,config:=j.config+1 }) rfl rfl rfl rfl rfl rfl rfl rfl
      have b6:x6 ab (Jy { j with tag:=(M,N),text:=tx,found:=true,st:=.keeping,from_:=[],L:=[],c:=j.next,config:=j.config+1 } (.slice Q a.next.L.length U) (.slice Q a.next.L.length U) (.slice none 0 0) (.slice none 0 0)) wc a0:=by rw [b5];exact g9 ▸ ((((((((((((x6.refl y.eK).set 16 (.int .i64 M)).set 17 (.int .i64 N)).set 18 (.string tx)).set 19 (.bool true)).set 13 (.string ⟨#[107,101,101,112,105,110,103]⟩)).set 14 (.slice none 0 0)).set 15 (.slice none 0 0)).set 5 (.int .i64 j.next.n)).set 6 (.int .i64 j.next.k)).set 7 (.slice Q a.next.L.length U)).set 4 (.int .i64 (j.config+1)))
      have p2:=y.rH (a':={ j with tag:=(M,N),text:=tx,found:=true,st:=.keeping,from_:=[],L:=[],c:=j.next,config:=j.config+1 }) b6 rfl rfl rfl rfl
      obtain ⟨k1,k2,k3,k4⟩:=E4.out
      have A2:=Jcp p2 ⟨#[107,101,101,112]⟩ j.next.n.toNat j.next.k.toNat (by show j.next.n=_;omega) (by show j.next.k=_;omega) (by omega) (by omega) (by omega) (by show j.next.L.length=_;omega) (by show tx.size<=3000;have:=L9.out;omega)
      have o9:Hid (Qa a0 B S2 ab { j with tag:=(M,N),text:=tx,found:=true,st:=.keeping,from_:=[],L:=[],c:=j.next,config:=j.config+1 } (.slice Q a.next.L.length U) (.slice Q a.next.L.length U) (.slice none 0 0) (.slice none 0 0) []):=p2
      have c4:wc.cell? ⟨ab,4,none⟩=some (.int .i64 j.config):=y.cell 4
      have c5:wc.cell? ⟨ab,5,none⟩=some (.int .i64 j.c.n):=y.cell 5
      have c6:wc.cell? ⟨ab,6,none⟩=some (.int .i64 j.c.k):=y.cell 6
      have c7:wc.cell? ⟨ab,7,none⟩=some (.slice mp a.c.L.length G):=y.cell 7
      have c8:wc.cell? ⟨ab,8,none⟩=some (.int .i64 j.next.n):=y.cell 8
      have c9:wc.cell? ⟨ab,9,none⟩=some (.int .i64 j.next.k):=y.cell 9
      have wH:wc.cell? ⟨ab,10,none⟩=some (.slice Q a.next.L.length U):=y.cell 10
      have f4:wc.frozen? ⟨ab,4,none⟩=false:=y.free 4
      have f5:wc.frozen? ⟨ab,5,none⟩=false:=y.free 5
      have f6:wc.frozen? ⟨ab,6,none⟩=false:=y.free 6
      have f7:wc.frozen? ⟨ab,7,none⟩=false:=y.free 7
      obtain ⟨Q0,Q1⟩:=E5.out
      have p0:Hid (Yd S S2 w a0):=j2.trans (b6.nJ y.self)
      have p1:Hid (a0=(((((((((((wc.setCell ⟨ab,16,none⟩ (.int .i64 M)).setCell ⟨ab,17,none⟩ (.int .i64 N)).setCell ⟨ab,18,none⟩ (.string tx)).setCell ⟨ab,19,none⟩ (.bool true)).setCell ⟨ab,13,none⟩ (.string ⟨#[107,101,101,112,105,110,103]⟩)).setCell ⟨ab,14,none⟩ (.slice none 0 0)).setCell ⟨ab,15,none⟩ (.slice none 0 0)).setCell ⟨ab,5,none⟩ (.int .i64 j.next.n)).setCell ⟨ab,6,none⟩ (.int .i64 j.next.k)).setCell ⟨ab,7,none⟩ (.slice Q a.next.L.length U)).setCell ⟨ab,4,none⟩ (.int .i64 (j.config+1)))):=b5
      clear b5 b6 g9 y p2 j2 i9 g8 b4 A1 q0 h4 q4 h5 j6 q5 j8 z9 k1 k2 k3 k4 M5
      go_wp2_with (first | rw [<- p1.out] | fail)
      refine A2.mono ?_
      rintro e A5 ⟨⟨A6,M6,rfl,A9⟩,B0⟩
      have M8:Hid (mN A5 A6 (Za.send ({ j with tag:=(M,N),text:=tx,found:=true,st:=.keeping,from_:=[],L:=[],c:=j.next,config:=j.config+1 }:Za) JJ true)):=A9
      have B2:Hid (Below a0.heap.size a0 A5):=B0
      clear A9 B0 A2 m9 e4 a7 e8 n0 n2 n3 n4 n6 e7 e9 n7 n8 n9 o2 c4 c5 c6 c7 c8 c9 wH f4 f5 f6 f7
      go_wp2
      go_ret
      rw [y5.out,o7.out]
      exact ⟨⟨A6,M6,rfl,M8.out⟩,S2,_,_,_,_,o9.out.below B2.out,p0.out.trans (Yd.aJ B2.out)⟩
end
section
variable {w w':World} {B:Nat} {S:Nat->Prop} {ab:Nat} {a:Za} {mv nv fv lv:Value} {vs:List Value}
theorem JcQ (h:Qa w B S ab a mv nv fv lv vs) (x:Zb×Lv) (hl:a.c.L.length<=1000) (u7:a.from_.length<=1000) (e3:a.aM x.1=true) (t4:x.1.shut=true) (t5:a.st=.sealing) (n4:a.from_.length+1 < Jh a.c) (n6:1<=a.c.k/\a.c.k<=a.c.n/\a.c.n<=12) (u8:a.L.length<=1000) (u9:x.1.L.length<=1000) (t6:x.2.2.1=x.1.L.length) (n7:x.2.1=none->x.1.L=[]/\x.2.2.2=0) (n8:∀ W:World,w.heap.size<=W.heap.size->(∀ k,k < w.heap.size->¬ S k->W.heap[k]?=w.heap[k]?)->Ql Ze W x.2.1 x.1.L):Calls prog 20 #[.pointer (some ⟨ab,0,none⟩),.agg #[.string x.1.from_,.string x.1.aP,.string x.1.kind,.string x.1.key,.int .i64 x.1.op,.int .i64 x.1.config,.bool x.1.shut,.slice x.2.1 x.2.2.1 x.2.2.2]] w fun e w'=>e=.returned (.slice none 0 0)/\∃ S' n9 o0 o1,Qa w' B S' ab (a.heard x.1) mv nv n9 o0 o1/\Yd S S' w w':=by
 obtain ⟨i0,o2,o3,o4,o5⟩:=info_parts (P:=prog) (e:=9) (z:=.string ⟨#[]⟩) (size:=1) (bytes:=16) (by kernel_rfl)
 obtain ⟨j0,o6,o7,o9,p0⟩:=info_parts VU
 obtain ⟨mp,G,p1,f6,t7,p2,p4⟩:=h.mem.at_
 obtain ⟨N,U,p5,f7,t8,p7,_⟩:=h.from_.form
 have p9:Hid (Qa w B S ab a mv nv fv lv vs):=h
 subst p1 p5
 obtain ⟨⟨m1,m2,m3,m4,m5,m6,m7,D⟩,X,ln,lc⟩:=x
 dsimp only at *
 subst t4
 subst t6
 obtain ⟨j,a0⟩:∃ j,j=w.alloc (.cells #[.string m1,.string m2,.string m3,.string m4,.int .i64 m5,.int .i64 m6,.bool true,.slice X D.length lc] 59):=⟨_,rfl⟩
 have a9:Below w.heap.size w j:=by rw [a0];exact (Below.refl _ _).alloc (Nat.le_refl _) _
 have a1:=h.below a9
 have f8:=U1 a1
 have c0:j.cell? ⟨ab,0,none⟩=some (.string a.name):=a1.cell 0
 have c1:j.cell? ⟨ab,1,none⟩=some (.string a.key):=a1.cell 1
 have c3:j.cell? ⟨ab,3,none⟩=some (.int .i64 a.op):=a1.cell 3
 have c4:j.cell? ⟨ab,4,none⟩=some (.int .i64 a.config):=a1.cell 4
 have c7:j.cell? ⟨ab,7,none⟩=some (.slice mp a.c.L.length G):=a1.cell 7
 have b1:j.cell? ⟨ab,14,none⟩=some (.slice N a.from_.length U):=a1.cell 14
 have f9:j.cell? ⟨ab,13,none⟩=some (.string ⟨#[115,101,97,108,105,110,103]⟩):=by rw [a1.cell 13];show some (Value.string a.st.word)=_;rw [t5];rfl
 have d0:j.cell? ⟨w.heap.size,0,none⟩=some (.string m1):=by rw [a0,World.cell?_alloc_at _ _ _ _ rfl];rfl
 have d1:j.cell? ⟨w.heap.size,1,none⟩=some (.string m2):=by rw [a0,World.cell?_alloc_at _ _ _ _ rfl];rfl
 have d2:j.cell? ⟨w.heap.size,2,none⟩=some (.string m3):=by rw [a0,World.cell?_alloc_at _ _ _ _ rfl];rfl
 have d3:j.cell? ⟨w.heap.size,3,none⟩=some (.string m4):=by rw [a0,World.cell?_alloc_at _ _ _ _ rfl];rfl
 have d4:j.cell? ⟨w.heap.size,4,none⟩=some (.int .i64 m5):=by rw [a0,World.cell?_alloc_at _ _ _ _ rfl];rfl
 have d5:j.cell? ⟨w.heap.size,5,none⟩=some (.int .i64 m6):=by rw [a0,World.cell?_alloc_at _ _ _ _ rfl];rfl
 have g8:Hid (∀ W,Below j.heap.size j W->Strs W mp a.c.L):=fun W Y=>(f6.below a9).below Y
 have g9:Hid (∀ W,Below j.heap.size j W->Strs W N a.from_):=fun W Y=>(f7.below a9).below Y
 have q0:Hid (j=w.alloc (.cells #[.string m1,.string m2,.string m3,.string m4,.int .i64 m5,.int .i64 m6,.bool true,.slice X D.length lc] 59)):=a0
 have h1:Hid (Below w.heap.size w j):=a9
 have d6:j.cell? ⟨w.heap.size,6,none⟩=some (.bool true):=by rw [a0,World.cell?_alloc_at _ _ _ _ rfl];rfl
 have d7:j.cell? ⟨w.heap.size,7,none⟩=some (.slice X D.length lc):=by rw [a0,World.cell?_alloc_at _ _ _ _ rfl];rfl
 have t9:j.heap.size=w.heap.size+1:=by rw [a0];simp
 have q4:Hid (Qa j B S ab a (.slice mp a.c.L.length G) nv (.slice N a.from_.length U) lv vs):=a1
 have h2:Hid (∀ W:World,w.heap.size<=W.heap.size->(∀ k,k < w.heap.size->¬ S k->W.heap[k]?=w.heap[k]?)->Ql Ze W X D):=n8
 have q5:Hid (X=none->D=[]/\lc=0):=n7
 have e4:Hid (a.from_.length+1 < Jh a.c):=n4
 have h3:Hid (1<=a.c.k/\a.c.k<=a.c.n/\a.c.n<=12):=n6
 obtain ⟨g0,g1,g2,g3,g4,g5,g6,g7⟩:a.st.waits≠⟨#[]⟩/\m3=a.st.waits/\m2=a.name/\m4=a.key/\m5=a.op/\m6=a.config/\m1 ∈ a.c.L/\m1 ∉ a.from_:=by
  unfold Za.aM at e3
  rw [Bool.and_eq_true,Bool.and_eq_true] at e3
  obtain ⟨q1,q2,q3⟩:=e3
  have a6:=of_decide_eq_true q1
  exact ⟨a6.1,a6.2.1,a6.2.2.1,a6.2.2.2.1,a6.2.2.2.2.1,a6.2.2.2.2.2,Zl.1 q2,fun hm=>by rw [Zl.2 hm] at q3;cases q3⟩
 have h4:Hid (∀ W,Below j.heap.size j W->Calls prog 46 #[.slice mp a.c.L.length G,.string m1] W fun e w'=>e=.returned (.int .i64 ((ZJ a.c.L m1:Nat):Int))/\w'=W):=fun W Y=>ML mp a.c.L G m1 W (by omega) (g8.out W Y) g6
 have h5:Hid (∀ W,Below j.heap.size j W->Calls prog 46 #[.slice N a.from_.length U,.string m1] W fun e w'=>e=.returned (.int .i64 (-1))/\w'=W):=fun W Y=>O5 N a.from_ U m1 W (by omega) (g9.out W Y) g7
 clear h f6 p4 f7 p7 p2 a9 a0 a1 e3 g8 g9 n8 n7 n4 n6 g6 g7
 generalize ZJ a.c.L m1=j1 at *
 have n1:decide ((j1:Int) < 0)=false:=decide_eq_false (by omega)
 have t0:=XT g0
 have u0:=YT g0
 have v0:=Y8 g0
 have e0:(⟨#[]⟩:ByteArray).toList=[]:=by decide +kernel
 rw [e0] at t0 u0
 subst g1 g2 g3 g4 g5
 generalize a.st.waits=wt at *
 clear g0
 go_enter func20,ntmps20
 go_wp2_with (first | rw [<- q0.out] | fail)
 refine f8.mono ?_
 rintro e w2 ⟨rfl,h6⟩
 rw [h6]
 clear h6 w2 f8
 go_wp2
 go_quiet (fail)
 generalize a3:World.drewN j _=wq
 have q6:wq.cell? ⟨ab,7,none⟩=some (.slice mp a.c.L.length G):=by rw [<- a3];exact c7
 have h7:wq.cell? ⟨ab,14,none⟩=some (.slice N a.from_.length U):=by rw [<- a3];exact b1
 have h8:wq.cell? ⟨ab,13,none⟩=some (.string ⟨#[115,101,97,108,105,110,103]⟩):=by rw [<- a3];exact f9
 have h9:wq.cell? ⟨w.heap.size,0,none⟩=some (.string m1):=by rw [<- a3];exact d0
 have i1:wq.cell? ⟨w.heap.size,6,none⟩=some (.bool true):=by rw [<- a3];exact d6
 have i2:wq.cell? ⟨w.heap.size,7,none⟩=some (.slice X D.length lc):=by rw [<- a3];exact d7
 have b2:Below j.heap.size j wq:=by rw [<- a3];exact below_drewN (Below.refl _ _) _
 clear a3 c0 c1 c3 c4 c7 f9 b1 d0 d1 d2 d3 d4 d5 d6 d7
 go_wp2
 go_quiet (first | (go_at_call 46;with_reducible exact Calls.quiet_of_same (h4.out _ (below_drewN b2 _))) | (go_at_call 46;with_reducible exact Calls.quiet_of_same (h5.out _ (below_drewN b2 _))))
 generalize a4:World.drewN wq _=wr
 have q7:wr.cell? ⟨ab,14,none⟩=some (.slice N a.from_.length U):=by rw [<- a4];exact h7
 have r0:wr.cell? ⟨ab,13,none⟩=some (.string ⟨#[115,101,97,108,105,110,103]⟩):=by rw [<- a4];exact h8
 have i3:wr.cell? ⟨w.heap.size,0,none⟩=some (.string m1):=by rw [<- a4];exact h9
 have r1:wr.cell? ⟨w.heap.size,6,none⟩=some (.bool true):=by rw [<- a4];exact i1
 have i4:wr.cell? ⟨w.heap.size,7,none⟩=some (.slice X D.length lc):=by rw [<- a4];exact i2
 have i5:Below j.heap.size j wr:=by rw [<- a4];exact below_drewN b2 _
 have e5:Hid (Below j.heap.size j wr):=i5
 clear a4 q6 h8 h7 h9 i1 i2 b2 i5 h4 h5 n1 t0 u0 v0 e0
 go_wp2
 have b3:Below wr.heap.size wr (wr.alloc (.cells #[.string m1] 9)):=(Below.refl _ _).alloc (Nat.le_refl _) _
 have i7:=e5.out.size
 have b4:Hid (Below j.heap.size j ((wr.alloc (.cells #[.string m1] 9)).drew)):=(e5.out.trans (b3.mono i7)).drew
 have a2:Hid (Qa ((wr.alloc (.cells #[.string m1] 9)).drew) B S ab a (.slice mp a.c.L.length G) nv (.slice N a.from_.length U) lv vs):=q4.out.below b4.out
 have r2:(wr.alloc (.cells #[.string m1] 9)).cell? ⟨ab,14,none⟩=some (.slice N a.from_.length U):=a2.out.cell 14
 have r3:(wr.alloc (.cells #[.string m1] 9)).cell? ⟨w.heap.size,0,none⟩=some (.string m1):=(b3.cell (p:=⟨w.heap.size,0,none⟩) (by show w.heap.size < wr.heap.size;omega)).trans i3
 have i8:(wr.alloc (.cells #[.string m1] 9)).cell? ⟨w.heap.size,7,none⟩=some (.slice X D.length lc):=(b3.cell (p:=⟨w.heap.size,7,none⟩) (by show w.heap.size < wr.heap.size;omega)).trans i4
 have i9:Hid ((wr.alloc (.cells #[.string m1] 9)).cell? ⟨wr.heap.size,0,none⟩=some (.string m1)):=by show _=_;rw [World.cell?_alloc_at _ _ _ _ rfl];rfl
 have j2:Hid (((wr.alloc (.cells #[.string m1] 9)).drew).cell? ⟨w.heap.size,7,none⟩=some (.slice X D.length lc)):=i8
 clear b3 i8 i4 r1 r0
 have j3:Hid (∀ v J,JM J B 9 v (a.from_.map Value.string ++ [.string m1])->((wr.alloc (.cells #[.string m1] 9)).drew).grownBy J (Value.slice N a.from_.length U).ownBlock->(v.ownBlock=(Value.slice N a.from_.length U).ownBlock∨v.ownBlock=some ((wr.alloc (.cells #[.string m1] 9)).drew).heap.size)->∃ y c3,v=.slice y (a.from_.length+1) c3/\Qa (J.setCell ⟨ab,14,none⟩ (.slice y (a.from_.length+1) c3)) B (fun k=>S k∨(Value.slice y (a.from_.length+1) c3).ownBlock=some k) ab { a with from_:=a.from_ ++ [m1] } (.slice mp a.c.L.length G) nv (.slice y (a.from_.length+1) c3) lv vs/\Yd S (fun k=>S k∨(Value.slice y (a.from_.length+1) c3).ownBlock=some k) w (J.setCell ⟨ab,14,none⟩ (.slice y (a.from_.length+1) c3))/\J.frozen? ⟨ab,14,none⟩=false/\J.cell? ⟨ab,14,none⟩=some (.slice N a.from_.length U)/\(J.setCell ⟨ab,14,none⟩ (.slice y (a.from_.length+1) c3)).cell? ⟨w.heap.size,7,none⟩=some (.slice X D.length lc)):=fun v J b5 b0 b6=>by
  have j5:Zq J B v (a.from_ ++ [m1]):=by unfold Zq;rw [List.map_append];exact b5
  obtain ⟨y,c3,j6,_⟩:=j5.form
  rw [List.length_append,List.length_singleton] at j6
  subst j6
  have HF:=a2.out.from j5 b0 b6
  have j8:=(b0.block ab (a2.out.aO ab a2.out.self).2 (fun e=>(a2.out.sF ab e.symm).2 rfl)).trans a2.out.eK
  have r4:Below w.heap.size w ((wr.alloc (.cells #[.string m1] 9)).drew):=h1.out.trans (b4.out.mono h1.out.size)
  have r5:¬ S w.heap.size:=fun hs=>by have:=(p9.out.aO _ hs).2;omega
  exact ⟨y,c3,rfl,HF.1,(Yd.aJ r4).trans HF.2,by simp [World.frozen?,j8],by simp [World.cell?,j8,Jy],(World.cell?_of_block (a:=⟨w.heap.size,7,none⟩) (HF.2.block w.heap.size (by have:=b4.out.size;omega) r5)).trans j2.out⟩
 clear j2
 go_cut [6] from 93 to 100 (fun v J=>∃ y c3,v=.slice y (a.from_.length+1) c3/\Qa (J.setCell ⟨ab,14,none⟩ (.slice y (a.from_.length+1) c3)) B (fun k=>S k∨(Value.slice y (a.from_.length+1) c3).ownBlock=some k) ab { a with from_:=a.from_ ++ [m1] } (.slice mp a.c.L.length G) nv (.slice y (a.from_.length+1) c3) lv vs/\Yd S (fun k=>S k∨(Value.slice y (a.from_.length+1) c3).ownBlock=some k) w (J.setCell ⟨ab,14,none⟩ (.slice y (a.from_.length+1) c3))/\J.frozen? ⟨ab,14,none⟩=false/\J.cell? ⟨ab,14,none⟩=some (.slice N a.from_.length U)/\(J.setCell ⟨ab,14,none⟩ (.slice y (a.from_.length+1) c3)).cell? ⟨w.heap.size,7,none⟩=some (.slice X D.length lc))
 case first =>
  go_region_law (refine X2 rfl (.tmp 96) (.tmp 99) 22 rfl B 9 i0 (.string ⟨#[]⟩) 16 underlying22 o2 o3 rfl o4 o5 (by decide) (.slice N a.from_.length U) (a.from_.map Value.string) (by simp [Act.eval]) a2.out.from_ ⟨wr.heap.size,0,none⟩ 1 (.string m1) rfl (by simp [Act.eval]) i9.out (by rw [List.length_map];omega) a2.out.vP ?_;intro v3 J b5 b0 b6;have r6:Hid _:=j3.out v3 J b5 b0 b6;clear b5 b0 b6)
  all_goals (go_wp2_with fail;go_meet)
  all_goals exact r6.out
 case rest =>
  obtain ⟨y,c3,rfl,e6,e7,r7,b1,k0⟩:=hcut
  clear j3 i9 r2 r3 q7 i3 b4 a2 e5 i7
  obtain ⟨O,e8⟩:∃ O,O=wc.setCell ⟨ab,14,none⟩ (.slice y (a.from_.length+1) c3):=⟨_,rfl⟩
  rw [<- e8] at e6 e7 k0
  have k1:Hid (O=wc.setCell ⟨ab,14,none⟩ (.slice y (a.from_.length+1) c3)):=e8
  have b7:Hid (Qa O B (fun k=>S k∨(Value.slice y (a.from_.length+1) c3).ownBlock=some k) ab { a with from_:=a.from_ ++ [m1] } (.slice mp a.c.L.length G) nv (.slice y (a.from_.length+1) c3) lv vs):=e6
  have d8:Hid (Yd S (fun k=>S k∨(Value.slice y (a.from_.length+1) c3).ownBlock=some k) w O):=e7
  clear e8 e6 e7
  go_wp2
  rw [<- k1.out]
  have s1:O.cell? ⟨ab,15,none⟩=some lv:=b7.out.cell 15
  have d9:Hid (Qa O.drew B (fun k=>S k∨(Value.slice y (a.from_.length+1) c3).ownBlock=some k) ab { a with from_:=a.from_ ++ [m1] } (.slice mp a.c.L.length G) nv (.slice y (a.from_.length+1) c3) lv vs):=b7.out.below (Below.refl _ _).drew
  have k2:Hid (Ql Ze O.drew X D):=h2.out _ d8.out.size (fun k hk hs=>d8.out.block k hk hs)
  have k3:Hid (∀ v6 K,Zc Ze 76 K O.heap.size v6 ([] ++ D)->Below O.heap.size O.drew K->∃ M c6,v6=.slice M D.length c6/\K.cell? ⟨ab,15,none⟩=some lv/\(K.alloc (.cells #[.slice M D.length c6] 55)).cell? ⟨ab,15,none⟩=some lv/\JM (K.alloc (.cells #[.slice M D.length c6] 55)) B 55 lv vs/\B<=(K.alloc (.cells #[.slice M D.length c6] 55)).heap.size/\(∀ v Q,JM Q B 55 v (vs ++ [.slice M D.length c6])->(K.alloc (.cells #[.slice M D.length c6] 55)).grownBy Q lv.ownBlock->(v.ownBlock=lv.ownBlock∨v.ownBlock=some (K.alloc (.cells #[.slice M D.length c6] 55)).heap.size)->∃ Z c8 S2 a7,v=.slice Z (a.L.length+1) c8/\Qa (Q.setCell ⟨ab,15,none⟩ (.slice Z (a.L.length+1) c8)) B S2 ab (a.heard ⟨m1,a.name,wt,a.key,a.op,a.config,true,D⟩) (.slice mp a.c.L.length G) nv (.slice y (a.from_.length+1) c3) (.slice Z (a.L.length+1) c8) a7/\Yd S S2 w (Q.setCell ⟨ab,15,none⟩ (.slice Z (a.L.length+1) c8))/\Q.frozen? ⟨ab,15,none⟩=false/\Q.cell? ⟨ab,15,none⟩=some lv)):=fun v6 K a8 e1=>by
   rw [List.nil_append] at a8
   obtain ⟨M,c6,rfl,_⟩:=a8.form
   have k4:Below O.drew.heap.size O.drew K:=e1
   have k5:=d9.out.below k4
   have a5:=k5.below ((Below.refl _ _).alloc (Nat.le_refl _) (.cells #[.slice M D.length c6] 55))
   refine ⟨M,c6,rfl,k5.cell 15,a5.cell 15,a5.told.1,a5.vP,fun v Q hv hg e2=>?_⟩
   have HF:=d9.out.list (r:=.slice M D.length c6) (row:=D) a8 k4 hv hg e2
   have s2:=a5.aO ab a5.self
   have k6:=(hg.block ab s2.2 (fun e=>(a5.sL ab e.symm).2.1 rfl)).trans a5.eK
   have s3:vs.length=a.L.length:=d9.out.told.2.1
   rcases hv.cells with ⟨_,h0⟩ | ⟨g,u1,k7,_⟩
   ·exact absurd h0 (by simp)
   rw [List.length_append,List.length_singleton,s3] at k7
   subst k7
   exact ⟨_,_,_,_,rfl,HF.1,((d8.out.trans (Yd.aJ (Below.refl _ _).drew)).trans HF.2),by simp [World.frozen?,k6],by simp [World.cell?,k6,Jy]⟩
  have s4:Hid (vs.length=a.L.length):=b7.out.told.2.1
  go_cut [8] from 105 to 114 (fun v Q=>∃ Z c8 S2 a7,v=.slice Z (a.L.length+1) c8/\Qa (Q.setCell ⟨ab,15,none⟩ (.slice Z (a.L.length+1) c8)) B S2 ab (a.heard ⟨m1,a.name,wt,a.key,a.op,a.config,true,D⟩) (.slice mp a.c.L.length G) nv (.slice y (a.from_.length+1) c3) (.slice Z (a.L.length+1) c8) a7/\Yd S S2 w (Q.setCell ⟨ab,15,none⟩ (.slice Z (a.L.length+1) c8))/\Q.frozen? ⟨ab,15,none⟩=false/\Q.cell? ⟨ab,15,none⟩=some lv)
  case first =>
   go_region_law (first | (refine Jak (E:=Ze) rfl (.tmp 109) (.tmp 111) 55 76 rfl (.agg #[.int .i64 0,.int .i64 0,.int .i64 0,.int .i64 0,.string ⟨#[]⟩]) 48 underlying55 qS rfl O.heap.size (.slice none 0 0) [] (by simp [Act.eval]) (Zc.nil _ _ _) X D lc (by simp [Act.eval]) k2.out q5.out (by unfold maxLen;simp;omega) (by simp;omega) (Nat.le_refl _) ?_;intro v6 K a8 e1;obtain ⟨M,c6,s5,u2,u3,l0,l1,l2⟩:=k3.out v6 K a8 e1;subst s5;have l3:Hid (JM (K.alloc (.cells #[.slice M D.length c6] 55)) B 55 lv vs):=l0;have l7:Hid (B<=(K.alloc (.cells #[.slice M D.length c6] 55)).heap.size):=l1;have l8:Hid _:=l2;clear a8 e1 l0 l1 l2) | (refine X2 rfl (.tmp 108) (.tmp 113) 44 rfl B 55 j0 (.slice none 0 0) 24 underlying44 o6 o7 rfl o9 p0 (by decide) lv vs (by simp [Act.eval]) l3.out ⟨K.heap.size,0,none⟩ 1 (.slice M D.length c6) rfl (by simp [Act.eval]) (by rw [World.cell?_alloc_at _ _ _ _ rfl];rfl) (by have:=s4.out;omega) l7.out ?_;intro v8 Q l9 m0 e2;have s6:Hid _:=l8.out v8 Q l9 m0 e2;clear l9 m0 e2 l8 l3 l7))
   all_goals (go_wp2_with fail;go_meet)
   all_goals exact s6.out
  case rest =>
   obtain ⟨Z,c8,S2,a7,rfl,e9,f3,s7,s8⟩:=hcut
   clear k3 k2 h2 d9 b7 d8 k1 s1 k0 r7 b1
   obtain ⟨I,f4⟩:∃ I,I=wc.setCell ⟨ab,15,none⟩ (.slice Z (a.L.length+1) c8):=⟨_,rfl⟩
   rw [<- f4] at e9 f3
   have m8:Hid (I=wc.setCell ⟨ab,15,none⟩ (.slice Z (a.L.length+1) c8)):=f4
   have m9:Hid (Qa I B S2 ab (a.heard ⟨m1,a.name,wt,a.key,a.op,a.config,true,D⟩) (.slice mp a.c.L.length G) nv (.slice y (a.from_.length+1) c3) (.slice Z (a.L.length+1) c8) a7):=e9
   have s9:Hid (Yd S S2 w I):=f3
   have f5:Hid (∀ W,Below I.heap.size I W->(W.cell? ⟨ab,14,none⟩=some (.slice y (a.from_.length+1) c3)/\W.cell? ⟨ab,5,none⟩=some (.int .i64 a.c.n)/\W.cell? ⟨ab,6,none⟩=some (.int .i64 a.c.k)/\W.cell? ⟨ab,7,none⟩=some (.slice mp a.c.L.length G)/\Below I.heap.size I W)):=fun W Y=>by
    have hq:=m9.out.below Y
    exact ⟨hq.cell 14,hq.cell 5,hq.cell 6,hq.cell 7,Y⟩
   have n0:Hid (∀ W,(W.cell? ⟨ab,14,none⟩=some (.slice y (a.from_.length+1) c3)/\W.cell? ⟨ab,5,none⟩=some (.int .i64 a.c.n)/\W.cell? ⟨ab,6,none⟩=some (.int .i64 a.c.k)/\W.cell? ⟨ab,7,none⟩=some (.slice mp a.c.L.length G)/\Below I.heap.size I W)->Calls prog 47 #[.agg #[.int .i64 a.c.n,.int .i64 a.c.k,(.slice mp a.c.L.length G)]] W fun e w'=>e=.returned (.int .i64 ((Jh a.c:Nat):Int))/\(w'.cell? ⟨ab,14,none⟩=some (.slice y (a.from_.length+1) c3)/\w'.cell? ⟨ab,5,none⟩=some (.int .i64 a.c.n)/\w'.cell? ⟨ab,6,none⟩=some (.int .i64 a.c.k)/\w'.cell? ⟨ab,7,none⟩=some (.slice mp a.c.L.length G)/\Below I.heap.size I w')):=fun W Y=>(Jau a.c (.slice mp a.c.L.length G) ⟨_,_,_,rfl⟩ W h3.out).mono fun e w' hp=>⟨hp.1,f5.out w' (Y.2.2.2.2.trans (hp.2.mono Y.2.2.2.2.size))⟩
   have t1:decide (((a.from_.length+1:Nat):Int) < ((Jh a.c:Nat):Int))=true:=decide_eq_true (by have:=e4.out;omega)
   have t2:Hid (((a.from_.length+1:Nat):Int) < ((Jh a.c:Nat):Int)):=by show _ < _;have:=e4.out;omega
   generalize Jh a.c=en at *
   clear f4 e9 f3 h3 e4
   go_wp2
   rw [<- m8.out]
   go_cut [129] from 119 to 129 (fun v W=>v=.bool true/\Below I.heap.size I W)
   case first =>
    go_region_held3 (fun W=>(W.cell? ⟨ab,14,none⟩=some (.slice y (a.from_.length+1) c3)/\W.cell? ⟨ab,5,none⟩=some (.int .i64 a.c.n)/\W.cell? ⟨ab,6,none⟩=some (.int .i64 a.c.k)/\W.cell? ⟨ab,7,none⟩=some (.slice mp a.c.L.length G)/\Below I.heap.size I W)) (first | assumption | exact f5.out _ (Below.refl _ _).drew) (first | (go_at_call 47;refine (n0.out _ (by assumption)).mono ?_;rintro e u6 ⟨rfl,t3⟩))
    all_goals (go_wp2_with fail;go_meet)
    all_goals exact ⟨by first | rfl | (rw [t1]) | simpa using t2.out,(by first | assumption | exact hSs.2.2.2.2 | exact t3.2.2.2.2)⟩
   case rest =>
    obtain ⟨rfl,n2⟩:=hcut
    have n3:Hid (Below I.heap.size I wc):=n2
    clear n2 n0 f5 m8 s7 s8
    go_wp2
    go_ret
    exact ⟨rfl,S2,_,_,a7,m9.out.below n3.out,s9.out.trans (Yd.aJ n3.out)⟩
end
section
variable {w w':World} {B:Nat} {S:Nat->Prop} {ab:Nat} {a:Za} {mv nv fv lv:Value} {vs:List Value}
theorem JbS (h:Qa w B S ab a mv nv fv lv vs) (x:Zb×Lv) (hl:a.c.L.length<=1000) (u1:a.from_.length<=1000) (e3:a.aM x.1=true) (t1:x.1.shut=false) (n2:a.from_.length+1 < Jh a.c) (n3:1<=a.c.k/\a.c.k<=a.c.n/\a.c.n<=12) (u2:a.L.length<=1000) (u3:x.1.L.length<=1000) (t2:x.2.2.1=x.1.L.length) (n4:x.2.1=none->x.1.L=[]/\x.2.2.2=0) (n6:∀ W:World,w.heap.size<=W.heap.size->(∀ k,k < w.heap.size->¬ S k->W.heap[k]?=w.heap[k]?)->Ql Ze W x.2.1 x.1.L):Calls prog 20 #[.pointer (some ⟨ab,0,none⟩),.agg #[.string x.1.from_,.string x.1.aP,.string x.1.kind,.string x.1.key,.int .i64 x.1.op,.int .i64 x.1.config,.bool x.1.shut,.slice x.2.1 x.2.2.1 x.2.2.2]] w fun e w'=>e=.returned (.slice none 0 0)/\∃ S' n7 n8 n9,Qa w' B S' ab (a.heard x.1) mv nv n7 n8 n9/\Yd S S' w w':=by
 obtain ⟨i0,o0,o1,o2,o3⟩:=info_parts (P:=prog) (e:=9) (z:=.string ⟨#[]⟩) (size:=1) (bytes:=16) (by kernel_rfl)
 obtain ⟨j0,o4,o5,o6,o7⟩:=info_parts VU
 obtain ⟨mp,G,o9,f6,t3,p0,p1⟩:=h.mem.at_
 obtain ⟨N,U,p2,f7,t4,p4,_⟩:=h.from_.form
 have p5:Hid (Qa w B S ab a mv nv fv lv vs):=h
 subst o9 p2
 obtain ⟨⟨m1,m2,m3,m4,m5,m6,m7,D⟩,X,ln,lc⟩:=x
 dsimp only at *
 subst t1
 subst t2
 obtain ⟨j,a0⟩:∃ j,j=w.alloc (.cells #[.string m1,.string m2,.string m3,.string m4,.int .i64 m5,.int .i64 m6,.bool false,.slice X D.length lc] 59):=⟨_,rfl⟩
 have a9:Below w.heap.size w j:=by rw [a0];exact (Below.refl _ _).alloc (Nat.le_refl _) _
 have a1:=h.below a9
 have f8:=U1 a1
 have c0:j.cell? ⟨ab,0,none⟩=some (.string a.name):=a1.cell 0
 have c1:j.cell? ⟨ab,1,none⟩=some (.string a.key):=a1.cell 1
 have c3:j.cell? ⟨ab,3,none⟩=some (.int .i64 a.op):=a1.cell 3
 have c4:j.cell? ⟨ab,4,none⟩=some (.int .i64 a.config):=a1.cell 4
 have c7:j.cell? ⟨ab,7,none⟩=some (.slice mp a.c.L.length G):=a1.cell 7
 have b1:j.cell? ⟨ab,14,none⟩=some (.slice N a.from_.length U):=a1.cell 14
 have d0:j.cell? ⟨w.heap.size,0,none⟩=some (.string m1):=by rw [a0,World.cell?_alloc_at _ _ _ _ rfl];rfl
 have d1:j.cell? ⟨w.heap.size,1,none⟩=some (.string m2):=by rw [a0,World.cell?_alloc_at _ _ _ _ rfl];rfl
 have d2:j.cell? ⟨w.heap.size,2,none⟩=some (.string m3):=by rw [a0,World.cell?_alloc_at _ _ _ _ rfl];rfl
 have d3:j.cell? ⟨w.heap.size,3,none⟩=some (.string m4):=by rw [a0,World.cell?_alloc_at _ _ _ _ rfl];rfl
 have d4:j.cell? ⟨w.heap.size,4,none⟩=some (.int .i64 m5):=by rw [a0,World.cell?_alloc_at _ _ _ _ rfl];rfl
 have d5:j.cell? ⟨w.heap.size,5,none⟩=some (.int .i64 m6):=by rw [a0,World.cell?_alloc_at _ _ _ _ rfl];rfl
 have f9:Hid (∀ W,Below j.heap.size j W->Strs W mp a.c.L):=fun W Y=>(f6.below a9).below Y
 have g8:Hid (∀ W,Below j.heap.size j W->Strs W N a.from_):=fun W Y=>(f7.below a9).below Y
 have p7:Hid (j=w.alloc (.cells #[.string m1,.string m2,.string m3,.string m4,.int .i64 m5,.int .i64 m6,.bool false,.slice X D.length lc] 59)):=a0
 have g9:Hid (Below w.heap.size w j):=a9
 have d6:j.cell? ⟨w.heap.size,6,none⟩=some (.bool false):=by rw [a0,World.cell?_alloc_at _ _ _ _ rfl];rfl
 have d7:j.cell? ⟨w.heap.size,7,none⟩=some (.slice X D.length lc):=by rw [a0,World.cell?_alloc_at _ _ _ _ rfl];rfl
 have t5:j.heap.size=w.heap.size+1:=by rw [a0];simp
 have p9:Hid (Qa j B S ab a (.slice mp a.c.L.length G) nv (.slice N a.from_.length U) lv vs):=a1
 have h1:Hid (∀ W:World,w.heap.size<=W.heap.size->(∀ k,k < w.heap.size->¬ S k->W.heap[k]?=w.heap[k]?)->Ql Ze W X D):=n6
 have q0:Hid (X=none->D=[]/\lc=0):=n4
 have e4:Hid (a.from_.length+1 < Jh a.c):=n2
 have h2:Hid (1<=a.c.k/\a.c.k<=a.c.n/\a.c.n<=12):=n3
 obtain ⟨g0,g1,g2,g3,g4,g5,g6,g7⟩:a.st.waits≠⟨#[]⟩/\m3=a.st.waits/\m2=a.name/\m4=a.key/\m5=a.op/\m6=a.config/\m1 ∈ a.c.L/\m1 ∉ a.from_:=by
  unfold Za.aM at e3
  rw [Bool.and_eq_true,Bool.and_eq_true] at e3
  obtain ⟨q1,q2,q3⟩:=e3
  have a5:=of_decide_eq_true q1
  exact ⟨a5.1,a5.2.1,a5.2.2.1,a5.2.2.2.1,a5.2.2.2.2.1,a5.2.2.2.2.2,Zl.1 q2,fun hm=>by rw [Zl.2 hm] at q3;cases q3⟩
 have h3:Hid (∀ W,Below j.heap.size j W->Calls prog 46 #[.slice mp a.c.L.length G,.string m1] W fun e w'=>e=.returned (.int .i64 ((ZJ a.c.L m1:Nat):Int))/\w'=W):=fun W Y=>ML mp a.c.L G m1 W (by omega) (f9.out W Y) g6
 have h4:Hid (∀ W,Below j.heap.size j W->Calls prog 46 #[.slice N a.from_.length U,.string m1] W fun e w'=>e=.returned (.int .i64 (-1))/\w'=W):=fun W Y=>O5 N a.from_ U m1 W (by omega) (g8.out W Y) g7
 clear h f6 p1 f7 p4 p0 a9 a0 a1 e3 f9 g8 n6 n4 n2 n3 g6 g7
 generalize ZJ a.c.L m1=j1 at *
 have n1:decide ((j1:Int) < 0)=false:=decide_eq_false (by omega)
 have t0:=XT g0
 have u0:=YT g0
 have v0:=Y8 g0
 have e0:(⟨#[]⟩:ByteArray).toList=[]:=by decide +kernel
 rw [e0] at t0 u0
 subst g1 g2 g3 g4 g5
 generalize a.st.waits=wt at *
 clear g0
 go_enter func20,ntmps20
 go_wp2_with (first | rw [<- p7.out] | fail)
 refine f8.mono ?_
 rintro e w2 ⟨rfl,h5⟩
 rw [h5]
 clear h5 w2 f8
 go_wp2
 go_quiet (fail)
 generalize a3:World.drewN j _=wq
 have q4:wq.cell? ⟨ab,7,none⟩=some (.slice mp a.c.L.length G):=by rw [<- a3];exact c7
 have h6:wq.cell? ⟨ab,14,none⟩=some (.slice N a.from_.length U):=by rw [<- a3];exact b1
 have h7:wq.cell? ⟨w.heap.size,0,none⟩=some (.string m1):=by rw [<- a3];exact d0
 have h8:wq.cell? ⟨w.heap.size,6,none⟩=some (.bool false):=by rw [<- a3];exact d6
 have h9:wq.cell? ⟨w.heap.size,7,none⟩=some (.slice X D.length lc):=by rw [<- a3];exact d7
 have b2:Below j.heap.size j wq:=by rw [<- a3];exact below_drewN (Below.refl _ _) _
 clear a3 c0 c1 c3 c4 c7 b1 d0 d1 d2 d3 d4 d5 d6 d7
 go_wp2
 go_quiet (first | (go_at_call 46;with_reducible exact Calls.quiet_of_same (h3.out _ (below_drewN b2 _))) | (go_at_call 46;with_reducible exact Calls.quiet_of_same (h4.out _ (below_drewN b2 _))))
 generalize a6:World.drewN wq _=wr
 have q5:wr.cell? ⟨ab,14,none⟩=some (.slice N a.from_.length U):=by rw [<- a6];exact h6
 have i1:wr.cell? ⟨w.heap.size,0,none⟩=some (.string m1):=by rw [<- a6];exact h7
 have q6:wr.cell? ⟨w.heap.size,6,none⟩=some (.bool false):=by rw [<- a6];exact h8
 have i2:wr.cell? ⟨w.heap.size,7,none⟩=some (.slice X D.length lc):=by rw [<- a6];exact h9
 have i3:Below j.heap.size j wr:=by rw [<- a6];exact below_drewN b2 _
 have e5:Hid (Below j.heap.size j wr):=i3
 clear a6 q4 h6 h7 h8 h9 b2 i3 h3 h4 n1 t0 u0 v0 e0
 go_wp2
 have b3:Below wr.heap.size wr (wr.alloc (.cells #[.string m1] 9)):=(Below.refl _ _).alloc (Nat.le_refl _) _
 have i4:=e5.out.size
 have b4:Hid (Below j.heap.size j ((wr.alloc (.cells #[.string m1] 9)).drew)):=(e5.out.trans (b3.mono i4)).drew
 have a2:Hid (Qa ((wr.alloc (.cells #[.string m1] 9)).drew) B S ab a (.slice mp a.c.L.length G) nv (.slice N a.from_.length U) lv vs):=p9.out.below b4.out
 have q7:(wr.alloc (.cells #[.string m1] 9)).cell? ⟨ab,14,none⟩=some (.slice N a.from_.length U):=a2.out.cell 14
 have r0:(wr.alloc (.cells #[.string m1] 9)).cell? ⟨w.heap.size,0,none⟩=some (.string m1):=(b3.cell (p:=⟨w.heap.size,0,none⟩) (by show w.heap.size < wr.heap.size;omega)).trans i1
 have i5:(wr.alloc (.cells #[.string m1] 9)).cell? ⟨w.heap.size,7,none⟩=some (.slice X D.length lc):=(b3.cell (p:=⟨w.heap.size,7,none⟩) (by show w.heap.size < wr.heap.size;omega)).trans i2
 have i7:Hid ((wr.alloc (.cells #[.string m1] 9)).cell? ⟨wr.heap.size,0,none⟩=some (.string m1)):=by show _=_;rw [World.cell?_alloc_at _ _ _ _ rfl];rfl
 have i8:Hid (((wr.alloc (.cells #[.string m1] 9)).drew).cell? ⟨w.heap.size,7,none⟩=some (.slice X D.length lc)):=i5
 clear b3 i5 i2 q6
 have i9:Hid (∀ v J,JM J B 9 v (a.from_.map Value.string ++ [.string m1])->((wr.alloc (.cells #[.string m1] 9)).drew).grownBy J (Value.slice N a.from_.length U).ownBlock->(v.ownBlock=(Value.slice N a.from_.length U).ownBlock∨v.ownBlock=some ((wr.alloc (.cells #[.string m1] 9)).drew).heap.size)->∃ y c3,v=.slice y (a.from_.length+1) c3/\Qa (J.setCell ⟨ab,14,none⟩ (.slice y (a.from_.length+1) c3)) B (fun k=>S k∨(Value.slice y (a.from_.length+1) c3).ownBlock=some k) ab { a with from_:=a.from_ ++ [m1] } (.slice mp a.c.L.length G) nv (.slice y (a.from_.length+1) c3) lv vs/\Yd S (fun k=>S k∨(Value.slice y (a.from_.length+1) c3).ownBlock=some k) w (J.setCell ⟨ab,14,none⟩ (.slice y (a.from_.length+1) c3))/\J.frozen? ⟨ab,14,none⟩=false/\J.cell? ⟨ab,14,none⟩=some (.slice N a.from_.length U)/\(J.setCell ⟨ab,14,none⟩ (.slice y (a.from_.length+1) c3)).cell? ⟨w.heap.size,7,none⟩=some (.slice X D.length lc)):=fun v J b5 b0 b6=>by
  have j2:Zq J B v (a.from_ ++ [m1]):=by unfold Zq;rw [List.map_append];exact b5
  obtain ⟨y,c3,j3,_⟩:=j2.form
  rw [List.length_append,List.length_singleton] at j3
  subst j3
  have HF:=a2.out.from j2 b0 b6
  have j5:=(b0.block ab (a2.out.aO ab a2.out.self).2 (fun e=>(a2.out.sF ab e.symm).2 rfl)).trans a2.out.eK
  have r1:Below w.heap.size w ((wr.alloc (.cells #[.string m1] 9)).drew):=g9.out.trans (b4.out.mono g9.out.size)
  have r2:¬ S w.heap.size:=fun hs=>by have:=(p5.out.aO _ hs).2;omega
  exact ⟨y,c3,rfl,HF.1,(Yd.aJ r1).trans HF.2,by simp [World.frozen?,j5],by simp [World.cell?,j5,Jy],(World.cell?_of_block (a:=⟨w.heap.size,7,none⟩) (HF.2.block w.heap.size (by have:=b4.out.size;omega) r2)).trans i8.out⟩
 clear i8
 go_cut [6] from 93 to 100 (fun v J=>∃ y c3,v=.slice y (a.from_.length+1) c3/\Qa (J.setCell ⟨ab,14,none⟩ (.slice y (a.from_.length+1) c3)) B (fun k=>S k∨(Value.slice y (a.from_.length+1) c3).ownBlock=some k) ab { a with from_:=a.from_ ++ [m1] } (.slice mp a.c.L.length G) nv (.slice y (a.from_.length+1) c3) lv vs/\Yd S (fun k=>S k∨(Value.slice y (a.from_.length+1) c3).ownBlock=some k) w (J.setCell ⟨ab,14,none⟩ (.slice y (a.from_.length+1) c3))/\J.frozen? ⟨ab,14,none⟩=false/\J.cell? ⟨ab,14,none⟩=some (.slice N a.from_.length U)/\(J.setCell ⟨ab,14,none⟩ (.slice y (a.from_.length+1) c3)).cell? ⟨w.heap.size,7,none⟩=some (.slice X D.length lc))
 case first =>
  go_region_law (refine X2 rfl (.tmp 96) (.tmp 99) 22 rfl B 9 i0 (.string ⟨#[]⟩) 16 underlying22 o0 o1 rfl o2 o3 (by decide) (.slice N a.from_.length U) (a.from_.map Value.string) (by simp [Act.eval]) a2.out.from_ ⟨wr.heap.size,0,none⟩ 1 (.string m1) rfl (by simp [Act.eval]) i7.out (by rw [List.length_map];omega) a2.out.vP ?_;intro v3 J b5 b0 b6;have r3:Hid _:=i9.out v3 J b5 b0 b6;clear b5 b0 b6)
  all_goals (go_wp2_with fail;go_meet)
  all_goals exact r3.out
 case rest =>
  obtain ⟨y,c3,rfl,e6,e7,r4,b1,j6⟩:=hcut
  clear i9 i7 q7 r0 q5 i1 b4 a2 e5 i4
  obtain ⟨O,e8⟩:∃ O,O=wc.setCell ⟨ab,14,none⟩ (.slice y (a.from_.length+1) c3):=⟨_,rfl⟩
  rw [<- e8] at e6 e7 j6
  have j8:Hid (O=wc.setCell ⟨ab,14,none⟩ (.slice y (a.from_.length+1) c3)):=e8
  have b7:Hid (Qa O B (fun k=>S k∨(Value.slice y (a.from_.length+1) c3).ownBlock=some k) ab { a with from_:=a.from_ ++ [m1] } (.slice mp a.c.L.length G) nv (.slice y (a.from_.length+1) c3) lv vs):=e6
  have d8:Hid (Yd S (fun k=>S k∨(Value.slice y (a.from_.length+1) c3).ownBlock=some k) w O):=e7
  clear e8 e6 e7
  go_wp2
  rw [<- j8.out]
  have r5:O.cell? ⟨ab,15,none⟩=some lv:=b7.out.cell 15
  have d9:Hid (Qa O.drew B (fun k=>S k∨(Value.slice y (a.from_.length+1) c3).ownBlock=some k) ab { a with from_:=a.from_ ++ [m1] } (.slice mp a.c.L.length G) nv (.slice y (a.from_.length+1) c3) lv vs):=b7.out.below (Below.refl _ _).drew
  have k0:Hid (Ql Ze O.drew X D):=h1.out _ d8.out.size (fun k hk hs=>d8.out.block k hk hs)
  have k1:Hid (∀ v6 K,Zc Ze 76 K O.heap.size v6 ([] ++ D)->Below O.heap.size O.drew K->∃ M c6,v6=.slice M D.length c6/\K.cell? ⟨ab,15,none⟩=some lv/\(K.alloc (.cells #[.slice M D.length c6] 55)).cell? ⟨ab,15,none⟩=some lv/\JM (K.alloc (.cells #[.slice M D.length c6] 55)) B 55 lv vs/\B<=(K.alloc (.cells #[.slice M D.length c6] 55)).heap.size/\(∀ v Q,JM Q B 55 v (vs ++ [.slice M D.length c6])->(K.alloc (.cells #[.slice M D.length c6] 55)).grownBy Q lv.ownBlock->(v.ownBlock=lv.ownBlock∨v.ownBlock=some (K.alloc (.cells #[.slice M D.length c6] 55)).heap.size)->∃ Z c8 S2 a7,v=.slice Z (a.L.length+1) c8/\Qa (Q.setCell ⟨ab,15,none⟩ (.slice Z (a.L.length+1) c8)) B S2 ab (a.heard ⟨m1,a.name,wt,a.key,a.op,a.config,false,D⟩) (.slice mp a.c.L.length G) nv (.slice y (a.from_.length+1) c3) (.slice Z (a.L.length+1) c8) a7/\Yd S S2 w (Q.setCell ⟨ab,15,none⟩ (.slice Z (a.L.length+1) c8))/\Q.frozen? ⟨ab,15,none⟩=false/\Q.cell? ⟨ab,15,none⟩=some lv)):=fun v6 K a8 e1=>by
   rw [List.nil_append] at a8
   obtain ⟨M,c6,rfl,_⟩:=a8.form
   have k2:Below O.drew.heap.size O.drew K:=e1
   have k3:=d9.out.below k2
   have a4:=k3.below ((Below.refl _ _).alloc (Nat.le_refl _) (.cells #[.slice M D.length c6] 55))
   refine ⟨M,c6,rfl,k3.cell 15,a4.cell 15,a4.told.1,a4.vP,fun v Q hv hg e2=>?_⟩
   have HF:=d9.out.list (r:=.slice M D.length c6) (row:=D) a8 k2 hv hg e2
   have r6:=a4.aO ab a4.self
   have k4:=(hg.block ab r6.2 (fun e=>(a4.sL ab e.symm).2.1 rfl)).trans a4.eK
   have r7:vs.length=a.L.length:=d9.out.told.2.1
   rcases hv.cells with ⟨_,h0⟩ | ⟨g,t6,k5,_⟩
   ·exact absurd h0 (by simp)
   rw [List.length_append,List.length_singleton,r7] at k5
   subst k5
   exact ⟨_,_,_,_,rfl,HF.1,((d8.out.trans (Yd.aJ (Below.refl _ _).drew)).trans HF.2),by simp [World.frozen?,k4],by simp [World.cell?,k4,Jy]⟩
  have s1:Hid (vs.length=a.L.length):=b7.out.told.2.1
  go_cut [8] from 105 to 114 (fun v Q=>∃ Z c8 S2 a7,v=.slice Z (a.L.length+1) c8/\Qa (Q.setCell ⟨ab,15,none⟩ (.slice Z (a.L.length+1) c8)) B S2 ab (a.heard ⟨m1,a.name,wt,a.key,a.op,a.config,false,D⟩) (.slice mp a.c.L.length G) nv (.slice y (a.from_.length+1) c3) (.slice Z (a.L.length+1) c8) a7/\Yd S S2 w (Q.setCell ⟨ab,15,none⟩ (.slice Z (a.L.length+1) c8))/\Q.frozen? ⟨ab,15,none⟩=false/\Q.cell? ⟨ab,15,none⟩=some lv)
  case first =>
   go_region_law (first | (refine Jak (E:=Ze) rfl (.tmp 109) (.tmp 111) 55 76 rfl (.agg #[.int .i64 0,.int .i64 0,.int .i64 0,.int .i64 0,.string ⟨#[]⟩]) 48 underlying55 qS rfl O.heap.size (.slice none 0 0) [] (by simp [Act.eval]) (Zc.nil _ _ _) X D lc (by simp [Act.eval]) k0.out q0.out (by unfold maxLen;simp;omega) (by simp;omega) (Nat.le_refl _) ?_;intro v6 K a8 e1;obtain ⟨M,c6,s2,t7,t8,k6,k7,l0⟩:=k1.out v6 K a8 e1;subst s2;have l1:Hid (JM (K.alloc (.cells #[.slice M D.length c6] 55)) B 55 lv vs):=k6;have l2:Hid (B<=(K.alloc (.cells #[.slice M D.length c6] 55)).heap.size):=k7;have l3:Hid _:=l0;clear a8 e1 k6 k7 l0) | (refine X2 rfl (.tmp 108) (.tmp 113) 44 rfl B 55 j0 (.slice none 0 0) 24 underlying44 o4 o5 rfl o6 o7 (by decide) lv vs (by simp [Act.eval]) l1.out ⟨K.heap.size,0,none⟩ 1 (.slice M D.length c6) rfl (by simp [Act.eval]) (by rw [World.cell?_alloc_at _ _ _ _ rfl];rfl) (by have:=s1.out;omega) l2.out ?_;intro v8 Q l7 l8 e2;have s3:Hid _:=l3.out v8 Q l7 l8 e2;clear l7 l8 e2 l3 l1 l2))
   all_goals (go_wp2_with fail;go_meet)
   all_goals exact s3.out
  case rest =>
   obtain ⟨Z,c8,S2,a7,rfl,e9,f3,s4,s5⟩:=hcut
   clear k1 k0 h1 d9 b7 d8 j8 r5 j6 r4 b1
   obtain ⟨I,f4⟩:∃ I,I=wc.setCell ⟨ab,15,none⟩ (.slice Z (a.L.length+1) c8):=⟨_,rfl⟩
   rw [<- f4] at e9 f3
   have l9:Hid (I=wc.setCell ⟨ab,15,none⟩ (.slice Z (a.L.length+1) c8)):=f4
   have m0:Hid (Qa I B S2 ab (a.heard ⟨m1,a.name,wt,a.key,a.op,a.config,false,D⟩) (.slice mp a.c.L.length G) nv (.slice y (a.from_.length+1) c3) (.slice Z (a.L.length+1) c8) a7):=e9
   have s6:Hid (Yd S S2 w I):=f3
   have f5:Hid (∀ W,Below I.heap.size I W->(W.cell? ⟨ab,14,none⟩=some (.slice y (a.from_.length+1) c3)/\W.cell? ⟨ab,5,none⟩=some (.int .i64 a.c.n)/\W.cell? ⟨ab,6,none⟩=some (.int .i64 a.c.k)/\W.cell? ⟨ab,7,none⟩=some (.slice mp a.c.L.length G)/\Below I.heap.size I W)):=fun W Y=>by
    have hq:=m0.out.below Y
    exact ⟨hq.cell 14,hq.cell 5,hq.cell 6,hq.cell 7,Y⟩
   have m8:Hid (∀ W,(W.cell? ⟨ab,14,none⟩=some (.slice y (a.from_.length+1) c3)/\W.cell? ⟨ab,5,none⟩=some (.int .i64 a.c.n)/\W.cell? ⟨ab,6,none⟩=some (.int .i64 a.c.k)/\W.cell? ⟨ab,7,none⟩=some (.slice mp a.c.L.length G)/\Below I.heap.size I W)->Calls prog 47 #[.agg #[.int .i64 a.c.n,.int .i64 a.c.k,(.slice mp a.c.L.length G)]] W fun e w'=>e=.returned (.int .i64 ((Jh a.c:Nat):Int))/\(w'.cell? ⟨ab,14,none⟩=some (.slice y (a.from_.length+1) c3)/\w'.cell? ⟨ab,5,none⟩=some (.int .i64 a.c.n)/\w'.cell? ⟨ab,6,none⟩=some (.int .i64 a.c.k)/\w'.cell? ⟨ab,7,none⟩=some (.slice mp a.c.L.length G)/\Below I.heap.size I w')):=fun W Y=>(Jau a.c (.slice mp a.c.L.length G) ⟨_,_,_,rfl⟩ W h2.out).mono fun e w' hp=>⟨hp.1,f5.out w' (Y.2.2.2.2.trans (hp.2.mono Y.2.2.2.2.size))⟩
   have s7:decide (((a.from_.length+1:Nat):Int) < ((Jh a.c:Nat):Int))=true:=decide_eq_true (by have:=e4.out;omega)
   have s8:Hid (((a.from_.length+1:Nat):Int) < ((Jh a.c:Nat):Int)):=by show _ < _;have:=e4.out;omega
   generalize Jh a.c=en at *
   clear f4 e9 f3 h2 e4
   go_wp2
   rw [<- l9.out]
   go_cut [129] from 119 to 129 (fun v W=>v=.bool true/\Below I.heap.size I W)
   case first =>
    go_region_held3 (fun W=>(W.cell? ⟨ab,14,none⟩=some (.slice y (a.from_.length+1) c3)/\W.cell? ⟨ab,5,none⟩=some (.int .i64 a.c.n)/\W.cell? ⟨ab,6,none⟩=some (.int .i64 a.c.k)/\W.cell? ⟨ab,7,none⟩=some (.slice mp a.c.L.length G)/\Below I.heap.size I W)) (first | assumption | exact f5.out _ (Below.refl _ _).drew) (first | (go_at_call 47;refine (m8.out _ (by assumption)).mono ?_;rintro e t9 ⟨rfl,s9⟩))
    all_goals (go_wp2_with fail;go_meet)
    all_goals exact ⟨by first | rfl | (rw [s7]) | simpa using s8.out,(by first | assumption | exact hSs.2.2.2.2 | exact s9.2.2.2.2)⟩
   case rest =>
    obtain ⟨rfl,m9⟩:=hcut
    have n0:Hid (Below I.heap.size I wc):=m9
    clear m9 m8 f5 l9 s4 s5
    go_wp2
    go_ret
    exact ⟨rfl,S2,_,_,a7,m0.out.below n0.out,s6.out.trans (Yd.aJ n0.out)⟩
end
end Go.Proofs.YtmikbldbfnlfjaaGreatDoor
