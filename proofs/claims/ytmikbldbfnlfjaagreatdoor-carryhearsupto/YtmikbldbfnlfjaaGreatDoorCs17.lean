/- Texts laid together. -/
import Derived.Test.YtmikbldbfnlfjaaGreatDoorCs13
import Derived.Test.YtmikbldbfnlfjaaGreatDoorCs16
set_option maxRecDepth 10000
set_option maxHeartbeats 16000000
namespace Go.Proofs.YtmikbldbfnlfjaaGreatDoor
open Go.Proofs.Tryz
open Go.RowKit
variable {W y w:World}{D G mb:Nat}{f t:Xg}{a:Za}
def Xt (nm key:ByteArray) (op:Int) (f:Xg) (j:Nat) (y:Int) (t:Xg) (D:Nat) (G:Int) (asks st:ByteArray) (I:Value):Array Value:=#[.string nm,.string key,.int .i64 op,.int .i64 0,.int .i64 0,.slice none 0 0,.int .i64 0,.string ⟨#[]⟩,.int .i64 0,.map none,.int .i64 f.n,.int .i64 f.k,.slice (some ⟨j,0,none⟩) f.L.length f.L.length,.int .i64 y,.int .i64 t.n,.int .i64 t.k,.slice (some ⟨D,0,none⟩) t.L.length t.L.length,.int .i64 G,.string asks,I,.string st,.int .i64 0,.int .i64 0,.string ⟨#[]⟩,.bool false]
def Xl (nm key:ByteArray) (op:Int) (f:Xg) (j:Nat) (y:Int) (t:Xg) (D:Nat) (G:Int) (asks told st:ByteArray) (I:Value) (mb:Nat):Array Value:=#[.string nm,.string key,.int .i64 op,.int .i64 f.n,.int .i64 f.k,.slice (some ⟨j,0,none⟩) f.L.length f.L.length,.int .i64 y,.string told,.int .i64 ((Jh f:Nat):Int),.map (some mb),.int .i64 f.n,.int .i64 f.k,.slice (some ⟨j,0,none⟩) f.L.length f.L.length,.int .i64 y,.int .i64 t.n,.int .i64 t.k,.slice (some ⟨D,0,none⟩) t.L.length t.L.length,.int .i64 G,.string asks,I,.string st,.int .i64 0,.int .i64 0,.string ⟨#[]⟩,.bool false]
theorem JbR (nm key:ByteArray) (op:Int) (f:Xg) (j:Nat) (y:Int) (t:Xg) (D:Nat) (G:Int) (asks st:ByteArray) (I:FuncId) (J:Array Value):(Xt nm key op f j y t D G asks st (.func (.func I) #[] J)).all (·.oneCell')=true:=by unfold Xt;simp [Value.oneCell']
theorem tQ (nm key:ByteArray) (op:Int) (f:Xg) (j:Nat) (y:Int) (t:Xg) (D:Nat) (G:Int) (asks st:ByteArray) (I:Value):(prog.info? 93).map (·.size)=some (Xt nm key op f j y t D G asks st I).size:=by
 have:(Xt nm key op f j y t D G asks st I).size=Jj.size:=rfl
 rw [this]
 exact YI
theorem vT (nm key:ByteArray) (op:Int) (f:Xg) (j:Nat) (y:Int) (t:Xg) (D:Nat) (G:Int) (asks told st:ByteArray) (I:FuncId) (J:Array Value) (mb:Nat):(Xl nm key op f j y t D G asks told st (.func (.func I) #[] J) mb).all (·.oneCell')=true:=by unfold Xl;simp [Value.oneCell']
theorem nG (nm key:ByteArray) (op:Int) (f:Xg) (j:Nat) (y:Int) (t:Xg) (D:Nat) (G:Int) (asks told st:ByteArray) (I:Value) (mb:Nat):(prog.info? 93).map (·.size)=some (Xl nm key op f j y t D G asks told st I mb).size:=by
 have:(Xl nm key op f j y t D G asks told st I mb).size=Jj.size:=rfl
 rw [this]
 exact YI
theorem Jt1 (nm key:ByteArray) (op:Int) (f:Xg) (j:Nat) (y:Int) (t:Xg) (D:Nat) (G:Int) (asks told st:ByteArray) (I:Value) (mb:Nat):nT (Xt nm key op f j y t D G asks st I) ⟨f,y,.slice (some ⟨j,0,none⟩) f.L.length f.L.length⟩ told mb=Xl nm key op f j y t D G asks told st I mb:=by
 unfold nT Xt Xl
 simp only [List.setIfInBounds_toArray,List.set_cons_zero,List.set_cons_succ]
structure jZ (w5 W:World) (eb gf gt:Nat) (cs:Array Value) (f t:Xg):Prop where
 eK:W.heap[eb]?=some (.cells cs 93 (0,0))
 ge:w5.heap.size<=eb
 sf:Strs W (some ⟨gf,0,none⟩) f.L
 st:Strs W (some ⟨gt,0,none⟩) t.L
 gR:w5.heap.size<=gf/\gf < W.heap.size
 gX:w5.heap.size<=gt/\gt < W.heap.size
 ne:gf≠eb/\gt≠eb
 be:Below w5.heap.size w5 W
theorem jZ.of {j:World} {y:Nat} (K:Array Value) (Z:W.heap[y]?=some (.cells Jj 93 (0,0))) (ge:j.heap.size<=y) (sf:Strs W (some ⟨D,0,none⟩) f.L) (st:Strs W (some ⟨G,0,none⟩) t.L) (gR:j.heap.size<=D/\D < W.heap.size) (gX:j.heap.size<=G/\G < W.heap.size) (ne:D≠y/\G≠y) (be:Below j.heap.size j W):jZ j (W.setRow y K) y D G K f t:=by
 obtain ⟨M,N,I,O,Q,U⟩:=XZ K Z
 refine ⟨M,ge,sf.same (by omega) (fun b o e=>I b (by injection e with J;injection J with X;omega)),st.same (by omega) (fun b o e=>I b (by injection e with J;injection J with X;omega)),by omega,by omega,ne,⟨O.trans be.os,Q.trans be.tape,U.trans be.output,by rw [N];exact be.size,fun k Y=>(I k (by omega)).trans (be.block k Y)⟩⟩
structure ZX (w W:World) (gf gt mb:Nat) (f t:Xg):Prop where
 sf:Strs W (some ⟨gf,0,none⟩) f.L
 st:Strs W (some ⟨gt,0,none⟩) t.L
 mp:W.heap[mb]?=some (.map #[] 0)
 gR:w.heap.size<=gf/\gf < W.heap.size
 gX:w.heap.size<=gt/\gt < W.heap.size
 iX:w.heap.size<=mb/\mb < W.heap.size
 ne:gf≠mb/\gt≠mb
theorem P5 {c:Xg} {g:Nat} (D:¬ 0 < (Jg c).1) (G:Strs W (some ⟨g,0,none⟩) c.L):Yn W c (some ⟨g,0,none⟩) c.L.length:=by
 obtain ⟨⟨_,_,I⟩,J,_,j,_⟩:=Xm D
 exact ⟨G,Nat.le_refl _,(fun e=>by cases e),by omega,fun x y=>by have:=QF (j x y);omega,⟨by omega,by omega⟩,by omega,by omega⟩
theorem Zp.dJ {ad:Nat->Addr} (h:Zp w ad) (j:∀ k,k < w.heap.size->W.heap[k]?=w.heap[k]?):Zp W ad :=
 ⟨(World.cell?_of_block (a:=⟨_,0,none⟩) (j _ (YC h.c1))).trans h.c1,(World.cell?_of_block (a:=⟨_,0,none⟩) (j _ (YC h.c2))).trans h.c2,(World.cell?_of_block (a:=⟨_,0,none⟩) (j _ (YC h.c3))).trans h.c3,(World.cell?_of_block (a:=⟨_,0,none⟩) (j _ (YC h.c4))).trans h.c4,(World.cell?_of_block (a:=⟨_,0,none⟩) (j _ (YC h.c5))).trans h.c5⟩
theorem P6 (ad:Nat->Addr) (nm key:ByteArray) (op:Int) (f t:Xg) (I J:Int) (p q:Option Addr) (a4 a2:Nat) (asks told st:ByteArray) (M:FuncId) (N:Array Value) (w:World) (f4:Yn w f p a4) (f5:Yn w t q a2) (hE:Zp w ad) {Q:Ending->World->Prop} (HB:∀ c a,Xz f t key op I J=(c,a)->0 < c->∀ ev w',Jd w' ad ev c a->Below w.heap.size w w'->Q (.returned (.tuple #[.agg Jj,ev])) w') (HO:¬ 0 < (Jg f).1->¬ 0 < (Jg t).1->Jo key=true->0<=op->0<=I->0<=J->∀ Z gt mb w',ZX w w' Z gt mb f t->Below w.heap.size w w'->Q (.returned (.tuple #[.agg (Xl nm key op f Z I t gt J asks told st (.func (.func M) #[] N) mb),.nilIface])) w') :
 Calls prog 52 #[.agg #[.string nm,.string key,.int .i64 op,.int .i64 f.n,.int .i64 f.k,.slice p f.L.length a4,.int .i64 I,.int .i64 t.n,.int .i64 t.k,.slice q t.L.length a2,.int .i64 J,.string asks,.string told,.string st,.func (.func M) #[] N]] w Q:=by
 obtain ⟨w2,g9⟩:∃ w2,w2=(w.alloc (.cells #[.string nm,.string key,.int .i64 op,.int .i64 f.n,.int .i64 f.k,.slice p f.L.length a4,.int .i64 I,.int .i64 t.n,.int .i64 t.k,.slice q t.L.length a2,.int .i64 J,.string asks,.string told,.string st,.func (.func M) #[] N] 104)).alloc (.cells #[.string ⟨#[]⟩,.string ⟨#[]⟩,.int .i64 0,.int .i64 0,.int .i64 0,.slice none 0 0,.int .i64 0,.string ⟨#[]⟩,.int .i64 0,.map none,.int .i64 0,.int .i64 0,.slice none 0 0,.int .i64 0,.int .i64 0,.int .i64 0,.slice none 0 0,.int .i64 0,.string ⟨#[]⟩,.nilFunc,.string ⟨#[]⟩,.int .i64 0,.int .i64 0,.string ⟨#[]⟩,.bool false] 93):=⟨_,rfl⟩
 have e0:iH w w2 nm key op f p a4 I t q a2 J asks told st (.func (.func M) #[] N):=by rw [g9];exact iH.start w nm key op f p a4 I t q a2 J asks told st (.func (.func M) #[] N)
 have c3:=(Jb e0.pl 3).1
 have c4:=(Jb e0.pl 4).1
 have c5:=(Jb e0.pl 5).1
 unfold lD at c3 c4 c5
 have g5:=qU ad f p a4 w2 (f4.below e0.be) (hE.below e0.be)
 unfold iE at g5
 have i5:Hid (∀ W,Below w.heap.size w W->Calls prog 73 #[.agg #[.int .i64 t.n,.int .i64 t.k,.slice q t.L.length a2]] W fun e w'=>(∃ ev,e=.returned ev/\Jd w' ad ev (Jg t).1 (Jg t).2)/\Below W.heap.size W w'):=fun W hW=>qU ad t q a2 W (f5.below hW) (hE.below hW)
 have f6:Hid (Zp w ad):=hE
 have k5:Hid (∀ W,Calls prog 74 #[.string key] W fun e w'=>e=.returned (.bool (Jo key))/\Below W.heap.size W w'):=fun W=>qF key W
 have k6:Hid (w2=(w.alloc (.cells #[.string nm,.string key,.int .i64 op,.int .i64 f.n,.int .i64 f.k,.slice p f.L.length a4,.int .i64 I,.int .i64 t.n,.int .i64 t.k,.slice q t.L.length a2,.int .i64 J,.string asks,.string told,.string st,.func (.func M) #[] N] 104)).alloc (.cells #[.string ⟨#[]⟩,.string ⟨#[]⟩,.int .i64 0,.int .i64 0,.int .i64 0,.slice none 0 0,.int .i64 0,.string ⟨#[]⟩,.int .i64 0,.map none,.int .i64 0,.int .i64 0,.slice none 0 0,.int .i64 0,.int .i64 0,.int .i64 0,.slice none 0 0,.int .i64 0,.string ⟨#[]⟩,.nilFunc,.string ⟨#[]⟩,.int .i64 0,.int .i64 0,.string ⟨#[]⟩,.bool false] 93)):=g9
 have k7:Hid (iH w w2 nm key op f p a4 I t q a2 J asks told st (.func (.func M) #[] N)):=e0
 have h0:Hid (Yn w f p a4/\Yn w t q a2):=⟨f4,f5⟩
 have d2:Hid (∀ c a,Xz f t key op I J=(c,a)->0 < c->∀ ev w',Jd w' ad ev c a->Below w.heap.size w w'->Q (.returned (.tuple #[.agg Jj,ev])) w'):=HB
 have e9:Hid (¬ 0 < (Jg f).1->¬ 0 < (Jg t).1->Jo key=true->0<=op->0<=I->0<=J->∀ Z gt mb w',ZX w w' Z gt mb f t->Below w.heap.size w w'->Q (.returned (.tuple #[.agg (Xl nm key op f Z I t gt J asks told st (.func (.func M) #[] N) mb),.nilIface])) w'):=HO
 clear g9 e0 f4 f5 hE HB HO
 go_enter func52,ntmps52
 go_wp2_with (first | rw [<- k6.out] | fail)
 refine g5.mono ?_
 rintro e w3 ⟨⟨ev,rfl,b1⟩,h5⟩
 have b2:Hid (iH w w3 nm key op f p a4 I t q a2 J asks told st (.func (.func M) #[] N)):=k7.out.below h5
 by_cases hf:0 < (Jg f).1
 ·have HQ:Hid (∀ ev w',Jd w' ad ev (Jg f).1 (Jg f).2->Below w.heap.size w w'->Q (.returned (.tuple #[.agg Jj,ev])) w'):=d2.out _ _ (if_pos hf) hf
  clear d2 e9
  obtain ⟨et,eu,rfl⟩:=b1.some hf
  obtain ⟨r1,r2,r3,r4,r5,r6⟩:=XZ Jj b2.out.rs
  obtain ⟨w4,h6⟩:∃ w4,w4=w3.setRow (w.heap.size+1) Jj:=⟨_,rfl⟩
  rw [<- h6] at r1 r2 r3 r4 r5 r6
  have e3:Hid (w4.heap[w.heap.size+1]?=some (.cells Jj 93 (0,0))):=r1
  have e4:Hid (Jd w4 ad (.iface et eu) _ _):=b1.off (Jb b2.out.rs 0).1 r3
  have l0:Hid (w4=w3.setRow (w.heap.size+1) Jj):=h6
  have e5:Hid (Below w.heap.size w w4):=⟨r4.trans b2.out.be.os,r5.trans b2.out.be.tape,r6.trans b2.out.be.output,by rw [r2];exact b2.out.be.size,fun k hk=>(r3 k (by omega)).trans (b2.out.be.block k hk)⟩
  clear b1 h5 g5 c3 c4 c5 h6 r1 r2 r3 r4 r5 r6
  go_wp2_with (first | (refine XR rfl 93 (.tmp 2) (.tmp 13) rfl (w.heap.size+1) Jj (by simp [Act.eval]) (by simp [Act.eval,Jj]) 93 Jj b2.out.rs YI rfl nQ ?_;rw [<- l0.out]) | fail)
  refine bodyPost_ret (v:=.tuple #[.agg Jj,.iface et eu]) (qV results52 rfl rfl e3.out underlying93 rfl YI) rfl (HQ.out _ _ e4.out e5.out)
 have f7:Hid (¬ 0 < (Jg f).1):=hf
 rw [(Xm hf).2.2.1] at b1
 obtain rfl:=Jd.isNil b1
 have h7:=i5.out w3 b2.out.be
 have d7:=(Jb b2.out.pl 7).1
 have d8:=(Jb b2.out.pl 8).1
 have d9:=(Jb b2.out.pl 9).1
 unfold lD at d7 d8 d9
 clear b1 h5 g5 i5 c3 c4 c5
 go_wp2_with fail
 refine h7.mono ?_
 rintro e w4 ⟨⟨ev,rfl,b1⟩,h8⟩
 have b7:Hid (iH w w4 nm key op f p a4 I t q a2 J asks told st (.func (.func M) #[] N)):=b2.out.below h8
 by_cases ht:0 < (Jg t).1
 ·have HQ:Hid (∀ ev w',Jd w' ad ev (Jg t).1 (Jg t).2->Below w.heap.size w w'->Q (.returned (.tuple #[.agg Jj,ev])) w'):=d2.out _ _ (by unfold Xz;rw [if_neg (Int.not_lt.2 f7.out),if_pos ht]) ht
  clear d2 e9
  obtain ⟨et,eu,rfl⟩:=b1.some ht
  obtain ⟨r1,r2,r3,r4,r5,r6⟩:=XZ Jj b7.out.rs
  obtain ⟨X,a7⟩:∃ X,X=w4.setRow (w.heap.size+1) Jj:=⟨_,rfl⟩
  rw [<- a7] at r1 r2 r3 r4 r5 r6
  have e3:Hid (X.heap[w.heap.size+1]?=some (.cells Jj 93 (0,0))):=r1
  have e4:Hid (Jd X ad (.iface et eu) _ _):=b1.off (Jb b7.out.rs 0).1 r3
  have e7:Hid (X=w4.setRow (w.heap.size+1) Jj):=a7
  have e5:Hid (Below w.heap.size w X):=⟨r4.trans b7.out.be.os,r5.trans b7.out.be.tape,r6.trans b7.out.be.output,by rw [r2];exact b7.out.be.size,fun k hk=>(r3 k (by omega)).trans (b7.out.be.block k hk)⟩
  clear b1 h8 h7 d7 d8 d9 a7 r1 r2 r3 r4 r5 r6
  go_wp2_with (first | (refine XR rfl 93 (.tmp 2) (.tmp 21) rfl (w.heap.size+1) Jj (by simp [Act.eval]) (by simp [Act.eval,Jj]) 93 Jj b7.out.rs YI rfl nQ ?_;rw [<- e7.out]) | fail)
  refine bodyPost_ret (v:=.tuple #[.agg Jj,.iface et eu]) (qV results52 rfl rfl e3.out underlying93 rfl YI) rfl (HQ.out _ _ e4.out e5.out)
 have g6:Hid (¬ 0 < (Jg t).1):=ht
 rw [(Xm ht).2.2.1] at b1
 obtain rfl:=Jd.isNil b1
 have e1:=(Jb b7.out.pl 1).1
 unfold lD at e1
 clear b1 h8 h7 d7 d8 d9
 go_wp2_with fail
 refine (k5.out _).mono ?_
 rintro e y ⟨rfl,g7⟩
 have b4:Hid (iH w y nm key op f p a4 I t q a2 J asks told st (.func (.func M) #[] N)):=b7.out.below g7
 cases hk:Jo key with
 | false =>
  have HQ:Hid (∀ ev w',Jd w' ad ev 4 (-1)->Below w.heap.size w w'->Q (.returned (.tuple #[.agg Jj,ev])) w'):=d2.out _ _ (by unfold Xz;rw [if_neg (Int.not_lt.2 f7.out),if_neg (Int.not_lt.2 g6.out),if_pos hk]) (by decide)
  clear d2 e9
  have f8:=(f6.out.below b4.out.be).c3
  have a9:Hid (iH w y.drew nm key op f p a4 I t q a2 J asks told st (.func (.func M) #[] N)):=b4.out.below (Below.refl _ _).drew
  obtain ⟨r1,r2,r3,r4,r5,r6⟩:=XZ Jj a9.out.rs
  obtain ⟨X,a7⟩:∃ X,X=y.drew.setRow (w.heap.size+1) Jj:=⟨_,rfl⟩
  rw [<- a7] at r1 r2 r3 r4 r5 r6
  have e3:Hid (X.heap[w.heap.size+1]?=some (.cells Jj 93 (0,0))):=r1
  have e4:Hid (Jd X ad (.iface 252 (.pointer (some (ad 3)))) _ _):=Jd.b8 3 (by decide)
  have h9:Hid (X.cell? ⟨3,0,none⟩=some (.iface 252 (.pointer (some (ad 3))))):=(World.cell?_of_block (a:=⟨3,0,none⟩) (r3 _ (by show 3≠_;have:=YC (f6.out.c3);omega))).trans f8
  have e7:Hid (X=y.drew.setRow (w.heap.size+1) Jj):=a7
  have e5:Hid (Below w.heap.size w X):=⟨r4.trans a9.out.be.os,r5.trans a9.out.be.tape,r6.trans a9.out.be.output,by rw [r2];exact a9.out.be.size,fun k hk=>(r3 k (by omega)).trans (a9.out.be.block k hk)⟩
  clear g7 e1 a7 r1 r2 r3 r4 r5 r6
  go_wp2
  refine wp_region_held_drew (S:=fun W=>W.cell? ⟨3,0,none⟩=some (.iface 252 (.pointer (some (ad 3))))) (by kernel_rfl) f8 (fun G=>?_)
  refine tk 0 _ G ?_
  refine tk 1 _ G ?_
  simp only [Act.put,List.setIfInBounds_toArray,List.set_cons_zero,List.set_cons_succ]
  refine rdy 2 [] _ (fun K D=>?_) AllReadyH.nil
  refine ZB rfl 93 (.tmp 2) (.tmp 27) rfl (w.heap.size+1) Jj (by simp [Act.eval]) (by simp [Act.eval,Jj]) 93 Jj a9.out.rs YI rfl nQ ?_
  rw [<- e7.out]
  refine D.out _ _ ?_ (fun G=>?_)
  ·exact h9.out
  clear D K
  try simp only [Act.put]
  refine tk 3 _ G ?_
  simp only [Act.put,List.setIfInBounds_toArray,List.set_cons_zero,List.set_cons_succ]
  refine wpAnyH_done (by kernel_rfl) ?_ _
  go_wp2
  refine bodyPost_ret (v:=.tuple #[.agg Jj,.iface 252 (.pointer (some (ad 3)))]) (qV results52 rfl rfl e3.out underlying93 rfl YI) rfl (HQ.out _ _ e4.out e5.out)
 | true =>
  have e2:=(Jb b4.out.pl 2).1
  have e6:=(Jb b4.out.pl 6).1
  have i7:=(Jb b4.out.pl 10).1
  unfold lD at e2 e6 i7
  by_cases f3:0<=op/\0<=I/\0<=J
  rotate_left
  ·have HQ:Hid (∀ ev w',Jd w' ad ev 2 (-1)->Below w.heap.size w w'->Q (.returned (.tuple #[.agg Jj,ev])) w'):=d2.out _ _ (by unfold Xz;rw [if_neg (Int.not_lt.2 f7.out),if_neg (Int.not_lt.2 g6.out),if_neg (by rw [hk];decide),if_neg f3]) (by decide)
   clear d2 e9
   have f8:=(f6.out.below b4.out.be).c1
   have a9:Hid (iH w y.drew nm key op f p a4 I t q a2 J asks told st (.func (.func M) #[] N)):=b4.out.below (Below.refl _ _).drew
   obtain ⟨r1,r2,r3,r4,r5,r6⟩:=XZ Jj a9.out.rs
   obtain ⟨X,a7⟩:∃ X,X=y.drew.setRow (w.heap.size+1) Jj:=⟨_,rfl⟩
   rw [<- a7] at r1 r2 r3 r4 r5 r6
   have e3:Hid (X.heap[w.heap.size+1]?=some (.cells Jj 93 (0,0))):=r1
   have e4:Hid (Jd X ad (.iface 252 (.pointer (some (ad 1)))) _ _):=Jd.b8 1 (by decide)
   have h9:Hid (X.cell? ⟨0,0,none⟩=some (.iface 252 (.pointer (some (ad 1))))):=(World.cell?_of_block (a:=⟨0,0,none⟩) (r3 _ (by show 0≠_;have:=YC (f6.out.c1);omega))).trans f8
   have e7:Hid (X=y.drew.setRow (w.heap.size+1) Jj):=a7
   have e5:Hid (Below w.heap.size w X):=⟨r4.trans a9.out.be.os,r5.trans a9.out.be.tape,r6.trans a9.out.be.output,by rw [r2];exact a9.out.be.size,fun k hk=>(r3 k (by omega)).trans (a9.out.be.block k hk)⟩
   clear g7 e1 a7 r1 r2 r3 r4 r5 r6
   have hw:decide (op < 0)=true∨decide (op < 0)=false/\(decide (I < 0)=true∨decide (I < 0)=false/\decide (J < 0)=true):=by
    by_cases U:op < 0
    ·exact Or.inl (decide_eq_true U)
    ·by_cases Y:I < 0
     ·exact Or.inr ⟨decide_eq_false U,Or.inl (decide_eq_true Y)⟩
     ·exact Or.inr ⟨decide_eq_false U,Or.inr ⟨decide_eq_false Y,decide_eq_true (by omega)⟩⟩
   clear f3
   rcases hw with i8 | ⟨i8,i9 | ⟨i9,l1⟩⟩
   all_goals
    go_wp2
    refine wp_region_held_drew (S:=fun W=>W.cell? ⟨0,0,none⟩=some (.iface 252 (.pointer (some (ad 1))))) (by kernel_rfl) f8 (fun G=>?_)
    refine tk 0 _ G ?_
    refine tk 1 _ G ?_
    simp only [Act.put,List.setIfInBounds_toArray,List.set_cons_zero,List.set_cons_succ]
    refine rdy 2 [] _ (fun K D=>?_) AllReadyH.nil
    refine ZB rfl 93 (.tmp 2) (.tmp 44) rfl (w.heap.size+1) Jj (by simp [Act.eval]) (by simp [Act.eval,Jj]) 93 Jj a9.out.rs YI rfl nQ ?_
    rw [<- e7.out]
    refine D.out _ _ ?_ (fun G=>?_)
    ·exact h9.out
    clear D K
    try simp only [Act.put]
    refine tk 3 _ G ?_
    simp only [Act.put,List.setIfInBounds_toArray,List.set_cons_zero,List.set_cons_succ]
    refine wpAnyH_done (by kernel_rfl) ?_ _
    go_wp2
    refine bodyPost_ret (v:=.tuple #[.agg Jj,.iface 252 (.pointer (some (ad 1)))]) (qV results52 rfl rfl e3.out underlying93 rfl YI) rfl (HQ.out _ _ e4.out e5.out)
  have HQ:Hid (∀ Z gt mb w',ZX w w' Z gt mb f t->Below w.heap.size w w'->Q (.returned (.tuple #[.agg (Xl nm key op f Z I t gt J asks told st (.func (.func M) #[] N) mb),.nilIface])) w'):=e9.out f7.out g6.out hk f3.1 f3.2.1 f3.2.2
  clear d2 e9
  replace hf:=Int.not_lt.2 f7.out
  replace ht:=Int.not_lt.2 g6.out
  have f4:=h0.out.1
  have f5:=h0.out.2
  have h1:¬ op < 0:=by omega
  have h2:¬ I < 0:=by omega
  have h3:¬ J < 0:=by omega
  have l2:key.size<=1000:=by have:=QF hk;omega
  have j0:1<=f.L.length:=by obtain ⟨⟨_,_,_⟩,h4,_⟩:=Xm hf;omega
  have j1:1<=t.L.length:=by obtain ⟨⟨_,_,_⟩,h4,_⟩:=Xm ht;omega
  have l3:Hid (¬ 0 < (Jg f).1):=hf
  have i0:Hid (∀ W,Calls prog 33 #[.string key] W fun e w'=>e=.returned (.string key)/\Below W.heap.size W w'):=fun W=>Xs key W (by omega)
  have g8:Hid (∀ W,Below w.heap.size w W->Calls prog 75 #[.agg #[.int .i64 f.n,.int .i64 f.k,.slice p f.L.length a4,.int .i64 I]] W fun e w'=>(∃ g,e=.returned (.agg #[.int .i64 f.n,.int .i64 f.k,.slice (some ⟨g,0,none⟩) f.L.length f.L.length,.int .i64 I])/\Hid (Strs w' (some ⟨g,0,none⟩) f.L/\W.heap.size<=g/\g < w'.heap.size))/\Below W.heap.size W w'):=fun W hW=>(DJ I f p a4 W (f4.below hW) j0).mono fun e w' hq=>hq
  have f9:Hid (∀ W,Below w.heap.size w W->Calls prog 75 #[.agg #[.int .i64 t.n,.int .i64 t.k,.slice q t.L.length a2,.int .i64 J]] W fun e w'=>(∃ g,e=.returned (.agg #[.int .i64 t.n,.int .i64 t.k,.slice (some ⟨g,0,none⟩) t.L.length t.L.length,.int .i64 J])/\Hid (Strs w' (some ⟨g,0,none⟩) t.L/\W.heap.size<=g/\g < w'.heap.size))/\Below W.heap.size W w'):=fun W hW=>(DJ J t q a2 W (f5.below hW) j1).mono fun e w' hq=>hq
  have i8:decide (op < 0)=false:=decide_eq_false h1
  have i9:decide (I < 0)=false:=decide_eq_false h2
  have l1:decide (J < 0)=false:=decide_eq_false h3
  clear f4 f5 hf ht hk h1 h2 h3 l2 j0 j1 f3 h0
  clear g7 e1
  have HS:Hid (∀ W,Below y.heap.size y W->(W.cell? ⟨w.heap.size,0,none⟩=some (.string nm)/\W.cell? ⟨w.heap.size,1,none⟩=some (.string key)/\W.cell? ⟨w.heap.size,2,none⟩=some (.int .i64 op)/\W.cell? ⟨w.heap.size,3,none⟩=some (.int .i64 f.n)/\W.cell? ⟨w.heap.size,4,none⟩=some (.int .i64 f.k)/\W.cell? ⟨w.heap.size,5,none⟩=some (.slice p f.L.length a4)/\W.cell? ⟨w.heap.size,6,none⟩=some (.int .i64 I)/\W.cell? ⟨w.heap.size,7,none⟩=some (.int .i64 t.n)/\W.cell? ⟨w.heap.size,8,none⟩=some (.int .i64 t.k)/\W.cell? ⟨w.heap.size,9,none⟩=some (.slice q t.L.length a2)/\W.cell? ⟨w.heap.size,10,none⟩=some (.int .i64 J)/\W.cell? ⟨w.heap.size,11,none⟩=some (.string asks)/\W.cell? ⟨w.heap.size,13,none⟩=some (.string st)/\W.cell? ⟨w.heap.size,14,none⟩=some (.func (.func M) #[] N))):=fun W hW=>by
   have hp:=(b4.out.below hW).pl
   exact ⟨(Jb hp 0).1,(Jb hp 1).1,(Jb hp 2).1,(Jb hp 3).1,(Jb hp 4).1,(Jb hp 5).1,(Jb hp 6).1,(Jb hp 7).1,(Jb hp 8).1,(Jb hp 9).1,(Jb hp 10).1,(Jb hp 11).1,(Jb hp 13).1,(Jb hp 14).1⟩
  have d4:Hid (∀ W,Below y.heap.size y W->Below w.heap.size w W):=fun W hW=>(b4.out.below hW).be
  have e8:Hid (∀ W:World,Below W.heap.size W (W.alloc (.cells #[.string ⟨#[]⟩,.string ⟨#[]⟩,.int .i64 0,.int .i64 0,.int .i64 0,.slice none 0 0,.int .i64 0,.string ⟨#[]⟩,.int .i64 0,.map none,.int .i64 0,.int .i64 0,.slice none 0 0,.int .i64 0,.int .i64 0,.int .i64 0,.slice none 0 0,.int .i64 0,.string ⟨#[]⟩,.nilFunc,.string ⟨#[]⟩,.int .i64 0,.int .i64 0,.string ⟨#[]⟩,.bool false] 93))/\(W.alloc (.cells #[.string ⟨#[]⟩,.string ⟨#[]⟩,.int .i64 0,.int .i64 0,.int .i64 0,.slice none 0 0,.int .i64 0,.string ⟨#[]⟩,.int .i64 0,.map none,.int .i64 0,.int .i64 0,.slice none 0 0,.int .i64 0,.int .i64 0,.int .i64 0,.slice none 0 0,.int .i64 0,.string ⟨#[]⟩,.nilFunc,.string ⟨#[]⟩,.int .i64 0,.int .i64 0,.string ⟨#[]⟩,.bool false] 93)).heap[W.heap.size]?=some (.cells Jj 93 (0,0))/\(W.alloc (.cells #[.string ⟨#[]⟩,.string ⟨#[]⟩,.int .i64 0,.int .i64 0,.int .i64 0,.slice none 0 0,.int .i64 0,.string ⟨#[]⟩,.int .i64 0,.map none,.int .i64 0,.int .i64 0,.slice none 0 0,.int .i64 0,.int .i64 0,.int .i64 0,.slice none 0 0,.int .i64 0,.string ⟨#[]⟩,.nilFunc,.string ⟨#[]⟩,.int .i64 0,.int .i64 0,.string ⟨#[]⟩,.bool false] 93)).heap.size=W.heap.size+1):=fun W=>⟨(Below.refl _ _).alloc (Nat.le_refl _) _,(by show (W.heap.push _)[W.heap.size]?=_;simp;rfl),by simp⟩
  go_wp2
  clear e2 e6 i7
  go_cut [6] from 46 to 66 (fun v W=>∃ eb Z gt,v=.pointer (some ⟨eb,0,none⟩)/\jZ y W eb Z gt (Xt nm key op f Z I t gt J asks st (.func (.func M) #[] N)) f t)
  case first =>
   have j2:Below y.heap.size y y.drew:=(Below.refl _ _).drew
   refine wp_region_held_drew (S:=fun W=>(W.cell? ⟨w.heap.size,0,none⟩=some (.string nm)/\W.cell? ⟨w.heap.size,1,none⟩=some (.string key)/\W.cell? ⟨w.heap.size,2,none⟩=some (.int .i64 op)/\W.cell? ⟨w.heap.size,3,none⟩=some (.int .i64 f.n)/\W.cell? ⟨w.heap.size,4,none⟩=some (.int .i64 f.k)/\W.cell? ⟨w.heap.size,5,none⟩=some (.slice p f.L.length a4)/\W.cell? ⟨w.heap.size,6,none⟩=some (.int .i64 I)/\W.cell? ⟨w.heap.size,7,none⟩=some (.int .i64 t.n)/\W.cell? ⟨w.heap.size,8,none⟩=some (.int .i64 t.k)/\W.cell? ⟨w.heap.size,9,none⟩=some (.slice q t.L.length a2)/\W.cell? ⟨w.heap.size,10,none⟩=some (.int .i64 J)/\W.cell? ⟨w.heap.size,11,none⟩=some (.string asks)/\W.cell? ⟨w.heap.size,13,none⟩=some (.string st)/\W.cell? ⟨w.heap.size,14,none⟩=some (.func (.func M) #[] N))) (by kernel_rfl) (HS.out _ j2) (fun G=>?_)
   refine tk 0 _ G ?_
   refine tk 1 _ G ?_
   refine tk 2 _ G ?_
   refine tk 3 _ G ?_
   refine tk 5 _ G ?_
   refine tk 6 _ G ?_
   refine tk 8 _ G ?_
   refine tk 9 _ G ?_
   refine tk 11 _ G ?_
   refine tk 12 _ G ?_
   refine tk 14 _ G ?_
   refine tk 15 _ G ?_
   refine tk 16 _ G ?_
   refine tk 17 _ G ?_
   refine tk 18 _ G ?_
   refine tk 19 _ G ?_
   simp only [Act.put,List.setIfInBounds_toArray,List.set_cons_zero,List.set_cons_succ]
   have i1:=j2
   refine rdy 4 [21] _ (fun K D=>?_) ?_
   ·skip
    go_simp
    go_at_call 33
    refine (i0.out _).mono ?_
    rintro e w6 ⟨rfl,d5⟩
    have a8:Below y.heap.size y w6:=i1.trans (d5.mono i1.size)
    first | (refine D.out _ _ ?_ (fun G=>?_)) | (go_wp2_with fail;refine D.out _ _ ?_ (fun G=>?_))
    ·exact HS.out _ a8
    clear D K
    try simp only [Act.put,List.setIfInBounds_toArray,List.set_cons_zero,List.set_cons_succ]
    refine tk 7 _ G ?_
    simp only [Act.put,List.setIfInBounds_toArray,List.set_cons_zero,List.set_cons_succ]
    refine rdy 10 [21] _ (fun K D=>?_) ?_
    ·skip
     go_simp
     go_at_call 75
     refine (g8.out _ (d4.out _ a8)).mono ?_
     rintro e w7 ⟨⟨U,rfl,d0⟩,b5⟩
     have a0:Below y.heap.size y w7:=a8.trans (b5.mono a8.size)
     first | (refine D.out _ _ ?_ (fun G=>?_)) | (go_wp2_with fail;refine D.out _ _ ?_ (fun G=>?_))
     ·exact HS.out _ a0
     clear D K
     try simp only [Act.put,List.setIfInBounds_toArray,List.set_cons_zero,List.set_cons_succ]
     refine rdy 13 [21] _ (fun K D=>?_) ?_
     ·skip
      go_simp
      go_at_call 75
      refine (f9.out _ (d4.out _ a0)).mono ?_
      rintro e w8 ⟨⟨Y,rfl,b6⟩,a3⟩
      have a5:Below y.heap.size y w8:=a0.trans (a3.mono a0.size)
      first | (refine D.out _ _ ?_ (fun G=>?_)) | (go_wp2_with fail;refine D.out _ _ ?_ (fun G=>?_))
      ·exact HS.out _ a5
      clear D K
      try simp only [Act.put,List.setIfInBounds_toArray,List.set_cons_zero,List.set_cons_succ]
      refine tk 20 _ G ?_
      simp only [Act.put,List.setIfInBounds_toArray,List.set_cons_zero,List.set_cons_succ]
      refine rdy 21 [] _ (fun K D=>?_) AllReadyH.nil
      go_simp
      obtain ⟨wa,a6⟩:∃ wa,wa=w8.alloc (.cells #[.string ⟨#[]⟩,.string ⟨#[]⟩,.int .i64 0,.int .i64 0,.int .i64 0,.slice none 0 0,.int .i64 0,.string ⟨#[]⟩,.int .i64 0,.map none,.int .i64 0,.int .i64 0,.slice none 0 0,.int .i64 0,.int .i64 0,.int .i64 0,.slice none 0 0,.int .i64 0,.string ⟨#[]⟩,.nilFunc,.string ⟨#[]⟩,.int .i64 0,.int .i64 0,.string ⟨#[]⟩,.bool false] 93):=⟨_,rfl⟩
      obtain ⟨b3,b0,d1⟩:=e8.out w8
      rw [<- a6] at b3 b0 d1
      rw [<- a6]
      have a1:Below y.heap.size y wa:=a5.trans (b3.mono a5.size)
      refine D.out _ _ ?_ (fun G=>?_)
      ·exact HS.out _ a1
      clear D K a6
      try simp only [Act.put,List.setIfInBounds_toArray,List.set_cons_zero,List.set_cons_succ]
      refine rdy 22 [] _ (fun K D=>?_) AllReadyH.nil
      refine ZB rfl 93 (.tmp 6) (.tmp 66) rfl w8.heap.size (Xt nm key op f U I t Y J asks st (.func (.func M) #[] N)) (by simp [Act.eval]) (by simp [Act.eval,Xt]) 93 Jj b0 (tQ _ _ _ _ _ _ _ _ _ _ _ _) rfl (JbR _ _ _ _ _ _ _ _ _ _ _ _ _) ?_
      have z0:=a5.size
      have O:jZ y (wa.setRow w8.heap.size (Xt nm key op f U I t Y J asks st (.func (.func M) #[] N))) w8.heap.size U Y (Xt nm key op f U I t Y J asks st (.func (.func M) #[] N)) f t:=by
       have y7:=d0.out.2
       have y8:=b6.out.2
       have s6:=d5.size
       have s7:=b5.size
       have s8:=a3.size
       have sa:=d1
       have sb:=a8.size
       have sc:=a0.size
       have sd:=a5.size
       have se:=a1.size
       have sx:y.drew.heap.size=y.heap.size:=rfl
       exact jZ.of _ b0 (by omega) (((d0.out.1.below a3).below b3)) (b6.out.1.below b3) (by omega) (by omega) (by omega) a1
      refine D.out _ _ ?_ (fun G=>?_)
      ·exact HS.out _ O.be
      clear D K
      try simp only [Act.put]
      refine wpAnyH_done (by kernel_rfl) ?_ _
      go_wp2_with fail
      go_meet
      exact ⟨_,U,Y,rfl,O⟩
     ·refine AllReadyH.cons (o:={ dst:=some 6,op:=Op.alloc 93,type:=0,pos := "errand.go:70",after:=#[],guard:=none }) rfl (fun K D=>?_) AllReadyH.nil
      go_simp
      obtain ⟨wa,a6⟩:∃ wa,wa=w7.alloc (.cells #[.string ⟨#[]⟩,.string ⟨#[]⟩,.int .i64 0,.int .i64 0,.int .i64 0,.slice none 0 0,.int .i64 0,.string ⟨#[]⟩,.int .i64 0,.map none,.int .i64 0,.int .i64 0,.slice none 0 0,.int .i64 0,.int .i64 0,.int .i64 0,.slice none 0 0,.int .i64 0,.string ⟨#[]⟩,.nilFunc,.string ⟨#[]⟩,.int .i64 0,.int .i64 0,.string ⟨#[]⟩,.bool false] 93):=⟨_,rfl⟩
      obtain ⟨b3,b0,d1⟩:=e8.out w7
      rw [<- a6] at b3 b0 d1
      rw [<- a6]
      have a1:Below y.heap.size y wa:=a0.trans (b3.mono a0.size)
      refine D.out _ _ ?_ (fun G=>?_)
      ·exact HS.out _ a1
      clear D K a6
      try simp only [Act.put,List.setIfInBounds_toArray,List.set_cons_zero,List.set_cons_succ]
      refine rdy 13 [] _ (fun K D=>?_) AllReadyH.nil
      go_simp
      go_at_call 75
      refine (f9.out _ (d4.out _ a1)).mono ?_
      rintro e w8 ⟨⟨Y,rfl,b6⟩,a3⟩
      have a5:Below y.heap.size y w8:=a1.trans (a3.mono a1.size)
      have d6:w8.heap[w7.heap.size]?=some (.cells Jj 93 (0,0)):=(a3.block _ (YG b0)).trans b0
      first | (refine D.out _ _ ?_ (fun G=>?_)) | (go_wp2_with fail;refine D.out _ _ ?_ (fun G=>?_))
      ·exact HS.out _ a5
      clear D K
      try simp only [Act.put,List.setIfInBounds_toArray,List.set_cons_zero,List.set_cons_succ]
      refine tk 20 _ G ?_
      simp only [Act.put,List.setIfInBounds_toArray,List.set_cons_zero,List.set_cons_succ]
      refine rdy 22 [] _ (fun K D=>?_) AllReadyH.nil
      refine ZB rfl 93 (.tmp 6) (.tmp 66) rfl w7.heap.size (Xt nm key op f U I t Y J asks st (.func (.func M) #[] N)) (by simp [Act.eval]) (by simp [Act.eval,Xt]) 93 Jj d6 (tQ _ _ _ _ _ _ _ _ _ _ _ _) rfl (JbR _ _ _ _ _ _ _ _ _ _ _ _ _) ?_
      have z0:=a0.size
      have O:jZ y (w8.setRow w7.heap.size (Xt nm key op f U I t Y J asks st (.func (.func M) #[] N))) w7.heap.size U Y (Xt nm key op f U I t Y J asks st (.func (.func M) #[] N)) f t:=by
       have y7:=d0.out.2
       have y8:=b6.out.2
       have s6:=d5.size
       have s7:=b5.size
       have s8:=a3.size
       have sa:=d1
       have sb:=a8.size
       have sc:=a0.size
       have sd:=a5.size
       have se:=a1.size
       have sx:y.drew.heap.size=y.heap.size:=rfl
       exact jZ.of _ d6 (by omega) ((d0.out.1.below b3).below a3) b6.out.1 (by omega) (by omega) (by omega) a5
      refine D.out _ _ ?_ (fun G=>?_)
      ·exact HS.out _ O.be
      clear D K
      try simp only [Act.put]
      refine wpAnyH_done (by kernel_rfl) ?_ _
      go_wp2_with fail
      go_meet
      exact ⟨_,U,Y,rfl,O⟩
    ·refine AllReadyH.cons (o:={ dst:=some 6,op:=Op.alloc 93,type:=0,pos := "errand.go:70",after:=#[],guard:=none }) rfl (fun K D=>?_) AllReadyH.nil
     go_simp
     obtain ⟨wa,a6⟩:∃ wa,wa=w6.alloc (.cells #[.string ⟨#[]⟩,.string ⟨#[]⟩,.int .i64 0,.int .i64 0,.int .i64 0,.slice none 0 0,.int .i64 0,.string ⟨#[]⟩,.int .i64 0,.map none,.int .i64 0,.int .i64 0,.slice none 0 0,.int .i64 0,.int .i64 0,.int .i64 0,.slice none 0 0,.int .i64 0,.string ⟨#[]⟩,.nilFunc,.string ⟨#[]⟩,.int .i64 0,.int .i64 0,.string ⟨#[]⟩,.bool false] 93):=⟨_,rfl⟩
     obtain ⟨b3,b0,d1⟩:=e8.out w6
     rw [<- a6] at b3 b0 d1
     rw [<- a6]
     have a1:Below y.heap.size y wa:=a8.trans (b3.mono a8.size)
     refine D.out _ _ ?_ (fun G=>?_)
     ·exact HS.out _ a1
     clear D K a6
     try simp only [Act.put,List.setIfInBounds_toArray,List.set_cons_zero,List.set_cons_succ]
     refine rdy 10 [] _ (fun K D=>?_) AllReadyH.nil
     go_simp
     go_at_call 75
     refine (g8.out _ (d4.out _ a1)).mono ?_
     rintro e w7 ⟨⟨U,rfl,d0⟩,b5⟩
     have a0:Below y.heap.size y w7:=a1.trans (b5.mono a1.size)
     have g0:w7.heap[w6.heap.size]?=some (.cells Jj 93 (0,0)):=(b5.block _ (YG b0)).trans b0
     first | (refine D.out _ _ ?_ (fun G=>?_)) | (go_wp2_with fail;refine D.out _ _ ?_ (fun G=>?_))
     ·exact HS.out _ a0
     clear D K
     try simp only [Act.put,List.setIfInBounds_toArray,List.set_cons_zero,List.set_cons_succ]
     refine rdy 13 [] _ (fun K D=>?_) AllReadyH.nil
     go_simp
     go_at_call 75
     refine (f9.out _ (d4.out _ a0)).mono ?_
     rintro e w8 ⟨⟨Y,rfl,b6⟩,a3⟩
     have a5:Below y.heap.size y w8:=a0.trans (a3.mono a0.size)
     have d6:w8.heap[w6.heap.size]?=some (.cells Jj 93 (0,0)):=(a3.block _ (YG g0)).trans g0
     first | (refine D.out _ _ ?_ (fun G=>?_)) | (go_wp2_with fail;refine D.out _ _ ?_ (fun G=>?_))
     ·exact HS.out _ a5
     clear D K
     try simp only [Act.put,List.setIfInBounds_toArray,List.set_cons_zero,List.set_cons_succ]
     refine tk 20 _ G ?_
     simp only [Act.put,List.setIfInBounds_toArray,List.set_cons_zero,List.set_cons_succ]
     refine rdy 22 [] _ (fun K D=>?_) AllReadyH.nil
     refine ZB rfl 93 (.tmp 6) (.tmp 66) rfl w6.heap.size (Xt nm key op f U I t Y J asks st (.func (.func M) #[] N)) (by simp [Act.eval]) (by simp [Act.eval,Xt]) 93 Jj d6 (tQ _ _ _ _ _ _ _ _ _ _ _ _) rfl (JbR _ _ _ _ _ _ _ _ _ _ _ _ _) ?_
     have z0:=a8.size
     have O:jZ y (w8.setRow w6.heap.size (Xt nm key op f U I t Y J asks st (.func (.func M) #[] N))) w6.heap.size U Y (Xt nm key op f U I t Y J asks st (.func (.func M) #[] N)) f t:=by
      have y7:=d0.out.2
      have y8:=b6.out.2
      have s6:=d5.size
      have s7:=b5.size
      have s8:=a3.size
      have sa:=d1
      have sb:=a8.size
      have sc:=a0.size
      have sd:=a5.size
      have se:=a1.size
      have sx:y.drew.heap.size=y.heap.size:=rfl
      exact jZ.of _ d6 (by omega) (d0.out.1.below a3) b6.out.1 (by omega) (by omega) (by omega) a5
     refine D.out _ _ ?_ (fun G=>?_)
     ·exact HS.out _ O.be
     clear D K
     try simp only [Act.put]
     refine wpAnyH_done (by kernel_rfl) ?_ _
     go_wp2_with fail
     go_meet
     exact ⟨_,U,Y,rfl,O⟩
   ·refine AllReadyH.cons (o:={ dst:=some 6,op:=Op.alloc 93,type:=0,pos := "errand.go:70",after:=#[],guard:=none }) rfl (fun K D=>?_) AllReadyH.nil
    go_simp
    obtain ⟨wa,a6⟩:∃ wa,wa=(y.alloc (.cells #[.string ⟨#[]⟩,.string ⟨#[]⟩,.int .i64 0,.int .i64 0,.int .i64 0,.slice none 0 0,.int .i64 0,.string ⟨#[]⟩,.int .i64 0,.map none,.int .i64 0,.int .i64 0,.slice none 0 0,.int .i64 0,.int .i64 0,.int .i64 0,.slice none 0 0,.int .i64 0,.string ⟨#[]⟩,.nilFunc,.string ⟨#[]⟩,.int .i64 0,.int .i64 0,.string ⟨#[]⟩,.bool false] 93)).drew:=⟨_,rfl⟩
    have b3:Below y.heap.size y wa:=by rw [a6];exact (e8.out y).1.drew
    have b0:wa.heap[y.heap.size]?=some (.cells Jj 93 (0,0)):=by rw [a6];exact (e8.out y).2.1
    have d1:wa.heap.size=y.heap.size+1:=by rw [a6];exact (e8.out y).2.2
    rw [<- a6]
    have a1:=b3
    refine D.out _ _ ?_ (fun G=>?_)
    ·exact HS.out _ a1
    clear D K a6
    try simp only [Act.put,List.setIfInBounds_toArray,List.set_cons_zero,List.set_cons_succ]
    refine rdy 4 [] _ (fun K D=>?_) AllReadyH.nil
    go_simp
    go_at_call 33
    refine (i0.out _).mono ?_
    rintro e w6 ⟨rfl,d5⟩
    have a8:Below y.heap.size y w6:=a1.trans (d5.mono a1.size)
    have j3:w6.heap[y.heap.size]?=some (.cells Jj 93 (0,0)):=(d5.block _ (YG b0)).trans b0
    first | (refine D.out _ _ ?_ (fun G=>?_)) | (go_wp2_with fail;refine D.out _ _ ?_ (fun G=>?_))
    ·exact HS.out _ a8
    clear D K
    try simp only [Act.put,List.setIfInBounds_toArray,List.set_cons_zero,List.set_cons_succ]
    refine tk 7 _ G ?_
    simp only [Act.put,List.setIfInBounds_toArray,List.set_cons_zero,List.set_cons_succ]
    refine rdy 10 [] _ (fun K D=>?_) AllReadyH.nil
    go_simp
    go_at_call 75
    refine (g8.out _ (d4.out _ a8)).mono ?_
    rintro e w7 ⟨⟨U,rfl,d0⟩,b5⟩
    have a0:Below y.heap.size y w7:=a8.trans (b5.mono a8.size)
    have g0:w7.heap[y.heap.size]?=some (.cells Jj 93 (0,0)):=(b5.block _ (YG j3)).trans j3
    first | (refine D.out _ _ ?_ (fun G=>?_)) | (go_wp2_with fail;refine D.out _ _ ?_ (fun G=>?_))
    ·exact HS.out _ a0
    clear D K
    try simp only [Act.put,List.setIfInBounds_toArray,List.set_cons_zero,List.set_cons_succ]
    refine rdy 13 [] _ (fun K D=>?_) AllReadyH.nil
    go_simp
    go_at_call 75
    refine (f9.out _ (d4.out _ a0)).mono ?_
    rintro e w8 ⟨⟨Y,rfl,b6⟩,a3⟩
    have a5:Below y.heap.size y w8:=a0.trans (a3.mono a0.size)
    have d6:w8.heap[y.heap.size]?=some (.cells Jj 93 (0,0)):=(a3.block _ (YG g0)).trans g0
    first | (refine D.out _ _ ?_ (fun G=>?_)) | (go_wp2_with fail;refine D.out _ _ ?_ (fun G=>?_))
    ·exact HS.out _ a5
    clear D K
    try simp only [Act.put,List.setIfInBounds_toArray,List.set_cons_zero,List.set_cons_succ]
    refine tk 20 _ G ?_
    simp only [Act.put,List.setIfInBounds_toArray,List.set_cons_zero,List.set_cons_succ]
    refine rdy 22 [] _ (fun K D=>?_) AllReadyH.nil
    refine ZB rfl 93 (.tmp 6) (.tmp 66) rfl y.heap.size (Xt nm key op f U I t Y J asks st (.func (.func M) #[] N)) (by simp [Act.eval]) (by simp [Act.eval,Xt]) 93 Jj d6 (tQ _ _ _ _ _ _ _ _ _ _ _ _) rfl (JbR _ _ _ _ _ _ _ _ _ _ _ _ _) ?_
    have z0:=i1.size
    have O:jZ y (w8.setRow y.heap.size (Xt nm key op f U I t Y J asks st (.func (.func M) #[] N))) y.heap.size U Y (Xt nm key op f U I t Y J asks st (.func (.func M) #[] N)) f t:=by
     have y7:=d0.out.2
     have y8:=b6.out.2
     have s6:=d5.size
     have s7:=b5.size
     have s8:=a3.size
     have sa:=d1
     have sb:=a8.size
     have sc:=a0.size
     have sd:=a5.size
     have se:=a1.size
     have sx:y.drew.heap.size=y.heap.size:=rfl
     exact jZ.of _ d6 (by omega) (d0.out.1.below a3) b6.out.1 (by omega) (by omega) (by omega) a5
    refine D.out _ _ ?_ (fun G=>?_)
    ·exact HS.out _ O.be
    clear D K
    try simp only [Act.put]
    refine wpAnyH_done (by kernel_rfl) ?_ _
    go_wp2_with fail
    go_meet
    exact ⟨_,U,Y,rfl,O⟩
  case rest =>
   obtain ⟨eb,Z,gt,rfl,O⟩:=hcut
   have j5:=(Jb O.eK 10).1
   have j6:=(Jb O.eK 11).1
   have j8:=(Jb O.eK 12).1
   have k0:=(Jb O.eK 13).1
   unfold Xt at j5 j6 j8 k0
   have d3:=b4.out.below O.be
   have k1:=(Jb d3.pl 12).1
   unfold lD at k1
   have l7:=b4.out.be.size
   have i2:¬ 0 < (Jg f).1:=by have:=l3.out;omega
   have i3:=ED ad ⟨f,I,.slice (some ⟨Z,0,none⟩) f.L.length f.L.length⟩ (some ⟨Z,0,none⟩) f.L.length told O.eK rfl i2 rfl (fun W hs hk=>⟨P5 i2 (O.sf.same hs (fun b o e=>hk b (by have:=O.gR;injection e with e1;injection e1 with e2;omega) (by have:=O.ne;injection e with e1;injection e1 with e2;omega))),f6.out.dJ (fun k l8=>by have:=O.ge;have:=O.be.size;exact (hk k (by omega) (by omega)).trans (d3.be.block k l8))⟩)
   dsimp only at i3
   have k2:Hid (Calls prog 76 #[.pointer (some ⟨eb,0,none⟩),.agg #[.int .i64 f.n,.int .i64 f.k,.slice (some ⟨Z,0,none⟩) f.L.length f.L.length,.int .i64 I],.string told] wc fun e w'=>e=.returned (.tuple #[])/\∃ mb,Hid (w'.heap[eb]?=some (.cells (Xl nm key op f Z I t gt J asks told st (.func (.func M) #[] N) mb) 93 (0,0)))/\Hid (w'.heap[w.heap.size+1]?=some (.cells Jj 93 (0,0)))/\Hid (ZX w (w'.setRow (w.heap.size+1) (Xl nm key op f Z I t gt J asks told st (.func (.func M) #[] N) mb)) Z gt mb f t/\Below w.heap.size w (w'.setRow (w.heap.size+1) (Xl nm key op f Z I t gt J asks told st (.func (.func M) #[] N) mb)))):=i3.mono fun e w' hq=>by
    obtain ⟨U,mb,Y,g3,g4⟩:=hq
    have m4:=YG b4.out.rs
    have m5:=O.ge
    have k3:w'.heap[w.heap.size+1]?=some (.cells Jj 93 (0,0)):=(g3.cW _ (by have:=O.be.size;omega) (by omega)).trans d3.rs
    obtain ⟨r1,r2,r3,r4,r5,r6⟩:=XZ (Xl nm key op f Z I t gt J asks told st (.func (.func M) #[] N) mb) k3
    have m6:=O.gR
    have m7:=O.gX
    have m8:=O.ne
    have m9:=g3.size
    have n0:=O.be.size
    have n1:=YG g4
    refine ⟨U,mb,?_,k3,⟨?_,?_,?_,?_,?_,?_,?_⟩,?_⟩
    ·have:=g3.eK
     rw [Jt1] at this
     exact this
    ·exact O.sf.same (by omega) (fun b o e=>(r3 b (by injection e with e1;injection e1 with e2;omega)).trans (g3.cW b (by injection e with e1;injection e1 with e2;omega) (by injection e with e1;injection e1 with e2;omega)))
    ·exact O.st.same (by omega) (fun b o e=>(r3 b (by injection e with e1;injection e1 with e2;omega)).trans (g3.cW b (by injection e with e1;injection e1 with e2;omega) (by injection e with e1;injection e1 with e2;omega)))
    ·exact (r3 mb (by omega)).trans g4
    ·exact ⟨by omega,by omega⟩
    ·exact ⟨by omega,by omega⟩
    ·exact ⟨by omega,by omega⟩
    ·exact ⟨by omega,by omega⟩
    ·exact ⟨r4.trans (g3.os.trans d3.be.os),r5.trans (g3.tape.trans d3.be.tape),r6.trans (g3.output.trans d3.be.output),by have:=d3.be.size;omega,fun k hk=>(r3 k (by omega)).trans ((g3.cW k (by omega) (by omega)).trans (d3.be.block k hk))⟩
   clear i3 O d3 l7 i2 HS d4 e8 i0 g8 f9
   go_wp2_with fail
   refine k2.out.mono ?_
   rintro e w9 ⟨rfl,mb,l9,k4,i4⟩
   obtain ⟨X,a7⟩:∃ X,X=w9.setRow (w.heap.size+1) (Xl nm key op f Z I t gt J asks told st (.func (.func M) #[] N) mb):=⟨_,rfl⟩
   have m0:Hid (X.heap[w.heap.size+1]?=some (.cells (Xl nm key op f Z I t gt J asks told st (.func (.func M) #[] N) mb) 93 (0,0))):=by rw [a7];exact (XZ _ k4.out).1
   have e7:Hid (X=w9.setRow (w.heap.size+1) (Xl nm key op f Z I t gt J asks told st (.func (.func M) #[] N) mb)):=a7
   rw [<- a7] at i4
   clear k2 j5 j6 j8 k0 k1 a7
   go_wp2_with (first | (refine wpList_load_mid rfl 93 (.tmp 6) rfl eb 0 rfl (Xl nm key op f Z I t gt J asks told st (.func (.func M) #[] N) mb).toList _ (fun j u hu=>by rw [Nat.zero_add,(Jb l9.out j).1];simpa using hu) underlying93 rfl (nG _ _ _ _ _ _ _ _ _ _ _ _ _ _) ?_) | (refine XR rfl 93 (.tmp 2) (.tmp 73) rfl (w.heap.size+1) (Xl nm key op f Z I t gt J asks told st (.func (.func M) #[] N) mb) rfl rfl 93 Jj k4.out (nG _ _ _ _ _ _ _ _ _ _ _ _ _ _) rfl (vT _ _ _ _ _ _ _ _ _ _ _ _ _ _ _) ?_;rw [<- e7.out]) | fail)
   exact bodyPost_ret (v:=.tuple #[.agg (Xl nm key op f Z I t gt J asks told st (.func (.func M) #[] N) mb),.nilIface]) (qV results52 rfl rfl m0.out underlying93 rfl (nG _ _ _ _ _ _ _ _ _ _ _ _ _ _)) rfl (HQ.out _ _ _ _ i4.out.1 i4.out.2)
theorem GA (ad:Nat->Addr) (nm key:ByteArray) (op:Int) (f t:Xg) (j y:Int) (p q:Option Addr) (O Q:Nat) (asks told st:ByteArray) (U:FuncId) (W:Array Value) (w:World) (a0:Yn w f p O) (a1:Yn w t q Q) (hE:Zp w ad) :
 Calls prog 52 #[.agg #[.string nm,.string key,.int .i64 op,.int .i64 f.n,.int .i64 f.k,.slice p f.L.length O,.int .i64 j,.int .i64 t.n,.int .i64 t.k,.slice q t.L.length Q,.int .i64 y,.string asks,.string told,.string st,.func (.func U) #[] W]] w fun e w'=>((0 < (Xz f t key op j y).1/\∃ D,e=.returned (.tuple #[.agg Jj,D])/\Jd w' ad D (Xz f t key op j y).1 (Xz f t key op j y).2)∨(Xz f t key op j y=(0,-1)/\(¬ 0 < (Jg f).1/\¬ 0 < (Jg t).1/\Jo key=true/\0<=op/\0<=j/\0<=y)/\∃ G I mb,e=.returned (.tuple #[.agg (Xl nm key op f G j t I y asks told st (.func (.func U) #[] W) mb),.nilIface])/\ZX w w' G I mb f t))/\Below w.heap.size w w':=by
 exact P6 ad nm key op f t j y p q O Q asks told st U W w a0 a1 hE (fun c a J K D w' M N=>by rw [J];exact ⟨Or.inl ⟨K,D,rfl,M⟩,N⟩) (fun J K M N X Y G I mb w' Z h8=>⟨Or.inr ⟨by unfold Xz;rw [if_neg J,if_neg K,if_neg (by rw [M];decide),if_pos ⟨N,X,Y⟩],⟨J,K,M,N,X,Y⟩,G,I,mb,rfl,Z⟩,h8⟩)
theorem ZX.below  (h:ZX w W D G mb f t) (j:Below W.heap.size W y):ZX w y D G mb f t:=⟨h.sf.below j,h.st.below j,(j.block _ h.iX.2).trans h.mp,⟨h.gR.1,Nat.lt_of_lt_of_le h.gR.2 j.size⟩,⟨h.gX.1,Nat.lt_of_lt_of_le h.gX.2 j.size⟩,⟨h.iX.1,Nat.lt_of_lt_of_le h.iX.2 j.size⟩,h.ne⟩
theorem ZX.base  (h:ZX w W D G mb f t) (j:y.heap.size<=w.heap.size):ZX y W D G mb f t:=⟨h.sf,h.st,h.mp,⟨Nat.le_trans j h.gR.1,h.gR.2⟩,⟨Nat.le_trans j h.gX.1,h.gX.2⟩,⟨Nat.le_trans j h.iX.1,h.iX.2⟩,h.ne⟩
theorem Jpx (h:a.first):a.obj=(0,0,⟨#[]⟩,false):=if_neg (fun e=>by have:=mT h;rcases e.1 with e | e;exact this.1 e;exact this.2.1 e)
theorem JF.new {X:TypeId} {h:Nat}  {K O:Int} {asks told:ByteArray} {Q:Value} {S1:Nat->Prop} (y:ZX w W D G mb f t) (hh:w.heap.size<=h/\h < W.heap.size) (U:h≠D/\h≠G/\h≠mb) (hb:W.heap[h]?=some (.cells (Xl a.name a.key a.op f D K t G O asks told a.st.word Q mb) X (0,0))) (J:∀ k,S1 k->w.heap.size<=k/\k < W.heap.size/\k≠h/\k≠mb) (a0:jY W (fun k=>k=D∨k=G∨S1 k) a.put a.dT a.text Q) (Y:a.first) (hf:QN a) (a1:¬ 0 < (Jg f).1) (a2:¬ 0 < (Jg t).1) (e0:a.from_=[]) (I:f=a.c/\K=a.config/\t=a.keeps.c/\O=a.keeps.config) (j:asks=if a.aI then O1 else rO) (hw:told=a.st.waits):ZR X W w.heap.size h (fun k=>k=h∨k=mb∨k=D∨k=G∨S1 k) a:=by
 refine ⟨fun k=>k=D∨k=G∨S1 k,⟨f,K,.slice (some ⟨D,0,none⟩) f.L.length f.L.length⟩,⟨f,K,.slice (some ⟨D,0,none⟩) f.L.length f.L.length⟩,⟨t,O,.slice (some ⟨G,0,none⟩) t.L.length t.L.length⟩,asks,Q,told,some mb,.map [],fun _=>.slice none 0 0,⟨?_,Or.inl rfl,?_,⟨⟨a1,some ⟨D,0,none⟩,f.L.length,rfl,y.sf,Nat.le_refl _,(fun e=>by cases e),(fun b o e=>Or.inl (by injection e with M;injection M with N;exact N.symm))⟩,⟨a2,some ⟨G,0,none⟩,t.L.length,rfl,y.st,Nat.le_refl _,(fun e=>by cases e),(fun b o e=>Or.inr (Or.inl (by injection e with M;injection M with N;exact N.symm)))⟩,fun _=>a0,(fun _ x Z=>by rw [e0] at Z;cases Z),?_⟩,?_,hf,⟨fun _=>⟨rfl,I.1,I.2.1,I.2.2.1,I.2.2.2⟩,fun e=>absurd e (mT Y).1,fun _=>⟨I.1,I.2.1⟩,j⟩,fun _=>⟨mb,rfl,Or.inr (Or.inl rfl),fun e=>U.2.2 e.symm,?_⟩,(fun e=>by have:=mT Y;rcases e with e | e;exact absurd e this.2.1;exact absurd e this.2.2),fun _=>hw⟩⟩
 ·rw [hb]
  unfold JG Xl
  rw [Jpx Y]
 ·rintro k (rfl | rfl | rfl | rfl | j)
  ·exact hh
  ·exact y.iX
  ·exact y.gR
  ·exact y.gX
  ·exact ⟨(J k j).1,(J k j).2.1⟩
 ·rintro k (rfl | rfl | j)
  ·exact y.gR.2
  ·exact y.gX.2
  ·exact (J k j).2.1
 ·rintro k (rfl | rfl | j)
  ·exact ⟨Or.inr (Or.inr (Or.inl rfl)),fun e=>U.1 e.symm,fun e=>y.ne.1 (Option.some.inj e).symm⟩
  ·exact ⟨Or.inr (Or.inr (Or.inr (Or.inl rfl))),fun e=>U.2.1 e.symm,fun e=>y.ne.2 (Option.some.inj e).symm⟩
  ·exact ⟨Or.inr (Or.inr (Or.inr (Or.inr j))),(J k j).2.2.1,fun e=>(J k j).2.2.2 (Option.some.inj e).symm⟩
 ·rw [e0]
  exact ZC.made _ y.mp
theorem EF {P:Program} {G:Array Oper} {I:List Oper} {o:Oper} {a:Act} {Q:Exit->Act->World->Prop} (J:o.guard=none) (y:TypeId) (x:Operand) (K:o.op=.load y x) (b:Nat) (M:a.eval x=.pointer (some ⟨b,0,none⟩)) (cells:Array Value) (T:TypeId) (N:w.heap[b]?=some (.cells cells T (0,0))) (d:TypeDesc) (D:P.underlying y=some d) (O:d.isRow=true) (U:(P.info? y).map (·.size)=some cells.size) (h:wpList P G Q I (a.put o.dst (.agg cells)) w):wpList P G Q (o :: I) a w :=
 wpList_load_mid J y x K b 0 M cells.toList d (fun j u D=>by rw [Nat.zero_add,(Jb N j).1];simpa using D) D O (by simpa using U) (by simpa using h)
theorem DA (w:World):(w.alloc (.cells Jj 93)).heap[w.heap.size]?=some (.cells Jj 93 (0,0)):=by
 show (w.heap.push _)[w.heap.size]?=_
 simp
theorem Jo3 (ad:Nat->Addr) (z:Addr) (c:Xg) (mp:Option Addr) (I:Nat) (p:Option Addr) (LL:List (List Yb)) (cl:Nat) (w:World) (ht:KN w ad z c mp I p LL) :
 Calls prog 37 (#[.agg #[.int .i64 c.n,.int .i64 c.k,.slice mp c.L.length I],.slice p LL.length cl] ++ #[]) w fun e w'=>e=.returned (qE false 0 ⟨#[]⟩ c LL)/\Below w.heap.size w w':=by
 show Calls prog 37 #[.agg #[.int .i64 c.n,.int .i64 c.k,.slice mp c.L.length I],.slice p LL.length cl] w _
 obtain ⟨hc,hf,hL,hn,b0,b1,_,a4,hE,hZ⟩:=ht
 have a5:qE false 0 ⟨#[]⟩ c LL=.agg #[.int .i64 (Ys c.n.toNat c.k.toNat LL.flatten LL.flatten).1.1,.int .i64 (Ys c.n.toNat c.k.toNat LL.flatten LL.flatten).1.2,.string (Ys c.n.toNat c.k.toNat LL.flatten LL.flatten).2.1,.bool (Ys c.n.toNat c.k.toNat LL.flatten LL.flatten).2.2]:=rfl
 rw [a5]
 obtain ⟨D,O⟩:∃ D,D=w.alloc (.cells #[.int .i64 c.n,.int .i64 c.k,.slice mp c.L.length I] 24):=⟨_,rfl⟩
 have a0:Below w.heap.size w D:=by rw [O];exact (Below.refl _ _).alloc (Nat.le_refl _) _
 have W:D.heap.size=w.heap.size+1:=by rw [O];simp
 obtain ⟨y,Q⟩:∃ y,y=D.alloc (.cells #[.int .i64 0,.int .i64 0,.string ⟨#[]⟩,.bool false] 80):=⟨_,rfl⟩
 have a1:Below D.heap.size D y:=by rw [Q];exact (Below.refl _ _).alloc (Nat.le_refl _) _
 have K:Below w.heap.size w y:=a0.trans (a1.mono a0.size)
 have a6:w.heap.size+1 < y.heap.size:=by rw [Q];simp [W]
 have a7:y.heap[w.heap.size+1]?=some (.cells #[.int .i64 0,.int .i64 0,.string ⟨#[]⟩,.bool false] 80 (0,0)):=by
  rw [Q,<- W]
  show (D.heap.push _)[D.heap.size]?=_
  simp
 have X:y.heap[w.heap.size]?=some (.cells #[.int .i64 c.n,.int .i64 c.k,.slice mp c.L.length I] 24 (0,0)):=by
  rw [a1.block _ (by omega),O]
  show (w.heap.push _)[w.heap.size]?=_
  simp
 have g0:y.cell? ⟨w.heap.size,0,none⟩=some (.int .i64 c.n):=by simp [World.cell?,X]
 have g1:y.cell? ⟨w.heap.size,1,none⟩=some (.int .i64 c.k):=by simp [World.cell?,X]
 have g2:y.cell? ⟨w.heap.size,2,none⟩=some (.slice mp c.L.length I):=by simp [World.cell?,X]
 have a8:y.cell? ⟨11,0,none⟩=some (.iface 252 (.pointer (some z))):=(K.cell (p:=⟨11,0,none⟩) (YC hZ)).trans hZ
 obtain ⟨e1,e2⟩:=CM hf hn
 have Y:=U4 ad c mp I LL p cl y (hc.below K) (hL.below K) b0 b1 a4 (hE.below K) z a8
 rw [e1,e2] at Y
 unfold iE at Y
 generalize Ys c.n.toNat c.k.toNat LL.flatten LL.flatten=R at *
 obtain ⟨⟨M,N⟩,tx,fd⟩:=R
 dsimp only at *
 have a9:Hid (Calls prog 58 #[.agg #[.int .i64 c.n,.int .i64 c.k,.slice mp c.L.length I],.slice p LL.length cl] y fun e w'=>e=.returned (.tuple #[.agg #[.int .i64 M,.int .i64 N],.string tx,.bool fd,.nilIface])/\Below w.heap.size w w'/\w'.heap[w.heap.size+1]?=some (.cells #[.int .i64 0,.int .i64 0,.string ⟨#[]⟩,.bool false] 80 (0,0))):=Y.mono fun e w' hp=>by
  obtain ⟨⟨ev,h1,h2⟩,h3⟩:=hp
  obtain rfl:=Jd.isNil h2
  exact ⟨h1,K.trans (h3.mono K.size),(h3.block _ a6).trans a7⟩
 have b2:Hid (D=w.alloc (.cells #[.int .i64 c.n,.int .i64 c.k,.slice mp c.L.length I] 24)):=O
 have b3:Hid (y=D.alloc (.cells #[.int .i64 0,.int .i64 0,.string ⟨#[]⟩,.bool false] 80)):=Q
 have b4:Hid (D.heap.size=w.heap.size+1):=W
 clear Y hc hL a4 hE hZ a8 Q K a7 a6 e1 e2 hf hn O a0 W a1 X a5
 go_enter func37,ntmps37
 go_wp2_with (first | rw [<- b2.out] | rw [<- b3.out,b4.out] | fail)
 refine a9.out.mono ?_
 rintro e J ⟨rfl,a2,Z⟩
 obtain ⟨j,U⟩:∃ j,j=J.alloc (.cells #[.int .i64 M,.int .i64 N] 46):=⟨_,rfl⟩
 have b5:w.heap.size+1 < J.heap.size:=by
  rcases Nat.lt_or_ge (w.heap.size+1) J.heap.size with h | h
  ·exact h
  ·rw [Array.getElem?_eq_none h] at Z;cases Z
 have a3:Below J.heap.size J j:=by rw [U];exact (Below.refl _ _).alloc (Nat.le_refl _) _
 have G:=(a3.block _ b5).trans Z
 have c0:j.cell? ⟨J.heap.size,0,none⟩=some (.int .i64 M):=by rw [U,World.cell?_alloc_at _ _ _ _ rfl];rfl
 have c1:j.cell? ⟨J.heap.size,1,none⟩=some (.int .i64 N):=by rw [U,World.cell?_alloc_at _ _ _ _ rfl];rfl
 have k0:j.cell? ⟨w.heap.size+1,0,none⟩=some (.int .i64 0):=by simp [World.cell?,G]
 have k1:j.cell? ⟨w.heap.size+1,1,none⟩=some (.int .i64 0):=by simp [World.cell?,G]
 have k2:j.cell? ⟨w.heap.size+1,2,none⟩=some (.string ⟨#[]⟩):=by simp [World.cell?,G]
 have k3:j.cell? ⟨w.heap.size+1,3,none⟩=some (.bool false):=by simp [World.cell?,G]
 have f0:j.frozen? ⟨w.heap.size+1,0,none⟩=false:=by simp [World.frozen?,G]
 have f1:j.frozen? ⟨w.heap.size+1,1,none⟩=false:=by simp [World.frozen?,G]
 have f2:j.frozen? ⟨w.heap.size+1,2,none⟩=false:=by simp [World.frozen?,G]
 have f3:j.frozen? ⟨w.heap.size+1,3,none⟩=false:=by simp [World.frozen?,G]
 have b6:Hid (Below w.heap.size w ((((j.setCell ⟨w.heap.size+1,0,none⟩ (.int .i64 M)).setCell ⟨w.heap.size+1,1,none⟩ (.int .i64 N)).setCell ⟨w.heap.size+1,2,none⟩ (.string tx)).setCell ⟨w.heap.size+1,3,none⟩ (.bool fd))):=((((a2.trans (a3.mono a2.size)).setCell (by show w.heap.size<=w.heap.size+1;omega) _).setCell (by show w.heap.size<=w.heap.size+1;omega) _).setCell (by show w.heap.size<=w.heap.size+1;omega) _).setCell (by show w.heap.size<=w.heap.size+1;omega) _
 have b7:Hid (j=J.alloc (.cells #[.int .i64 M,.int .i64 N] 46)):=U
 clear U a3 Z G a2 a9 g0 g1 g2
 go_wp2_with (first | rw [<- b7.out] | fail)
 exact bodyPost_ret (v:=.agg #[.int .i64 M,.int .i64 N,.string tx,.bool fd]) (by simp [results,results37,go_sem,k0,k1,k2,k3]) rfl ⟨rfl,b6.out⟩
theorem EY (w:World) (G:Nat->Prop) (dT:Int) (text:ByteArray):jY w G false dT text (.func (.func 37) #[] #[]) :=
 ⟨_,_,rfl,fun args W=>by kernel_rfl,fun W _ ad z c mp j p LL y D=>Jo3 ad z c mp j p LL y W D⟩
end Go.Proofs.YtmikbldbfnlfjaaGreatDoor
