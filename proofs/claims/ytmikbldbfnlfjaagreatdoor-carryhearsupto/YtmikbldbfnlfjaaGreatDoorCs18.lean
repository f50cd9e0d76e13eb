/- Texts laid together. -/
import Derived.Test.YtmikbldbfnlfjaaGreatDoorCs17
import Derived.Deep.WholeRow
set_option maxRecDepth 10000
set_option maxHeartbeats 8000000
namespace Go.Proofs.YtmikbldbfnlfjaaGreatDoor
open Go.Proofs.Tryz
open Go.RowKit
variable {a:Za}{m:Zb}{w W w20:World}{B h j ab M i mb O:Nat}{S:Nat->Prop}{b:lN}{q p K N:Option Addr}{l:List Zb}{D m1 m2 m3:ByteArray}{G I:Int}{nv:Value}{J:Bool}{y:List Yb}{s:St}
def XM (w:World) (B:Nat) (h:Nat) (S:Nat->Prop) (a:Za):Prop:=ZR 106 w B h S a/\a.aI=true
def bG (m:Zb):Zb:=⟨m.from_,m.aP,m.kind,m.key,m.op,m.config,m.shut && decide (m.kind≠Q7),m.L⟩
theorem A3 (a:Za) (m:Zb):a.aM (bG m)=a.aM m:=rfl
theorem BH  (h:a.aM m=true):m.kind=a.st.waits:=by
 unfold Za.aM at h
 rw [Bool.and_eq_true] at h
 exact (of_decide_eq_true h.1).2.1
theorem PR (a:Za) (m:Zb):a.aD (bG m)=a.aD m:=by
 by_cases j:a.aM m=true
 ·by_cases y:a.st=.sealing
  ·rw [uQ (A3 a m ▸ j) y,uQ j y]
   rfl
  ·have G:=BH j
   have I:m.kind≠Q7:=by
    rw [G]
    have J:=(Z9 j).1
    rcases J with (e | e) | e
    ·rw [e];decide +kernel
    ·exact absurd e y
    ·rw [e];decide +kernel
   have e:bG m=m:=by
    unfold bG
    rw [decide_eq_true I,Bool.and_true]
   rw [e]
 ·have D:a.aM m=false:=Bool.eq_false_iff.2 j
  rw [pW D,pW (by rw [A3];exact D)]
theorem OL  (y:a.aM (bG m)=true) (D:a.st=.sealing):(bG m).shut=false:=by
 have j:=BH y
 rw [D] at j
 have:m.kind=Q7:=j
 unfold bG
 rw [this]
 simp
theorem JoE (a:Za) (m:Zb):(a.aD m).1.aI=a.aI:=by
 unfold Za.aD
 split
 ·rfl
 ·split
  ·rfl
  ·split
   ·rfl
   ·split
    ·rfl
    ·split
     ·exact (YE (a.heard m)).2.2.2.1
     ·exact (Q2 _).2.2.2.2.1.trans (YE (a.heard m)).2.2.2.1
theorem L4  (h:a.small m):a.small (bG m):=h
theorem AK   (G:XM w B h S a):Calls prog 30 #[.pointer (some ⟨h,0,none⟩)] w fun e w'=>e=.returned (.string a.st.word)/\Below w.heap.size w w':=by
 obtain ⟨⟨_,_,_,_,_,_,_,_,_,_,j⟩,_⟩:=G
 have y:=CU j
 clear j
 generalize a.st.word=I at *
 go_enter func30,ntmps30
 go_wp2_with fail
 refine y.mono ?_
 rintro e J ⟨rfl,D⟩
 go_wp2
 go_ret
 exact ⟨rfl,D⟩
theorem JcT   (hc:XM w B h S a):Calls prog 31 #[.pointer (some ⟨h,0,none⟩)] w fun e w'=>e=.returned (if a.st=.done/\a.found=true then .tuple #[.agg #[.int .i64 a.tag.1,.int .i64 a.tag.2],.string a.text,.bool true] else .tuple #[.agg #[.int .i64 0,.int .i64 0],.string ⟨#[]⟩,.bool false])/\Below w.heap.size w w':=by
 obtain ⟨⟨_,_,_,_,_,_,_,_,_,_,Q⟩,_⟩:=hc
 obtain ⟨j,y⟩:∃ j,j=w.alloc (.cells #[.int .i64 0,.int .i64 0] 46):=⟨_,rfl⟩
 have G:Below w.heap.size w j:=by rw [y];exact (Below.refl _ _).alloc (Nat.le_refl _) _
 have U:w.heap.size < j.heap.size:=by rw [y];simp
 have W:j.heap[w.heap.size]?=some (.cells #[.int .i64 0,.int .i64 0] 46 (0,0)):=by
  rw [y]
  show (w.heap.push _)[w.heap.size]?=_
  simp
 have N:=JlK (Q.below G)
 obtain ⟨I,J,K,M,X⟩:∃ I J K M,(if a.st=.done/\a.found=true then (.tuple #[.agg #[.int .i64 a.tag.1,.int .i64 a.tag.2],.string a.text,.bool true]:Value) else .tuple #[.agg #[.int .i64 0,.int .i64 0],.string ⟨#[]⟩,.bool false])=.tuple #[.agg #[.int .i64 I,.int .i64 J],.string K,.bool M]:=by
  split
  ·exact ⟨_,_,_,_,rfl⟩
  ·exact ⟨_,_,_,_,rfl⟩
 rw [X] at N ⊢
 have Y:Hid (Calls prog 51 #[.pointer (some ⟨h,0,none⟩)] j fun e w'=>e=.returned (.tuple #[.agg #[.int .i64 I,.int .i64 J],.string K,.bool M])/\Hid (Below w.heap.size w w')/\w'.heap[w.heap.size]?=some (.cells #[.int .i64 0,.int .i64 0] 46 (0,0))):=N.mono fun e w' O=>⟨O.1,G.trans (O.2.mono G.size),(O.2.block _ U).trans W⟩
 have Z:Hid (j=w.alloc (.cells #[.int .i64 0,.int .i64 0] 46)):=y
 clear Q y G U W N X
 go_enter func31,ntmps31
 go_wp2_with (first | rw [<- Z.out] | fail)
 refine Y.out.mono ?_
 rintro e w2 ⟨rfl,a0,D⟩
 have k0:=(Jb D 0).1
 have k1:=(Jb D 1).1
 have f0:=(Jb D 0).2
 have f1:=(Jb D 1).2
 clear Y D
 go_wp2
 exact bodyPost_ret (v:=.tuple #[.agg #[.int .i64 I,.int .i64 J],.string K,.bool M]) (by simp [results,results31,go_sem,k0,k1]) rfl ⟨rfl,(a0.out.setCell (Nat.le_refl _) _).setCell (Nat.le_refl _) _⟩
theorem VW   (hc:XM w B h S a):Calls prog 28 #[.pointer (some ⟨h,0,none⟩)] w fun e w'=>(∃ p c,e=.returned (.slice p a.begin.length c)/\QE c w.heap.size w' p a.begin)/\Below w.heap.size w w':=by
 have y:=AK hc
 obtain ⟨⟨S0,P,F,T,asks,cv,aw,m,D,row,G⟩,I⟩:=hc
 by_cases j:a.st=.sealing
 ·have J : a.begin = gZ a F asks := by
   obtain ⟨_,N,O,_⟩:=G.fF.rC (Or.inr j)
   have K:=G.fF.kind
   rw [I] at K
   unfold Za.begin gZ Za.send
   rw [I,if_pos rfl,if_pos j,N,O,K]
   rfl
  rw [J]
  rw [j] at y
  have U:Hid (∀ W,Below w.heap.size w W->Calls prog 42 #[.pointer (some ⟨h,0,none⟩)] W fun e w'=>(∃ p c,e=.returned (.slice p (gZ a F asks).length c)/\QE c w.heap.size w' p (gZ a F asks))/\Below w.heap.size w w'):=fun W M=>(KA (G.below M)).mono fun e w' hq=>by
   obtain ⟨⟨p,c,N,O⟩,K⟩:=hq
   exact ⟨⟨p,c,N,O.mono M.size⟩,M.trans (K.mono M.size)⟩
  have X:Calls prog 30 #[.pointer (some ⟨h,0,none⟩)] w fun e w'=>e=.returned (.string ⟨#[115,101,97,108,105,110,103]⟩)/\Below w.heap.size w w':=y
  clear G J I j y
  generalize gZ a F asks=R at *
  go_enter func28,ntmps28
  go_wp2_with fail
  refine X.mono ?_
  rintro e Y ⟨rfl,Q⟩
  have Z:=U.out Y Q
  clear U X
  go_wp2_with fail
  refine Z.mono ?_
  rintro e w2 ⟨⟨p2,c2,rfl,a0⟩,a1⟩
  clear Z
  go_wp2
  go_ret
  exact ⟨⟨p2,c2,rfl,a0⟩,a1⟩
 ·have J : a.begin = [] := by
   unfold Za.begin
   rw [I,if_pos rfl,if_neg j]
  rw [J]
  have a2:¬ a.st.word.toList=[115,101,97,108,105,110,103]:=by
   generalize a.st=st at *
   cases st <;> first | exact absurd rfl j | decide +kernel
  have a3:(a.st.word.toList==[115,101,97,108,105,110,103])=false:=by
   generalize a.st=st at *
   cases st <;> first | exact absurd rfl j | decide +kernel
  clear G J I j
  generalize a.st.word=sw at *
  go_enter func28,ntmps28
  go_wp2_with fail
  refine y.mono ?_
  rintro e Y ⟨rfl,Q⟩
  clear y
  go_wp2
  go_ret
  exact ⟨⟨none,0,rfl,QE.nil _ _⟩,Q⟩
theorem Jsc  (m1 m2 m3 D:ByteArray) (G I:Int) (m7 s:Bool) (J:Option Addr) (K M:Nat) {Q:Ending->World->Prop} (N:s=(m7 && decide (m3≠Q7))) (y:Calls prog 44 #[.pointer (some ⟨h,0,none⟩),.agg #[.string m1,.string m2,.string m3,.string D,.int .i64 G,.int .i64 I,.bool s,.slice J K M]] (w.alloc (.cells #[.string m1,.string m2,.string m3,.string D,.int .i64 G,.int .i64 I,.bool s,.slice J K M] 57)).drew fun e w'=>(∃ p n c,e=.returned (.slice p n c))/\Q e w') :
 Calls prog 29 #[.pointer (some ⟨h,0,none⟩),.agg #[.string m1,.string m2,.string m3,.string D,.int .i64 G,.int .i64 I,.bool m7,.slice J K M]] w Q:=by
 obtain ⟨W,X⟩:∃ W,W=w.alloc (.cells #[.string m1,.string m2,.string m3,.string D,.int .i64 G,.int .i64 I,.bool s,.slice J K M] 57):=⟨_,rfl⟩
 rw [<- X] at y
 have j:W.heap[w.heap.size]?=some (.cells #[.string m1,.string m2,.string m3,.string D,.int .i64 G,.int .i64 I,.bool s,.slice J K M] 57 (0,0)):=by
  rw [X]
  show (w.heap.push _)[w.heap.size]?=_
  simp
 have Y:=(Jb j 0).1
 have Z:=(Jb j 1).1
 have g2:=(Jb j 2).1
 have g3:=(Jb j 3).1
 have g4:=(Jb j 4).1
 have g5:=(Jb j 5).1
 have g6:=(Jb j 6).1
 have g7:=(Jb j 7).1
 have a0:Hid (W=w.alloc (.cells #[.string m1,.string m2,.string m3,.string D,.int .i64 G,.int .i64 I,.bool s,.slice J K M] 57)):=X
 clear X j
 cases m7 with
 | false =>
  obtain rfl:s=false:=by rw [N];rfl
  clear N
  go_enter func29,ntmps29
  go_wp2
  rw [<- a0.out]
  refine wp_region_still_tail 4 (by kernel_rfl) (by kernel_rfl) ?_
  simp only [List.take_succ_cons,List.take_zero,List.drop_succ_cons,List.drop_zero]
  still_step
  still_step
  still_step
  still_step
  refine wpStill_nil ?_
  go_wp2_with fail
  refine y.mono ?_
  rintro e w3 ⟨⟨p3,n3,c3,rfl⟩,O⟩
  clear y Y Z g2 g3 g4 g5 g6 g7
  go_wp2
  exact O
 | true =>
  by_cases U:m3=Q7
  ·obtain rfl:s=false:=by rw [N,U];simp
   subst U
   clear N
   unfold Q7 at *
   go_enter func29,ntmps29
   go_wp2
   rw [<- a0.out]
   refine wp_region_still_tail 4 (by kernel_rfl) (by kernel_rfl) ?_
   simp only [List.take_succ_cons,List.take_zero,List.drop_succ_cons,List.drop_zero]
   still_step
   still_step
   still_step
   still_step
   refine wpStill_nil ?_
   go_wp2_with fail
   refine y.mono ?_
   rintro e w3 ⟨⟨p3,n3,c3,rfl⟩,O⟩
   clear y Y Z g2 g3 g4 g5 g6 g7
   go_wp2
   exact O
  ·obtain rfl:s=true:=by rw [N];simp [U]
   have a1:¬ m3.toList=[115,101,97,108,101,100]:=fun e=>U (by
    have:m3.toList=Q7.toList:=e.trans (by decide +kernel)
    rw [ByteArray.toList_eq,ByteArray.toList_eq] at this
    exact ByteArray.ext (Array.toList_inj.1 this))
   have a2:(m3.toList==[115,101,97,108,101,100])=false:=by rw [beq_eq_false_iff_ne];exact a1
   clear N U
   go_enter func29,ntmps29
   go_wp2
   rw [<- a0.out]
   refine wp_region_still_tail 4 (by kernel_rfl) (by kernel_rfl) ?_
   simp only [List.take_succ_cons,List.take_zero,List.drop_succ_cons,List.drop_zero]
   still_step
   still_step
   still_step
   still_step
   refine wpStill_nil ?_
   go_wp2_with fail
   refine y.mono ?_
   rintro e w3 ⟨⟨p3,n3,c3,rfl⟩,O⟩
   clear y Y Z g2 g3 g4 g5 g6 g7
   go_wp2
   exact O
theorem LU (ad:Nat->Addr)   (hc:XM w B h S a) (x:Zb×Lv) (O:Jn w x) (a2:a.small x.1) (hv:∀ v ∈ x.1.L,Jt v) (hG:∀ W:World,w.heap.size<=W.heap.size->(∀ k,k < w.heap.size->¬ S k->W.heap[k]?=w.heap[k]?)->Zp W ad/\∃ z,W.cell? ⟨11,0,none⟩=some (.iface 252 (.pointer (some z)))) :
 Calls prog 29 #[.pointer (some ⟨h,0,none⟩),Z1 x.1 (fI x.2)] w fun e w'=>∃ S':Nat->Prop,(∃ p c,e=.returned (.slice p (a.aD x.1).2.length c)/\Qp c (fun b=>w.heap.size<=b/\b < w'.heap.size/\¬ S' b) w' p (a.aD x.1).2)/\XM w' B h S' (a.aD x.1).1/\Yd S S' w w':=by
 obtain ⟨⟨S0,P,F,T,asks,cv,aw,m,D,row,hp⟩,hm⟩:=hc
 obtain ⟨⟨m1,m2,m3,G,I,J,y,U⟩,K,M,N⟩:=x
 refine Jsc m1 m2 m3 G I J y (y && decide (m3≠Q7)) K M N rfl ?_
 have j:Below w.heap.size w (w.alloc (.cells #[.string m1,.string m2,.string m3,.string G,.int .i64 I,.int .i64 J,.bool (y && decide (m3≠Q7)),.slice K M N] 57)).drew:=((Below.refl _ _).alloc (Nat.le_refl _) _).drew
 generalize (w.alloc (.cells #[.string m1,.string m2,.string m3,.string G,.int .i64 I,.int .i64 J,.bool (y && decide (m3≠Q7)),.slice K M N] 57)).drew=w2 at *
 have a0:Jn w2 (bG ⟨m1,m2,m3,G,I,J,y,U⟩,(K,M,N)):=⟨O.len,(O.below j).eC,O.room,O.empty⟩
 have:=E6 ad (hp.below j) (bG ⟨m1,m2,m3,G,I,J,y,U⟩,(K,M,N)) (fun h1 Q=>OL h1 Q) a0 (L4 a2) hv (fun W hs hk=>hG W (Nat.le_trans j.size hs) (fun k X a1=>(hk k (Nat.lt_of_lt_of_le X j.size) a1).trans (j.block k X)))
 rw [PR] at this
 refine this.mono fun e w' hq=>?_
 obtain ⟨S',⟨p,c,Y,e2⟩,Q,h3⟩:=hq
 exact ⟨⟨p,_,c,Y⟩,S',⟨p,c,Y,e2.mono (fun b Z=>⟨Nat.le_trans j.size Z.1,Z.2⟩)⟩,⟨Q,by rw [JoE];exact hm⟩,h3.since j⟩
theorem U8 {j:Int} (D:Zt b.config) (G:IntKind.i64.wrap (b.config+1)=j):lH b=Xz b.f b.t b.key b.op b.config j:=by
 unfold lH Xz
 rw [IntKind.wrap_i64] at G
 obtain ⟨I,J⟩:=D
 by_cases e:b.config < 9223372036854775807
 ·have:j=b.config+1:=by omega
  have y:(0<=b.op/\0<=b.config/\b.config < 9223372036854775807)↔(0<=b.op/\0<=b.config/\0<=j):=⟨fun h=>⟨h.1,h.2.1,by omega⟩,fun h=>⟨h.1,h.2.1,e⟩⟩
  simp only [y]
 ·have:j=-9223372036854775808:=by omega
  have y:(0<=b.op/\0<=b.config/\b.config < 9223372036854775807)↔(0<=b.op/\0<=b.config/\0<=j):=⟨fun h=>absurd h.2.2 e,fun h=>by have:=h.2.2;omega⟩
  simp only [y]
theorem MW (D:¬ 0 < (Jg b.f).1) (G:Jo b.key=true):QN b.mover:=by
 refine ⟨D,by have:=QF G;show b.key.size<=100;omega,by show KC.size<=100;decide +kernel,by show (⟨#[]⟩:ByteArray).size<=1000;decide,(fun h=>by cases h),(fun _ h=>by cases h),List.nodup_nil,(fun x j=>by cases j),rfl,(fun h=>by cases h),(fun l y=>by cases y)⟩
theorem RI (ad:Nat->Addr) (b:lN) (p:Option Addr) (N:Nat) (q:Option Addr) (O:Nat) (w:World) (e3:Yn w b.f p N) (e4:Yn w b.t q O) (hi:Zt b.config) (hE:Zp w ad) :
 Calls prog 24 #[.int .i64 b.op,.agg #[.int .i64 b.f.n,.int .i64 b.f.k,.slice p b.f.L.length N],.agg #[.int .i64 b.t.n,.int .i64 b.t.k,.slice q b.t.L.length O],.int .i64 b.config,.string b.key] w fun e w'=>BQ XM ad b w.heap.size e w'/\Below w.heap.size w w':=by
 obtain ⟨y,a5⟩:∃ y,IntKind.i64.wrap (b.config+1)=y:=⟨_,rfl⟩
 have a6:=U8 hi a5
 obtain ⟨G,Q⟩:∃ G,G=w.alloc (.cells #[.int .i64 b.f.n,.int .i64 b.f.k,.slice p b.f.L.length N] 24):=⟨_,rfl⟩
 have a7:Below w.heap.size w G:=by rw [Q];exact (Below.refl _ _).alloc (Nat.le_refl _) _
 have a8:G.heap.size=w.heap.size+1:=by rw [Q];simp
 have b7:G.heap[w.heap.size]?=some (.cells #[.int .i64 b.f.n,.int .i64 b.f.k,.slice p b.f.L.length N] 24 (0,0)):=by
  rw [Q]
  show (w.heap.push _)[w.heap.size]?=_
  simp
 obtain ⟨I,a0⟩:∃ I,I=G.alloc (.cells #[.int .i64 b.t.n,.int .i64 b.t.k,.slice q b.t.L.length O] 24):=⟨_,rfl⟩
 have a9:Below G.heap.size G I:=by rw [a0];exact (Below.refl _ _).alloc (Nat.le_refl _) _
 have U:Below w.heap.size w I:=a7.trans (a9.mono a7.size)
 have a1:I.heap[w.heap.size]?=some (.cells #[.int .i64 b.f.n,.int .i64 b.f.k,.slice p b.f.L.length N] 24 (0,0)):=(a9.block _ (by omega)).trans b7
 have a2:I.heap[w.heap.size+1]?=some (.cells #[.int .i64 b.t.n,.int .i64 b.t.k,.slice q b.t.L.length O] 24 (0,0)):=by
  rw [a0,<- a8]
  show (G.heap.push _)[G.heap.size]?=_
  simp
 have c0:=(Jb a1 0).1
 have c1:=(Jb a1 1).1
 have c2:=(Jb a1 2).1
 have d0:=(Jb a2 0).1
 have d1:=(Jb a2 1).1
 have d2:=(Jb a2 2).1
 have d3:=GA ad ⟨#[109,111,118,101,114]⟩ b.key b.op b.f b.t b.config y p q N O ⟨#[115,101,97,108]⟩ ⟨#[115,101,97,108,101,100]⟩ ⟨#[115,101,97,108,105,110,103]⟩ 37 #[] I (e3.below U) (e4.below U) (hE.below U)
 have e5:Hid (G=w.alloc (.cells #[.int .i64 b.f.n,.int .i64 b.f.k,.slice p b.f.L.length N] 24)):=Q
 have d4:Hid (I=G.alloc (.cells #[.int .i64 b.t.n,.int .i64 b.t.k,.slice q b.t.L.length O] 24)):=a0
 have e6:Hid (G.heap.size=w.heap.size+1):=a8
 have b0:Hid (Below w.heap.size w I):=U
 have e7:Hid (IntKind.i64.wrap (b.config+1)=y):=a5
 have HI:Hid (Zt b.config):=hi
 unfold BQ
 rw [a6]
 have d5:Hid (lH b=Xz b.f b.t b.key b.op b.config y):=a6
 clear Q a0 a7 a9 U b7 a1 a2 a8 e3 e4 hE hi a6
 go_enter func24,ntmps24
 go_wp2_with (first | rw [<- e5.out] | rw [<- d4.out,e6.out] | rw [<- d4.out] | fail)
 refine d3.mono ?_
 rintro e j ⟨e8,b1⟩
 have W:Hid (Below w.heap.size w j):=b0.out.trans (b1.mono b0.out.size)
 have g0:Hid (Below I.heap.size I j):=b1
 clear d3 b1 c0 c1 c2 d0 d1 d2 a5
 rcases e8 with ⟨b2,ev,rfl,b3⟩ | ⟨d6,a3,J,K,mb,rfl,hN⟩
 ·have e9:Hid (Jd j ad ev (Xz b.f b.t b.key b.op b.config y).1 (Xz b.f b.t b.key b.op b.config y).2):=b3
  have f3:Hid (0 < (Xz b.f b.t b.key b.op b.config y).1):=b2
  obtain ⟨et,eu,rfl⟩:=b3.some b2
  clear b3 b2 d5
  have d7:Below j.heap.size j (j.alloc (.cells Jj 93)):=(Below.refl _ j).alloc (Nat.le_refl _) _
  go_wp2_with (first | (refine XR rfl 93 (.tmp 12) (.tmp 26) rfl j.heap.size Jj rfl rfl 93 Jj (DA j) YI rfl nQ ?_;rw [World.setRow_alloc_new]) | fail)
  go_ret2
  exact ⟨⟨.iface et eu,e9.out.below d7,Or.inl ⟨f3.out,rfl⟩⟩,W.out.trans (d7.mono W.out.size)⟩
 ·have a4:Hid (ZX I j J K mb b.f b.t):=hN
  have X:Hid (¬ 0 < (Jg b.f).1/\¬ 0 < (Jg b.t).1/\Jo b.key=true/\0<=b.op/\0<=b.config/\0<=y):=⟨by have:=a3.1;omega,by have:=a3.2.1;omega,a3.2.2⟩
  have b4:Hid (Xz b.f b.t b.key b.op b.config y=(0,-1)):=d6
  obtain ⟨D,Y⟩:∃ D,D=j.alloc (.cells (Xl ⟨#[109,111,118,101,114]⟩ b.key b.op b.f J b.config b.t K y ⟨#[115,101,97,108]⟩ ⟨#[115,101,97,108,101,100]⟩ ⟨#[115,101,97,108,105,110,103]⟩ (.func (.func 37) #[] #[]) mb) 93):=⟨_,rfl⟩
  have b5:Below j.heap.size j D:=by rw [Y];exact (Below.refl _ _).alloc (Nat.le_refl _) _
  have f4:D.heap.size=j.heap.size+1:=by rw [Y];simp
  have d8:D.heap[j.heap.size]?=some (.cells (Xl ⟨#[109,111,118,101,114]⟩ b.key b.op b.f J b.config b.t K y ⟨#[115,101,97,108]⟩ ⟨#[115,101,97,108,101,100]⟩ ⟨#[115,101,97,108,105,110,103]⟩ (.func (.func 37) #[] #[]) mb) 93 (0,0)):=by
   rw [Y]
   show (j.heap.push _)[j.heap.size]?=_
   simp
  obtain ⟨M,Z⟩:∃ M,M=D.alloc (.cells (Xl ⟨#[109,111,118,101,114]⟩ b.key b.op b.f J b.config b.t K y ⟨#[115,101,97,108]⟩ ⟨#[115,101,97,108,101,100]⟩ ⟨#[115,101,97,108,105,110,103]⟩ (.func (.func 37) #[] #[]) mb) 106):=⟨_,rfl⟩
  have d9:Below D.heap.size D M:=by rw [Z];exact (Below.refl _ _).alloc (Nat.le_refl _) _
  have f5:M.heap.size=D.heap.size+1:=by rw [Z];simp
  have e0:M.heap[D.heap.size]?=some (.cells (Xl ⟨#[109,111,118,101,114]⟩ b.key b.op b.f J b.config b.t K y ⟨#[115,101,97,108]⟩ ⟨#[115,101,97,108,101,100]⟩ ⟨#[115,101,97,108,105,110,103]⟩ (.func (.func 37) #[] #[]) mb) 106 (0,0)):=by
   rw [Z]
   show (D.heap.push _)[D.heap.size]?=_
   simp
  have b6:Below j.heap.size j M:=b5.trans (d9.mono b5.size)
  have f6:Hid (Below w.heap.size w M):=W.out.trans (b6.mono W.out.size)
  have e1:Hid (XM M w.heap.size D.heap.size (fun k=>k=D.heap.size∨k=mb∨k=J∨k=K∨False) b.mover):=by
   have f7:y=b.config+1:=by
    have h1:=e7.out
    rw [IntKind.wrap_i64] at h1
    have h2:=X.out.2.2.2.2
    have h3:=HI.out
    unfold Zt at h3
    omega
   have y1:=a4.out.gR
   have y2:=a4.out.gX
   have y3:=a4.out.iX
   have y4:=b0.out.size
   have y5:=W.out.size
   exact ⟨JF.new (a:=b.mover) (S1:=fun _=>False) (asks:=O1) (told:=Q7) ((a4.out.below b6).base y4) ⟨by omega,by omega⟩ ⟨by omega,by omega,by omega⟩ e0 (fun k hk=>hk.elim) (EY _ _ _ _) (Or.inr rfl) (MW X.out.1 X.out.2.2.1) X.out.1 X.out.2.1 rfl ⟨rfl,rfl,rfl,f7⟩ rfl rfl,rfl⟩
  have f8:Hid (D=j.alloc (.cells (Xl ⟨#[109,111,118,101,114]⟩ b.key b.op b.f J b.config b.t K y ⟨#[115,101,97,108]⟩ ⟨#[115,101,97,108,101,100]⟩ ⟨#[115,101,97,108,105,110,103]⟩ (.func (.func 37) #[] #[]) mb) 93)):=Y
  have e2:Hid (M=D.alloc (.cells (Xl ⟨#[109,111,118,101,114]⟩ b.key b.op b.f J b.config b.t K y ⟨#[115,101,97,108]⟩ ⟨#[115,101,97,108,101,100]⟩ ⟨#[115,101,97,108,105,110,103]⟩ (.func (.func 37) #[] #[]) mb) 106)):=Z
  have f9:Hid (D.heap[j.heap.size]?=some (.cells (Xl ⟨#[109,111,118,101,114]⟩ b.key b.op b.f J b.config b.t K y ⟨#[115,101,97,108]⟩ ⟨#[115,101,97,108,101,100]⟩ ⟨#[115,101,97,108,105,110,103]⟩ (.func (.func 37) #[] #[]) mb) 93 (0,0))):=d8
  unfold Xl at e2
  clear d6 hN Y Z b5 d9 b6 f4 f5 d8 e0 d5 a3
  go_wp2_with (first | (refine XR rfl 93 (.tmp 12) (.tmp 26) rfl j.heap.size (Xl ⟨#[109,111,118,101,114]⟩ b.key b.op b.f J b.config b.t K y ⟨#[115,101,97,108]⟩ ⟨#[115,101,97,108,101,100]⟩ ⟨#[115,101,97,108,105,110,103]⟩ (.func (.func 37) #[] #[]) mb) rfl rfl 93 Jj (DA j) (nG _ _ _ _ _ _ _ _ _ _ _ _ _ _) rfl (vT _ _ _ _ _ _ _ _ _ _ _ _ _ _ _) ?_;rw [World.setRow_alloc_new,<- f8.out]) | (refine EF rfl 93 (.tmp 12) rfl j.heap.size rfl #[.string ⟨#[109,111,118,101,114]⟩,.string b.key,.int .i64 b.op,.int .i64 b.f.n,.int .i64 b.f.k,.slice (some ⟨J,0,none⟩) b.f.L.length b.f.L.length,.int .i64 b.config,.string ⟨#[115,101,97,108,101,100]⟩,.int .i64 ((Jh b.f:Nat):Int),.map (some mb),.int .i64 b.f.n,.int .i64 b.f.k,.slice (some ⟨J,0,none⟩) b.f.L.length b.f.L.length,.int .i64 b.config,.int .i64 b.t.n,.int .i64 b.t.k,.slice (some ⟨K,0,none⟩) b.t.L.length b.t.L.length,.int .i64 y,.string ⟨#[115,101,97,108]⟩,.func (.func 37) #[] #[],.string ⟨#[115,101,97,108,105,110,103]⟩,.int .i64 0,.int .i64 0,.string ⟨#[]⟩,.bool false] 93 f9.out _ underlying93 rfl (nG _ _ _ _ _ _ _ _ _ _ _ _ _ _) ?_) | rw [<- e2.out] | fail)
  go_ret2
  exact ⟨⟨_,by rw [b4.out];exact Jd.nil _ _,by first | exact Or.inr ⟨by rw [b4.out];decide,_,rfl,_,e1.out⟩ | exact Or.inr ⟨by rw [b4.out];decide,_,_,rfl,e1.out⟩⟩,f6.out⟩
theorem Jey (ad:Nat->Addr):Yr ad (fun w=>∃ z,w.cell? ⟨11,0,none⟩=some (.iface 252 (.pointer (some z)))) XM where
 dH:=fun ⟨⟨_,_,_,_,_,_,_,_,_,_,y⟩,_⟩ k G=>y.aO k G
 aS:=fun ⟨⟨_,_,_,_,_,_,_,_,_,_,y⟩,M⟩ I G=>⟨⟨_,_,_,_,_,_,_,_,_,_,y.aS I.size G⟩,M⟩
 new:=fun b p N q O w Q U _ _ W X _=>RI ad b p N q O w Q U W X
 begin:=fun {_ _ _ S _} j _=>(VW j).mono fun _ _ D=>⟨(by obtain ⟨p,c,J,K⟩:=D.1;exact ⟨p,c,J,K.n⟩),S,⟨by obtain ⟨_,_,_,_,_,_,_,_,_,_,y⟩:=j.1;exact ⟨_,_,_,_,_,_,_,_,_,_,y.below D.2⟩,j.2⟩,Yd.aJ D.2⟩
 aD:=fun x j Y _ Z hv hG=>(LU ad j x Y Z hv hG).mono fun _ _ D=>by
  obtain ⟨S',⟨p,c,J,K⟩,h2,h3⟩:=D
  exact ⟨⟨p,c,J,K.new (fun b I=>I.1)⟩,S',h2,h3⟩
 state:=fun j=>AK j
 answer:=fun j=>JcT j
section
def Qo (Ck:World->Nat->Nat->(Nat->Prop)->Za->Prop) (B0 B h ab:Nat) (nv:Value) (M:Nat) (W:World) (a a':Za):Prop :=
 ∃ S S' mv fv lv j,Ck W B h S a'/\Qa W B0 S' ab a mv nv fv lv j/\(∀ k,S k->¬ S' k)/\(∀ k,S' k->B<=k/\k < M)/\B<=W.heap.size/\B0<=B/\M<=W.heap.size
variable {ad:Nat->Addr} {X:World->Prop} {Ck:World->Nat->Nat->(Nat->Prop)->Za->Prop} {B0 B h ab M:Nat} {nv:Value} {w0 W W':World} {a a':Za}
theorem Qo.below (G:Yr ad X Ck) (Y:Qo Ck B0 B h ab nv M W a a') (j:Below W.heap.size W W'):Qo Ck B0 B h ab nv M W' a a':=by
 obtain ⟨S,S',mv,fv,lv,I,y,J,K,N,D,O,Q⟩:=Y
 exact ⟨S,S',mv,fv,lv,I,G.aS y (j.mono D) (fun k U=>j.block k (G.dH y k U).2),J.below j,K,N,Nat.le_trans D j.size,O,Nat.le_trans Q j.size⟩
theorem Qo.up (O:Qo Ck B0 B h ab nv M W a a'):Qo Ck B0 B h ab nv W.heap.size W a a':=by
 obtain ⟨S,S',mv,fv,lv,D,G,j,I,J,K,N,Q⟩:=O
 exact ⟨S,S',mv,fv,lv,D,G,j,I,fun k y=>⟨(J k y).1,(j.aO k y).2⟩,K,N,Nat.le_refl _⟩
theorem Qo.wX (y:Qo Ck B0 B h ab nv M W a a'):W.cell? ⟨ab,13,none⟩=some (.string a.st.word)/\W.cell? ⟨ab,19,none⟩=some (.bool a.found)/\W.cell? ⟨ab,16,none⟩=some (.int .i64 a.tag.1)/\W.cell? ⟨ab,17,none⟩=some (.int .i64 a.tag.2)/\W.cell? ⟨ab,18,none⟩=some (.string a.text):=by
 obtain ⟨S,S',mv,fv,lv,D,G,j,_⟩:=y
 exact ⟨j.cell 13,j.cell 19,j.cell 16,j.cell 17,j.cell 18⟩
def Jbt (Ck:World->Nat->Nat->(Nat->Prop)->Za->Prop) (B0 B h ab:Nat) (nv:Value) (M:Nat) (W:World) (a a':Za) (q:Option Addr):Prop :=
 ∃ S S' mv fv lv j,Ck W B h S a'/\Qa W B0 S' ab a mv nv fv lv j/\(∀ k,S k->¬ S' k)/\(∀ k,S' k->B<=k/\k < M)/\B<=W.heap.size/\B0<=B/\M<=W.heap.size/\∀ b o,q=some ⟨b,o,none⟩->¬ S b
theorem Qo.new (D:Yr ad X Ck) (Z:Qo Ck B0 B h ab nv M W a a') (j:Below W.heap.size W W') (hq:∀ b o,q=some ⟨b,o,none⟩->W.heap.size<=b):Jbt Ck B0 B h ab nv M W' a a' q:=by
 obtain ⟨S,S',mv,fv,lv,I,y,J,K,N,G,O,Q⟩:=Z
 exact ⟨S,S',mv,fv,lv,I,D.aS y (j.mono G) (fun k U=>j.block k (D.dH y k U).2),J.below j,K,N,Nat.le_trans G j.size,O,Nat.le_trans Q j.size,fun b o e Y=>by have:=hq b o e;have:=(D.dH y b Y).2;omega⟩
theorem JdA (hO:Yr ad X Ck) (hG:∀ V:World,w0.heap.size<=V.heap.size->(∀ k,k < w0.heap.size->V.heap[k]?=w0.heap[k]?)->Zp V ad/\X V) (hw:w0.heap.size=B0) (G:Below w0.heap.size w0 W) (x:Zb×Lv) (hL:Jn W x) (a1:a.small x.1) (hv:∀ v ∈ x.1.L,Jt v) (hm:Jbt Ck B0 B h ab nv M W a a x.2.1) :
 Calls prog 29 #[.pointer (some ⟨h,0,none⟩),Z1 x.1 (fI x.2)] W fun e w'=>∃ p c,e=.returned (.slice p (a.aD x.1).2.length c)/\pD M w' p (a.aD x.1).2/\Qo Ck B0 B h ab nv M w' a (a.aD x.1).1/\Below w0.heap.size w0 w':=by
 obtain ⟨S,S',mv,fv,lv,vs,J,I,K,h4,N,O,Q,h8⟩:=hm
 have U:∀ k,S k->w0.heap.size<=k:=fun k j=>by have:=(hO.dH J k j).1;omega
 refine (hO.aD x J hL h8 a1 hv (fun V hs j=>hG V (Nat.le_trans G.size hs) (fun k Y=>(j k (Nat.lt_of_lt_of_le Y G.size) (fun D=>by have:=U k D;omega)).trans (G.block k Y)))).mono fun e w' hq=>?_
 obtain ⟨⟨p,c,e1,e2⟩,S1,g1,y⟩:=hq
 have Z:Below B0 W w':=⟨y.os,y.tape,y.output,y.size,fun k j=>y.block k (Nat.lt_of_lt_of_le j (Nat.le_trans O N)) (fun D=>by have:=U k D;omega)⟩
 refine ⟨p,c,e1,e2.mono Q,⟨S1,S',mv,fv,lv,vs,g1,I.aS Z (fun k j=>y.block k (I.aO k j).2 (fun D=>K k D j)),fun k j a0=>?_,h4,Nat.le_trans N y.size,O,Nat.le_trans Q y.size⟩,G.trans (hw ▸ Z)⟩
 rcases y.new k j with j | j
 ·exact K k j a0
 ·have:=(I.aO k a0).2
  omega
theorem Jc3 (Y:Yr ad X Ck) (hw:w0.heap.size=B0) (J:Below w0.heap.size w0 W) (x:Zb×Lv) (hf:X4 a) (hL:Jn w0 x) (a6:a.small x.1)  (hp:pD M W p l) (hm:Qo Ck B0 B h ab nv M W a (a.aD x.1).1) :
 Calls prog 20 #[.pointer (some ⟨ab,0,none⟩),.agg #[.string x.1.from_,.string x.1.aP,.string x.1.kind,.string x.1.key,.int .i64 x.1.op,.int .i64 x.1.config,.bool x.1.shut,.slice x.2.1 x.2.2.1 x.2.2.2]] W fun e w'=>∃ q d,e=.returned (.slice q (a.aD x.1).2.length d)/\(mN w' q (a.aD x.1).2/\mN w' p l)/\(Qo Ck B0 B h ab nv w'.heap.size w' (a.aD x.1).1 (a.aD x.1).1/\Below w0.heap.size w0 w'):=by
 obtain ⟨S,S',mv,fv,lv,vs,Q,h2,Z,K,h5,h6,h7⟩:=hm
 refine (JdV h2 x hf (hL.below J) a6 (fun V hs D=>?_)).mono fun e w' hq=>?_
 ·rcases hL.eC with e0 | ⟨b,o,U,N,e3⟩
  ·exact Or.inl e0
  ·refine Or.inr ⟨b,o,U,by have:=J.size;omega,fun j y hy jj u hu=>?_⟩
   rw [World.cell?_of_block (a:=⟨b,o+j*Ze.k+jj,none⟩) ((D b (Nat.lt_of_lt_of_le N J.size) (fun I=>by have:=(K b I).1;omega)).trans (J.block b N))]
   exact e3 j y hy jj u hu
 ·obtain ⟨⟨q,d,U,N⟩,S2,a1,a2,a3,a4,g1,G⟩:=hq
  have a0:Below B W w':=⟨G.os,G.tape,G.output,G.size,fun k D=>G.block k (Nat.lt_of_lt_of_le D h5) (fun I=>by have:=(K k I).1;omega)⟩
  refine ⟨q,d,U,⟨N,hp.nJ G.size (fun k a7 a5=>G.block k a5 (fun I=>by have:=(K k I).2;omega))⟩,⟨S,S2,a1,a2,a3,a4,Y.aS Q a0 (fun k D=>G.block k (Y.dH Q k D).2 (Z k D)),g1,fun k D O=>?_,fun k D=>⟨?_,(g1.aO k D).2⟩,Nat.le_trans h5 G.size,h6,Nat.le_refl _⟩,J.trans (a0.mono (by omega))⟩
  ·rcases G.new k O with O | O
   ·exact Z k D O
   ·have:=(Y.dH Q k D).2
    omega
  ·rcases G.new k D with D | D
   ·exact (K k D).1
   ·omega
theorem Jc4 (a:Za) (m:Zb):Zm (a.aD m).1.L.flatten<=Zm a.L.flatten+u5 m:=by
 have j:Zm (a.heard m).L.flatten=Zm a.L.flatten+Zm m.L:=by
  show Zm (a.L ++ [m.L]).flatten=_
  unfold Zm
  rw [List.flatten_append,List.map_append,List.sum_append]
  simp
 have y:Zm m.L<=u5 m:=by unfold u5;omega
 unfold Za.aD
 split
 ·exact Nat.le_add_right _ _
 ·split
  ·exact Nat.le_add_right _ _
  ·split
   ·rw [j];omega
   ·split
    ·show Zm (a.heard m).L.flatten<=_
     rw [j];omega
    ·split
     ·show Zm (a.heard m).bR.L.flatten<=_
      have e:(a.heard m).bR.L=(a.heard m).L:=by unfold Za.bR;split <;> rfl
      rw [e,j];omega
     ·show Zm (a.heard m).bR.keeps.L.flatten<=_
      have e:(a.heard m).bR.keeps.L=[]:=by unfold Za.keeps;split <;> rfl
      rw [e]
      exact Nat.zero_le _
end
def T1:lN:=⟨0,⟨1,1,[⟨#[97]⟩]⟩,⟨1,1,[⟨#[97]⟩]⟩,0,⟨#[107]⟩⟩
theorem Jdk:lH T1=(0,-1):=by decide +kernel
theorem JcR:T1.mover.begin=[⟨KC,⟨#[97]⟩,⟨#[115,101,97,108]⟩,⟨#[107]⟩,0,0,false,[]⟩]:=rfl
theorem LW {ad:Nat->Addr} {X:World->Prop} {Ck:World->Nat->Nat->(Nat->Prop)->Za->Prop} (hO:Yr ad X Ck) (w:World) (hS:∀ W,Below w.heap.size w W->Zp W ad) (hX:∀ W,Below w.heap.size w W->X W) :
 Calls prog 23 #[] w fun e w'=>e=.returned (.bool true)/\Below w.heap.size w w':=by
 obtain ⟨j,y⟩:∃ j,j=(w.alloc (.cells #[.string ⟨#[97]⟩] 9)).alloc (.cells #[.int .i64 1,.int .i64 1,.slice (some ⟨w.heap.size,0,none⟩) 1 1] 24):=⟨_,rfl⟩
 have b0:Hid (j=(w.alloc (.cells #[.string ⟨#[97]⟩] 9)).alloc (.cells #[.int .i64 1,.int .i64 1,.slice (some ⟨w.heap.size,0,none⟩) 1 1] 24)):=y
 have K:Below w.heap.size w j:=by rw [y];exact ((Below.refl _ _).alloc (Nat.le_refl _) _).alloc (by simp) _
 have N:Below (w.alloc (.cells #[.string ⟨#[97]⟩] 9)).heap.size (w.alloc (.cells #[.string ⟨#[97]⟩] 9)) j:=by rw [y];exact (Below.refl _ _).alloc (Nat.le_refl _) _
 have M:(w.alloc (.cells #[.string ⟨#[97]⟩] 9)).heap.size=w.heap.size+1:=by simp
 have a1:j.cell? ⟨w.heap.size,0,none⟩=some (.string ⟨#[97]⟩):=by rw [N.cell (p:=⟨w.heap.size,0,none⟩) (by show w.heap.size < _;omega),World.cell?_alloc_at _ _ _ _ rfl];rfl
 have g0:j.cell? ⟨w.heap.size+1,0,none⟩=some (.int .i64 1):=by rw [y,World.cell?_alloc_at _ _ _ _ M.symm];rfl
 have g1:j.cell? ⟨w.heap.size+1,1,none⟩=some (.int .i64 1):=by rw [y,World.cell?_alloc_at _ _ _ _ M.symm];rfl
 have g2:j.cell? ⟨w.heap.size+1,2,none⟩=some (.slice (some ⟨w.heap.size,0,none⟩) 1 1):=by rw [y,World.cell?_alloc_at _ _ _ _ M.symm];rfl
 have O:Yn j T1.f (some ⟨w.heap.size,0,none⟩) 1:=⟨Or.inr ⟨w.heap.size,0,rfl,by have:=N.size;omega,fun i hi=>by
  obtain rfl:i=0:=by simpa [T1] using hi
  exact a1⟩,Nat.le_refl _,(fun e=>by cases e),by decide,(fun x G=>by simp [T1] at G;subst G;decide),⟨by decide,by decide⟩,by decide,by decide⟩
 have hg:=hO.new T1 (some ⟨w.heap.size,0,none⟩) 1 (some ⟨w.heap.size,0,none⟩) 1 j O O (by decide) ⟨by decide,by decide⟩ ⟨by decide,by decide⟩ (hS j K) (hX j K)
 have HG:Hid (Calls prog 24 #[.int .i64 0,.agg #[.int .i64 1,.int .i64 1,.slice (some ⟨w.heap.size,0,none⟩) 1 1],.agg #[.int .i64 1,.int .i64 1,.slice (some ⟨w.heap.size,0,none⟩) 1 1],.int .i64 0,.string ⟨#[107]⟩] j fun e w'=>(∃ h S,e=.returned (.tuple #[.pointer (some ⟨h,0,none⟩),.nilIface])/\Ck w' j.heap.size h S T1.mover)/\Below j.heap.size j w'):=hg.mono fun e w' hp=>by
  obtain ⟨⟨ev,h1,h2⟩,h3⟩:=hp
  rw [Jdk] at h1 h2
  obtain rfl:=h1.isNil
  rcases h2 with ⟨h4,_⟩ | ⟨_,h,S,he,I⟩
  ·exact absurd h4 (by decide)
  ·exact ⟨⟨h,S,he,I⟩,h3⟩
 have Q:Hid (Below w.heap.size w j):=K
 have U:Hid (Yr ad X Ck):=hO
 have HX:Hid (∀ W,Below w.heap.size w W->X W):=hX
 clear hg O a1 K y hS hO hX N M
 go_enter func23,ntmps23
 go_wp2_with (first | rw [<- b0.out] | fail)
 refine HG.out.mono ?_
 rintro e Y ⟨⟨h,S,rfl,I⟩,a2⟩
 have Z:Hid (Below w.heap.size w Y):=Q.out.trans (a2.mono Q.out.size)
 have a3:=U.out.begin I (HX.out Y Z.out)
 have a4:=U.out.dH I
 have b1:Hid (∀ k,S k->j.heap.size<=k/\k < Y.heap.size):=a4
 have b2:Hid (w.heap.size<=j.heap.size):=Q.out.size
 clear I a2 HG a4
 go_wp2_with fail
 refine a3.mono ?_
 rintro e J ⟨⟨p,c,rfl,hm⟩,S',a5,D⟩
 rw [JcR] at hm ⊢
 have a6:Hid (Below w.heap.size w J):=Z.out.trans ⟨D.os,D.tape,D.output,D.size,fun k hk=>D.block k (Nat.lt_of_lt_of_le hk Z.out.size) (fun hs=>by have:=(b1.out k hs).1;have:=b2.out;omega)⟩
 obtain ⟨ml,a0,hr,_⟩:=hm
 obtain ⟨x,rfl⟩:∃ x,ml=[x]:=List.length_eq_one_iff.1 (by have:=congrArg List.length a0;simpa using this)
 have G:x.1=⟨KC,⟨#[97]⟩,⟨#[115,101,97,108]⟩,⟨#[107]⟩,0,0,false,[]⟩:=by simpa using a0
 obtain ⟨b,o,b3,b5,d0,d1,d2,d3,d4,d5,d6,d7⟩:=WB hr (i:=0) (by simp)
 simp only [List.getElem_cons_zero,G,Nat.zero_mul,Nat.add_zero] at d0 d2
 have b6:J.cell? ⟨b,o,none⟩=some (.string ⟨#[109,111,118,101,114]⟩):=d0
 clear d0
 have a7:=U.out.state a5
 have a8:Hid (Calls prog 30 #[.pointer (some ⟨h,0,none⟩)] J fun e w'=>e=.returned (.string ⟨#[115,101,97,108,105,110,103]⟩)/\Below J.heap.size J w'):=a7
 subst b3
 clear hr a0 G d1 d3 d4 d5 d6 d7 a7 a5 D a3
 go_wp2_with fail
 refine a8.out.mono ?_
 rintro e w4 ⟨rfl,a9⟩
 have b4:Hid (Below w.heap.size w w4):=a6.out.trans (a9.mono a6.out.size)
 clear a9 a8
 go_wp2
 go_ret
 exact ⟨rfl,b4.out⟩
section
variable {ad:Nat->Addr} {X:World->Prop} {Ck:World->Nat->Nat->(Nat->Prop)->Za->Prop}
structure z8 (ad:Nat->Addr) (X:World->Prop) (b:lN) (p:Option Addr) (cap:Nat) (q:Option Addr) (cap2:Nat) (l:List Zb) (lp:Option Addr) (w:World):Prop where
 eZ:∀ V:World,w.heap.size<=V.heap.size->(∀ k,k < w.heap.size->V.heap[k]?=w.heap[k]?)->Zp V ad/\X V
 b8:∀ V:World,Below w.heap.size w V->O4 V ad
 eS:Strs w p b.f.L
 q9:b.f.L.length<=cap
 nP:p=none->b.f.L=[]/\cap=0
 sT:Jt5 b.f
 u4:b.f.L.length<=maxLen
 oP:∀ x ∈ b.f.L,x.size<=maxLen
 gW:Strs w q b.t.L
 pL:b.t.L.length<=cap2
 nR:q=none->b.t.L=[]/\cap2=0
 sZ:Jt5 b.t
 r9:b.t.L.length<=maxLen
 kH:∀ x ∈ b.t.L,x.size<=maxLen
 op:Zt b.op
 config:Zt b.config
 sA:Xi l<=4611686018427387904
 msgs:mN w lp l
 cM:∀ m ∈ l,∀ v ∈ m.L,Jt v
theorem z8.ok  {D G:Nat} {I:Option Addr} {V:World} (h:z8 ad X b p D q G l I w) (j:Below w.heap.size w V):Zp V ad/\X V:=h.eZ V j.size (fun k y=>j.block k y)
theorem JbH (hO:Yr ad X Ck) (b:lN) (p:Option Addr) (I:Nat) (q:Option Addr) (K:Nat) (l:List Zb) (N:Option Addr) (Z:Nat) (w:World) (D:z8 ad X b p I q K l N w) (h1:Qk b.f=true):Calls prog 4 #[.int .i64 b.op,.agg #[.int .i64 b.f.n,.int .i64 b.f.k,.slice p b.f.L.length I],.agg #[.int .i64 b.t.n,.int .i64 b.t.k,.slice q b.t.L.length K],.int .i64 b.config,.string b.key,.slice N l.length Z] w fun e w'=>e=.returned (.bool true)/\Below w.heap.size w w':=by
 obtain ⟨j,M⟩:∃ j,j=(w.alloc (.cells #[.int .i64 b.f.n,.int .i64 b.f.k,.slice p b.f.L.length I] 24)).alloc (.cells #[.int .i64 b.t.n,.int .i64 b.t.k,.slice q b.t.L.length K] 24):=⟨_,rfl⟩
 have G:Below w.heap.size w j:=by rw [M];exact ((Below.refl _ _).alloc (Nat.le_refl _) _).alloc (by simp) _
 have a6:j.heap.size=w.heap.size+2:=by rw [M];simp
 have a0:j.heap[w.heap.size]?=some (.cells #[.int .i64 b.f.n,.int .i64 b.f.k,.slice p b.f.L.length I] 24 (0,0)):=by rw [M,heap_alloc_old _ _ (by simp)];exact heap_alloc_new _ _
 have a1:j.heap[w.heap.size+1]?=some (.cells #[.int .i64 b.t.n,.int .i64 b.t.k,.slice q b.t.L.length K] 24 (0,0)):=by
  have e:w.heap.size+1=(w.alloc (.cells #[.int .i64 b.f.n,.int .i64 b.f.k,.slice p b.f.L.length I] 24)).heap.size:=by simp
  rw [M,e]
  exact heap_alloc_new _ _
 have a2:Hid (∀ V,Below j.heap.size j V->(V.cell? ⟨w.heap.size,0,none⟩=some (.int .i64 b.f.n)/\V.cell? ⟨w.heap.size,1,none⟩=some (.int .i64 b.f.k)/\V.cell? ⟨w.heap.size,2,none⟩=some (.slice p b.f.L.length I)/\V.cell? ⟨w.heap.size+1,0,none⟩=some (.int .i64 b.t.n)/\V.cell? ⟨w.heap.size+1,1,none⟩=some (.int .i64 b.t.k)/\V.cell? ⟨w.heap.size+1,2,none⟩=some (.slice q b.t.L.length K)/\Below j.heap.size j V)):=fun V y=>by
  have O:=(y.block _ (by omega)).trans a0
  have Q:=(y.block _ (by omega)).trans a1
  exact ⟨(Ja O 0).1,(Ja O 1).1,(Ja O 2).1,(Ja Q 0).1,(Ja Q 1).1,(Ja Q 2).1,y⟩
 have a3:=LW hO j (fun V y=>(D.ok (G.trans (y.mono G.size))).1) (fun V y=>(D.ok (G.trans (y.mono G.size))).2)
 have a4:Hid (∀ V,Below j.heap.size j V->Calls prog 6 #[.agg #[.int .i64 b.f.n,.int .i64 b.f.k,.slice p b.f.L.length I]] V fun e w'=>e=.returned (.bool (Qk b.f))/\Below j.heap.size j w'):=fun V y=>(Xh b.f p I V D.u4 D.oP ((D.eS.below G).below y)).mono fun e w' J=>⟨J.1,y.trans (J.2.mono y.size)⟩
 have a7:Hid (∀ V,Below j.heap.size j V->Calls prog 6 #[.agg #[.int .i64 b.t.n,.int .i64 b.t.k,.slice q b.t.L.length K]] V fun e w'=>e=.returned (.bool (Qk b.t))/\Below j.heap.size j w'):=fun V y=>(Xh b.t q K V D.r9 D.kH ((D.gW.below G).below y)).mono fun e w' J=>⟨J.1,y.trans (J.2.mono y.size)⟩
 have a8:Hid (∀ V,Below j.heap.size j V->Calls prog 7 #[.slice N l.length Z] V fun e w'=>e=.returned (.bool (X5 l))/\Below j.heap.size j w'):=fun V y=>(Qy N l Z V D.sA ((D.msgs.below G).below y)).mono fun e w' J=>⟨J.1,y.trans (J.2.mono y.size)⟩
 have a9:Hid (j=(w.alloc (.cells #[.int .i64 b.f.n,.int .i64 b.f.k,.slice p b.f.L.length I] 24)).alloc (.cells #[.int .i64 b.t.n,.int .i64 b.t.k,.slice q b.t.L.length K] 24)):=M
 have a5:Hid (Below w.heap.size w j):=G
 rw [h1] at a4
 clear D hO M G a6 a0 a1 a7 a8
 go_enter func4,ntmps4
 go_wp2_with (first | rw [<- a9.out] | fail)
 refine a3.mono ?_
 rintro e U ⟨rfl,W⟩
 obtain ⟨d0,d1,d2,d3,d4,d5,_⟩:=a2.out U W
 have b0:Hid (Below j.heap.size j U):=W
 clear W a3
 go_wp2_with fail
 refine (a4.out U b0.out).mono ?_
 rintro e w3 ⟨rfl,Y⟩
 clear d0 d1 d2 d3 d4 d5
 obtain ⟨d0,d1,d2,d3,d4,d5,_⟩:=a2.out w3 Y
 have b1:Hid (Below j.heap.size j w3):=Y
 clear Y
 go_wp2
 go_ret
 exact ⟨rfl,a5.out.trans (b1.out.mono a5.out.size)⟩
theorem JbI (hO:Yr ad X Ck) (b:lN) (p:Option Addr) (I:Nat) (q:Option Addr) (K:Nat) (l:List Zb) (Z:Option Addr) (a4:Nat) (w:World) (D:z8 ad X b p I q K l Z w) (h1:Qk b.f=false) (h2:Qk b.t=true):Calls prog 4 #[.int .i64 b.op,.agg #[.int .i64 b.f.n,.int .i64 b.f.k,.slice p b.f.L.length I],.agg #[.int .i64 b.t.n,.int .i64 b.t.k,.slice q b.t.L.length K],.int .i64 b.config,.string b.key,.slice Z l.length a4] w fun e w'=>e=.returned (.bool true)/\Below w.heap.size w w':=by
 obtain ⟨j,M⟩:∃ j,j=(w.alloc (.cells #[.int .i64 b.f.n,.int .i64 b.f.k,.slice p b.f.L.length I] 24)).alloc (.cells #[.int .i64 b.t.n,.int .i64 b.t.k,.slice q b.t.L.length K] 24):=⟨_,rfl⟩
 have G:Below w.heap.size w j:=by rw [M];exact ((Below.refl _ _).alloc (Nat.le_refl _) _).alloc (by simp) _
 have b1:j.heap.size=w.heap.size+2:=by rw [M];simp
 have a5:j.heap[w.heap.size]?=some (.cells #[.int .i64 b.f.n,.int .i64 b.f.k,.slice p b.f.L.length I] 24 (0,0)):=by rw [M,heap_alloc_old _ _ (by simp)];exact heap_alloc_new _ _
 have a6:j.heap[w.heap.size+1]?=some (.cells #[.int .i64 b.t.n,.int .i64 b.t.k,.slice q b.t.L.length K] 24 (0,0)):=by
  have e:w.heap.size+1=(w.alloc (.cells #[.int .i64 b.f.n,.int .i64 b.f.k,.slice p b.f.L.length I] 24)).heap.size:=by simp
  rw [M,e]
  exact heap_alloc_new _ _
 have a0:Hid (∀ V,Below j.heap.size j V->(V.cell? ⟨w.heap.size,0,none⟩=some (.int .i64 b.f.n)/\V.cell? ⟨w.heap.size,1,none⟩=some (.int .i64 b.f.k)/\V.cell? ⟨w.heap.size,2,none⟩=some (.slice p b.f.L.length I)/\V.cell? ⟨w.heap.size+1,0,none⟩=some (.int .i64 b.t.n)/\V.cell? ⟨w.heap.size+1,1,none⟩=some (.int .i64 b.t.k)/\V.cell? ⟨w.heap.size+1,2,none⟩=some (.slice q b.t.L.length K)/\Below j.heap.size j V)):=fun V y=>by
  have hF:=(y.block _ (by omega)).trans a5
  have hT:=(y.block _ (by omega)).trans a6
  exact ⟨(Ja hF 0).1,(Ja hF 1).1,(Ja hF 2).1,(Ja hT 0).1,(Ja hT 1).1,(Ja hT 2).1,y⟩
 have a7:=LW hO j (fun V y=>(D.ok (G.trans (y.mono G.size))).1) (fun V y=>(D.ok (G.trans (y.mono G.size))).2)
 have a8:Hid (∀ V,Below j.heap.size j V->Calls prog 6 #[.agg #[.int .i64 b.f.n,.int .i64 b.f.k,.slice p b.f.L.length I]] V fun e w'=>e=.returned (.bool (Qk b.f))/\Below j.heap.size j w'):=fun V y=>(Xh b.f p I V D.u4 D.oP ((D.eS.below G).below y)).mono fun e w' J=>⟨J.1,y.trans (J.2.mono y.size)⟩
 have a9:Hid (∀ V,Below j.heap.size j V->Calls prog 6 #[.agg #[.int .i64 b.t.n,.int .i64 b.t.k,.slice q b.t.L.length K]] V fun e w'=>e=.returned (.bool (Qk b.t))/\Below j.heap.size j w'):=fun V y=>(Xh b.t q K V D.r9 D.kH ((D.gW.below G).below y)).mono fun e w' J=>⟨J.1,y.trans (J.2.mono y.size)⟩
 have b2:Hid (∀ V,Below j.heap.size j V->Calls prog 7 #[.slice Z l.length a4] V fun e w'=>e=.returned (.bool (X5 l))/\Below j.heap.size j w'):=fun V y=>(Qy Z l a4 V D.sA ((D.msgs.below G).below y)).mono fun e w' J=>⟨J.1,y.trans (J.2.mono y.size)⟩
 have b3:Hid (j=(w.alloc (.cells #[.int .i64 b.f.n,.int .i64 b.f.k,.slice p b.f.L.length I] 24)).alloc (.cells #[.int .i64 b.t.n,.int .i64 b.t.k,.slice q b.t.L.length K] 24)):=M
 have b0:Hid (Below w.heap.size w j):=G
 rw [h1] at a8
 rw [h2] at a9
 clear D hO M G b1 a5 a6 b2
 go_enter func4,ntmps4
 go_wp2_with (first | rw [<- b3.out] | fail)
 refine a7.mono ?_
 rintro e w2 ⟨rfl,a1⟩
 obtain ⟨N,O,Q,U,W,Y,_⟩:=a0.out w2 a1
 have b4:Hid (Below j.heap.size j w2):=a1
 clear a1 a7
 go_wp2_with fail
 refine (a8.out w2 b4.out).mono ?_
 rintro e w3 ⟨rfl,a2⟩
 clear N O Q U W Y
 obtain ⟨N,O,Q,U,W,Y,_⟩:=a0.out w3 a2
 have b5:Hid (Below j.heap.size j w3):=a2
 clear a2
 go_wp2_with fail
 refine (a9.out w3 b5.out).mono ?_
 rintro e w4 ⟨rfl,a3⟩
 clear N O Q U W Y
 obtain ⟨N,O,Q,U,W,Y,_⟩:=a0.out w4 a3
 have b6:Hid (Below j.heap.size j w4):=a3
 clear a3
 go_wp2
 go_ret
 exact ⟨rfl,b0.out.trans (b6.out.mono b0.out.size)⟩
theorem Jca (hO:Yr ad X Ck) (b:lN) (p:Option Addr) (I:Nat) (q:Option Addr) (K:Nat) (l:List Zb) (Z:Option Addr) (a4:Nat) (w:World) (D:z8 ad X b p I q K l Z w) (h1:Qk b.f=false) (h2:Qk b.t=false) (h3:100 < b.key.size):Calls prog 4 #[.int .i64 b.op,.agg #[.int .i64 b.f.n,.int .i64 b.f.k,.slice p b.f.L.length I],.agg #[.int .i64 b.t.n,.int .i64 b.t.k,.slice q b.t.L.length K],.int .i64 b.config,.string b.key,.slice Z l.length a4] w fun e w'=>e=.returned (.bool true)/\Below w.heap.size w w':=by
 obtain ⟨j,M⟩:∃ j,j=(w.alloc (.cells #[.int .i64 b.f.n,.int .i64 b.f.k,.slice p b.f.L.length I] 24)).alloc (.cells #[.int .i64 b.t.n,.int .i64 b.t.k,.slice q b.t.L.length K] 24):=⟨_,rfl⟩
 have G:Below w.heap.size w j:=by rw [M];exact ((Below.refl _ _).alloc (Nat.le_refl _) _).alloc (by simp) _
 have b1:j.heap.size=w.heap.size+2:=by rw [M];simp
 have a5:j.heap[w.heap.size]?=some (.cells #[.int .i64 b.f.n,.int .i64 b.f.k,.slice p b.f.L.length I] 24 (0,0)):=by rw [M,heap_alloc_old _ _ (by simp)];exact heap_alloc_new _ _
 have a6:j.heap[w.heap.size+1]?=some (.cells #[.int .i64 b.t.n,.int .i64 b.t.k,.slice q b.t.L.length K] 24 (0,0)):=by
  have e:w.heap.size+1=(w.alloc (.cells #[.int .i64 b.f.n,.int .i64 b.f.k,.slice p b.f.L.length I] 24)).heap.size:=by simp
  rw [M,e]
  exact heap_alloc_new _ _
 have a0:Hid (∀ V,Below j.heap.size j V->(V.cell? ⟨w.heap.size,0,none⟩=some (.int .i64 b.f.n)/\V.cell? ⟨w.heap.size,1,none⟩=some (.int .i64 b.f.k)/\V.cell? ⟨w.heap.size,2,none⟩=some (.slice p b.f.L.length I)/\V.cell? ⟨w.heap.size+1,0,none⟩=some (.int .i64 b.t.n)/\V.cell? ⟨w.heap.size+1,1,none⟩=some (.int .i64 b.t.k)/\V.cell? ⟨w.heap.size+1,2,none⟩=some (.slice q b.t.L.length K)/\Below j.heap.size j V)):=fun V y=>by
  have hF:=(y.block _ (by omega)).trans a5
  have hT:=(y.block _ (by omega)).trans a6
  exact ⟨(Ja hF 0).1,(Ja hF 1).1,(Ja hF 2).1,(Ja hT 0).1,(Ja hT 1).1,(Ja hT 2).1,y⟩
 have a7:=LW hO j (fun V y=>(D.ok (G.trans (y.mono G.size))).1) (fun V y=>(D.ok (G.trans (y.mono G.size))).2)
 have a8:Hid (∀ V,Below j.heap.size j V->Calls prog 6 #[.agg #[.int .i64 b.f.n,.int .i64 b.f.k,.slice p b.f.L.length I]] V fun e w'=>e=.returned (.bool (Qk b.f))/\Below j.heap.size j w'):=fun V y=>(Xh b.f p I V D.u4 D.oP ((D.eS.below G).below y)).mono fun e w' J=>⟨J.1,y.trans (J.2.mono y.size)⟩
 have a9:Hid (∀ V,Below j.heap.size j V->Calls prog 6 #[.agg #[.int .i64 b.t.n,.int .i64 b.t.k,.slice q b.t.L.length K]] V fun e w'=>e=.returned (.bool (Qk b.t))/\Below j.heap.size j w'):=fun V y=>(Xh b.t q K V D.r9 D.kH ((D.gW.below G).below y)).mono fun e w' J=>⟨J.1,y.trans (J.2.mono y.size)⟩
 have b2:Hid (∀ V,Below j.heap.size j V->Calls prog 7 #[.slice Z l.length a4] V fun e w'=>e=.returned (.bool (X5 l))/\Below j.heap.size j w'):=fun V y=>(Qy Z l a4 V D.sA ((D.msgs.below G).below y)).mono fun e w' J=>⟨J.1,y.trans (J.2.mono y.size)⟩
 have b3:Hid (j=(w.alloc (.cells #[.int .i64 b.f.n,.int .i64 b.f.k,.slice p b.f.L.length I] 24)).alloc (.cells #[.int .i64 b.t.n,.int .i64 b.t.k,.slice q b.t.L.length K] 24)):=M
 have b0:Hid (Below w.heap.size w j):=G
 rw [h1] at a8
 rw [h2] at a9
 have n3:decide ((100:Int) < (b.key.size:Int))=true:=decide_eq_true (by omega)
 clear D hO M G b1 a5 a6 b2
 go_enter func4,ntmps4
 go_wp2_with (first | rw [<- b3.out] | fail)
 refine a7.mono ?_
 rintro e w2 ⟨rfl,a1⟩
 obtain ⟨N,O,Q,U,W,Y,_⟩:=a0.out w2 a1
 have b4:Hid (Below j.heap.size j w2):=a1
 clear a1 a7
 go_wp2_with fail
 refine (a8.out w2 b4.out).mono ?_
 rintro e w3 ⟨rfl,a2⟩
 clear N O Q U W Y
 obtain ⟨N,O,Q,U,W,Y,_⟩:=a0.out w3 a2
 have b5:Hid (Below j.heap.size j w3):=a2
 clear a2
 go_wp2_with fail
 refine (a9.out w3 b5.out).mono ?_
 rintro e w4 ⟨rfl,a3⟩
 clear N O Q U W Y
 obtain ⟨N,O,Q,U,W,Y,_⟩:=a0.out w4 a3
 have b6:Hid (Below j.heap.size j w4):=a3
 clear a3
 go_wp2
 go_ret
 exact ⟨rfl,b0.out.trans (b6.out.mono b0.out.size)⟩
theorem JbV (hO:Yr ad X Ck) (b:lN) (p:Option Addr) (I:Nat) (q:Option Addr) (K:Nat) (l:List Zb) (lp:Option Addr) (a4:Nat) (w:World) (D:z8 ad X b p I q K l lp w) (h1:Qk b.f=false) (h2:Qk b.t=false) (h3:¬ 100 < b.key.size) (h4:X5 l=false):Calls prog 4 #[.int .i64 b.op,.agg #[.int .i64 b.f.n,.int .i64 b.f.k,.slice p b.f.L.length I],.agg #[.int .i64 b.t.n,.int .i64 b.t.k,.slice q b.t.L.length K],.int .i64 b.config,.string b.key,.slice lp l.length a4] w fun e w'=>e=.returned (.bool true)/\Below w.heap.size w w':=by
 obtain ⟨j,M⟩:∃ j,j=(w.alloc (.cells #[.int .i64 b.f.n,.int .i64 b.f.k,.slice p b.f.L.length I] 24)).alloc (.cells #[.int .i64 b.t.n,.int .i64 b.t.k,.slice q b.t.L.length K] 24):=⟨_,rfl⟩
 have G:Below w.heap.size w j:=by rw [M];exact ((Below.refl _ _).alloc (Nat.le_refl _) _).alloc (by simp) _
 have b2:j.heap.size=w.heap.size+2:=by rw [M];simp
 have a5:j.heap[w.heap.size]?=some (.cells #[.int .i64 b.f.n,.int .i64 b.f.k,.slice p b.f.L.length I] 24 (0,0)):=by rw [M,heap_alloc_old _ _ (by simp)];exact heap_alloc_new _ _
 have a6:j.heap[w.heap.size+1]?=some (.cells #[.int .i64 b.t.n,.int .i64 b.t.k,.slice q b.t.L.length K] 24 (0,0)):=by
  have e:w.heap.size+1=(w.alloc (.cells #[.int .i64 b.f.n,.int .i64 b.f.k,.slice p b.f.L.length I] 24)).heap.size:=by simp
  rw [M,e]
  exact heap_alloc_new _ _
 have Z:Hid (∀ V,Below j.heap.size j V->(V.cell? ⟨w.heap.size,0,none⟩=some (.int .i64 b.f.n)/\V.cell? ⟨w.heap.size,1,none⟩=some (.int .i64 b.f.k)/\V.cell? ⟨w.heap.size,2,none⟩=some (.slice p b.f.L.length I)/\V.cell? ⟨w.heap.size+1,0,none⟩=some (.int .i64 b.t.n)/\V.cell? ⟨w.heap.size+1,1,none⟩=some (.int .i64 b.t.k)/\V.cell? ⟨w.heap.size+1,2,none⟩=some (.slice q b.t.L.length K)/\Below j.heap.size j V)):=fun V y=>by
  have hF:=(y.block _ (by omega)).trans a5
  have hT:=(y.block _ (by omega)).trans a6
  exact ⟨(Ja hF 0).1,(Ja hF 1).1,(Ja hF 2).1,(Ja hT 0).1,(Ja hT 1).1,(Ja hT 2).1,y⟩
 have a7:=LW hO j (fun V y=>(D.ok (G.trans (y.mono G.size))).1) (fun V y=>(D.ok (G.trans (y.mono G.size))).2)
 have a8:Hid (∀ V,Below j.heap.size j V->Calls prog 6 #[.agg #[.int .i64 b.f.n,.int .i64 b.f.k,.slice p b.f.L.length I]] V fun e w'=>e=.returned (.bool (Qk b.f))/\Below j.heap.size j w'):=fun V y=>(Xh b.f p I V D.u4 D.oP ((D.eS.below G).below y)).mono fun e w' J=>⟨J.1,y.trans (J.2.mono y.size)⟩
 have a9:Hid (∀ V,Below j.heap.size j V->Calls prog 6 #[.agg #[.int .i64 b.t.n,.int .i64 b.t.k,.slice q b.t.L.length K]] V fun e w'=>e=.returned (.bool (Qk b.t))/\Below j.heap.size j w'):=fun V y=>(Xh b.t q K V D.r9 D.kH ((D.gW.below G).below y)).mono fun e w' J=>⟨J.1,y.trans (J.2.mono y.size)⟩
 have b0:Hid (∀ V,Below j.heap.size j V->Calls prog 7 #[.slice lp l.length a4] V fun e w'=>e=.returned (.bool (X5 l))/\Below j.heap.size j w'):=fun V y=>(Qy lp l a4 V D.sA ((D.msgs.below G).below y)).mono fun e w' J=>⟨J.1,y.trans (J.2.mono y.size)⟩
 have b3:Hid (j=(w.alloc (.cells #[.int .i64 b.f.n,.int .i64 b.f.k,.slice p b.f.L.length I] 24)).alloc (.cells #[.int .i64 b.t.n,.int .i64 b.t.k,.slice q b.t.L.length K] 24)):=M
 have b1:Hid (Below w.heap.size w j):=G
 rw [h1] at a8
 rw [h2] at a9
 rw [h4] at b0
 have n3:decide ((100:Int) < (b.key.size:Int))=false:=decide_eq_false (by omega)
 clear D hO M G b2 a5 a6
 go_enter func4,ntmps4
 go_wp2_with (first | rw [<- b3.out] | fail)
 refine a7.mono ?_
 rintro e w2 ⟨rfl,a0⟩
 obtain ⟨N,O,Q,U,W,Y,_⟩:=Z.out w2 a0
 have b4:Hid (Below j.heap.size j w2):=a0
 clear a0 a7
 go_wp2_with fail
 refine (a8.out w2 b4.out).mono ?_
 rintro e w3 ⟨rfl,a1⟩
 clear N O Q U W Y
 obtain ⟨N,O,Q,U,W,Y,_⟩:=Z.out w3 a1
 have b5:Hid (Below j.heap.size j w3):=a1
 clear a1
 go_wp2_with fail
 refine (a9.out w3 b5.out).mono ?_
 rintro e w4 ⟨rfl,a2⟩
 clear N O Q U W Y
 obtain ⟨N,O,Q,U,W,Y,_⟩:=Z.out w4 a2
 have b6:Hid (Below j.heap.size j w4):=a2
 clear a2
 go_wp2_with fail
 refine (b0.out w4 b6.out).mono ?_
 rintro e w5 ⟨rfl,a3⟩
 clear N O Q U W Y
 obtain ⟨N,O,Q,U,W,Y,_⟩:=Z.out w5 a3
 have b7:Hid (Below j.heap.size j w5):=a3
 clear a3
 go_wp2
 go_ret
 exact ⟨rfl,b1.out.trans (b7.out.mono b1.out.size)⟩
end
section
variable {ad:Nat->Addr} {X:World->Prop} {Ck:World->Nat->Nat->(Nat->Prop)->Za->Prop}
def CkB (Ck:World->Nat->Nat->(Nat->Prop)->Za->Prop) (w W:World) (h:Nat) (a:Za):Prop:=∃ B S,Ck W B h S a/\B<=W.heap.size/\w.heap.size<=B
theorem CkB.below {G:World}  (M:CkB Ck w W h a) (I:Yr ad X Ck) (j:Below W.heap.size W G):CkB Ck w G h a:=by
 obtain ⟨B,S,y,D,J⟩:=M
 exact ⟨B,S,I.aS y (j.mono D) (fun k K=>j.block k (I.dH y k K).2),Nat.le_trans D j.size,J⟩
theorem Jdc {G:Nat} {D:World} (hO:Yr ad X Ck) (hw:D.heap.size=G) (a1:Below D.heap.size D W) (hX:X W) (hm:Qo Ck G B h ab nv M W a a) :
 Calls prog 28 #[.pointer (some ⟨h,0,none⟩)] W fun e w'=>∃ p c,e=.returned (.slice p a.begin.length c)/\Hid (pD M w' p a.begin/\Qo Ck G B h ab nv M w' a a)/\Below D.heap.size D w':=by
 obtain ⟨S,S',mv,fv,lv,vs,K,I,N,h4,O,Q,U⟩:=hm
 have a0:∀ k,S k->D.heap.size<=k:=fun k j=>by have:=(hO.dH K k j).1;omega
 refine (hO.begin K hX).mono fun e w' hq=>?_
 obtain ⟨⟨p,c,e1,e2⟩,S1,g1,y⟩:=hq
 have Y:Below G W w':=⟨y.os,y.tape,y.output,y.size,fun k j=>y.block k (Nat.lt_of_lt_of_le j (Nat.le_trans Q O)) (fun J=>by have:=a0 k J;omega)⟩
 refine ⟨p,c,e1,⟨e2.mono U,S1,S',mv,fv,lv,vs,g1,I.aS Y (fun k j=>y.block k (I.aO k j).2 (fun J=>N k J j)),fun k j Z=>?_,h4,Nat.le_trans O y.size,Q,Nat.le_trans U y.size⟩,a1.trans (hw ▸ Y)⟩
 rcases y.new k j with j | j
 ·exact N k j Z
 ·have:=(I.aO k Z).2
  omega
theorem JcB (b:lN):b.mover.begin.length=b.f.L.length/\∀ m ∈ b.mover.begin,m.L.length<=1000000:=by
 have e:b.mover.begin=b.mover.send O1 false:=rfl
 rw [e]
 unfold Za.send
 refine ⟨by rw [List.length_map,List.length_range];rfl,fun m j=>?_⟩
 obtain ⟨i,_,rfl⟩:=List.mem_map.1 j
 exact Nat.zero_le _
theorem JcM (a:Za) (kind:ByteArray) (j:Bool):(a.send kind j).length=a.c.L.length/\∀ m ∈ a.send kind j,m.L.length<=1000000:=by
 unfold Za.send
 refine ⟨by rw [List.length_map,List.length_range],fun m y=>?_⟩
 obtain ⟨i,_,rfl⟩:=List.mem_map.1 y
 show (if j=true then [a.sQ i] else []).length<=1000000
 split <;> simp
theorem JbU (l:List Zb) (i:Nat):Xi (l.take i)<=Xi l:=by
 have e:Xi l=Xi (l.take i)+Xi (l.drop i):=by
  unfold Xi
  rw [<- List.sum_append,<- List.map_append,List.take_append_drop]
 omega
theorem JcN (m:Zb) (y:X4 a):(a.aD m).2.length<=1000/\∀ x ∈ (a.aD m).2,x.L.length<=1000000:=by
 unfold Za.aD
 split
 ·exact ⟨Nat.zero_le 1000,fun x j=>by cases j⟩
 ·split
  ·exact ⟨Nat.zero_le 1000,fun x j=>by cases j⟩
  ·split
   ·exact ⟨Nat.zero_le 1000,fun x j=>by cases j⟩
   ·split
    ·exact ⟨Nat.zero_le 1000,fun x j=>by cases j⟩
    ·split
     ·exact ⟨Nat.zero_le 1000,fun x j=>by cases j⟩
     ·obtain ⟨D,G⟩:=JcM (a.heard m).bR.keeps JJ true
      refine ⟨?_,G⟩
      show (Za.send _ JJ true).length<=1000
      rw [D]
      have I:(a.heard m).bR.keeps.c=a.next:=by
       have J:(a.heard m).bR.aI=true:=by rw [(YE (a.heard m)).2.2.2.1];exact y.aI
       rw [Jcn J]
       show (a.heard m).bR.next=a.next
       rw [IV]
       rfl
      rw [I]
      obtain ⟨⟨_,_,K⟩,M,_⟩:=Xm y.rD
      omega
theorem Jbl {P:Program} {D:Region.Mode} {G:Array Oper} {Q:Exit->Act->World->Prop} {S S':World->Prop} (I:∀ w,S' w->S w):∀ (fuel:Nat) (j:Array Bool) (a:Act) (w:World),wpAnyH P D G Q S' fuel j a w->wpAnyH P D G Q S fuel j a w
 | 0,_,_,_,h=>h
 | fuel+1,_,_,_,h=>⟨h.1,fun i J=>wpOp_mono (fun a' w' y=>⟨I w' y.1,Jbl I fuel _ a' w' y.2⟩) (h.2 i J)⟩
theorem JdG      (hO:Yr ad X Ck) (a0:∀ W,Below w.heap.size w W->(W.cell? ⟨mb,j+i*8,none⟩=some (.string m1)/\W.cell? ⟨mb,j+i*8+1,none⟩=some (.string m2)/\W.cell? ⟨mb,j+i*8+2,none⟩=some (.string m3)/\W.cell? ⟨mb,j+i*8+3,none⟩=some (.string D)/\W.cell? ⟨mb,j+i*8+4,none⟩=some (.int .i64 G)/\W.cell? ⟨mb,j+i*8+5,none⟩=some (.int .i64 I)/\W.cell? ⟨mb,j+i*8+6,none⟩=some (.bool J)/\W.cell? ⟨mb,j+i*8+7,none⟩=some (.slice K y.length M)/\Below w.heap.size w W)) (a1:y.length<=1000) (U:Jn w (⟨m1,m2,m3,D,G,I,J,y⟩,(K,y.length,M))):∀ W,(W.cell? ⟨mb,j+i*8,none⟩=some (.string m1)/\W.cell? ⟨mb,j+i*8+1,none⟩=some (.string m2)/\W.cell? ⟨mb,j+i*8+2,none⟩=some (.string m3)/\W.cell? ⟨mb,j+i*8+3,none⟩=some (.string D)/\W.cell? ⟨mb,j+i*8+4,none⟩=some (.int .i64 G)/\W.cell? ⟨mb,j+i*8+5,none⟩=some (.int .i64 I)/\W.cell? ⟨mb,j+i*8+6,none⟩=some (.bool J)/\W.cell? ⟨mb,j+i*8+7,none⟩=some (.slice K y.length M)/\Below w.heap.size w W)->Hid (Qo Ck w.heap.size B h ab nv w20.heap.size W a a)->Calls prog 19 #[.agg #[.string m1,.string m2,.string m3,.string D,.int .i64 G,.int .i64 I,.bool J,.slice K y.length M]] W fun e w'=>∃ q d,e=.returned (.agg #[.string m1,.string m2,.string m3,.string D,.int .i64 G,.int .i64 I,.bool J,.slice q y.length d])/\Hid (Jn w' (⟨m1,m2,m3,D,G,I,J,y⟩,(q,y.length,d))/\Jbt Ck w.heap.size B h ab nv w20.heap.size w' a a q)/\(w'.cell? ⟨mb,j+i*8,none⟩=some (.string m1)/\w'.cell? ⟨mb,j+i*8+1,none⟩=some (.string m2)/\w'.cell? ⟨mb,j+i*8+2,none⟩=some (.string m3)/\w'.cell? ⟨mb,j+i*8+3,none⟩=some (.string D)/\w'.cell? ⟨mb,j+i*8+4,none⟩=some (.int .i64 G)/\w'.cell? ⟨mb,j+i*8+5,none⟩=some (.int .i64 I)/\w'.cell? ⟨mb,j+i*8+6,none⟩=some (.bool J)/\w'.cell? ⟨mb,j+i*8+7,none⟩=some (.slice K y.length M)/\Below w.heap.size w w'):=by
 intro W N Y
 refine (Jc6 ⟨m1,m2,m3,D,G,I,J,y⟩ K M W (by show y.length<=2932031007317;omega) (U.below N.2.2.2.2.2.2.2.2).eC U.empty).mono fun e w' Z=>?_
 obtain ⟨⟨lv,e1,O⟩,Q⟩:=Z
 obtain ⟨q,d,f1,f2,f3,f4,_⟩:=O.form
 subst f1
 exact ⟨q,d,e1,⟨⟨rfl,f2,f3,f4⟩,Y.out.new hO Q (fun b o e=>(Zc.block O (k:=b) (by rw [e];rfl)).1)⟩,a0 w' (N.2.2.2.2.2.2.2.2.trans (Q.mono N.2.2.2.2.2.2.2.2.size))⟩
theorem JdH      (hO:Yr ad X Ck) (a0:∀ W,Below w.heap.size w W->(W.cell? ⟨mb,j+i*8,none⟩=some (.string m1)/\W.cell? ⟨mb,j+i*8+1,none⟩=some (.string m2)/\W.cell? ⟨mb,j+i*8+2,none⟩=some (.string m3)/\W.cell? ⟨mb,j+i*8+3,none⟩=some (.string D)/\W.cell? ⟨mb,j+i*8+4,none⟩=some (.int .i64 G)/\W.cell? ⟨mb,j+i*8+5,none⟩=some (.int .i64 I)/\W.cell? ⟨mb,j+i*8+6,none⟩=some (.bool J)/\W.cell? ⟨mb,j+i*8+7,none⟩=some (.slice N y.length O)/\Below w.heap.size w W)) (hG:∀ V:World,w.heap.size<=V.heap.size->(∀ k,k < w.heap.size->V.heap[k]?=w.heap[k]?)->Zp V ad/\X V) (a1:a.small ⟨m1,m2,m3,D,G,I,J,y⟩) (hv:∀ v ∈ y,Jt v):∀ W q d,(W.cell? ⟨mb,j+i*8,none⟩=some (.string m1)/\W.cell? ⟨mb,j+i*8+1,none⟩=some (.string m2)/\W.cell? ⟨mb,j+i*8+2,none⟩=some (.string m3)/\W.cell? ⟨mb,j+i*8+3,none⟩=some (.string D)/\W.cell? ⟨mb,j+i*8+4,none⟩=some (.int .i64 G)/\W.cell? ⟨mb,j+i*8+5,none⟩=some (.int .i64 I)/\W.cell? ⟨mb,j+i*8+6,none⟩=some (.bool J)/\W.cell? ⟨mb,j+i*8+7,none⟩=some (.slice N y.length O)/\Below w.heap.size w W)->Hid (Jn W (⟨m1,m2,m3,D,G,I,J,y⟩,(q,y.length,d))/\Jbt Ck w.heap.size B h ab nv w20.heap.size W a a q)->Calls prog 29 #[.pointer (some ⟨h,0,none⟩),.agg #[.string m1,.string m2,.string m3,.string D,.int .i64 G,.int .i64 I,.bool J,.slice q y.length d]] W fun e w'=>∃ K M,e=.returned (.slice K (a.aD ⟨m1,m2,m3,D,G,I,J,y⟩).2.length M)/\Hid (pD w20.heap.size w' K (a.aD ⟨m1,m2,m3,D,G,I,J,y⟩).2/\Qo Ck w.heap.size B h ab nv w20.heap.size w' a (a.aD ⟨m1,m2,m3,D,G,I,J,y⟩).1)/\(w'.cell? ⟨mb,j+i*8,none⟩=some (.string m1)/\w'.cell? ⟨mb,j+i*8+1,none⟩=some (.string m2)/\w'.cell? ⟨mb,j+i*8+2,none⟩=some (.string m3)/\w'.cell? ⟨mb,j+i*8+3,none⟩=some (.string D)/\w'.cell? ⟨mb,j+i*8+4,none⟩=some (.int .i64 G)/\w'.cell? ⟨mb,j+i*8+5,none⟩=some (.int .i64 I)/\w'.cell? ⟨mb,j+i*8+6,none⟩=some (.bool J)/\w'.cell? ⟨mb,j+i*8+7,none⟩=some (.slice N y.length O)/\Below w.heap.size w w'):=by
 intro W q d U Q
 refine (JdA hO hG rfl U.2.2.2.2.2.2.2.2 (⟨m1,m2,m3,D,G,I,J,y⟩,(q,y.length,d)) Q.out.1 a1 hv Q.out.2).mono fun e w' Y=>?_
 obtain ⟨K,M,Z,e2,e3,e4⟩:=Y
 exact ⟨K,M,Z,⟨e2,e3⟩,a0 w' e4⟩
theorem JdI  {r1:Za} {y:List Zb} {M:ByteArray} {N O:Int} {Q:Bool} {U:List Yb} {Y:Option Addr} {Z:Nat} (hO:Yr ad X Ck) (a0:∀ W,Below w.heap.size w W->(W.cell? ⟨mb,j+i*8,none⟩=some (.string m1)/\W.cell? ⟨mb,j+i*8+1,none⟩=some (.string m2)/\W.cell? ⟨mb,j+i*8+2,none⟩=some (.string m3)/\W.cell? ⟨mb,j+i*8+3,none⟩=some (.string M)/\W.cell? ⟨mb,j+i*8+4,none⟩=some (.int .i64 N)/\W.cell? ⟨mb,j+i*8+5,none⟩=some (.int .i64 O)/\W.cell? ⟨mb,j+i*8+6,none⟩=some (.bool Q)/\W.cell? ⟨mb,j+i*8+7,none⟩=some (.slice Y U.length Z)/\Below w.heap.size w W)) (hs:y.length<=1000):∀ W D I,(W.cell? ⟨mb,j+i*8,none⟩=some (.string m1)/\W.cell? ⟨mb,j+i*8+1,none⟩=some (.string m2)/\W.cell? ⟨mb,j+i*8+2,none⟩=some (.string m3)/\W.cell? ⟨mb,j+i*8+3,none⟩=some (.string M)/\W.cell? ⟨mb,j+i*8+4,none⟩=some (.int .i64 N)/\W.cell? ⟨mb,j+i*8+5,none⟩=some (.int .i64 O)/\W.cell? ⟨mb,j+i*8+6,none⟩=some (.bool Q)/\W.cell? ⟨mb,j+i*8+7,none⟩=some (.slice Y U.length Z)/\Below w.heap.size w W)->Hid (pD w20.heap.size W D y/\Qo Ck w.heap.size B h ab nv w20.heap.size W a r1)->Calls prog 15 #[.slice D y.length I] W fun e w'=>∃ G J,e=.returned (.slice G y.length J)/\Hid (pD w20.heap.size w' G y/\Qo Ck w.heap.size B h ab nv w20.heap.size w' a r1)/\(w'.cell? ⟨mb,j+i*8,none⟩=some (.string m1)/\w'.cell? ⟨mb,j+i*8+1,none⟩=some (.string m2)/\w'.cell? ⟨mb,j+i*8+2,none⟩=some (.string m3)/\w'.cell? ⟨mb,j+i*8+3,none⟩=some (.string M)/\w'.cell? ⟨mb,j+i*8+4,none⟩=some (.int .i64 N)/\w'.cell? ⟨mb,j+i*8+5,none⟩=some (.int .i64 O)/\w'.cell? ⟨mb,j+i*8+6,none⟩=some (.bool Q)/\w'.cell? ⟨mb,j+i*8+7,none⟩=some (.slice Y U.length Z)/\Below w.heap.size w w'):=by
 intro W D I hW K
 refine (Jbf w20.heap.size D y I W hs (by obtain ⟨_,_,_,_,_,_,_,_,_,_,_,_,g⟩:=K.out.2;exact g) K.out.1).mono fun e w' hq=>?_
 obtain ⟨⟨G,J,e1,e2⟩,e3⟩:=hq
 exact ⟨G,J,e1,⟨e2,K.out.2.below hO e3⟩,a0 w' (hW.2.2.2.2.2.2.2.2.trans (e3.mono hW.2.2.2.2.2.2.2.2.size))⟩
theorem Jdd      (hO:Yr ad X Ck) (a0:∀ W,Below w.heap.size w W->(W.cell? ⟨mb,j+i*8,none⟩=some (.string m1)/\W.cell? ⟨mb,j+i*8+1,none⟩=some (.string m2)/\W.cell? ⟨mb,j+i*8+2,none⟩=some (.string m3)/\W.cell? ⟨mb,j+i*8+3,none⟩=some (.string D)/\W.cell? ⟨mb,j+i*8+4,none⟩=some (.int .i64 G)/\W.cell? ⟨mb,j+i*8+5,none⟩=some (.int .i64 I)/\W.cell? ⟨mb,j+i*8+6,none⟩=some (.bool J)/\W.cell? ⟨mb,j+i*8+7,none⟩=some (.slice K y.length M)/\Below w.heap.size w W)) (hA:X4 a) (a1:a.small ⟨m1,m2,m3,D,G,I,J,y⟩) (hx:Jn w (⟨m1,m2,m3,D,G,I,J,y⟩,(K,y.length,M))):∀ W O,(W.cell? ⟨mb,j+i*8,none⟩=some (.string m1)/\W.cell? ⟨mb,j+i*8+1,none⟩=some (.string m2)/\W.cell? ⟨mb,j+i*8+2,none⟩=some (.string m3)/\W.cell? ⟨mb,j+i*8+3,none⟩=some (.string D)/\W.cell? ⟨mb,j+i*8+4,none⟩=some (.int .i64 G)/\W.cell? ⟨mb,j+i*8+5,none⟩=some (.int .i64 I)/\W.cell? ⟨mb,j+i*8+6,none⟩=some (.bool J)/\W.cell? ⟨mb,j+i*8+7,none⟩=some (.slice K y.length M)/\Below w.heap.size w W)->Hid (pD w20.heap.size W O (a.aD ⟨m1,m2,m3,D,G,I,J,y⟩).2/\Qo Ck w.heap.size B h ab nv w20.heap.size W a (a.aD ⟨m1,m2,m3,D,G,I,J,y⟩).1)->Calls prog 20 #[.pointer (some ⟨ab,0,none⟩),.agg #[.string m1,.string m2,.string m3,.string D,.int .i64 G,.int .i64 I,.bool J,.slice K y.length M]] W fun e w'=>∃ N Q,e=.returned (.slice N (a.aD ⟨m1,m2,m3,D,G,I,J,y⟩).2.length Q)/\Hid ((mN w' N (a.aD ⟨m1,m2,m3,D,G,I,J,y⟩).2/\mN w' O (a.aD ⟨m1,m2,m3,D,G,I,J,y⟩).2)/\Qo Ck w.heap.size B h ab nv w'.heap.size w' (a.aD ⟨m1,m2,m3,D,G,I,J,y⟩).1 (a.aD ⟨m1,m2,m3,D,G,I,J,y⟩).1)/\(w'.cell? ⟨mb,j+i*8,none⟩=some (.string m1)/\w'.cell? ⟨mb,j+i*8+1,none⟩=some (.string m2)/\w'.cell? ⟨mb,j+i*8+2,none⟩=some (.string m3)/\w'.cell? ⟨mb,j+i*8+3,none⟩=some (.string D)/\w'.cell? ⟨mb,j+i*8+4,none⟩=some (.int .i64 G)/\w'.cell? ⟨mb,j+i*8+5,none⟩=some (.int .i64 I)/\w'.cell? ⟨mb,j+i*8+6,none⟩=some (.bool J)/\w'.cell? ⟨mb,j+i*8+7,none⟩=some (.slice K y.length M)/\Below w.heap.size w w'):=by
 intro W O Y U
 refine (Jc3 hO rfl Y.2.2.2.2.2.2.2.2 (⟨m1,m2,m3,D,G,I,J,y⟩,(K,y.length,M)) hA hx a1 U.out.1 U.out.2).mono fun e w' Z=>?_
 obtain ⟨N,Q,e1,e2,e3,e4⟩:=Z
 exact ⟨N,Q,e1,⟨e2,e3⟩,a0 w' e4⟩
theorem JdJ  {D:Za} {y:List Zb} {O:ByteArray} {Q U:Int} {Y:Bool} {Z:List Yb} {lq:Option Addr} {lc:Nat} (hO:Yr ad X Ck) (a1:∀ W,Below w.heap.size w W->(W.cell? ⟨mb,j+i*8,none⟩=some (.string m1)/\W.cell? ⟨mb,j+i*8+1,none⟩=some (.string m2)/\W.cell? ⟨mb,j+i*8+2,none⟩=some (.string m3)/\W.cell? ⟨mb,j+i*8+3,none⟩=some (.string O)/\W.cell? ⟨mb,j+i*8+4,none⟩=some (.int .i64 Q)/\W.cell? ⟨mb,j+i*8+5,none⟩=some (.int .i64 U)/\W.cell? ⟨mb,j+i*8+6,none⟩=some (.bool Y)/\W.cell? ⟨mb,j+i*8+7,none⟩=some (.slice lq Z.length lc)/\Below w.heap.size w W)) (hs:y.length<=1000) (hl:∀ m ∈ y,m.L.length<=1000000):∀ W G I J K,(W.cell? ⟨mb,j+i*8,none⟩=some (.string m1)/\W.cell? ⟨mb,j+i*8+1,none⟩=some (.string m2)/\W.cell? ⟨mb,j+i*8+2,none⟩=some (.string m3)/\W.cell? ⟨mb,j+i*8+3,none⟩=some (.string O)/\W.cell? ⟨mb,j+i*8+4,none⟩=some (.int .i64 Q)/\W.cell? ⟨mb,j+i*8+5,none⟩=some (.int .i64 U)/\W.cell? ⟨mb,j+i*8+6,none⟩=some (.bool Y)/\W.cell? ⟨mb,j+i*8+7,none⟩=some (.slice lq Z.length lc)/\Below w.heap.size w W)->Hid ((mN W I y/\mN W G y)/\Qo Ck w.heap.size B h ab nv W.heap.size W D D)->Calls prog 14 #[.slice G y.length J,.slice I y.length K] W fun e w'=>e=.returned (.bool true)/\Hid (Qo Ck w.heap.size B h ab nv w'.heap.size w' D D)/\(w'.cell? ⟨mb,j+i*8,none⟩=some (.string m1)/\w'.cell? ⟨mb,j+i*8+1,none⟩=some (.string m2)/\w'.cell? ⟨mb,j+i*8+2,none⟩=some (.string m3)/\w'.cell? ⟨mb,j+i*8+3,none⟩=some (.string O)/\w'.cell? ⟨mb,j+i*8+4,none⟩=some (.int .i64 Q)/\w'.cell? ⟨mb,j+i*8+5,none⟩=some (.int .i64 U)/\w'.cell? ⟨mb,j+i*8+6,none⟩=some (.bool Y)/\w'.cell? ⟨mb,j+i*8+7,none⟩=some (.slice lq Z.length lc)/\Below w.heap.size w w')/\w'.cell? ⟨ab,13,none⟩=some (.string D.st.word):=by
 intro W G I J K hW M
 refine (Jbk G I y J K W hs hl M.out.1.2 M.out.1.1).mono fun e w' N=>?_
 have a0:=(M.out.2.below hO N.2).up
 exact ⟨N.1,a0,a1 w' (hW.2.2.2.2.2.2.2.2.trans (N.2.mono hW.2.2.2.2.2.2.2.2.size)),a0.wX.1⟩
theorem Jde  {y:Za} {G:ByteArray} {J:Int} {K:Bool} {M:List Yb}  (Z:Yr ad X Ck) (a0:∀ W,Below w.heap.size w W->(W.cell? ⟨mb,j+i*8,none⟩=some (.string m1)/\W.cell? ⟨mb,j+i*8+1,none⟩=some (.string m2)/\W.cell? ⟨mb,j+i*8+2,none⟩=some (.string m3)/\W.cell? ⟨mb,j+i*8+3,none⟩=some (.string G)/\W.cell? ⟨mb,j+i*8+4,none⟩=some (.int .i64 I)/\W.cell? ⟨mb,j+i*8+5,none⟩=some (.int .i64 J)/\W.cell? ⟨mb,j+i*8+6,none⟩=some (.bool K)/\W.cell? ⟨mb,j+i*8+7,none⟩=some (.slice N M.length O)/\Below w.heap.size w W)):∀ W,(W.cell? ⟨mb,j+i*8,none⟩=some (.string m1)/\W.cell? ⟨mb,j+i*8+1,none⟩=some (.string m2)/\W.cell? ⟨mb,j+i*8+2,none⟩=some (.string m3)/\W.cell? ⟨mb,j+i*8+3,none⟩=some (.string G)/\W.cell? ⟨mb,j+i*8+4,none⟩=some (.int .i64 I)/\W.cell? ⟨mb,j+i*8+5,none⟩=some (.int .i64 J)/\W.cell? ⟨mb,j+i*8+6,none⟩=some (.bool K)/\W.cell? ⟨mb,j+i*8+7,none⟩=some (.slice N M.length O)/\Below w.heap.size w W)->Hid (Qo Ck w.heap.size B h ab nv W.heap.size W y y)->Calls prog 30 #[.pointer (some ⟨h,0,none⟩)] W fun e w'=>e=.returned (.string y.st.word)/\Hid (Qo Ck w.heap.size B h ab nv w'.heap.size w' y y)/\(w'.cell? ⟨mb,j+i*8,none⟩=some (.string m1)/\w'.cell? ⟨mb,j+i*8+1,none⟩=some (.string m2)/\w'.cell? ⟨mb,j+i*8+2,none⟩=some (.string m3)/\w'.cell? ⟨mb,j+i*8+3,none⟩=some (.string G)/\w'.cell? ⟨mb,j+i*8+4,none⟩=some (.int .i64 I)/\w'.cell? ⟨mb,j+i*8+5,none⟩=some (.int .i64 J)/\w'.cell? ⟨mb,j+i*8+6,none⟩=some (.bool K)/\w'.cell? ⟨mb,j+i*8+7,none⟩=some (.slice N M.length O)/\Below w.heap.size w w')/\w'.cell? ⟨ab,13,none⟩=some (.string y.st.word):=by
 intro W Q U
 obtain ⟨S,S',_,_,_,_,g1,_⟩:=id U.out
 refine (Z.state g1).mono fun e w' D=>?_
 have Y:=(U.out.below Z D.2).up
 exact ⟨D.1,Y,a0 w' (Q.2.2.2.2.2.2.2.2.trans (D.2.mono Q.2.2.2.2.2.2.2.2.size)),Y.wX.1⟩
theorem JdK  {j:Za} (J:Yr ad X Ck) (M:(j.st=.done/\j.found=true)):∀ W,Below w.heap.size w W->Qo Ck w.heap.size B h ab nv W.heap.size W j j->Calls prog 31 #[.pointer (some ⟨h,0,none⟩)] W fun e w'=>e=.returned (.tuple #[.agg #[.int .i64 j.tag.1,.int .i64 j.tag.2],.string j.text,.bool true])/\(w'.cell? ⟨ab,13,none⟩=some (.string j.st.word)/\w'.cell? ⟨ab,19,none⟩=some (.bool j.found)/\w'.cell? ⟨ab,16,none⟩=some (.int .i64 j.tag.1)/\w'.cell? ⟨ab,17,none⟩=some (.int .i64 j.tag.2)/\w'.cell? ⟨ab,18,none⟩=some (.string j.text))/\Qo Ck w.heap.size B h ab nv w'.heap.size w' j j/\Below w.heap.size w w':=by
 intro W D G
 obtain ⟨S,S',_,_,_,_,K,_⟩:=id G
 refine (J.answer K).mono fun e w' y=>?_
 have I:=(G.below J y.2).up
 refine ⟨?_,I.wX,I,D.trans (y.2.mono D.size)⟩
 rw [y.1,if_pos M]
theorem JdL  {j:Za} (J:Yr ad X Ck) (M:¬ (j.st=.done/\j.found=true)):∀ W,Below w.heap.size w W->Qo Ck w.heap.size B h ab nv W.heap.size W j j->Calls prog 31 #[.pointer (some ⟨h,0,none⟩)] W fun e w'=>e=.returned (.tuple #[.agg #[.int .i64 0,.int .i64 0],.string ⟨#[]⟩,.bool false])/\(w'.cell? ⟨ab,13,none⟩=some (.string j.st.word)/\w'.cell? ⟨ab,19,none⟩=some (.bool j.found)/\w'.cell? ⟨ab,16,none⟩=some (.int .i64 j.tag.1)/\w'.cell? ⟨ab,17,none⟩=some (.int .i64 j.tag.2)/\w'.cell? ⟨ab,18,none⟩=some (.string j.text))/\Qo Ck w.heap.size B h ab nv w'.heap.size w' j j/\Below w.heap.size w w':=by
 intro W D G
 obtain ⟨S,S',_,_,_,_,K,_⟩:=id G
 refine (J.answer K).mono fun e w' y=>?_
 have I:=(G.below J y.2).up
 refine ⟨?_,I.wX,I,D.trans (y.2.mono D.size)⟩
 rw [y.1,if_neg M]
theorem Jdf :s.word=⟨#[100,111,110,101]⟩↔s=.done:=by cases s <;> simp [St.word] <;> decide
theorem JcO (h:s≠.done):¬ s.word.toList=[100,111,110,101]:=by cases s <;> first | exact absurd rfl h | decide +kernel
theorem Jd8   {lp:Option Addr} (hO:Yr ad X Ck) (hG:∀ V:World,w.heap.size<=V.heap.size->(∀ k,k < w.heap.size->V.heap[k]?=w.heap[k]?)->Zp V ad/\X V) (b4:mN w lp l) (b5:∀ m ∈ l,∀ v ∈ m.L,Jt v) (d2:Xi l < 6000) (b6:i < l.length) (hA:X4 a) (d3:Zm a.L.flatten<=Xi (l.take i)):∃ (mb j:Nat) (m1 m2 m3 D:ByteArray) (G I:Int) (J:Bool) (y:List Yb) (M:Option Addr) (N:Nat) (K:Za) (U:List Zb) (rl:Nat) (sw:ByteArray) (fd:Bool) (t1 t2:Int) (tx:ByteArray),lp=some ⟨mb,j,none⟩/\Hid (∀ W,Below w.heap.size w W->(W.cell? ⟨mb,j+i*8,none⟩=some (.string m1)/\W.cell? ⟨mb,j+i*8+1,none⟩=some (.string m2)/\W.cell? ⟨mb,j+i*8+2,none⟩=some (.string m3)/\W.cell? ⟨mb,j+i*8+3,none⟩=some (.string D)/\W.cell? ⟨mb,j+i*8+4,none⟩=some (.int .i64 G)/\W.cell? ⟨mb,j+i*8+5,none⟩=some (.int .i64 I)/\W.cell? ⟨mb,j+i*8+6,none⟩=some (.bool J)/\W.cell? ⟨mb,j+i*8+7,none⟩=some (.slice M y.length N)/\Below w.heap.size w W))/\Hid (∀ W,(W.cell? ⟨mb,j+i*8,none⟩=some (.string m1)/\W.cell? ⟨mb,j+i*8+1,none⟩=some (.string m2)/\W.cell? ⟨mb,j+i*8+2,none⟩=some (.string m3)/\W.cell? ⟨mb,j+i*8+3,none⟩=some (.string D)/\W.cell? ⟨mb,j+i*8+4,none⟩=some (.int .i64 G)/\W.cell? ⟨mb,j+i*8+5,none⟩=some (.int .i64 I)/\W.cell? ⟨mb,j+i*8+6,none⟩=some (.bool J)/\W.cell? ⟨mb,j+i*8+7,none⟩=some (.slice M y.length N)/\Below w.heap.size w W)->Hid (Qo Ck w.heap.size B h ab nv w20.heap.size W a a)->Calls prog 19 #[.agg #[.string m1,.string m2,.string m3,.string D,.int .i64 G,.int .i64 I,.bool J,.slice M y.length N]] W fun e w'=>∃ q d,e=.returned (.agg #[.string m1,.string m2,.string m3,.string D,.int .i64 G,.int .i64 I,.bool J,.slice q y.length d])/\Hid (Jn w' (⟨m1,m2,m3,D,G,I,J,y⟩,(q,y.length,d))/\Jbt Ck w.heap.size B h ab nv w20.heap.size w' a a q)/\(w'.cell? ⟨mb,j+i*8,none⟩=some (.string m1)/\w'.cell? ⟨mb,j+i*8+1,none⟩=some (.string m2)/\w'.cell? ⟨mb,j+i*8+2,none⟩=some (.string m3)/\w'.cell? ⟨mb,j+i*8+3,none⟩=some (.string D)/\w'.cell? ⟨mb,j+i*8+4,none⟩=some (.int .i64 G)/\w'.cell? ⟨mb,j+i*8+5,none⟩=some (.int .i64 I)/\w'.cell? ⟨mb,j+i*8+6,none⟩=some (.bool J)/\w'.cell? ⟨mb,j+i*8+7,none⟩=some (.slice M y.length N)/\Below w.heap.size w w'))/\Hid (∀ W q d,(W.cell? ⟨mb,j+i*8,none⟩=some (.string m1)/\W.cell? ⟨mb,j+i*8+1,none⟩=some (.string m2)/\W.cell? ⟨mb,j+i*8+2,none⟩=some (.string m3)/\W.cell? ⟨mb,j+i*8+3,none⟩=some (.string D)/\W.cell? ⟨mb,j+i*8+4,none⟩=some (.int .i64 G)/\W.cell? ⟨mb,j+i*8+5,none⟩=some (.int .i64 I)/\W.cell? ⟨mb,j+i*8+6,none⟩=some (.bool J)/\W.cell? ⟨mb,j+i*8+7,none⟩=some (.slice M y.length N)/\Below w.heap.size w W)->Hid (Jn W (⟨m1,m2,m3,D,G,I,J,y⟩,(q,y.length,d))/\Jbt Ck w.heap.size B h ab nv w20.heap.size W a a q)->Calls prog 29 #[.pointer (some ⟨h,0,none⟩),.agg #[.string m1,.string m2,.string m3,.string D,.int .i64 G,.int .i64 I,.bool J,.slice q y.length d]] W fun e w'=>∃ O c',e=.returned (.slice O rl c')/\Hid (pD w20.heap.size w' O U/\Qo Ck w.heap.size B h ab nv w20.heap.size w' a K)/\(w'.cell? ⟨mb,j+i*8,none⟩=some (.string m1)/\w'.cell? ⟨mb,j+i*8+1,none⟩=some (.string m2)/\w'.cell? ⟨mb,j+i*8+2,none⟩=some (.string m3)/\w'.cell? ⟨mb,j+i*8+3,none⟩=some (.string D)/\w'.cell? ⟨mb,j+i*8+4,none⟩=some (.int .i64 G)/\w'.cell? ⟨mb,j+i*8+5,none⟩=some (.int .i64 I)/\w'.cell? ⟨mb,j+i*8+6,none⟩=some (.bool J)/\w'.cell? ⟨mb,j+i*8+7,none⟩=some (.slice M y.length N)/\Below w.heap.size w w'))/\Hid (∀ W O c',(W.cell? ⟨mb,j+i*8,none⟩=some (.string m1)/\W.cell? ⟨mb,j+i*8+1,none⟩=some (.string m2)/\W.cell? ⟨mb,j+i*8+2,none⟩=some (.string m3)/\W.cell? ⟨mb,j+i*8+3,none⟩=some (.string D)/\W.cell? ⟨mb,j+i*8+4,none⟩=some (.int .i64 G)/\W.cell? ⟨mb,j+i*8+5,none⟩=some (.int .i64 I)/\W.cell? ⟨mb,j+i*8+6,none⟩=some (.bool J)/\W.cell? ⟨mb,j+i*8+7,none⟩=some (.slice M y.length N)/\Below w.heap.size w W)->Hid (pD w20.heap.size W O U/\Qo Ck w.heap.size B h ab nv w20.heap.size W a K)->Calls prog 15 #[.slice O rl c'] W fun e w'=>∃ Y d',e=.returned (.slice Y rl d')/\Hid (pD w20.heap.size w' Y U/\Qo Ck w.heap.size B h ab nv w20.heap.size w' a K)/\(w'.cell? ⟨mb,j+i*8,none⟩=some (.string m1)/\w'.cell? ⟨mb,j+i*8+1,none⟩=some (.string m2)/\w'.cell? ⟨mb,j+i*8+2,none⟩=some (.string m3)/\w'.cell? ⟨mb,j+i*8+3,none⟩=some (.string D)/\w'.cell? ⟨mb,j+i*8+4,none⟩=some (.int .i64 G)/\w'.cell? ⟨mb,j+i*8+5,none⟩=some (.int .i64 I)/\w'.cell? ⟨mb,j+i*8+6,none⟩=some (.bool J)/\w'.cell? ⟨mb,j+i*8+7,none⟩=some (.slice M y.length N)/\Below w.heap.size w w'))/\Hid (∀ W O,(W.cell? ⟨mb,j+i*8,none⟩=some (.string m1)/\W.cell? ⟨mb,j+i*8+1,none⟩=some (.string m2)/\W.cell? ⟨mb,j+i*8+2,none⟩=some (.string m3)/\W.cell? ⟨mb,j+i*8+3,none⟩=some (.string D)/\W.cell? ⟨mb,j+i*8+4,none⟩=some (.int .i64 G)/\W.cell? ⟨mb,j+i*8+5,none⟩=some (.int .i64 I)/\W.cell? ⟨mb,j+i*8+6,none⟩=some (.bool J)/\W.cell? ⟨mb,j+i*8+7,none⟩=some (.slice M y.length N)/\Below w.heap.size w W)->Hid (pD w20.heap.size W O U/\Qo Ck w.heap.size B h ab nv w20.heap.size W a K)->Calls prog 20 #[.pointer (some ⟨ab,0,none⟩),.agg #[.string m1,.string m2,.string m3,.string D,.int .i64 G,.int .i64 I,.bool J,.slice M y.length N]] W fun e w'=>∃ Y d',e=.returned (.slice Y rl d')/\Hid ((mN w' Y U/\mN w' O U)/\Qo Ck w.heap.size B h ab nv w'.heap.size w' K K)/\(w'.cell? ⟨mb,j+i*8,none⟩=some (.string m1)/\w'.cell? ⟨mb,j+i*8+1,none⟩=some (.string m2)/\w'.cell? ⟨mb,j+i*8+2,none⟩=some (.string m3)/\w'.cell? ⟨mb,j+i*8+3,none⟩=some (.string D)/\w'.cell? ⟨mb,j+i*8+4,none⟩=some (.int .i64 G)/\w'.cell? ⟨mb,j+i*8+5,none⟩=some (.int .i64 I)/\w'.cell? ⟨mb,j+i*8+6,none⟩=some (.bool J)/\w'.cell? ⟨mb,j+i*8+7,none⟩=some (.slice M y.length N)/\Below w.heap.size w w'))/\Hid (∀ W O Y c' d',(W.cell? ⟨mb,j+i*8,none⟩=some (.string m1)/\W.cell? ⟨mb,j+i*8+1,none⟩=some (.string m2)/\W.cell? ⟨mb,j+i*8+2,none⟩=some (.string m3)/\W.cell? ⟨mb,j+i*8+3,none⟩=some (.string D)/\W.cell? ⟨mb,j+i*8+4,none⟩=some (.int .i64 G)/\W.cell? ⟨mb,j+i*8+5,none⟩=some (.int .i64 I)/\W.cell? ⟨mb,j+i*8+6,none⟩=some (.bool J)/\W.cell? ⟨mb,j+i*8+7,none⟩=some (.slice M y.length N)/\Below w.heap.size w W)->Hid ((mN W Y U/\mN W O U)/\Qo Ck w.heap.size B h ab nv W.heap.size W K K)->Calls prog 14 #[.slice O rl c',.slice Y rl d'] W fun e w'=>e=.returned (.bool true)/\Hid (Qo Ck w.heap.size B h ab nv w'.heap.size w' K K)/\(w'.cell? ⟨mb,j+i*8,none⟩=some (.string m1)/\w'.cell? ⟨mb,j+i*8+1,none⟩=some (.string m2)/\w'.cell? ⟨mb,j+i*8+2,none⟩=some (.string m3)/\w'.cell? ⟨mb,j+i*8+3,none⟩=some (.string D)/\w'.cell? ⟨mb,j+i*8+4,none⟩=some (.int .i64 G)/\w'.cell? ⟨mb,j+i*8+5,none⟩=some (.int .i64 I)/\w'.cell? ⟨mb,j+i*8+6,none⟩=some (.bool J)/\w'.cell? ⟨mb,j+i*8+7,none⟩=some (.slice M y.length N)/\Below w.heap.size w w')/\w'.cell? ⟨ab,13,none⟩=some (.string sw))/\Hid (∀ W,(W.cell? ⟨mb,j+i*8,none⟩=some (.string m1)/\W.cell? ⟨mb,j+i*8+1,none⟩=some (.string m2)/\W.cell? ⟨mb,j+i*8+2,none⟩=some (.string m3)/\W.cell? ⟨mb,j+i*8+3,none⟩=some (.string D)/\W.cell? ⟨mb,j+i*8+4,none⟩=some (.int .i64 G)/\W.cell? ⟨mb,j+i*8+5,none⟩=some (.int .i64 I)/\W.cell? ⟨mb,j+i*8+6,none⟩=some (.bool J)/\W.cell? ⟨mb,j+i*8+7,none⟩=some (.slice M y.length N)/\Below w.heap.size w W)->Hid (Qo Ck w.heap.size B h ab nv W.heap.size W K K)->Calls prog 30 #[.pointer (some ⟨h,0,none⟩)] W fun e w'=>e=.returned (.string sw)/\Hid (Qo Ck w.heap.size B h ab nv w'.heap.size w' K K)/\(w'.cell? ⟨mb,j+i*8,none⟩=some (.string m1)/\w'.cell? ⟨mb,j+i*8+1,none⟩=some (.string m2)/\w'.cell? ⟨mb,j+i*8+2,none⟩=some (.string m3)/\w'.cell? ⟨mb,j+i*8+3,none⟩=some (.string D)/\w'.cell? ⟨mb,j+i*8+4,none⟩=some (.int .i64 G)/\w'.cell? ⟨mb,j+i*8+5,none⟩=some (.int .i64 I)/\w'.cell? ⟨mb,j+i*8+6,none⟩=some (.bool J)/\w'.cell? ⟨mb,j+i*8+7,none⟩=some (.slice M y.length N)/\Below w.heap.size w w')/\w'.cell? ⟨ab,13,none⟩=some (.string sw))/\((Hid (sw=⟨#[100,111,110,101]⟩/\fd=true)/\Hid (∀ W,Below w.heap.size w W->Qo Ck w.heap.size B h ab nv W.heap.size W K K->Calls prog 31 #[.pointer (some ⟨h,0,none⟩)] W fun e w'=>e=.returned (.tuple #[.agg #[.int .i64 t1,.int .i64 t2],.string tx,.bool true])/\(w'.cell? ⟨ab,13,none⟩=some (.string sw)/\w'.cell? ⟨ab,19,none⟩=some (.bool fd)/\w'.cell? ⟨ab,16,none⟩=some (.int .i64 t1)/\w'.cell? ⟨ab,17,none⟩=some (.int .i64 t2)/\w'.cell? ⟨ab,18,none⟩=some (.string tx))/\Qo Ck w.heap.size B h ab nv w'.heap.size w' K K/\Below w.heap.size w w'))∨(Hid (¬ sw.toList=[100,111,110,101]∨fd=false)/\Hid (∀ W,Below w.heap.size w W->Qo Ck w.heap.size B h ab nv W.heap.size W K K->Calls prog 31 #[.pointer (some ⟨h,0,none⟩)] W fun e w'=>e=.returned (.tuple #[.agg #[.int .i64 0,.int .i64 0],.string ⟨#[]⟩,.bool false])/\(w'.cell? ⟨ab,13,none⟩=some (.string sw)/\w'.cell? ⟨ab,19,none⟩=some (.bool fd)/\w'.cell? ⟨ab,16,none⟩=some (.int .i64 t1)/\w'.cell? ⟨ab,17,none⟩=some (.int .i64 t2)/\w'.cell? ⟨ab,18,none⟩=some (.string tx))/\Qo Ck w.heap.size B h ab nv w'.heap.size w' K K/\Below w.heap.size w w')))/\Hid (X4 K)/\Hid (Zm K.L.flatten<=Xi (l.take (i+1))):=by
 obtain ⟨ml,a5,a8,a9⟩:=b4
 have a1:i < ml.length:=by rw [<- List.length_map (f:=Prod.fst),a5];exact b6
 obtain ⟨mb,j,b0,Z,t0,t1,t2,t3,t4,t5,t6,t7⟩:=WB a8 a1
 have a6:l[i]?=some (JN ml i).1:=by rw [<- a5,List.getElem?_map,List.getElem?_eq_getElem a1,rR a1];rfl
 have a7:=b5 _ (List.mem_of_getElem? a6)
 have a2:=a9 _ (vV a1)
 rw [rR a1] at t0 t1 t2 t3 t4 t5 t6 t7
 have b7:=JbE a6
 have d0:=JbU l (i+1)
 have d1:=Jc4 a (JN ml i).1
 generalize JN ml i=x at *
 obtain ⟨⟨m1,m2,m3,D,G,I,J,y⟩,M,ln,N⟩:=x
 have b1:ln=y.length:=a2.len
 subst b1
 dsimp only at *
 have a3:a.small ⟨m1,m2,m3,D,G,I,J,y⟩:=Jef (by omega)
 have b2:Zm (a.aD ⟨m1,m2,m3,D,G,I,J,y⟩).1.L.flatten<=Xi (l.take (i+1)):=by omega
 have b3:y.length<=1000:=(EM a3).2.1
 have a0:∀ W,Below w.heap.size w W->(W.cell? ⟨mb,j+i*8,none⟩=some (.string m1)/\W.cell? ⟨mb,j+i*8+1,none⟩=some (.string m2)/\W.cell? ⟨mb,j+i*8+2,none⟩=some (.string m3)/\W.cell? ⟨mb,j+i*8+3,none⟩=some (.string D)/\W.cell? ⟨mb,j+i*8+4,none⟩=some (.int .i64 G)/\W.cell? ⟨mb,j+i*8+5,none⟩=some (.int .i64 I)/\W.cell? ⟨mb,j+i*8+6,none⟩=some (.bool J)/\W.cell? ⟨mb,j+i*8+7,none⟩=some (.slice M y.length N)/\Below w.heap.size w W):=fun W Q=>⟨(Q.cell (p:=⟨mb,j+i*8,none⟩) Z).trans t0,(Q.cell (p:=⟨mb,j+i*8+1,none⟩) Z).trans t1,(Q.cell (p:=⟨mb,j+i*8+2,none⟩) Z).trans t2,(Q.cell (p:=⟨mb,j+i*8+3,none⟩) Z).trans t3,(Q.cell (p:=⟨mb,j+i*8+4,none⟩) Z).trans t4,(Q.cell (p:=⟨mb,j+i*8+5,none⟩) Z).trans t5,(Q.cell (p:=⟨mb,j+i*8+6,none⟩) Z).trans t6,(Q.cell (p:=⟨mb,j+i*8+7,none⟩) Z).trans t7,Q⟩
 have a4:=JcN ⟨m1,m2,m3,D,G,I,J,y⟩ hA
 refine ⟨mb,j,m1,m2,m3,D,G,I,J,y,M,N,(a.aD ⟨m1,m2,m3,D,G,I,J,y⟩).1,(a.aD ⟨m1,m2,m3,D,G,I,J,y⟩).2,_,_,(a.aD ⟨m1,m2,m3,D,G,I,J,y⟩).1.found,(a.aD ⟨m1,m2,m3,D,G,I,J,y⟩).1.tag.1,(a.aD ⟨m1,m2,m3,D,G,I,J,y⟩).1.tag.2,(a.aD ⟨m1,m2,m3,D,G,I,J,y⟩).1.text,b0,a0,JdG hO a0 b3 a2,JdH hO a0 hG a3 a7,JdI hO a0 a4.1,Jdd hO a0 hA a3 a2,JdJ hO a0 a4.1 a4.2,Jde hO a0,?_,Jdp hA _ a7,b2⟩
 ·by_cases hc:(a.aD ⟨m1,m2,m3,D,G,I,J,y⟩).1.st=.done/\(a.aD ⟨m1,m2,m3,D,G,I,J,y⟩).1.found=true
  ·exact Or.inl ⟨⟨Jdf.2 hc.1,hc.2⟩,JdK hO hc⟩
  ·refine Or.inr ⟨?_,JdL hO hc⟩
   by_cases h1:(a.aD ⟨m1,m2,m3,D,G,I,J,y⟩).1.st=.done
   ·exact Or.inr (by simpa [h1] using hc)
   ·exact Or.inl (JcO h1)
end
end Go.Proofs.YtmikbldbfnlfjaaGreatDoor
