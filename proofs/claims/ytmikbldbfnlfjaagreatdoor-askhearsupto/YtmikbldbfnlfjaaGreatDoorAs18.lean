/- Texts laid together. -/
import Derived.Test.YtmikbldbfnlfjaaGreatDoorAs17
import Derived.Deep.WholeRow
set_option maxRecDepth 10000
set_option maxHeartbeats 16000000
namespace Go.Proofs.YtmikbldbfnlfjaaGreatDoor
open Go.Proofs.Tryz
open Go.RowKit
variable {a:Za}{w W D V:World}{B h I mb j y:Nat}{S:Nat->Prop}{who op config:Int}{ad:Nat->Addr}{nm key:ByteArray}{c:Xg}{b:eT}{p:Option Addr}{l:List Zb}
def Qw (w:World) (B:Nat) (h:Nat) (S:Nat->Prop) (a:Za):Prop:=ZR 95 w B h S a/\JU a
theorem P2 (h:JU a) (m:Zb) (G:∀ v ∈ m.L,Jt v):JU (a.aD m).1:=by
 by_cases j:a.aM m=true
 ·cases D:m.shut with
  | true =>
   rw [qQ j D h.st]
   exact h.ended (Or.inr rfl)
  | false =>
   have y:=h.heard j G
   rcases (EB h.st j).1 with e | e
   ·rw [H8 j D e]
    unfold fU
    split
    ·exact y
    ·split
     ·exact (y.found e).ended (Or.inl rfl)
     ·exact (y.found e).keeps (by simp_all)
   ·rw [uB j D e]
    split
    ·exact y
    ·exact y.ended (Or.inl rfl)
 ·rw [pW (Bool.eq_false_iff.2 j)]
  exact h
theorem CL   (G:Qw w B h S a):Calls prog 21 #[.pointer (some ⟨h,0,none⟩)] w fun e w'=>e=.returned (.string a.st.word)/\Below w.heap.size w w':=by
 obtain ⟨⟨_,_,_,_,_,_,_,_,_,_,j⟩,_⟩:=G
 have y:=CU j
 clear j
 generalize a.st.word=I at *
 go_enter func21,ntmps21
 go_wp2_with fail
 refine y.mono ?_
 rintro e J ⟨rfl,D⟩
 go_wp2
 go_ret
 exact ⟨rfl,D⟩
theorem AR   (hc:Qw w B h S a):Calls prog 22 #[.pointer (some ⟨h,0,none⟩)] w fun e w'=>e=.returned (if a.st=.done/\a.found=true then .tuple #[.agg #[.int .i64 a.tag.1,.int .i64 a.tag.2],.string a.text,.bool true] else .tuple #[.agg #[.int .i64 0,.int .i64 0],.string ⟨#[]⟩,.bool false])/\Below w.heap.size w w':=by
 obtain ⟨⟨_,_,_,_,_,_,_,_,_,_,Q⟩,_⟩:=hc
 obtain ⟨j,y⟩:∃ j,j=w.alloc (.cells #[.int .i64 0,.int .i64 0] 46):=⟨_,rfl⟩
 have G:Below w.heap.size w j:=by rw [y];exact (Below.refl _ _).alloc (Nat.le_refl _) _
 have U:w.heap.size < j.heap.size:=by rw [y];simp
 have W:j.heap[w.heap.size]?=some (.cells #[.int .i64 0,.int .i64 0] 46 (0,0)):=by
  rw [y]
  show (w.heap.push _)[w.heap.size]?=_
  simp
 have N:=JlK (Q.below G)
 obtain ⟨I,J,K,M,X⟩:∃ I J K M,(if a.st=.done/\a.found=true then (.tuple #[.agg #[.int .i64 a.tag.1,.int .i64 a.tag.2],.string a.text,.bool true]:Value) else .tuple #[.agg #[.int .i64 0,.int .i64 0],.string ⟨#[]⟩,.bool false])=.tuple #[.agg #[.int .i64 I,.int .i64 J],.string K,.bool M]:=by
  split
  ·exact ⟨_,_,_,_,rfl⟩
  ·exact ⟨_,_,_,_,rfl⟩
 rw [X] at N ⊢
 have Y:Hid (Calls prog 51 #[.pointer (some ⟨h,0,none⟩)] j fun e w'=>e=.returned (.tuple #[.agg #[.int .i64 I,.int .i64 J],.string K,.bool M])/\Hid (Below w.heap.size w w')/\w'.heap[w.heap.size]?=some (.cells #[.int .i64 0,.int .i64 0] 46 (0,0))):=N.mono fun e w' O=>⟨O.1,G.trans (O.2.mono G.size),(O.2.block _ U).trans W⟩
 have Z:Hid (j=w.alloc (.cells #[.int .i64 0,.int .i64 0] 46)):=y
 clear Q y G U W N X
 go_enter func22,ntmps22
 go_wp2_with (first | rw [<- Z.out] | fail)
 refine Y.out.mono ?_
 rintro e w2 ⟨rfl,a0,D⟩
 have k0:=(Jb D 0).1
 have k1:=(Jb D 1).1
 have f0:=(Jb D 0).2
 have f1:=(Jb D 1).2
 clear Y D
 go_wp2
 exact bodyPost_ret (v:=.tuple #[.agg #[.int .i64 I,.int .i64 J],.string K,.bool M]) (by simp [results,results22,go_sem,k0,k1]) rfl ⟨rfl,(a0.out.setCell (Nat.le_refl _) _).setCell (Nat.le_refl _) _⟩
theorem yJ   (W:Qw w B h S a):Calls prog 16 #[.pointer (some ⟨h,0,none⟩)] w fun e w'=>(∃ p c,e=.returned (.slice p a.begin.length c)/\QE c w.heap.size w' p a.begin)/\Below w.heap.size w w':=by
 obtain ⟨⟨X,P,F,T,asks,Y,Z,m,D,row,j⟩,G⟩:=W
 have y:=G.still
 have I:a.begin=gZ a F asks:=by
  obtain ⟨M,N⟩:=j.fF.sJ y
  have J:=j.fF.kind
  rw [y] at J
  unfold Za.begin gZ Za.send
  rw [y,M,N,J]
  rfl
 rw [I]
 have K:=KA j
 clear j I y G
 generalize gZ a F asks=R at *
 go_enter func16,ntmps16
 go_wp2_with fail
 refine K.mono ?_
 rintro e w2 ⟨⟨O,c2,rfl,Q⟩,U⟩
 clear K
 go_wp2
 go_ret
 exact ⟨⟨O,c2,rfl,Q⟩,U⟩
theorem NF  (m1 m2 m3 y:ByteArray) (D G:Int) (I:Bool) (J:Option Addr) (K M:Nat) {Q:Ending->World->Prop} (U:Calls prog 44 #[.pointer (some ⟨h,0,none⟩),.agg #[.string m1,.string m2,.string m3,.string y,.int .i64 D,.int .i64 G,.bool I,.slice J K M]] (w.alloc (.cells #[.string m1,.string m2,.string m3,.string y,.int .i64 D,.int .i64 G,.bool I,.slice J K M] 57)).drew fun e w'=>(∃ p n c,e=.returned (.slice p n c))/\Q e w') :
 Calls prog 18 #[.pointer (some ⟨h,0,none⟩),.agg #[.string m1,.string m2,.string m3,.string y,.int .i64 D,.int .i64 G,.bool I,.slice J K M]] w Q:=by
 obtain ⟨N,O⟩:∃ N,N=w.alloc (.cells #[.string m1,.string m2,.string m3,.string y,.int .i64 D,.int .i64 G,.bool I,.slice J K M] 57):=⟨_,rfl⟩
 rw [<- O] at U
 have j:N.heap[w.heap.size]?=some (.cells #[.string m1,.string m2,.string m3,.string y,.int .i64 D,.int .i64 G,.bool I,.slice J K M] 57 (0,0)):=by
  rw [O]
  show (w.heap.push _)[w.heap.size]?=_
  simp
 have W:=(Jb j 0).1
 have X:=(Jb j 1).1
 have Y:=(Jb j 2).1
 have Z:=(Jb j 3).1
 have g4:=(Jb j 4).1
 have g5:=(Jb j 5).1
 have g6:=(Jb j 6).1
 have g7:=(Jb j 7).1
 have a0:Hid (N=w.alloc (.cells #[.string m1,.string m2,.string m3,.string y,.int .i64 D,.int .i64 G,.bool I,.slice J K M] 57)):=O
 clear O j
 go_enter func18,ntmps18
 go_wp2
 rw [<- a0.out]
 refine wp_region_still_tail 4 (by kernel_rfl) (by kernel_rfl) ?_
 simp only [List.take_succ_cons,List.take_zero,List.drop_succ_cons,List.drop_zero]
 still_step
 still_step
 still_step
 still_step
 refine wpStill_nil ?_
 go_wp2_with fail
 refine U.mono ?_
 rintro e w3 ⟨⟨p3,n3,c3,rfl⟩,a1⟩
 clear U W X Y Z g4 g5 g6 g7
 go_wp2
 exact a1
theorem EK (ad:Nat->Addr)   (hc:Qw w B h S a) (x:Zb×Lv) (hL:Jn w x) (a1:a.small x.1) (Z:∀ v ∈ x.1.L,Jt v) (hG:∀ W:World,w.heap.size<=W.heap.size->(∀ k,k < w.heap.size->¬ S k->W.heap[k]?=w.heap[k]?)->Zp W ad/\∃ z,W.cell? ⟨11,0,none⟩=some (.iface 252 (.pointer (some z)))) :
 Calls prog 18 #[.pointer (some ⟨h,0,none⟩),Z1 x.1 (fI x.2)] w fun e w'=>∃ S':Nat->Prop,(∃ p c,e=.returned (.slice p (a.aD x.1).2.length c)/\Qp c (fun b=>w.heap.size<=b/\b < w'.heap.size/\¬ S' b) w' p (a.aD x.1).2)/\Qw w' B h S' (a.aD x.1).1/\Yd S S' w w':=by
 obtain ⟨⟨S0,P,F,T,asks,cv,aw,m,D,row,hp⟩,Q⟩:=hc
 obtain ⟨⟨m1,m2,m3,y,G,I,J,mL⟩,K,M,N⟩:=x
 refine NF m1 m2 m3 y G I J K M N ?_
 have j:Below w.heap.size w (w.alloc (.cells #[.string m1,.string m2,.string m3,.string y,.int .i64 G,.int .i64 I,.bool J,.slice K M N] 57)).drew:=((Below.refl _ _).alloc (Nat.le_refl _) _).drew
 generalize (w.alloc (.cells #[.string m1,.string m2,.string m3,.string y,.int .i64 G,.int .i64 I,.bool J,.slice K M N] 57)).drew=w2 at *
 have:=E6 ad (hp.below j) (⟨m1,m2,m3,y,G,I,J,mL⟩,(K,M,N)) (fun _ O=>absurd O Q.st) (hL.below j) a1 Z (fun W hs hk=>hG W (Nat.le_trans j.size hs) (fun k U a0=>(hk k (Nat.lt_of_lt_of_le U j.size) a0).trans (j.block k U)))
 refine this.mono fun e w' hq=>?_
 obtain ⟨S',⟨p,c,X,e2⟩,O,h3⟩:=hq
 exact ⟨⟨p,_,c,X⟩,S',⟨p,c,X,e2.mono (fun b Y=>⟨Nat.le_trans j.size Y.1,Y.2⟩)⟩,⟨O,P2 Q _ Z⟩,h3.since j⟩
theorem IP (y:0<=who) (D:who < 6):(⟨#[99]⟩:ByteArray) ++ ⟨(Lib.itoa who).toArray⟩=JY who:=by
 obtain ⟨i,rfl⟩:∃ i:Nat,who=(i:Int):=⟨who.toNat,by omega⟩
 have j:i < 6:=by omega
 have e:Lib.itoa (i:Int)=[UInt8.ofNat (48+i)]:=by
  unfold Lib.itoa
  rw [if_neg (by omega),Int.toNat_natCast,Lib.decDigits,dif_pos (by omega)]
 rw [e]
 match i,j with
 | 0,_=>decide +kernel
 | 1,_=>decide +kernel
 | 2,_=>decide +kernel
 | 3,_=>decide +kernel
 | 4,_=>decide +kernel
 | 5,_=>decide +kernel
theorem DB (who:Int) (j:Zt who) (w:World) (M:Lib.TabIs prog w "internal/strconv.uint64pow10" .u64 Lib.pow10Tab) :
 Calls prog 56 #[.int .i64 who] w fun e w'=>e=.returned (.string (⟨#[99]⟩ ++ ⟨(Lib.itoa who).toArray⟩))/\Below w.heap.size w w':=by
 have G:=VP who j.1 j.2 w M
 obtain ⟨y,I⟩:∃ y:ByteArray,y=⟨(Lib.itoa who).toArray⟩:=⟨_,rfl⟩
 have J:=VB who j.1 j.2
 rw [<- I] at G J ⊢
 obtain ⟨nm,D⟩:∃ nm:ByteArray,nm=⟨#[99]⟩ ++ y:=⟨_,rfl⟩
 rw [<- D]
 have Q:∀ W:World,Sem.run prog (Op.stringOp .add ⟨#[99]⟩ y) W=.ok (.string nm) W:=fun W=>by
  rw [D]
  exact run_string_add_sum W _ _ (by show 1+_<=_;omega)
 clear I D J M j
 go_enter func56,ntmps56
 go_wp2_with fail
 refine G.mono ?_
 rintro e N ⟨rfl,K⟩
 have O:Hid (Below w.heap.size w N):=K
 clear K
 go_wp2
 go_ret
 exact ⟨rfl,O.out⟩
def ZG (who op config:Int) (c:Xg) (key:ByteArray):Int×Int:=if 0 < (Jg c).1 then Jg c else if Jo key=false then (4,-1) else if 0<=who/\who < 6/\0<=op/\0<=config then (0,-1) else (2,-1)
theorem SI (who op config:Int) (c:Xg) (key:ByteArray):ZG who op config c key=if 0 < (Xz c c key op config config).1 then Xz c c key op config config else if 0<=who/\who < 6 then (0,-1) else (2,-1):=by
 by_cases j:0 < (Jg c).1
 ·have I:ZG who op config c key=Jg c:=if_pos j
  have y:Xz c c key op config config=Jg c:=if_pos j
  rw [I,y,if_pos j]
 ·by_cases G:Jo key=false
  ·have I:ZG who op config c key=(4,-1):=by unfold ZG;rw [if_neg j,if_pos G]
   have y:Xz c c key op config config=(4,-1):=by unfold Xz;rw [if_neg j,if_neg j,if_pos G]
   rw [I,y]
   rfl
  ·by_cases D:0<=op/\0<=config
   ·have y:Xz c c key op config config=(0,-1):=by unfold Xz;rw [if_neg j,if_neg j,if_neg G,if_pos ⟨D.1,D.2,D.2⟩]
    rw [y,if_neg (by decide)]
    unfold ZG
    rw [if_neg j,if_neg G]
    by_cases J:0<=who/\who < 6
    ·rw [if_pos J,if_pos ⟨J.1,J.2,D.1,D.2⟩]
    ·rw [if_neg J,if_neg (fun h=>J ⟨h.1,h.2.1⟩)]
   ·have I:ZG who op config c key=(2,-1):=by unfold ZG;rw [if_neg j,if_neg G,if_neg (fun h=>D ⟨h.2.2.1,h.2.2.2⟩)]
    have y:Xz c c key op config config=(2,-1):=by unfold Xz;rw [if_neg j,if_neg j,if_neg G,if_neg (fun h=>D ⟨h.1,h.2.1⟩)]
    rw [I,y]
    rfl
theorem ZX.off {G:Nat} {f t:Xg} (h:ZX w W G I mb f t) (J:∀ k,k≠j->D.heap[k]?=W.heap[k]?) (N:D.heap.size=W.heap.size) (K:G≠j/\I≠j/\mb≠j):ZX w D G I mb f t :=
 ⟨h.sf.same (by omega) (fun b o e=>J b (by injection e with y;injection y with M;have:=K.1;omega)),h.st.same (by omega) (fun b o e=>J b (by injection e with y;injection y with M;have:=K.2.1;omega)),(J mb K.2.2).trans h.mp,by have:=h.gR;omega,by have:=h.gX;omega,by have:=h.iX;omega,h.ne⟩
def jN (ad:Nat->Addr) (nm key:ByteArray) (op config:Int) (c:Xg) (G:FuncId) (I:Array Value) (V W:World) (cells:Array Value) (D:Value):Prop :=
 (0 < (Xz c c key op config config).1/\cells=Jj/\Jd W ad D (Xz c c key op config config).1 (Xz c c key op config config).2)∨(Xz c c key op config config=(0,-1)/\(¬ 0 < (Jg c).1/\Jo key=true/\0<=op/\0<=config)/\D=.nilIface/\∃ j y mb,cells=Xl nm key op c j config c y config ⟨#[108,111,111,107]⟩ ⟨#[116,111,108,100]⟩ ⟨#[108,111,111,107,105,110,103]⟩ (.func (.func G) #[] I) mb/\ZX V W j y mb c c)
theorem jN.cells   {j:FuncId} {y:Array Value} {cells:Array Value} {D:Value} (h:jN ad nm key op config c j y V W cells D):(prog.info? 93).map (·.size)=some cells.size/\Jj.size=cells.size/\cells.all (·.oneCell')=true:=by
 rcases h with ⟨_,rfl,_⟩ | ⟨_,_,_,G,I,mb,rfl,_⟩
 ·exact ⟨YI,rfl,nQ⟩
 ·exact ⟨nG _ _ _ _ _ _ _ _ _ _ _ _ _ _,rfl,vT _ _ _ _ _ _ _ _ _ _ _ _ _ _ _⟩
theorem jN.below   {G:FuncId} {I:Array Value} {J:World} {cells:Array Value} {K:Value} (h:jN ad nm key op config c G I V W cells K) (M:Below W.heap.size W J):jN ad nm key op config c G I V J cells K:=by
 rcases h with ⟨j,y,D⟩ | ⟨j,y,D,N,O,mb,Q,U⟩
 ·exact Or.inl ⟨j,y,D.below M⟩
 ·exact Or.inr ⟨j,y,D,N,O,mb,Q,U.below M⟩
theorem jN.store   {O:FuncId} {Q:Array Value} {V0:World} {cells:Array Value} {U:Value} (h:jN ad nm key op config c O Q V W cells U) (hb:W.heap[I]?=some (.cells Jj 93 (0,0))) (hv:V0.heap.size<=V.heap.size) (G:I < V.heap.size∨∃ J:World,J.heap.size<=I/\jN ad nm key op config c O Q V J cells U):jN ad nm key op config c O Q V0 (W.setRow I cells) cells U:=by
 obtain ⟨r1,r2,X,r4,r5,r6⟩:=XZ cells hb
 rcases h with ⟨y,K,M⟩ | ⟨y,K,M,Y,Z,mb,h4,D⟩
 ·exact Or.inl ⟨y,K,M.off (Jb hb 0).1 X⟩
 ·refine Or.inr ⟨y,K,M,Y,Z,mb,h4,(D.off X r2 ?_).base hv⟩
  rcases G with G | ⟨J,hw,G⟩
  ·have:=D.gR
   have:=D.gX
   have:=D.iX
   omega
  ·rcases G with ⟨g1,_⟩ | ⟨_,_,_,a0,a4,a5,j,N⟩
   ·rw [y] at g1
    exact absurd g1 (by decide)
   ·rw [h4] at j
    unfold Xl at j
    have e1:Y=a0/\Z=a4/\mb=a5:=by
     injection j with j
     simp only [List.cons.injEq,Value.slice.injEq,Value.map.injEq,Option.some.injEq,Addr.mk.injEq] at j
     obtain ⟨_,_,_,_,_,⟨⟨a1,_⟩,_⟩,_,_,_,a2,_,_,_,_,_,_,⟨⟨a3,_⟩,_⟩,_⟩:=j
     exact ⟨a1,a3,a2⟩
    have:=N.gR
    have:=N.gX
    have:=N.iX
    omega
theorem Jct (ad:Nat->Addr) (who op config:Int) (c:Xg) (p:Option Addr) (a0:Nat) (key:ByteArray) (Q:FuncId) (U:Array Value) (w:World) (hc:Yn w c p a0) (f9:Zt who) (hE:Zp w ad) (hT:Lib.TabIs prog w "internal/strconv.uint64pow10" .u64 Lib.pow10Tab) :
 Calls prog 34 #[.int .i64 who,.int .i64 op,.agg #[.int .i64 c.n,.int .i64 c.k,.slice p c.L.length a0],.int .i64 config,.string key,.func (.func Q) #[] U] w fun e w'=>(∃ M,Jd w' ad M (ZG who op config c key).1 (ZG who op config c key).2/\((0 < (ZG who op config c key).1/\e=.returned (.tuple #[.pointer none,M]))∨(ZG who op config c key=(0,-1)/\∃ h N X mb,e=.returned (.tuple #[.pointer (some ⟨h,0,none⟩),M])/\w'.heap[h]?=some (.cells (Xl (JY who) key op c N config c X config ⟨#[108,111,111,107]⟩ ⟨#[116,111,108,100]⟩ ⟨#[108,111,111,107,105,110,103]⟩ (.func (.func Q) #[] U) mb) 95 (0,0))/\ZX w w' N X mb c c/\(w.heap.size<=h/\h < w'.heap.size)/\h≠N/\h≠X/\h≠mb)))/\Below w.heap.size w w':=by
 obtain ⟨w1,b5⟩:∃ w1,w1=w.alloc (.cells #[.int .i64 c.n,.int .i64 c.k,.slice p c.L.length a0] 24):=⟨_,rfl⟩
 have d8:Below w.heap.size w w1:=by rw [b5];exact (Below.refl _ _).alloc (Nat.le_refl _) _
 have d9:w1.heap.size=w.heap.size+1:=by rw [b5];simp
 have d2:w1.heap[w.heap.size]?=some (.cells #[.int .i64 c.n,.int .i64 c.k,.slice p c.L.length a0] 24 (0,0)):=by
  rw [b5]
  show (w.heap.push _)[w.heap.size]?=_
  simp
 have c0:=(Jb d2 0).1
 have c1:=(Jb d2 1).1
 have c2:=(Jb d2 2).1
 obtain ⟨j,d3⟩:∃ j,j=w1.alloc (.cells #[.int .i64 c.n,.int .i64 c.k,.slice p c.L.length a0,.int .i64 config] 88):=⟨_,rfl⟩
 have f3:Below w1.heap.size w1 j:=by rw [d3];exact (Below.refl _ _).alloc (Nat.le_refl _) _
 have b3:Below w.heap.size w j:=d8.trans (f3.mono d8.size)
 have e0:j.heap[w.heap.size+1]?=some (.cells #[.int .i64 c.n,.int .i64 c.k,.slice p c.L.length a0,.int .i64 config] 88 (0,0)):=by
  rw [d3,<- d9]
  show (w1.heap.push _)[w1.heap.size]?=_
  simp
 obtain ⟨nm,e1⟩:∃ nm:ByteArray,nm=⟨#[99]⟩ ++ ⟨(Lib.itoa who).toArray⟩:=⟨_,rfl⟩
 have b4:Hid (∀ W,Below j.heap.size j W->Calls prog 56 #[.int .i64 who] W fun e w'=>e=.returned (.string nm)/\Below W.heap.size W w'):=fun W hW=>by
  rw [e1]
  exact DB who f9 W (TabIs.dJ hT (fun k hk=>(b3.trans (hW.mono b3.size)).block k hk))
 have a8:Hid (∀ W,Below j.heap.size j W->Calls prog 52 #[.agg #[.string nm,.string key,.int .i64 op,.int .i64 c.n,.int .i64 c.k,.slice p c.L.length a0,.int .i64 config,.int .i64 c.n,.int .i64 c.k,.slice p c.L.length a0,.int .i64 config,.string ⟨#[108,111,111,107]⟩,.string ⟨#[116,111,108,100]⟩,.string ⟨#[108,111,111,107,105,110,103]⟩,.func (.func Q) #[] U]] W fun e w'=>∃ cells M,e=.returned (.tuple #[.agg cells,M])/\Hid (jN ad nm key op config c Q U W w' cells M)/\Below W.heap.size W w'):=fun W hW=>by
  have e2:=b3.trans (hW.mono b3.size)
  refine (GA ad nm key op c c config config p p a0 a0 ⟨#[108,111,111,107]⟩ ⟨#[116,111,108,100]⟩ ⟨#[108,111,111,107,105,110,103]⟩ Q U W (hc.below e2) (hc.below e2) (hE.below e2)).mono fun e w' hq=>?_
  obtain ⟨⟨h1,M,h2,h3⟩ | ⟨h1,h2,N,X,mb,h3,h4⟩,h5⟩:=hq
  ·exact ⟨_,_,h2,Or.inl ⟨h1,rfl,h3⟩,h5⟩
  ·exact ⟨_,_,h3,Or.inr ⟨h1,⟨h2.1,h2.2.2.1,h2.2.2.2.1,h2.2.2.2.2.1⟩,rfl,N,X,mb,rfl,h4⟩,h5⟩
 have g0:Hid (0<=who/\who < 6->nm=JY who):=fun h=>by rw [e1];exact IP h.1 h.2
 have g3:Hid (w1=w.alloc (.cells #[.int .i64 c.n,.int .i64 c.k,.slice p c.L.length a0] 24)):=b5
 have f4:Hid (j=w1.alloc (.cells #[.int .i64 c.n,.int .i64 c.k,.slice p c.L.length a0,.int .i64 config] 88)):=d3
 have g4:Hid (w1.heap.size=w.heap.size+1):=d9
 have e3:Hid (Below w.heap.size w j):=b3
 have g5:Hid (Zp w ad):=hE
 have O:Hid (∀ W,Below j.heap.size j W->(W.cell? ⟨w.heap.size+1,0,none⟩=some (.int .i64 c.n)/\W.cell? ⟨w.heap.size+1,1,none⟩=some (.int .i64 c.k)/\W.cell? ⟨w.heap.size+1,2,none⟩=some (.slice p c.L.length a0)/\W.cell? ⟨w.heap.size+1,3,none⟩=some (.int .i64 config))):=fun W hW=>by
  have hp:=(hW.block _ (YG e0)).trans e0
  exact ⟨(Jb hp 0).1,(Jb hp 1).1,(Jb hp 2).1,(Jb hp 3).1⟩
 have a5:Hid (∀ W:World,Below W.heap.size W (W.alloc (.cells #[.string ⟨#[]⟩,.string ⟨#[]⟩,.int .i64 0,.int .i64 0,.int .i64 0,.slice none 0 0,.int .i64 0,.string ⟨#[]⟩,.int .i64 0,.map none,.int .i64 0,.int .i64 0,.slice none 0 0,.int .i64 0,.int .i64 0,.int .i64 0,.slice none 0 0,.int .i64 0,.string ⟨#[]⟩,.nilFunc,.string ⟨#[]⟩,.int .i64 0,.int .i64 0,.string ⟨#[]⟩,.bool false] 93))/\(W.alloc (.cells #[.string ⟨#[]⟩,.string ⟨#[]⟩,.int .i64 0,.int .i64 0,.int .i64 0,.slice none 0 0,.int .i64 0,.string ⟨#[]⟩,.int .i64 0,.map none,.int .i64 0,.int .i64 0,.slice none 0 0,.int .i64 0,.int .i64 0,.int .i64 0,.slice none 0 0,.int .i64 0,.string ⟨#[]⟩,.nilFunc,.string ⟨#[]⟩,.int .i64 0,.int .i64 0,.string ⟨#[]⟩,.bool false] 93)).heap[W.heap.size]?=some (.cells Jj 93 (0,0))/\(W.alloc (.cells #[.string ⟨#[]⟩,.string ⟨#[]⟩,.int .i64 0,.int .i64 0,.int .i64 0,.slice none 0 0,.int .i64 0,.string ⟨#[]⟩,.int .i64 0,.map none,.int .i64 0,.int .i64 0,.slice none 0 0,.int .i64 0,.int .i64 0,.int .i64 0,.slice none 0 0,.int .i64 0,.string ⟨#[]⟩,.nilFunc,.string ⟨#[]⟩,.int .i64 0,.int .i64 0,.string ⟨#[]⟩,.bool false] 93)).heap.size=W.heap.size+1):=fun W=>⟨(Below.refl _ _).alloc (Nat.le_refl _) _,(by show (W.heap.push _)[W.heap.size]?=_;simp;rfl),by simp⟩
 have f5:=SI who op config c key
 have f6:Hid (ZG who op config c key=if 0 < (Xz c c key op config config).1 then Xz c c key op config config else if 0<=who/\who < 6 then (0,-1) else (2,-1)):=f5
 clear b5 d3 d8 f3 b3 d2 e0 d9 hc hE hT f9 e1 f5
 go_enter func34,ntmps34
 go_wp2_with (first | rw [<- g3.out] | rw [<- f4.out,g4.out] | rw [<- f4.out] | fail)
 go_cut [15,16] from 20 to 31 (fun v M W=>∃ eb cells,v=.pointer (some ⟨eb,0,none⟩)/\j.heap.size<=eb/\W.heap[eb]?=some (.cells cells 93 (0,0))/\jN ad nm key op config c Q U j W cells M/\Below j.heap.size j W)
 case first =>
  have d4:Below j.heap.size j j.drew:=(Below.refl _ _).drew
  refine wp_region_held_drew (S:=fun W=>(W.cell? ⟨w.heap.size+1,0,none⟩=some (.int .i64 c.n)/\W.cell? ⟨w.heap.size+1,1,none⟩=some (.int .i64 c.k)/\W.cell? ⟨w.heap.size+1,2,none⟩=some (.slice p c.L.length a0)/\W.cell? ⟨w.heap.size+1,3,none⟩=some (.int .i64 config))) (by kernel_rfl) (O.out _ d4) (fun D=>?_)
  refine tk 0 _ D ?_
  refine tk 2 _ D ?_
  refine tk 3 _ D ?_
  refine tk 4 _ D ?_
  refine tk 5 _ D ?_
  refine tk 6 _ D ?_
  simp only [Act.put,List.setIfInBounds_toArray,List.set_cons_zero,List.set_cons_succ]
  refine rdy 1 [12] _ (fun K y=>?_) ?_
  ·skip
   go_simp
   go_at_call 56
   refine (b4.out _ d4).mono ?_
   rintro e w6 ⟨rfl,d5⟩
   have Z:Below j.heap.size j w6:=d4.trans (d5.mono d4.size)
   first | (refine y.out _ _ ?_ (fun D=>?_)) | (go_wp2_with fail;refine y.out _ _ ?_ (fun D=>?_))
   ·exact O.out _ Z
   clear y K
   try simp only [Act.put,List.setIfInBounds_toArray,List.set_cons_zero,List.set_cons_succ]
   refine tk 7 _ D ?_
   simp only [Act.put,List.setIfInBounds_toArray,List.set_cons_zero,List.set_cons_succ]
   refine rdy 8 [12] _ (fun K y=>?_) ?_
   ·skip
    go_simp
    go_at_call 52
    refine (a8.out _ Z).mono ?_
    rintro e G ⟨cells,M,rfl,a4,a9⟩
    have I:Below j.heap.size j G:=Z.trans (a9.mono Z.size)
    first | (refine y.out _ _ ?_ (fun D=>?_)) | (go_wp2_with fail;refine y.out _ _ ?_ (fun D=>?_))
    ·exact O.out _ I
    clear y K
    try simp only [Act.put,List.setIfInBounds_toArray,List.set_cons_zero,List.set_cons_succ]
    refine tk 9 _ D ?_
    refine tk 10 _ D ?_
    refine tk 11 _ D ?_
    simp only [Act.put,List.setIfInBounds_toArray,List.set_cons_zero,List.set_cons_succ]
    refine rdy 12 [] _ (fun K y=>?_) AllReadyH.nil
    go_simp
    obtain ⟨Y,a1⟩:∃ Y,Y=G.alloc (.cells #[.string ⟨#[]⟩,.string ⟨#[]⟩,.int .i64 0,.int .i64 0,.int .i64 0,.slice none 0 0,.int .i64 0,.string ⟨#[]⟩,.int .i64 0,.map none,.int .i64 0,.int .i64 0,.slice none 0 0,.int .i64 0,.int .i64 0,.int .i64 0,.slice none 0 0,.int .i64 0,.string ⟨#[]⟩,.nilFunc,.string ⟨#[]⟩,.int .i64 0,.int .i64 0,.string ⟨#[]⟩,.bool false] 93):=⟨_,rfl⟩
    obtain ⟨a6,a2,e4⟩:=a5.out G
    rw [<- a1] at a6 a2 e4
    rw [<- a1]
    have J:Below j.heap.size j Y:=I.trans (a6.mono I.size)
    refine y.out _ _ ?_ (fun D=>?_)
    ·exact O.out _ J
    clear y K a1
    try simp only [Act.put,List.setIfInBounds_toArray,List.set_cons_zero,List.set_cons_succ]
    have g6:jN ad nm key op config c Q U w6 Y cells M:=a4.out.below a6
    have b6:jN ad nm key op config c Q U j (Y.setRow G.heap.size cells) cells M:=g6.store a2 Z.size (Or.inr ⟨G,Nat.le_refl _,a4.out⟩)
    obtain ⟨y1,y2,y3⟩:=a4.out.cells
    obtain ⟨r1,r2,r3,r4,r5,r6⟩:=XZ cells a2
    have z0:j.heap.size<=G.heap.size:=I.size
    have a7:Below j.heap.size j (Y.setRow G.heap.size cells):=⟨r4.trans J.os,r5.trans J.tape,r6.trans J.output,by rw [r2];exact J.size,fun k hk=>(r3 k (by omega)).trans (J.block k hk)⟩
    refine rdy 13 [] _ (fun K y=>?_) AllReadyH.nil
    refine ZB rfl 93 (.tmp 15) (.tmp 30) rfl G.heap.size cells (by simp [Act.eval]) (by simp [Act.eval]) 93 Jj a2 y1 y2 y3 ?_
    refine y.out _ _ ?_ (fun D=>?_)
    ·exact O.out _ a7
    clear y K
    try simp only [Act.put]
    refine tk 14 _ D ?_
    simp only [Act.put,List.setIfInBounds_toArray,List.set_cons_zero,List.set_cons_succ]
    refine wpAnyH_done (by kernel_rfl) ?_ _
    go_wp2_with fail
    go_meet
    exact ⟨_,cells,rfl,z0,r1,b6,a7⟩
   ·refine AllReadyH.cons (o:={ dst:=some 15,op:=Op.alloc 93,type:=0,pos := "ask.go:75",after:=#[],guard:=none }) rfl (fun K y=>?_) AllReadyH.nil
    go_simp
    obtain ⟨Y,a1⟩:∃ Y,Y=w6.alloc (.cells #[.string ⟨#[]⟩,.string ⟨#[]⟩,.int .i64 0,.int .i64 0,.int .i64 0,.slice none 0 0,.int .i64 0,.string ⟨#[]⟩,.int .i64 0,.map none,.int .i64 0,.int .i64 0,.slice none 0 0,.int .i64 0,.int .i64 0,.int .i64 0,.slice none 0 0,.int .i64 0,.string ⟨#[]⟩,.nilFunc,.string ⟨#[]⟩,.int .i64 0,.int .i64 0,.string ⟨#[]⟩,.bool false] 93):=⟨_,rfl⟩
    obtain ⟨a6,a2,e4⟩:=a5.out w6
    rw [<- a1] at a6 a2 e4
    rw [<- a1]
    have J:Below j.heap.size j Y:=Z.trans (a6.mono Z.size)
    refine y.out _ _ ?_ (fun D=>?_)
    ·exact O.out _ J
    clear y K a1
    try simp only [Act.put,List.setIfInBounds_toArray,List.set_cons_zero,List.set_cons_succ]
    refine rdy 8 [] _ (fun K y=>?_) AllReadyH.nil
    go_simp
    go_at_call 52
    refine (a8.out _ J).mono ?_
    rintro e G ⟨cells,M,rfl,a4,a9⟩
    have I:Below j.heap.size j G:=J.trans (a9.mono J.size)
    have b0:G.heap[w6.heap.size]?=some (.cells Jj 93 (0,0)):=(a9.block _ (YG a2)).trans a2
    first | (refine y.out _ _ ?_ (fun D=>?_)) | (go_wp2_with fail;refine y.out _ _ ?_ (fun D=>?_))
    ·exact O.out _ I
    clear y K
    try simp only [Act.put,List.setIfInBounds_toArray,List.set_cons_zero,List.set_cons_succ]
    refine tk 9 _ D ?_
    refine tk 10 _ D ?_
    refine tk 11 _ D ?_
    simp only [Act.put,List.setIfInBounds_toArray,List.set_cons_zero,List.set_cons_succ]
    have b6:jN ad nm key op config c Q U j (G.setRow w6.heap.size cells) cells M:=a4.out.store b0 J.size (Or.inl (YG a2))
    obtain ⟨y1,y2,y3⟩:=a4.out.cells
    obtain ⟨r1,r2,r3,r4,r5,r6⟩:=XZ cells b0
    have z0:j.heap.size<=w6.heap.size:=Z.size
    have a7:Below j.heap.size j (G.setRow w6.heap.size cells):=⟨r4.trans I.os,r5.trans I.tape,r6.trans I.output,by rw [r2];exact I.size,fun k hk=>(r3 k (by omega)).trans (I.block k hk)⟩
    refine rdy 13 [] _ (fun K y=>?_) AllReadyH.nil
    refine ZB rfl 93 (.tmp 15) (.tmp 30) rfl w6.heap.size cells (by simp [Act.eval]) (by simp [Act.eval]) 93 Jj b0 y1 y2 y3 ?_
    refine y.out _ _ ?_ (fun D=>?_)
    ·exact O.out _ a7
    clear y K
    try simp only [Act.put]
    refine tk 14 _ D ?_
    simp only [Act.put,List.setIfInBounds_toArray,List.set_cons_zero,List.set_cons_succ]
    refine wpAnyH_done (by kernel_rfl) ?_ _
    go_wp2_with fail
    go_meet
    exact ⟨_,cells,rfl,z0,r1,b6,a7⟩
  ·refine AllReadyH.cons (o:={ dst:=some 15,op:=Op.alloc 93,type:=0,pos := "ask.go:75",after:=#[],guard:=none }) rfl (fun K y=>?_) AllReadyH.nil
   go_simp
   obtain ⟨Y,a1⟩:∃ Y,Y=(j.alloc (.cells #[.string ⟨#[]⟩,.string ⟨#[]⟩,.int .i64 0,.int .i64 0,.int .i64 0,.slice none 0 0,.int .i64 0,.string ⟨#[]⟩,.int .i64 0,.map none,.int .i64 0,.int .i64 0,.slice none 0 0,.int .i64 0,.int .i64 0,.int .i64 0,.slice none 0 0,.int .i64 0,.string ⟨#[]⟩,.nilFunc,.string ⟨#[]⟩,.int .i64 0,.int .i64 0,.string ⟨#[]⟩,.bool false] 93)).drew:=⟨_,rfl⟩
   have a6:Below j.heap.size j Y:=by rw [a1];exact (a5.out j).1.drew
   have a2:Y.heap[j.heap.size]?=some (.cells Jj 93 (0,0)):=by rw [a1];exact (a5.out j).2.1
   rw [<- a1]
   have J:=a6
   refine y.out _ _ ?_ (fun D=>?_)
   ·exact O.out _ J
   clear y K a1
   try simp only [Act.put,List.setIfInBounds_toArray,List.set_cons_zero,List.set_cons_succ]
   refine rdy 1 [] _ (fun K y=>?_) AllReadyH.nil
   go_simp
   go_at_call 56
   refine (b4.out _ J).mono ?_
   rintro e w6 ⟨rfl,d5⟩
   have Z:Below j.heap.size j w6:=J.trans (d5.mono J.size)
   have e5:w6.heap[j.heap.size]?=some (.cells Jj 93 (0,0)):=(d5.block _ (YG a2)).trans a2
   first | (refine y.out _ _ ?_ (fun D=>?_)) | (go_wp2_with fail;refine y.out _ _ ?_ (fun D=>?_))
   ·exact O.out _ Z
   clear y K
   try simp only [Act.put,List.setIfInBounds_toArray,List.set_cons_zero,List.set_cons_succ]
   refine tk 7 _ D ?_
   simp only [Act.put,List.setIfInBounds_toArray,List.set_cons_zero,List.set_cons_succ]
   refine rdy 8 [] _ (fun K y=>?_) AllReadyH.nil
   go_simp
   go_at_call 52
   refine (a8.out _ Z).mono ?_
   rintro e G ⟨cells,M,rfl,a4,a9⟩
   have I:Below j.heap.size j G:=Z.trans (a9.mono Z.size)
   have b0:G.heap[j.heap.size]?=some (.cells Jj 93 (0,0)):=(a9.block _ (YG e5)).trans e5
   first | (refine y.out _ _ ?_ (fun D=>?_)) | (go_wp2_with fail;refine y.out _ _ ?_ (fun D=>?_))
   ·exact O.out _ I
   clear y K
   try simp only [Act.put,List.setIfInBounds_toArray,List.set_cons_zero,List.set_cons_succ]
   refine tk 9 _ D ?_
   refine tk 10 _ D ?_
   refine tk 11 _ D ?_
   simp only [Act.put,List.setIfInBounds_toArray,List.set_cons_zero,List.set_cons_succ]
   have b6:jN ad nm key op config c Q U j (G.setRow j.heap.size cells) cells M:=a4.out.store b0 Z.size (Or.inl (YG e5))
   obtain ⟨y1,y2,y3⟩:=a4.out.cells
   obtain ⟨r1,r2,r3,r4,r5,r6⟩:=XZ cells b0
   have z0:j.heap.size<=j.heap.size:=Nat.le_refl _
   have a7:Below j.heap.size j (G.setRow j.heap.size cells):=⟨r4.trans I.os,r5.trans I.tape,r6.trans I.output,by rw [r2];exact I.size,fun k hk=>(r3 k (by omega)).trans (I.block k hk)⟩
   refine rdy 13 [] _ (fun K y=>?_) AllReadyH.nil
   refine ZB rfl 93 (.tmp 15) (.tmp 30) rfl j.heap.size cells (by simp [Act.eval]) (by simp [Act.eval]) 93 Jj b0 y1 y2 y3 ?_
   refine y.out _ _ ?_ (fun D=>?_)
   ·exact O.out _ a7
   clear y K
   try simp only [Act.put]
   refine tk 14 _ D ?_
   simp only [Act.put,List.setIfInBounds_toArray,List.set_cons_zero,List.set_cons_succ]
   refine wpAnyH_done (by kernel_rfl) ?_ _
   go_wp2_with fail
   go_meet
   exact ⟨_,cells,rfl,z0,r1,b6,a7⟩
 case rest =>
  obtain ⟨eb,cells,rfl,i1,b7,hN,d0⟩:=hcut
  have b1:Hid (Below w.heap.size w wc):=e3.out.trans (d0.mono e3.out.size)
  have g7:=(g5.out.below b1.out).c1
  rcases hN with ⟨d6,rfl,e6⟩ | ⟨d7,e7,rfl,N,X,mb,rfl,b2⟩
  ·have a3:Hid (ZG who op config c key=Xz c c key op config config):=by show _=_;rw [f6.out,if_pos d6]
   have g8:Hid (Jd wc ad u16 (Xz c c key op config config).1 (Xz c c key op config config).2):=e6
   have g9:Hid (0 < (Xz c c key op config config).1):=d6
   obtain ⟨et,eu,rfl⟩:=e6.some d6
   clear e6 d6 b4 a8 O a5 b7 d0 g7 c0 c1 c2
   go_wp2
   go_ret2
   exact ⟨⟨.iface et eu,by rw [a3.out];exact g8.out,Or.inl ⟨by rw [a3.out];exact g9.out,rfl⟩⟩,b1.out⟩
  ·have e8:Hid (ZG who op config c key=if 0<=who/\who < 6 then (0,-1) else (2,-1)):=by show _=_;rw [f6.out,if_neg (by rw [d7];decide)]
   by_cases g1:who < 0
   ·have a3:Hid (ZG who op config c key=(2,-1)):=by show _=_;rw [e8.out,if_neg (by omega)]
    have h0:decide (who < 0)=true:=decide_eq_true g1
    clear b4 a8 O a5 b7 d0 c0 c1 c2 d7 e7 b2 g1
    go_wp2
    go_quiet (fail)
    go_wp2
    go_ret2
    exact ⟨⟨.iface 252 (.pointer (some (ad 1))),by rw [a3.out];exact Jd.b8 1 (by decide),Or.inl ⟨by rw [a3.out];decide,rfl⟩⟩,below_drewN b1.out _⟩
   ·have h0:decide (who < 0)=false:=decide_eq_false g1
    by_cases g2:6<=who
    ·have a3:Hid (ZG who op config c key=(2,-1)):=by show _=_;rw [e8.out,if_neg (by omega)]
     have h6:decide (6<=who)=true:=decide_eq_true g2
     clear b4 a8 O a5 b7 d0 c0 c1 c2 d7 e7 b2 g1 g2
     go_wp2
     go_quiet (fail)
     go_wp2
     go_ret2
     exact ⟨⟨.iface 252 (.pointer (some (ad 1))),by rw [a3.out];exact Jd.b8 1 (by decide),Or.inl ⟨by rw [a3.out];decide,rfl⟩⟩,below_drewN b1.out _⟩
    ·have a3:Hid (ZG who op config c key=(0,-1)):=by show _=_;rw [e8.out,if_pos (by omega)]
     have h6:decide (6<=who)=false:=decide_eq_false g2
     obtain ⟨w5,d1⟩:∃ w5,w5=wc.alloc (.cells (Xl nm key op c N config c X config ⟨#[108,111,111,107]⟩ ⟨#[116,111,108,100]⟩ ⟨#[108,111,111,107,105,110,103]⟩ (.func (.func Q) #[] U) mb) 95):=⟨_,rfl⟩
     have e9:Below wc.heap.size wc w5:=by rw [d1];exact (Below.refl _ _).alloc (Nat.le_refl _) _
     have h7:w5.heap.size=wc.heap.size+1:=by rw [d1];simp
     have f7:w5.heap[wc.heap.size]?=some (.cells (Xl (JY who) key op c N config c X config ⟨#[108,111,111,107]⟩ ⟨#[116,111,108,100]⟩ ⟨#[108,111,111,107,105,110,103]⟩ (.func (.func Q) #[] U) mb) 95 (0,0)):=by
      rw [d1,<- g0.out (by omega)]
      show (wc.heap.push _)[wc.heap.size]?=_
      simp
     have h8:Hid (Below w.heap.size w w5):=b1.out.trans (e9.mono b1.out.size)
     have h9:Hid (w5.heap[wc.heap.size]?=some (.cells (Xl (JY who) key op c N config c X config ⟨#[108,111,111,107]⟩ ⟨#[116,111,108,100]⟩ ⟨#[108,111,111,107,105,110,103]⟩ (.func (.func Q) #[] U) mb) 95 (0,0))/\ZX w w5 N X mb c c/\(w.heap.size<=wc.heap.size/\wc.heap.size < w5.heap.size)/\wc.heap.size≠N/\wc.heap.size≠X/\wc.heap.size≠mb):=by
      have y1:=b2.gR
      have y2:=b2.gX
      have y3:=b2.iX
      have y4:=b1.out.size
      exact ⟨f7,(b2.below e9).base e3.out.size,⟨by omega,by omega⟩,by omega,by omega,by omega⟩
     have f8:Hid (w5=wc.alloc (.cells (Xl nm key op c N config c X config ⟨#[108,111,111,107]⟩ ⟨#[116,111,108,100]⟩ ⟨#[108,111,111,107,105,110,103]⟩ (.func (.func Q) #[] U) mb) 95)):=d1
     have i0:Hid (wc.heap[eb]?=some (.cells (Xl nm key op c N config c X config ⟨#[108,111,111,107]⟩ ⟨#[116,111,108,100]⟩ ⟨#[108,111,111,107,105,110,103]⟩ (.func (.func Q) #[] U) mb) 93 (0,0))):=b7
     unfold Xl at f8
     clear b4 a8 O a5 b7 d0 c0 c1 c2 d7 e7 b2 g1 g2 d1 e9 h7 f7
     go_wp2_with (first | (refine EF rfl 93 (.tmp 15) rfl eb rfl #[.string nm,.string key,.int .i64 op,.int .i64 c.n,.int .i64 c.k,.slice (some ⟨N,0,none⟩) c.L.length c.L.length,.int .i64 config,.string ⟨#[116,111,108,100]⟩,.int .i64 ((Jh c:Nat):Int),.map (some mb),.int .i64 c.n,.int .i64 c.k,.slice (some ⟨N,0,none⟩) c.L.length c.L.length,.int .i64 config,.int .i64 c.n,.int .i64 c.k,.slice (some ⟨X,0,none⟩) c.L.length c.L.length,.int .i64 config,.string ⟨#[108,111,111,107]⟩,.func (.func Q) #[] U,.string ⟨#[108,111,111,107,105,110,103]⟩,.int .i64 0,.int .i64 0,.string ⟨#[]⟩,.bool false] 93 i0.out _ underlying93 rfl (nG _ _ _ _ _ _ _ _ _ _ _ _ _ _) ?_) | rw [<- f8.out] | fail)
     go_ret2
     exact ⟨⟨.nilIface,by rw [a3.out];exact Jd.nil _ _,Or.inr ⟨a3.out,_,N,X,mb,rfl,h9.out⟩⟩,h8.out⟩
theorem NQ {n:Int} (h:0<=n) (v:Yb):Yk n v=if YM v.n 0=true then max n v.n else n:=by
 have D:YM v.n 0=decide (0<=v.n/\v.n<=1099511627776):=by unfold YM;simp
 rw [D]
 unfold Yk
 by_cases j:0<=v.n/\v.n<=1099511627776
 ·rw [decide_eq_true j,if_pos (rfl:true=true)]
  by_cases y:n < v.n
  ·rw [if_pos ⟨y,j.2⟩];omega
  ·rw [if_neg (fun h=>y h.1)];omega
 ·rw [decide_eq_false j,if_neg (fun h=>j (by omega)),if_neg (by decide)]
theorem JjI (p:Option Addr) (LL:List (List Yb)) (c:Nat) (w:World) (hL:eU w p LL) (h1:LL.length<=1000) (h2:∀ l ∈ LL,l.length<=1000):Calls prog 36 #[.slice p LL.length c] w fun e w'=>e=.returned (.int .i64 (XF LL))/\Below w.heap.size w w':=by
 have HL:Hid (eU w p LL):=hL
 have H2:Hid (∀ l ∈ LL,l.length<=1000):=h2
 have b0:Hid (∀ a W,Calls prog 57 #[.agg #[.int .i64 a,.int .i64 0]] W fun e w'=>e=.returned (.bool (YM a 0))/\Below W.heap.size W w'):=fun a W=>wI a 0 W
 clear hL h2
 go_enter func36,ntmps36
 go_wp2
 go_loopw [3,10] (fun x y wr=>∃ i:Nat,i<=LL.length/\y=.int .i64 i/\x=.int .i64 (XF (LL.take i))/\Below w.heap.size w wr) (fun _ y _=>LL.length - (intOf y).toNat)
 case atStart=>exact ⟨0,Nat.zero_le _,rfl,rfl,Below.refl _ _⟩
 case round =>
  obtain ⟨i,hi,rfl,rfl,hB⟩:=hrel
  obtain ⟨G,rfl⟩:∃ G,G=wr:=⟨_,rfl⟩
  have HB:Hid (Below w.heap.size w G):=hB
  by_cases O:i < LL.length
  ·rcases HL.out.below hB with h0 | ⟨b,o,b1,d4,a3⟩
   ·rw [h0] at O;exact absurd O (Nat.not_lt_zero _)
   obtain ⟨rq,rc,d5,a4,d6,b2⟩:=a3 i O
   have b3:Hid (XF (LL.take (i+1))=(LL.getD i []).foldl Yk (XF (LL.take i))):=M2 O
   have b4:=sH (LL.take i)
   have d7:(LL.getD i []).length<=1000:=by
    have e:LL.getD i []=LL[i]:=by rw [List.getD_eq_getElem?_getD,List.getElem?_eq_getElem O];rfl
    rw [e];exact H2.out _ (List.getElem_mem _)
   have b5:Hid (Ql Ze G rq (LL.getD i [])):=a4
   subst b1
   clear a3 a4 b2 hB
   generalize LL.getD i []=D at *
   generalize XF (LL.take i)=M at *
   go_wp2
   go_loopw [3,16] (fun x y wr=>∃ j:Nat,j<=D.length/\y=.int .i64 j/\x=.int .i64 ((D.take j).foldl Yk M)/\Below G.heap.size G wr) (fun _ y _=>D.length - (intOf y).toNat)
   case atStart=>exact ⟨0,Nat.zero_le _,rfl,rfl,Below.refl _ _⟩
   case round =>
    obtain ⟨j,hj,rfl,rfl,X⟩:=hrel
    obtain ⟨I,rfl⟩:∃ I,I=wr:=⟨_,rfl⟩
    have a0:Hid (Below G.heap.size G I):=X
    by_cases a5:j < D.length
    ·obtain ⟨vb,vo,b6,d8,v0,v1,v2,v3,v4⟩:=QU (b5.out.below X) a5
     have a6:Hid ((D.take (j+1)).foldl Yk M=Yk ((D.take j).foldl Yk M) (Xd D j)):=OI a5 M
     have a7:0<=(D.take j).foldl Yk M:=Int.le_trans b4.1 (ZK _ _)
     have Q:Hid (Yk ((D.take j).foldl Yk M) (Xd D j)=if YM (Xd D j).n 0=true then max ((D.take j).foldl Yk M) (Xd D j).n else (D.take j).foldl Yk M):=NQ a7 _
     have a1:=b0.out (Xd D j).n
     subst b6
     clear a7 X
     generalize (D.take j).foldl Yk M=d9 at *
     generalize Xd D j=x at *
     obtain ⟨K,xw,xs,xa,xt⟩:=x
     dsimp only at v0 v1 v2 v3 v4 Q a1
     obtain ⟨J,U⟩:∃ J,J=I.alloc (.cells #[.int .i64 K,.int .i64 xw,.int .i64 xs,.int .i64 xa,.string xt] 76):=⟨_,rfl⟩
     have a8:Below I.heap.size I J:=by rw [U];exact (Below.refl _ _).alloc (Nat.le_refl _) _
     have g0:J.cell? ⟨I.heap.size,0,none⟩=some (.int .i64 K):=by rw [U,World.cell?_alloc_at _ _ _ _ rfl];rfl
     have b7:I.heap.size < J.heap.size:=by rw [U];simp
     have a9:Hid (J=I.alloc (.cells #[.int .i64 K,.int .i64 xw,.int .i64 xs,.int .i64 xa,.string xt] 76)):=U
     have Y:Hid (Below G.heap.size G J):=a0.out.trans (a8.mono a0.out.size)
     have Z:Hid (Calls prog 57 #[.agg #[.int .i64 K,.int .i64 0]] J fun e w'=>e=.returned (.bool (YM K 0))/\Below J.heap.size J w'):=a1 J
     clear U a8 a1
     by_cases ht:YM K 0=true
     ·rw [ht] at Z
      rw [if_pos ht] at Q
      go_wp2_with (first | rw [<- a9.out] | fail)
      refine Z.out.mono ?_
      rintro e w4 ⟨rfl,N⟩
      have g4:w4.cell? ⟨I.heap.size,0,none⟩=some (.int .i64 K):=(N.cell (p:=⟨I.heap.size,0,none⟩) b7).trans g0
      have a2:Hid (Below G.heap.size G w4):=Y.out.trans (N.mono Y.out.size)
      clear N v0 v1 v2 v3 v4
      go_wp2
      go_roundw
      case rel=>exact ⟨j+1,by omega,by go_num,by rw [a6.out,Q.out],a2.out⟩
      case measure=>simp [intOf];omega
     ·rw [if_neg ht] at Q
      have d0:YM K 0=false:=Bool.eq_false_iff.2 ht
      rw [d0] at Z
      go_wp2_with (first | rw [<- a9.out] | fail)
      refine Z.out.mono ?_
      rintro e w4 ⟨rfl,N⟩
      have a2:Hid (Below G.heap.size G w4):=Y.out.trans (N.mono Y.out.size)
      clear N v0 v1 v2 v3 v4
      go_wp2
      go_roundw
      case rel=>exact ⟨j+1,by omega,by go_num,by rw [a6.out,Q.out],a2.out⟩
      case measure=>simp [intOf];omega
    ·have d1:Hid (D.take j=D):=by show _=_;exact List.take_of_length_le (by omega)
     rw [d1.out]
     have d2:Hid (Below w.heap.size w I):=HB.out.trans (a0.out.mono HB.out.size)
     clear X
     go_wp2
     go_roundw
     case rel=>exact ⟨i+1,by omega,by go_num,by rw [b3.out],d2.out⟩
     case measure=>simp [intOf];omega
  ·have d3:Hid (LL.take i=LL):=by show _=_;exact List.take_of_length_le (by omega)
   rw [d3.out]
   clear hB
   go_wp2
   go_ret
   exact ⟨rfl,HB.out⟩
theorem SB (O Q:Int) (cv:Value) (b0:∃ a n m,cv=.slice a n m) (G I:Nat) (who:Int) (text:ByteArray) (p:Option Addr) (LL:List (List Yb)) (c:Nat) (w:World) (hL:eU w p LL) (h1:LL.length<=1000) (h2:∀ l ∈ LL,l.length<=1000) (q0:w.cell? ⟨G,0,none⟩=some (.int .i64 who)) (q1:w.cell? ⟨I,0,none⟩=some (.string text)) :
 Calls prog 35 (#[.agg #[.int .i64 O,.int .i64 Q,cv],.slice p LL.length c] ++ #[.pointer (some ⟨G,0,none⟩),.pointer (some ⟨I,0,none⟩)]) w fun e w'=>e=.returned (.agg #[.int .i64 (XF LL+1),.int .i64 who,.string text,.bool true])/\Below w.heap.size w w':=by
 show Calls prog 35 #[.agg #[.int .i64 O,.int .i64 Q,cv],.slice p LL.length c,.pointer (some ⟨G,0,none⟩),.pointer (some ⟨I,0,none⟩)] w _
 obtain ⟨ca,cm,cx,rfl⟩:=b0
 have a4:G < w.heap.size:=YC q0
 have a5:I < w.heap.size:=YC q1
 obtain ⟨y,N⟩:∃ y,y=w.alloc (.cells #[.int .i64 O,.int .i64 Q,.slice ca cm cx] 24):=⟨_,rfl⟩
 have U:Below w.heap.size w y:=by rw [N];exact (Below.refl _ _).alloc (Nat.le_refl _) _
 have X:y.heap.size=w.heap.size+1:=by rw [N];simp
 obtain ⟨j,J⟩:∃ j,j=y.alloc (.cells #[.int .i64 0,.int .i64 0,.string ⟨#[]⟩,.bool false] 80):=⟨_,rfl⟩
 have a0:Below y.heap.size y j:=by rw [J];exact (Below.refl _ _).alloc (Nat.le_refl _) _
 have K:Below w.heap.size w j:=U.trans (a0.mono U.size)
 have a1:w.heap.size+1 < j.heap.size:=by rw [J];simp [X]
 have a2:j.heap[w.heap.size+1]?=some (.cells #[.int .i64 0,.int .i64 0,.string ⟨#[]⟩,.bool false] 80 (0,0)):=by
  rw [J,<- X]
  show (y.heap.push _)[y.heap.size]?=_
  simp
 have b1:=sH LL
 have Y:Hid (∀ W,Below w.heap.size w W->(W.cell? ⟨G,0,none⟩=some (.int .i64 who)/\W.cell? ⟨I,0,none⟩=some (.string text)/\Below w.heap.size w W)):=fun W Z=>⟨(Z.cell (p:=⟨G,0,none⟩) a4).trans q0,(Z.cell (p:=⟨I,0,none⟩) a5).trans q1,Z⟩
 have HG:Hid (Calls prog 36 #[.slice p LL.length c] j.drew fun e w'=>e=.returned (.int .i64 (XF LL))/\(w'.cell? ⟨G,0,none⟩=some (.int .i64 who)/\w'.cell? ⟨I,0,none⟩=some (.string text)/\Below w.heap.size w w')/\(w'.cell? ⟨w.heap.size+1,0,none⟩=some (.int .i64 0)/\w'.cell? ⟨w.heap.size+1,1,none⟩=some (.int .i64 0)/\w'.cell? ⟨w.heap.size+1,2,none⟩=some (.string ⟨#[]⟩)/\w'.cell? ⟨w.heap.size+1,3,none⟩=some (.bool false))/\(w'.frozen? ⟨w.heap.size+1,0,none⟩=false/\w'.frozen? ⟨w.heap.size+1,1,none⟩=false/\w'.frozen? ⟨w.heap.size+1,2,none⟩=false/\w'.frozen? ⟨w.heap.size+1,3,none⟩=false)):=(JjI p LL c j.drew (hL.below K.drew) h1 h2).mono fun e w' hp=>by
  have hb:Below j.heap.size j w':=(Below.refl _ j).drew.trans hp.2
  have D:=(hb.block _ a1).trans a2
  exact ⟨hp.1,Y.out w' (K.trans (hb.mono K.size)),⟨by simp [World.cell?,D],by simp [World.cell?,D],by simp [World.cell?,D],by simp [World.cell?,D]⟩,by simp [World.frozen?,D],by simp [World.frozen?,D],by simp [World.frozen?,D],by simp [World.frozen?,D]⟩
 have a6:=Y.out j.drew K.drew
 have a7:Hid (y=w.alloc (.cells #[.int .i64 O,.int .i64 Q,.slice ca cm cx] 24)):=N
 have a8:Hid (j=y.alloc (.cells #[.int .i64 0,.int .i64 0,.string ⟨#[]⟩,.bool false] 80)):=J
 clear hL h2 J K a2 a1 q0 q1 N U X a0
 generalize XF LL=M at *
 have b2:IntKind.i64.wrap (M+1)=M+1:=by rw [IntKind.wrap_i64];omega
 go_enter func35,ntmps35
 go_wp2
 rw [<- a7.out,<- a8.out]
 go_region_held3 (fun W=>(W.cell? ⟨G,0,none⟩=some (.int .i64 who)/\W.cell? ⟨I,0,none⟩=some (.string text)/\Below w.heap.size w W)) (first | assumption | exact a6 | exact Y.out _ ((((a3.2.2.setCell (Nat.le_succ _) _).setCell (Nat.le_succ _) _).setCell (Nat.le_succ _) _).setCell (Nat.le_succ _) _)) (first | (go_at_call 36;refine HG.out.mono ?_;rintro e w1 ⟨rfl,a3,⟨k0,k1,k2,k3⟩,f0,f1,f2,f3⟩))
 have a9:Hid (Below w.heap.size w ((((w1.setCell ⟨w.heap.size+1,0,none⟩ (.int .i64 (M+1))).setCell ⟨w.heap.size+1,1,none⟩ (.int .i64 who)).setCell ⟨w.heap.size+1,2,none⟩ (.string text)).setCell ⟨w.heap.size+1,3,none⟩ (.bool true))):=(((a3.2.2.setCell (Nat.le_succ _) _).setCell (Nat.le_succ _) _).setCell (Nat.le_succ _) _).setCell (Nat.le_succ _) _
 go_wp2
 exact bodyPost_ret (v:=.agg #[.int .i64 (M+1),.int .i64 who,.string text,.bool true]) (by simp [results,results35,go_sem,k0,k1,k2,k3]) rfl ⟨rfl,a9.out⟩
theorem VK {G:Nat->Prop}  {text:ByteArray} (K:G j) (M:G y) (N:w.cell? ⟨j,0,none⟩=some (.int .i64 who)) (O:w.cell? ⟨y,0,none⟩=some (.string text)):jY w G true who text (.func (.func 35) #[] #[.pointer (some ⟨j,0,none⟩),.pointer (some ⟨y,0,none⟩)]) :=
 ⟨_,_,rfl,fun args W=>by kernel_rfl,fun W I ad z c mp Q p LL J D=>SB c.n c.k _ ⟨_,_,_,rfl⟩ j y who text p LL J W D.wO D.m1 D.m3 ((World.cell?_of_block (a:=⟨j,0,none⟩) (I j K)).trans N) ((World.cell?_of_block (a:=⟨y,0,none⟩) (I y M)).trans O)⟩
theorem PC :(JY who).size=2:=by unfold JY;rfl
theorem E0  (h:¬ 0 < (ZG who op config c key).1):¬ 0 < (Jg c).1/\Jo key=true/\(0<=who/\who < 6/\0<=op/\0<=config)/\ZG who op config c key=(0,-1):=by
 unfold ZG at h ⊢
 by_cases j:0 < (Jg c).1
 ·rw [if_pos j] at h;exact absurd j h
 ·rw [if_neg j] at h ⊢
  by_cases y:Jo key=false
  ·rw [if_pos y] at h;exact absurd (by decide) h
  ·rw [if_neg y] at h ⊢
   by_cases D:0<=who/\who < 6/\0<=op/\0<=config
   ·rw [if_pos D]
    exact ⟨j,by simpa using y,D,rfl⟩
   ·rw [if_neg D] at h;exact absurd (by decide) h
theorem DK (b:eT):JX b=if 0 < (ZG b.who b.op b.config b.c b.key).1 then ZG b.who b.op b.config b.c b.key else if b.put=true/\1000 < b.text.size then (2,-1) else (0,-1):=by
 unfold ZG
 by_cases j:0 < (Jg b.c).1
 ·rw [if_pos j,if_pos j,WO j]
 ·rw [if_neg j]
  by_cases G:Jo b.key=false
  ·rw [if_pos G,LI j G];rfl
  ·rw [if_neg G]
   have J:Jo b.key=true:=by simpa using G
   by_cases y:0<=b.who/\b.who < 6/\0<=b.op/\0<=b.config
   ·rw [if_pos y,if_neg (by decide)]
    by_cases I:b.put=true/\1000 < b.text.size
    ·rw [if_pos I,FZ j J (fun D=>by have:=D.2.2.2.2 I.1;omega)]
    ·rw [if_neg I, KZ j J ⟨y.1, y.2.1, y.2.2.1, y.2.2.2, fun K => by
      rcases Nat.lt_or_ge 1000 b.text.size with h | h
      ·exact absurd ⟨K,h⟩ I
      ·exact h⟩]
   ·rw [if_neg y,if_pos (by decide),FZ j J (fun D=>y ⟨D.1,D.2.1,D.2.2.1,D.2.2.2.1⟩)]
def qO (w:World):Prop:=(∃ z,w.cell? ⟨11,0,none⟩=some (.iface 252 (.pointer (some z))))/\Lib.TabIs prog w "internal/strconv.uint64pow10" .u64 Lib.pow10Tab
theorem GJ (D:¬ 0 < (Jg b.c).1) (G:Jo b.key=true) (I:b.put=true->b.text.size<=1000):QN b.ask:=by
 refine ⟨D,by have:=QF G;show b.key.size<=100;omega,by show (JY b.who).size<=100;rw [PC];decide,?_,(fun _ h=>by cases h),(fun h=>by cases h),List.nodup_nil,(fun x j=>by cases j),rfl,(fun h=>by cases h),(fun l y=>by cases y)⟩
 show (if b.put=true then b.text else ⟨#[]⟩:ByteArray).size<=1000
 by_cases h:b.put=true
 ·rw [if_pos h];exact I h
 ·rw [if_neg h];decide
theorem JpM (h:ZG b.who b.op b.config b.c b.key=(0,-1)) (G:Zt b.op) (I:Zt b.config) (J:b.put=true->b.text.size<=1000):JU b.ask:=by
 obtain ⟨f1,f2,j,_⟩:=E0 (who:=b.who) (op:=b.op) (config:=b.config) (c:=b.c) (key:=b.key) (by rw [h];decide)
 have e:=GJ f1 f2 J
 exact ⟨f1,e.key,e.name,rfl,⟨j.1,j.2.1⟩,⟨j.2.2.1,G.2⟩,⟨j.2.2.2,I.2⟩,e.text,(by intro e;cases e),List.nodup_nil,(fun x y=>by cases y),rfl,(fun e=>by cases e),(fun l D=>by cases D)⟩
theorem IG  {G:Value} {S1:Nat->Prop} (I:ZG b.who b.op b.config b.c b.key=(0,-1)) (N:Zt b.op) (O:Zt b.config) (J:b.put=true->b.text.size<=1000) (K:w.heap.size<=D.heap.size) (Q:ZX D W j y mb b.c b.c) (M:D.heap.size<=h/\h < W.heap.size) (U:h≠j/\h≠y/\h≠mb) (X:W.heap[h]?=some (.cells (Xl (JY b.who) b.key b.op b.c j b.config b.c y b.config ⟨#[108,111,111,107]⟩ ⟨#[116,111,108,100]⟩ ⟨#[108,111,111,107,105,110,103]⟩ G mb) 95 (0,0))) (Y:∀ k,S1 k->w.heap.size<=k/\k < W.heap.size/\k≠h/\k≠mb) (Z:jY W (fun k=>k=j∨k=y∨S1 k) b.ask.put b.ask.who b.ask.text G):Qw W w.heap.size h (fun k=>k=h∨k=mb∨k=j∨k=y∨S1 k) b.ask:=by
 obtain ⟨f1,f2,_,_⟩:=E0 (who:=b.who) (op:=b.op) (config:=b.config) (c:=b.c) (key:=b.key) (by rw [I];decide)
 exact ⟨JF.new (a:=b.ask) (asks:=rO) (told:=sW) (Q.base K) ⟨Nat.le_trans K M.1,M.2⟩ U X Y Z (Or.inl rfl) (GJ f1 f2 J) f1 f1 rfl ⟨rfl,rfl,rfl,rfl⟩ rfl rfl,JpM I N O J⟩
theorem Jrz (ad:Nat->Addr) (b:eT) (p:Option Addr) (J:Nat) (w:World) (hc:Yn w b.c p J) (b7:b.put=true) (ht:b.text.size<=3000) (f4:Zt b.who) (f5:Zt b.op) (f6:Zt b.config) (hE:Zp w ad) (hX:qO w) :
 Calls prog 8 #[.int .i64 b.who,.int .i64 b.op,.agg #[.int .i64 b.c.n,.int .i64 b.c.k,.slice p b.c.L.length J],.int .i64 b.config,.string b.key,.string b.text] w fun e w'=>pP Qw ad b w.heap.size e w'/\Below w.heap.size w w':=by
 obtain ⟨y,N⟩:∃ y,y=w.alloc (.cells #[.int .i64 b.who] 3):=⟨_,rfl⟩
 have a6:Below w.heap.size w y:=by rw [N];exact (Below.refl _ _).alloc (Nat.le_refl _) _
 have a7:y.heap.size=w.heap.size+1:=by rw [N];simp
 have d3:y.heap[w.heap.size]?=some (.cells #[.int .i64 b.who] 3 (0,0)):=by
  rw [N]
  show (w.heap.push _)[w.heap.size]?=_
  simp
 obtain ⟨D,X⟩:∃ D,D=y.alloc (.cells #[.int .i64 b.c.n,.int .i64 b.c.k,.slice p b.c.L.length J] 24):=⟨_,rfl⟩
 have a8:Below y.heap.size y D:=by rw [X];exact (Below.refl _ _).alloc (Nat.le_refl _) _
 have d4:Below w.heap.size w D:=a6.trans (a8.mono a6.size)
 have d5:D.heap[w.heap.size]?=some (.cells #[.int .i64 b.who] 3 (0,0)):=(a8.block _ (by omega)).trans d3
 have d6:D.heap[w.heap.size+1]?=some (.cells #[.int .i64 b.c.n,.int .i64 b.c.k,.slice p b.c.L.length J] 24 (0,0)):=by
  rw [X,<- a7]
  show (y.heap.push _)[y.heap.size]?=_
  simp
 have d7:=Xs b.text D (by omega)
 have d8:Hid (∀ W tb,Below w.heap.size w W->Calls prog 34 #[.int .i64 b.who,.int .i64 b.op,.agg #[.int .i64 b.c.n,.int .i64 b.c.k,.slice p b.c.L.length J],.int .i64 b.config,.string b.key,.func (.func 35) #[] #[.pointer (some ⟨w.heap.size,0,none⟩),.pointer (some ⟨tb,0,none⟩)]] W _):=fun W tb hW=>Jct ad b.who b.op b.config b.c p J b.key 35 #[.pointer (some ⟨w.heap.size,0,none⟩),.pointer (some ⟨tb,0,none⟩)] W (hc.below hW) f4 (hE.below hW) (TabIs.dJ hX.2 (fun k hk=>hW.block k hk))
 have f7:Hid (y=w.alloc (.cells #[.int .i64 b.who] 3)):=N
 have d9:Hid (D=y.alloc (.cells #[.int .i64 b.c.n,.int .i64 b.c.k,.slice p b.c.L.length J] 24)):=X
 have f8:Hid (y.heap.size=w.heap.size+1):=a7
 have e0:Hid (Below w.heap.size w D):=d4
 have Y:Hid (D.heap[w.heap.size]?=some (.cells #[.int .i64 b.who] 3 (0,0))/\D.heap[w.heap.size+1]?=some (.cells #[.int .i64 b.c.n,.int .i64 b.c.k,.slice p b.c.L.length J] 24 (0,0))):=⟨d5,d6⟩
 have f9:Hid (Zp w ad):=hE
 have a9:=DK b
 rw [b7] at a9
 have b0:Hid (JX b=if 0 < (ZG b.who b.op b.config b.c b.key).1 then ZG b.who b.op b.config b.c b.key else if true=true/\1000 < b.text.size then (2,-1) else (0,-1)):=a9
 have e3:Hid (b.put=true):=b7
 have g0:Hid (Zt b.op):=f5
 have g1:Hid (Zt b.config):=f6
 clear N X a6 a8 d4 d3 d5 d6 a7 hc hE hX a9 b7 f5 f6 f4
 go_enter func8,ntmps8
 go_wp2_with (first | rw [<- f7.out] | rw [<- d9.out,f8.out] | rw [<- d9.out] | fail)
 refine d7.mono ?_
 rintro e G ⟨rfl,Z⟩
 obtain ⟨j,O⟩:∃ j,j=G.alloc (.cells #[.string b.text] 9):=⟨_,rfl⟩
 have e4:Below G.heap.size G j:=by rw [O];exact (Below.refl _ _).alloc (Nat.le_refl _) _
 have a0:Below D.heap.size D j:=Z.trans (e4.mono Z.size)
 have e5:j.heap.size=G.heap.size+1:=by rw [O];simp
 have e6:j.heap[G.heap.size]?=some (.cells #[.string b.text] 9 (0,0)):=by
  rw [O]
  show (G.heap.push _)[G.heap.size]?=_
  simp
 have e7:=YG Y.out.1
 have e8:=YG Y.out.2
 have b1:=(a0.block _ e7).trans Y.out.1
 have a1:=(a0.block _ e8).trans Y.out.2
 have c0:=(Jb b1 0).1
 have d0:=(Jb a1 0).1
 have d1:=(Jb a1 1).1
 have d2:=(Jb a1 2).1
 have a2:Hid (Below w.heap.size w j):=e0.out.trans (a0.mono e0.out.size)
 have e9:=d8.out j G.heap.size a2.out
 have g2:Hid (j=G.alloc (.cells #[.string b.text] 9)):=O
 have Q:Hid (j.heap[w.heap.size]?=some (.cells #[.int .i64 b.who] 3 (0,0))/\j.heap[G.heap.size]?=some (.cells #[.string b.text] 9 (0,0))/\w.heap.size < G.heap.size):=⟨b1,e6,by have:=Z.size;omega⟩
 have g3:Hid (j.heap.size=G.heap.size+1):=e5
 clear d7 d8 O e4 a0 e5 e6 b1 a1 Z e7 e8
 go_wp2_with (first | rw [<- g2.out] | fail)
 refine e9.mono ?_
 rintro e w5 ⟨⟨ev,K,g4⟩,b2⟩
 have a3:Hid (Below w.heap.size w w5):=a2.out.trans (b2.mono a2.out.size)
 have b3:Hid (Below j.heap.size j w5):=b2
 clear e9 b2 c0 d0 d1 d2
 rcases g4 with ⟨a4,rfl⟩ | ⟨M,h,gf,gt,mb,rfl,b4,a5,b5,b6⟩
 ·have I:Hid (JX b=ZG b.who b.op b.config b.c b.key):=by show _=_;rw [b0.out,if_pos a4]
  have g5:Hid (Jd w5 ad ev (ZG b.who b.op b.config b.c b.key).1 (ZG b.who b.op b.config b.c b.key).2):=K
  have g6:Hid (0 < (ZG b.who b.op b.config b.c b.key).1):=a4
  obtain ⟨et,eu,rfl⟩:=K.some a4
  clear K a4
  go_wp2
  go_ret2
  exact ⟨⟨.iface et eu,by rw [I.out];exact g5.out,Or.inl ⟨by rw [I.out];exact g6.out,rfl⟩⟩,a3.out⟩
 ·rw [M] at K
  obtain rfl:=Jd.isNil K
  have g7:=(f9.out.below a3.out).c1
  by_cases U:1000 < b.text.size
  ·have I:Hid (JX b=(2,-1)):=by show _=_;rw [b0.out,if_neg (by rw [M];decide),if_pos (by first | exact ⟨rfl,U⟩ | exact ⟨trivial,U⟩)]
   have g8:decide ((1000:Int) < (b.text.size:Int))=true:=decide_eq_true (by omega)
   clear K b4 a5 b5 b6 M U
   go_wp2
   go_quiet (fail)
   go_wp2
   go_ret2
   exact ⟨⟨.iface 252 (.pointer (some (ad 1))),by rw [I.out];exact Jd.b8 1 (by decide),Or.inl ⟨by rw [I.out];decide,rfl⟩⟩,below_drewN a3.out _⟩
  ·have I:Hid (JX b=(0,-1)):=by show _=_;rw [b0.out,if_neg (by rw [M];decide),if_neg (fun h=>U h.2)]
   have g8:decide ((1000:Int) < (b.text.size:Int))=false:=decide_eq_false (by omega)
   have f3:Hid (Qw w5 w.heap.size h (fun k=>k=h∨k=mb∨k=gf∨k=gt∨(k=w.heap.size∨k=G.heap.size)) b.ask):=by
    have y1:=a5.iX
    have y2:=Q.out.2.2
    have y3:=g3.out
    have y4:=b3.out.size
    have y5:=a2.out.size
    have q0:=(Jb ((b3.out.block _ (YG Q.out.1)).trans Q.out.1) 0).1
    have q1:=(Jb ((b3.out.block _ (YG Q.out.2.1)).trans Q.out.2.1) 0).1
    have e1:b.ask.put=true:=e3.out
    have e2:b.ask.text=b.text:=by show (if b.put=true then b.text else ⟨#[]⟩)=_;rw [if_pos e3.out]
    exact IG M g0.out g1.out (fun _=>by omega) y5 a5 b5 b6 b4 (fun k hk=>by rcases hk with rfl | rfl;exact ⟨by omega,by omega,by omega,by omega⟩;exact ⟨by omega,by omega,by omega,by omega⟩) (by rw [e1,e2];exact VK (Or.inr (Or.inr (Or.inl rfl))) (Or.inr (Or.inr (Or.inr rfl))) q0 q1)
   clear K b4 a5 b5 b6 M U g7
   go_wp2
   go_ret2
   exact ⟨⟨.nilIface,by rw [I.out];exact Jd.nil _ _,by first | exact Or.inr ⟨by rw [I.out];decide,_,rfl,_,f3.out⟩ | exact Or.inr ⟨by rw [I.out];decide,_,_,rfl,f3.out⟩⟩,a3.out⟩
theorem OT (ad:Nat->Addr) (b:eT) (p:Option Addr) (G:Nat) (w:World) (hc:Yn w b.c p G) (X:b.put=false) (a8:Zt b.who) (a9:Zt b.op) (b0:Zt b.config) (hE:Zp w ad) (hX:qO w) :
 Calls prog 10 #[.int .i64 b.who,.int .i64 b.op,.agg #[.int .i64 b.c.n,.int .i64 b.c.k,.slice p b.c.L.length G],.int .i64 b.config,.string b.key] w fun e w'=>pP Qw ad b w.heap.size e w'/\Below w.heap.size w w':=by
 obtain ⟨j,J⟩:∃ j,j=w.alloc (.cells #[.int .i64 b.c.n,.int .i64 b.c.k,.slice p b.c.L.length G] 24):=⟨_,rfl⟩
 have I:Below w.heap.size w j:=by rw [J];exact (Below.refl _ _).alloc (Nat.le_refl _) _
 have K:j.heap[w.heap.size]?=some (.cells #[.int .i64 b.c.n,.int .i64 b.c.k,.slice p b.c.L.length G] 24 (0,0)):=by
  rw [J]
  show (w.heap.push _)[w.heap.size]?=_
  simp
 have d0:=(Jb K 0).1
 have d1:=(Jb K 1).1
 have d2:=(Jb K 2).1
 have Y:=Jct ad b.who b.op b.config b.c p G b.key 37 #[] j (hc.below I) a8 (hE.below I) (TabIs.dJ hX.2 (fun k O=>I.block k O))
 have b1:Hid (j=w.alloc (.cells #[.int .i64 b.c.n,.int .i64 b.c.k,.slice p b.c.L.length G] 24)):=J
 have Q:Hid (Below w.heap.size w j):=I
 have U:=DK b
 rw [X] at U
 have Z:Hid (JX b=if 0 < (ZG b.who b.op b.config b.c b.key).1 then ZG b.who b.op b.config b.c b.key else (0,-1)):=by
  show _=_
  rw [U,if_neg (fun h=>by cases h.1:¬ (false=true/\1000 < b.text.size))]
 have a0:Hid (b.put=false):=X
 have b2:Hid (Zt b.op):=a9
 have b3:Hid (Zt b.config):=b0
 clear J I K hc hE hX U X a9 b0 a8
 go_enter func10,ntmps10
 go_wp2_with (first | rw [<- b1.out] | fail)
 refine Y.mono ?_
 rintro e W ⟨⟨ev,y,b4⟩,a1⟩
 have a2:Hid (Below w.heap.size w W):=Q.out.trans (a1.mono Q.out.size)
 clear Y a1 d0 d1 d2
 rcases b4 with ⟨M,rfl⟩ | ⟨N,h,gf,gt,mb,rfl,a3,a4,a5,a6⟩
 ·have D:Hid (JX b=ZG b.who b.op b.config b.c b.key):=by show _=_;rw [Z.out,if_pos M]
  have b5:Hid (Jd W ad ev (ZG b.who b.op b.config b.c b.key).1 (ZG b.who b.op b.config b.c b.key).2):=y
  have b6:Hid (0 < (ZG b.who b.op b.config b.c b.key).1):=M
  obtain ⟨et,eu,rfl⟩:=y.some M
  clear y M
  go_wp2
  go_ret2
  exact ⟨⟨.iface et eu,by rw [D.out];exact b5.out,Or.inl ⟨by rw [D.out];exact b6.out,rfl⟩⟩,a2.out⟩
 ·rw [N] at y
  obtain rfl:=Jd.isNil y
  have D:Hid (JX b=(0,-1)):=by show _=_;rw [Z.out,if_neg (by rw [N];decide)]
  have a7:Hid (Qw W w.heap.size h (fun k=>k=h∨k=mb∨k=gf∨k=gt∨False) b.ask):=by
   have e1:b.ask.put=false:=a0.out
   exact IG N b2.out b3.out (fun h=>by rw [a0.out] at h;cases h) Q.out.size a4 a5 a6 a3 (fun k O=>O.elim) (by rw [e1];exact EY _ _ _ _)
  clear y a3 a4 a5 a6 N
  go_wp2
  go_ret2
  exact ⟨⟨.nilIface,by rw [D.out];exact Jd.nil _ _,by first | exact Or.inr ⟨by rw [D.out];decide,_,rfl,_,a7.out⟩ | exact Or.inr ⟨by rw [D.out];decide,_,_,rfl,a7.out⟩⟩,a2.out⟩
theorem eL (ad:Nat->Addr):WS ad qO Qw where
 dH:=fun ⟨⟨_,_,_,_,_,_,_,_,_,_,y⟩,_⟩ k I=>y.aO k I
 aS:=fun ⟨⟨_,_,_,_,_,_,_,_,_,_,y⟩,hm⟩ J I=>⟨⟨_,_,_,_,_,_,_,_,_,_,y.aS J.size I⟩,hm⟩
 put:=fun b p K w j M _ ht N O Q U X=>Jrz ad b p K w j M ht N O Q U X
 get:=fun b p K w j M _ N O Q U X=>OT ad b p K w j M N O Q U X
 begin:=fun {_ _ _ S _} j _=>(yJ j).mono fun _ _ D=>⟨(by obtain ⟨p,c,Y,Z⟩:=D.1;exact ⟨p,c,Y,Z.n⟩),S,⟨by obtain ⟨_,_,_,_,_,_,_,_,_,_,y⟩:=j.1;exact ⟨_,_,_,_,_,_,_,_,_,_,y.below D.2⟩,j.2⟩,Yd.aJ D.2⟩
 aD:=fun x j hL hs hv hG=>(EK ad j x hL hs hv (fun W h1 G=>⟨(hG W h1 G).1,(hG W h1 G).2.1⟩)).mono fun _ _ D=>by
  obtain ⟨S',⟨p,c,Y,Z⟩,G,h3⟩:=D
  exact ⟨⟨p,c,Y,Z.new (fun b J=>J.1)⟩,S',G,h3⟩
 state:=fun j=>CL j
 answer:=fun j=>AR j
section
def Qk (Ak:World->Nat->Nat->(Nat->Prop)->Za->Prop) (B0 B h ab:Nat) (mv nv:Value) (M:Nat) (W:World) (a a':Za):Prop :=
 ∃ S S' fv lv j,Ak W B h S a'/\Xh W B0 S' ab a mv nv fv lv j/\(∀ k,S k->¬ S' k)/\(∀ k,S' k->B<=k/\k < M)/\B<=W.heap.size/\B0<=B/\M<=W.heap.size
variable {ad:Nat->Addr} {X:World->Prop} {Ak:World->Nat->Nat->(Nat->Prop)->Za->Prop} {B0 B h ab M:Nat} {mv nv:Value} {w0 W W':World} {a a':Za}
theorem Qk.below (G:WS ad X Ak) (Y:Qk Ak B0 B h ab mv nv M W a a') (j:Below W.heap.size W W'):Qk Ak B0 B h ab mv nv M W' a a':=by
 obtain ⟨S,S',fv,lv,I,y,J,K,N,D,O,Q⟩:=Y
 exact ⟨S,S',fv,lv,I,G.aS y (j.mono D) (fun k U=>j.block k (G.dH y k U).2),J.below j,K,N,Nat.le_trans D j.size,O,Nat.le_trans Q j.size⟩
theorem Qk.up (O:Qk Ak B0 B h ab mv nv M W a a'):Qk Ak B0 B h ab mv nv W.heap.size W a a':=by
 obtain ⟨S,S',fv,lv,D,G,j,I,J,K,N,Q⟩:=O
 exact ⟨S,S',fv,lv,D,G,j,I,fun k y=>⟨(J k y).1,(j.aO k y).2⟩,K,N,Nat.le_refl _⟩
theorem Qk.n5 (y:Qk Ak B0 B h ab mv nv M W a a'):W.cell? ⟨ab,13,none⟩=some (.string a.st.word)/\W.cell? ⟨ab,19,none⟩=some (.bool a.found)/\W.cell? ⟨ab,16,none⟩=some (.int .i64 a.tag.1)/\W.cell? ⟨ab,17,none⟩=some (.int .i64 a.tag.2)/\W.cell? ⟨ab,18,none⟩=some (.string a.text):=by
 obtain ⟨S,S',fv,lv,D,G,j,_⟩:=y
 exact ⟨j.cell 13,j.cell 19,j.cell 16,j.cell 17,j.cell 18⟩
theorem Jem (hO:WS ad X Ak) (hG:∀ V:World,w0.heap.size<=V.heap.size->(∀ k,k < w0.heap.size->V.heap[k]?=w0.heap[k]?)->Zp V ad/\X V) (hw:w0.heap.size=B0) (G:Below w0.heap.size w0 W) (x:Zb×Lv) (hL:Jn W x) (a1:a.small x.1) (hv:∀ v ∈ x.1.L,Jt v) (hm:Qk Ak B0 B h ab mv nv M W a a) :
 Calls prog 18 #[.pointer (some ⟨h,0,none⟩),Z1 x.1 (fI x.2)] W fun e w'=>∃ p c,e=.returned (.slice p (a.aD x.1).2.length c)/\pD M w' p (a.aD x.1).2/\Qk Ak B0 B h ab mv nv M w' a (a.aD x.1).1/\Below w0.heap.size w0 w':=by
 obtain ⟨S,S',fv,lv,vs,J,I,K,h4,N,O,Q⟩:=hm
 have U:∀ k,S k->w0.heap.size<=k:=fun k j=>by have:=(hO.dH J k j).1;omega
 refine (hO.aD x J hL a1 hv (fun V hs j=>hG V (Nat.le_trans G.size hs) (fun k Y=>(j k (Nat.lt_of_lt_of_le Y G.size) (fun D=>by have:=U k D;omega)).trans (G.block k Y)))).mono fun e w' hq=>?_
 obtain ⟨⟨p,c,e1,e2⟩,S1,g1,y⟩:=hq
 have Z:Below B0 W w':=⟨y.os,y.tape,y.output,y.size,fun k j=>y.block k (Nat.lt_of_lt_of_le j (Nat.le_trans O N)) (fun D=>by have:=U k D;omega)⟩
 refine ⟨p,c,e1,e2.mono Q,⟨S1,S',fv,lv,vs,g1,I.aS Z (fun k j=>y.block k (I.aO k j).2 (fun D=>K k D j)),fun k j a0=>?_,h4,Nat.le_trans N y.size,O,Nat.le_trans Q y.size⟩,G.trans (hw ▸ Z)⟩
 rcases y.new k j with j | j
 ·exact K k j a0
 ·have:=(I.aO k a0).2
  omega
theorem JdU (Y:WS ad X Ak) (hw:w0.heap.size=B0) (J:Below w0.heap.size w0 W) (x:Zb×Lv) (hf:JU a) (hL:Jn w0 x) (a5:a.small x.1)  (hp:pD M W p l) (hm:Qk Ak B0 B h ab mv nv M W a (a.aD x.1).1) :
 Calls prog 20 #[.pointer (some ⟨ab,0,none⟩),.agg #[.string x.1.from_,.string x.1.aP,.string x.1.kind,.string x.1.key,.int .i64 x.1.op,.int .i64 x.1.config,.bool x.1.shut,.slice x.2.1 x.2.2.1 x.2.2.2]] W fun e w'=>∃ q d,e=.returned (.slice q (a.aD x.1).2.length d)/\(mN w' q (a.aD x.1).2/\mN w' p l)/\(Qk Ak B0 B h ab mv nv w'.heap.size w' (a.aD x.1).1 (a.aD x.1).1/\Below w0.heap.size w0 w'):=by
 obtain ⟨S,S',fv,lv,vs,Q,h2,Z,K,h5,h6,h7⟩:=hm
 refine (JdP h2 x hf (hL.below J) a5 (fun V hs D=>?_)).mono fun e w' hq=>?_
 ·rcases hL.eC with e0 | ⟨b,o,U,N,e3⟩
  ·exact Or.inl e0
  ·refine Or.inr ⟨b,o,U,by have:=J.size;omega,fun j y hy jj u hu=>?_⟩
   rw [World.cell?_of_block (a:=⟨b,o+j*Ze.k+jj,none⟩) ((D b (Nat.lt_of_lt_of_le N J.size) (fun I=>by have:=(K b I).1;omega)).trans (J.block b N))]
   exact e3 j y hy jj u hu
 ·obtain ⟨⟨q,d,U,N⟩,S2,a1,a2,a3,g1,G⟩:=hq
  have a0:Below B W w':=⟨G.os,G.tape,G.output,G.size,fun k D=>G.block k (Nat.lt_of_lt_of_le D h5) (fun I=>by have:=(K k I).1;omega)⟩
  refine ⟨q,d,U,⟨N,hp.nJ G.size (fun k a6 a4=>G.block k a4 (fun I=>by have:=(K k I).2;omega))⟩,⟨S,S2,a1,a2,a3,Y.aS Q a0 (fun k D=>G.block k (Y.dH Q k D).2 (Z k D)),g1,fun k D O=>?_,fun k D=>⟨?_,(g1.aO k D).2⟩,Nat.le_trans h5 G.size,h6,Nat.le_refl _⟩,J.trans (a0.mono (by omega))⟩
  ·rcases G.new k O with O | O
   ·exact Z k D O
   ·have:=(Y.dH Q k D).2
    omega
  ·rcases G.new k D with D | D
   ·exact (K k D).1
   ·omega
theorem JdV (a:Za) (m:Zb):Xi (a.aD m).1.L.flatten<=Xi a.L.flatten+nR m:=by
 have j:Xi (a.heard m).L.flatten=Xi a.L.flatten+Xi m.L:=by
  show Xi (a.L ++ [m.L]).flatten=_
  unfold Xi
  rw [List.flatten_append,List.map_append,List.sum_append]
  simp
 have y:Xi m.L<=nR m:=by unfold nR;omega
 unfold Za.aD
 split
 ·exact Nat.le_add_right _ _
 ·split
  ·exact Nat.le_add_right _ _
  ·split
   ·rw [j];omega
   ·split
    ·show Xi (a.heard m).L.flatten<=_
     rw [j];omega
    ·split
     ·show Xi (a.heard m).bR.L.flatten<=_
      have e:(a.heard m).bR.L=(a.heard m).L:=by unfold Za.bR;split <;> rfl
      rw [e,j];omega
     ·show Xi (a.heard m).bR.keeps.L.flatten<=_
      have e:(a.heard m).bR.keeps.L=[]:=by unfold Za.keeps;split <;> rfl
      rw [e]
      exact Nat.zero_le _
end
def x8:eT:=⟨false,0,0,0,⟨1,1,[⟨#[97]⟩]⟩,⟨#[107]⟩,⟨#[]⟩⟩
theorem Jdp:JX x8=(0,-1):=by decide +kernel
theorem Jc0:x8.ask.begin=[⟨⟨#[99,48]⟩,⟨#[97]⟩,⟨#[108,111,111,107]⟩,⟨#[107]⟩,0,0,false,[]⟩]:=by
 have j:JY 0=⟨#[99,48]⟩:=by decide +kernel
 unfold Za.begin Za.send eT.ask x8
 simp only [j]
 rfl
theorem zE {X:World->Prop} {Ak:World->Nat->Nat->(Nat->Prop)->Za->Prop} (hO:WS ad X Ak) (w:World) (hS:∀ W,Below w.heap.size w W->Zp W ad) (hX:∀ W,Below w.heap.size w W->X W) :
 Calls prog 5 #[] w fun e w'=>e=.returned (.bool true)/\Below w.heap.size w w':=by
 obtain ⟨j,y⟩:∃ j,j=(w.alloc (.cells #[.string ⟨#[97]⟩] 9)).alloc (.cells #[.int .i64 1,.int .i64 1,.slice (some ⟨w.heap.size,0,none⟩) 1 1] 24):=⟨_,rfl⟩
 have b0:Hid (j=(w.alloc (.cells #[.string ⟨#[97]⟩] 9)).alloc (.cells #[.int .i64 1,.int .i64 1,.slice (some ⟨w.heap.size,0,none⟩) 1 1] 24)):=y
 have J:Below w.heap.size w j:=by rw [y];exact ((Below.refl _ _).alloc (Nat.le_refl _) _).alloc (by simp) _
 have N:Below (w.alloc (.cells #[.string ⟨#[97]⟩] 9)).heap.size (w.alloc (.cells #[.string ⟨#[97]⟩] 9)) j:=by rw [y];exact (Below.refl _ _).alloc (Nat.le_refl _) _
 have K:(w.alloc (.cells #[.string ⟨#[97]⟩] 9)).heap.size=w.heap.size+1:=by simp
 have a0:j.cell? ⟨w.heap.size,0,none⟩=some (.string ⟨#[97]⟩):=by rw [N.cell (p:=⟨w.heap.size,0,none⟩) (by show w.heap.size < _;omega),World.cell?_alloc_at _ _ _ _ rfl];rfl
 have g0:j.cell? ⟨w.heap.size+1,0,none⟩=some (.int .i64 1):=by rw [y,World.cell?_alloc_at _ _ _ _ K.symm];rfl
 have g1:j.cell? ⟨w.heap.size+1,1,none⟩=some (.int .i64 1):=by rw [y,World.cell?_alloc_at _ _ _ _ K.symm];rfl
 have g2:j.cell? ⟨w.heap.size+1,2,none⟩=some (.slice (some ⟨w.heap.size,0,none⟩) 1 1):=by rw [y,World.cell?_alloc_at _ _ _ _ K.symm];rfl
 have a1:Yn j x8.c (some ⟨w.heap.size,0,none⟩) 1:=⟨Or.inr ⟨w.heap.size,0,rfl,by have:=N.size;omega,fun i hi=>by
  obtain rfl:i=0:=by simpa [x8] using hi
  exact a0⟩,Nat.le_refl _,(fun e=>by cases e),by decide,(fun x G=>by simp [x8] at G;subst G;decide),⟨by decide,by decide⟩,by decide,by decide⟩
 have hg:=hO.get x8 (some ⟨w.heap.size,0,none⟩) 1 j a1 rfl (by decide) ⟨by decide,by decide⟩ ⟨by decide,by decide⟩ ⟨by decide,by decide⟩ (hS j J) (hX j J)
 have HG:Hid (Calls prog 10 #[.int .i64 0,.int .i64 0,.agg #[.int .i64 1,.int .i64 1,.slice (some ⟨w.heap.size,0,none⟩) 1 1],.int .i64 0,.string ⟨#[107]⟩] j fun e w'=>(∃ h S,e=.returned (.tuple #[.pointer (some ⟨h,0,none⟩),.nilIface])/\Ak w' j.heap.size h S x8.ask)/\Below j.heap.size j w'):=hg.mono fun e w' hp=>by
  obtain ⟨⟨ev,h1,h2⟩,h3⟩:=hp
  rw [Jdp] at h1 h2
  obtain rfl:=h1.isNil
  rcases h2 with ⟨h4,_⟩ | ⟨_,h,S,he,I⟩
  ·exact absurd h4 (by decide)
  ·exact ⟨⟨h,S,he,I⟩,h3⟩
 have O:Hid (Below w.heap.size w j):=J
 have Q:Hid (WS ad X Ak):=hO
 have HX:Hid (∀ W,Below w.heap.size w W->X W):=hX
 clear hg a1 a0 J y hS hO hX N K
 go_enter func5,ntmps5
 go_wp2_with (first | rw [<- b0.out] | fail)
 refine HG.out.mono ?_
 rintro e U ⟨⟨h,S,rfl,I⟩,a2⟩
 have Y:Hid (Below w.heap.size w U):=O.out.trans (a2.mono O.out.size)
 have a3:=Q.out.begin I (HX.out U Y.out)
 have a4:=Q.out.dH I
 have b1:Hid (∀ k,S k->j.heap.size<=k/\k < U.heap.size):=a4
 have b2:Hid (w.heap.size<=j.heap.size):=O.out.size
 clear I a2 HG a4
 go_wp2_with fail
 refine a3.mono ?_
 rintro e M ⟨⟨p,c,rfl,hm⟩,S',a5,D⟩
 rw [Jc0] at hm ⊢
 have a6:Hid (Below w.heap.size w M):=Y.out.trans ⟨D.os,D.tape,D.output,D.size,fun k hk=>D.block k (Nat.lt_of_lt_of_le hk Y.out.size) (fun hs=>by have:=(b1.out k hs).1;have:=b2.out;omega)⟩
 obtain ⟨ml,Z,hr,_⟩:=hm
 obtain ⟨x,rfl⟩:∃ x,ml=[x]:=List.length_eq_one_iff.1 (by have:=congrArg List.length Z;simpa using this)
 have G:x.1=⟨⟨#[99,48]⟩,⟨#[97]⟩,⟨#[108,111,111,107]⟩,⟨#[107]⟩,0,0,false,[]⟩:=by simpa using Z
 obtain ⟨b,o,b3,b5,d0,d1,d2,d3,d4,d5,d6,d7⟩:=ML hr (i:=0) (by simp)
 simp only [List.getElem_cons_zero,G,Nat.zero_mul,Nat.add_zero] at d0 d2
 have a7:=Q.out.state a5
 have a8:Hid (Calls prog 21 #[.pointer (some ⟨h,0,none⟩)] M fun e w'=>e=.returned (.string ⟨#[108,111,111,107,105,110,103]⟩)/\Below M.heap.size M w'):=a7
 subst b3
 clear hr Z G d1 d3 d4 d5 d6 d7 a7 a5 D a3
 go_wp2_with fail
 refine a8.out.mono ?_
 rintro e w4 ⟨rfl,a9⟩
 have b4:Hid (Below w.heap.size w w4):=a6.out.trans (a9.mono a6.out.size)
 clear a9 a8
 go_wp2
 go_ret
 exact ⟨rfl,b4.out⟩
section
variable {ad:Nat->Addr} {X:World->Prop} {Ak:World->Nat->Nat->(Nat->Prop)->Za->Prop}
structure sS (ad:Nat->Addr) (X:World->Prop) (b:eT) (p:Option Addr) (cap:Nat) (l:List Zb) (lp:Option Addr) (w:World):Prop where
 eZ:∀ V:World,w.heap.size<=V.heap.size->(∀ k,k < w.heap.size->V.heap[k]?=w.heap[k]?)->Zp V ad/\X V
 b8:∀ V:World,Below w.heap.size w V->x3 V ad
 strs:Strs w p b.c.L
 room:b.c.L.length<=cap
 empty:p=none->b.c.L=[]/\cap=0
 ints:Jt5 b.c
 who:Zt b.who
 op:Zt b.op
 config:Zt b.config
 len:b.c.L.length<=maxLen
 size:∀ x ∈ b.c.L,x.size<=maxLen
 pE:Qa l<=4611686018427387904
 msgs:mN w lp l
 cM:∀ m ∈ l,∀ v ∈ m.L,Jt v
theorem sS.ok  {D:Nat} {G:Option Addr} (h:sS ad X b p D l G w) (j:Below w.heap.size w V):Zp V ad/\X V:=h.eZ V j.size (fun k y=>j.block k y)
theorem Jcj (hO:WS ad X Ak) (b:eT) (p:Option Addr) (I:Nat) (l:List Zb) (N:Option Addr) (Z:Nat) (w:World) (J:sS ad X b p I l N w) (h1:Zx b.c=true):Calls prog 3 #[.agg #[.bool b.put,.int .i64 b.who,.int .i64 b.op,.int .i64 b.config,.int .i64 b.c.n,.int .i64 b.c.k,.slice p b.c.L.length I,.string b.key,.string b.text],.slice N l.length Z] w fun e w'=>e=.returned (.bool true)/\Below w.heap.size w w':=by
 obtain ⟨j,K⟩:∃ j,j=w.alloc (.cells #[.bool b.put,.int .i64 b.who,.int .i64 b.op,.int .i64 b.config,.int .i64 b.c.n,.int .i64 b.c.k,.slice p b.c.L.length I,.string b.key,.string b.text] 26):=⟨_,rfl⟩
 have G:Below w.heap.size w j:=by rw [K];exact (Below.refl _ _).alloc (Nat.le_refl _) _
 have a0:w.heap.size < j.heap.size:=by rw [K];simp
 have a1:j.heap[w.heap.size]?=some (.cells #[.bool b.put,.int .i64 b.who,.int .i64 b.op,.int .i64 b.config,.int .i64 b.c.n,.int .i64 b.c.k,.slice p b.c.L.length I,.string b.key,.string b.text] 26 (0,0)):=by
  rw [K]
  show (w.heap.push _)[w.heap.size]?=_
  simp
 have a2:Hid (∀ W,Below j.heap.size j W->(W.cell? ⟨w.heap.size,0,none⟩=some (.bool b.put)/\W.cell? ⟨w.heap.size,1,none⟩=some (.int .i64 b.who)/\W.cell? ⟨w.heap.size,2,none⟩=some (.int .i64 b.op)/\W.cell? ⟨w.heap.size,3,none⟩=some (.int .i64 b.config)/\W.cell? ⟨w.heap.size,4,none⟩=some (.int .i64 b.c.n)/\W.cell? ⟨w.heap.size,5,none⟩=some (.int .i64 b.c.k)/\W.cell? ⟨w.heap.size,6,none⟩=some (.slice p b.c.L.length I)/\W.cell? ⟨w.heap.size,7,none⟩=some (.string b.key)/\W.cell? ⟨w.heap.size,8,none⟩=some (.string b.text)/\Below j.heap.size j W)):=fun W y=>by
  have D:=(y.block _ a0).trans a1
  exact ⟨(Ja D 0).1,(Ja D 1).1,(Ja D 2).1,(Ja D 3).1,(Ja D 4).1,(Ja D 5).1,(Ja D 6).1,(Ja D 7).1,(Ja D 8).1,y⟩
 have a3:=zE hO j (fun V O=>(J.ok (G.trans (O.mono G.size))).1) (fun V O=>(J.ok (G.trans (O.mono G.size))).2)
 have a4:Hid (∀ W,Below j.heap.size j W->Calls prog 6 #[.agg #[.int .i64 b.c.n,.int .i64 b.c.k,.slice p b.c.L.length I]] W fun e w'=>e=.returned (.bool (Zx b.c))/\Below j.heap.size j w'):=fun W y=>(X3 b.c p I W J.len J.size ((J.strs.below G).below y)).mono fun e w' M=>⟨M.1,y.trans (M.2.mono y.size)⟩
 have a6:Hid (∀ W,Below j.heap.size j W->Calls prog 7 #[.slice N l.length Z] W fun e w'=>e=.returned (.bool (X5 l))/\Below j.heap.size j w'):=fun W y=>(Qy N l Z W J.pE ((J.msgs.below G).below y)).mono fun e w' M=>⟨M.1,y.trans (M.2.mono y.size)⟩
 have a7:Hid (j=w.alloc (.cells #[.bool b.put,.int .i64 b.who,.int .i64 b.op,.int .i64 b.config,.int .i64 b.c.n,.int .i64 b.c.k,.slice p b.c.L.length I,.string b.key,.string b.text] 26)):=K
 have a5:Hid (Below w.heap.size w j):=G
 rw [h1] at a4
 clear J hO K G a0 a1 a6
 go_enter func3,ntmps3
 go_wp2_with (first | rw [<- a7.out] | fail)
 refine a3.mono ?_
 rintro e Q ⟨rfl,U⟩
 obtain ⟨d0,d1,d2,d3,d4,d5,d6,d7,d8,_⟩:=a2.out Q U
 have a8:Hid (Below j.heap.size j Q):=U
 clear U a3
 go_wp2_with fail
 refine (a4.out Q a8.out).mono ?_
 rintro e w3 ⟨rfl,Y⟩
 clear d0 d1 d2 d3 d4 d5 d6 d7 d8
 obtain ⟨d0,d1,d2,d3,d4,d5,d6,d7,d8,_⟩:=a2.out w3 Y
 have a9:Hid (Below j.heap.size j w3):=Y
 clear Y
 go_wp2
 go_ret
 exact ⟨rfl,a5.out.trans (a9.out.mono a5.out.size)⟩
theorem JcE (hO:WS ad X Ak) (b:eT) (p:Option Addr) (I:Nat) (l:List Zb) (N:Option Addr) (Z:Nat) (w:World) (J:sS ad X b p I l N w) (h1:Zx b.c=false) (h2:100 < b.key.size):Calls prog 3 #[.agg #[.bool b.put,.int .i64 b.who,.int .i64 b.op,.int .i64 b.config,.int .i64 b.c.n,.int .i64 b.c.k,.slice p b.c.L.length I,.string b.key,.string b.text],.slice N l.length Z] w fun e w'=>e=.returned (.bool true)/\Below w.heap.size w w':=by
 obtain ⟨j,K⟩:∃ j,j=w.alloc (.cells #[.bool b.put,.int .i64 b.who,.int .i64 b.op,.int .i64 b.config,.int .i64 b.c.n,.int .i64 b.c.k,.slice p b.c.L.length I,.string b.key,.string b.text] 26):=⟨_,rfl⟩
 have G:Below w.heap.size w j:=by rw [K];exact (Below.refl _ _).alloc (Nat.le_refl _) _
 have a0:w.heap.size < j.heap.size:=by rw [K];simp
 have a1:j.heap[w.heap.size]?=some (.cells #[.bool b.put,.int .i64 b.who,.int .i64 b.op,.int .i64 b.config,.int .i64 b.c.n,.int .i64 b.c.k,.slice p b.c.L.length I,.string b.key,.string b.text] 26 (0,0)):=by
  rw [K]
  show (w.heap.push _)[w.heap.size]?=_
  simp
 have a2:Hid (∀ W,Below j.heap.size j W->(W.cell? ⟨w.heap.size,0,none⟩=some (.bool b.put)/\W.cell? ⟨w.heap.size,1,none⟩=some (.int .i64 b.who)/\W.cell? ⟨w.heap.size,2,none⟩=some (.int .i64 b.op)/\W.cell? ⟨w.heap.size,3,none⟩=some (.int .i64 b.config)/\W.cell? ⟨w.heap.size,4,none⟩=some (.int .i64 b.c.n)/\W.cell? ⟨w.heap.size,5,none⟩=some (.int .i64 b.c.k)/\W.cell? ⟨w.heap.size,6,none⟩=some (.slice p b.c.L.length I)/\W.cell? ⟨w.heap.size,7,none⟩=some (.string b.key)/\W.cell? ⟨w.heap.size,8,none⟩=some (.string b.text)/\Below j.heap.size j W)):=fun W y=>by
  have D:=(y.block _ a0).trans a1
  exact ⟨(Ja D 0).1,(Ja D 1).1,(Ja D 2).1,(Ja D 3).1,(Ja D 4).1,(Ja D 5).1,(Ja D 6).1,(Ja D 7).1,(Ja D 8).1,y⟩
 have a3:=zE hO j (fun V O=>(J.ok (G.trans (O.mono G.size))).1) (fun V O=>(J.ok (G.trans (O.mono G.size))).2)
 have a4:Hid (∀ W,Below j.heap.size j W->Calls prog 6 #[.agg #[.int .i64 b.c.n,.int .i64 b.c.k,.slice p b.c.L.length I]] W fun e w'=>e=.returned (.bool (Zx b.c))/\Below j.heap.size j w'):=fun W y=>(X3 b.c p I W J.len J.size ((J.strs.below G).below y)).mono fun e w' M=>⟨M.1,y.trans (M.2.mono y.size)⟩
 have a6:Hid (∀ W,Below j.heap.size j W->Calls prog 7 #[.slice N l.length Z] W fun e w'=>e=.returned (.bool (X5 l))/\Below j.heap.size j w'):=fun W y=>(Qy N l Z W J.pE ((J.msgs.below G).below y)).mono fun e w' M=>⟨M.1,y.trans (M.2.mono y.size)⟩
 have a7:Hid (j=w.alloc (.cells #[.bool b.put,.int .i64 b.who,.int .i64 b.op,.int .i64 b.config,.int .i64 b.c.n,.int .i64 b.c.k,.slice p b.c.L.length I,.string b.key,.string b.text] 26)):=K
 have a5:Hid (Below w.heap.size w j):=G
 rw [h1] at a4
 have q1:decide ((100:Int) < (b.key.size:Int))=true:=decide_eq_true (by omega)
 clear J hO K G a0 a1 a6
 go_enter func3,ntmps3
 go_wp2_with (first | rw [<- a7.out] | fail)
 refine a3.mono ?_
 rintro e Q ⟨rfl,U⟩
 obtain ⟨d0,d1,d2,d3,d4,d5,d6,d7,d8,_⟩:=a2.out Q U
 have a8:Hid (Below j.heap.size j Q):=U
 clear U a3
 go_wp2_with fail
 refine (a4.out Q a8.out).mono ?_
 rintro e w3 ⟨rfl,Y⟩
 clear d0 d1 d2 d3 d4 d5 d6 d7 d8
 obtain ⟨d0,d1,d2,d3,d4,d5,d6,d7,d8,_⟩:=a2.out w3 Y
 have a9:Hid (Below j.heap.size j w3):=Y
 clear Y
 go_wp2
 go_ret
 exact ⟨rfl,a5.out.trans (a9.out.mono a5.out.size)⟩
theorem Jck (hO:WS ad X Ak) (b:eT) (p:Option Addr) (I:Nat) (l:List Zb) (lp:Option Addr) (a6:Nat) (w:World) (J:sS ad X b p I l lp w) (h1:Zx b.c=false) (h2:¬ 100 < b.key.size) (h3:100 < b.text.size) (h4:b.text.size<=1000∨2000 < b.text.size):Calls prog 3 #[.agg #[.bool b.put,.int .i64 b.who,.int .i64 b.op,.int .i64 b.config,.int .i64 b.c.n,.int .i64 b.c.k,.slice p b.c.L.length I,.string b.key,.string b.text],.slice lp l.length a6] w fun e w'=>e=.returned (.bool true)/\Below w.heap.size w w':=by
 obtain ⟨j,O⟩:∃ j,j=w.alloc (.cells #[.bool b.put,.int .i64 b.who,.int .i64 b.op,.int .i64 b.config,.int .i64 b.c.n,.int .i64 b.c.k,.slice p b.c.L.length I,.string b.key,.string b.text] 26):=⟨_,rfl⟩
 have G:Below w.heap.size w j:=by rw [O];exact (Below.refl _ _).alloc (Nat.le_refl _) _
 have a7:w.heap.size < j.heap.size:=by rw [O];simp
 have a8:j.heap[w.heap.size]?=some (.cells #[.bool b.put,.int .i64 b.who,.int .i64 b.op,.int .i64 b.config,.int .i64 b.c.n,.int .i64 b.c.k,.slice p b.c.L.length I,.string b.key,.string b.text] 26 (0,0)):=by
  rw [O]
  show (w.heap.push _)[w.heap.size]?=_
  simp
 have a0:Hid (∀ W,Below j.heap.size j W->(W.cell? ⟨w.heap.size,0,none⟩=some (.bool b.put)/\W.cell? ⟨w.heap.size,1,none⟩=some (.int .i64 b.who)/\W.cell? ⟨w.heap.size,2,none⟩=some (.int .i64 b.op)/\W.cell? ⟨w.heap.size,3,none⟩=some (.int .i64 b.config)/\W.cell? ⟨w.heap.size,4,none⟩=some (.int .i64 b.c.n)/\W.cell? ⟨w.heap.size,5,none⟩=some (.int .i64 b.c.k)/\W.cell? ⟨w.heap.size,6,none⟩=some (.slice p b.c.L.length I)/\W.cell? ⟨w.heap.size,7,none⟩=some (.string b.key)/\W.cell? ⟨w.heap.size,8,none⟩=some (.string b.text)/\Below j.heap.size j W)):=fun W y=>by
  have D:=(y.block _ a7).trans a8
  exact ⟨(Ja D 0).1,(Ja D 1).1,(Ja D 2).1,(Ja D 3).1,(Ja D 4).1,(Ja D 5).1,(Ja D 6).1,(Ja D 7).1,(Ja D 8).1,y⟩
 have a1:=zE hO j (fun V hV=>(J.ok (G.trans (hV.mono G.size))).1) (fun V hV=>(J.ok (G.trans (hV.mono G.size))).2)
 have a3:Hid (∀ W,Below j.heap.size j W->Calls prog 6 #[.agg #[.int .i64 b.c.n,.int .i64 b.c.k,.slice p b.c.L.length I]] W fun e w'=>e=.returned (.bool (Zx b.c))/\Below j.heap.size j w'):=fun W y=>(X3 b.c p I W J.len J.size ((J.strs.below G).below y)).mono fun e w' Q=>⟨Q.1,y.trans (Q.2.mono y.size)⟩
 have b0:Hid (∀ W,Below j.heap.size j W->Calls prog 7 #[.slice lp l.length a6] W fun e w'=>e=.returned (.bool (X5 l))/\Below j.heap.size j w'):=fun W y=>(Qy lp l a6 W J.pE ((J.msgs.below G).below y)).mono fun e w' Q=>⟨Q.1,y.trans (Q.2.mono y.size)⟩
 have a9:Hid (j=w.alloc (.cells #[.bool b.put,.int .i64 b.who,.int .i64 b.op,.int .i64 b.config,.int .i64 b.c.n,.int .i64 b.c.k,.slice p b.c.L.length I,.string b.key,.string b.text] 26)):=O
 have a2:Hid (Below w.heap.size w j):=G
 rw [h1] at a3
 have q1:decide ((100:Int) < (b.key.size:Int))=false:=decide_eq_false (by omega)
 have q2:decide ((100:Int) < (b.text.size:Int))=true:=decide_eq_true (by omega)
 clear J hO O G a7 a8 b0
 rcases h4 with h4 | h4
 ·have q3:decide ((b.text.size:Int)<=1000)=true:=decide_eq_true (by omega)
  go_enter func3,ntmps3
  go_wp2_with (first | rw [<- a9.out] | fail)
  refine a1.mono ?_
  rintro e K ⟨rfl,M⟩
  obtain ⟨U,Y,Z,d3,d4,d5,d6,d7,d8,_⟩:=a0.out K M
  have a4:Hid (Below j.heap.size j K):=M
  clear M a1
  go_wp2_with fail
  refine (a3.out K a4.out).mono ?_
  rintro e w3 ⟨rfl,N⟩
  clear U Y Z d3 d4 d5 d6 d7 d8
  obtain ⟨U,Y,Z,d3,d4,d5,d6,d7,d8,_⟩:=a0.out w3 N
  have a5:Hid (Below j.heap.size j w3):=N
  clear N
  go_wp2
  go_ret
  exact ⟨rfl,a2.out.trans (a5.out.mono a2.out.size)⟩
 ·have q3:decide ((b.text.size:Int)<=1000)=false:=decide_eq_false (by omega)
  have q4:decide ((2000:Int) < (b.text.size:Int))=true:=decide_eq_true (by omega)
  go_enter func3,ntmps3
  go_wp2_with (first | rw [<- a9.out] | fail)
  refine a1.mono ?_
  rintro e K ⟨rfl,M⟩
  obtain ⟨U,Y,Z,d3,d4,d5,d6,d7,d8,_⟩:=a0.out K M
  have a4:Hid (Below j.heap.size j K):=M
  clear M a1
  go_wp2_with fail
  refine (a3.out K a4.out).mono ?_
  rintro e w3 ⟨rfl,N⟩
  clear U Y Z d3 d4 d5 d6 d7 d8
  obtain ⟨U,Y,Z,d3,d4,d5,d6,d7,d8,_⟩:=a0.out w3 N
  have a5:Hid (Below j.heap.size j w3):=N
  clear N
  go_wp2
  go_ret
  exact ⟨rfl,a2.out.trans (a5.out.mono a2.out.size)⟩
theorem Jcl (hO:WS ad X Ak) (b:eT) (p:Option Addr) (I:Nat) (l:List Zb) (lp:Option Addr) (b1:Nat) (w:World) (J:sS ad X b p I l lp w) (h1:Zx b.c=false) (h2:¬ 100 < b.key.size) (h3:b.text.size<=100∨1000 < b.text.size/\b.text.size<=2000) (h4:X5 l=false):Calls prog 3 #[.agg #[.bool b.put,.int .i64 b.who,.int .i64 b.op,.int .i64 b.config,.int .i64 b.c.n,.int .i64 b.c.k,.slice p b.c.L.length I,.string b.key,.string b.text],.slice lp l.length b1] w fun e w'=>e=.returned (.bool true)/\Below w.heap.size w w':=by
 obtain ⟨j,a1⟩:∃ j,j=w.alloc (.cells #[.bool b.put,.int .i64 b.who,.int .i64 b.op,.int .i64 b.config,.int .i64 b.c.n,.int .i64 b.c.k,.slice p b.c.L.length I,.string b.key,.string b.text] 26):=⟨_,rfl⟩
 have G:Below w.heap.size w j:=by rw [a1];exact (Below.refl _ _).alloc (Nat.le_refl _) _
 have b2:w.heap.size < j.heap.size:=by rw [a1];simp
 have b3:j.heap[w.heap.size]?=some (.cells #[.bool b.put,.int .i64 b.who,.int .i64 b.op,.int .i64 b.config,.int .i64 b.c.n,.int .i64 b.c.k,.slice p b.c.L.length I,.string b.key,.string b.text] 26 (0,0)):=by
  rw [a1]
  show (w.heap.push _)[w.heap.size]?=_
  simp
 have a3:Hid (∀ W,Below j.heap.size j W->(W.cell? ⟨w.heap.size,0,none⟩=some (.bool b.put)/\W.cell? ⟨w.heap.size,1,none⟩=some (.int .i64 b.who)/\W.cell? ⟨w.heap.size,2,none⟩=some (.int .i64 b.op)/\W.cell? ⟨w.heap.size,3,none⟩=some (.int .i64 b.config)/\W.cell? ⟨w.heap.size,4,none⟩=some (.int .i64 b.c.n)/\W.cell? ⟨w.heap.size,5,none⟩=some (.int .i64 b.c.k)/\W.cell? ⟨w.heap.size,6,none⟩=some (.slice p b.c.L.length I)/\W.cell? ⟨w.heap.size,7,none⟩=some (.string b.key)/\W.cell? ⟨w.heap.size,8,none⟩=some (.string b.text)/\Below j.heap.size j W)):=fun W y=>by
  have D:=(y.block _ b2).trans b3
  exact ⟨(Ja D 0).1,(Ja D 1).1,(Ja D 2).1,(Ja D 3).1,(Ja D 4).1,(Ja D 5).1,(Ja D 6).1,(Ja D 7).1,(Ja D 8).1,y⟩
 have a4:=zE hO j (fun V hV=>(J.ok (G.trans (hV.mono G.size))).1) (fun V hV=>(J.ok (G.trans (hV.mono G.size))).2)
 have a6:Hid (∀ W,Below j.heap.size j W->Calls prog 6 #[.agg #[.int .i64 b.c.n,.int .i64 b.c.k,.slice p b.c.L.length I]] W fun e w'=>e=.returned (.bool (Zx b.c))/\Below j.heap.size j w'):=fun W y=>(X3 b.c p I W J.len J.size ((J.strs.below G).below y)).mono fun e w' hq=>⟨hq.1,y.trans (hq.2.mono y.size)⟩
 have a7:Hid (∀ W,Below j.heap.size j W->Calls prog 7 #[.slice lp l.length b1] W fun e w'=>e=.returned (.bool (X5 l))/\Below j.heap.size j w'):=fun W y=>(Qy lp l b1 W J.pE ((J.msgs.below G).below y)).mono fun e w' hq=>⟨hq.1,y.trans (hq.2.mono y.size)⟩
 have b4:Hid (j=w.alloc (.cells #[.bool b.put,.int .i64 b.who,.int .i64 b.op,.int .i64 b.config,.int .i64 b.c.n,.int .i64 b.c.k,.slice p b.c.L.length I,.string b.key,.string b.text] 26)):=a1
 have a5:Hid (Below w.heap.size w j):=G
 rw [h1] at a6
 rw [h4] at a7
 clear J hO a1 G b2 b3
 rcases h3 with h3 | h3
 ·skip
  have q1:decide ((100:Int) < (b.key.size:Int))=false:=decide_eq_false (by omega)
  have q2:decide ((100:Int) < (b.text.size:Int))=false:=decide_eq_false (by omega)
  have q4:decide ((2000:Int) < (b.text.size:Int))=false:=decide_eq_false (by omega)
  go_enter func3,ntmps3
  go_wp2_with (first | rw [<- b4.out] | fail)
  refine a4.mono ?_
  rintro e K ⟨rfl,M⟩
  obtain ⟨N,O,Q,U,Y,Z,d6,d7,d8,_⟩:=a3.out K M
  have a8:Hid (Below j.heap.size j K):=M
  clear M a4
  go_wp2_with fail
  refine (a6.out K a8.out).mono ?_
  rintro e w3 ⟨rfl,a0⟩
  clear N O Q U Y Z d6 d7 d8
  obtain ⟨N,O,Q,U,Y,Z,d6,d7,d8,_⟩:=a3.out w3 a0
  have a9:Hid (Below j.heap.size j w3):=a0
  clear a0
  go_wp2_with fail
  refine (a7.out w3 a9.out).mono ?_
  rintro e w4 ⟨rfl,a2⟩
  clear N O Q U Y Z d6 d7 d8
  have b0:Hid (Below j.heap.size j w4):=a2
  clear a2
  go_wp2
  go_ret
  exact ⟨rfl,a5.out.trans (b0.out.mono a5.out.size)⟩
 ·skip
  have q1:decide ((100:Int) < (b.key.size:Int))=false:=decide_eq_false (by omega)
  have q2:decide ((100:Int) < (b.text.size:Int))=true:=decide_eq_true (by omega)
  have q3:decide ((b.text.size:Int)<=1000)=false:=decide_eq_false (by omega)
  have q4:decide ((2000:Int) < (b.text.size:Int))=false:=decide_eq_false (by omega)
  go_enter func3,ntmps3
  go_wp2_with (first | rw [<- b4.out] | fail)
  refine a4.mono ?_
  rintro e K ⟨rfl,M⟩
  obtain ⟨N,O,Q,U,Y,Z,d6,d7,d8,_⟩:=a3.out K M
  have a8:Hid (Below j.heap.size j K):=M
  clear M a4
  go_wp2_with fail
  refine (a6.out K a8.out).mono ?_
  rintro e w3 ⟨rfl,a0⟩
  clear N O Q U Y Z d6 d7 d8
  obtain ⟨N,O,Q,U,Y,Z,d6,d7,d8,_⟩:=a3.out w3 a0
  have a9:Hid (Below j.heap.size j w3):=a0
  clear a0
  go_wp2_with fail
  refine (a7.out w3 a9.out).mono ?_
  rintro e w4 ⟨rfl,a2⟩
  clear N O Q U Y Z d6 d7 d8
  have b0:Hid (Below j.heap.size j w4):=a2
  clear a2
  go_wp2
  go_ret
  exact ⟨rfl,a5.out.trans (b0.out.mono a5.out.size)⟩
end
end Go.Proofs.YtmikbldbfnlfjaaGreatDoor
