/- Texts laid together. -/
import Derived.Test.YtmikbldbfnlfjaaGreatDoorCs15
import Derived.Deep.Strs
set_option maxRecDepth 100000
set_option maxHeartbeats 8000000
namespace Go.Proofs.YtmikbldbfnlfjaaGreatDoor
open Go.Proofs.Tryz
open Go.RowKit
variable {n k B b r a fuel:Nat}{L:List Yb}{u t:Int×Int}{w W:World}{D:DataW Value}{row:Int×Int->Value}{eK:Int×Int->Nat}{left:Lit->Bool}{found:Bool}{lv v:Value}{H:Type}
section
open Go.Sort
theorem OA (w:World) (n:Nat) (os:Array Obj):RowKit.Below w.heap.size w (grow (w.drewN n) os):=⟨rfl,rfl,rfl,by show w.heap.size<=(w.heap ++ os).size;rw [Array.size_append];omega,fun _ j=>heap_grow_old (w.drewN n) os j⟩
theorem N1 (a b:Int×Int) (w:World):Calls prog 81 #[.agg #[.int .i64 a.1,.int .i64 a.2],.agg #[.int .i64 b.1,.int .i64 b.2]] w fun e w'=>e=.returned (.bool (Qd a b))/\RowKit.Below w.heap.size w w':=(PG a b w).mono fun e w' ⟨j,q,os,y⟩=>⟨j,by rw [y];exact OA w q os⟩
structure JV (n k:Nat) (L:List Yb) (left:Lit->Bool) (t:Int×Int) (found:Bool):Prop where
 no:found=false->t=(0,0)/\∀ u,Jr u->left (YD u)=false->¬ Xp n k L u
 yes:found=true->Jr t/\Xp n k L t/\∀ u,Jr u->left (YD u)=false->Xp n k L u->Qd t u=false
theorem N2  (y:1<=k) (D:∀ v ∈ L,Jr (v.n,v.dT)) (h:Xp n k L u):Jr u:=by
 obtain ⟨v,j,e⟩:=nZ y h
 rw [<- e]
 exact D v j
theorem BN  (j:1<=k) (h:Xp n k L u):(Zf n k u L).2≠[]:=fun e=>by
 unfold Xp at h
 rw [e] at h
 simp at h
 omega
theorem OQ    (I:1<=k) (h:Y1 w B b n k L D row eK):JV n k L (Maps.has D) (0,0) false :=
 ⟨fun _=>⟨rfl,fun u y j G=>by
  rw [h.has u y] at j
  exact of_decide_eq_false j (BN I G)⟩,fun e=>by cases e⟩
theorem wF  (D:Jr t) (G:Jr u) (h:(left (YD u) && !(YD u).sameKey (YD t))=false):left (YD u)=false∨u=t:=by
 cases y:left (YD u) with
 | false=>exact Or.inl rfl
 | true =>
  rw [y] at h
  right
  have j:(YD u).sameKey (YD t)=true:=by
   cases j:(YD u).sameKey (YD t) with
   | true=>rfl
   | false=>rw [j] at h;cases h
  exact xX G D (WideAt.sameKey_eq j)
theorem UO   (h:JV n k L left t found) (J:Jr u) (K:¬ Xp n k L u∨found=true/\Qd t u=false):JV n k L (fun z=>left z && !z.sameKey (YD u)) t found:=by
 refine ⟨fun e=>⟨(h.no e).1,fun x D I G=>?_⟩,fun e=>⟨(h.yes e).1,(h.yes e).2.1,fun x D I G=>?_⟩⟩
 ·rcases wF J D I with y | y
  ·exact (h.no e).2 x D y G
  ·subst y
   rcases K with j | j
   ·exact j G
   ·rw [e] at j;cases j.1
 ·rcases wF J D I with y | y
  ·exact (h.yes e).2.2 x D y G
  ·subst y
   rcases K with j | j
   ·exact absurd G j
   ·exact j.2
theorem RH   (h:JV n k L left t found) (J:Jr u) (N:Xp n k L u) (O:found=true->Qd t u=true):JV n k L (fun z=>left z && !z.sameKey (YD u)) u true:=by
 refine ⟨fun e=>(by cases e),fun _=>⟨J,N,fun x y K G=>?_⟩⟩
 rcases wF J y K with j | j
 ·cases D:found with
  | false=>exact absurd G ((h.no D).2 x y j)
  | true =>
   have I:=(h.yes D).2.2 x y j G
   cases M:Qd u x with
   | false=>rfl
   | true=>rw [yQ (O D) M] at I;cases I
 ·subst j
  simp [Qd]
theorem P8   (D:1<=k) (G:∀ v ∈ L,Jr (v.n,v.dT)) (h:JV n k L left t found) (I:∀ z,left z=false):Ys n k L L=(t,if found then mP n k L t else ⟨#[]⟩,found):=by
 cases found with
 | false =>
  obtain ⟨rfl,j⟩:=h.no rfl
  rw [GP (fun v J=>j _ (G v J) (I _))]
  rfl
 | true =>
  obtain ⟨_,K,j⟩:=h.yes rfl
  rw [IS D K (fun u y=>j u (N2 D G y) (I _) y)]
  rfl
theorem Y1.entry    (h:Y1 w B b n k L D row eK) (X:∀ z,left z=true->Maps.has D z=true) {x:Int×Int} {c:Int×Option Addr×Nat×Nat} {J:Lit} {y:DataW Value×List MemPlace} (Y:keyOf prog 46 (iO x)=some J) (Z:left J=true) (N:YR (X7 c)=some y) (a0:∀ zd,D.atKey J zd=y.1) :
 Jr x/\J=YD x/\c.2.2.1=(Zf n k x L).2.length:=by
 obtain ⟨t,j,rfl,G⟩:=CC Y
 have O:x=t:=by
  unfold iO at j
  simp at j
  exact Prod.ext j.1 j.2
 subst O
 have M:=X _ Z
 rw [h.has x G] at M
 have Q:=of_decide_eq_true M
 have K:=h.at_ x G Q (.held (X7 c))
 rw [a0] at K
 have U:y=(.held (X7 c),[]):=by rw [zY] at N;exact (Option.some.inj N).symm
 rw [U] at K
 have I:X7 c=.agg #[.int .i64 (Zf n k x L).1,row x]:=by injection K
 obtain ⟨p,cp,W,_⟩:=nL (h.own x G)
 rw [W] at I
 unfold X7 at I
 simp at I
 exact ⟨G,rfl,I.2.2.1⟩
theorem ZL {j:Nat}  (h:w.ranges prog 46 YR b r n D left j):r < w.heap.size/\b < w.heap.size:=⟨World.ranges.lt h,World.ownsMap.lt (World.ranges.owns h)⟩
structure fL (W:World) (a:Nat) (n k:Nat) (lv:Value) (t:Int×Int) (B b:Nat) (L:List Yb) (D:DataW Value) (row:Int×Int->Value) (eK:Int×Int->Nat):Prop where
 c0:W.cell? ⟨a,0,none⟩=some (.int .i64 (n:Int))
 c1:W.cell? ⟨a,1,none⟩=some (.int .i64 (k:Int))
 T:YK W (a+1) (.int .i64 t.1) (.int .i64 t.2)
 dX:Y1 W B b n k L D row eK
 hB:a+1+1<=B
theorem fL.below {y:World}     (h:fL W a n k lv t B b L D row eK) (j:Below W.heap.size W y):fL y a n k lv t B b L D row eK :=
 ⟨(j.cell (p:=⟨a,0,none⟩) (Qf h.c0)).trans h.c0,(j.cell (p:=⟨a,1,none⟩) (Qf h.c0)).trans h.c1,h.T.below j,h.dX.below j,h.hB⟩
theorem fL.set     (h:fL W a n k lv t B b L D row eK) (u:Int×Int):fL ((W.setCell ⟨a+1,0,none⟩ (.int .i64 u.1)).setCell ⟨a+1,1,none⟩ (.int .i64 u.2)) a n k lv u B b L D row eK:=by
 have y:W.grownBy ((W.setCell ⟨a+1,0,none⟩ (.int .i64 u.1)).setCell ⟨a+1,1,none⟩ (.int .i64 u.2)) (some (a+1)):=⟨rfl,rfl,rfl,by simp [World.setCell],fun j _ K=>by
  have G:j≠a+1:=fun e=>K (by rw [e])
  rw [Below.heap_setCell _ _ _ _ G,Below.heap_setCell _ _ _ _ G]⟩
 have I:=y.block a (Qf h.c0) (by simp)
 have Q:=h.hB
 refine ⟨(World.cell?_of_block (a:=⟨a,0,none⟩) I).trans h.c0,(World.cell?_of_block (a:=⟨a,1,none⟩) I).trans h.c1,(h.T.eJ _).eM _,?_,h.hB⟩
 obtain ⟨m,M,N⟩:=h.dX.map
 have U:=h.dX.aO
 refine ⟨⟨m,M,World.ownsMap.kept N y (by simp;omega)⟩,h.dX.aO,h.dX.has,h.dX.at_,fun t J=>World.ownsRow.kept (h.dX.own t J) y ?_,h.dX.eB,h.dX.eA,h.dX.apart⟩
 cases O:(row t).ownBlock with
 | none=>exact Or.inl rfl
 | some g =>
  refine Or.inr fun e=>?_
  injection e with e
  have:=(World.ownsRow.lt (h.dX.own t J) g O).1
  omega
theorem fL.grown {I:World}     (h:fL W a n k lv t B b L D row eK) (j:W.grownBy I (some r)) (O:a+1 < r) (Q:b < r) (N:∀ t,Jr t->∀ g,(row t).ownBlock=some g->g < r):fL I a n k lv t B b L D row eK:=by
 have y:=j.block a (Qf h.c0) (by simp;omega)
 obtain ⟨m,J,K⟩:=h.dX.map
 refine ⟨(World.cell?_of_block (a:=⟨a,0,none⟩) y).trans h.c0,(World.cell?_of_block (a:=⟨a,1,none⟩) y).trans h.c1,h.T.grown j (by simp;omega),⟨⟨m,J,World.ownsMap.kept K j (by simp;omega)⟩,h.dX.aO,h.dX.has,h.dX.at_,fun t G=>World.ownsRow.kept (h.dX.own t G) j ?_,h.dX.eB,h.dX.eA,h.dX.apart⟩,h.hB⟩
 cases M:(row t).ownBlock with
 | none=>exact Or.inl rfl
 | some g =>
  refine Or.inr fun e=>?_
  injection e with e
  have:=N t G g M
  omega
theorem L7 {v:Yb} (h:Jt v):Jr (v.n,v.dT):=⟨h.1,h.2.1⟩
theorem U4 (ad:Nat->Addr) (c:Xg) (p:Option Addr) (U:Nat) (LL:List (List Yb)) (pl:Option Addr) (cl:Nat) (w:World) (hc:Yn w c p U) (hL:eU w pl LL) (s9:LL.length<=1000) (t2:LL.flatten.length<=1000) (q5:∀ v ∈ LL.flatten,Jt v) (hE:Zp w ad) (z:Addr) (hZ:w.cell? ⟨11,0,none⟩=some (.iface 252 (.pointer (some z)))) :
 Calls prog 58 #[iE c (.slice p c.L.length U),.slice pl LL.length cl] w fun e w'=>(∃ ev,e=.returned (.tuple #[.agg #[.int .i64 (jB c LL).1.1,.int .i64 (jB c LL).1.2],.string (jB c LL).2.1,.bool (jB c LL).2.2,ev])/\Jd w' ad ev (jH c LL).1 (jH c LL).2)/\Below w.heap.size w w':=by
 obtain ⟨w0,e6⟩:∃ w0,w0=w.alloc (.cells #[.int .i64 c.n,.int .i64 c.k,.slice p c.L.length U] 24):=⟨_,rfl⟩
 obtain ⟨Z,e7⟩:∃ Z,Z=w0.alloc (.cells #[.int .i64 0,.int .i64 0] 46):=⟨_,rfl⟩
 have e0:w0.heap.size=w.heap.size+1:=by rw [e6];simp
 have e1:Z.heap.size=w.heap.size+1+1:=by rw [e7,<- e0];simp
 have i3:Below w.heap.size w w0:=by rw [e6];exact (Below.refl _ _).alloc (Nat.le_refl _) _
 have i4:Below w0.heap.size w0 Z:=by rw [e7];exact (Below.refl _ _).alloc (Nat.le_refl _) _
 have b4:Below w.heap.size w Z:=i3.trans (i4.mono i3.size)
 have l2:k8 w0 w.heap.size c (.slice p c.L.length U):=by rw [e6];exact AA w c _ _
 have e8:=l2.below i4
 have l3:YK Z (w.heap.size+1) (.int .i64 0) (.int .i64 0):=by
  rw [e7]
  exact ⟨by rw [World.cell?_alloc_at _ _ _ _ e0.symm];rfl,by rw [World.cell?_alloc_at _ _ _ _ e0.symm];rfl,World.frozen?_alloc_at _ _ _ _ e0.symm,World.frozen?_alloc_at _ _ _ _ e0.symm⟩
 have a9:=qU ad c p U Z (hc.below b4) (hE.below b4)
 have g8:Hid (Z=(w.alloc (.cells #[.int .i64 c.n,.int .i64 c.k,.slice p c.L.length U] 24)).alloc (.cells #[.int .i64 0,.int .i64 0] 46)):=by show _=_;rw [e7,e6]
 have b5:Hid (Below w.heap.size w Z):=b4
 have l7:Hid (Z.heap.size=w.heap.size+1+1):=e1
 have i5:Hid (k8 Z w.heap.size c (.slice p c.L.length U)):=e8
 have g9:Hid (YK Z (w.heap.size+1) (.int .i64 0) (.int .i64 0)):=l3
 have l8:Hid (Zp Z ad):=hE.below b4
 have l9:Hid (eU Z pl LL):=hL.below b4
 have i7:Hid (Z.cell? ⟨11,0,none⟩=some (.iface 252 (.pointer (some z)))):=(b4.cell (p:=⟨11,0,none⟩) (Qf hZ)).trans hZ
 have e9:Hid (∀ v ∈ LL.flatten,Jr (v.n,v.dT)):=fun v hv=>L7 (q5 v hv)
 have m0:Hid (2 < w.heap.size):=Yl hE.c2
 have m4:Hid (w.cell? ⟨11,0,none⟩=some (.iface 252 (.pointer (some z)))):=hZ
 have f0:=e8.f0
 have f1:=e8.f1
 have f2:=e8.f2
 unfold iE at a9 ⊢
 clear e6 e7 i3 i4 b4 l2 e8 l3 hc hL q5 hE hZ e0 e1
 by_cases hp:0 < (Jg c).1
 ·obtain ⟨b0,a7⟩:=P0 (LL:=LL) hp
  rw [b0,a7]
  have HP:Hid (0 < (Jg c).1):=hp
  clear hp b0 a7 e9
  generalize Jg c=R at *
  obtain ⟨n,k,L⟩:=c
  dsimp only at *
  go_enter func58,ntmps58
  go_wp2_with (rw [<- g8.out])
  refine a9.mono ?_
  rintro e K ⟨⟨ev,rfl,a8⟩,X⟩
  have a0:=g9.out.below X
  have t0:=a0.c0
  have t1:=a0.c1
  have b6:=a0.f0
  have b7:=a0.f1
  have a4:=(a0.eJ (.int .i64 0)).eM (.int .i64 0)
  have k0:=a4.c0
  have k1:=a4.c1
  have q6:Hid (Jd ((K.setCell ⟨w.heap.size+1,0,none⟩ (.int .i64 0)).setCell ⟨w.heap.size+1,1,none⟩ (.int .i64 0)) ad ev R.1 R.2):=(a8.setInt a0.c1 0 _).setInt (a0.eJ (.int .i64 0)).c1 1 _
  have h4:Hid (Below w.heap.size w ((K.setCell ⟨w.heap.size+1,0,none⟩ (.int .i64 0)).setCell ⟨w.heap.size+1,1,none⟩ (.int .i64 0))):=((b5.out.trans (X.mono b5.out.size)).setCell (by show w.heap.size<=w.heap.size+1;omega) _).setCell (by show w.heap.size<=w.heap.size+1;omega) _
  obtain ⟨et,eu,rfl⟩:=a8.some HP.out
  clear a8 X a9 f0 f1 f2 a0 a4
  go_wp2
  exact bodyPost_ret (v:=.tuple #[.agg #[.int .i64 0,.int .i64 0],.string ⟨#[]⟩,.bool false,.iface et eu]) (by simp [results,results58,go_sem,k0,k1]) rfl ⟨⟨_,rfl,q6.out⟩,h4.out⟩
 ·obtain ⟨hf,hn,h0,_,_⟩:=Xm hp
  rw [h0] at a9
  by_cases h5:c.n < (LL.length:Int)
  ·obtain ⟨b0,a7⟩:=LD (LL:=LL) hp h5
   rw [b0,a7]
   clear hp hn h0 hf b0 a7 e9
   obtain ⟨n,k,L⟩:=c
   dsimp only at *
   go_enter func58,ntmps58
   go_wp2_with (rw [<- g8.out])
   refine a9.mono ?_
   rintro e K ⟨⟨ev,rfl,a8⟩,X⟩
   obtain rfl:=Jd.isNil a8
   have a0:=g9.out.below X
   have t0:=a0.c0
   have t1:=a0.c1
   have b6:=a0.f0
   have b7:=a0.f1
   have a4:=(a0.eJ (.int .i64 0)).eM (.int .i64 0)
   have k0:=a4.c0
   have k1:=a4.c1
   have q2:=(l8.out.below X).c2
   have q7:(⟨w.heap.size+1,0,none⟩:Addr)≠⟨2,0,none⟩:=fun e=>by have h1:w.heap.size+1=2:=congrArg Addr.block e;have:=m0.out;omega
   have r0:(⟨w.heap.size+1,1,none⟩:Addr)≠⟨2,0,none⟩:=fun e=>by have h1:w.heap.size+1=2:=congrArg Addr.block e;have:=m0.out;omega
   have q3:(K.setCell ⟨w.heap.size+1,0,none⟩ (.int .i64 0)).cell? ⟨2,0,none⟩=some (.iface 252 (.pointer (some (ad 2)))):=(World.cell?_setCell_other _ _ _ _ q7).trans q2
   have q4:((K.setCell ⟨w.heap.size+1,0,none⟩ (.int .i64 0)).setCell ⟨w.heap.size+1,1,none⟩ (.int .i64 0)).cell? ⟨2,0,none⟩=some (.iface 252 (.pointer (some (ad 2)))):=(World.cell?_setCell_other _ _ _ _ r0).trans q3
   have h4:Hid (Below w.heap.size w ((K.setCell ⟨w.heap.size+1,0,none⟩ (.int .i64 0)).setCell ⟨w.heap.size+1,1,none⟩ (.int .i64 0))):=((b5.out.trans (X.mono b5.out.size)).setCell (by show w.heap.size<=w.heap.size+1;omega) _).setCell (by show w.heap.size<=w.heap.size+1;omega) _
   have m5:=i5.out.below X
   have g0:=m5.f0
   dsimp only at g0
   clear a8 X a9 f0 f1 f2 a0 a4 m5
   go_wp2
   go_region
   go_wp2
   exact bodyPost_ret (v:=.tuple #[.agg #[.int .i64 0,.int .i64 0],.string ⟨#[]⟩,.bool false,.iface 252 (.pointer (some (ad 2)))]) (by simp [results,results58,go_sem,k0,k1]) rfl ⟨⟨_,rfl,Jd.b8 2 (by decide)⟩,by first | exact h4.out | exact h4.out.drew⟩
  ·obtain ⟨b0,a7⟩:=CM (LL:=LL) hp h5
   obtain ⟨cn,ck,L⟩:=c
   dsimp only at *
   obtain ⟨n,rfl⟩:=Int.eq_ofNat_of_zero_le (show 0<=cn by omega)
   obtain ⟨k,rfl⟩:=Int.eq_ofNat_of_zero_le (show 0<=ck by omega)
   rw [Int.toNat_natCast,Int.toNat_natCast] at a7
   rw [b0]
   have d6:1<=k:=by omega
   have m6:k<=n:=by omega
   have m7:n<=12:=by omega
   obtain ⟨RR,i8⟩:∃ RR,RR=jB ⟨n,k,L⟩ LL:=⟨_,rfl⟩
   rw [<- i8]
   have m8:Hid (RR=Ys n k LL.flatten LL.flatten):=i8.trans a7
   have s5:¬ (n:Int) < (LL.length:Int):=h5
   have m9:Hid (∀ W,eU W pl LL->Calls prog 80 #[.agg #[.int .i64 (n:Int),.int .i64 (k:Int),.slice p L.length U],.slice pl LL.length cl] W fun e w'=>(∃ b,e=.returned (.map (some b))/\ZN w' (W.heap.size+1) b n k LL.flatten)/\Below W.heap.size W w'):=fun W M=>Jo9 n k p L.length U pl LL cl W d6 m6 m7 (by omega) (by omega) M e9.out
   have n0:Hid (∀ left t found,JV n k LL.flatten left t found->(∀ z,left z=false)->RR=(t,if found then mP n k LL.flatten t else ⟨#[]⟩,found)):=fun left t found h hl=>m8.out.trans (P8 d6 e9.out h hl)
   have i9:Hid (∀ t,Xp n k LL.flatten t->(((Zf n k t LL.flatten).1.toNat:Nat):Int)=(Zf n k t LL.flatten).1/\(Zf n k t LL.flatten).1.toNat<=1000/\l5 n k (Zf n k t LL.flatten).1.toNat (Zf n k t LL.flatten).2/\(Zf n k t LL.flatten).2.length<=1000):=fun t hg=>by
    obtain ⟨a1,a2,a3,_⟩:=FF (n:=n) (k:=k) (t:=t) (L:=LL.flatten) d6 (by unfold Xp at hg;omega)
    have:=W0 (n:=n) (k:=k) (t:=t) LL.flatten LL.flatten.length
    rw [List.take_length] at this
    exact ⟨a1,a2,a3,by omega⟩
   clear hp hn h0 hf b0 a7 i8 h5 e9 m8
   generalize LL.flatten=G at *
   go_enter func58,ntmps58
   go_wp2_with (rw [<- g8.out])
   refine a9.mono ?_
   rintro e w2 ⟨⟨ev,rfl,a8⟩,d0⟩
   obtain rfl:=Jd.isNil a8
   have f3:=i5.out.below d0
   have g0:=f3.f0
   have g1:=f3.f1
   have g2:=f3.f2
   dsimp only at g0 g1 g2
   have j0:Hid (k8 w2 w.heap.size ⟨(n:Int),(k:Int),L⟩ (.slice p L.length U)):=f3
   have n1:Hid (YK w2 (w.heap.size+1) (.int .i64 0) (.int .i64 0)):=g9.out.below d0
   have j1:Hid (Below w.heap.size w w2):=b5.out.trans (d0.mono b5.out.size)
   have d2:Hid (w.heap.size+1+1<=w2.heap.size):=by show _<=_;rw [<- l7.out];exact d0.size
   have j2:Hid (w2.cell? ⟨11,0,none⟩=some (.iface 252 (.pointer (some z)))):=(d0.cell (p:=⟨11,0,none⟩) (Qf i7.out)).trans i7.out
   have n2:=m9.out w2 (l9.out.below d0)
   clear a8 d0 a9 f0 f1 f2 f3 i5 g9 b5 l7 i7 l8 l9 m9 g8
   go_wp2_with fail
   refine n2.mono ?_
   rintro e K ⟨⟨b,rfl,D,row,eK,f4⟩,X⟩
   have f5:Hid (fL K w.heap.size n k (.slice p L.length U) (0,0) (w2.heap.size+1) b G D row eK):=⟨(j0.out.below X).f0,(j0.out.below X).f1,n1.out.below X,f4,by have:=d2.out;omega⟩
   have n3:Hid (Below w.heap.size w K):=j1.out.trans (X.mono j1.out.size)
   have s6:Hid (K.cell? ⟨11,0,none⟩=some (.iface 252 (.pointer (some z)))):=(X.cell (p:=⟨11,0,none⟩) (Qf j2.out)).trans j2.out
   have H0:Hid (JV n k G (Maps.has D) (0,0) false):=OQ d6 f4
   obtain ⟨m,hm,n4⟩:=f4.map
   have r1:b < K.heap.size:=f4.lt
   clear X n2 g0 g1 g2 j0 n1 j1 j2 f4 hm
   go_wp2_with (first
    | (at_range;refine wpList_range_own _ rfl _ 140 rfl 46 143 qN underlying140 YR b m D rfl n4 ?_;intro w4 n6 d7 r2)
    | go_in)
   go_frame
   have n7:Hid (Below K.heap.size K w4):=⟨d7.os,d7.tape,d7.output,d7.size,fun k hk=>d7.block k hk (by simp)⟩
   have n8:Hid (w4.ranges prog 46 YR b K.heap.size m D (Maps.has D) (Maps.size D)):=n6
   have n9:Hid (fL w4 w.heap.size n k (.slice p L.length U) (0,0) (w2.heap.size+1) b G D row eK):=f5.out.below n7.out
   have f6:Hid (∀ W,Below (w.heap.size+1) w4 W->Below w.heap.size w W/\W.cell? ⟨11,0,none⟩=some (.iface 252 (.pointer (some z)))):=fun W M=>by
    have h0:Below w.heap.size w W:=(n3.out.trans (n7.out.mono n3.out.size)).trans (M.mono (by omega))
    exact ⟨h0,(h0.cell (p:=⟨11,0,none⟩) (Qf m4.out)).trans m4.out⟩
   have o0:Hid (∀ t,Jr t->∀ g,(row t).ownBlock=some g->g < K.heap.size):=fun t ht g hg=>(World.ownsRow.lt (f5.out.dX.own t ht) g hg).2
   have o1:Hid (w.heap.size+1 < K.heap.size):=by
    show _ < _
    have h1:=f5.out.dX.lt
    have h2:=f5.out.dX.aO
    have h3:=d2.out
    omega
   clear n6 d7 r2 n4
   go_loopw [6] (fun fo wr=>∃ (left:Lit->Bool) (f7:Nat) (t:Int×Int) (found:Bool),fo=.bool found/\wr.ranges prog 46 YR b K.heap.size m D left f7/\JV n k G left t found/\(∀ z,left z=true->Maps.has D z=true)/\fL wr w.heap.size n k (.slice p L.length U) t (w2.heap.size+1) b G D row eK/\Below (w.heap.size+1) w4 wr) (fun _ wr=>wr.rangeLeft b K.heap.size)
   case atStart=>exact ⟨Maps.has D,Maps.size D,(0,0),false,rfl,n8.out,H0.out,fun z hz=>hz,n9.out,Below.refl _ _⟩
   case round =>
    obtain ⟨left,f7,t,found,rfl,f8,o2,o3,b1,hB⟩:=hrel
    obtain ⟨N,rfl⟩:∃ N,N=wr:=⟨_,rfl⟩
    have d3:Hid (JV n k G left t found):=o2
    have h6:Hid (∀ z,left z=true->Maps.has D z=true):=o3
    have a5:Hid (fL N w.heap.size n k (.slice p L.length U) t (w2.heap.size+1) b G D row eK):=b1
    have HB:Hid (Below (w.heap.size+1) w4 N):=hB
    clear o2 o3 b1 hB n8 n9 H0 f5
    go_wp2_with (first
     | (at_next;refine wpList_next_ranges (α:=Int×Int) (β:=Int×Option Addr×Nat×Nat) _ rfl _ rfl 46 qN YR iO X7 (fun key kl hk=>by obtain ⟨x,hx,_⟩:=CC hk;exact ⟨x,hx⟩) (fun v y hv=>by obtain ⟨x,hx,_⟩:=FP hv;exact ⟨x,hx⟩) b K.heap.size m D left f7 rfl f8 ?_ ?_)
     | go_in)
    ·intro _ o4
     have j3:Hid (RR=(t,if found then mP n k G t else ⟨#[]⟩,found)):=n0.out left t found d3.out o4
     have hT:=a5.out.T
     clear o4 f8 n0 h6 o0
     cases found with
     | false =>
      have t0:=hT.c0
      have t1:=hT.c1
      have b6:=hT.f0
      have b7:=hT.f1
      have a4:=(hT.eJ (.int .i64 t.1)).eM (.int .i64 t.2)
      have k0:=a4.c0
      have k1:=a4.c1
      have j5:Hid (Below w.heap.size w ((N.setCell ⟨w.heap.size+1,0,none⟩ (.int .i64 t.1)).setCell ⟨w.heap.size+1,1,none⟩ (.int .i64 t.2))):=((f6.out N HB.out).1.setCell (by show w.heap.size<=w.heap.size+1;omega) _).setCell (by show w.heap.size<=w.heap.size+1;omega) _
      clear hT a4 d3 a5 i9 f6
      go_wp2
      exact bodyPost_ret (v:=.tuple #[.agg #[.int .i64 t.1,.int .i64 t.2],.string ⟨#[]⟩,.bool false,.nilIface]) (by simp [results,results58,go_sem,k0,k1]) rfl ⟨⟨_,by rw [j3.out];rfl,Jd.nil _ _⟩,j5.out⟩
     | true =>
      obtain ⟨h7,j6,_⟩:=d3.out.yes rfl
      obtain ⟨q1,q2,q3,q4⟩:=i9.out t j6
      have j8:=BN d6 j6
      have d8:=(a5.out.dX.below (Below.refl _ _).drew).look h7
      obtain ⟨p6,c6,k2,o5⟩:=nL (a5.out.dX.own t h7)
      unfold kH at d8
      rw [if_neg j8,k2,<- q1] at d8
      have r3:Hid (RR=(t,gB k (Zf n k t G).1.toNat (Qg k (Zf n k t G).2 (Zf n k t G).2.length),true)):=j3.out
      have o6:Hid (∀ W,Below N.heap.size N W->Calls prog 82 #[.int .i64 (n:Int),.int .i64 (k:Int),.int .i64 (((Zf n k t G).1.toNat:Nat):Int),.slice p6 (Zf n k t G).2.length c6] W fun e w'=>e=.returned (.tuple #[.string (gB k (Zf n k t G).1.toNat (Qg k (Zf n k t G).2 (Zf n k t G).2.length)),.nilIface])/\Below W.heap.size W w'):=fun W M=>LJ n k (Zf n k t G).1.toNat p6 (Zf n k t G).2 c6 z W d6 m6 m7 q2 q4 q3 (o5.below M) ((M.cell (p:=⟨11,0,none⟩) (Qf (f6.out N HB.out).2)).trans (f6.out N HB.out).2)
      have t0:=hT.c0
      have t1:=hT.c1
      have g0:=a5.out.c0
      have g1:=a5.out.c1
      have h8:Hid (∀ W,Below N.heap.size N W->(W.cell? ⟨w.heap.size,0,none⟩=some (.int .i64 (n:Int))/\W.cell? ⟨w.heap.size,1,none⟩=some (.int .i64 (k:Int))/\W.cell? ⟨w.heap.size+1,0,none⟩=some (.int .i64 t.1)/\W.cell? ⟨w.heap.size+1,1,none⟩=some (.int .i64 t.2)/\(Instr.lookup 140 (.map (some b)) (.agg #[.int .i64 t.1,.int .i64 t.2]) false).run prog W=.ok (.agg #[.int .i64 (((Zf n k t G).1.toNat:Nat):Int),.slice p6 (Zf n k t G).2.length c6]) W/\Below N.heap.size N W)):=fun W M=>by
       have b1:=a5.out.below M
       have hl:=b1.dX.look h7
       unfold kH at hl
       rw [if_neg j8,k2,<- q1] at hl
       exact ⟨b1.c0,b1.c1,b1.T.c0,b1.T.c1,hl,M⟩
      have r4:∀ W,(Instr.field 143 (.agg #[.int .i64 (((Zf n k t G).1.toNat:Nat):Int),.slice p6 (Zf n k t G).2.length c6]) 0).run prog W=.ok (.int .i64 (((Zf n k t G).1.toNat:Nat):Int)) W:=fun W=>by kernel_rfl
      have r5:∀ W,(Instr.field 143 (.agg #[.int .i64 (((Zf n k t G).1.toNat:Nat):Int),.slice p6 (Zf n k t G).2.length c6]) 1).run prog W=.ok (.slice p6 (Zf n k t G).2.length c6) W:=fun W=>by kernel_rfl
      clear d8 k2 o5 j8 q1 q2 q3 q4 j6 h7 hT d3 j3 i9 t0 t1 g0 g1
      generalize gB k (Zf n k t G).1.toNat (Qg k (Zf n k t G).2 (Zf n k t G).2.length)=dt at *
      generalize (Zf n k t G).1.toNat=sz at *
      generalize (Zf n k t G).2.length=ln at *
      have o7:Hid (∀ W,(W.cell? ⟨w.heap.size,0,none⟩=some (.int .i64 (n:Int))/\W.cell? ⟨w.heap.size,1,none⟩=some (.int .i64 (k:Int))/\W.cell? ⟨w.heap.size+1,0,none⟩=some (.int .i64 t.1)/\W.cell? ⟨w.heap.size+1,1,none⟩=some (.int .i64 t.2)/\(Instr.lookup 140 (.map (some b)) (.agg #[.int .i64 t.1,.int .i64 t.2]) false).run prog W=.ok (.agg #[.int .i64 (sz:Int),.slice p6 ln c6]) W/\Below N.heap.size N W)->Calls prog 82 #[.int .i64 (n:Int),.int .i64 (k:Int),.int .i64 (sz:Int),.slice p6 ln c6] W fun e w'=>e=.returned (.tuple #[.string dt,.nilIface])/\(w'.cell? ⟨w.heap.size,0,none⟩=some (.int .i64 (n:Int))/\w'.cell? ⟨w.heap.size,1,none⟩=some (.int .i64 (k:Int))/\w'.cell? ⟨w.heap.size+1,0,none⟩=some (.int .i64 t.1)/\w'.cell? ⟨w.heap.size+1,1,none⟩=some (.int .i64 t.2)/\(Instr.lookup 140 (.map (some b)) (.agg #[.int .i64 t.1,.int .i64 t.2]) false).run prog w'=.ok (.agg #[.int .i64 (sz:Int),.slice p6 ln c6]) w'/\Below N.heap.size N w')):=fun W M=>(o6.out W M.2.2.2.2.2).mono fun e w' ⟨he,hb⟩=>⟨he,h8.out w' (M.2.2.2.2.2.trans (hb.mono M.2.2.2.2.2.size))⟩
      have r6:=h8.out N (Below.refl _ _)
      clear o6
      go_wp2
      go_region_held3 (fun W=>(W.cell? ⟨w.heap.size,0,none⟩=some (.int .i64 (n:Int))/\W.cell? ⟨w.heap.size,1,none⟩=some (.int .i64 (k:Int))/\W.cell? ⟨w.heap.size+1,0,none⟩=some (.int .i64 t.1)/\W.cell? ⟨w.heap.size+1,1,none⟩=some (.int .i64 t.2)/\(Instr.lookup 140 (.map (some b)) (.agg #[.int .i64 t.1,.int .i64 t.2]) false).run prog W=.ok (.agg #[.int .i64 (sz:Int),.slice p6 ln c6]) W/\Below N.heap.size N W)) (first | assumption | exact h8.out _ (Below.refl _ _).drew) (first | (go_at_call 82;refine (o7.out _ (by assumption)).mono ?_;rintro e Y ⟨rfl,o9⟩))
      all_goals
       have k3:Below N.heap.size N Y:=o9.2.2.2.2.2
       have d9:=a5.out.T.below k3
       have t0:=d9.c0
       have t1:=d9.c1
       have b6:=d9.f0
       have b7:=d9.f1
       have a4:=(d9.eJ (.int .i64 t.1)).eM (.int .i64 t.2)
       have k0:=a4.c0
       have k1:=a4.c1
       have j5:Hid (Below w.heap.size w ((Y.setCell ⟨w.heap.size+1,0,none⟩ (.int .i64 t.1)).setCell ⟨w.heap.size+1,1,none⟩ (.int .i64 t.2))):=((f6.out Y (HB.out.trans (k3.mono (by have:=Qf a5.out.T.c0;omega)))).1.setCell (by show w.heap.size<=w.heap.size+1;omega) _).setCell (by show w.heap.size<=w.heap.size+1;omega) _
       clear k3 d9 a4 o9 h8 o7 r6 r4 r5
       go_wp2
       exact bodyPost_ret (v:=.tuple #[.agg #[.int .i64 t.1,.int .i64 t.2],.string dt,.bool true,.nilIface]) (by simp [results,results58,go_sem,k0,k1]) rfl ⟨⟨_,by rw [r3.out],Jd.nil _ _⟩,j5.out⟩
    ·intro I J cz cp cn k4 kl yd yp Y a6 p0 d8 hv p1 f9 p2 d4 r7 s1
     obtain ⟨p3,rfl,k5⟩:=a5.out.dX.entry h6.out p0 d8 hv p1
     dsimp only at k5
     have s2:w.heap.size+1 < K.heap.size:=o1.out
     have p4:=a5.out.grown d4 s2 r1 o0.out
     have k6:Below (w.heap.size+1) w4 Y:=HB.out.trans ⟨d4.os,d4.tape,d4.output,d4.size,fun j hj=>d4.block j (by have:=(ZL f8).1;omega) (fun e=>by injection e with e;omega)⟩
     obtain ⟨Q,e2⟩:∃ Q,Q=(Y.alloc (.cells #[.int .i64 I,.int .i64 J] 46)).alloc (.cells #[.int .i64 cz,.slice cp cn k4] 143):=⟨_,rfl⟩
     have g3:Below Y.heap.size Y Q:=by rw [e2];exact ((Below.refl _ _).alloc (Nat.le_refl _) _).alloc (by simp) _
     have x0:Q.cell? ⟨Y.heap.size,0,none⟩=some (.int .i64 I):=by rw [e2];simp
     have p5:Q.cell? ⟨Y.heap.size,1,none⟩=some (.int .i64 J):=by rw [e2];simp
     have y1:Q.cell? ⟨Y.heap.size+1,1,none⟩=some (.slice cp cn k4):=by rw [e2];simp
     have h9:Hid (Q=(Y.alloc (.cells #[.int .i64 I,.int .i64 J] 46)).alloc (.cells #[.int .i64 cz,.slice cp cn k4] 143)):=e2
     have d5:=p4.below g3
     have k7:Hid (fL Q w.heap.size n k (.slice p L.length U) t (w2.heap.size+1) b G D row eK):=d5
     have i0:Hid (Below (w.heap.size+1) w4 Q):=k6.trans (g3.mono (by have:=k6.size;have:=(ZL f9).1;omega))
     have p7:=rZ f9 (g3.block b (ZL f9).2) (g3.block K.heap.size (ZL f9).1)
     have b2:Hid (Q.ranges prog 46 YR b K.heap.size m D (fun z=>left z && !z.sameKey (YD (I,J))) a6):=p7
     have i1:Hid (a6 < f7):=p2
     have i2:Hid (N.ranges prog 46 YR b K.heap.size m D left f7):=f8
     have d2:Hid (∀ z,(left z && !z.sameKey (YD (I,J)))=true->Maps.has D z=true):=fun z hz=>h6.out z (by simp only [Bool.and_eq_true] at hz;exact hz.1)
     have p8:Hid (Jr (I,J)):=p3
     have l0:Hid (Xp n k G (I,J)↔k<=cn):=by show _↔_;unfold Xp;rw [k5]
     have b3:Hid (∀ W,Calls prog 81 #[.agg #[.int .i64 t.1,.int .i64 t.2],.agg #[.int .i64 I,.int .i64 J]] W fun e w'=>e=.returned (.bool (Qd t (I,J)))/\RowKit.Below W.heap.size W w'):=fun W=>N1 t (I,J) W
     have g1:=d5.c1
     have t0:=d5.T.c0
     have t1:=d5.T.c1
     have b6:=d5.T.f0
     have b7:=d5.T.f1
     have e3:Hid (∀ W,Below Q.heap.size Q W->(¬ k<=cn∨found=true/\Qd t (I,J)=false)->W.ranges prog 46 YR b K.heap.size m D (fun z=>left z && !z.sameKey (YD (I,J))) a6/\JV n k G (fun z=>left z && !z.sameKey (YD (I,J))) t found/\fL W w.heap.size n k (.slice p L.length U) t (w2.heap.size+1) b G D row eK/\Below (w.heap.size+1) w4 W):=fun W M s3 =>
      ⟨rZ b2.out (M.block b (ZL b2.out).2) (M.block K.heap.size (ZL b2.out).1),UO d3.out p8.out (by rcases s3 with h | h;exact Or.inl fun hg=>h (l0.out.1 hg);exact Or.inr h),k7.out.below M,i0.out.trans (M.mono (by have:=i0.out.size;have:=(ZL b2.out).1;omega))⟩
     have e4:Hid (∀ W,Below Q.heap.size Q W->k<=cn->(found=true->Qd t (I,J)=true)->((W.setCell ⟨w.heap.size+1,0,none⟩ (.int .i64 I)).setCell ⟨w.heap.size+1,1,none⟩ (.int .i64 J)).ranges prog 46 YR b K.heap.size m D (fun z=>left z && !z.sameKey (YD (I,J))) a6/\JV n k G (fun z=>left z && !z.sameKey (YD (I,J))) (I,J) true/\fL ((W.setCell ⟨w.heap.size+1,0,none⟩ (.int .i64 I)).setCell ⟨w.heap.size+1,1,none⟩ (.int .i64 J)) w.heap.size n k (.slice p L.length U) (I,J) (w2.heap.size+1) b G D row eK/\Below (w.heap.size+1) w4 ((W.setCell ⟨w.heap.size+1,0,none⟩ (.int .i64 I)).setCell ⟨w.heap.size+1,1,none⟩ (.int .i64 J))):=fun W M hk hp=>by
      have s4:=rZ b2.out (M.block b (ZL b2.out).2) (M.block K.heap.size (ZL b2.out).1)
      have l1:=k7.out.below M
      have s7:=l1.dX.aO
      have s8:=l1.hB
      have p9:b≠w.heap.size+1:=by omega
      have q0:K.heap.size≠w.heap.size+1:=by have:=o1.out;omega
      refine ⟨rZ s4 ?_ ?_,RH d3.out p8.out (l0.out.2 hk) hp,l1.set (I,J),?_⟩
      ·rw [Below.heap_setCell _ _ _ _ p9,Below.heap_setCell _ _ _ _ p9]
      ·rw [Below.heap_setCell _ _ _ _ q0,Below.heap_setCell _ _ _ _ q0]
      ·exact ((i0.out.trans (M.mono (by have:=i0.out.size;have:=(ZL b2.out).1;omega))).setCell (Nat.le_refl _) _).setCell (Nat.le_refl _) _
     clear p0 d8 hv p1 f9 p2 d4 r7 k5 p3 p4 k6 e2 g3 d5 p7 f8 h6 d3 a5 HB k7 l0
     unfold iO X7 at s1 ⊢
     by_cases g4:k<=cn
     ·have d1:decide (k<=cn)=true:=decide_eq_true g4
      cases found with
      | false =>
       have O:=e4.out Q (Below.refl _ _) g4 (fun h=>by cases h)
       clear e3 e4 b3
       go_wp2_with (first | rw [<- h9.out] | fail)
       exact ⟨⟨_,a6,(I,J),true,rfl,O.1,O.2.1,d2.out,O.2.2.1,O.2.2.2⟩,by rw [World.ranges.left_eq O.1,World.ranges.left_eq i2.out];exact i1.out⟩
      | true =>
       cases e5:Qd t (I,J) with
       | false =>
        rw [e5] at b3
        have g5:Hid (∀ W,Below Q.heap.size Q W->W.ranges prog 46 YR b K.heap.size m D (fun z=>left z && !z.sameKey (YD (I,J))) a6/\JV n k G (fun z=>left z && !z.sameKey (YD (I,J))) t true/\fL W w.heap.size n k (.slice p L.length U) t (w2.heap.size+1) b G D row eK/\Below (w.heap.size+1) w4 W):=fun W M=>e3.out W M (Or.inr ⟨rfl,e5⟩)
        clear e3 e4 e5
        go_wp2_with (first | rw [<- h9.out] | fail)
        refine (b3.out _).mono ?_
        rintro e w8 ⟨rfl,g6⟩
        have O:=g5.out w8 g6
        clear g5 b3 g6
        go_wp2
        exact ⟨⟨_,a6,t,true,rfl,O.1,O.2.1,d2.out,O.2.2.1,O.2.2.2⟩,by rw [World.ranges.left_eq O.1,World.ranges.left_eq i2.out];exact i1.out⟩
       | true =>
        rw [e5] at b3
        have g5:Hid (∀ W,Below Q.heap.size Q W->((W.cell? ⟨Y.heap.size,0,none⟩=some (.int .i64 I)/\W.cell? ⟨Y.heap.size,1,none⟩=some (.int .i64 J))/\YK W (w.heap.size+1) (.int .i64 t.1) (.int .i64 t.2))/\((W.setCell ⟨w.heap.size+1,0,none⟩ (.int .i64 I)).setCell ⟨w.heap.size+1,1,none⟩ (.int .i64 J)).ranges prog 46 YR b K.heap.size m D (fun z=>left z && !z.sameKey (YD (I,J))) a6/\JV n k G (fun z=>left z && !z.sameKey (YD (I,J))) (I,J) true/\fL ((W.setCell ⟨w.heap.size+1,0,none⟩ (.int .i64 I)).setCell ⟨w.heap.size+1,1,none⟩ (.int .i64 J)) w.heap.size n k (.slice p L.length U) (I,J) (w2.heap.size+1) b G D row eK/\Below (w.heap.size+1) w4 ((W.setCell ⟨w.heap.size+1,0,none⟩ (.int .i64 I)).setCell ⟨w.heap.size+1,1,none⟩ (.int .i64 J))):=fun W M=>⟨⟨⟨(M.cell (p:=⟨Y.heap.size,0,none⟩) (Qf x0)).trans x0,(M.cell (p:=⟨Y.heap.size,1,none⟩) (Qf x0)).trans p5⟩,YK.below ⟨t0,t1,b6,b7⟩ M⟩,e4.out W M g4 (fun _=>e5)⟩
        clear e3 e4 e5
        go_wp2_with (first | rw [<- h9.out] | fail)
        refine (b3.out _).mono ?_
        rintro e w8 ⟨rfl,g6⟩
        obtain ⟨⟨⟨z0,z1⟩,g7⟩,O⟩:=g5.out w8 g6
        clear t0 t1 b6 b7
        have t0:=g7.c0
        have t1:=g7.c1
        have b6:=g7.f0
        have b7:=g7.f1
        clear g5 b3 g6 g7 x0 p5 y1
        go_wp2
        exact ⟨⟨_,a6,(I,J),true,rfl,O.1,O.2.1,d2.out,O.2.2.1,O.2.2.2⟩,by rw [World.ranges.left_eq O.1,World.ranges.left_eq i2.out];exact i1.out⟩
     ·have d1:decide (k<=cn)=false:=decide_eq_false g4
      have O:=e3.out Q (Below.refl _ _) (Or.inl g4)
      clear e3 e4 b3
      go_wp2_with (first | rw [<- h9.out] | fail)
      exact ⟨⟨_,a6,t,found,rfl,O.1,O.2.1,d2.out,O.2.2.1,O.2.2.2⟩,by rw [World.ranges.left_eq O.1,World.ranges.left_eq i2.out];exact i1.out⟩
end
theorem Jbf (B:Nat) (p:Option Addr) (l:List Zb) (f4:Nat) (w:World) (hl:l.length<=1000) (d9:B<=w.heap.size) (h:pD B w p l) :
 Calls prog 15 #[.slice p l.length f4] w fun e w'=>(∃ p' c',e=.returned (.slice p' l.length c')/\pD B w' p' l)/\Below w.heap.size w w':=by
 obtain ⟨y,a2,hr,hh,_⟩:=h
 have a8:l.length=y.length:=by rw [<- a2,List.length_map]
 rw [a8] at hl ⊢
 have HR:Hid (Ql mE w p y):=hr
 have HH:Hid (∀ x ∈ y,Jn w x/\∀ b o,x.2.1=some ⟨b,o,none⟩->B<=b):=hh
 have e0:Hid (B<=w.heap.size):=d9
 clear d9
 have e1:Hid (y.map Prod.fst=l):=a2
 have e2:Hid (∀ (m:Zb) (h:Lv) W,Calls prog 41 #[.agg #[.string m.from_,.string m.aP,.string m.kind,.string m.key,.int .i64 m.op,.int .i64 m.config,.bool m.shut,.slice h.1 h.2.1 h.2.2]] W fun e w'=>e=.returned (.agg #[.string m.from_,.string m.aP,.string m.kind,.string m.key,.int .i64 m.op,.int .i64 m.config,.bool m.shut,.slice h.1 h.2.1 h.2.2])/\Below W.heap.size W w'):=fun m h W=>JcE m h.1 h.2.1 h.2.2 W
 clear hr hh a2 a8
 go_enter func15,ntmps15
 go_wp2
 go_loopw [3,4] (fun v x wr=>∃ i:Nat,i<=y.length/\x=.int .i64 i/\Zc mE 59 wr w.heap.size v (y.take i)/\Below w.heap.size w wr) (fun _ x _=>y.length - (intOf x).toNat)
 case atStart=>exact ⟨0,Nat.zero_le _,rfl,Zc.nil _ _ _,Below.refl _ _⟩
 case round =>
  obtain ⟨i,hi,rfl,hO,hB⟩:=hrel
  obtain ⟨Y,rfl⟩:∃ Y,Y=wr:=⟨_,rfl⟩
  obtain ⟨U,Z,rfl,a9,f5,e3,b0⟩:=hO.form
  have e4:Hid (∀ b o,U=some ⟨b,o,none⟩->w.heap.size<=b/\b < Y.heap.size):=b0
  clear b0
  have HO:Hid (Zc mE 59 Y w.heap.size (.slice U (y.take i).length Z) (y.take i)):=hO
  have HB:Hid (Below w.heap.size w Y):=hB
  have a3:Hid (Ql mE Y U (y.take i)):=a9
  have e5:(y.take i).length<=1000:=by rw [List.length_take];omega
  clear hO a9 e3
  by_cases a4:i < y.length
  ·have HT:Hid (y.take (i+1)=y.take i ++ [JN y i]):=Jea a4
   obtain ⟨b,o,e6,f6,d0,d1,d2,d3,d4,d5,d6,d7⟩:=WB (HR.out.below hB) a4
   subst e6
   rw [rR a4] at d0 d1 d2 d3 d4 d5 d6 d7
   have a5:=e2.out (JN y i).1 (JN y i).2
   clear hB
   generalize JN y i=x at *
   generalize y.take i=X at *
   obtain ⟨⟨m1,m2,m3,I,J,K,M,mL⟩,N,O,Q⟩:=x
   dsimp only at d0 d1 d2 d3 d4 d5 d6 d7 a5
   have b1:Hid (∀ W,Calls prog 41 #[.agg #[.string m1,.string m2,.string m3,.string I,.int .i64 J,.int .i64 K,.bool M,.slice N O Q]] W fun e w'=>e=.returned (.agg #[.string m1,.string m2,.string m3,.string I,.int .i64 J,.int .i64 K,.bool M,.slice N O Q])/\Below W.heap.size W w'):=a5
   clear a5
   go_wp2_with fail
   refine (b1.out _).mono ?_
   rintro e D ⟨rfl,a6⟩
   have b2:Hid (Zc mE 59 D w.heap.size (.slice U X.length Z) X):=HO.out.kept a6
   have a1:Hid (Below w.heap.size w D):=HB.out.trans (a6.mono HB.out.size)
   have f7:w.heap.size<=D.heap.size:=a1.out.size
   obtain ⟨G,a0⟩:∃ G,G=(D.alloc (.cells #[.string m1,.string m2,.string m3,.string I,.int .i64 J,.int .i64 K,.bool M,.slice N O Q] 59)).alloc (.cells #[.string m1,.string m2,.string m3,.string I,.int .i64 J,.int .i64 K,.bool M,.slice N O Q] 59):=⟨_,rfl⟩
   have a7:Below D.heap.size D G:=by rw [a0];exact ((Below.refl _ _).alloc (Nat.le_refl _) _).alloc (by simp) _
   have e7:Hid (∀ j u,(mE.enc (⟨m1,m2,m3,I,J,K,M,mL⟩,N,O,Q))[j]?=some u->G.cell? ⟨D.heap.size+1,0+j,none⟩=some u):=fun j u hj=>by
    rw [a0,World.cell?_alloc_at _ _ _ _ (by simp),Nat.zero_add]
    simpa [mE,Jw] using hj
   have e8:Hid (G=(D.alloc (.cells #[.string m1,.string m2,.string m3,.string I,.int .i64 J,.int .i64 K,.bool M,.slice N O Q] 59)).alloc (.cells #[.string m1,.string m2,.string m3,.string I,.int .i64 J,.int .i64 K,.bool M,.slice N O Q] 59)):=a0
   have b3:Hid (Zc mE 59 G w.heap.size (.slice U X.length Z) X):=b2.out.kept a7
   have b4:Hid (Below w.heap.size w G):=a1.out.trans (a7.mono a1.out.size)
   have b5:Hid (w.heap.size<=G.heap.size/\D.heap.size+1 < G.heap.size):=by
    have e:G.heap.size=D.heap.size+1+1:=by rw [a0];simp
    exact ⟨by omega,by omega⟩
   clear a6 HO HB b1 d0 d1 d2 d3 d4 d5 d6 d7 a0 a7 b2 a1 a3
   go_wp2_with (first | rw [<- e8.out] | (at_builtin;refine wJ (E:=mE) rfl (.tmp 17) (.tmp 19) 27 59 rfl (.agg #[.string ⟨#[]⟩,.string ⟨#[]⟩,.string ⟨#[]⟩,.string ⟨#[]⟩,.int .i64 0,.int .i64 0,.bool false,.slice none 0 0]) 112 underlying27 JdN rfl w.heap.size (.slice U X.length Z) X rfl b3.out (D.heap.size+1) 0 1 (⟨m1,m2,m3,I,J,K,M,mL⟩,N,O,Q) rfl e7.out (by unfold maxLen;omega) (by omega) b5.out.1 b5.out.2 ?_;intro v5 w5 b6 b7))
   have e9:Hid (Zc mE 59 w5 w.heap.size v5 (X ++ [(⟨m1,m2,m3,I,J,K,M,mL⟩,N,O,Q)])):=b6
   have f3:Hid (Below w.heap.size w w5):=b4.out.trans b7
   clear b6 b7 b3 b4
   go_wp2
   go_roundw
   case rel=>exact ⟨i+1,by omega,by go_num,by rw [HT.out];exact e9.out,f3.out⟩
   case measure=>simp [intOf];omega
  ·have d8:i=y.length:=by omega
   have HE:Hid (y.take i=y):=by show _=_;rw [d8,List.take_length]
   rw [HE.out] at a3
   rw [HE.out]
   clear d8 e5
   go_wp2
   go_ret
   exact ⟨⟨U,Z,rfl,y,e1.out,a3.out,fun x hx=>⟨(HH.out x hx).1.below HB.out,(HH.out x hx).2⟩,fun b o e=>Nat.le_trans e0.out (e4.out b o e).1⟩,HB.out⟩
theorem Jbk (pa pb:Option Addr) (l:List Zb) (ca cb:Nat) (w:World) (hl:l.length<=1000) (hv:∀ m ∈ l,m.L.length<=1000000) (ha:mN w pa l) (hb:mN w pb l) :
 Calls prog 14 #[.slice pa l.length ca,.slice pb l.length cb] w fun e w'=>e=.returned (.bool true)/\Below w.heap.size w w':=by
 obtain ⟨j,J,a8,a9⟩:=ha
 obtain ⟨y,K,b0,b3⟩:=hb
 have b4:j.length=l.length:=by rw [<- J,List.length_map]
 have b5:y.length=l.length:=by rw [<- K,List.length_map]
 have d0:Hid (Ql mE w pa j):=a8
 have d1:Hid (Ql mE w pb y):=b0
 have d2:Hid (∀ x ∈ j,Jn w x):=a9
 have d3:Hid (∀ x ∈ y,Jn w x):=b3
 have d4:Hid (j.length=l.length):=b4
 have d5:Hid (y.length=l.length):=b5
 have d6:Hid (∀ i,i < l.length->(JN j i).1=(JN y i).1/\(JN j i).1.L.length<=1000000):=fun i hi=>by
  have e1:(JN j i).1=l[i]:=by rw [<- rR (by omega)];simp only [<- J,List.getElem_map]
  have e2:(JN y i).1=l[i]:=by rw [<- rR (by omega)];simp only [<- K,List.getElem_map]
  exact ⟨e1.trans e2.symm,by rw [e1];exact hv _ (List.getElem_mem hi)⟩
 have d7:Hid (∀ (m:Zb) (D G:Option Addr) (c1 c2:Nat) W,m.L.length<=1000000->Ql Ze W D m.L->Ql Ze W G m.L->Calls prog 40 #[.agg #[.string m.from_,.string m.aP,.string m.kind,.string m.key,.int .i64 m.op,.int .i64 m.config,.bool m.shut,.slice D m.L.length c1],.agg #[.string m.from_,.string m.aP,.string m.kind,.string m.key,.int .i64 m.op,.int .i64 m.config,.bool m.shut,.slice G m.L.length c2]] W fun e w'=>e=.returned (.bool true)/\Below W.heap.size W w'):=fun m D G c1 c2 W h1 h2 h3=>JcS m D G c1 c2 W h1 h2 h3
 clear a8 a9 b0 b3 b4 b5 J K hv
 go_enter func14,ntmps14
 go_wp2
 go_loopw [5] (fun x wr=>∃ i:Nat,i<=l.length/\x=.int .i64 i/\Below w.heap.size w wr) (fun x _=>l.length - (intOf x).toNat)
 case atStart=>exact ⟨0,Nat.zero_le _,rfl,Below.refl _ _⟩
 case round =>
  obtain ⟨i,hi,rfl,hB⟩:=hrel
  obtain ⟨I,rfl⟩:∃ I,I=wr:=⟨_,rfl⟩
  have M:Hid (Below w.heap.size w I):=hB
  by_cases N:i < l.length
  ·have O:i < j.length:=by rw [d4.out];exact N
   have Q:i < y.length:=by rw [d5.out];exact N
   obtain ⟨b1,o1,d8,e3,a0,a1,a2,a3,a4,a5,a6,a7⟩:=WB (d0.out.below hB) O
   obtain ⟨b2,o2,d9,e4,c0,c1,c2,c3,c4,c5,c6,c7⟩:=WB (d1.out.below hB) Q
   rw [rR O] at a0 a1 a2 a3 a4 a5 a6 a7
   rw [rR Q] at c0 c1 c2 c3 c4 c5 c6 c7
   obtain ⟨U,b6⟩:=d6.out i N
   have X:=(d2.out _ (vV O)).below hB
   have Y:=(d3.out _ (vV Q)).below hB
   rw [<- U] at c0 c1 c2 c3 c4 c5 c6
   have l1:=X.len
   have Z:=Y.len
   have r1:=X.eC
   have r2:=Y.eC
   rw [<- U] at Z r2
   rw [l1] at a7
   rw [Z] at c7
   have HX:Hid (∀ W,Below I.heap.size I W->Calls prog 40 #[.agg #[.string (JN j i).1.from_,.string (JN j i).1.aP,.string (JN j i).1.kind,.string (JN j i).1.key,.int .i64 (JN j i).1.op,.int .i64 (JN j i).1.config,.bool (JN j i).1.shut,.slice (JN j i).2.1 (JN j i).1.L.length (JN j i).2.2.2],.agg #[.string (JN j i).1.from_,.string (JN j i).1.aP,.string (JN j i).1.kind,.string (JN j i).1.key,.int .i64 (JN j i).1.op,.int .i64 (JN j i).1.config,.bool (JN j i).1.shut,.slice (JN y i).2.1 (JN j i).1.L.length (JN y i).2.2.2]] W fun e w'=>e=.returned (.bool true)/\Below W.heap.size W w'):=fun W hW=>d7.out (JN j i).1 _ _ _ _ W b6 (r1.below hW) (r2.below hW)
   subst d8 d9
   clear X Y l1 Z r1 r2 U b6 hB
   generalize (JN j i).1=m at *
   generalize (JN j i).2=ha at *
   generalize (JN y i).2=hb at *
   obtain ⟨m1,m2,m3,m4,m5,m6,m7,mL⟩:=m
   obtain ⟨D,n1,k1⟩:=ha
   obtain ⟨G,n2,k2⟩:=hb
   dsimp only at *
   go_wp2
   refine wp_region_still_tail 8 (by kernel_rfl) (by kernel_rfl) ?_
   simp only [List.take_succ_cons,List.take_zero,List.drop_succ_cons,List.drop_zero]
   still_step
   still_step
   still_step
   still_step
   still_step
   still_step
   still_step
   still_step
   refine wpStill_nil ?_
   go_wp2_with (go_at_call 40;refine (HX.out _ (Below.refl _ _).drew).mono ?_;rintro e w2 ⟨rfl,b7⟩;have e0:Hid (Below w.heap.size w w2):=M.out.trans (((Below.refl _ _).drew.trans b7).mono M.out.size);clear b7)
   go_roundw
   case rel=>exact ⟨i+1,by omega,by go_num,e0.out⟩
   case measure=>simp [intOf];omega
  ·go_wp2
   go_ret
   exact ⟨rfl,M.out⟩
section
open Go.ChangeShapes Go.WideShapes Go.ChangeAt Go.RowKit
def kD (x:Zb):Prop:=(∀ v ∈ x.L,Jt v)/\(-9223372036854775808<=x.config/\x.config<=9223372036854775807)
theorem Jc1:prog.cellsOf 4=1:=by kernel_rfl
theorem Jdw:prog.cellsOf 59=8:=by kernel_rfl
theorem Jc2:∃ f0 f1 f2 j y D G I,prog.underlying 59=some (.struct #[f0,f1,f2,j,y,D,G,I])/\(f0.offset=0/\f1.offset=1/\f2.offset=2/\j.offset=3/\y.offset=4/\D.offset=5/\G.offset=6/\I.offset=7)/\f0.type=9/\f1.type=9/\f2.type=9/\j.type=9/\y.type=3/\D.type=3/\G.type=4/\I.type=55:=⟨_,_,_,_,_,_,_,_,underlying59,⟨rfl,rfl,rfl,rfl,rfl,rfl,rfl,rfl⟩,rfl,rfl,rfl,rfl,rfl,rfl,rfl,rfl⟩
theorem Jdx (l:List Yb):Zm l<=60*Jcf l:=by
 induction l with
 | nil=>exact Nat.le_refl _
 | cons v l ih =>
  have e:Jcf (v :: l)=1+v.text.size / 20+Jcf l:=by simp [Jcf]
  have j:Zm (v :: l)=40+v.text.size+Zm l:=by simp [Zm]
  omega
theorem Jdy {m:DataW H->Nat} (D:RC m) {enc:TypeId×Value->H}  {I:List Value} {y:DataW H×List MemPlace} (h:DataW.trod enc prog W 0 (fun _=>true) true fuel 59 I=some y) (a5:I.length=8):∃ x:Zb×Lv,I=Jw x/\Jn W x/\kD x.1/\20+u5 x.1<=60*m y.1:=by
 obtain ⟨f0,f1,f2,f3,f4,f5,f6,f7,a0,⟨o0,o1,o2,o3,o4,o5,o6,o7⟩,t0,t1,t2,t3,t4,t5,t6,t7⟩:=Jc2
 obtain ⟨xs,n,_,hx,_,a1,j⟩:=DataW.trod_struct a0 h
 match I,a5,xs,a1 with
 | [v0,v1,v2,v3,v4,v5,v6,v7],_,[y0,y1,y2,y3,y4,y5,y6,y7],_ =>
  have J:=j 0 f0 rfl
  have K:=j 1 f1 rfl
  have M:=j 2 f2 rfl
  have N:=j 3 f3 rfl
  have O:=j 4 f4 rfl
  have Q:=j 5 f5 rfl
  have U:=j 6 f6 rfl
  have X:=j 7 f7 rfl
  rw [t0,o0,JaL] at J
  rw [t1,o1,JaL] at K
  rw [t2,o2,JaL] at M
  rw [t3,o3,JaL] at N
  rw [t4,o4,Jaw] at O
  rw [t5,o5,Jaw] at Q
  rw [t6,o6,Jc1] at U
  rw [t7,o7,Jc9] at X
  obtain ⟨m1,Y,e1,_⟩:=DataW.trod_string underlying9 (show DataW.trod _ _ _ _ _ _ _ _ [v0]=some y0 from J)
  obtain ⟨m2,Z,e2,_⟩:=DataW.trod_string underlying9 (show DataW.trod _ _ _ _ _ _ _ _ [v1]=some y1 from K)
  obtain ⟨m3,h3,e3,_⟩:=DataW.trod_string underlying9 (show DataW.trod _ _ _ _ _ _ _ _ [v2]=some y2 from M)
  obtain ⟨G,h4,e4,_⟩:=DataW.trod_string underlying9 (show DataW.trod _ _ _ _ _ _ _ _ [v3]=some y3 from N)
  obtain ⟨m5,h5,_,_⟩:=DataW.trod_int underlying3 (show DataW.trod _ _ _ _ _ _ _ _ [v4]=some y4 from O)
  obtain ⟨m6,h6,_,w6⟩:=DataW.trod_int underlying3 (show DataW.trod _ _ _ _ _ _ _ _ [v5]=some y5 from Q)
  obtain ⟨m7,h7,_⟩:=DataW.trod_bool underlying4 (show DataW.trod _ _ _ _ _ _ _ _ [v6]=some y6 from U)
  obtain ⟨p,L,c,h8,a2,a3,hn,a4,a6⟩:=JdD D (show DataW.trod _ _ _ _ _ _ _ _ [v7]=some y7 from X)
  simp only [List.cons.injEq,and_true] at Y Z h3 h4 h5 h6 h7
  subst Y Z h3 h4 h5 h6 h7 h8
  refine ⟨(⟨m1,m2,m3,G,m5,m6,m7,L⟩,(p,L.length,c)),rfl,⟨rfl,a2,a3,hn⟩,⟨a4,by simp [Lit.wf,IntKind.min,IntKind.max,IntKind.bits,IntKind.signed] at w6;exact w6⟩,?_⟩
  have hd:y.1=.agg [y0.1,y1.1,y2.1,y3.1,y4.1,y5.1,y6.1,y7.1]:=by rw [hx];rfl
  have hs:=D.agg [y0.1,y1.1,y2.1,y3.1,y4.1,y5.1,y6.1,y7.1]
  rw [<- hd] at hs
  simp only [List.map_cons,List.map_nil,List.sum_cons,List.sum_nil] at hs
  have b1:m1.size<=m y0.1:=by rw [e1];exact D.H7 m1
  have b2:m2.size<=m y1.1:=by rw [e2];exact D.H7 m2
  have b3:m3.size<=m y2.1:=by rw [e3];exact D.H7 m3
  have b4:G.size<=m y3.1:=by rw [e4];exact D.H7 G
  have b5:=D.one y4.1
  have b6:=Jdx L
  show 20+(m1.size+m2.size+m3.size+G.size+Zm L)<=_
  omega
theorem Jdz {m:DataW H->Nat} (hb:RC m) {enc:TypeId×Value->H}  {y:DataW H×List MemPlace} (h:DataW.trod enc prog W 0 (fun _=>true) true fuel 27 [v]=some y) :
 ∃ p l a1,v=.slice p l.length a1/\mN W p l/\(∀ x ∈ l,kD x)/\Xi l<=60*m y.1:=by
 rcases Deep.open_slice underlying27 h with ⟨J,_⟩ | ⟨a,G,a2,m0,nn,D,Pl,J,_,b1,b2,hm,hy,U⟩
 ·simp at J
  subst J
  exact ⟨none,[],0,rfl,mN.nil _ _,(fun x U=>by cases U),Nat.zero_le _⟩
 ·simp at J
  subst J
  have b3:G<=m0:=by rw [hm];split <;> omega
  have b4:((List.range G).map fun i=>m (D i)).sum<=m y.1:=by
   rw [hy]
   have K:=hb.slice ((List.range G).map D)
   simp only [List.map_map] at K
   exact K _
  have X:∀ i,∃ x:Zb×Lv,i < G->(∀ j u,(Jw x)[j]?=some u->W.cell? ((a.add (i*8)).add j)=some u)/\Jn W x/\kD x.1/\20+u5 x.1<=60*m (D i):=fun i=>by
   by_cases I:i < G
   ·obtain ⟨b5,K,Y⟩:=U i (by omega)
    rw [Jdw] at K
    obtain ⟨_,M,a3⟩:=World.cells?_some K
    obtain ⟨x,a4,a5,a6,a7⟩:=Jdy hb Y M
    refine ⟨x,fun _=>⟨fun j u O=>?_,a5,a6,a7⟩⟩
    have b6:j < 8:=(List.getElem?_eq_some_iff.1 O).1
    have:=a3 j (by omega)
    rw [this,a4]
    exact O
   ·exact ⟨(⟨⟨#[]⟩,⟨#[]⟩,⟨#[]⟩,⟨#[]⟩,0,0,false,[]⟩,(none,0,0)),fun h=>absurd h I⟩
  obtain ⟨R,N⟩:∃ R:Nat->Zb×Lv,∀ i,i < G->(∀ j u,(Jw (R i))[j]?=some u->W.cell? ((a.add (i*8)).add j)=some u)/\Jn W (R i)/\kD (R i).1/\20+u5 (R i).1<=60*m (D i):=⟨fun i=>Classical.choose (X i),fun i=>Classical.choose_spec (X i)⟩
  clear X
  have M:((List.range G).map R).length=G:=by simp
  have a8:∀ i,i < G->((List.range G).map R)[i]?=some (R i):=fun i I=>by
   rw [List.getElem?_map,List.getElem?_range I]
   rfl
  refine ⟨some a,((List.range G).map R).map Prod.fst,a2,by rw [List.length_map,M],⟨(List.range G).map R,rfl,?_,fun x Z=>?_⟩,fun x Z=>?_,?_⟩
  ·by_cases h0:G=0
   ·exact Or.inl (List.length_eq_zero_iff.1 (by rw [M];exact h0))
   ·obtain ⟨u0,Q⟩:∃ u,W.cell? ((a.add (0*8)).add 0)=some u:=⟨_,(N 0 (by omega)).1 0 _ rfl⟩
    obtain ⟨b,a9,sp⟩:=a
    have b0:sp=none:=by
     cases sp with
     | none=>rfl
     | some q =>
      exfalso
      simp [Addr.add,World.cell?] at Q
      revert Q
      split <;> intro h9 <;> cases h9
    subst b0
    refine Or.inr ⟨b,a9,rfl,?_,fun i x a0 j u O=>?_⟩
    ·rw [Addr.add_lit,Addr.add_lit] at Q
     rcases Nat.lt_or_ge b W.heap.size with h' | h'
     ·exact h'
     ·simp [World.cell?,Array.getElem?_eq_none h'] at Q
    ·have I:i < G:=by have:=(List.getElem?_eq_some_iff.1 a0).1;rw [M] at this;exact this
     rw [a8 i I] at a0
     have e:=Option.some.inj a0
     have hc:=(N i I).1 j u (by rw [e];exact O)
     rw [Addr.add_lit,Addr.add_lit] at hc
     exact hc
  ·obtain ⟨i,I,rfl⟩:=List.mem_map.1 Z
   exact (N i (List.mem_range.1 I)).2.1
  ·obtain ⟨z,hz,rfl⟩:=List.mem_map.1 Z
   obtain ⟨i,I,rfl⟩:=List.mem_map.1 hz
   exact (N i (List.mem_range.1 I)).2.2.1
  ·have Y : Xi (((List.range G).map R).map Prod.fst) <= ((List.range G).map fun i => 60 * m (D i)).sum := by
    unfold Xi
    rw [List.map_map,List.map_map]
    exact JaU G fun i I=>(N i I).2.2.2
   have h3:∀ (L:List Nat),(L.map fun i=>60*m (D i)).sum=60*(L.map fun i=>m (D i)).sum:=by
    intro L
    induction L with
    | nil=>rfl
    | cons x r ih=>simp only [List.map_cons,List.sum_cons,ih];omega
   rw [h3] at Y
   omega
end
section
open Go.ChangeShapes Go.WideShapes Go.ChangeAt Go.RowKit
theorem Jdh:∃ f0 f1 f2,prog.underlying 24=some (.struct #[f0,f1,f2])/\f0.offset=0/\f1.offset=1/\f2.offset=2/\f0.type=3/\f1.type=3/\f2.type=22:=⟨_,_,_,underlying24,rfl,rfl,rfl,rfl,rfl,rfl⟩
theorem ES:prog.cellsOf 3=1:=by kernel_rfl
theorem RF:prog.cellsOf 22=1:=by kernel_rfl
theorem JdO:prog.cellsOf 24=3:=by kernel_rfl
theorem BE {enc:TypeId×Value->H}  {y:DataW H×List MemPlace} (h:DataW.trod enc prog W 0 (fun _=>true) true fuel 22 [v]=some y):∃ p l O,v=.slice p l.length O/\IK W l p O:=by
 rcases Deep.open_strs underlying22 underlying9 (by kernel_rfl) h with ⟨I,_⟩ | ⟨a,j,U,m,K,I,_,X,a3,Y,hd,J⟩
 ·simp at I
  subst I
  exact ⟨none,[],0,rfl,⟨Or.inl rfl,Nat.le_refl _,fun _=>⟨rfl,rfl⟩,Nat.zero_le _,fun x J=>by cases J⟩⟩
 ·simp at I
  subst I
  have a4:j<=m:=by rw [Y];split <;> omega
  have D:((List.range j).map K).length=j:=by simp
  have Z:∀ i,i < j->Yc ((List.range j).map K) i=K i:=fun i G=>by
   rw [Xk _ i (by rw [D];exact G)]
   simp
  refine ⟨some a,(List.range j).map K,U,by rw [D],⟨?_,by rw [D];exact X,(fun e=>by cases e),by rw [D];omega,fun x a0=>?_⟩⟩
  ·by_cases h0:j=0
   ·exact Or.inl (List.length_eq_zero_iff.1 (by rw [D];exact h0))
   ·have M:=(J 0 (by omega)).1
    obtain ⟨b,a1,Q⟩:=a
    have a2:Q=none:=by
     cases Q with
     | none=>rfl
     | some q =>
      exfalso
      simp [Addr.add,World.cell?] at M
      revert M
      split <;> intro h9 <;> cases h9
    subst a2
    refine Or.inr ⟨b,a1,rfl,?_,fun i G=>?_⟩
    ·rw [Addr.add_lit] at M
     rcases Nat.lt_or_ge b W.heap.size with N | N
     ·exact N
     ·simp [World.cell?,Array.getElem?_eq_none N] at M
    ·rw [D] at G
     have:=(J i (by omega)).1
     rw [Addr.add_lit] at this
     rw [Z i G]
     exact this
  ·obtain ⟨i,G,rfl⟩:=List.mem_map.1 a0
   exact (J i (by have:=List.mem_range.1 G;omega)).2
theorem JcC {enc:TypeId×Value->H} {base:Nat} {d:DataW H} {ps:List MemPlace} (a4:Value.okWide prog W .any base 24 v) (h:DataW.Trod enc prog W 0 (fun _=>true) true 24 v d ps) :
 ∃ c p y,v=iE c (.slice p c.L.length y)/\IK W c.L p y/\Jt5 c:=by
 obtain ⟨f0,f1,f2,D,U,X,Y,Z,t1,t2⟩:=Jdh
 obtain ⟨G,rfl,I⟩:=okWide_struct D a4
 rw [JdO] at I
 obtain ⟨fuel,hf⟩:=h
 obtain ⟨j,J⟩:∃ j,j=G.toList:=⟨_,rfl⟩
 have a0:j.length=3:=by rw [J];simpa using I
 have a1:G=j.toArray:=by rw [J]
 subst a1
 have a2:DataW.trod enc prog W 0 (fun _=>true) true fuel 24 j=some (d,ps):=by
  have e:(Value.agg j.toArray).cells.toList=j:=by simp [Value.cells]
  rw [<- e]
  exact hf
 obtain ⟨z0,z1,z2,n2,_,a5,K,M,N⟩:=Deep.trod_struct3 D a2
 match j,a0 with
 | [v0,v1,v2],_ =>
  rw [Z,U,ES] at K
  rw [t1,X,ES] at M
  rw [t2,Y,RF] at N
  obtain ⟨cn,O,_,wn⟩:=DataW.trod_int underlying3 K
  obtain ⟨ck,Q,_,wk⟩:=DataW.trod_int underlying3 M
  obtain ⟨p,l,y,hl,a3⟩:=BE (show DataW.trod _ _ _ _ _ _ _ _ [v2]=some z2 from N)
  simp at O Q
  subst O Q hl
  exact ⟨⟨cn,ck,l⟩,p,y,rfl,a3,bounds_i64 wn,bounds_i64 wk⟩
end
end Go.Proofs.YtmikbldbfnlfjaaGreatDoor
