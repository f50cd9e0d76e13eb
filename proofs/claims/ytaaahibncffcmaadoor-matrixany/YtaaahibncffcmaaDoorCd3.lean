/- Texts laid together. -/
import Derived.Test.YtaaahibncffcmaaDoorCd2
import Derived.Deep.RegionWith
import Derived.Deep.CutRange
set_option maxRecDepth 10000
set_option maxHeartbeats 16000000
open Option renaming none->aa,some->ab
open List renaming getD_eq_getElem?_getD->ac,length_map->ag,getElem?_eq_getElem->ai,mem_singleton->ak,getElem?_map->al,mem_append_left->am,getElem?_eq_none->ao,nodup_range->aq,mem_append->av,mem_append_right->ax,mem_range->ay,length_range->aC,getElem_mem->aD,range->aJ
open Go.RowKit renaming Below->ae
open Go.World renaming grownBy_alloc->af,cell?_alloc_at->ah
open Nat renaming le_refl->aj,lt_irrefl->aA,not_lt_zero->aI,zero_add->aN
open Go.RowKit.Below renaming refl->an
open Or renaming inr->ap,inl->au
open Classical renaming choose->ar
open Go renaming Calls->aw,Addr->aB,below_drewN->za,Value->zb
namespace Go.Proofs.YtaaahibncffcmaaDoor
open Go.Proofs.Tryd
open Go.RowKit
variable {w w':World}{B d n k:Nat}{j:Nat->Nat}{v:zb}{X:List Nat}
def QO (d:Nat) (f:Nat->Nat) (r:Nat) (k:Nat):Prop:=k=d∨∃ i,i < r/\f i=k
theorem Zv.blocks  {r:Nat} {f:Nat->Nat->Nat} (h:Zv w B d j r n f):∀ k,QO d j r k->B<=k/\k < w.heap.size:=fun k o=>by
 rcases o with rfl | ⟨i,s,rfl⟩
 ·exact h.rows.lt
 ·exact (h.all.row i s).lt
theorem EX {v u:Nat->Nat->Lin.F} (h:Lin.cL n k v d) (o:∀ i,i < k->∀ j,j < n->v i j=u i j):Lin.cL n k u d:=by
 obtain ⟨b,r,s,t⟩:=h
 exact ⟨b,r,fun i f=>Lin.aX (s i f) o (fun _ _=>rfl),fun i f=>Lin.aX (t i f) (fun _ _ _ _=>rfl) (o i f)⟩
def JK (M:List (List Nat)) (r:Nat):Nat->Nat->Nat:=fun i j=>if j < r then Gf.nth (Qh M i) j else if i=j - r then 1 else 0
theorem OM {M:List (List Nat)} (h:QR M) (r i j:Nat):JK M r i j < 256:=by
 unfold JK
 by_cases e:j < r
 ·rw [if_pos e];exact h i j
 ·by_cases d:i=j - r
  ·rw [if_neg e,if_pos d];decide
  ·rw [if_neg e,if_neg d];decide
theorem IW (M:List (List Nat)) (r i j:Nat) (d:j < r):Ym (JK M r) i j=Xi M i j:=by
 unfold Ym JK
 rw [if_pos d]
 rfl
theorem e8 (M:List (List Nat)) (r i j:Nat):Ym (JK M r) i (r+j)=Lin.one i j:=by
 unfold Ym JK Lin.one
 rw [if_neg (by omega),show r+j - r=j by omega]
 by_cases e:i=j
 ·rw [if_pos e,if_pos e];rfl
 ·rw [if_neg e,if_neg e];rfl
def xQ (w':World) (M:List (List Nat)) (z:aB) (e:Ending):Prop :=
 ∃ d:Nat,Lin.cL M.length M.length (Xi M) d/\((d < M.length/\e=.returned (.tuple #[.slice aa 0 0,.iface 136 (.pointer (ab z))])) ∨
  (d=M.length/\∃ (f:Nat) (x:Nat->Nat->Nat),e=.returned (.tuple #[.slice (ab ⟨f,0,aa⟩) M.length M.length,.nilIface])/\QJ w' (ab ⟨f,0,aa⟩) (XB M.length M.length x)/\(∀ i j,x i j < 256)/\∀ i j,i < M.length->j < M.length->Lin.mm M.length (Ym x) (Xi M) i j=Lin.one i j))
theorem FJ (p:Option aB) (M:List (List Nat)) (G:Nat) (z:aB) (w:World) (R:jQ M) (a1:(Qh M 0).length=M.length) (hb:QR M) (h:QJ w p M)
 (hz:w.cell? ⟨2,0,aa⟩=ab (.iface 136 (.pointer (ab z)))) :
 aw prog 18 #[.slice p M.length G] w fun e w'=>xQ w' M z e/\ae w.heap.size w w':=by
 have HM:Hid (jQ M):=R
 have l1:1<=M.length:=R.1
 have l2:M.length<=16:=R.2.1
 have c9:2 < w.heap.size:=Qf hz
 have d0:Hid (QR M):=hb
 obtain ⟨u,K⟩:∃ u,u=w.alloc (.cells #[.slice p M.length G] 23):=⟨_,rfl⟩
 have S:ae w.heap.size w u:=by rw [K];exact (an _ _).alloc (aj _) _
 have g4:u.heap.size=w.heap.size+1:=by rw [K];simp
 have a2:Hid (QJ u p M):=h.below S
 have a3:u.cell? ⟨w.heap.size,0,aa⟩=ab (.slice p M.length G):=by rw [K,ah _ _ _ _ rfl];rfl
 have d1:Hid (u.cell? ⟨2,0,aa⟩=ab (.iface 136 (.pointer (ab z)))):=(S.cell (p:=⟨2,0,aa⟩) c9).trans hz
 have d2:Hid (ae w.heap.size w u):=S
 have d3:Hid (∀ i,i < M.length->(Qh M i).length=M.length):=fun i B=>(R.2.2 i B).2.2.trans a1
 obtain ⟨b,o,b1,o1,c1,d4,d5,_,a4,_⟩:=a2.out.row (i:=0) (by omega) (by rw [a1];omega)
 rw [a1] at a4
 have d6:u.cell? ⟨b,o,aa⟩=ab (.slice (ab ⟨b1,o1,aa⟩) M.length c1):=a4
 subst d4
 have d7:Hid (u=w.alloc (.cells #[.slice (ab ⟨b,o,aa⟩) M.length G] 23)):=K
 have i0:0 < M.length:=by omega
 have i1:(0:Int) < (M.length:Int):=by omega
 clear R hb h hz S K a4 a1
 go_enter func18,ntmps18
 go_wp2_with fail
 rw [<- d7.out]
 go_quiet ((go_at_call 35;exact Calls.quiet_of_same (wW _ M G _ HM.out (a2.out.drewN _))))
 obtain ⟨t,T⟩:∃ t,t=u.drewN nq:=⟨_,rfl⟩
 have a5:ae u.heap.size u t:=by rw [T];exact za (an _ _) _
 have d8:t.heap.size=u.heap.size:=by rw [T];rfl
 rw [<- T]
 have d9:t.cell? ⟨w.heap.size,0,aa⟩=ab (.slice (ab ⟨b,o,aa⟩) M.length G):=(a5.cell (p:=⟨w.heap.size,0,aa⟩) (by show w.heap.size < _;omega)).trans a3
 obtain ⟨f,L⟩:∃ f,f=t.alloc (.cells #[.int .i64 (M.length:Int)] 3):=⟨_,rfl⟩
 have N:ae u.heap.size u f:=by rw [L];exact a5.alloc (by omega) _
 have g5:f.heap.size=w.heap.size+2:=by rw [L];simp;omega
 have a6:f.cell? ⟨w.heap.size+1,0,aa⟩=ab (.int .i64 (M.length:Int)):=by rw [L,ah _ _ _ _ (by omega)];rfl
 have b3:f.cell? ⟨w.heap.size,0,aa⟩=ab (.slice (ab ⟨b,o,aa⟩) M.length G):=(N.cell (p:=⟨w.heap.size,0,aa⟩) (by show w.heap.size < _;omega)).trans a3
 have e1:Hid (QJ f (ab ⟨b,o,aa⟩) M):=a2.out.below N
 have e2:Hid (f.cell? ⟨2,0,aa⟩=ab (.iface 136 (.pointer (ab z)))):=(N.cell (p:=⟨2,0,aa⟩) (by show 2 < _;omega)).trans d1.out
 have e3:Hid (ae w.heap.size w f):=d2.out.trans (N.mono (by omega))
 have U:Hid (∀ i j,i < M.length->j < 2*M.length->∀ t,ae f.heap.size f t->aw prog 38 (#[.int .i64 (i:Int),.int .i64 (j:Int)] ++ #[.pointer (ab ⟨w.heap.size+1,0,aa⟩),.pointer (ab ⟨w.heap.size,0,aa⟩)]) t fun e f=>e=.returned (.int .u8 ((JK M M.length i j:Nat):Int))/\ae t.heap.size t f):=by
  intro i j B I s h4
  exact UM (w.heap.size+1) w.heap.size i j M.length G _ M s B I (d3.out i B) (by omega) ((h4.cell (p:=⟨w.heap.size+1,0,aa⟩) (by show w.heap.size+1 < _;omega)).trans a6) ((h4.cell (p:=⟨w.heap.size,0,aa⟩) (by show w.heap.size < _;omega)).trans b3) (e1.out.below h4)
 have e4:Hid (f=t.alloc (.cells #[.int .i64 (M.length:Int)] 3)):=L
 have g6:t.heap.size=w.heap.size+1:=by omega
 clear T a5 d8 L N a3 d6 d5
 have a7:=tP M.length (2*M.length) (JK M M.length) 38 #[.pointer (ab ⟨w.heap.size+1,0,aa⟩),.pointer (ab ⟨w.heap.size,0,aa⟩)] f (by omega) (by omega) (enters_of func38 (by kernel_rfl) rfl) U.out
 rw [show ((2*M.length:Nat):Int)=2*(M.length:Int) by omega] at a7
 go_wp2_with (go_at_call 27;rw [<- e4.out];refine a7.mono ?_;rintro e s ⟨⟨r,A,rfl,V⟩,a8⟩)
 have b4:Hid (Zv s f.heap.size r A M.length (2*M.length) (JK M M.length)):=V
 have g7:r < s.heap.size:=V.rows.lt.2
 have f0:f.heap.size<=s.heap.size:=a8.size
 obtain ⟨y,O⟩:∃ y,y=s.alloc (.cells #[.slice (ab ⟨r,0,aa⟩) M.length M.length] 23):=⟨_,rfl⟩
 rw [<- O]
 have a9:ae s.heap.size s y:=by rw [O];exact (an _ _).alloc (aj _) _
 have g8:y.heap.size=s.heap.size+1:=by rw [O];simp
 have Y:ae f.heap.size f y:=a8.trans (a9.mono f0)
 have b5:y.cell? ⟨w.heap.size+1,0,aa⟩=ab (.int .i64 (M.length:Int)):=(Y.cell (p:=⟨w.heap.size+1,0,aa⟩) (by show w.heap.size+1 < _;omega)).trans a6
 have f1:y.cell? ⟨s.heap.size,0,aa⟩=ab (.slice (ab ⟨r,0,aa⟩) M.length M.length):=by rw [O,ah _ _ _ _ rfl];rfl
 have b6:Hid (y.cell? ⟨2,0,aa⟩=ab (.iface 136 (.pointer (ab z)))):=(Y.cell (p:=⟨2,0,aa⟩) (by show 2 < _;omega)).trans e2.out
 have f2:Hid (Zv y f.heap.size r A M.length (2*M.length) (JK M M.length)):=V.below a9
 have f3:Hid (ae w.heap.size w y):=e3.out.trans (Y.mono (by omega))
 have J:Hid (∀ k,QO r A M.length k->f.heap.size<=k/\k < s.heap.size):=b4.out.blocks
 have f4:Hid (∀ W:World,ae y.heap.size y W->aw prog 37 #[.slice (ab ⟨r,0,aa⟩) M.length M.length,.int .i64 (M.length:Int)] W fun e w'=>∃ (d:Nat) (D:Nat->Nat) (g:Nat->Nat->Nat),e=.returned (.int .i64 (d:Int))/\ZI (QO r A M.length) y w'/\Zv w' f.heap.size r D M.length (2*M.length) g/\(∀ i j,g i j < 256)/\Lin.eO M.length (2*M.length) M.length (Ym (JK M M.length)) (Ym g) d):=by
  intro W Z
  refine (bR (QO r A M.length) f.heap.size r A M.length (2*M.length) M.length (JK M M.length) z W (by omega) (by omega) (by omega) (OM d0.out M.length) (f2.out.below Z) (au rfl) (fun i B=>ap ⟨i,B,rfl⟩) (fun k E=>⟨(J.out k E).1,by have:=(J.out k E).2;have:=Z.size;omega⟩) (by omega) ((Z.cell (p:=⟨2,0,aa⟩) (by show 2 < _;omega)).trans b6.out)).mono ?_
  rintro e w' ⟨hF,d,D,g,rfl,hG,hl,hR⟩
  exact ⟨d,D,g,rfl,(ZP Z).trans hF,hG,hl,hR⟩
 have nS:¬ QO r A M.length (w.heap.size+1):=fun E=>by have:=(J.out _ E).1;omega
 have nB:¬ QO r A M.length s.heap.size:=fun E=>by have:=(J.out _ E).2;omega
 have nE:¬ QO r A M.length 2:=fun E=>by have:=(J.out _ E).1;omega
 have NS:Hid (¬ QO r A M.length (w.heap.size+1)):=nS
 have NB:Hid (¬ QO r A M.length s.heap.size):=nB
 have NE:Hid (¬ QO r A M.length 2):=nE
 clear nS nB nE O a9 Y a8 V b4 a6 d9 b3 a7 U
 go_cut [30] from 26 to 30 (fun v wc=>∃ (d:Nat) (D:Nat->Nat) (g:Nat->Nat->Nat),v=.bool (decide (d < M.length))/\ZI (QO r A M.length) y wc/\Zv wc f.heap.size r D M.length (2*M.length) g/\(∀ i j,g i j < 256)/\Lin.eO M.length (2*M.length) M.length (Ym (JK M M.length)) (Ym g) d)
 case first =>
  go_region_with (go_at_call 37;refine (f4.out _ (by first | exact (Below.refl _ _).drew | exact Below.refl _ _)).mono ?_;rintro e w6 ⟨d,D,g,rfl,hF,hG,hl,hR⟩;have b7:=hF.cell b5 NS.out)
  all_goals (go_wp2_with fail;go_meet)
  all_goals exact ⟨d,D,g,rfl,hF,hG,hl,hR⟩
 case rest =>
  obtain ⟨d,D,g,rfl,H,b8,c0,a0⟩:=hcut
  have g9:Hid (ZI (QO r A M.length) y wc):=H
  have f5:Hid (Zv wc f.heap.size r D M.length (2*M.length) g):=b8
  have c2:Hid (∀ i j,g i j < 256):=c0
  have f6:Hid (Lin.eO M.length (2*M.length) M.length (Ym (JK M M.length)) (Ym g) d):=a0
  have c3:Hid (Lin.cL M.length M.length (Xi M) d):=EX (a0.xN (by omega)) (fun i _ j I=>IW M M.length i j I)
  have f7:wc.cell? ⟨2,0,aa⟩=ab (.iface 136 (.pointer (ab z))):=H.cell b6.out NE.out
  have b7:wc.cell? ⟨w.heap.size+1,0,aa⟩=ab (.int .i64 (M.length:Int)):=H.cell b5 NS.out
  have f8:wc.cell? ⟨s.heap.size,0,aa⟩=ab (.slice (ab ⟨r,0,aa⟩) M.length M.length):=H.cell f1 NB.out
  have h0:y.heap.size<=wc.heap.size:=H.size
  have c5:Hid (ae w.heap.size w wc):=f3.out.trans ((H.below (fun k E=>(J.out k E).1) (by omega)).mono (by omega))
  have h1:d<=M.length:=a0.le
  clear H b8 c0 a0
  by_cases Q:d < M.length
  ·have HD:Hid (d < M.length):=Q
   rw [decide_eq_true Q]
   clear Q
   go_wp2
   go_quiet (fail)
   go_wp2
   go_ret2
   exact ⟨⟨d,c3.out,au ⟨HD.out,rfl⟩⟩,za c5.out _⟩
  ·have b2:d=M.length:=by omega
   have HD:Hid (d=M.length):=b2
   have f9:Hid (Lin.eO M.length (2*M.length) M.length (Ym (JK M M.length)) (Ym g) M.length):=by have:=f6.out;rw [b2] at this;exact this
   rw [decide_eq_false Q]
   clear Q b2 f7
   have U:Hid (∀ i j,i < M.length->j < M.length->∀ t,ae wc.heap.size wc t->aw prog 40 (#[.int .i64 (i:Int),.int .i64 (j:Int)] ++ #[.pointer (ab ⟨s.heap.size,0,aa⟩),.pointer (ab ⟨w.heap.size+1,0,aa⟩)]) t fun e f=>e=.returned (.int .u8 ((g i (M.length+j):Nat):Int))/\ae t.heap.size t f):=by
    intro i j B I w7 h7
    have c6:=f5.out.below h7
    refine k3 s.heap.size (w.heap.size+1) i j M.length r M.length (2*M.length) D (g i (M.length+j)) w7 B (by omega) (by omega) ((h7.cell (p:=⟨s.heap.size,0,aa⟩) (by show s.heap.size < _;omega)).trans f8) ((h7.cell (p:=⟨w.heap.size+1,0,aa⟩) (by show w.heap.size+1 < _;omega)).trans b7) (c6.rows.cell i B) ?_
    rw [(c6.all.row i B).cell (M.length+j) (by omega) (Jf _ _),Yq _ _ _ (by omega)]
   go_wp2_with (go_at_call 27;refine (tP M.length M.length (fun i j=>g i (M.length+j)) 40 #[.pointer (ab ⟨s.heap.size,0,aa⟩),.pointer (ab ⟨w.heap.size+1,0,aa⟩)] wc (by omega) (by omega) (enters_of func40 (by kernel_rfl) rfl) U.out).mono ?_;rintro e w8 ⟨⟨g0,h2,rfl,g1⟩,g2⟩)
   go_ret2
   refine ⟨⟨d,c3.out,ap ⟨HD.out,g0,fun i j=>g i (M.length+j),rfl,g1.tU (fun i j=>c2.out _ _) M.length (aj _),fun i j=>c2.out _ _,?_⟩⟩,c5.out.trans (g2.mono (by omega))⟩
   exact f9.out.kM (fun i j _ I=>IW M M.length i j I) (fun i j _ _=>e8 M M.length i j)
def kK (k n:Nat):List (List Nat):=(aJ n).map fun i=>Qi k fun j=>Gf.aQ (JB k) j i
theorem sI (k:Nat):(JB k).Nodup:=aq
theorem JE (k:Nat):(JB k).length=k:=by simp [JB]
theorem tA (k:Nat) (h:k<=256):Gf.Bytes (JB k):=fun i=>by
 by_cases d:i < k
 ·rw [Gf.aK _ _ (by rw [JE];exact d)];simp [JB];omega
 ·unfold Gf.nth;rw [ac,ao (by rw [JE];omega)];decide
theorem xT (k r:Nat) (h:r < k):Gf.nth (JB k) r=r:=by
 rw [Gf.aK _ r (by rw [JE];exact h)]
 simp [JB]
theorem IC (k:Nat) (s:k<=256):Lin.dD k k (Ym Gf.bZ):=by
 have h:=R3 (JB k) (tA k s) (sI k)
 rw [JE] at h
 intro c d
 refine h c (fun j f=>?_)
 rw [<- d j f]
 exact Lin.aH fun r o=>by
  show Lin.mu (c r) (Qm (Gf.bZ (Gf.nth (JB k) r) j))=_
  rw [xT k r o]
  rfl
theorem BD {v:Nat->Nat->Lin.F} (h:Lin.dD n n v):Lin.cL n n v n:=⟨v,h,fun _ d=>Lin.aU v d,fun _ d=>Lin.aU v d⟩
theorem nY:∀ i j,Gf.bZ i j < 256:=fun i j=>Gf.dV i j
theorem N4 (n k:Nat) (D:n<=12) (E:k<=n) (x:Nat->Nat->Nat) (z:∀ i j,x i j < 256) (A:∀ i j,i < k->j < k->Lin.mm k (Ym x) (Ym Gf.bZ) i j=Lin.one i j) (i j:Nat) (B:i < n) (h:j < k) :
 jM (XB n k Gf.bZ) (XB k k x) i j k=Gf.aQ (JB k) j i:=by
 refine zA (o8 _ _ (J6 nY) i j k) (Gf.bL _ _ _) ?_
 rw [AF (J6 nY) (J6 z)]
 have o:Lin.aL k (fun t=>Lin.mu (Xi (XB n k Gf.bZ) i t) (Xi (XB k k x) t j))=Lin.mm k (fun i t=>Qm (Gf.bZ i t)) (Ym x) i j:=Lin.aH fun t f=>by rw [uN B f,uN f h];rfl
 rw [o]
 have r:=Lin.cK A
 have s:∀ m,m < k->Qm (Gf.bZ i m)=Lin.mm k (fun i j=>Qm (Gf.aQ (JB k) j i)) (Ym Gf.bZ) i m:=fun m d=>by
  have:=Y6 (JB k) (tA k (by omega)) (sI k) i m (by omega) (by rw [JE];exact d)
  rw [JE] at this
  rw [<- this]
  exact Lin.aH fun t f=>by rw [xT k t f];rfl
 have u:Lin.mm k (fun i t=>Qm (Gf.bZ i t)) (Ym x) i j=Lin.mm k (Lin.mm k (fun i j=>Qm (Gf.aQ (JB k) j i)) (Ym Gf.bZ)) (Ym x) i j:=Lin.bQ k (fun m d=>s m d) (fun _ _=>rfl)
 rw [u,Lin.cN]
 have y:Lin.mm k (fun i j=>Qm (Gf.aQ (JB k) j i)) (Lin.mm k (Ym Gf.bZ) (Ym x)) i j=Lin.mm k (fun i j=>Qm (Gf.aQ (JB k) j i)) Lin.one i j:=Lin.bQ k (fun _ _=>rfl) (fun m d=>r m j d h)
 rw [y,Lin.fK k _ i j h]
theorem PI (n k:Nat) (t:1<=k) (h:n<=12) (o:k<=n) (x:Nat->Nat->Nat) (r:∀ i j,x i j < 256) (s:∀ i j,i < k->j < k->Lin.mm k (Ym x) (Ym Gf.bZ) i j=Lin.one i j) :
 xW (XB n k Gf.bZ) (XB k k x) n=kK k n:=by
 rw [K1,XD k k x 0 (by omega),Jf,Zs]
 unfold XB kK
 refine List.map_congr_left fun i d=>?_
 exact YL k _ _ (fun j f=>N4 n k h o x r s i j (ay.1 d) f)
theorem mL (n k:Nat) (z:aB) (w:World) (h:1<=k) (H:k<=n) (T:n<=12) (U:w.cell? ⟨2,0,aa⟩=ab (.iface 136 (.pointer (ab z)))) :
 aw prog 11 #[.int .i64 (n:Int),.int .i64 (k:Int)] w fun e w'=>(∃ f,e=.returned (.tuple #[.slice (ab ⟨f,0,aa⟩) n n,.nilIface])/\QJ w' (ab ⟨f,0,aa⟩) (kK k n))/\ae w.heap.size w w':=by
 have I:=K0 n k w h H T
 have u:Hid (w.cell? ⟨2,0,aa⟩=ab (.iface 136 (.pointer (ab z)))):=U
 clear U
 go_enter func11,ntmps11
 go_wp2_with fail
 refine I.mono ?_
 rintro e o ⟨⟨f,gs,rfl,y⟩,A⟩
 have J:Hid (QJ o (ab ⟨f,0,aa⟩) (XB n k Gf.bZ)):=y.tU nY n (aj _)
 have K:Hid (QJ o (ab ⟨f,0,aa⟩) (XB k k Gf.bZ)):=y.tU nY k H
 have L:Hid (o.cell? ⟨2,0,aa⟩=ab (.iface 136 (.pointer (ab z)))):=(A.cell (p:=⟨2,0,aa⟩) (Qf u.out)).trans u.out
 have M:Hid (ae w.heap.size w o):=A
 clear y A I u
 have r:=FJ (ab ⟨f,0,aa⟩) (XB k k Gf.bZ) n z o (zH h (by omega) h (by omega)) (by rw [XD k k Gf.bZ 0 (by omega),Jf,Zs]) (J6 nY) K.out L.out
 unfold xQ at r
 rw [Zs] at r
 go_wp2_with fail
 refine r.mono ?_
 rintro e B ⟨⟨d,N,V⟩,D⟩
 have W:d=k:=Lin.dY N (EX (BD (IC k (by omega))) (fun i E j s=>(uN E s).symm))
 rcases V with ⟨a2,_⟩ | ⟨_,Y,x,rfl,O,Q,R⟩
 ·omega
 ·have S:Hid (ae w.heap.size w B):=M.out.trans (D.mono M.out.size)
  have Z:w.heap.size<=B.heap.size:=S.out.size
  have G:=RK (ab ⟨f,0,aa⟩) (ab ⟨Y,0,aa⟩) (XB n k Gf.bZ) (XB k k x) n k B (zH (by omega) (by omega) h (by omega)) (zH h (by omega) h (by omega)) (by rw [XD n k Gf.bZ 0 (by omega),Jf,Zs]) (J6 nY) (J6 Q) (J.out.below D) O
  rw [Zs,Zs,PI n k h T H x Q (fun i j E s=>by
   rw [<- R i j E s]
   exact Lin.bQ k (fun _ _=>rfl) (fun t ht=>(uN ht s).symm))] at G
  clear N W O R D r K J L
  go_wp2_with fail
  refine G.mono ?_
  rintro e w3 ⟨⟨g3,rfl,a0⟩,a1⟩
  clear G
  go_wp2
  go_ret2
  exact ⟨⟨g3,rfl,a0⟩,S.out.trans (a1.mono Z)⟩
def Xn (k x:Nat):List Nat:=Qi k fun j=>Gf.aQ (JB k) j x
theorem c7 {y:Nat} (h:QJ w (ab ⟨y,0,aa⟩) (kK k n)) (M:1<=n) (N:1<=k):∃ A B G:Nat->Nat,y < w.heap.size/\∀ i,i < n->w.cell? ⟨y,i,aa⟩=ab (.slice (ab ⟨A i,B i,aa⟩) k (G i))/\jU w (ab ⟨A i,B i,aa⟩) (Xn k i):=by
 have H:kK k n=XB n k (fun i j=>Gf.aQ (JB k) j i):=rfl
 have D:∀ i,i < n->∃ f r c,w.cell? ⟨y,i,aa⟩=ab (.slice (ab ⟨f,r,aa⟩) k c)/\jU w (ab ⟨f,r,aa⟩) (Xn k i):=fun i s=>by
  rw [H] at h
  have E:Qh (XB n k fun i j=>Gf.aQ (JB k) j i) i=Xn k i:=XD n k _ i s
  obtain ⟨b,o,f,r,c,z,_,I,d,u⟩:=h.row (i:=i) (by rw [Zs];exact s) (by rw [E];unfold Xn;rw [Jf];omega)
  injection z with z
  injection z with J K _
  subst J K
  rw [E] at d u
  have L:(Xn k i).length=k:=Jf _ _
  rw [L,aN] at d
  exact ⟨f,r,c,d,⟨XL _ _ (fun j=>Gf.bL _ _ _),ap ⟨f,r,rfl,I,u⟩⟩⟩
 have d:∀ i,∃ t:Nat×Nat×Nat,i < n->w.cell? ⟨y,i,aa⟩=ab (.slice (ab ⟨t.1,t.2.1,aa⟩) k t.2.2)/\jU w (ab ⟨t.1,t.2.1,aa⟩) (Xn k i):=fun i=>by
  by_cases s:i < n
  ·obtain ⟨f,r,c,u⟩:=D i s
   exact ⟨(f,r,c),fun _=>u⟩
  ·exact ⟨(0,0,0),fun h=>absurd h s⟩
 refine ⟨fun i=>(ar (d i)).1,fun i=>(ar (d i)).2.1,fun i=>(ar (d i)).2.2,?_,fun i s=>Classical.choose_spec (d i) s⟩
 obtain ⟨_,_,_,u,_⟩:=D 0 (by omega)
 exact Qf u
structure Qa (w:World) (B n k:Nat) (rv:Nat->zb) (v:zb) (X:List Nat):Prop where
 own:JM w B 32 v (X.map rv)
 form:∃ p c,v=.slice p X.length c
 nd:X.Nodup
 lt:∀ x ∈ X,x < n
 le:X.length<=k
theorem Qa.kept  {d:Nat->zb}  {row:Option Nat} (h:Qa w B n k d v X) (j:w.grownBy w' row) (o:∀ g,row=ab g->g < B):Qa w' B n k d v X:=by
 refine ⟨h.own.kept j ?_,h.form,h.nd,h.lt,h.le⟩
 cases f:v.ownBlock with
 | none=>exact au rfl
 | some g =>
  refine ap (fun e=>?_)
  have:=h.own.block f
  have:=o g e.symm
  omega
theorem Qa.snoc  {d:Nat->zb} {j:zb} {x:Nat} (h:Qa w B n k d v X) (D:x < n) (E:x ∉ X) (G:X.length < k) (o:JM w' B 32 j (X.map d ++ [d x])):Qa w' B n k d j (X ++ [x]):=by
 have r:(X ++ [x]).map d=X.map d ++ [d x]:=by simp
 refine ⟨by rw [r];exact o,?_,?_,?_,by rw [List.length_append,List.length_singleton];omega⟩
 ·rcases o.cells with ⟨_,s⟩ | ⟨g,t,u,_⟩
  ·exact absurd s (by simp)
  ·exact ⟨ab ⟨g,0,aa⟩,t,by rw [u];simp⟩
 ·rw [List.nodup_append]
  refine ⟨h.nd,by simp,?_⟩
  intro a z b A e
  rw [ak.1 A] at e
  exact E (by rw [<- e];exact z)
 ·intro y f
  rcases av.1 f with f | f
  ·exact h.lt y f
  ·rw [ak.1 f];exact D
theorem Qa.tU  {o E:Nat->Nat}  (h:Qa w B n k (fun x=>.slice (ab ⟨j x,o x,aa⟩) k (E x)) v X) (r:0 < X.length) (G:∀ x,x < n->jU w (ab ⟨j x,o x,aa⟩) (Xn k x)):∃ p c,v=.slice p X.length c/\QJ w p (X.map (Xn k)):=by
 rcases h.own.cells with ⟨_,s⟩ | ⟨g,t,u,_,y,z⟩
 ·have:=congrArg List.length s
  simp at this
  rw [this] at r
  exact absurd r (aA _)
 ·refine ⟨ab ⟨g,0,aa⟩,t,by rw [u];simp,ap ⟨g,0,rfl,y,fun i d=>?_⟩⟩
  rw [ag] at d
  have f:X[i]?=ab X[i]:=ai d
  have A:Qh (X.map (Xn k)) i=Xn k X[i]:=by unfold Qh;rw [ac,al,f];rfl
  have D:(Xn k X[i]).length=k:=Jf _ _
  rw [A,D,aN]
  exact ⟨_,_,z i _ (by rw [al,f];rfl),G _ (h.lt _ (aD d)),fun e=>by cases e⟩
theorem NN  (h:1<=k) (j:k<=12) (o:X.length=k):jQ (X.map (Xn k)):=by
 have f:∀ i,i < X.length->(Qh (X.map (Xn k)) i).length=k:=fun i d=>by
  unfold Qh
  rw [ac,al,ai d]
  exact Jf _ _
 refine ⟨by rw [ag];omega,by rw [ag];omega,fun i d=>?_⟩
 rw [ag] at d
 rw [f i d,f 0 (by omega)]
 exact ⟨h,by omega,rfl⟩
theorem LB (k:Nat) (X:List Nat):QR (X.map (Xn k)):=fun i=>by
 by_cases d:i < X.length
 ·have:Qh (X.map (Xn k)) i=Xn k X[i]:=by unfold Qh;rw [ac,al,ai d];rfl
  rw [this]
  exact XL _ _ (fun j=>Gf.bL _ _ _)
 ·intro j
  have:Qh (X.map (Xn k)) i=[]:=by unfold Qh;rw [ac,ao (by rw [ag];omega)];rfl
  rw [this]
  show ([]:List Nat).getD j 0 < 256
  simp
theorem OX  (D:n<=12) (s:X.length=k) (z:X.Nodup) (A:∀ x ∈ X,x < n) (E:k<=n):Lin.cL k k (Xi (X.map (Xn k))) k:=by
 have t:Gf.Bytes X:=fun i=>by
  by_cases d:i < X.length
  ·rw [Gf.aK X i d];have:=A _ (aD d);omega
  ·show X.getD i 0 < 256
   rw [ac,ao (by omega)];decide
 have h:=PZ (JB k) X (tA k (by omega)) (sI k) t z (by rw [JE];exact s)
 rw [JE,s] at h
 refine BD ?_
 intro c u
 refine h c (fun j f=>?_)
 rw [<- u j f]
 refine Lin.aH fun r B=>?_
 have o:r < X.length:=by omega
 have y:Qh (X.map (Xn k)) r=Xn k X[r]:=by unfold Qh;rw [ac,al,ai o];rfl
 show Lin.mu (c r) (Qm (Gf.aQ (JB k) j (Gf.nth X r)))=Lin.mu (c r) (Qm (Gf.nth (Qh (X.map (Xn k)) r) j))
 rw [y,Gf.aK X r o]
 unfold Xn
 rw [Yq _ _ j f]
theorem c4 (i:Nat) (d:i < 1):Xi [[1]] i 0=1:=by
 obtain rfl:i=0:=by omega
 rfl
theorem hD (h:Lin.cL 1 1 (Xi [[1]]) d):d=1:=by
 refine Lin.dY h ⟨Xi [[1]],?_,fun i f=>Lin.aU _ f,fun i f=>Lin.aU _ f⟩
 refine Lin.UF (fun i=>i) (fun _ h=>h) (fun i f=>?_) (fun i j k o=>by omega)
 obtain rfl:i=0:=by omega
 rw [c4 0 f]
 exact Lin.G5
theorem mE {x:Nat->Nat->Nat} (o:∀ i j,x i j < 256) (h:∀ i j,i < 1->j < 1->Lin.mm 1 (Ym x) (Xi [[1]]) i j=Lin.one i j):x 0 0=1:=by
 have d:=h 0 0 (by decide) (by decide)
 have k:Lin.mm 1 (Ym x) (Xi [[1]]) 0 0=Qm (x 0 0):=by
  show Lin.ad 0 (Lin.mu (Qm (x 0 0)) (Xi [[1]] 0 0))=_
  rw [c4 0 (by decide),Lin.oY,Lin.AN]
 rw [k] at d
 have f:=congrArg Fin.val d
 rw [YY (o 0 0)] at f
 exact f
theorem k4:jQ [[1]]:=⟨by decide,by decide,fun i d=>by
 obtain rfl:i=0:=by simp at d;exact d
 exact ⟨by decide,by decide,rfl⟩⟩
theorem X1:QR [[1]]:=fun i j=>by
 match i with
 | 0 =>
  match j with
  | 0=>decide
  | j+1=>show (([1]:List Nat).getD (j+1) 0) < 256;simp
 | i+1=>show ((Qh [[1]] (i+1)).getD j 0) < 256;simp [Qh]
theorem X4 (z:aB) (w:World) (A:w.cell? ⟨2,0,aa⟩=ab (.iface 136 (.pointer (ab z)))) :
 aw prog 9 #[] w fun e w'=>e=.returned (.bool true)/\ae w.heap.size w w':=by
 obtain ⟨f,k⟩:∃ f,f=(w.alloc (.cells #[.int .u8 1] 5)).alloc (.cells #[.slice (ab ⟨w.heap.size,0,aa⟩) 1 1] 32):=⟨_,rfl⟩
 have r:ae w.heap.size w f:=by rw [k];exact ((an _ _).alloc (aj _) _).alloc (by simp) _
 have a3:f.heap.size=w.heap.size+2:=by rw [k];simp
 have B:f.cell? ⟨w.heap.size,0,aa⟩=ab (.int .u8 1):=by rw [k,World.cell?_alloc_past _ _ _ (by simp),ah _ _ _ _ rfl];rfl
 have D:f.cell? ⟨w.heap.size+1,0,aa⟩=ab (.slice (ab ⟨w.heap.size,0,aa⟩) 1 1):=by rw [k,ah _ _ _ _ (by simp)];rfl
 have E:QJ f (ab ⟨w.heap.size+1,0,aa⟩) [[1]]:=by
  refine ap ⟨w.heap.size+1,0,rfl,by omega,fun i G=>?_⟩
  obtain rfl:i=0:=by simp at G;exact G
  refine ⟨ab ⟨w.heap.size,0,aa⟩,1,D,⟨X1 0,ap ⟨w.heap.size,0,rfl,by omega,fun j H=>?_⟩⟩,fun h=>by cases h⟩
  obtain rfl:j=0:=by simp [Qh] at H;exact H
  exact B
 have I:f.cell? ⟨2,0,aa⟩=ab (.iface 136 (.pointer (ab z))):=(r.cell (p:=⟨2,0,aa⟩) (Qf A)).trans A
 have J:=FJ (ab ⟨w.heap.size+1,0,aa⟩) [[1]] 1 z f k4 rfl X1 E I
 have U:Hid (f=(w.alloc (.cells #[.int .u8 1] 5)).alloc (.cells #[.slice (ab ⟨w.heap.size,0,aa⟩) 1 1] 32)):=k
 have V:Hid (ae w.heap.size w f):=r
 clear k r B D E I A
 go_enter func9,ntmps9
 go_wp2_with fail
 rw [<- U.out]
 refine J.mono ?_
 rintro e s ⟨⟨d,K,W⟩,L⟩
 rcases W with ⟨Y,_⟩ | ⟨_,Z,x,rfl,M,N,O⟩
 ·have:=hD K
  exact absurd Y (by rw [this];decide)
 ·have Q:=mE N O
  obtain ⟨b,o,R,S,c,t,_,_,u,T⟩:=M.row (i:=0) (by rw [Zs];decide) (by rw [XD _ _ _ 0 (by decide),Jf];decide)
  injection t with t
  injection t with a0 a1 _
  subst a0 a1
  have y:=T 0 (by rw [XD _ _ _ 0 (by decide),Jf];decide)
  rw [XD _ _ _ 0 (by decide),Yq _ _ 0 (by decide),Q] at y
  rw [XD _ _ _ 0 (by decide),Jf] at u
  have k1:s.cell? ⟨Z,0,aa⟩=ab (.slice (ab ⟨R,S,aa⟩) 1 c):=u
  have k2:s.cell? ⟨R,S,aa⟩=ab (.int .u8 1):=y
  have a2:Hid (ae f.heap.size f s):=L
  clear u T y M O N Q L J K
  go_wp2
  go_ret
  exact ⟨rfl,V.out.trans (a2.out.mono (by omega))⟩
theorem h8 (d i j f:Nat) (p:Option aB) (M:List (List Nat)) (w:World) (k:i < M.length) (r:j < (Qh M i).length) (z:w.cell? ⟨d,0,aa⟩=ab (.slice p M.length f)) (h:QJ w p M) :
 aw prog 36 #[.int .i64 (i:Int),.int .i64 (j:Int),.pointer (ab ⟨d,0,aa⟩)] w fun e w'=>e=.returned (.int .u8 ((Gf.nth (Qh M i) j:Nat):Int))/\ae w.heap.size w w':=by
 obtain ⟨b,o,s,t,c,rfl,u,y⟩:=h.at k r
 go_enter func36,ntmps36
 go_wp2
 go_ret
 exact ⟨rfl,an _ _⟩
theorem eK (p:Option aB) (M:List (List Nat)) (t:Nat) (z:aB) (w:World) (u:jQ M) (hb:QR M) (h:QJ w p M)
 (K:w.cell? ⟨2,0,aa⟩=ab (.iface 136 (.pointer (ab z)))) :
 aw prog 17 #[.slice p M.length t] w fun e w'=>(∃ d:Nat,e=.returned (.tuple #[.int .i64 (d:Int),.nilIface])/\Lin.cL (Qh M 0).length M.length (Xi M) d)/\ae w.heap.size w w':=by
 have L:Hid (jQ M):=u
 have l1:1<=M.length:=u.1
 have l2:M.length<=16:=u.2.1
 have n1:1<=(Qh M 0).length:=(u.2.2 0 (by omega)).1
 have n2:(Qh M 0).length<=16:=(u.2.2 0 (by omega)).2.1
 have a1:2 < w.heap.size:=Qf K
 have a2:Hid (QR M):=hb
 have y:ae w.heap.size w (w.alloc (.cells #[.slice p M.length t] 23)):=(an _ _).alloc (aj _) _
 obtain ⟨f,A⟩:∃ f,f=w.alloc (.cells #[.slice p M.length t] 23):=⟨_,rfl⟩
 have b5:f.heap.size=w.heap.size+1:=by rw [A];simp
 rw [<- A] at y
 have H:Hid (QJ f p M):=h.below y
 have N:f.cell? ⟨w.heap.size,0,aa⟩=ab (.slice p M.length t):=by rw [A,ah _ _ _ _ rfl];rfl
 have a3:Hid (f.cell? ⟨2,0,aa⟩=ab (.iface 136 (.pointer (ab z)))):=(y.cell (p:=⟨2,0,aa⟩) a1).trans K
 have a4:Hid (ae w.heap.size w f):=y
 have a5:Hid (f=w.alloc (.cells #[.slice p M.length t] 23)):=A
 have a6:Hid (∀ W:World,ae f.heap.size f W->∀ i j,i < M.length->j < (Qh M 0).length->∀ r,ae W.heap.size W r->aw prog 36 (#[.int .i64 (i:Int),.int .i64 (j:Int)] ++ #[.pointer (ab ⟨w.heap.size,0,aa⟩)]) r fun e s=>e=.returned (.int .u8 ((Gf.nth (Qh M i) j:Nat):Int))/\ae r.heap.size r s):=by
  intro W O i j D hj r h2
  have Q:ae f.heap.size f r:=O.trans (h2.mono O.size)
  exact h8 w.heap.size i j t p M r D (by rw [(L.out.2.2 i D).2.2];exact hj) ((Q.cell (p:=⟨w.heap.size,0,aa⟩) (by show w.heap.size < _;omega)).trans N) (H.out.below Q)
 obtain ⟨b,o,R,S,T,a7,a8,_,U,_⟩:=H.out.row (i:=0) (by omega) (by omega)
 have a9:f.cell? ⟨b,o,aa⟩=ab (.slice (ab ⟨R,S,aa⟩) (Qh M 0).length T):=U
 subst a7
 clear u hb h K y A U
 go_enter func17,ntmps17
 go_wp2_with (go_at_call 35;rw [<- a5.out];refine (wW _ M t _ L.out H.out).mono ?_;rintro e w' ⟨rfl,rfl⟩)
 obtain ⟨f,rfl⟩:∃ f,f=w':=⟨_,rfl⟩
 have i0:0 < M.length:=by omega
 have i1:(0:Int) < (M.length:Int):=by omega
 refine wp_region_still_tail 7 (by kernel_rfl) (by kernel_rfl) ?_
 simp only [List.take_succ_cons,List.take_zero,List.drop_succ_cons,List.drop_zero]
 repeat still_step
 refine wpStill_nil ?_
 have E:ae f.heap.size f (f.drewN 1):=za (an _ _) 1
 change wpList _ _ _ _ _ (f.drewN 1)
 generalize f.drewN 1=r at E ⊢
 have V:Hid (ae f.heap.size f r):=E
 have b2:f.heap.size<=r.heap.size:=E.size
 clear E
 go_wp2_with (first | (go_at_call 27;refine (tP M.length (Qh M 0).length (fun i j=>Gf.nth (Qh M i) j) 36 #[.pointer (ab ⟨w.heap.size,0,aa⟩)] r (by omega) (by omega) (enters_of func36 (by kernel_rfl) rfl) (a6.out r V.out)).mono ?_;rintro e s ⟨⟨I,J,rfl,Y⟩,Z⟩;have G:ae f.heap.size f s:=V.out.trans (Z.mono b2);have b6:s.cell? ⟨w.heap.size,0,aa⟩=ab (.slice (ab ⟨b,o,aa⟩) M.length t):=(G.cell (p:=⟨w.heap.size,0,aa⟩) (by show w.heap.size < _;omega)).trans N;have b7:s.cell? ⟨b,o,aa⟩=ab (.slice (ab ⟨R,S,aa⟩) (Qh M 0).length T):=(G.cell (p:=⟨b,o,aa⟩) a8).trans a9;have B:Hid (Zv s r.heap.size I J M.length (Qh M 0).length fun i j=>Gf.nth (Qh M i) j):=Y;have a0:Hid (ae f.heap.size f s):=G;clear Y Z G) | (go_at_call 37;refine (bR (QO I J M.length) r.heap.size I J M.length (Qh M 0).length (Qh M 0).length (fun i j=>Gf.nth (Qh M i) j) z s (by omega) (by omega) (aj _) (fun i j=>a2.out i j) B.out (au rfl) (fun i D=>ap ⟨i,D,rfl⟩) B.out.blocks (by omega) ((a0.out.cell (p:=⟨2,0,aa⟩) (by show 2 < _;omega)).trans a3.out)).mono ?_;rintro e w4 ⟨b3,d,b8,g,rfl,c0,c2,b4⟩))
 go_ret2
 have hf:ae r.heap.size s w4:=b3.below (fun k hk=>(B.out.blocks k hk).1) (Nat.le_of_lt (Nat.lt_of_le_of_lt B.out.rows.lt.1 B.out.rows.lt.2))
 refine ⟨⟨d,rfl,b4.xN (aj _)⟩,(a4.out.trans (a0.out.mono (by omega))).trans (hf.mono (by omega))⟩
theorem Yr  (h:0 < X.length):(Qh (X.map (Xn k)) 0).length=k:=by
 unfold Qh
 rw [ac,al,ai h]
 exact Jf _ _
theorem Zm (p:Option aB) (c n k:Nat) (X:List Nat) (z:aB) (w:World) (s:1<=k) (t:k<=n) (u:n<=12) (f:X.length=k) (y:X.Nodup) (A:∀ x ∈ X,x < n) (h:QJ w p (X.map (Xn k)))
 (B:w.cell? ⟨2,0,aa⟩=ab (.iface 136 (.pointer (ab z)))) :
 aw prog 17 #[.slice p X.length c] w fun e w'=>e=.returned (.tuple #[.int .i64 (k:Int),.nilIface])/\ae w.heap.size w w':=by
 have j:=eK p (X.map (Xn k)) c z w (NN s (by omega) f) (LB k X) h B
 rw [ag,Yr (by omega)] at j
 refine j.mono ?_
 rintro e w' ⟨⟨d,rfl,o⟩,r⟩
 rw [f] at o
 rw [Lin.dY o (OX u f y A t)]
 exact ⟨rfl,r⟩
theorem Qk (p:Option aB) (c n k:Nat) (X:List Nat) (z:aB) (w:World) (t:1<=k) (u:k<=n) (y:n<=12) (j:X.length=k) (A:X.Nodup) (B:∀ x ∈ X,x < n) (h:QJ w p (X.map (Xn k)))
 (D:w.cell? ⟨2,0,aa⟩=ab (.iface 136 (.pointer (ab z)))) :
 aw prog 18 #[.slice p X.length c] w fun e w'=>(∃ v,e=.returned (.tuple #[v,.nilIface]))/\ae w.heap.size w w':=by
 have f:=FJ p (X.map (Xn k)) c z w (NN t (by omega) j) (by rw [Yr (by omega),ag];omega) (LB k X) h D
 unfold xQ at f
 rw [ag] at f
 refine f.mono ?_
 rintro e w' ⟨⟨d,o,r⟩,s⟩
 rw [j] at o r
 have E:=Lin.dY o (OX y j A B u)
 rcases r with ⟨G,_⟩ | ⟨_,H,x,rfl,_⟩
 ·omega
 ·exact ⟨⟨_,rfl⟩,s⟩
theorem hN (n k:Int) (A:Option aB) (j B:Nat) (z:aB) (w:World) (D:j < 2 ^ 63) (h:¬ (1<=k/\k<=n/\n<=12/\j<=40))
 (s:w.cell? ⟨2,0,aa⟩=ab (.iface 136 (.pointer (ab z)))) :
 aw prog 4 #[.int .i64 n,.int .i64 k,.slice A j B] w fun e w'=>e=.returned (.bool true)/\ae w.heap.size w w':=by
 have f:=X4 z w s
 clear s
 by_cases t:1<=k
 ·by_cases u:k<=n
  ·by_cases y:n<=12
   ·have r:¬ j<=40:=fun r=>h ⟨t,u,y,r⟩
    clear h
    go_enter func4,ntmps4
    go_wp2_with fail
    refine f.mono ?_
    rintro e o ⟨rfl,d⟩
    go_wp2
    go_ret
    exact ⟨rfl,d⟩
   ·clear h
    go_enter func4,ntmps4
    go_wp2_with fail
    refine f.mono ?_
    rintro e o ⟨rfl,d⟩
    go_wp2
    go_ret
    exact ⟨rfl,d⟩
  ·clear h
   go_enter func4,ntmps4
   go_wp2_with fail
   refine f.mono ?_
   rintro e o ⟨rfl,d⟩
   go_wp2
   go_ret
   exact ⟨rfl,d⟩
 ·clear h
  go_enter func4,ntmps4
  go_wp2_with fail
  refine f.mono ?_
  rintro e o ⟨rfl,d⟩
  go_wp2
  go_ret
  exact ⟨rfl,d⟩
theorem k5 (n k:Nat) (pp:Option aB) (l:List Int) (i4:Nat) (z:aB) (w:World) (V:1<=k) (a0:k<=n) (hn:n<=12) (hl:l.length<=40) (hp:Zx w pp l) (g9:∀ i,-9223372036854775808<=l.getD i 0/\l.getD i 0 < 9223372036854775808)
 (hz:w.cell? ⟨2,0,aa⟩=ab (.iface 136 (.pointer (ab z)))) :
 aw prog 4 #[.int .i64 (n:Int),.int .i64 (k:Int),.slice pp l.length i4] w fun e w'=>e=.returned (.bool true)/\ae w.heap.size w w':=by
 obtain ⟨i1,d3,d4,d5,d6⟩:=info_parts b0
 obtain ⟨ib,f3,f4,f5,f6⟩:=info_parts j1
 have HU:=X4 z w hz
 have HZ:Hid (w.cell? ⟨2,0,aa⟩=ab (.iface 136 (.pointer (ab z)))):=hz
 have f7:Hid (Zx w pp l):=hp
 have h2:Hid (∀ i,-9223372036854775808<=l.getD i 0/\l.getD i 0 < 9223372036854775808):=g9
 clear hz hp g9
 go_enter func4,ntmps4
 go_wp2_with fail
 refine HU.mono ?_
 rintro e w1 ⟨rfl,d7⟩
 have d8:Hid (ae w.heap.size w w1):=d7
 have f8:w1.cell? ⟨2,0,aa⟩=ab (.iface 136 (.pointer (ab z))):=(d7.cell (p:=⟨2,0,aa⟩) (Qf HZ.out)).trans HZ.out
 have f9:=mL n k z w1 V a0 hn f8
 clear d7 f8 HU
 go_wp2_with fail
 refine f9.mono ?_
 rintro e d ⟨⟨gm,rfl,g0⟩,g1⟩
 have a2:Hid (ae w.heap.size w d):=d8.out.trans (g1.mono d8.out.size)
 have d1:w.heap.size<=d.heap.size:=a2.out.size
 obtain ⟨u,A,D,d9,g2⟩:=c7 g0 (by omega) V
 have a3:Hid (∀ i,i < n->d.cell? ⟨gm,i,aa⟩=ab (.slice (ab ⟨u i,A i,aa⟩) k (D i))/\jU d (ab ⟨u i,A i,aa⟩) (Xn k i)):=g2
 have h3:Hid (Zx d pp l):=f7.out.below a2.out
 have a1:Hid (d.cell? ⟨2,0,aa⟩=ab (.iface 136 (.pointer (ab z)))):=(a2.out.cell (p:=⟨2,0,aa⟩) (Qf HZ.out)).trans HZ.out
 clear g1 g0 g2 f9 d8 f7 HZ
 go_wp2_with (first | (at_make;refine wpList_make_row _ rfl (.tmp 53) (.tmp 53) 36 rfl 4 ib (.bool false) underlying36 f3 f4 f5 rfl .i64 .i64 n rfl rfl (by rw [f6];omega) (by omega) ?_))
 obtain ⟨w3,b4⟩:∃ w3,w3=d.alloc (.cells (madeCells #[.bool false] n) 4):=⟨_,rfl⟩
 rw [<- b4]
 have g4:Hid (Ja w3 4 d.heap.size d.heap.size n (fun _=>.bool false)):=by
  show Ja _ _ _ _ _ _
  rw [b4]
  exact Ja.made d 4 (.bool false) d.heap.size n (aj _) (by omega)
 have g5:Hid (ae d.heap.size d w3):=by
  show ae _ _ _
  rw [b4]
  exact (an _ _).alloc (aj _) _
 have i5:w3.heap.size=d.heap.size+1:=by rw [b4];simp
 clear b4 f3 f4 f5 f6
 go_loopw [10,12] (fun v x wr=>∃ (i:Nat) (X:List Nat),i<=l.length/\x=.int .i64 i/\Qa wr (d.heap.size+1) n k (fun x=>.slice (ab ⟨u x,A x,aa⟩) k (D x)) v X/\Ja wr 4 d.heap.size d.heap.size n (fun y=>.bool (decide (y ∈ X)))/\ae d.heap.size d wr/\d.heap.size+1<=wr.heap.size) (fun _ x _=>l.length - (intOf x).toNat)
 case atStart=>exact ⟨0,[],by omega,rfl,⟨JM.nil _ _ _,⟨aa,0,rfl⟩,List.nodup_nil,fun x W=>by simp at W,Nat.zero_le _⟩,g4.out.congr (fun i _=>by simp),g5.out,by omega⟩
 case round =>
  obtain ⟨i,X,hi,rfl,J,hE,hB,b5⟩:=hrel
  obtain ⟨B,rfl⟩:∃ B,B=wr:=⟨_,rfl⟩
  have HP:Hid (Qa B (d.heap.size+1) n k (fun x=>.slice (ab ⟨u x,A x,aa⟩) k (D x)) u10 X):=J
  have U:Hid (Ja B 4 d.heap.size d.heap.size n (fun y=>.bool (decide (y ∈ X)))):=hE
  have Z:Hid (ae d.heap.size d B):=hB
  obtain ⟨pX,cX,rfl⟩:=J.form
  have i6:X.length<=k:=J.le
  clear J hE hB g4 g5
  by_cases e2:i < l.length
  ·by_cases h4:X.length < k
   ·rcases h3.out with h0 | ⟨bp,op,h5,h7,g6⟩
    ·rw [h0] at e2;simp at e2
    subst h5
    have cp:B.cell? ⟨bp,op+i,aa⟩=ab (.int .i64 (l.getD i 0)):=(Z.out.cell (p:=⟨bp,op+i,aa⟩) h7).trans (g6 i e2)
    have lw:=h2.out i
    clear g6
    generalize r:l.getD i 0=y at cp lw
    clear r
    by_cases b6:0<=y/\y < n
    ·obtain ⟨x,rfl⟩:=Int.eq_ofNat_of_zero_le b6.1
     have e4:x < n:=by omega
     have cu:=U.out.cell x e4
     have fu:B.frozen? ⟨d.heap.size,x,aa⟩=false:=U.out.free x
     clear b6
     by_cases b7:x ∈ X
     ·rw [decide_eq_true b7] at cu
      clear b7
      go_wp2
      go_roundw
      case rel=>exact ⟨i+1,X,by omega,by go_num,HP.out,U.out,Z.out,b5⟩
      case measure=>simp [intOf];omega
     ·rw [decide_eq_false b7] at cu
      have HX:Hid (x ∉ X):=b7
      clear b7
      have gS:B.grownBy (B.setCell ⟨d.heap.size,x,aa⟩ (.bool true)) (ab d.heap.size):=Z8 _ _ _ _
      have d2:Hid (Qa (B.setCell ⟨d.heap.size,x,aa⟩ (.bool true)) (d.heap.size+1) n k (fun x=>.slice (ab ⟨u x,A x,aa⟩) k (D x)) (.slice pX X.length cX) X):=HP.out.kept gS (fun g hg=>by have:=Option.some.inj hg;omega)
      have i0:Hid (Ja (B.setCell ⟨d.heap.size,x,aa⟩ (.bool true)) 4 d.heap.size d.heap.size n (fun y=>.bool (decide (y ∈ X ++ [x])))):=(U.out.set x (.bool true)).congr (fun y _=>by
       by_cases e:y=x
       ·simp [e]
       ·simp [e])
      have g7:Hid (ae d.heap.size d (B.setCell ⟨d.heap.size,x,aa⟩ (.bool true))):=Z.out.setCell (p:=⟨d.heap.size,x,aa⟩) (aj _) _
      have i7:d.heap.size+1<=(B.setCell ⟨d.heap.size,x,aa⟩ (.bool true)).heap.size:=by have:=gS.size;omega
      have i8:(B.setCell ⟨d.heap.size,x,aa⟩ (.bool true)).cell? ⟨bp,op+i,aa⟩=ab (.int .i64 (x:Int)):=gS.cell cp (by show ab bp≠_;intro e;have:=Option.some.inj e;omega)
      have i9:(B.setCell ⟨d.heap.size,x,aa⟩ (.bool true)).cell? ⟨gm,x,aa⟩=ab (.slice (ab ⟨u x,A x,aa⟩) k (D x)):=(g7.out.cell (p:=⟨gm,x,aa⟩) d9).trans (a3.out x e4).1
      have i2:(B.setCell ⟨d.heap.size,x,aa⟩ (.bool true)).heap.size=B.heap.size:=by simp [World.setCell]
      clear gS
      go_wp2_with (first | (at_builtin;refine yL rfl (.tmp 96) (.tmp 104) 23 rfl (d.heap.size+1) 32 i1 (.slice aa 0 0) 24 underlying23 d3 d4 rfl d5 d6 (by decide) (.slice pX X.length cX) (X.map fun x=>.slice (ab ⟨u x,A x,aa⟩) k (D x)) rfl (d2.out.own.kept (af _ _ aa) (by cases hv:(Value.slice pX X.length cX).ownBlock <;> simp)) ⟨B.heap.size,0,aa⟩ 1 (.slice (ab ⟨u x,A x,aa⟩) k (D x)) rfl rfl (by rw [ah _ _ _ _ i2.symm];rfl) (by rw [ag];omega) (by simp;omega) ?_;intro v' M b8 N g8))
      have c0:=d2.out.snoc e4 HX.out h4 b8
      have c1:=i0.out.kept (w':=M) (QL (af _ _ _) N) (fun e=>by have:=d2.out.own.block e;omega)
      have c2:ae d.heap.size d M:=g7.out.grown (QL (af _ _ _) N) (by omega) (fun g hg=>by have:=d2.out.own.block hg;omega)
      have c3:=N.size
      go_roundw
      case rel=>exact ⟨i+1,X ++ [x],by omega,by go_num,c0,c1,c2,by simp at c3;omega⟩
      case measure=>simp [intOf];omega
    ·by_cases h0:0<=y
     ·have h1:¬ y < n:=fun h1=>b6 ⟨h0,h1⟩
      clear b6
      go_wp2
      go_roundw
      case rel=>exact ⟨i+1,X,by omega,by go_num,HP.out,U.out,Z.out,b5⟩
      case measure=>simp [intOf];omega
     ·clear b6
      go_wp2
      go_roundw
      case rel=>exact ⟨i+1,X,by omega,by go_num,HP.out,U.out,Z.out,b5⟩
      case measure=>simp [intOf];omega
   ·go_wp2
    go_loopw [10,13] (fun v x wr=>∃ (j:Nat) (Y:List Nat),j<=n/\x=.int .i64 j/\Qa wr (d.heap.size+1) n k (fun x=>.slice (ab ⟨u x,A x,aa⟩) k (D x)) v Y/\(∀ y,y ∈ X->y ∈ Y)/\(∀ y,y ∈ Y->y ∈ X∨y < j)/\(∀ y,y < j->y ∈ Y)/\Ja wr 4 d.heap.size d.heap.size n (fun y=>.bool (decide (y ∈ X)))/\ae d.heap.size d wr/\d.heap.size+1<=wr.heap.size) (fun _ x _=>n - (intOf x).toNat)
    case atStart=>exact ⟨0,X,by omega,rfl,HP.out,fun _ h=>h,fun _ h=>au h,fun y r=>absurd r (aI _),U.out,Z.out,b5⟩
    case round =>
     obtain ⟨j,Y,hj,rfl,J,c6,c9,d0,hE,hB,f0⟩:=hrel
     obtain ⟨f,rfl⟩:∃ f,f=wr:=⟨_,rfl⟩
     have o:Hid (Qa f (d.heap.size+1) n k (fun x=>.slice (ab ⟨u x,A x,aa⟩) k (D x)) u10 Y):=J
     have a4:Hid (∀ y,y ∈ X->y ∈ Y):=c6
     have a5:Hid (∀ y,y ∈ Y->y ∈ X∨y < j):=c9
     have a6:Hid (∀ y,y < j->y ∈ Y):=d0
     have a7:Hid (Ja f 4 d.heap.size d.heap.size n (fun y=>.bool (decide (y ∈ X)))):=hE
     have s:Hid (ae d.heap.size d f):=hB
     obtain ⟨E,K,rfl⟩:=J.form
     have i3:Y.length<=k:=J.le
     clear J c6 c9 d0 hE hB HP U Z
     by_cases a8:j < n
     ·by_cases f1:Y.length < k
      ·have cu:=a7.out.cell j a8
       have cm:f.cell? ⟨gm,j,aa⟩=ab (.slice (ab ⟨u j,A j,aa⟩) k (D j)):=(s.out.cell (p:=⟨gm,j,aa⟩) d9).trans (a3.out j a8).1
       by_cases L:j ∈ X
       ·rw [decide_eq_true L] at cu
        have HJ:Hid (j ∈ X):=L
        clear L
        go_wp2
        go_roundw
        case rel =>
         refine ⟨j+1,Y,by omega,by go_num,o.out,a4.out,fun y r=>?_,fun y r=>?_,a7.out,s.out,f0⟩
         ·rcases a5.out y r with h | h
          ·exact au h
          ·exact ap (by omega)
         ·by_cases e:y=j
          ·rw [e];exact a4.out j HJ.out
          ·exact a6.out y (by omega)
        case measure=>simp [intOf];omega
       ·rw [decide_eq_false L] at cu
        have HJ:Hid (j ∉ Y):=fun h=>by
         rcases a5.out j h with h' | h'
         ·exact L h'
         ·exact absurd h' (aA _)
        clear L
        go_wp2_with (first | (at_builtin;refine yL rfl (.tmp 122) (.tmp 127) 23 rfl (d.heap.size+1) 32 i1 (.slice aa 0 0) 24 underlying23 d3 d4 rfl d5 d6 (by decide) (.slice E Y.length K) (Y.map fun x=>.slice (ab ⟨u x,A x,aa⟩) k (D x)) rfl (o.out.own.kept (af _ _ aa) (by cases hv:(Value.slice E Y.length K).ownBlock <;> simp)) ⟨f.heap.size,0,aa⟩ 1 (.slice (ab ⟨u j,A j,aa⟩) k (D j)) rfl rfl (by simp) (by rw [ag];omega) (by simp;omega) ?_;intro v' M b8 N g8))
        have c0:=o.out.snoc a8 HJ.out f1 b8
        have c1:=a7.out.kept (w':=M) (QL (af _ _ _) N) (fun e=>by have:=o.out.own.block e;omega)
        have c2:ae d.heap.size d M:=s.out.grown (QL (af _ _ _) N) (by omega) (fun g hg=>by have:=o.out.own.block hg;omega)
        have c3:=N.size
        go_roundw
        case rel =>
         refine ⟨j+1,Y ++ [j],by omega,by go_num,c0,fun y r=>am _ (a4.out y r),fun y r=>?_,fun y r=>?_,c1,c2,by simp at c3;omega⟩
         ·rcases av.1 r with h | h
          ·rcases a5.out y h with h | h
           ·exact au h
           ·exact ap (by omega)
          ·exact ap (by rw [ak.1 h];omega)
         ·by_cases e:y=j
          ·rw [e];exact ax _ (ak.2 rfl)
          ·exact am _ (a6.out y (by omega))
        case measure=>simp [intOf];omega
      ·have G:Y.length=k:=by omega
       obtain ⟨p5,c5,a9,H⟩:=o.out.tU (by omega) (fun x W=>(a3.out x W).2.below s.out)
       injection a9 with e1 _ e3
       subst e1 e3
       have I:f.cell? ⟨2,0,aa⟩=ab (.iface 136 (.pointer (ab z))):=(s.out.cell (p:=⟨2,0,aa⟩) (Qf a1.out)).trans a1.out
       have O:=Zm E K n k Y z f V a0 hn G o.out.nd o.out.lt H I
       have b1:Hid (QJ f E (Y.map (Xn k))):=H
       have Q:Hid (f.cell? ⟨2,0,aa⟩=ab (.iface 136 (.pointer (ab z)))):=I
       have b2:Hid (Y.length=k):=G
       clear H I G
       go_wp2_with fail
       refine O.mono ?_
       rintro e R ⟨rfl,t⟩
       have S:=Qk E K n k Y z R V a0 hn b2.out o.out.nd o.out.lt (b1.out.below t) ((t.cell (p:=⟨2,0,aa⟩) (Qf Q.out)).trans Q.out)
       have T:Hid (ae w.heap.size w R):=a2.out.trans ((s.out.trans (t.mono s.out.size)).mono d1)
       clear O t
       go_wp2_with fail
       refine S.mono ?_
       rintro e M ⟨⟨vI,rfl⟩,b3⟩
       clear S
       go_wp2
       go_ret
       exact ⟨rfl,T.out.trans (b3.mono T.out.size)⟩
     ·have G : Y.length = k := by
       have f2:=Xh (aJ n) Y aq (fun y r=>a6.out y (by have:=ay.1 r;omega))
       rw [aC] at f2
       omega
      obtain ⟨p5,c5,a9,H⟩:=o.out.tU (by omega) (fun x W=>(a3.out x W).2.below s.out)
      injection a9 with e1 _ e3
      subst e1 e3
      have I:f.cell? ⟨2,0,aa⟩=ab (.iface 136 (.pointer (ab z))):=(s.out.cell (p:=⟨2,0,aa⟩) (Qf a1.out)).trans a1.out
      have O:=Zm E K n k Y z f V a0 hn G o.out.nd o.out.lt H I
      have b1:Hid (QJ f E (Y.map (Xn k))):=H
      have Q:Hid (f.cell? ⟨2,0,aa⟩=ab (.iface 136 (.pointer (ab z)))):=I
      have b2:Hid (Y.length=k):=G
      clear H I G
      go_wp2_with fail
      refine O.mono ?_
      rintro e R ⟨rfl,t⟩
      have S:=Qk E K n k Y z R V a0 hn b2.out o.out.nd o.out.lt (b1.out.below t) ((t.cell (p:=⟨2,0,aa⟩) (Qf Q.out)).trans Q.out)
      have T:Hid (ae w.heap.size w R):=a2.out.trans ((s.out.trans (t.mono s.out.size)).mono d1)
      clear O t
      go_wp2_with fail
      refine S.mono ?_
      rintro e M ⟨⟨vI,rfl⟩,b3⟩
      clear S
      go_wp2
      go_ret
      exact ⟨rfl,T.out.trans (b3.mono T.out.size)⟩
  ·go_wp2
   go_loopw [10,13] (fun v x wr=>∃ (j:Nat) (Y:List Nat),j<=n/\x=.int .i64 j/\Qa wr (d.heap.size+1) n k (fun x=>.slice (ab ⟨u x,A x,aa⟩) k (D x)) v Y/\(∀ y,y ∈ X->y ∈ Y)/\(∀ y,y ∈ Y->y ∈ X∨y < j)/\(∀ y,y < j->y ∈ Y)/\Ja wr 4 d.heap.size d.heap.size n (fun y=>.bool (decide (y ∈ X)))/\ae d.heap.size d wr/\d.heap.size+1<=wr.heap.size) (fun _ x _=>n - (intOf x).toNat)
   case atStart=>exact ⟨0,X,by omega,rfl,HP.out,fun _ h=>h,fun _ h=>au h,fun y r=>absurd r (aI _),U.out,Z.out,b5⟩
   case round =>
    obtain ⟨j,Y,hj,rfl,J,c6,c9,d0,hE,hB,f0⟩:=hrel
    obtain ⟨f,rfl⟩:∃ f,f=wr:=⟨_,rfl⟩
    have o:Hid (Qa f (d.heap.size+1) n k (fun x=>.slice (ab ⟨u x,A x,aa⟩) k (D x)) u10 Y):=J
    have a4:Hid (∀ y,y ∈ X->y ∈ Y):=c6
    have a5:Hid (∀ y,y ∈ Y->y ∈ X∨y < j):=c9
    have a6:Hid (∀ y,y < j->y ∈ Y):=d0
    have a7:Hid (Ja f 4 d.heap.size d.heap.size n (fun y=>.bool (decide (y ∈ X)))):=hE
    have s:Hid (ae d.heap.size d f):=hB
    obtain ⟨E,K,rfl⟩:=J.form
    have i3:Y.length<=k:=J.le
    clear J c6 c9 d0 hE hB HP U Z
    by_cases a8:j < n
    ·by_cases f1:Y.length < k
     ·have cu:=a7.out.cell j a8
      have cm:f.cell? ⟨gm,j,aa⟩=ab (.slice (ab ⟨u j,A j,aa⟩) k (D j)):=(s.out.cell (p:=⟨gm,j,aa⟩) d9).trans (a3.out j a8).1
      by_cases L:j ∈ X
      ·rw [decide_eq_true L] at cu
       have HJ:Hid (j ∈ X):=L
       clear L
       go_wp2
       go_roundw
       case rel =>
        refine ⟨j+1,Y,by omega,by go_num,o.out,a4.out,fun y r=>?_,fun y r=>?_,a7.out,s.out,f0⟩
        ·rcases a5.out y r with h | h
         ·exact au h
         ·exact ap (by omega)
        ·by_cases e:y=j
         ·rw [e];exact a4.out j HJ.out
         ·exact a6.out y (by omega)
       case measure=>simp [intOf];omega
      ·rw [decide_eq_false L] at cu
       have HJ:Hid (j ∉ Y):=fun h=>by
        rcases a5.out j h with h' | h'
        ·exact L h'
        ·exact absurd h' (aA _)
       clear L
       go_wp2_with (first | (at_builtin;refine yL rfl (.tmp 122) (.tmp 127) 23 rfl (d.heap.size+1) 32 i1 (.slice aa 0 0) 24 underlying23 d3 d4 rfl d5 d6 (by decide) (.slice E Y.length K) (Y.map fun x=>.slice (ab ⟨u x,A x,aa⟩) k (D x)) rfl (o.out.own.kept (af _ _ aa) (by cases hv:(Value.slice E Y.length K).ownBlock <;> simp)) ⟨f.heap.size,0,aa⟩ 1 (.slice (ab ⟨u j,A j,aa⟩) k (D j)) rfl rfl (by simp) (by rw [ag];omega) (by simp;omega) ?_;intro v' M b8 N g8))
       have c0:=o.out.snoc a8 HJ.out f1 b8
       have c1:=a7.out.kept (w':=M) (QL (af _ _ _) N) (fun e=>by have:=o.out.own.block e;omega)
       have c2:ae d.heap.size d M:=s.out.grown (QL (af _ _ _) N) (by omega) (fun g hg=>by have:=o.out.own.block hg;omega)
       have c3:=N.size
       go_roundw
       case rel =>
        refine ⟨j+1,Y ++ [j],by omega,by go_num,c0,fun y r=>am _ (a4.out y r),fun y r=>?_,fun y r=>?_,c1,c2,by simp at c3;omega⟩
        ·rcases av.1 r with h | h
         ·rcases a5.out y h with h | h
          ·exact au h
          ·exact ap (by omega)
         ·exact ap (by rw [ak.1 h];omega)
        ·by_cases e:y=j
         ·rw [e];exact ax _ (ak.2 rfl)
         ·exact am _ (a6.out y (by omega))
       case measure=>simp [intOf];omega
     ·have G:Y.length=k:=by omega
      obtain ⟨p5,c5,a9,H⟩:=o.out.tU (by omega) (fun x W=>(a3.out x W).2.below s.out)
      injection a9 with e1 _ e3
      subst e1 e3
      have I:f.cell? ⟨2,0,aa⟩=ab (.iface 136 (.pointer (ab z))):=(s.out.cell (p:=⟨2,0,aa⟩) (Qf a1.out)).trans a1.out
      have O:=Zm E K n k Y z f V a0 hn G o.out.nd o.out.lt H I
      have b1:Hid (QJ f E (Y.map (Xn k))):=H
      have Q:Hid (f.cell? ⟨2,0,aa⟩=ab (.iface 136 (.pointer (ab z)))):=I
      have b2:Hid (Y.length=k):=G
      clear H I G
      go_wp2_with fail
      refine O.mono ?_
      rintro e R ⟨rfl,t⟩
      have S:=Qk E K n k Y z R V a0 hn b2.out o.out.nd o.out.lt (b1.out.below t) ((t.cell (p:=⟨2,0,aa⟩) (Qf Q.out)).trans Q.out)
      have T:Hid (ae w.heap.size w R):=a2.out.trans ((s.out.trans (t.mono s.out.size)).mono d1)
      clear O t
      go_wp2_with fail
      refine S.mono ?_
      rintro e M ⟨⟨vI,rfl⟩,b3⟩
      clear S
      go_wp2
      go_ret
      exact ⟨rfl,T.out.trans (b3.mono T.out.size)⟩
    ·have G : Y.length = k := by
      have f2:=Xh (aJ n) Y aq (fun y r=>a6.out y (by have:=ay.1 r;omega))
      rw [aC] at f2
      omega
     obtain ⟨p5,c5,a9,H⟩:=o.out.tU (by omega) (fun x W=>(a3.out x W).2.below s.out)
     injection a9 with e1 _ e3
     subst e1 e3
     have I:f.cell? ⟨2,0,aa⟩=ab (.iface 136 (.pointer (ab z))):=(s.out.cell (p:=⟨2,0,aa⟩) (Qf a1.out)).trans a1.out
     have O:=Zm E K n k Y z f V a0 hn G o.out.nd o.out.lt H I
     have b1:Hid (QJ f E (Y.map (Xn k))):=H
     have Q:Hid (f.cell? ⟨2,0,aa⟩=ab (.iface 136 (.pointer (ab z)))):=I
     have b2:Hid (Y.length=k):=G
     clear H I G
     go_wp2_with fail
     refine O.mono ?_
     rintro e R ⟨rfl,t⟩
     have S:=Qk E K n k Y z R V a0 hn b2.out o.out.nd o.out.lt (b1.out.below t) ((t.cell (p:=⟨2,0,aa⟩) (Qf Q.out)).trans Q.out)
     have T:Hid (ae w.heap.size w R):=a2.out.trans ((s.out.trans (t.mono s.out.size)).mono d1)
     clear O t
     go_wp2_with fail
     refine S.mono ?_
     rintro e M ⟨⟨vI,rfl⟩,b3⟩
     clear S
     go_wp2
     go_ret
     exact ⟨rfl,T.out.trans (b3.mono T.out.size)⟩
end Go.Proofs.YtaaahibncffcmaaDoor
