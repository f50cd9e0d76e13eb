/- Texts laid together. -/
import Derived.Test.YtgapmoniajcliaaGreatDoorV18
set_option maxRecDepth 10000
set_option maxHeartbeats 40000000
open Option renaming none->N,some->aa
open Go.World renaming cell?->ab,cell?_of_block->aj,frozen?->ak
open Nat renaming le_refl->ac,lt_of_lt_of_le->ae,lt_succ_self->al,le_trans->av,zero_mul->ax
open Go.RowKit renaming Below->af
open Go.AllReadyH renaming nil->ag,cons->au
open Bool renaming false->F,true->T
open Go.Act renaming put->ah
open Go.RowKit.Below renaming heap_setCell->ai,refl->aC
open Array renaming size_push->am
open Or renaming inl->an,inr->aq
open Go renaming Calls->ap,wpAnyH_done->ar,maxLen->aw
namespace Go.Proofs.YtgapmoniajcliaaGreatDoor
open Go.Proofs.Tryz
open Go.RowKit
variable {m m':Je}{x:Zb}{t:TypeId}{H:World}{ad:Nat->Addr}
def iN (x:Zb):Prop:=(¬x.config<0/\Jo x.key=T)/\¬kT x
instance (x:Zb):Decidable (iN x):=by unfold iN;infer_instance
theorem KD (h:¬(x.aP=m.name/\iN x)):m.aD x=(m,[]):=by
 unfold Je.aD;rw[if_pos];by_cases B:x.aP=m.name
 ·by_cases D:kT x
  ·exact aq D
  ·refine an (aq ?_);by_cases H:x.config<0
   ·exact an H
   ·refine aq ?_;cases I:Jo x.key with
    |false=>rfl
    |true=>exact absurd ⟨B,⟨H,I⟩,D⟩ h
 ·exact an (an B)
theorem uO (D:x.aP=m.name)(B:iN x):m.aD x=match m.held x.config with|none=>(m,[])|some m1=>m1.cG (Yf m.L x.config) x:=by
 unfold Je.aD;refine if_neg ?_;rintro(h|h)
 ·rcases h with h|h|h
  ·exact h D
  ·exact B.1.1 h
  ·rw[B.1.2]at h;cases h
 ·exact B.2 h
theorem vY (x:Zb×Lv)(hx:x.2.2.1=x.1.L.length)(hl:x.1.L.length<=2932031007317)(w:World):
 ap prog 83 #[.agg #[.string x.1.from_,.string x.1.aP,.string x.1.kind,.string x.1.key,.int .i64 x.1.op,.int .i64 x.1.config,.bool x.1.shut,.slice x.2.1 x.2.2.1 x.2.2.2]] w fun e w'=>e=.returned (.bool (decide (iN x.1)))/\af w.heap.size w w':=by
 obtain⟨⟨m1,m2,m3,m4,m5,m6,m7,J⟩,lp,ln,lc⟩:=x;dsimp only at *;subst hx;obtain⟨w1,a4⟩:=Xb (w.alloc (.cells #[.string m1,.string m2,.string m3,.string m4,.int .i64 m5,.int .i64 m6,.bool m7,.slice lp J.length lc] 90));have a9:=Zk a4;have a7:=fQ a4;have d2:w1.cell? ⟨w.heap.size,2,N⟩=aa (.string m3):=XX a4 rfl;have d3:w1.cell? ⟨w.heap.size,3,N⟩=aa (.string m4):=XX a4 rfl;have d5:w1.cell? ⟨w.heap.size,5,N⟩=aa (.int .i64 m6):=XX a4 rfl;have d7:w1.cell? ⟨w.heap.size,7,N⟩=aa (.slice lp J.length lc):=XX a4 rfl;have a5:Hid _:=a4;have a8:Hid _:=a9;have HC:Hid (∀W,af w1.heap.size w1 W->(W.cell? ⟨w.heap.size,2,N⟩=aa (.string m3)/\W.cell? ⟨w.heap.size,7,N⟩=aa (.slice lp J.length lc))/\af w.heap.size w W):=fun W hW=>⟨⟨(hW.cell (p:=⟨w.heap.size,2,N⟩) a7).trans d2,(hW.cell (p:=⟨w.heap.size,7,N⟩) a7).trans d7⟩,a8.out.trans (hW.mono a8.out.size)⟩
 have I:=qF m4 w1;have e0:decide (iN ⟨m1,m2,m3,m4,m5,m6,m7,J⟩)=(decide (¬m6<0)&&(Jo m4&&!decide (m3≠ZW/\m3≠Q3/\(m3≠Y3∨J.length≠1)))):=by
  rw[Bool.eq_iff_iff];unfold iN kT;simp;constructor
  ·rintro⟨⟨h1,h2⟩,h3⟩;exact⟨h1,h2,h3⟩
  ·rintro⟨h1,h2,h3⟩;exact⟨⟨h1,h2⟩,h3⟩
 generalize decide (iN ⟨m1,m2,m3,m4,m5,m6,m7,J⟩)=R at *;have U:Hid (m3≠ZW/\m3≠Q3/\(m3≠Y3∨J.length≠1)↔m3≠⟨#[108,111,111,107]⟩/\m3≠⟨#[115,101,97,108]⟩/\(m3≠⟨#[107,101,101,112]⟩∨J.length≠1)):=Iff.rfl;generalize b0:decide (m3≠ZW/\m3≠Q3/\(m3≠Y3∨J.length≠1))=od at *;have Z:Hid _:=b0;generalize Jo m4=bn at *;have HR:Hid _:=e0;clear a4 a9 a7 e0 b0;by_cases g6:m6<0
 ·have n6:decide (m6<0)=true:=decide_eq_true g6;have HE:Hid (R=F):=by show _=_;rw[HR.out,decide_eq_false (fun h=>h g6)];rfl
  clear HR U Z;clear I;go_enter func83,ntmps83;go_wp2_with (rw[<-a5.out])
  go_ret;exact⟨by rw[HE.out];rfl,a8.out⟩
 ·have n6:decide (m6<0)=false:=decide_eq_false g6;have HE:Hid (R=(bn&&!od)):=by show _=_;rw[HR.out,decide_eq_true g6];rfl
  clear HR;cases bn with
  |false =>
   have b1:Hid _:=HE.out;clear HE U Z;go_enter func83,ntmps83;go_wp2_with (rw[<-a5.out])
   refine I.mono ?_;rintro e K ⟨rfl,B⟩;obtain⟨⟨q2,q7⟩,D⟩:=HC.out K B;have O:Hid _:=D;clear B I D;go_wp2;go_ret;exact⟨by rw[b1.out];rfl,O.out⟩
  |true =>
   have a0:Hid _:=HE.out;clear HE;by_cases a1:m3=⟨#[108,111,111,107]⟩
   ·have H:od=false:=by rw[<-Z.out];exact decide_eq_false fun h=>(U.out.1 h).1 a1
    have HF:Hid (R=T):=by show _=_;rw[a0.out,H];rfl
    clear H a0;subst a1;go_enter func83,ntmps83;go_wp2_with (rw[<-a5.out])
    refine I.mono ?_;rintro e K ⟨rfl,B⟩;obtain⟨⟨q2,q7⟩,D⟩:=HC.out K B;have O:Hid _:=D;clear B I D;go_wp2;go_ret;exact⟨by rw[HF.out];rfl,O.out⟩
   ·have s1:¬m3.toList=[108,111,111,107]:=rI a1;have s2:=XQ a1;by_cases a2:m3=⟨#[115,101,97,108]⟩
    ·have H:od=false:=by rw[<-Z.out];exact decide_eq_false fun h=>(U.out.1 h).2.1 a2
     have HF:Hid (R=T):=by show _=_;rw[a0.out,H];rfl
     clear H a0;subst a2;clear s1 s2 a1;go_enter func83,ntmps83;go_wp2_with (rw[<-a5.out])
     refine I.mono ?_;rintro e K ⟨rfl,B⟩;obtain⟨⟨q2,q7⟩,D⟩:=HC.out K B;have O:Hid _:=D;clear B I D;go_wp2;go_ret;exact⟨by rw[HF.out];rfl,O.out⟩
    ·have t1:¬m3.toList=[115,101,97,108]:=rI a2;have t2:=XQ a2;by_cases a3:m3=⟨#[107,101,101,112]⟩
     ·by_cases a6:J.length=1
      ·have H:od=false:=by rw[<-Z.out];exact decide_eq_false fun h=>(U.out.1 h).2.2.elim (fun h=>h a3) (fun h=>h a6)
       have HF:Hid (R=T):=by show _=_;rw[a0.out,H];rfl
       clear H a0;subst a3;clear s1 s2 t1 t2 a1 a2 U Z;rw[a6]at HC d7 a5;rw[a6];go_enter func83,ntmps83;go_wp2_with (rw[<-a5.out])
       refine I.mono ?_;rintro e K ⟨rfl,B⟩;obtain⟨⟨q2,q7⟩,D⟩:=HC.out K B;have O:Hid _:=D;clear B I D;go_wp2;go_ret;exact⟨by rw[HF.out];rfl,O.out⟩
      ·have H:od=true:=by rw[<-Z.out];exact decide_eq_true (U.out.2 ⟨a1,a2,aq a6⟩)
       have HF:Hid (R=F):=by show _=_;rw[a0.out,H];rfl
       clear H a0;have gl:(((J.length:Nat):Int)==1)=false:=by simp;omega
       subst a3;clear s1 s2 t1 t2 a1 a2 U Z a6;go_enter func83,ntmps83;go_wp2_with (rw[<-a5.out])
       refine I.mono ?_;rintro e K ⟨rfl,B⟩;obtain⟨⟨q2,q7⟩,D⟩:=HC.out K B;have O:Hid _:=D;clear B I D;go_wp2;go_ret;exact⟨by rw[HF.out];rfl,O.out⟩
     ·have H:od=true:=by rw[<-Z.out];exact decide_eq_true (U.out.2 ⟨a1,a2,an a3⟩)
      have HF:Hid (R=F):=by show _=_;rw[a0.out,H];rfl
      clear H a0;have r1:=rI a3;have r2:=XQ a3;clear a1 a2 a3 U Z;go_enter func83,ntmps83;go_wp2_with (rw[<-a5.out])
      refine I.mono ?_;rintro e K ⟨rfl,B⟩;obtain⟨⟨q2,q7⟩,D⟩:=HC.out K B;have O:Hid _:=D;clear B I D;go_wp2;go_ret;exact⟨by rw[HF.out];rfl,O.out⟩
section
variable {w:World} {B h:Nat} {S:Nat->Prop} {m:Je} {mp:Option Nat} {D:DataW Value} {hb:Nat->Nat} {Sh:Nat->Nat->Prop}
def Q1 (w:World)(B h:Nat)(S:Nat->Prop)(m:Je)(x:Zb)(e:Ending)(w':World):Prop:=∃p c H,e=.returned (.slice p (m.aD x).2.length c)/\Qp c (fun b=>w.heap.size<=b/\b<w'.heap.size/\¬H b) w' p (m.aD x).2/\XE w' B h H (m.aD x).1/\Yd S H w w'
theorem G0 {m H:Je}{c:Int}(h:m.held c=aa H):H.name=m.name:=by
 unfold Je.held at h;split at h
 ·rw[<-Option.some.inj h]
 ·split at h
  ·cases h
  ·rw[<-Option.some.inj h]
theorem Yd.mO {S I:Nat->Prop}{w w' J:World}(h:Yd S I w w')(hb:af w.heap.size w' J):Yd S I w J:=⟨hb.os.trans h.os,hb.tape.trans h.tape,hb.output.trans h.output,av h.size hb.size,fun k H K=>(hb.block k H).trans (h.block k H K),h.new⟩
theorem CH {L:List Yh}{key:BA}{v:Yb}:∀n i,Jx L key v i n=0∨Jx L key v i n=-1∨Jx L key v i n=6∨Jx L key v i n=7
 |0,i=>by
  have h:Jx L key v i 0=(if 60<=L.length then(7:Int)else 0):=rfl;rw[h];split<;>simp
 |n+1,i=>by
  have h:Jx L key v i (n+1)=(if Z5 (Yy L i) key v then(if(Yy L i).2=v then(-1:Int)else 6)else Jx L key v (i+1) n):=rfl;rw[h];split
  ·split<;>simp
  ·exact CH n (i+1)
theorem M9 (L:List Yh)(s:Bool)(key:BA)(v:Yb):(Qt L s key v).1=0∨(Qt L s key v).1=2∨(Qt L s key v).1=4∨(Qt L s key v).1=6∨(Qt L s key v).1=7∨(Qt L s key v).1=10:=by
 have h:Ju L s key v=10∨Ju L s key v=4∨Ju L s key v=2∨Ju L s key v=0∨Ju L s key v=-1∨Ju L s key v=6∨Ju L s key v=7:=by
  unfold Ju;split
  ·simp
  ·split
   ·split
    ·rcases CH (L:=L) (key:=key) (v:=v) L.length 0 with h|h|h|h<;>simp[h]
    ·simp
   ·simp
 unfold Qt;split
 ·simp
 ·split
  ·simp
  ·dsimp only;omega
theorem T6 {O:Nat->Prop}{w:World}{k:Nat}{x:Zb×Lv}(hb:w.heap[k]?=aa (.cells (Jw x).toArray t (0,0)))(U:Jn w x)(Z:O k)(hl:∀b o,x.2.1=aa ⟨b,o,N⟩->O b):iU O w (aa ⟨k,0,N⟩) [x.1]:=by
 have I:k<w.heap.size:=rE hb;refine⟨[x],rfl,aq ⟨k,0,rfl,I,fun i y H j u J=>?_⟩,fun y H=>by rw[List.mem_singleton.1 H];exact⟨U,hl⟩,fun b o e=>?_⟩
 ·match i,H with
  |0,H =>
   obtain rfl:x=y:=by simpa using H
   have K:(Jw x)[j]?=aa u:=J;rw[ax,Nat.zero_add];simp[ab,hb,K]
 ·obtain⟨rfl,_⟩:k=b/\0=o:=by simpa using e
  exact Z
theorem tD {I:Nat->Prop}(J:ZF H B h I m' mp D hb Sh)(K:Yd S I w H)(O:m.aD x=(m',[])):Q1 w B h S m x (.returned (.slice N 0 0)) H:=by
 unfold Q1;rw[O];exact⟨N,0,I,rfl,Qp.nil _ _,⟨_,_,_,_,J⟩,K⟩
theorem uZ {I:World}{J:Nat->Prop}{y:Zb×Lv}{K:Nat}(hp:ZF H B h J m' mp D hb Sh)(O:Yd S J w H)(hb:af w.heap.size H I)(hk:∀k,J k->I.heap[k]?=H.heap[k]?)(a0:I.heap[K]?=aa (.cells (Jw y).toArray t (0,0)))(hL:Jn I y)(a2:H.heap.size<=K)(U:∀b o,y.2.1=aa ⟨b,o,N⟩->H.heap.size<=b/\b<I.heap.size)(he:m.aD x=(m',[y.1])):Q1 w B h S m x (.returned (.slice (aa ⟨K,0,N⟩) 1 1)) I:=by
 unfold Q1;rw[he];have Z:∀b,H.heap.size<=b->¬J b:=fun b hb hs=>by have:=(hp.aO b hs).2;omega
 exact⟨_,1,J,rfl,⟨T6 a0 hL ⟨av O.size a2,rE a0,Z _ a2⟩ (fun b o e=>⟨av O.size (U b o e).1,(U b o e).2,Z _ (U b o e).1⟩),ac _,(fun e=>by cases e)⟩,⟨_,_,_,_,hp.aS hb.size hk⟩,O.mO hb⟩
end
section
variable {w:World} {B h:Nat} {S:Nat->Prop} {m:Je} {mp:Option Nat} {D:DataW Value} {hb:Nat->Nat} {Sh:Nat->Nat->Prop}
theorem Jbq (K:ZF w B h S m mp D hb Sh)(x:Zb×Lv)(hL:Jn w x)(J:x.1.aP≠m.name):
 ap prog 63 #[.pointer (aa ⟨h,0,N⟩),.agg #[.string x.1.from_,.string x.1.aP,.string x.1.kind,.string x.1.key,.int .i64 x.1.op,.int .i64 x.1.config,.bool x.1.shut,.slice x.2.1 x.2.2.1 x.2.2.2]] w fun e w'=>Q1 w B h S m x.1 e w':=by
 obtain⟨⟨m1,m2,m3,Z,m5,m6,m7,O⟩,lp,ln,lc⟩:=x;have a5:ln=O.length:=hL.len;subst a5;dsimp only at *;obtain⟨H,I⟩:=Xb (w.alloc (.cells #[.string m1,.string m2,.string m3,.string Z,.int .i64 m5,.int .i64 m6,.bool m7,.slice lp O.length lc] 90));have U:=Zk I;have a0:=QT I;have a6:w.heap.size<H.heap.size:=by omega
 have a2:=JH I;have a3:Hid _:=K.below U;have a7:Hid (∀k,S k->k<w.heap.size):=fun k hk=>(K.aO k hk).2
 have a8:h<H.heap.size:=by have:=K.lt;omega
 have c0:=a3.out.cells.1;have a9:Hid (m.aD ⟨m1,m2,m3,Z,m5,m6,m7,O⟩=(m,[])):=KD (fun h=>J h.1);generalize b0:m.name=nm at *;have b1:Hid _:=I;have a4:Hid (af w.heap.size w H/\H.heap.size=w.heap.size+1):=⟨U,a0⟩;have d1:H.cell? (pA w.heap.size 1)=aa (.string m2):=by simp[ab,a2]
 have t0:=XT J;have t1:=YT J;have t2:=Y8 J;clear K hL J I U a0 a6 a2 a8 a7 b0;go_enter func63,ntmps63;go_wp2_with (rw[<-b1.out])
 go_quiet (fail)
 go_wp2;go_ret;exact tD (a3.out.below (below_drewN bR _)) (Yd.aJ (a4.out.1.trans ((below_drewN bR _).mono a4.out.1.size))) a9.out
theorem VJ (hp:ZF w B h S m mp D hb Sh)(x:Zb×Lv)(hL:Jn w x)(hR:pR x.1)(b6:x.1.aP=m.name)(a6:¬iN x.1):
 ap prog 63 #[.pointer (aa ⟨h,0,N⟩),.agg #[.string x.1.from_,.string x.1.aP,.string x.1.kind,.string x.1.key,.int .i64 x.1.op,.int .i64 x.1.config,.bool x.1.shut,.slice x.2.1 x.2.2.1 x.2.2.2]] w fun e w'=>Q1 w B h S m x.1 e w':=by
 obtain⟨⟨m1,m2,m3,K,O,U,Z,J⟩,lp,ln,lc⟩:=x;have b7:ln=J.length:=hL.len;subst b7;dsimp only at *;obtain⟨H,a3⟩:=Xb (w.alloc (.cells #[.string m1,.string m2,.string m3,.string K,.int .i64 O,.int .i64 U,.bool Z,.slice lp J.length lc] 90));have a5:=Zk a3;have a7:=QT a3;have a0:w.heap.size<H.heap.size:=by omega
 have a2:=JH a3;have a8:Hid _:=hp.below a5;have b8:Hid (∀k,S k->k<w.heap.size):=fun k hk=>(hp.aO k hk).2
 have a9:h<H.heap.size:=by have:=hp.lt;omega
 have c0:=a8.out.cells.1;rw[<-b6]at c0;have a4:Hid (∀W,af H.heap.size H W->(W.cell? (pA h 0)=aa (.string m2)/\W.cell? (pA w.heap.size 0)=aa (.string m1)/\W.cell? (pA w.heap.size 1)=aa (.string m2)/\W.cell? (pA w.heap.size 2)=aa (.string m3)/\W.cell? (pA w.heap.size 3)=aa (.string K)/\W.cell? (pA w.heap.size 4)=aa (.int .i64 O)/\W.cell? (pA w.heap.size 5)=aa (.int .i64 U)/\W.cell? (pA w.heap.size 6)=aa (.bool Z)/\W.cell? (pA w.heap.size 7)=aa (.slice lp J.length lc)/\af H.heap.size H W)):=fun W I=>⟨(I.cell (p:=(pA h 0)) a9).trans c0,(I.cell (p:=(pA w.heap.size 0)) a0).trans (by simp[ab,a2]),(I.cell (p:=(pA w.heap.size 1)) a0).trans (by simp[ab,a2]),(I.cell (p:=(pA w.heap.size 2)) a0).trans (by simp[ab,a2]),(I.cell (p:=(pA w.heap.size 3)) a0).trans (by simp[ab,a2]),(I.cell (p:=(pA w.heap.size 4)) a0).trans (by simp[ab,a2]),(I.cell (p:=(pA w.heap.size 5)) a0).trans (by simp[ab,a2]),(I.cell (p:=(pA w.heap.size 6)) a0).trans (by simp[ab,a2]),(I.cell (p:=(pA w.heap.size 7)) a0).trans (by simp[ab,a2]),I⟩
 have b0:Hid (∀W,(W.cell? (pA h 0)=aa (.string m2)/\W.cell? (pA w.heap.size 0)=aa (.string m1)/\W.cell? (pA w.heap.size 1)=aa (.string m2)/\W.cell? (pA w.heap.size 2)=aa (.string m3)/\W.cell? (pA w.heap.size 3)=aa (.string K)/\W.cell? (pA w.heap.size 4)=aa (.int .i64 O)/\W.cell? (pA w.heap.size 5)=aa (.int .i64 U)/\W.cell? (pA w.heap.size 6)=aa (.bool Z)/\W.cell? (pA w.heap.size 7)=aa (.slice lp J.length lc)/\af H.heap.size H W)->ap prog 83 #[.agg #[.string m1,.string m2,.string m3,.string K,.int .i64 O,.int .i64 U,.bool Z,.slice lp J.length lc]] W fun e w'=>e=.returned (.bool F)/\(w'.cell? (pA h 0)=aa (.string m2)/\w'.cell? (pA w.heap.size 0)=aa (.string m1)/\w'.cell? (pA w.heap.size 1)=aa (.string m2)/\w'.cell? (pA w.heap.size 2)=aa (.string m3)/\w'.cell? (pA w.heap.size 3)=aa (.string K)/\w'.cell? (pA w.heap.size 4)=aa (.int .i64 O)/\w'.cell? (pA w.heap.size 5)=aa (.int .i64 U)/\w'.cell? (pA w.heap.size 6)=aa (.bool Z)/\w'.cell? (pA w.heap.size 7)=aa (.slice lp J.length lc)/\af H.heap.size H w')):=fun W I=>(vY (⟨m1,m2,m3,K,O,U,Z,J⟩,(lp,J.length,lc)) rfl hR.2.1 W).mono fun e w' hq=>⟨by rw[hq.1,decide_eq_false a6],a4.out w' (I.2.2.2.2.2.2.2.2.2.trans (hq.2.mono I.2.2.2.2.2.2.2.2.2.size))⟩
 have b1:Hid _:=a3;have b2:Hid (af w.heap.size w H/\H.heap.size=w.heap.size+1):=⟨a5,a7⟩;have c8:Hid (m.aD ⟨m1,m2,m3,K,O,U,Z,J⟩=(m,[])):=KD (fun h=>a6 h.2);clear hp hL hR b6 a6 a3 a5 a7 a0 a2 a9 c0 b8;go_enter func63,ntmps63;go_wp2_with (rw[<-b1.out])
 go_cut [23]from 8 to 93 (fun v W=>v=.bool T/\(W.cell? (pA h 0)=aa (.string m2)/\W.cell? (pA w.heap.size 0)=aa (.string m1)/\W.cell? (pA w.heap.size 1)=aa (.string m2)/\W.cell? (pA w.heap.size 2)=aa (.string m3)/\W.cell? (pA w.heap.size 3)=aa (.string K)/\W.cell? (pA w.heap.size 4)=aa (.int .i64 O)/\W.cell? (pA w.heap.size 5)=aa (.int .i64 U)/\W.cell? (pA w.heap.size 6)=aa (.bool Z)/\W.cell? (pA w.heap.size 7)=aa (.slice lp J.length lc)/\af H.heap.size H W))
 case first =>
  go_region_held3 (fun W=>(W.cell? (pA h 0)=aa (.string m2)/\W.cell? (pA w.heap.size 0)=aa (.string m1)/\W.cell? (pA w.heap.size 1)=aa (.string m2)/\W.cell? (pA w.heap.size 2)=aa (.string m3)/\W.cell? (pA w.heap.size 3)=aa (.string K)/\W.cell? (pA w.heap.size 4)=aa (.int .i64 O)/\W.cell? (pA w.heap.size 5)=aa (.int .i64 U)/\W.cell? (pA w.heap.size 6)=aa (.bool Z)/\W.cell? (pA w.heap.size 7)=aa (.slice lp J.length lc)/\af H.heap.size H W)) (first|assumption|exact a4.out _ bR.drew|exact a4.out _ bR) (first|(go_at_call 83;refine(b0.out _ (by assumption)).mono ?_;rintro e w2 ⟨rfl,b3⟩))
  all_goals (go_wp2_with fail;go_meet)
  all_goals exact⟨rfl,by assumption⟩
 case rest =>
  obtain⟨rfl,b3⟩:=hcut;obtain⟨w2,rfl⟩:=Xb wc;obtain⟨_,_,_,_,_,_,d5,_,_,b4⟩:=b3;have b5:Hid _:=b4;clear b4 b0 a4 b1;clear d5;go_wp2;go_ret;exact tD (a8.out.below b5.out) (Yd.aJ (b2.out.1.trans (b5.out.mono b2.out.1.size))) c8.out
theorem TE (hp:ZF w B h S m mp D hb Sh)(x:Zb×Lv)(hL:Jn w x)(hR:pR x.1)(d1:YQ x.1.config)(a8:x.1.aP=m.name)(a9:iN x.1)(b0:m.held x.1.config=N):
 ap prog 63 #[.pointer (aa ⟨h,0,N⟩),.agg #[.string x.1.from_,.string x.1.aP,.string x.1.kind,.string x.1.key,.int .i64 x.1.op,.int .i64 x.1.config,.bool x.1.shut,.slice x.2.1 x.2.2.1 x.2.2.2]] w fun e w'=>Q1 w B h S m x.1 e w':=by
 obtain⟨⟨m1,m2,m3,O,U,J,Z,K⟩,lp,ln,lc⟩:=x;have d2:ln=K.length:=hL.len;subst d2;dsimp only at *;obtain⟨H,a3⟩:=Xb (w.alloc (.cells #[.string m1,.string m2,.string m3,.string O,.int .i64 U,.int .i64 J,.bool Z,.slice lp K.length lc] 90));have a6:=Zk a3;have b1:=QT a3;have a0:w.heap.size<H.heap.size:=by omega
 have a2:=JH a3;have a7:Hid _:=hp.below a6;have d3:Hid (∀k,S k->k<w.heap.size):=fun k hk=>(hp.aO k hk).2
 have b2:h<H.heap.size:=by have:=hp.lt;omega
 have c0:=a7.out.cells.1;rw[<-a8]at c0;have a4:Hid (∀W,af H.heap.size H W->(W.cell? (pA h 0)=aa (.string m2)/\W.cell? (pA w.heap.size 0)=aa (.string m1)/\W.cell? (pA w.heap.size 1)=aa (.string m2)/\W.cell? (pA w.heap.size 2)=aa (.string m3)/\W.cell? (pA w.heap.size 3)=aa (.string O)/\W.cell? (pA w.heap.size 4)=aa (.int .i64 U)/\W.cell? (pA w.heap.size 5)=aa (.int .i64 J)/\W.cell? (pA w.heap.size 6)=aa (.bool Z)/\W.cell? (pA w.heap.size 7)=aa (.slice lp K.length lc)/\af H.heap.size H W)):=fun W I=>⟨(I.cell (p:=(pA h 0)) b2).trans c0,(I.cell (p:=(pA w.heap.size 0)) a0).trans (by simp[ab,a2]),(I.cell (p:=(pA w.heap.size 1)) a0).trans (by simp[ab,a2]),(I.cell (p:=(pA w.heap.size 2)) a0).trans (by simp[ab,a2]),(I.cell (p:=(pA w.heap.size 3)) a0).trans (by simp[ab,a2]),(I.cell (p:=(pA w.heap.size 4)) a0).trans (by simp[ab,a2]),(I.cell (p:=(pA w.heap.size 5)) a0).trans (by simp[ab,a2]),(I.cell (p:=(pA w.heap.size 6)) a0).trans (by simp[ab,a2]),(I.cell (p:=(pA w.heap.size 7)) a0).trans (by simp[ab,a2]),I⟩
 have b3:Hid (∀W,(W.cell? (pA h 0)=aa (.string m2)/\W.cell? (pA w.heap.size 0)=aa (.string m1)/\W.cell? (pA w.heap.size 1)=aa (.string m2)/\W.cell? (pA w.heap.size 2)=aa (.string m3)/\W.cell? (pA w.heap.size 3)=aa (.string O)/\W.cell? (pA w.heap.size 4)=aa (.int .i64 U)/\W.cell? (pA w.heap.size 5)=aa (.int .i64 J)/\W.cell? (pA w.heap.size 6)=aa (.bool Z)/\W.cell? (pA w.heap.size 7)=aa (.slice lp K.length lc)/\af H.heap.size H W)->ap prog 83 #[.agg #[.string m1,.string m2,.string m3,.string O,.int .i64 U,.int .i64 J,.bool Z,.slice lp K.length lc]] W fun e w'=>e=.returned (.bool T)/\(w'.cell? (pA h 0)=aa (.string m2)/\w'.cell? (pA w.heap.size 0)=aa (.string m1)/\w'.cell? (pA w.heap.size 1)=aa (.string m2)/\w'.cell? (pA w.heap.size 2)=aa (.string m3)/\w'.cell? (pA w.heap.size 3)=aa (.string O)/\w'.cell? (pA w.heap.size 4)=aa (.int .i64 U)/\w'.cell? (pA w.heap.size 5)=aa (.int .i64 J)/\w'.cell? (pA w.heap.size 6)=aa (.bool Z)/\w'.cell? (pA w.heap.size 7)=aa (.slice lp K.length lc)/\af H.heap.size H w')):=fun W I=>(vY (⟨m1,m2,m3,O,U,J,Z,K⟩,(lp,K.length,lc)) rfl hR.2.1 W).mono fun e w' hq=>⟨by rw[hq.1,decide_eq_true a9],a4.out w' (I.2.2.2.2.2.2.2.2.2.trans (hq.2.mono I.2.2.2.2.2.2.2.2.2.size))⟩
 have b4:Hid _:=a3;have b5:Hid (af w.heap.size w H/\H.heap.size=w.heap.size+1):=⟨a6,b1⟩;have d4:Hid (m.aD ⟨m1,m2,m3,O,U,J,Z,K⟩=(m,[])):=by
  show _=_;rw[uO a8 a9];show(match m.held J with|none=>(m,[])|some d6=>d6.cG (Yf m.L J) _)=_;rw[b0]
 have d7:Hid _:=d1;have d8:Hid _:=b0;clear hp hL hR d1 a8 a9 b0 a3 a6 b1 a0 a2 b2 c0 d3;go_enter func63,ntmps63;go_wp2_with (rw[<-b4.out])
 go_cut [23]from 8 to 93 (fun v W=>v=.bool F/\(W.cell? (pA h 0)=aa (.string m2)/\W.cell? (pA w.heap.size 0)=aa (.string m1)/\W.cell? (pA w.heap.size 1)=aa (.string m2)/\W.cell? (pA w.heap.size 2)=aa (.string m3)/\W.cell? (pA w.heap.size 3)=aa (.string O)/\W.cell? (pA w.heap.size 4)=aa (.int .i64 U)/\W.cell? (pA w.heap.size 5)=aa (.int .i64 J)/\W.cell? (pA w.heap.size 6)=aa (.bool Z)/\W.cell? (pA w.heap.size 7)=aa (.slice lp K.length lc)/\af H.heap.size H W))
 case first =>
  go_region_held3 (fun W=>(W.cell? (pA h 0)=aa (.string m2)/\W.cell? (pA w.heap.size 0)=aa (.string m1)/\W.cell? (pA w.heap.size 1)=aa (.string m2)/\W.cell? (pA w.heap.size 2)=aa (.string m3)/\W.cell? (pA w.heap.size 3)=aa (.string O)/\W.cell? (pA w.heap.size 4)=aa (.int .i64 U)/\W.cell? (pA w.heap.size 5)=aa (.int .i64 J)/\W.cell? (pA w.heap.size 6)=aa (.bool Z)/\W.cell? (pA w.heap.size 7)=aa (.slice lp K.length lc)/\af H.heap.size H W)) (first|assumption|exact a4.out _ bR.drew|exact a4.out _ bR) (first|(go_at_call 83;refine(b3.out _ (by assumption)).mono ?_;rintro e w2 ⟨rfl,b6⟩))
  all_goals (go_wp2_with fail;go_meet)
  all_goals exact⟨rfl,by assumption⟩
 case rest =>
  obtain⟨rfl,b6⟩:=hcut;obtain⟨w2,rfl⟩:=Xb wc;obtain⟨_,_,_,_,_,_,d5,_,_,a5⟩:=b6;have b7:=CJ (a7.out.below a5) d7.out;have b8:Hid _:=a5;clear a5 b3 a4 b4;go_wp2_with fail
  refine b7.mono ?_;intro e w3 hH;clear b7 d5;rcases hH with⟨_,rfl,c8⟩|⟨m9,S2,d9,D2,a5,e0,h9,rfl,e1,e2,e3⟩
  rotate_left
  ·rw[d8.out]at h9;cases h9
  have d0:Hid _:=b8.out.trans (c8.mono b8.out.size);clear c8;go_wp2;go_ret;exact tD (a7.out.below d0.out) (Yd.aJ (b5.out.1.trans (d0.out.mono b5.out.1.size))) d4.out
end
section
variable {w:World} {B h:Nat} {S:Nat->Prop} {m:Je} {mp:Option Nat} {D:DataW Value} {hb:Nat->Nat} {Sh:Nat->Nat->Prop}
theorem zK (hp:ZF w B h S m mp D hb Sh)(x:Zb×Lv)(hL:Jn w x)(hR:pR x.1)(x1:YQ x.1.config)(x2:x.1.aP=m.name)(i3:iN x.1)(L6:x.1.kind=ZW∨x.1.kind=Q3∨x.1.kind=Y3){my:Je}(s1:m.held x.1.config=aa my)(d8:∀b o,x.2.1=aa ⟨b,o,N⟩->¬S b)(hX:∀W:World,w.heap.size<=W.heap.size->(∀k,k<w.heap.size->¬S k->W.heap[k]?=w.heap[k]?)->kN W ad):
 ap prog 63 #[.pointer (aa ⟨h,0,N⟩),.agg #[.string x.1.from_,.string x.1.aP,.string x.1.kind,.string x.1.key,.int .i64 x.1.op,.int .i64 x.1.config,.bool x.1.shut,.slice x.2.1 x.2.2.1 x.2.2.2]] w fun e w'=>Q1 w B h S m x.1 e w':=by
 obtain⟨⟨m1,m2,m3,I,Z,J,m7,mL⟩,lp,ln,lc⟩:=x;have N1:ln=mL.length:=hL.len;subst N1;dsimp only at *;obtain⟨w1,i5⟩:=Xb (w.alloc (.cells #[.string m1,.string m2,.string m3,.string I,.int .i64 Z,.int .i64 J,.bool m7,.slice lp mL.length lc] 90));have s2:=Zk i5;have x3:=QT i5;have d7:w.heap.size<w1.heap.size:=by omega
 have c8:=JH i5;have s3:Hid (ZF w1 B h S m mp D hb Sh):=hp.below s2;have x4:Hid (∀k,S k->k<w.heap.size):=fun k hk=>(hp.aO k hk).2
 have x5:h<w1.heap.size:=by have:=hp.lt;omega
 have c0:=s3.out.cells.1;rw[<-x2]at c0;have o5:Hid (∀W,af w1.heap.size w1 W->(W.cell? ⟨h,0,N⟩=aa (.string m2)/\W.cell? ⟨w.heap.size,0,N⟩=aa (.string m1)/\W.cell? ⟨w.heap.size,1,N⟩=aa (.string m2)/\W.cell? ⟨w.heap.size,2,N⟩=aa (.string m3)/\W.cell? ⟨w.heap.size,3,N⟩=aa (.string I)/\W.cell? ⟨w.heap.size,4,N⟩=aa (.int .i64 Z)/\W.cell? ⟨w.heap.size,5,N⟩=aa (.int .i64 J)/\W.cell? ⟨w.heap.size,6,N⟩=aa (.bool m7)/\W.cell? ⟨w.heap.size,7,N⟩=aa (.slice lp mL.length lc)/\af w1.heap.size w1 W)):=fun W hW=>⟨(hW.cell (p:=⟨h,0,N⟩) x5).trans c0,(hW.cell (p:=⟨w.heap.size,0,N⟩) d7).trans (by simp[ab,c8]),(hW.cell (p:=⟨w.heap.size,1,N⟩) d7).trans (by simp[ab,c8]),(hW.cell (p:=⟨w.heap.size,2,N⟩) d7).trans (by simp[ab,c8]),(hW.cell (p:=⟨w.heap.size,3,N⟩) d7).trans (by simp[ab,c8]),(hW.cell (p:=⟨w.heap.size,4,N⟩) d7).trans (by simp[ab,c8]),(hW.cell (p:=⟨w.heap.size,5,N⟩) d7).trans (by simp[ab,c8]),(hW.cell (p:=⟨w.heap.size,6,N⟩) d7).trans (by simp[ab,c8]),(hW.cell (p:=⟨w.heap.size,7,N⟩) d7).trans (by simp[ab,c8]),hW⟩
 have x6:Hid (∀W,(W.cell? ⟨h,0,N⟩=aa (.string m2)/\W.cell? ⟨w.heap.size,0,N⟩=aa (.string m1)/\W.cell? ⟨w.heap.size,1,N⟩=aa (.string m2)/\W.cell? ⟨w.heap.size,2,N⟩=aa (.string m3)/\W.cell? ⟨w.heap.size,3,N⟩=aa (.string I)/\W.cell? ⟨w.heap.size,4,N⟩=aa (.int .i64 Z)/\W.cell? ⟨w.heap.size,5,N⟩=aa (.int .i64 J)/\W.cell? ⟨w.heap.size,6,N⟩=aa (.bool m7)/\W.cell? ⟨w.heap.size,7,N⟩=aa (.slice lp mL.length lc)/\af w1.heap.size w1 W)->ap prog 83 #[.agg #[.string m1,.string m2,.string m3,.string I,.int .i64 Z,.int .i64 J,.bool m7,.slice lp mL.length lc]] W fun e w'=>e=.returned (.bool T)/\(w'.cell? ⟨h,0,N⟩=aa (.string m2)/\w'.cell? ⟨w.heap.size,0,N⟩=aa (.string m1)/\w'.cell? ⟨w.heap.size,1,N⟩=aa (.string m2)/\w'.cell? ⟨w.heap.size,2,N⟩=aa (.string m3)/\w'.cell? ⟨w.heap.size,3,N⟩=aa (.string I)/\w'.cell? ⟨w.heap.size,4,N⟩=aa (.int .i64 Z)/\w'.cell? ⟨w.heap.size,5,N⟩=aa (.int .i64 J)/\w'.cell? ⟨w.heap.size,6,N⟩=aa (.bool m7)/\w'.cell? ⟨w.heap.size,7,N⟩=aa (.slice lp mL.length lc)/\af w1.heap.size w1 w')):=fun W hW=>(vY (⟨m1,m2,m3,I,Z,J,m7,mL⟩,(lp,mL.length,lc)) rfl hR.2.1 W).mono fun e w' hq=>⟨by rw[hq.1,decide_eq_true i3],o5.out w' (hW.2.2.2.2.2.2.2.2.2.trans (hq.2.mono hW.2.2.2.2.2.2.2.2.2.size))⟩
 have x7:Hid (w1.heap[w.heap.size]?=aa (.cells #[.string m1,.string m2,.string m3,.string I,.int .i64 Z,.int .i64 J,.bool m7,.slice lp mL.length lc] 90 (0,0))):=c8;have x8:Hid (w1=w.alloc (.cells #[.string m1,.string m2,.string m3,.string I,.int .i64 Z,.int .i64 J,.bool m7,.slice lp mL.length lc] 90)):=i5;have p0:Hid (af w.heap.size w w1/\w1.heap.size=w.heap.size+1):=⟨s2,x3⟩;have f9:Hid (m2=m.name):=x2;have N3:Hid (YQ J):=x1;have i8:Hid (iN ⟨m1,m2,m3,I,Z,J,m7,mL⟩):=i3;have i9:Hid (m.held J=aa my):=s1;have p1:Hid (my.name=m.name):=G0 s1;have s4:Hid (pR ⟨m1,m2,m3,I,Z,J,m7,mL⟩):=hR;have h6:Hid my.cH:=(hp.aN.iD x1 s1).1;have O0:Hid (Jn w (⟨m1,m2,m3,I,Z,J,m7,mL⟩,lp,mL.length,lc)):=hL;have O1:Hid (∀b o,lp=aa ⟨b,o,N⟩->¬S b):=d8;have HX:Hid (∀W:World,w.heap.size<=W.heap.size->(∀k,k<w.heap.size->¬S k->W.heap[k]?=w.heap[k]?)->kN W ad):=hX;have O2:Hid (m3=ZW∨m3=Q3∨m3=Y3):=L6;clear hp hL hR x1 x2 i3 s1 i5 s2 x3 d7 c8 x5 c0 d8 hX L6;go_enter func63,ntmps63;go_wp2_with (rw[<-x8.out])
 go_cut [23]from 8 to 93 (fun v W=>v=.bool F/\(W.cell? ⟨h,0,N⟩=aa (.string m2)/\W.cell? ⟨w.heap.size,0,N⟩=aa (.string m1)/\W.cell? ⟨w.heap.size,1,N⟩=aa (.string m2)/\W.cell? ⟨w.heap.size,2,N⟩=aa (.string m3)/\W.cell? ⟨w.heap.size,3,N⟩=aa (.string I)/\W.cell? ⟨w.heap.size,4,N⟩=aa (.int .i64 Z)/\W.cell? ⟨w.heap.size,5,N⟩=aa (.int .i64 J)/\W.cell? ⟨w.heap.size,6,N⟩=aa (.bool m7)/\W.cell? ⟨w.heap.size,7,N⟩=aa (.slice lp mL.length lc)/\af w1.heap.size w1 W))
 case first =>
  go_region_held3 (fun W=>(W.cell? ⟨h,0,N⟩=aa (.string m2)/\W.cell? ⟨w.heap.size,0,N⟩=aa (.string m1)/\W.cell? ⟨w.heap.size,1,N⟩=aa (.string m2)/\W.cell? ⟨w.heap.size,2,N⟩=aa (.string m3)/\W.cell? ⟨w.heap.size,3,N⟩=aa (.string I)/\W.cell? ⟨w.heap.size,4,N⟩=aa (.int .i64 Z)/\W.cell? ⟨w.heap.size,5,N⟩=aa (.int .i64 J)/\W.cell? ⟨w.heap.size,6,N⟩=aa (.bool m7)/\W.cell? ⟨w.heap.size,7,N⟩=aa (.slice lp mL.length lc)/\af w1.heap.size w1 W)) (first|assumption|exact o5.out _ bR.drew|exact o5.out _ bR) (first|(go_at_call 83;refine(x6.out _ (by assumption)).mono ?_;rintro e w2 ⟨rfl,y8⟩))
  all_goals (go_wp2_with fail;go_meet)
  all_goals exact⟨rfl,by assumption⟩
 case rest =>
  obtain⟨rfl,y8⟩:=hcut;obtain⟨w2,rfl⟩:=Xb wc;obtain⟨_,_,_,_,_,_,d5,_,_,d0⟩:=y8;have z0:=CJ (s3.out.below d0) N3.out;have p2:Hid (af w1.heap.size w1 w2):=d0;clear d0 x6 o5 x8;go_wp2_with fail
  refine z0.mono ?_;intro e O hH;clear z0 d5;rcases hH with⟨h9,_⟩|⟨m9,S2,s5,D2,d0,a8,h9,rfl,j1,e8,j2⟩
  ·rw[i9.out]at h9;cases h9
  obtain rfl:my=m9:=by rw[i9.out]at h9;exact Option.some.inj h9
  clear h9;have d8:¬S w.heap.size:=fun hs=>by have:=x4.out _ hs;omega
  have s6:w.heap.size<w2.heap.size:=by have:=p2.out.size;have:=p0.out.2;omega
  have h7:O.heap[w.heap.size]?=aa (.cells #[.string m1,.string m2,.string m3,.string I,.int .i64 Z,.int .i64 J,.bool m7,.slice lp mL.length lc] 90 (0,0)):=(j2.block _ s6 d8).trans ((p2.out.block _ (by have:=p0.out.2;omega)).trans x7.out);have h8:w.heap.size<O.heap.size:=ae s6 j2.size;have z1:h<O.heap.size:=e8.lt;have c0:=e8.cells.1;rw[p1.out,<-f9.out]at c0;have b6:Hid (∀W,af O.heap.size O W->(W.cell? ⟨h,0,N⟩=aa (.string m2)/\W.cell? ⟨w.heap.size,0,N⟩=aa (.string m1)/\W.cell? ⟨w.heap.size,3,N⟩=aa (.string I)/\W.cell? ⟨w.heap.size,4,N⟩=aa (.int .i64 Z)/\W.cell? ⟨w.heap.size,5,N⟩=aa (.int .i64 J)/\af O.heap.size O W)):=fun W hW=>⟨(hW.cell (p:=⟨h,0,N⟩) z1).trans c0,(hW.cell (p:=⟨w.heap.size,0,N⟩) h8).trans (by simp[ab,h7]),(hW.cell (p:=⟨w.heap.size,3,N⟩) h8).trans (by simp[ab,h7]),(hW.cell (p:=⟨w.heap.size,4,N⟩) h8).trans (by simp[ab,h7]),(hW.cell (p:=⟨w.heap.size,5,N⟩) h8).trans (by simp[ab,h7]),hW⟩
  have g0:Hid (Yd S S2 w O):=(Yd.aJ (p0.out.1.trans (p2.out.mono p0.out.1.size))).trans j2;have i0:Hid (ZF O B h S2 my s5 D2 d0 a8):=e8;have p3:Hid (Yf m.L J<my.L.length):=j1;have O3:Hid (O.heap[w.heap.size]?=aa (.cells #[.string m1,.string m2,.string m3,.string I,.int .i64 Z,.int .i64 J,.bool m7,.slice lp mL.length lc] 90 (0,0))):=h7;have g1:Hid (¬S2 w.heap.size/\w.heap.size<O.heap.size):=⟨fun hs=>(j2.new _ hs).elim d8 (by omega),h8⟩;have z2:Hid (QB O (d0 (Yf m.L J)) (a8 (Yf m.L J)) (Zg my.L (Yf m.L J)).2.1 (Zg my.L (Yf m.L J)).2.2):=e8.hold _ j1;have e9:Hid (∀k,a8 (Yf m.L J) k->S2 k/\k<O.heap.size):=fun k hk=>⟨(e8.sub _ j1 k hk).1,(e8.aO k (e8.sub _ j1 k hk).1).2⟩
  clear j2 e8 j1 h7 d8 s6 h8 z1 c0 s3 x7 p2 x4;generalize z3:Yf m.L J=ii at *;have s7:Hid (Yf m.L J=ii):=z3;generalize z4:d0 ii=hk at *;have z5:Hid (d0 ii=hk):=z4;obtain⟨Lh,s8⟩:=Xb ((Zg my.L ii).2.1);obtain⟨sh,s9⟩:=Xb ((Zg my.L ii).2.2);rw[<-s8,<-s9]at z2;have g2:Hid (Lh=(Zg my.L ii).2.1):=s8;have z6:Hid (sh=(Zg my.L ii).2.2):=s9;have d1:Hid (∀(t:BA) W,t.size<=140737488351232->(W.cell? ⟨h,0,N⟩=aa (.string m2)/\W.cell? ⟨w.heap.size,0,N⟩=aa (.string m1)/\W.cell? ⟨w.heap.size,3,N⟩=aa (.string I)/\W.cell? ⟨w.heap.size,4,N⟩=aa (.int .i64 Z)/\W.cell? ⟨w.heap.size,5,N⟩=aa (.int .i64 J)/\af O.heap.size O W)->ap prog 19 #[.string t] W fun e w'=>e=.returned (.string t)/\(w'.cell? ⟨h,0,N⟩=aa (.string m2)/\w'.cell? ⟨w.heap.size,0,N⟩=aa (.string m1)/\w'.cell? ⟨w.heap.size,3,N⟩=aa (.string I)/\w'.cell? ⟨w.heap.size,4,N⟩=aa (.int .i64 Z)/\w'.cell? ⟨w.heap.size,5,N⟩=aa (.int .i64 J)/\af O.heap.size O w')/\af W.heap.size W w'):=fun t W ht hW=>(Xs t W ht).mono fun e w' hq=>⟨hq.1,b6.out w' (hW.2.2.2.2.2.trans (hq.2.mono hW.2.2.2.2.2.size)),hq.2⟩
  obtain⟨⟨z7,z8,_,z9⟩,_⟩:=s4.out;have d2:Hid (m1.size<=140737488351232/\m2.size<=140737488351232/\I.size<=140737488351232):=⟨z7,z8,z9⟩;clear s8 s9 z4 z3 z7 z8 z9;go_wp2;go_cut [6]from 30 to 93 (fun v W=>∃H,v=.pointer (aa ⟨H,0,N⟩)/\O.heap.size<=H/\W.heap[H]?=aa (.cells #[.string m2,.string m1,.string ⟨#[]⟩,.string I,.int .i64 Z,.int .i64 J,.bool F,.slice N 0 0] 90 (0,0))/\af O.heap.size O W)
  case first =>
   have k0:(O.drew.cell? ⟨h,0,N⟩=aa (.string m2)/\O.drew.cell? ⟨w.heap.size,0,N⟩=aa (.string m1)/\O.drew.cell? ⟨w.heap.size,3,N⟩=aa (.string I)/\O.drew.cell? ⟨w.heap.size,4,N⟩=aa (.int .i64 Z)/\O.drew.cell? ⟨w.heap.size,5,N⟩=aa (.int .i64 J)/\af O.heap.size O O.drew):=b6.out _ bR.drew;refine wp_region_held_drew (S:=fun W=>(W.cell? ⟨h,0,N⟩=aa (.string m2)/\W.cell? ⟨w.heap.size,0,N⟩=aa (.string m1)/\W.cell? ⟨w.heap.size,3,N⟩=aa (.string I)/\W.cell? ⟨w.heap.size,4,N⟩=aa (.int .i64 Z)/\W.cell? ⟨w.heap.size,5,N⟩=aa (.int .i64 J)/\af O.heap.size O W)) (by kernel_rfl) k0 (fun U=>?_);refine tk 0 _ U ?_;refine tk 1 _ U ?_;refine tk 2 _ U ?_;refine tk 3 _ U ?_;refine tk 5 _ U ?_;refine tk 6 _ U ?_;refine tk 8 _ U ?_;refine tk 9 _ U ?_;refine tk 11 _ U ?_;refine tk 12 _ U ?_;refine tk 13 _ U ?_;refine tk 14 _ U ?_;simp only[ah,sA,sZ,sS];refine rdy 4 [16] _ (fun K hK=>?_) ?_
   ·
    go_simp
    (go_at_call 19;refine(d1.out _ _ d2.out.2.1 (by assumption)).mono ?_;rintro e a9 ⟨rfl,p4,t0⟩)
    first|(refine hK.out _ _ ?_ (fun U=>?_))|(go_wp2_with fail;refine hK.out _ _ ?_ (fun U=>?_))
    ·exact p4
    clear hK K;try simp only[ah,sA,sZ,sS]
    refine rdy 7 [16] _ (fun K hK=>?_) ?_
    ·
     go_simp
     (go_at_call 19;refine(d1.out _ _ d2.out.1 (by assumption)).mono ?_;rintro e b0 ⟨rfl,t1,A1⟩)
     first|(refine hK.out _ _ ?_ (fun U=>?_))|(go_wp2_with fail;refine hK.out _ _ ?_ (fun U=>?_))
     ·exact t1
     clear hK K;try simp only[ah,sA,sZ,sS]
     refine rdy 10 [16] _ (fun K hK=>?_) ?_
     ·
      go_simp
      (go_at_call 19;refine(d1.out _ _ d2.out.2.2 (by assumption)).mono ?_;rintro e b1 ⟨rfl,B1,O4⟩)
      first|(refine hK.out _ _ ?_ (fun U=>?_))|(go_wp2_with fail;refine hK.out _ _ ?_ (fun U=>?_))
      ·exact B1
      clear hK K;try simp only[ah,sA,sZ,sS]
      refine tk 15 _ U ?_;simp only[ah,sA,sZ,sS];refine rdy 16 [] _ (fun K hK=>?_) ag;go_simp;obtain⟨a3,k4⟩:∃a,a=b1.alloc (.cells #[.string ⟨#[]⟩,.string ⟨#[]⟩,.string ⟨#[]⟩,.string ⟨#[]⟩,.int .i64 0,.int .i64 0,.bool F,.slice N 0 0] 90):=⟨_,rfl⟩;rw[<-k4];have C0:(a3.cell? ⟨h,0,N⟩=aa (.string m2)/\a3.cell? ⟨w.heap.size,0,N⟩=aa (.string m1)/\a3.cell? ⟨w.heap.size,3,N⟩=aa (.string I)/\a3.cell? ⟨w.heap.size,4,N⟩=aa (.int .i64 Z)/\a3.cell? ⟨w.heap.size,5,N⟩=aa (.int .i64 J)/\af O.heap.size O a3):=by rw[k4];exact b6.out _ (U.2.2.2.2.2.alloc U.2.2.2.2.2.size _)
      have p5:=JH k4;have O5:b1.heap.size<a3.heap.size:=by rw[k4];show b1.heap.size<(b1.heap.push _).size;rw[am];exact al _
      have d9:O.heap.size<=b1.heap.size:=U.2.2.2.2.2.size;clear k4;first|(refine hK.out _ _ ?_ (fun U=>?_))|(go_wp2_with fail;refine hK.out _ _ ?_ (fun U=>?_))
      ·exact C0
      clear hK K;try simp only[ah,sA,sZ,sS]
      obtain⟨y0,y1,y2,y3,y4,y5,y6,y7⟩:=lF p5;have yf:∀o,a3.frozen? ⟨b1.heap.size,o,N⟩=false:=fun o=>by simp[ak,p5]
      have g3:Hid (a3.heap[b1.heap.size]?=aa (.cells #[.string ⟨#[]⟩,.string ⟨#[]⟩,.string ⟨#[]⟩,.string ⟨#[]⟩,.int .i64 0,.int .i64 0,.bool F,.slice N 0 0] 90 (0,0))):=p5;have g4:Hid ((a3.cell? ⟨h,0,N⟩=aa (.string m2)/\a3.cell? ⟨w.heap.size,0,N⟩=aa (.string m1)/\a3.cell? ⟨w.heap.size,3,N⟩=aa (.string I)/\a3.cell? ⟨w.heap.size,4,N⟩=aa (.int .i64 Z)/\a3.cell? ⟨w.heap.size,5,N⟩=aa (.int .i64 J)/\af O.heap.size O a3)):=U;clear k0 U t0 p4 A1 t1 O4 B1 C0 p5 O5;refine rdy 17 [] _ (fun K hK=>?_) ag;go_simp;first|(refine hK.out _ _ ?_ (fun U=>?_))|(go_wp2_with fail;refine hK.out _ _ ?_ (fun U=>?_))
      ·exact b6.out _ ((((((((g4.out.2.2.2.2.2.setCell (p:=⟨b1.heap.size,0,N⟩) d9 _).setCell (p:=⟨b1.heap.size,1,N⟩) d9 _).setCell (p:=⟨b1.heap.size,2,N⟩) d9 _).setCell (p:=⟨b1.heap.size,3,N⟩) d9 _).setCell (p:=⟨b1.heap.size,4,N⟩) d9 _).setCell (p:=⟨b1.heap.size,5,N⟩) d9 _).setCell (p:=⟨b1.heap.size,6,N⟩) d9 _).setCell (p:=⟨b1.heap.size,7,N⟩) d9 _)
      clear hK K;try simp only[ah,sA,sZ,sS]
      refine ar (by kernel_rfl) ?_ _;go_wp2_with fail
      go_meet
      exact⟨_,rfl,d9,(Qc (Qc (Qc (Qc (Qc (Qc (Qc (Qc g3.out 0 _) 1 _) 2 _) 3 _) 4 _) 5 _) 6 _) 7 _),U.2.2.2.2.2⟩
     refine au (o:=⟨aa 6,.alloc 90,0, "serve.go:38",#[],N⟩) rfl (fun K hK=>?_) ag;go_simp;obtain⟨a2,k5⟩:∃a,a=b0.alloc (.cells #[.string ⟨#[]⟩,.string ⟨#[]⟩,.string ⟨#[]⟩,.string ⟨#[]⟩,.int .i64 0,.int .i64 0,.bool F,.slice N 0 0] 90):=⟨_,rfl⟩;rw[<-k5];have C1:(a2.cell? ⟨h,0,N⟩=aa (.string m2)/\a2.cell? ⟨w.heap.size,0,N⟩=aa (.string m1)/\a2.cell? ⟨w.heap.size,3,N⟩=aa (.string I)/\a2.cell? ⟨w.heap.size,4,N⟩=aa (.int .i64 Z)/\a2.cell? ⟨w.heap.size,5,N⟩=aa (.int .i64 J)/\af O.heap.size O a2):=by rw[k5];exact b6.out _ (U.2.2.2.2.2.alloc U.2.2.2.2.2.size _)
     have C2:=JH k5;have t2:b0.heap.size<a2.heap.size:=by rw[k5];show b0.heap.size<(b0.heap.push _).size;rw[am];exact al _
     have e0:O.heap.size<=b0.heap.size:=U.2.2.2.2.2.size;clear k5;first|(refine hK.out _ _ ?_ (fun U=>?_))|(go_wp2_with fail;refine hK.out _ _ ?_ (fun U=>?_))
     ·exact C1
     clear hK K;try simp only[ah,sA,sZ,sS]
     refine rdy 10 [] _ (fun K hK=>?_) ag;go_simp
     (go_at_call 19;refine(d1.out _ _ d2.out.2.2 (by assumption)).mono ?_;rintro e a4 ⟨rfl,f3,b7⟩)
     have b2:=(b7.block _ t2).trans C2;have k6:=ae t2 b7.size;first|(refine hK.out _ _ ?_ (fun U=>?_))|(go_wp2_with fail;refine hK.out _ _ ?_ (fun U=>?_))
     ·exact f3
     clear hK K;try simp only[ah,sA,sZ,sS]
     refine tk 15 _ U ?_;simp only[ah,sA,sZ,sS];obtain⟨y0,y1,y2,y3,y4,y5,y6,y7⟩:=lF b2;have yf:∀o,a4.frozen? ⟨b0.heap.size,o,N⟩=false:=fun o=>by simp[ak,b2]
     have g3:Hid (a4.heap[b0.heap.size]?=aa (.cells #[.string ⟨#[]⟩,.string ⟨#[]⟩,.string ⟨#[]⟩,.string ⟨#[]⟩,.int .i64 0,.int .i64 0,.bool F,.slice N 0 0] 90 (0,0))):=b2;have g4:Hid ((a4.cell? ⟨h,0,N⟩=aa (.string m2)/\a4.cell? ⟨w.heap.size,0,N⟩=aa (.string m1)/\a4.cell? ⟨w.heap.size,3,N⟩=aa (.string I)/\a4.cell? ⟨w.heap.size,4,N⟩=aa (.int .i64 Z)/\a4.cell? ⟨w.heap.size,5,N⟩=aa (.int .i64 J)/\af O.heap.size O a4)):=U;clear k0 U t0 p4 A1 t1 C1 C2 t2 b7 f3 b2 k6;refine rdy 17 [] _ (fun K hK=>?_) ag;go_simp;first|(refine hK.out _ _ ?_ (fun U=>?_))|(go_wp2_with fail;refine hK.out _ _ ?_ (fun U=>?_))
     ·exact b6.out _ ((((((((g4.out.2.2.2.2.2.setCell (p:=⟨b0.heap.size,0,N⟩) e0 _).setCell (p:=⟨b0.heap.size,1,N⟩) e0 _).setCell (p:=⟨b0.heap.size,2,N⟩) e0 _).setCell (p:=⟨b0.heap.size,3,N⟩) e0 _).setCell (p:=⟨b0.heap.size,4,N⟩) e0 _).setCell (p:=⟨b0.heap.size,5,N⟩) e0 _).setCell (p:=⟨b0.heap.size,6,N⟩) e0 _).setCell (p:=⟨b0.heap.size,7,N⟩) e0 _)
     clear hK K;try simp only[ah,sA,sZ,sS]
     refine ar (by kernel_rfl) ?_ _;go_wp2_with fail
     go_meet
     exact⟨_,rfl,e0,(Qc (Qc (Qc (Qc (Qc (Qc (Qc (Qc g3.out 0 _) 1 _) 2 _) 3 _) 4 _) 5 _) 6 _) 7 _),U.2.2.2.2.2⟩
    refine au (o:=⟨aa 6,.alloc 90,0, "serve.go:38",#[],N⟩) rfl (fun K hK=>?_) ag;go_simp;obtain⟨a1,k7⟩:∃a,a=a9.alloc (.cells #[.string ⟨#[]⟩,.string ⟨#[]⟩,.string ⟨#[]⟩,.string ⟨#[]⟩,.int .i64 0,.int .i64 0,.bool F,.slice N 0 0] 90):=⟨_,rfl⟩;rw[<-k7];have C3:(a1.cell? ⟨h,0,N⟩=aa (.string m2)/\a1.cell? ⟨w.heap.size,0,N⟩=aa (.string m1)/\a1.cell? ⟨w.heap.size,3,N⟩=aa (.string I)/\a1.cell? ⟨w.heap.size,4,N⟩=aa (.int .i64 Z)/\a1.cell? ⟨w.heap.size,5,N⟩=aa (.int .i64 J)/\af O.heap.size O a1):=by rw[k7];exact b6.out _ (U.2.2.2.2.2.alloc U.2.2.2.2.2.size _)
    have C4:=JH k7;have t3:a9.heap.size<a1.heap.size:=by rw[k7];show a9.heap.size<(a9.heap.push _).size;rw[am];exact al _
    have e5:O.heap.size<=a9.heap.size:=U.2.2.2.2.2.size;clear k7;first|(refine hK.out _ _ ?_ (fun U=>?_))|(go_wp2_with fail;refine hK.out _ _ ?_ (fun U=>?_))
    ·exact C3
    clear hK K;try simp only[ah,sA,sZ,sS]
    refine rdy 7 [] _ (fun K hK=>?_) ag;go_simp
    (go_at_call 19;refine(d1.out _ _ d2.out.1 (by assumption)).mono ?_;rintro e O6 ⟨rfl,l0,g5⟩)
    have l7:=(g5.block _ t3).trans C4;have g6:=ae t3 g5.size;first|(refine hK.out _ _ ?_ (fun U=>?_))|(go_wp2_with fail;refine hK.out _ _ ?_ (fun U=>?_))
    ·exact l0
    clear hK K;try simp only[ah,sA,sZ,sS]
    refine rdy 10 [] _ (fun K hK=>?_) ag;go_simp
    (go_at_call 19;refine(d1.out _ _ d2.out.2.2 (by assumption)).mono ?_;rintro e a4 ⟨rfl,f3,b7⟩)
    have b2:=(b7.block _ g6).trans l7;have k6:=ae g6 b7.size;first|(refine hK.out _ _ ?_ (fun U=>?_))|(go_wp2_with fail;refine hK.out _ _ ?_ (fun U=>?_))
    ·exact f3
    clear hK K;try simp only[ah,sA,sZ,sS]
    refine tk 15 _ U ?_;simp only[ah,sA,sZ,sS];obtain⟨y0,y1,y2,y3,y4,y5,y6,y7⟩:=lF b2;have yf:∀o,a4.frozen? ⟨a9.heap.size,o,N⟩=false:=fun o=>by simp[ak,b2]
    have g3:Hid (a4.heap[a9.heap.size]?=aa (.cells #[.string ⟨#[]⟩,.string ⟨#[]⟩,.string ⟨#[]⟩,.string ⟨#[]⟩,.int .i64 0,.int .i64 0,.bool F,.slice N 0 0] 90 (0,0))):=b2;have g4:Hid ((a4.cell? ⟨h,0,N⟩=aa (.string m2)/\a4.cell? ⟨w.heap.size,0,N⟩=aa (.string m1)/\a4.cell? ⟨w.heap.size,3,N⟩=aa (.string I)/\a4.cell? ⟨w.heap.size,4,N⟩=aa (.int .i64 Z)/\a4.cell? ⟨w.heap.size,5,N⟩=aa (.int .i64 J)/\af O.heap.size O a4)):=U;clear k0 U t0 p4 C3 C4 t3 g5 l0 l7 g6 b7 f3 b2 k6;refine rdy 17 [] _ (fun K hK=>?_) ag;go_simp;first|(refine hK.out _ _ ?_ (fun U=>?_))|(go_wp2_with fail;refine hK.out _ _ ?_ (fun U=>?_))
    ·exact b6.out _ ((((((((g4.out.2.2.2.2.2.setCell (p:=⟨a9.heap.size,0,N⟩) e5 _).setCell (p:=⟨a9.heap.size,1,N⟩) e5 _).setCell (p:=⟨a9.heap.size,2,N⟩) e5 _).setCell (p:=⟨a9.heap.size,3,N⟩) e5 _).setCell (p:=⟨a9.heap.size,4,N⟩) e5 _).setCell (p:=⟨a9.heap.size,5,N⟩) e5 _).setCell (p:=⟨a9.heap.size,6,N⟩) e5 _).setCell (p:=⟨a9.heap.size,7,N⟩) e5 _)
    clear hK K;try simp only[ah,sA,sZ,sS]
    refine ar (by kernel_rfl) ?_ _;go_wp2_with fail
    go_meet
    exact⟨_,rfl,e5,(Qc (Qc (Qc (Qc (Qc (Qc (Qc (Qc g3.out 0 _) 1 _) 2 _) 3 _) 4 _) 5 _) 6 _) 7 _),U.2.2.2.2.2⟩
   refine au (o:=⟨aa 6,.alloc 90,0, "serve.go:38",#[],N⟩) rfl (fun K hK=>?_) ag;go_simp;obtain⟨a0,l9⟩:∃a,a=(O.alloc (.cells #[.string ⟨#[]⟩,.string ⟨#[]⟩,.string ⟨#[]⟩,.string ⟨#[]⟩,.int .i64 0,.int .i64 0,.bool F,.slice N 0 0] 90)).drew:=⟨_,rfl⟩;rw[<-l9];have D0:(a0.cell? ⟨h,0,N⟩=aa (.string m2)/\a0.cell? ⟨w.heap.size,0,N⟩=aa (.string m1)/\a0.cell? ⟨w.heap.size,3,N⟩=aa (.string I)/\a0.cell? ⟨w.heap.size,4,N⟩=aa (.int .i64 Z)/\a0.cell? ⟨w.heap.size,5,N⟩=aa (.int .i64 J)/\af O.heap.size O a0):=by rw[l9];exact b6.out _ (bR.alloc nR _).drew
   have D9:a0.heap[O.heap.size]?=aa (.cells #[.string ⟨#[]⟩,.string ⟨#[]⟩,.string ⟨#[]⟩,.string ⟨#[]⟩,.int .i64 0,.int .i64 0,.bool F,.slice N 0 0] 90 (0,0)):=by rw[l9];exact heap_alloc_new O _
   have t4:O.heap.size<a0.heap.size:=by rw[l9];show O.heap.size<(O.heap.push _).size;rw[am];exact al _
   have e6:O.heap.size<=O.heap.size:=U.2.2.2.2.2.size;clear l9;first|(refine hK.out _ _ ?_ (fun U=>?_))|(go_wp2_with fail;refine hK.out _ _ ?_ (fun U=>?_))
   ·exact D0
   clear hK K;try simp only[ah,sA,sZ,sS]
   refine rdy 4 [] _ (fun K hK=>?_) ag;go_simp
   (go_at_call 19;refine(d1.out _ _ d2.out.2.1 (by assumption)).mono ?_;rintro e U1 ⟨rfl,F8,t5⟩)
   have H0:=(t5.block _ t4).trans D9;have t6:=ae t4 t5.size;first|(refine hK.out _ _ ?_ (fun U=>?_))|(go_wp2_with fail;refine hK.out _ _ ?_ (fun U=>?_))
   ·exact F8
   clear hK K;try simp only[ah,sA,sZ,sS]
   refine rdy 7 [] _ (fun K hK=>?_) ag;go_simp
   (go_at_call 19;refine(d1.out _ _ d2.out.1 (by assumption)).mono ?_;rintro e O6 ⟨rfl,l0,g5⟩)
   have l7:=(g5.block _ t6).trans H0;have g6:=ae t6 g5.size;first|(refine hK.out _ _ ?_ (fun U=>?_))|(go_wp2_with fail;refine hK.out _ _ ?_ (fun U=>?_))
   ·exact l0
   clear hK K;try simp only[ah,sA,sZ,sS]
   refine rdy 10 [] _ (fun K hK=>?_) ag;go_simp
   (go_at_call 19;refine(d1.out _ _ d2.out.2.2 (by assumption)).mono ?_;rintro e a4 ⟨rfl,f3,b7⟩)
   have b2:=(b7.block _ g6).trans l7;have k6:=ae g6 b7.size;first|(refine hK.out _ _ ?_ (fun U=>?_))|(go_wp2_with fail;refine hK.out _ _ ?_ (fun U=>?_))
   ·exact f3
   clear hK K;try simp only[ah,sA,sZ,sS]
   refine tk 15 _ U ?_;simp only[ah,sA,sZ,sS];obtain⟨y0,y1,y2,y3,y4,y5,y6,y7⟩:=lF b2;have yf:∀o,a4.frozen? ⟨O.heap.size,o,N⟩=false:=fun o=>by simp[ak,b2]
   have g3:Hid (a4.heap[O.heap.size]?=aa (.cells #[.string ⟨#[]⟩,.string ⟨#[]⟩,.string ⟨#[]⟩,.string ⟨#[]⟩,.int .i64 0,.int .i64 0,.bool F,.slice N 0 0] 90 (0,0))):=b2;have g4:Hid ((a4.cell? ⟨h,0,N⟩=aa (.string m2)/\a4.cell? ⟨w.heap.size,0,N⟩=aa (.string m1)/\a4.cell? ⟨w.heap.size,3,N⟩=aa (.string I)/\a4.cell? ⟨w.heap.size,4,N⟩=aa (.int .i64 Z)/\a4.cell? ⟨w.heap.size,5,N⟩=aa (.int .i64 J)/\af O.heap.size O a4)):=U;clear k0 U D0 D9 t4 t5 F8 H0 t6 g5 l0 l7 g6 b7 f3 b2 k6;refine rdy 17 [] _ (fun K hK=>?_) ag;go_simp;first|(refine hK.out _ _ ?_ (fun U=>?_))|(go_wp2_with fail;refine hK.out _ _ ?_ (fun U=>?_))
   ·exact b6.out _ ((((((((g4.out.2.2.2.2.2.setCell (p:=⟨O.heap.size,0,N⟩) e6 _).setCell (p:=⟨O.heap.size,1,N⟩) e6 _).setCell (p:=⟨O.heap.size,2,N⟩) e6 _).setCell (p:=⟨O.heap.size,3,N⟩) e6 _).setCell (p:=⟨O.heap.size,4,N⟩) e6 _).setCell (p:=⟨O.heap.size,5,N⟩) e6 _).setCell (p:=⟨O.heap.size,6,N⟩) e6 _).setCell (p:=⟨O.heap.size,7,N⟩) e6 _)
   clear hK K;try simp only[ah,sA,sZ,sS]
   refine ar (by kernel_rfl) ?_ _;go_wp2_with fail
   go_meet
   exact⟨_,rfl,e6,(Qc (Qc (Qc (Qc (Qc (Qc (Qc (Qc g3.out 0 _) 1 _) 2 _) 3 _) 4 _) 5 _) 6 _) 7 _),U.2.2.2.2.2⟩
  case rest =>
   clear b6 d1 d2;obtain⟨H,rfl,e7,m0,f4⟩:=hcut;obtain⟨w4,rfl⟩:=Xb wc;have b5:H<w4.heap.size:=rE m0;have m8:w.heap.size<H:=ae g1.out.2 e7;have f5:w4.heap[w.heap.size]?=aa (.cells #[.string m1,.string m2,.string m3,.string I,.int .i64 Z,.int .i64 J,.bool m7,.slice lp mL.length lc] 90 (0,0)):=(f4.block _ g1.out.2).trans O3.out;have k2:w4.cell? ⟨w.heap.size,2,N⟩=aa (.string m3):=by simp[ab,f5]
   have t7:Hid (w4.heap[H]?=aa (.cells #[.string m2,.string m1,.string ⟨#[]⟩,.string I,.int .i64 Z,.int .i64 J,.bool F,.slice N 0 0] 90 (0,0))):=m0;have a6:Hid (af O.heap.size O w4/\O.heap.size<=H/\H<w4.heap.size/\w.heap.size<H):=⟨f4,e7,b5,m8⟩;have p6:Hid (w4.heap[w.heap.size]?=aa (.cells #[.string m1,.string m2,.string m3,.string I,.int .i64 Z,.int .i64 J,.bool m7,.slice lp mL.length lc] 90 (0,0))):=f5;have t8:Hid (QB w4 hk (a8 ii) Lh sh):=z2.out.below f4;have t9:Hid (I.size<=aw):=by have:=s4.out.1.2.2.2;show I.size<=aw;unfold aw;dsimp only at this;omega
   rcases O2.out with hq|hq|hq
   ·obtain rfl:m3=⟨#[108,111,111,107]⟩:=hq;have u5:∀W,af H w4 W->QB W hk (a8 ii) Lh sh:=fun W hW=>t8.out.aS hW.size (fun k R1=>hW.block k (by have:=(e9.out k R1).2;omega))
    have i1:Hid (∀W,af H w4 W->(W.cell? ⟨w.heap.size,3,N⟩=aa (.string I)/\af H w4 W)):=fun W hW=>⟨(hW.cell (p:=⟨w.heap.size,3,N⟩) m8).trans (by simp[ab,f5]),hW⟩
    have H1:Hid (∀W,(W.cell? ⟨w.heap.size,3,N⟩=aa (.string I)/\af H w4 W)->Hid (W.heap[H]?=aa (.cells #[.string m2,.string m1,.string ⟨#[]⟩,.string I,.int .i64 Z,.int .i64 J,.bool F,.slice N 0 0] 90 (0,0)))->ap prog 85 #[.pointer (aa ⟨hk,0,N⟩)] W fun e w'=>e=.returned (.bool sh)/\(w'.cell? ⟨w.heap.size,3,N⟩=aa (.string I)/\af H w4 w')/\Hid (w'.heap[H]?=aa (.cells #[.string m2,.string m1,.string ⟨#[]⟩,.string I,.int .i64 Z,.int .i64 J,.bool F,.slice N 0 0] 90 (0,0)))):=fun W hW hz=>by
     obtain⟨_,_,_,_,hd⟩:=u5 W hW.2;refine(FD hd).mono fun e w' hq=>?_
     obtain⟨h1,h2⟩:=hq;subst h2;exact⟨h1,hW,hz⟩
    have n0:Hid (∀W,(W.cell? ⟨w.heap.size,3,N⟩=aa (.string I)/\af H w4 W)->Hid (W.heap[H]?=aa (.cells #[.string m2,.string m1,.string ⟨#[]⟩,.string I,.int .i64 Z,.int .i64 J,.bool F,.slice N 0 0] 90 (0,0)))->ap prog 86 #[.pointer (aa ⟨hk,0,N⟩),.string I] W fun e w'=>∃pv cv,e=.returned (.slice pv (Xc Lh I).length cv)/\(w'.cell? ⟨w.heap.size,3,N⟩=aa (.string I)/\af H w4 w')/\Hid (Zc Ze 142 w' w4.heap.size (.slice pv (Xc Lh I).length cv) (Xc Lh I)/\w'.heap[H]?=aa (.cells #[.string m2,.string m1,.string ⟨#[]⟩,.string I,.int .i64 Z,.int .i64 J,.bool F,.slice N 0 0] 90 (0,0)))/\w'.cell? ⟨H,2,N⟩=aa (.string ⟨#[]⟩)/\w'.cell? ⟨H,6,N⟩=aa (.bool F)/\w'.cell? ⟨H,7,N⟩=aa (.slice N 0 0)/\∀j,w'.frozen? ⟨H,j,N⟩=F):=fun W hW hz=>by
     obtain⟨_,_,_,_,hd⟩:=u5 W hW.2;refine(CN hd I t9.out).mono fun e w' hq=>?_
     obtain⟨⟨v,e1,e2⟩,e3⟩:=hq;obtain⟨pv,cv,rfl,_⟩:=e2.form;have n3:=(e3.block H (rE hz.out)).trans hz.out;exact⟨pv,cv,e1,i1.out w' (hW.2.trans (e3.mono (by have:=hW.2.size;have:=a6.out.2.2.1;omega))),⟨e2.base hW.2.size,n3⟩,by simp[ab,n3],by simp[ab,n3],by simp[ab,n3],fun j=>by simp[ak,n3]⟩
    clear f5 m0 f4 e7 b5 m8 u5;go_wp2;have R2:Hid (w4.drew.heap[H]?=aa (.cells #[.string m2,.string m1,.string ⟨#[]⟩,.string I,.int .i64 Z,.int .i64 J,.bool F,.slice N 0 0] 90 (0,0))):=t7.out;go_region_held3 (fun W=>(W.cell? ⟨w.heap.size,3,N⟩=aa (.string I)/\af H w4 W)) (first|assumption|exact i1.out _ bR.drew|exact i1.out _ (n4.2.setCell (p:=⟨H,2,N⟩) (ac H) _)|exact i1.out _ ((n4.2.setCell (p:=⟨H,2,N⟩) (ac H) _).setCell (p:=⟨H,6,N⟩) (ac H) _)|exact i1.out _ (((n4.2.setCell (p:=⟨H,2,N⟩) (ac H) _).setCell (p:=⟨H,6,N⟩) (ac H) _).setCell (p:=⟨H,7,N⟩) (ac H) _)) (first|(go_at_call 85;refine(H1.out _ (by assumption) (by assumption)).mono ?_;rintro e w5 ⟨rfl,H2,R5⟩)|(go_at_call 86;refine(n0.out _ (by assumption) (by assumption)).mono ?_;rintro e w6 ⟨pv,cv,rfl,n4,u6,o2,o6,o7,fz⟩))
    obtain⟨w8,a5⟩:=Xb (((w6.setCell ⟨H,2,N⟩ (.string ⟨#[116,111,108,100]⟩)).setCell ⟨H,6,N⟩ (.bool sh)).setCell ⟨H,7,N⟩ (.slice pv (Xc Lh I).length cv));have b3:w8.heap[H]?=aa (.cells #[.string m2,.string m1,.string ⟨#[116,111,108,100]⟩,.string I,.int .i64 Z,.int .i64 J,.bool sh,.slice pv (Xc Lh I).length cv] 90 (0,0)):=by rw[a5];exact Qc (Qc (Qc u6.out.2 2 _) 6 _) 7 _
    obtain⟨q0,q1,q2,q3,q4,q5,q6,q7⟩:=lF b3;have H3:af H w4 w8:=by rw[a5];exact(((n4.2.setCell (p:=⟨H,2,N⟩) (ac H) _).setCell (p:=⟨H,6,N⟩) (ac H) _).setCell (p:=⟨H,7,N⟩) (ac H) _)
    have g7:Zc Ze 142 w8 w4.heap.size (.slice pv (Xc Lh I).length cv) (Xc Lh I):=by rw[a5];exact Zc.jX (Zc.jX (Zc.jX u6.out.1 (b:=H) a6.out.2.2.1 2 _) (b:=H) a6.out.2.2.1 6 _) (b:=H) a6.out.2.2.1 7 _
    have d3:Hid (∀w9,w9=w8.alloc (.cells #[.string m2,.string m1,.string ⟨#[116,111,108,100]⟩,.string I,.int .i64 Z,.int .i64 J,.bool sh,.slice pv (Xc Lh I).length cv] 90)->Q1 w B h S m ⟨m1,m2,⟨#[108,111,111,107]⟩,I,Z,J,m7,mL⟩ (.returned (.slice (aa ⟨w8.heap.size,0,N⟩) 1 1)) w9):=fun w9 f6=>by
     have b8:=Zk f6;have u7:af O.heap.size O w8:=a6.out.1.trans (H3.mono a6.out.2.1);have H4:af O.heap.size O w9:=u7.trans (b8.mono u7.size);have V0:=a6.out.1.size;refine uZ (y:=(⟨m2,m1,pU,I,Z,J,sh,Xc Lh I⟩,(pv,(Xc Lh I).length,cv))) (t:=90) i0.out g0.out (H4.mono g0.out.size) (fun k hk=>H4.block k (i0.out.aO k hk).2) ?_ (Jbo (g7.kept b8)) u7.size (fun b o e=>?_) ?_
     ·rw[f6];show(w8.heap.push _)[w8.heap.size]?=_;simp;rfl
     ·have e':pv=aa ⟨b,o,N⟩:=e;have p9:=g7.block (k:=b) (by rw[e'];rfl);exact⟨by omega,ae p9.2 b8.size⟩
     ·rw[uO f9.out i8.out];show(match m.held J with|none=>(m,[])|some n5=>n5.cG (Yf m.L J) _)=_;rw[i9.out];show my.cG (Yf m.L J) _=_;unfold Je.cG;rw[if_pos (show(⟨m1,m2,⟨#[108,111,111,107]⟩,I,Z,J,m7,mL⟩:Zb).kind=ZW from rfl),s7.out,<-g2.out,<-z6.out];show(my,[(⟨my.name,m1,pU,I,Z,J,sh,Xc Lh I⟩:Zb)])=_;rw[p1.out,<-f9.out]
    have u8:Hid (w8=((w6.setCell ⟨H,2,N⟩ (.string ⟨#[116,111,108,100]⟩)).setCell ⟨H,6,N⟩ (.bool sh)).setCell ⟨H,7,N⟩ (.slice pv (Xc Lh I).length cv)):=a5;rw[<-u8.out];clear a5 b3 H3 g7 o2 o6 o7 fz H2 n4 R2 R5 u6 i1 H1 n0;go_wp2;go_ret;exact d3.out _ rfl
   ·obtain rfl:m3=⟨#[115,101,97,108]⟩:=hq;have H5:=VZ t8.out;clear f5 m0 f4 e7 b5 m8;go_wp2_with fail
    refine H5.mono ?_;rintro e w5 ⟨rfl,Sn,g8,a7⟩;clear H5 k2;have b5:=a6.out.2.2.1;have e7:=a6.out.2.1;have h4:¬a8 ii H:=fun hs=>by have:=(e9.out H hs).2;omega
    have n6:¬a8 ii w.heap.size:=fun hs=>g1.out.1 (e9.out _ hs).1
    have d4:=(a7.block H b5 h4).trans t7.out;have q9:=(a7.block w.heap.size (by have:=a6.out.2.2.2;omega) n6).trans p6.out;have n7:∀k,Sn k->k<w5.heap.size:=fun k hk=>by obtain⟨_,_,_,_,hd⟩:=g8;exact hd.dH k hk
    have n8:(my.put ii (Lh,T)).cH:=h6.out.kU p3.out (by rw[g2.out];exact h6.out.held ii) (by rw[g2.out];exact h6.out.names ii);have hT:=(i0.out.below a6.out.1).pI p3.out (L':=Lh) (s':=T) (by rw[z5.out];exact g8) a7 n7 n8;have f7:Hid (ZF w5 B h (fun k=>S2 k∨Sn k) (my.put ii (Lh,T)) s5 D2 d0 (fun j=>if j=ii then Sn else a8 j)):=hT.1;have r0:Hid (Yd S (fun k=>S2 k∨Sn k) w w5):=(g0.out.trans (Yd.aJ a6.out.1)).trans hT.2;have h5:Hid (H<w5.heap.size):=ae b5 a7.size;have u9:Hid (¬(S2 H∨Sn H)):=fun hs=>by
     rcases hs with hs|hs
     ·have:=(i0.out.aO H hs).2;omega
     ·rcases a7.new H hs with h1|h1
      ·exact h4 h1
      ·omega
    obtain⟨_,_,_,_,H6⟩:=g8;have n0:=CN H6 I t9.out;have k3:w5.cell? ⟨w.heap.size,3,N⟩=aa (.string I):=by simp[ab,q9]
    have r1:Hid (w5.heap[H]?=aa (.cells #[.string m2,.string m1,.string ⟨#[]⟩,.string I,.int .i64 Z,.int .i64 J,.bool F,.slice N 0 0] 90 (0,0))):=d4;clear H6 hT a7 n7 n8 h4 n6 d4 q9 b5 e7;go_wp2_with fail
    refine n0.mono ?_;rintro e w6 ⟨⟨v,rfl,v1⟩,r2⟩;obtain⟨pv,cv,rfl,_⟩:=v1.form;have n9:=(r2.block H h5.out).trans r1.out;have o2:w6.cell? ⟨H,2,N⟩=aa (.string ⟨#[]⟩):=by simp[ab,n9]
    have o7:w6.cell? ⟨H,7,N⟩=aa (.slice N 0 0):=by simp[ab,n9]
    have fz:∀j,w6.frozen? ⟨H,j,N⟩=false:=fun j=>by simp[ak,n9]
    obtain⟨w7,i2⟩:=Xb (w6.setCell ⟨H,2,N⟩ (.string ⟨#[115,101,97,108,101,100]⟩));obtain⟨w8,a5⟩:=Xb (w7.setCell ⟨H,7,N⟩ (.slice pv (Xc Lh I).length cv));have r3:w7.heap[H]?=aa (.cells #[.string m2,.string m1,.string ⟨#[115,101,97,108,101,100]⟩,.string I,.int .i64 Z,.int .i64 J,.bool F,.slice N 0 0] 90 (0,0)):=by rw[i2];exact Qc n9 2 _
    have b3:w8.heap[H]?=aa (.cells #[.string m2,.string m1,.string ⟨#[115,101,97,108,101,100]⟩,.string I,.int .i64 Z,.int .i64 J,.bool F,.slice pv (Xc Lh I).length cv] 90 (0,0)):=by rw[a5];exact Qc r3 7 _
    have p7:w7.cell? ⟨H,7,N⟩=aa (.slice N 0 0):=by simp[ab,r3]
    have V1:∀j,w7.frozen? ⟨H,j,N⟩=false:=fun j=>by simp[ak,r3]
    obtain⟨q0,q1,q2,q3,q4,q5,q6,q7⟩:=lF b3;have r4:∀k,k<w5.heap.size->k≠H->w8.heap[k]?=w5.heap[k]?:=fun k hk f8=>by rw[a5,ai _ _ _ _ f8,i2,ai _ _ _ _ f8];exact r2.block k hk
    have d6:af H w5 w8:=by rw[a5,i2];exact(((r2.mono (Nat.le_of_lt h5.out)).setCell (p:=⟨H,2,N⟩) (ac H) _).setCell (p:=⟨H,7,N⟩) (ac H) _)
    have g7:Zc Ze 142 w8 w5.heap.size (.slice pv (Xc Lh I).length cv) (Xc Lh I):=by rw[a5,i2];exact Zc.jX (Zc.jX v1 (b:=H) h5.out 2 _) (b:=H) h5.out 7 _
    have d3:Hid (∀w9,w9=w8.alloc (.cells #[.string m2,.string m1,.string ⟨#[115,101,97,108,101,100]⟩,.string I,.int .i64 Z,.int .i64 J,.bool F,.slice pv (Xc Lh I).length cv] 90)->Q1 w B h S m ⟨m1,m2,⟨#[115,101,97,108]⟩,I,Z,J,m7,mL⟩ (.returned (.slice (aa ⟨w8.heap.size,0,N⟩) 1 1)) w9):=fun w9 f6=>by
     have b8:=Zk f6;have v2:w.heap.size<=H:=by have:=a6.out.2.2.2;omega
     have v3:af w.heap.size w5 w9:=(d6.mono v2).trans (b8.mono (by have:=d6.size;have:=h5.out;omega));refine uZ (y:=(⟨m2,m1,o9,I,Z,J,F,Xc Lh I⟩,(pv,(Xc Lh I).length,cv))) (t:=90) f7.out r0.out v3 (fun k hk=>?_) ?_ (Jbo (g7.kept b8)) d6.size (fun b o e=>?_) ?_
     ·rw[b8.block k (by have:=(f7.out.aO k hk).2;have:=d6.size;omega)];exact r4 k (f7.out.aO k hk).2 (fun e=>u9.out (by rw[<-e];exact hk))
     ·rw[f6];show(w8.heap.push _)[w8.heap.size]?=_;simp;rfl
     ·have e':pv=aa ⟨b,o,N⟩:=e;have p9:=g7.block (k:=b) (by rw[e'];rfl);exact⟨p9.1,ae p9.2 b8.size⟩
     ·rw[uO f9.out i8.out];show(match m.held J with|none=>(m,[])|some n5=>n5.cG (Yf m.L J) _)=_;rw[i9.out];show my.cG (Yf m.L J) _=_;unfold Je.cG;rw[if_neg (show ¬(⟨m1,m2,⟨#[115,101,97,108]⟩,I,Z,J,m7,mL⟩:Zb).kind=ZW from(by decide:¬Q3=ZW)),if_pos (show(⟨m1,m2,⟨#[115,101,97,108]⟩,I,Z,J,m7,mL⟩:Zb).kind=Q3 from rfl),s7.out,<-g2.out];show(my.put ii (Lh,T),[(⟨my.name,m1,o9,I,Z,J,F,Xc Lh I⟩:Zb)])=_;rw[p1.out,<-f9.out]
    have S0:Hid (w7=w6.setCell ⟨H,2,N⟩ (.string ⟨#[115,101,97,108,101,100]⟩)):=i2;have u8:Hid (w8=w7.setCell ⟨H,7,N⟩ (.slice pv (Xc Lh I).length cv)):=a5;clear i2 a5 n9 r3 b3 d6 r4 g7 v1 r2 n0 k3;go_wp2_with (first|rw[<-S0.out]|rw[<-u8.out])
    go_ret;exact d3.out _ rfl
   ·obtain rfl:m3=⟨#[107,101,101,112]⟩:=hq;have hL:=O0.out;have i3:=i8.out;have hR:=s4.out;have d8:=O1.out;have S3:(⟨#[107,101,101,112]⟩:BA)=Y3:=rfl;have r5:mL.length=1:=by
     by_cases h1:mL.length=1
     ·exact h1
     ·exact absurd ⟨by exact(by decide:Y3≠ZW),by exact(by decide:Y3≠Q3),aq h1⟩ i3.2
    obtain⟨vb,vo,v4,H7,u0,u1,u2,u3,u4⟩:=QU hL.eC (i:=0) (by rw[r5];decide);simp only[ax,Nat.add_zero]at u0 u1 u2 u3 u4;have I0:¬S vb:=d8 vb vo v4;have v5:(Xd mL 0).text.size<=140737488351232:=hR.2.2 _ (List.mem_of_getElem? (Xx (by rw[r5];decide)));obtain⟨v0,v6⟩:=Xb (Xd mL 0);rw[<-v6]at u0 u1 u2 u3 u4 v5;have S5:Hid (v0=Xd mL 0):=v6;obtain⟨vn,vw,vs,va,vt⟩:=v0;dsimp only at u0 u1 u2 u3 u4 v5;have I1:Hid (∀W:World,W.heap[vb]?=w.heap[vb]?->W.cell? ⟨vb,vo,N⟩=aa (.int .i64 vn)/\W.cell? ⟨vb,vo+1,N⟩=aa (.int .i64 vw)/\W.cell? ⟨vb,vo+2,N⟩=aa (.int .i64 vs)/\W.cell? ⟨vb,vo+3,N⟩=aa (.int .i64 va)/\W.cell? ⟨vb,vo+4,N⟩=aa (.string vt)):=fun W hW=>⟨(aj (a:=⟨vb,vo,N⟩) hW).trans u0,(aj (a:=⟨vb,vo+1,N⟩) hW).trans u1,(aj (a:=⟨vb,vo+2,N⟩) hW).trans u2,(aj (a:=⟨vb,vo+3,N⟩) hW).trans u3,(aj (a:=⟨vb,vo+4,N⟩) hW).trans u4⟩
    have o1:Hid (¬S vb/\vb<w.heap.size):=⟨I0,H7⟩;have S7:Hid (vt.size<=aw):=by show vt.size<=aw;unfold aw;omega
    have r6:Hid (lp=aa ⟨vb,vo,N⟩/\mL.length=1):=⟨v4,r5⟩;clear r5 v4 H7 u0 u1 u2 u3 u4 I0 v5 v6 d8 hL i3 hR S3;have I2:w4.heap[vb]?=w.heap[vb]?:=(f4.block vb (by have:=o1.out.2;have:=g1.out.2;omega)).trans (g0.out.block vb o1.out.2 o1.out.1);have r7:Hid (∀W,Yd (a8 ii) (a8 ii) w4 W->kN W ad/\W.heap[vb]?=w.heap[vb]?/\W.heap[w.heap.size]?=w4.heap[w.heap.size]?/\W.heap[H]?=w4.heap[H]?):=fun W hW=>by
     have T1:∀k,k<w.heap.size->¬S k->¬a8 ii k:=fun k hk hs h2=>by
      rcases g0.out.new k (e9.out k h2).1 with h3|h3
      ·exact hs h3
      ·omega
     have I3:∀k,k<w.heap.size->¬S k->W.heap[k]?=w.heap[k]?:=fun k hk hs=>(hW.block k (by omega) (T1 k hk hs)).trans ((f4.block k (by have:=g1.out.2;omega)).trans (g0.out.block k hk hs))
     exact⟨HX.out W (by have:=hW.size;omega) I3,I3 vb o1.out.2 o1.out.1,hW.block _ (by omega) (fun hs=>g1.out.1 (e9.out _ hs).1),hW.block H b5 (fun hs=>by have:=(e9.out H hs).2;omega)⟩
    have L1:=(r7.out w4.drew (Yd.aJ bR.drew)).1.eZ;have L2:Hid (ap prog 87 #[.pointer (aa ⟨hk,0,N⟩),.string I,.agg #[.int .i64 vn,.int .i64 vw,.int .i64 vs,.int .i64 va,.string vt]] w4.drew fun e w'=>∃ev,e=.returned ev/\(w'.cell? ⟨w.heap.size,3,N⟩=aa (.string I)/\w'.cell? ⟨w.heap.size,7,N⟩=aa (.slice (aa ⟨vb,vo,N⟩) 1 lc)/\w'.cell? ⟨vb,vo,N⟩=aa (.int .i64 vn)/\w'.cell? ⟨vb,vo+1,N⟩=aa (.int .i64 vw)/\w'.cell? ⟨vb,vo+2,N⟩=aa (.int .i64 vs)/\w'.cell? ⟨vb,vo+3,N⟩=aa (.int .i64 va)/\w'.cell? ⟨vb,vo+4,N⟩=aa (.string vt))/\Hid (oJ ad ev (Qt Lh sh I ⟨vn,vw,vs,va,vt⟩).1/\∃Sn,QB w' hk Sn (Qt Lh sh I ⟨vn,vw,vs,va,vt⟩).2 sh/\Yd (a8 ii) Sn w4 w')):=by
     refine(WH (t8.out.below bR.drew) I ⟨vn,vw,vs,va,vt⟩ t9.out S7.out L1).mono fun e w' hq=>?_
     obtain⟨⟨ev,e1,e2⟩,Sn,e3,e4⟩:=hq;have hU:Yd (a8 ii) Sn w4 w':=(Yd.aJ bR.drew).trans e4;have hx:=r7.out w' ⟨hU.os,hU.tape,hU.output,hU.size,hU.block,fun k hk=>an hk⟩;refine⟨ev,e1,⟨?_,?_,I1.out w' hx.2.1⟩,e2,Sn,e3,hU⟩
     ·have:=hx.2.2.1.trans p6.out;simp[ab,this]
     ·have:=hx.2.2.1.trans p6.out;simp[ab,this,r6.out.1,r6.out.2]
    have T2:(w4.drew.cell? ⟨w.heap.size,3,N⟩=aa (.string I)/\w4.drew.cell? ⟨w.heap.size,7,N⟩=aa (.slice (aa ⟨vb,vo,N⟩) 1 lc)/\w4.drew.cell? ⟨vb,vo,N⟩=aa (.int .i64 vn)/\w4.drew.cell? ⟨vb,vo+1,N⟩=aa (.int .i64 vw)/\w4.drew.cell? ⟨vb,vo+2,N⟩=aa (.int .i64 vs)/\w4.drew.cell? ⟨vb,vo+3,N⟩=aa (.int .i64 va)/\w4.drew.cell? ⟨vb,vo+4,N⟩=aa (.string vt)):=⟨by show w4.cell? _=_;simp[ab,f5],by show w4.cell? _=_;simp[ab,f5,r6.out.1,r6.out.2],I1.out w4.drew I2⟩;clear f5 m0 f4 e7 b5 m8 I2 L1;go_wp2;go_cut [7]from 61 to 93 (fun v W=>∃ev,ev=v/\Hid (oJ ad ev (Qt Lh sh I ⟨vn,vw,vs,va,vt⟩).1/\∃Sn,QB W hk Sn (Qt Lh sh I ⟨vn,vw,vs,va,vt⟩).2 sh/\Yd (a8 ii) Sn w4 W))
    case first =>
     go_region_held3 (fun W=>(W.cell? ⟨w.heap.size,3,N⟩=aa (.string I)/\W.cell? ⟨w.heap.size,7,N⟩=aa (.slice (aa ⟨vb,vo,N⟩) 1 lc)/\W.cell? ⟨vb,vo,N⟩=aa (.int .i64 vn)/\W.cell? ⟨vb,vo+1,N⟩=aa (.int .i64 vw)/\W.cell? ⟨vb,vo+2,N⟩=aa (.int .i64 vs)/\W.cell? ⟨vb,vo+3,N⟩=aa (.int .i64 va)/\W.cell? ⟨vb,vo+4,N⟩=aa (.string vt))) (first|assumption) (first|(go_at_call 87;refine L2.out.mono ?_;rintro e w5 ⟨ev,rfl,H2,r8⟩))
     all_goals (go_wp2_with fail;go_meet)
     all_goals exact⟨_,rfl,r8⟩
    case rest =>
    clear T2 L2 k2;obtain⟨w5,rfl⟩:=Xb wc;obtain⟨ev,hv,r8⟩:=hcut;subst hv;obtain⟨i4,Sn,g8,a7⟩:=r8.out;clear r8;have v7:=r7.out w5 ⟨a7.os,a7.tape,a7.output,a7.size,a7.block,fun k hk=>an hk⟩;have v8:Hid (kN w5 ad):=v7.1;have g9:=v7.1.eZ.c9;clear v7 r7;have b5:=a6.out.2.2.1;have e7:=a6.out.2.1;have h4:¬a8 ii H:=fun hs=>by have:=(e9.out H hs).2;omega
    have n6:¬a8 ii w.heap.size:=fun hs=>g1.out.1 (e9.out _ hs).1
    have d4:=(a7.block H b5 h4).trans t7.out;have q9:=(a7.block w.heap.size (by have:=a6.out.2.2.2;omega) n6).trans p6.out;have n7:∀k,Sn k->k<w5.heap.size:=fun k hk=>by obtain⟨_,_,_,_,hd⟩:=g8;exact hd.dH k hk
    have n8:(my.put ii ((Qt Lh sh I ⟨vn,vw,vs,va,vt⟩).2,sh)).cH:=by
     have ha:=FY (L:=Lh) (s:=sh) (key:=I) (v:=⟨vn,vw,vs,va,vt⟩) (by rw[g2.out];exact h6.out.held ii) (by rw[g2.out];exact h6.out.names ii) i8.out.1.2;exact h6.out.kU p3.out ha.1 ha.2
    have hT:=(i0.out.below a6.out.1).pI p3.out (L':=(Qt Lh sh I ⟨vn,vw,vs,va,vt⟩).2) (s':=sh) (by rw[z5.out];exact g8) a7 n7 n8;have f7:Hid (ZF w5 B h (fun k=>S2 k∨Sn k) (my.put ii ((Qt Lh sh I ⟨vn,vw,vs,va,vt⟩).2,sh)) s5 D2 d0 (fun j=>if j=ii then Sn else a8 j)):=hT.1;have r0:Hid (Yd S (fun k=>S2 k∨Sn k) w w5):=(g0.out.trans (Yd.aJ a6.out.1)).trans hT.2;have h5:Hid (H<w5.heap.size):=ae b5 a7.size;have u9:Hid (¬(S2 H∨Sn H)):=fun hs=>by
     rcases hs with hs|hs
     ·have:=(i0.out.aO H hs).2;omega
     ·rcases a7.new H hs with h1|h1
      ·exact h4 h1
      ·omega
    have r1:Hid (w5.heap[H]?=aa (.cells #[.string m2,.string m1,.string ⟨#[]⟩,.string I,.int .i64 Z,.int .i64 J,.bool F,.slice N 0 0] 90 (0,0))):=d4;have r9:Hid (m.aD (⟨m1,m2,⟨#[107,101,101,112]⟩,I,Z,J,m7,mL⟩:Zb)=(my.put ii ((Qt Lh sh I ⟨vn,vw,vs,va,vt⟩).2,sh),if 0<(Qt Lh sh I ⟨vn,vw,vs,va,vt⟩).1/\(Qt Lh sh I ⟨vn,vw,vs,va,vt⟩).1≠10 then []else [⟨m2,m1,nK,I,Z,J,decide (0<(Qt Lh sh I ⟨vn,vw,vs,va,vt⟩).1),[]⟩])):=by
     show _=_;rw[uO f9.out i8.out];show(match m.held J with|none=>(m,[])|some n5=>n5.cG (Yf m.L J) _)=_;rw[i9.out];show my.cG (Yf m.L J) _=_;unfold Je.cG;rw[if_neg (show ¬(⟨m1,m2,⟨#[107,101,101,112]⟩,I,Z,J,m7,mL⟩:Zb).kind=ZW from(by decide:¬Y3=ZW)),if_neg (show ¬(⟨m1,m2,⟨#[107,101,101,112]⟩,I,Z,J,m7,mL⟩:Zb).kind=Q3 from(by decide:¬Y3=Q3)),s7.out,<-g2.out,<-z6.out,<-S5.out];show(my.put ii ((Qt Lh sh I ⟨vn,vw,vs,va,vt⟩).2,sh),if 0<(Qt Lh sh I ⟨vn,vw,vs,va,vt⟩).1/\(Qt Lh sh I ⟨vn,vw,vs,va,vt⟩).1≠10 then []else [(⟨my.name,m1,nK,I,Z,J,decide (0<(Qt Lh sh I ⟨vn,vw,vs,va,vt⟩).1),[]⟩:Zb)])=_;rw[p1.out,<-f9.out]
    have v9:=M9 Lh sh I ⟨vn,vw,vs,va,vt⟩;clear hT a7 n7 n8 h4 n6 q9 b5 e7 g8;generalize (Qt Lh sh I ⟨vn,vw,vs,va,vt⟩)=P at *;obtain⟨pc,pL⟩:=P;dsimp only at *;by_cases o3:0<pc/\pc≠10
    ·rw[if_pos o3]at r9;obtain⟨i,hi,rfl⟩:∃i,(i=1∨i=3∨i=5∨i=6)/\ev=.iface 287 (.pointer (aa (ad i))):=by
      rcases i4 with⟨_,h1⟩|⟨i,_,h1,h2⟩
      ·omega
      ·exact⟨i,by omega,h1⟩
     obtain⟨ca,ta,ha⟩:=v8.out.row i (by omega);obtain⟨cb,tb,L3⟩:=v8.out.row 9 (by omega);obtain⟨n1,n2⟩:=Jqc (v8.out.ne i hi) ha L3;have o4:Hid (Q1 w B h S m (⟨m1,m2,⟨#[107,101,101,112]⟩,I,Z,J,m7,mL⟩:Zb) (.returned (.slice N 0 0)) w5):=tD f7.out r0.out r9.out;clear ha L3 d4 hi i4 v9 o3;go_wp2;go_ret;exact o4.out
    ·rw[if_neg o3]at r9;have o2:w5.cell? ⟨H,2,N⟩=aa (.string ⟨#[]⟩):=by simp[ab,d4]
     have o6:w5.cell? ⟨H,6,N⟩=aa (.bool F):=by simp[ab,d4]
     have fz:∀j,w5.frozen? ⟨H,j,N⟩=false:=fun j=>by simp[ak,d4]
     have w0:8 <H:=by have:=ZD (HX.out w nR (fun _ _ _=>rfl)).eZ.c9;have:=a6.out.2.2.2;omega
     have b4:Hid (∀W,af H w5 W->(W.cell? ⟨8,0,N⟩=aa (.iface 287 (.pointer (aa (ad 9))))/\af H w5 W)):=fun W hW=>⟨(hW.cell (p:=⟨8,0,N⟩) w0).trans g9,hW⟩
     have d3:Hid (∀w8,Hid (w8.heap[H]?=aa (.cells #[.string m2,.string m1,.string ⟨#[107,101,112,116]⟩,.string I,.int .i64 Z,.int .i64 J,.bool (decide (0<pc)),.slice N 0 0] 90 (0,0))/\(∀k,k<w5.heap.size->k≠H->w8.heap[k]?=w5.heap[k]?)/\af H w5 w8)->∀w9,w9=w8.alloc (.cells #[.string m2,.string m1,.string ⟨#[107,101,112,116]⟩,.string I,.int .i64 Z,.int .i64 J,.bool (decide (0<pc)),.slice N 0 0] 90)->Q1 w B h S m (⟨m1,m2,⟨#[107,101,101,112]⟩,I,Z,J,m7,mL⟩:Zb) (.returned (.slice (aa ⟨w8.heap.size,0,N⟩) 1 1)) w9):=fun w8 a5 w9 f6=>by
      obtain⟨b3,r4,d6⟩:=a5.out;have b8:=Zk f6;have v2:w.heap.size<=H:=by have:=a6.out.2.2.2;omega
      have v3:af w.heap.size w5 w9:=(d6.mono v2).trans (b8.mono (by have:=d6.size;have:=h5.out;omega));refine uZ (y:=(⟨m2,m1,nK,I,Z,J,decide (0<pc),[]⟩,(N,0,0))) (t:=90) f7.out r0.out v3 (fun k hk=>?_) ?_ ⟨rfl,an rfl,ac _,fun _=>⟨rfl,rfl⟩⟩ d6.size (fun b o e=>by cases e) r9.out
      ·rw[b8.block k (by have:=(f7.out.aO k hk).2;have:=d6.size;omega)];exact r4 k (f7.out.aO k hk).2 (fun e=>u9.out (by rw[<-e];exact hk))
      ·rw[f6];show(w8.heap.push _)[w8.heap.size]?=_;simp;rfl
     by_cases h0:pc=0
     ·obtain rfl:ev=.nilIface:=by
       rcases i4 with⟨h1,_⟩|⟨i,_,h1,h2⟩
       ·exact h1
       ·omega
      have n1:∀W,(binOp .eql 28 .nilIface (.iface 287 (.pointer (aa (ad 9))))).run prog W=.ok (.bool F) W:=fun W=>Jtd _ _ W
      have x0:Hid (decide (0<pc)=F):=by show _=_;exact decide_eq_false (by omega)
      rw[x0.out]at d3;clear d4 i4 v9 o3 h0 w0;go_wp2;go_region_held3 (fun W=>(W.cell? ⟨8,0,N⟩=aa (.iface 287 (.pointer (aa (ad 9))))/\af H w5 W)) (first|assumption|exact b4.out _ bR.drew|exact b4.out _ bR|exact b4.out _ ((Below.refl H w5).setCell (p:=⟨H,2,N⟩) (ac H) _)|exact b4.out _ ((Below.refl H w5).setCell (p:=⟨H,2,N⟩) (ac H) _).drew|exact b4.out _ (((Below.refl H w5).setCell (p:=⟨H,2,N⟩) (ac H) _).setCell (p:=⟨H,6,N⟩) (ac H) _)|exact b4.out _ (((Below.refl H w5).setCell (p:=⟨H,2,N⟩) (ac H) _).setCell (p:=⟨H,6,N⟩) (ac H) _).drew) (fail)
      obtain⟨w8,a5⟩:=Xb (((w5.setCell ⟨H,2,N⟩ (.string ⟨#[107,101,112,116]⟩)).setCell ⟨H,6,N⟩ (.bool F)).drew);rw[<-a5];have b3:w8.heap[H]?=aa (.cells #[.string m2,.string m1,.string ⟨#[107,101,112,116]⟩,.string I,.int .i64 Z,.int .i64 J,.bool F,.slice N 0 0] 90 (0,0)):=by rw[a5];exact Qc (Qc r1.out 2 _) 6 _
      obtain⟨q0,q1,q2,q3,q4,q5,q6,q7⟩:=lF b3;have o4:Hid (∀w9,w9=w8.alloc (.cells #[.string m2,.string m1,.string ⟨#[107,101,112,116]⟩,.string I,.int .i64 Z,.int .i64 J,.bool F,.slice N 0 0] 90)->Q1 w B h S m (⟨m1,m2,⟨#[107,101,101,112]⟩,I,Z,J,m7,mL⟩:Zb) (.returned (.slice (aa ⟨w8.heap.size,0,N⟩) 1 1)) w9):=d3.out w8 ⟨b3,fun k _ f8=>by rw[a5];exact(ai _ _ _ _ f8).trans (ai _ _ _ _ f8),by rw[a5];exact(((aC H w5).setCell (p:=⟨H,2,N⟩) (ac H) _).setCell (p:=⟨H,6,N⟩) (ac H) _).drew⟩;clear a5 b3 d3 b4 n1 o2 o6 fz g9;go_wp2;go_ret;exact o4.out _ rfl
     ·obtain rfl:ev=.iface 287 (.pointer (aa (ad 9))):=by
       rcases i4 with⟨h1,_⟩|⟨i,_,h1,h2⟩
       ·omega
       ·obtain rfl:i=9:=by omega
        exact h1
      have n1:∀W,(binOp .eql 28 (.iface 287 (.pointer (aa (ad 9)))) (.iface 287 (.pointer (aa (ad 9))))).run prog W=.ok (.bool T) W:=fun W=>(AH (ad 9) W).1
      have n2:∀W,(binOp .neq 28 (.iface 287 (.pointer (aa (ad 9)))) (.iface 287 (.pointer (aa (ad 9))))).run prog W=.ok (.bool F) W:=fun W=>(AH (ad 9) W).2
      have x0:Hid (decide (0<pc)=T):=by show _=_;exact decide_eq_true (by omega)
      rw[x0.out]at d3;clear d4 i4 v9 o3 h0 w0;go_wp2;go_region_held3 (fun W=>(W.cell? ⟨8,0,N⟩=aa (.iface 287 (.pointer (aa (ad 9))))/\af H w5 W)) (first|assumption|exact b4.out _ bR.drew|exact b4.out _ bR|exact b4.out _ ((Below.refl H w5).setCell (p:=⟨H,2,N⟩) (ac H) _)|exact b4.out _ ((Below.refl H w5).setCell (p:=⟨H,2,N⟩) (ac H) _).drew|exact b4.out _ (((Below.refl H w5).setCell (p:=⟨H,2,N⟩) (ac H) _).setCell (p:=⟨H,6,N⟩) (ac H) _)|exact b4.out _ (((Below.refl H w5).setCell (p:=⟨H,2,N⟩) (ac H) _).setCell (p:=⟨H,6,N⟩) (ac H) _).drew) (fail)
      obtain⟨w8,a5⟩:=Xb (((w5.setCell ⟨H,2,N⟩ (.string ⟨#[107,101,112,116]⟩)).setCell ⟨H,6,N⟩ (.bool T)).drew);rw[<-a5];have b3:w8.heap[H]?=aa (.cells #[.string m2,.string m1,.string ⟨#[107,101,112,116]⟩,.string I,.int .i64 Z,.int .i64 J,.bool T,.slice N 0 0] 90 (0,0)):=by rw[a5];exact Qc (Qc r1.out 2 _) 6 _
      obtain⟨q0,q1,q2,q3,q4,q5,q6,q7⟩:=lF b3;have o4:Hid (∀w9,w9=w8.alloc (.cells #[.string m2,.string m1,.string ⟨#[107,101,112,116]⟩,.string I,.int .i64 Z,.int .i64 J,.bool T,.slice N 0 0] 90)->Q1 w B h S m (⟨m1,m2,⟨#[107,101,101,112]⟩,I,Z,J,m7,mL⟩:Zb) (.returned (.slice (aa ⟨w8.heap.size,0,N⟩) 1 1)) w9):=d3.out w8 ⟨b3,fun k _ f8=>by rw[a5];exact(ai _ _ _ _ f8).trans (ai _ _ _ _ f8),by rw[a5];exact(((aC H w5).setCell (p:=⟨H,2,N⟩) (ac H) _).setCell (p:=⟨H,6,N⟩) (ac H) _).drew⟩;clear a5 b3 d3 b4 n1 n2 o2 o6 fz g9;go_wp2;go_ret;exact o4.out _ rfl
end
section
variable {w:World} {B h:Nat} {S:Nat->Prop} {m:Je} {mp:Option Nat} {D:DataW Value} {hb:Nat->Nat} {Sh:Nat->Nat->Prop}
theorem VS (J:ZF w B h S m mp D hb Sh)(x:Zb×Lv)(K:Jn w x)(a0:∀b o,x.2.1=aa ⟨b,o,N⟩->¬S b)(O:pR x.1)(Z:YQ x.1.config)(hX:∀W:World,w.heap.size<=W.heap.size->(∀k,k<w.heap.size->¬S k->W.heap[k]?=w.heap[k]?)->kN W ad):
 ap prog 63 #[.pointer (aa ⟨h,0,N⟩),.agg #[.string x.1.from_,.string x.1.aP,.string x.1.kind,.string x.1.key,.int .i64 x.1.op,.int .i64 x.1.config,.bool x.1.shut,.slice x.2.1 x.2.2.1 x.2.2.2]] w fun e w'=>Q1 w B h S m x.1 e w':=by
 by_cases H:x.1.aP=m.name
 ·by_cases I:iN x.1
  ·cases U:m.held x.1.config with
   |none=>exact TE J x K O Z H I U
   |some my =>
    by_cases h1:x.1.kind=ZW
    ·exact zK J x K O Z H I (an h1) U a0 hX
    ·by_cases h2:x.1.kind=Q3
     ·exact zK J x K O Z H I (aq (an h2)) U a0 hX
     ·by_cases h3:x.1.kind=Y3
      ·exact zK J x K O Z H I (aq (aq h3)) U a0 hX
      ·exact absurd ⟨h1,h2,an h3⟩ I.2
  ·exact VJ J x K O H I
 ·exact Jbq J x K H
end
end Go.Proofs.YtgapmoniajcliaaGreatDoor
