/- Texts laid together. -/
import Derived.Test.YtflpelnbjekjbaaGreatDoorZ15
set_option maxRecDepth 10000
set_option maxHeartbeats 40000000
open Option renaming none->N,some->aa
open Nat renaming le_refl->ab,lt_of_lt_of_le->ae,lt_succ_self->al
open Go.World renaming cell?->ac,cell?_of_block->aj,frozen?->ak
open Go.AllReadyH renaming nil->af,cons->ao
open Go.RowKit renaming Below->ag
open Bool renaming false->F,true->T
open Go.Act renaming put->ah
open Go.RowKit.Below renaming heap_setCell->ai,refl->ax
open Array renaming size_push->am
namespace Go.Proofs.YtflpelnbjekjbaaGreatDoor
open Go.Proofs.Tryz
open Go.RowKit
variable {ad:Nat->Addr}
section
variable {w:World} {B h:Nat} {S:Nat->Prop} {m:Je} {mp:Option Nat} {D:DataW Value} {hb:Nat->Nat} {Sh:Nat->Nat->Prop}
theorem zK (hp:ZF w B h S m mp D hb Sh)(x:Zb×Lv)(hL:Jn w x)(hR:pR x.1)(x2:YQ x.1.config)(x3:x.1.aP=m.name)(i4:iN x.1)(R2:x.1.kind=ZW∨x.1.kind=Q3∨x.1.kind=Y3){my:Je}(s2:m.held x.1.config=aa my)(d9:∀b o,x.2.1=aa ⟨b,o,N⟩->¬S b)(hX:∀W:World,w.heap.size<=W.heap.size->(∀k,k<w.heap.size->¬S k->W.heap[k]?=w.heap[k]?)->kN W ad):
 Calls prog 72 #[.pointer (aa ⟨h,0,N⟩),.agg #[.string x.1.from_,.string x.1.aP,.string x.1.kind,.string x.1.key,.int .i64 x.1.op,.int .i64 x.1.config,.bool x.1.shut,.slice x.2.1 x.2.2.1 x.2.2.2]] w fun e w'=>Q1 w B h S m x.1 e w':=by
 obtain⟨⟨m1,m2,m3,I,Z,J,m7,mL⟩,lp,ln,lc⟩:=x;have S0:ln=mL.length:=hL.len;subst S0;dsimp only at *;obtain⟨w1,i8⟩:=Xb (w.alloc (.cells #[.string m1,.string m2,.string m3,.string I,.int .i64 Z,.int .i64 J,.bool m7,.slice lp mL.length lc] 81));have s3:=Zk i8;have x4:=QT i8;have d8:w.heap.size<w1.heap.size:=by omega
 have d0:=JH i8;have s4:Hid (ZF w1 B h S m mp D hb Sh):=hp.below s3;have x5:Hid (∀k,S k->k<w.heap.size):=fun k hk=>(hp.aO k hk).2
 have x6:h<w1.heap.size:=by have:=hp.lt;omega
 have c0:=s4.out.cells.1;rw[<-x3]at c0;have p0:Hid (∀W,ag w1.heap.size w1 W->(W.cell? ⟨h,0,N⟩=aa (.string m2)/\W.cell? ⟨w.heap.size,0,N⟩=aa (.string m1)/\W.cell? ⟨w.heap.size,1,N⟩=aa (.string m2)/\W.cell? ⟨w.heap.size,2,N⟩=aa (.string m3)/\W.cell? ⟨w.heap.size,3,N⟩=aa (.string I)/\W.cell? ⟨w.heap.size,4,N⟩=aa (.int .i64 Z)/\W.cell? ⟨w.heap.size,5,N⟩=aa (.int .i64 J)/\W.cell? ⟨w.heap.size,6,N⟩=aa (.bool m7)/\W.cell? ⟨w.heap.size,7,N⟩=aa (.slice lp mL.length lc)/\ag w1.heap.size w1 W)):=fun W hW=>⟨(hW.cell (p:=⟨h,0,N⟩) x6).trans c0,(hW.cell (p:=⟨w.heap.size,0,N⟩) d8).trans (by simp[ac,d0]),(hW.cell (p:=⟨w.heap.size,1,N⟩) d8).trans (by simp[ac,d0]),(hW.cell (p:=⟨w.heap.size,2,N⟩) d8).trans (by simp[ac,d0]),(hW.cell (p:=⟨w.heap.size,3,N⟩) d8).trans (by simp[ac,d0]),(hW.cell (p:=⟨w.heap.size,4,N⟩) d8).trans (by simp[ac,d0]),(hW.cell (p:=⟨w.heap.size,5,N⟩) d8).trans (by simp[ac,d0]),(hW.cell (p:=⟨w.heap.size,6,N⟩) d8).trans (by simp[ac,d0]),(hW.cell (p:=⟨w.heap.size,7,N⟩) d8).trans (by simp[ac,d0]),hW⟩
 have x7:Hid (∀W,(W.cell? ⟨h,0,N⟩=aa (.string m2)/\W.cell? ⟨w.heap.size,0,N⟩=aa (.string m1)/\W.cell? ⟨w.heap.size,1,N⟩=aa (.string m2)/\W.cell? ⟨w.heap.size,2,N⟩=aa (.string m3)/\W.cell? ⟨w.heap.size,3,N⟩=aa (.string I)/\W.cell? ⟨w.heap.size,4,N⟩=aa (.int .i64 Z)/\W.cell? ⟨w.heap.size,5,N⟩=aa (.int .i64 J)/\W.cell? ⟨w.heap.size,6,N⟩=aa (.bool m7)/\W.cell? ⟨w.heap.size,7,N⟩=aa (.slice lp mL.length lc)/\ag w1.heap.size w1 W)->Calls prog 92 #[.agg #[.string m1,.string m2,.string m3,.string I,.int .i64 Z,.int .i64 J,.bool m7,.slice lp mL.length lc]] W fun e w'=>e=.returned (.bool T)/\(w'.cell? ⟨h,0,N⟩=aa (.string m2)/\w'.cell? ⟨w.heap.size,0,N⟩=aa (.string m1)/\w'.cell? ⟨w.heap.size,1,N⟩=aa (.string m2)/\w'.cell? ⟨w.heap.size,2,N⟩=aa (.string m3)/\w'.cell? ⟨w.heap.size,3,N⟩=aa (.string I)/\w'.cell? ⟨w.heap.size,4,N⟩=aa (.int .i64 Z)/\w'.cell? ⟨w.heap.size,5,N⟩=aa (.int .i64 J)/\w'.cell? ⟨w.heap.size,6,N⟩=aa (.bool m7)/\w'.cell? ⟨w.heap.size,7,N⟩=aa (.slice lp mL.length lc)/\ag w1.heap.size w1 w')):=fun W hW=>(vY (⟨m1,m2,m3,I,Z,J,m7,mL⟩,(lp,mL.length,lc)) rfl hR.2.1 W).mono fun e w' hq=>⟨by rw[hq.1,decide_eq_true i4],p0.out w' (hW.2.2.2.2.2.2.2.2.2.trans (hq.2.mono hW.2.2.2.2.2.2.2.2.2.size))⟩
 have x8:Hid (w1.heap[w.heap.size]?=aa (.cells #[.string m1,.string m2,.string m3,.string I,.int .i64 Z,.int .i64 J,.bool m7,.slice lp mL.length lc] 81 (0,0))):=d0;have y8:Hid (w1=w.alloc (.cells #[.string m1,.string m2,.string m3,.string I,.int .i64 Z,.int .i64 J,.bool m7,.slice lp mL.length lc] 81)):=i8;have p1:Hid (ag w.heap.size w w1/\w1.heap.size=w.heap.size+1):=⟨s3,x4⟩;have g0:Hid (m2=m.name):=x3;have S3:Hid (YQ J):=x2;have i9:Hid (iN ⟨m1,m2,m3,I,Z,J,m7,mL⟩):=i4;have j1:Hid (m.held J=aa my):=s2;have p2:Hid (my.name=m.name):=G0 s2;have s5:Hid (pR ⟨m1,m2,m3,I,Z,J,m7,mL⟩):=hR;have h7:Hid my.cH:=(hp.aN.iD x2 s2).1;have S5:Hid (Jn w (⟨m1,m2,m3,I,Z,J,m7,mL⟩,lp,mL.length,lc)):=hL;have T1:Hid (∀b o,lp=aa ⟨b,o,N⟩->¬S b):=d9;have HX:Hid (∀W:World,w.heap.size<=W.heap.size->(∀k,k<w.heap.size->¬S k->W.heap[k]?=w.heap[k]?)->kN W ad):=hX;have T2:Hid (m3=ZW∨m3=Q3∨m3=Y3):=R2;clear hp hL hR x2 x3 i4 s2 i8 s3 x4 d8 d0 x6 c0 d9 hX R2;go_enter func72,ntmps72;go_wp2_with (rw[<-y8.out])
 go_cut [23]from 8 to 93 (fun v W=>v=.bool F/\(W.cell? ⟨h,0,N⟩=aa (.string m2)/\W.cell? ⟨w.heap.size,0,N⟩=aa (.string m1)/\W.cell? ⟨w.heap.size,1,N⟩=aa (.string m2)/\W.cell? ⟨w.heap.size,2,N⟩=aa (.string m3)/\W.cell? ⟨w.heap.size,3,N⟩=aa (.string I)/\W.cell? ⟨w.heap.size,4,N⟩=aa (.int .i64 Z)/\W.cell? ⟨w.heap.size,5,N⟩=aa (.int .i64 J)/\W.cell? ⟨w.heap.size,6,N⟩=aa (.bool m7)/\W.cell? ⟨w.heap.size,7,N⟩=aa (.slice lp mL.length lc)/\ag w1.heap.size w1 W))
 case first =>
  go_region_held3 (fun W=>(W.cell? ⟨h,0,N⟩=aa (.string m2)/\W.cell? ⟨w.heap.size,0,N⟩=aa (.string m1)/\W.cell? ⟨w.heap.size,1,N⟩=aa (.string m2)/\W.cell? ⟨w.heap.size,2,N⟩=aa (.string m3)/\W.cell? ⟨w.heap.size,3,N⟩=aa (.string I)/\W.cell? ⟨w.heap.size,4,N⟩=aa (.int .i64 Z)/\W.cell? ⟨w.heap.size,5,N⟩=aa (.int .i64 J)/\W.cell? ⟨w.heap.size,6,N⟩=aa (.bool m7)/\W.cell? ⟨w.heap.size,7,N⟩=aa (.slice lp mL.length lc)/\ag w1.heap.size w1 W)) (first|assumption|exact p0.out _ bR.drew|exact p0.out _ bR) (first|(go_at_call 92;refine(x7.out _ (by assumption)).mono ?_;rintro e w2 ⟨rfl,z0⟩))
  all_goals (go_wp2_with fail;go_meet)
  all_goals exact⟨rfl,by assumption⟩
 case rest =>
  obtain⟨rfl,z0⟩:=hcut;obtain⟨w2,rfl⟩:=Xb wc;obtain⟨_,_,_,_,_,_,d5,_,_,d1⟩:=z0;have z1:=CJ (s4.out.below d1) S3.out;have p3:Hid (ag w1.heap.size w1 w2):=d1;clear d1 x7 p0 y8;go_wp2_with fail
  refine z1.mono ?_;intro e O hH;clear z1 d5;rcases hH with⟨h9,_⟩|⟨m9,S2,s6,D2,d1,a9,h9,rfl,j2,e9,k0⟩
  ·rw[j1.out]at h9;cases h9
  obtain rfl:my=m9:=by rw[j1.out]at h9;exact Option.some.inj h9
  clear h9;have d9:¬S w.heap.size:=fun hs=>by have:=x5.out _ hs;omega
  have s7:w.heap.size<w2.heap.size:=by have:=p3.out.size;have:=p1.out.2;omega
  have h8:O.heap[w.heap.size]?=aa (.cells #[.string m1,.string m2,.string m3,.string I,.int .i64 Z,.int .i64 J,.bool m7,.slice lp mL.length lc] 81 (0,0)):=(k0.block _ s7 d9).trans ((p3.out.block _ (by have:=p1.out.2;omega)).trans x8.out);have i0:w.heap.size<O.heap.size:=ae s7 k0.size;have z2:h<O.heap.size:=e9.lt;have c0:=e9.cells.1;rw[p2.out,<-g0.out]at c0;have b7:Hid (∀W,ag O.heap.size O W->(W.cell? ⟨h,0,N⟩=aa (.string m2)/\W.cell? ⟨w.heap.size,0,N⟩=aa (.string m1)/\W.cell? ⟨w.heap.size,3,N⟩=aa (.string I)/\W.cell? ⟨w.heap.size,4,N⟩=aa (.int .i64 Z)/\W.cell? ⟨w.heap.size,5,N⟩=aa (.int .i64 J)/\ag O.heap.size O W)):=fun W hW=>⟨(hW.cell (p:=⟨h,0,N⟩) z2).trans c0,(hW.cell (p:=⟨w.heap.size,0,N⟩) i0).trans (by simp[ac,h8]),(hW.cell (p:=⟨w.heap.size,3,N⟩) i0).trans (by simp[ac,h8]),(hW.cell (p:=⟨w.heap.size,4,N⟩) i0).trans (by simp[ac,h8]),(hW.cell (p:=⟨w.heap.size,5,N⟩) i0).trans (by simp[ac,h8]),hW⟩
  have g1:Hid (Yd S S2 w O):=(Yd.aJ (p1.out.1.trans (p3.out.mono p1.out.1.size))).trans k0;have i1:Hid (ZF O B h S2 my s6 D2 d1 a9):=e9;have p4:Hid (Yf m.L J<my.L.length):=j2;have U1:Hid (O.heap[w.heap.size]?=aa (.cells #[.string m1,.string m2,.string m3,.string I,.int .i64 Z,.int .i64 J,.bool m7,.slice lp mL.length lc] 81 (0,0))):=h8;have g2:Hid (¬S2 w.heap.size/\w.heap.size<O.heap.size):=⟨fun hs=>(k0.new _ hs).elim d9 (by omega),i0⟩;have z3:Hid (QB O (d1 (Yf m.L J)) (a9 (Yf m.L J)) (Zg my.L (Yf m.L J)).2.1 (Zg my.L (Yf m.L J)).2.2):=e9.hold _ j2;have f3:Hid (∀k,a9 (Yf m.L J) k->S2 k/\k<O.heap.size):=fun k hk=>⟨(e9.sub _ j2 k hk).1,(e9.aO k (e9.sub _ j2 k hk).1).2⟩
  clear k0 e9 j2 h8 d9 s7 i0 z2 c0 s4 x8 p3 x5;generalize z4:Yf m.L J=ii at *;have s8:Hid (Yf m.L J=ii):=z4;generalize z5:d1 ii=hk at *;have z6:Hid (d1 ii=hk):=z5;obtain⟨Lh,s9⟩:=Xb ((Zg my.L ii).2.1);obtain⟨sh,t0⟩:=Xb ((Zg my.L ii).2.2);rw[<-s9,<-t0]at z3;have g3:Hid (Lh=(Zg my.L ii).2.1):=s9;have z7:Hid (sh=(Zg my.L ii).2.2):=t0;have d2:Hid (∀(t:BA) W,t.size<=140737488351232->(W.cell? ⟨h,0,N⟩=aa (.string m2)/\W.cell? ⟨w.heap.size,0,N⟩=aa (.string m1)/\W.cell? ⟨w.heap.size,3,N⟩=aa (.string I)/\W.cell? ⟨w.heap.size,4,N⟩=aa (.int .i64 Z)/\W.cell? ⟨w.heap.size,5,N⟩=aa (.int .i64 J)/\ag O.heap.size O W)->Calls prog 28 #[.string t] W fun e w'=>e=.returned (.string t)/\(w'.cell? ⟨h,0,N⟩=aa (.string m2)/\w'.cell? ⟨w.heap.size,0,N⟩=aa (.string m1)/\w'.cell? ⟨w.heap.size,3,N⟩=aa (.string I)/\w'.cell? ⟨w.heap.size,4,N⟩=aa (.int .i64 Z)/\w'.cell? ⟨w.heap.size,5,N⟩=aa (.int .i64 J)/\ag O.heap.size O w')/\ag W.heap.size W w'):=fun t W ht hW=>(Xs t W ht).mono fun e w' hq=>⟨hq.1,b7.out w' (hW.2.2.2.2.2.trans (hq.2.mono hW.2.2.2.2.2.size)),hq.2⟩
  obtain⟨⟨z8,z9,_,C0⟩,_⟩:=s5.out;have d3:Hid (m1.size<=140737488351232/\m2.size<=140737488351232/\I.size<=140737488351232):=⟨z8,z9,C0⟩;clear s9 t0 z5 z4 z8 z9 C0;go_wp2;go_cut [6]from 30 to 93 (fun v W=>∃H,v=.pointer (aa ⟨H,0,N⟩)/\O.heap.size<=H/\W.heap[H]?=aa (.cells #[.string m2,.string m1,.string ⟨#[]⟩,.string I,.int .i64 Z,.int .i64 J,.bool F,.slice N 0 0] 81 (0,0))/\ag O.heap.size O W)
  case first =>
   have k4:(O.drew.cell? ⟨h,0,N⟩=aa (.string m2)/\O.drew.cell? ⟨w.heap.size,0,N⟩=aa (.string m1)/\O.drew.cell? ⟨w.heap.size,3,N⟩=aa (.string I)/\O.drew.cell? ⟨w.heap.size,4,N⟩=aa (.int .i64 Z)/\O.drew.cell? ⟨w.heap.size,5,N⟩=aa (.int .i64 J)/\ag O.heap.size O O.drew):=b7.out _ bR.drew;refine wp_region_held_drew (S:=fun W=>(W.cell? ⟨h,0,N⟩=aa (.string m2)/\W.cell? ⟨w.heap.size,0,N⟩=aa (.string m1)/\W.cell? ⟨w.heap.size,3,N⟩=aa (.string I)/\W.cell? ⟨w.heap.size,4,N⟩=aa (.int .i64 Z)/\W.cell? ⟨w.heap.size,5,N⟩=aa (.int .i64 J)/\ag O.heap.size O W)) (by kernel_rfl) k4 (fun U=>?_);refine tk 0 _ U ?_;refine tk 1 _ U ?_;refine tk 2 _ U ?_;refine tk 3 _ U ?_;refine tk 5 _ U ?_;refine tk 6 _ U ?_;refine tk 8 _ U ?_;refine tk 9 _ U ?_;refine tk 11 _ U ?_;refine tk 12 _ U ?_;refine tk 13 _ U ?_;refine tk 14 _ U ?_;simp only[ah,sA,sZ,sS];refine rdy 4 [16] _ (fun K hK=>?_) ?_
   ·
    go_simp
    (go_at_call 28;refine(d2.out _ _ d3.out.2.1 (by assumption)).mono ?_;rintro e b0 ⟨rfl,p5,t1⟩)
    first|(refine hK.out _ _ ?_ (fun U=>?_))|(go_wp2_with fail;refine hK.out _ _ ?_ (fun U=>?_))
    ·exact p5
    clear hK K;try simp only[ah,sA,sZ,sS]
    refine rdy 7 [16] _ (fun K hK=>?_) ?_
    ·
     go_simp
     (go_at_call 28;refine(d2.out _ _ d3.out.1 (by assumption)).mono ?_;rintro e b1 ⟨rfl,t2,C1⟩)
     first|(refine hK.out _ _ ?_ (fun U=>?_))|(go_wp2_with fail;refine hK.out _ _ ?_ (fun U=>?_))
     ·exact t2
     clear hK K;try simp only[ah,sA,sZ,sS]
     refine rdy 10 [16] _ (fun K hK=>?_) ?_
     ·
      go_simp
      (go_at_call 28;refine(d2.out _ _ d3.out.2.2 (by assumption)).mono ?_;rintro e b2 ⟨rfl,C2,V0⟩)
      first|(refine hK.out _ _ ?_ (fun U=>?_))|(go_wp2_with fail;refine hK.out _ _ ?_ (fun U=>?_))
      ·exact C2
      clear hK K;try simp only[ah,sA,sZ,sS]
      refine tk 15 _ U ?_;simp only[ah,sA,sZ,sS];refine rdy 16 [] _ (fun K hK=>?_) af;go_simp;obtain⟨a3,k5⟩:∃a,a=b2.alloc (.cells #[.string ⟨#[]⟩,.string ⟨#[]⟩,.string ⟨#[]⟩,.string ⟨#[]⟩,.int .i64 0,.int .i64 0,.bool F,.slice N 0 0] 81):=⟨_,rfl⟩;rw[<-k5];have C3:(a3.cell? ⟨h,0,N⟩=aa (.string m2)/\a3.cell? ⟨w.heap.size,0,N⟩=aa (.string m1)/\a3.cell? ⟨w.heap.size,3,N⟩=aa (.string I)/\a3.cell? ⟨w.heap.size,4,N⟩=aa (.int .i64 Z)/\a3.cell? ⟨w.heap.size,5,N⟩=aa (.int .i64 J)/\ag O.heap.size O a3):=by rw[k5];exact b7.out _ (U.2.2.2.2.2.alloc U.2.2.2.2.2.size _)
      have p6:=JH k5;have W0:b2.heap.size<a3.heap.size:=by rw[k5];show b2.heap.size<(b2.heap.push _).size;rw[am];exact al _
      have e0:O.heap.size<=b2.heap.size:=U.2.2.2.2.2.size;clear k5;first|(refine hK.out _ _ ?_ (fun U=>?_))|(go_wp2_with fail;refine hK.out _ _ ?_ (fun U=>?_))
      ·exact C3
      clear hK K;try simp only[ah,sA,sZ,sS]
      obtain⟨y0,y1,y2,y3,y4,y5,y6,y7⟩:=lF p6;have yf:∀o,a3.frozen? ⟨b2.heap.size,o,N⟩=false:=fun o=>by simp[ak,p6]
      have g4:Hid (a3.heap[b2.heap.size]?=aa (.cells #[.string ⟨#[]⟩,.string ⟨#[]⟩,.string ⟨#[]⟩,.string ⟨#[]⟩,.int .i64 0,.int .i64 0,.bool F,.slice N 0 0] 81 (0,0))):=p6;have g5:Hid ((a3.cell? ⟨h,0,N⟩=aa (.string m2)/\a3.cell? ⟨w.heap.size,0,N⟩=aa (.string m1)/\a3.cell? ⟨w.heap.size,3,N⟩=aa (.string I)/\a3.cell? ⟨w.heap.size,4,N⟩=aa (.int .i64 Z)/\a3.cell? ⟨w.heap.size,5,N⟩=aa (.int .i64 J)/\ag O.heap.size O a3)):=U;clear k4 U t1 p5 C1 t2 V0 C2 C3 p6 W0;refine rdy 17 [] _ (fun K hK=>?_) af;go_simp;first|(refine hK.out _ _ ?_ (fun U=>?_))|(go_wp2_with fail;refine hK.out _ _ ?_ (fun U=>?_))
      ·exact b7.out _ ((((((((g5.out.2.2.2.2.2.setCell (p:=⟨b2.heap.size,0,N⟩) e0 _).setCell (p:=⟨b2.heap.size,1,N⟩) e0 _).setCell (p:=⟨b2.heap.size,2,N⟩) e0 _).setCell (p:=⟨b2.heap.size,3,N⟩) e0 _).setCell (p:=⟨b2.heap.size,4,N⟩) e0 _).setCell (p:=⟨b2.heap.size,5,N⟩) e0 _).setCell (p:=⟨b2.heap.size,6,N⟩) e0 _).setCell (p:=⟨b2.heap.size,7,N⟩) e0 _)
      clear hK K;try simp only[ah,sA,sZ,sS]
      refine wpAnyH_done (by kernel_rfl) ?_ _;go_wp2_with fail
      go_meet
      exact⟨_,rfl,e0,(Qc (Qc (Qc (Qc (Qc (Qc (Qc (Qc g4.out 0 _) 1 _) 2 _) 3 _) 4 _) 5 _) 6 _) 7 _),U.2.2.2.2.2⟩
     refine ao (o:=⟨aa 6,.alloc 81,0, "serve.go:38",#[],N⟩) rfl (fun K hK=>?_) af;go_simp;obtain⟨a2,k6⟩:∃a,a=b1.alloc (.cells #[.string ⟨#[]⟩,.string ⟨#[]⟩,.string ⟨#[]⟩,.string ⟨#[]⟩,.int .i64 0,.int .i64 0,.bool F,.slice N 0 0] 81):=⟨_,rfl⟩;rw[<-k6];have C4:(a2.cell? ⟨h,0,N⟩=aa (.string m2)/\a2.cell? ⟨w.heap.size,0,N⟩=aa (.string m1)/\a2.cell? ⟨w.heap.size,3,N⟩=aa (.string I)/\a2.cell? ⟨w.heap.size,4,N⟩=aa (.int .i64 Z)/\a2.cell? ⟨w.heap.size,5,N⟩=aa (.int .i64 J)/\ag O.heap.size O a2):=by rw[k6];exact b7.out _ (U.2.2.2.2.2.alloc U.2.2.2.2.2.size _)
     have D0:=JH k6;have t3:b1.heap.size<a2.heap.size:=by rw[k6];show b1.heap.size<(b1.heap.push _).size;rw[am];exact al _
     have e5:O.heap.size<=b1.heap.size:=U.2.2.2.2.2.size;clear k6;first|(refine hK.out _ _ ?_ (fun U=>?_))|(go_wp2_with fail;refine hK.out _ _ ?_ (fun U=>?_))
     ·exact C4
     clear hK K;try simp only[ah,sA,sZ,sS]
     refine rdy 10 [] _ (fun K hK=>?_) af;go_simp
     (go_at_call 28;refine(d2.out _ _ d3.out.2.2 (by assumption)).mono ?_;rintro e a4 ⟨rfl,f4,b8⟩)
     have b3:=(b8.block _ t3).trans D0;have k7:=ae t3 b8.size;first|(refine hK.out _ _ ?_ (fun U=>?_))|(go_wp2_with fail;refine hK.out _ _ ?_ (fun U=>?_))
     ·exact f4
     clear hK K;try simp only[ah,sA,sZ,sS]
     refine tk 15 _ U ?_;simp only[ah,sA,sZ,sS];obtain⟨y0,y1,y2,y3,y4,y5,y6,y7⟩:=lF b3;have yf:∀o,a4.frozen? ⟨b1.heap.size,o,N⟩=false:=fun o=>by simp[ak,b3]
     have g4:Hid (a4.heap[b1.heap.size]?=aa (.cells #[.string ⟨#[]⟩,.string ⟨#[]⟩,.string ⟨#[]⟩,.string ⟨#[]⟩,.int .i64 0,.int .i64 0,.bool F,.slice N 0 0] 81 (0,0))):=b3;have g5:Hid ((a4.cell? ⟨h,0,N⟩=aa (.string m2)/\a4.cell? ⟨w.heap.size,0,N⟩=aa (.string m1)/\a4.cell? ⟨w.heap.size,3,N⟩=aa (.string I)/\a4.cell? ⟨w.heap.size,4,N⟩=aa (.int .i64 Z)/\a4.cell? ⟨w.heap.size,5,N⟩=aa (.int .i64 J)/\ag O.heap.size O a4)):=U;clear k4 U t1 p5 C1 t2 C4 D0 t3 b8 f4 b3 k7;refine rdy 17 [] _ (fun K hK=>?_) af;go_simp;first|(refine hK.out _ _ ?_ (fun U=>?_))|(go_wp2_with fail;refine hK.out _ _ ?_ (fun U=>?_))
     ·exact b7.out _ ((((((((g5.out.2.2.2.2.2.setCell (p:=⟨b1.heap.size,0,N⟩) e5 _).setCell (p:=⟨b1.heap.size,1,N⟩) e5 _).setCell (p:=⟨b1.heap.size,2,N⟩) e5 _).setCell (p:=⟨b1.heap.size,3,N⟩) e5 _).setCell (p:=⟨b1.heap.size,4,N⟩) e5 _).setCell (p:=⟨b1.heap.size,5,N⟩) e5 _).setCell (p:=⟨b1.heap.size,6,N⟩) e5 _).setCell (p:=⟨b1.heap.size,7,N⟩) e5 _)
     clear hK K;try simp only[ah,sA,sZ,sS]
     refine wpAnyH_done (by kernel_rfl) ?_ _;go_wp2_with fail
     go_meet
     exact⟨_,rfl,e5,(Qc (Qc (Qc (Qc (Qc (Qc (Qc (Qc g4.out 0 _) 1 _) 2 _) 3 _) 4 _) 5 _) 6 _) 7 _),U.2.2.2.2.2⟩
    refine ao (o:=⟨aa 6,.alloc 81,0, "serve.go:38",#[],N⟩) rfl (fun K hK=>?_) af;go_simp;obtain⟨a1,l0⟩:∃a,a=b0.alloc (.cells #[.string ⟨#[]⟩,.string ⟨#[]⟩,.string ⟨#[]⟩,.string ⟨#[]⟩,.int .i64 0,.int .i64 0,.bool F,.slice N 0 0] 81):=⟨_,rfl⟩;rw[<-l0];have D9:(a1.cell? ⟨h,0,N⟩=aa (.string m2)/\a1.cell? ⟨w.heap.size,0,N⟩=aa (.string m1)/\a1.cell? ⟨w.heap.size,3,N⟩=aa (.string I)/\a1.cell? ⟨w.heap.size,4,N⟩=aa (.int .i64 Z)/\a1.cell? ⟨w.heap.size,5,N⟩=aa (.int .i64 J)/\ag O.heap.size O a1):=by rw[l0];exact b7.out _ (U.2.2.2.2.2.alloc U.2.2.2.2.2.size _)
    have H0:=JH l0;have t4:b0.heap.size<a1.heap.size:=by rw[l0];show b0.heap.size<(b0.heap.push _).size;rw[am];exact al _
    have e6:O.heap.size<=b0.heap.size:=U.2.2.2.2.2.size;clear l0;first|(refine hK.out _ _ ?_ (fun U=>?_))|(go_wp2_with fail;refine hK.out _ _ ?_ (fun U=>?_))
    ·exact D9
    clear hK K;try simp only[ah,sA,sZ,sS]
    refine rdy 7 [] _ (fun K hK=>?_) af;go_simp
    (go_at_call 28;refine(d2.out _ _ d3.out.1 (by assumption)).mono ?_;rintro e W1 ⟨rfl,l7,g6⟩)
    have l9:=(g6.block _ t4).trans H0;have g7:=ae t4 g6.size;first|(refine hK.out _ _ ?_ (fun U=>?_))|(go_wp2_with fail;refine hK.out _ _ ?_ (fun U=>?_))
    ·exact l7
    clear hK K;try simp only[ah,sA,sZ,sS]
    refine rdy 10 [] _ (fun K hK=>?_) af;go_simp
    (go_at_call 28;refine(d2.out _ _ d3.out.2.2 (by assumption)).mono ?_;rintro e a4 ⟨rfl,f4,b8⟩)
    have b3:=(b8.block _ g7).trans l9;have k7:=ae g7 b8.size;first|(refine hK.out _ _ ?_ (fun U=>?_))|(go_wp2_with fail;refine hK.out _ _ ?_ (fun U=>?_))
    ·exact f4
    clear hK K;try simp only[ah,sA,sZ,sS]
    refine tk 15 _ U ?_;simp only[ah,sA,sZ,sS];obtain⟨y0,y1,y2,y3,y4,y5,y6,y7⟩:=lF b3;have yf:∀o,a4.frozen? ⟨b0.heap.size,o,N⟩=false:=fun o=>by simp[ak,b3]
    have g4:Hid (a4.heap[b0.heap.size]?=aa (.cells #[.string ⟨#[]⟩,.string ⟨#[]⟩,.string ⟨#[]⟩,.string ⟨#[]⟩,.int .i64 0,.int .i64 0,.bool F,.slice N 0 0] 81 (0,0))):=b3;have g5:Hid ((a4.cell? ⟨h,0,N⟩=aa (.string m2)/\a4.cell? ⟨w.heap.size,0,N⟩=aa (.string m1)/\a4.cell? ⟨w.heap.size,3,N⟩=aa (.string I)/\a4.cell? ⟨w.heap.size,4,N⟩=aa (.int .i64 Z)/\a4.cell? ⟨w.heap.size,5,N⟩=aa (.int .i64 J)/\ag O.heap.size O a4)):=U;clear k4 U t1 p5 D9 H0 t4 g6 l7 l9 g7 b8 f4 b3 k7;refine rdy 17 [] _ (fun K hK=>?_) af;go_simp;first|(refine hK.out _ _ ?_ (fun U=>?_))|(go_wp2_with fail;refine hK.out _ _ ?_ (fun U=>?_))
    ·exact b7.out _ ((((((((g5.out.2.2.2.2.2.setCell (p:=⟨b0.heap.size,0,N⟩) e6 _).setCell (p:=⟨b0.heap.size,1,N⟩) e6 _).setCell (p:=⟨b0.heap.size,2,N⟩) e6 _).setCell (p:=⟨b0.heap.size,3,N⟩) e6 _).setCell (p:=⟨b0.heap.size,4,N⟩) e6 _).setCell (p:=⟨b0.heap.size,5,N⟩) e6 _).setCell (p:=⟨b0.heap.size,6,N⟩) e6 _).setCell (p:=⟨b0.heap.size,7,N⟩) e6 _)
    clear hK K;try simp only[ah,sA,sZ,sS]
    refine wpAnyH_done (by kernel_rfl) ?_ _;go_wp2_with fail
    go_meet
    exact⟨_,rfl,e6,(Qc (Qc (Qc (Qc (Qc (Qc (Qc (Qc g4.out 0 _) 1 _) 2 _) 3 _) 4 _) 5 _) 6 _) 7 _),U.2.2.2.2.2⟩
   refine ao (o:=⟨aa 6,.alloc 81,0, "serve.go:38",#[],N⟩) rfl (fun K hK=>?_) af;go_simp;obtain⟨a0,m0⟩:∃a,a=(O.alloc (.cells #[.string ⟨#[]⟩,.string ⟨#[]⟩,.string ⟨#[]⟩,.string ⟨#[]⟩,.int .i64 0,.int .i64 0,.bool F,.slice N 0 0] 81)).drew:=⟨_,rfl⟩;rw[<-m0];have H1:(a0.cell? ⟨h,0,N⟩=aa (.string m2)/\a0.cell? ⟨w.heap.size,0,N⟩=aa (.string m1)/\a0.cell? ⟨w.heap.size,3,N⟩=aa (.string I)/\a0.cell? ⟨w.heap.size,4,N⟩=aa (.int .i64 Z)/\a0.cell? ⟨w.heap.size,5,N⟩=aa (.int .i64 J)/\ag O.heap.size O a0):=by rw[m0];exact b7.out _ (bR.alloc nR _).drew
   have H2:a0.heap[O.heap.size]?=aa (.cells #[.string ⟨#[]⟩,.string ⟨#[]⟩,.string ⟨#[]⟩,.string ⟨#[]⟩,.int .i64 0,.int .i64 0,.bool F,.slice N 0 0] 81 (0,0)):=by rw[m0];exact heap_alloc_new O _
   have t5:O.heap.size<a0.heap.size:=by rw[m0];show O.heap.size<(O.heap.push _).size;rw[am];exact al _
   have e7:O.heap.size<=O.heap.size:=U.2.2.2.2.2.size;clear m0;first|(refine hK.out _ _ ?_ (fun U=>?_))|(go_wp2_with fail;refine hK.out _ _ ?_ (fun U=>?_))
   ·exact H1
   clear hK K;try simp only[ah,sA,sZ,sS]
   refine rdy 4 [] _ (fun K hK=>?_) af;go_simp
   (go_at_call 28;refine(d2.out _ _ d3.out.2.1 (by assumption)).mono ?_;rintro e aM ⟨rfl,H3,t6⟩)
   have H4:=(t6.block _ t5).trans H2;have t7:=ae t5 t6.size;first|(refine hK.out _ _ ?_ (fun U=>?_))|(go_wp2_with fail;refine hK.out _ _ ?_ (fun U=>?_))
   ·exact H3
   clear hK K;try simp only[ah,sA,sZ,sS]
   refine rdy 7 [] _ (fun K hK=>?_) af;go_simp
   (go_at_call 28;refine(d2.out _ _ d3.out.1 (by assumption)).mono ?_;rintro e W1 ⟨rfl,l7,g6⟩)
   have l9:=(g6.block _ t7).trans H4;have g7:=ae t7 g6.size;first|(refine hK.out _ _ ?_ (fun U=>?_))|(go_wp2_with fail;refine hK.out _ _ ?_ (fun U=>?_))
   ·exact l7
   clear hK K;try simp only[ah,sA,sZ,sS]
   refine rdy 10 [] _ (fun K hK=>?_) af;go_simp
   (go_at_call 28;refine(d2.out _ _ d3.out.2.2 (by assumption)).mono ?_;rintro e a4 ⟨rfl,f4,b8⟩)
   have b3:=(b8.block _ g7).trans l9;have k7:=ae g7 b8.size;first|(refine hK.out _ _ ?_ (fun U=>?_))|(go_wp2_with fail;refine hK.out _ _ ?_ (fun U=>?_))
   ·exact f4
   clear hK K;try simp only[ah,sA,sZ,sS]
   refine tk 15 _ U ?_;simp only[ah,sA,sZ,sS];obtain⟨y0,y1,y2,y3,y4,y5,y6,y7⟩:=lF b3;have yf:∀o,a4.frozen? ⟨O.heap.size,o,N⟩=false:=fun o=>by simp[ak,b3]
   have g4:Hid (a4.heap[O.heap.size]?=aa (.cells #[.string ⟨#[]⟩,.string ⟨#[]⟩,.string ⟨#[]⟩,.string ⟨#[]⟩,.int .i64 0,.int .i64 0,.bool F,.slice N 0 0] 81 (0,0))):=b3;have g5:Hid ((a4.cell? ⟨h,0,N⟩=aa (.string m2)/\a4.cell? ⟨w.heap.size,0,N⟩=aa (.string m1)/\a4.cell? ⟨w.heap.size,3,N⟩=aa (.string I)/\a4.cell? ⟨w.heap.size,4,N⟩=aa (.int .i64 Z)/\a4.cell? ⟨w.heap.size,5,N⟩=aa (.int .i64 J)/\ag O.heap.size O a4)):=U;clear k4 U H1 H2 t5 t6 H3 H4 t7 g6 l7 l9 g7 b8 f4 b3 k7;refine rdy 17 [] _ (fun K hK=>?_) af;go_simp;first|(refine hK.out _ _ ?_ (fun U=>?_))|(go_wp2_with fail;refine hK.out _ _ ?_ (fun U=>?_))
   ·exact b7.out _ ((((((((g5.out.2.2.2.2.2.setCell (p:=⟨O.heap.size,0,N⟩) e7 _).setCell (p:=⟨O.heap.size,1,N⟩) e7 _).setCell (p:=⟨O.heap.size,2,N⟩) e7 _).setCell (p:=⟨O.heap.size,3,N⟩) e7 _).setCell (p:=⟨O.heap.size,4,N⟩) e7 _).setCell (p:=⟨O.heap.size,5,N⟩) e7 _).setCell (p:=⟨O.heap.size,6,N⟩) e7 _).setCell (p:=⟨O.heap.size,7,N⟩) e7 _)
   clear hK K;try simp only[ah,sA,sZ,sS]
   refine wpAnyH_done (by kernel_rfl) ?_ _;go_wp2_with fail
   go_meet
   exact⟨_,rfl,e7,(Qc (Qc (Qc (Qc (Qc (Qc (Qc (Qc g4.out 0 _) 1 _) 2 _) 3 _) 4 _) 5 _) 6 _) 7 _),U.2.2.2.2.2⟩
  case rest =>
   clear b7 d2 d3;obtain⟨H,rfl,e8,m8,f5⟩:=hcut;obtain⟨w4,rfl⟩:=Xb wc;have b6:H<w4.heap.size:=rE m8;have n0:w.heap.size<H:=ae g2.out.2 e8;have f6:w4.heap[w.heap.size]?=aa (.cells #[.string m1,.string m2,.string m3,.string I,.int .i64 Z,.int .i64 J,.bool m7,.slice lp mL.length lc] 81 (0,0)):=(f5.block _ g2.out.2).trans U1.out;have k2:w4.cell? ⟨w.heap.size,2,N⟩=aa (.string m3):=by simp[ac,f6]
   have t8:Hid (w4.heap[H]?=aa (.cells #[.string m2,.string m1,.string ⟨#[]⟩,.string I,.int .i64 Z,.int .i64 J,.bool F,.slice N 0 0] 81 (0,0))):=m8;have a6:Hid (ag O.heap.size O w4/\O.heap.size<=H/\H<w4.heap.size/\w.heap.size<H):=⟨f5,e8,b6,n0⟩;have p9:Hid (w4.heap[w.heap.size]?=aa (.cells #[.string m1,.string m2,.string m3,.string I,.int .i64 Z,.int .i64 J,.bool m7,.slice lp mL.length lc] 81 (0,0))):=f6;have t9:Hid (QB w4 hk (a9 ii) Lh sh):=z3.out.below f5;have u5:Hid (I.size<=maxLen):=by have:=s5.out.1.2.2.2;show I.size<=maxLen;unfold maxLen;dsimp only at this;omega
   rcases T2.out with hq|hq|hq
   ·obtain rfl:m3=⟨#[108,111,111,107]⟩:=hq;have u6:∀W,ag H w4 W->QB W hk (a9 ii) Lh sh:=fun W hW=>t9.out.aS hW.size (fun k W2=>hW.block k (by have:=(f3.out k W2).2;omega))
    have i2:Hid (∀W,ag H w4 W->(W.cell? ⟨w.heap.size,3,N⟩=aa (.string I)/\ag H w4 W)):=fun W hW=>⟨(hW.cell (p:=⟨w.heap.size,3,N⟩) n0).trans (by simp[ac,f6]),hW⟩
    have H5:Hid (∀W,(W.cell? ⟨w.heap.size,3,N⟩=aa (.string I)/\ag H w4 W)->Hid (W.heap[H]?=aa (.cells #[.string m2,.string m1,.string ⟨#[]⟩,.string I,.int .i64 Z,.int .i64 J,.bool F,.slice N 0 0] 81 (0,0)))->Calls prog 94 #[.pointer (aa ⟨hk,0,N⟩)] W fun e w'=>e=.returned (.bool sh)/\(w'.cell? ⟨w.heap.size,3,N⟩=aa (.string I)/\ag H w4 w')/\Hid (w'.heap[H]?=aa (.cells #[.string m2,.string m1,.string ⟨#[]⟩,.string I,.int .i64 Z,.int .i64 J,.bool F,.slice N 0 0] 81 (0,0)))):=fun W hW hz=>by
     obtain⟨_,_,_,_,hd⟩:=u6 W hW.2;refine(FD hd).mono fun e w' hq=>?_
     obtain⟨h1,h2⟩:=hq;subst h2;exact⟨h1,hW,hz⟩
    have n3:Hid (∀W,(W.cell? ⟨w.heap.size,3,N⟩=aa (.string I)/\ag H w4 W)->Hid (W.heap[H]?=aa (.cells #[.string m2,.string m1,.string ⟨#[]⟩,.string I,.int .i64 Z,.int .i64 J,.bool F,.slice N 0 0] 81 (0,0)))->Calls prog 95 #[.pointer (aa ⟨hk,0,N⟩),.string I] W fun e w'=>∃pv cv,e=.returned (.slice pv (Xc Lh I).length cv)/\(w'.cell? ⟨w.heap.size,3,N⟩=aa (.string I)/\ag H w4 w')/\Hid (Zc Ze 169 w' w4.heap.size (.slice pv (Xc Lh I).length cv) (Xc Lh I)/\w'.heap[H]?=aa (.cells #[.string m2,.string m1,.string ⟨#[]⟩,.string I,.int .i64 Z,.int .i64 J,.bool F,.slice N 0 0] 81 (0,0)))/\w'.cell? ⟨H,2,N⟩=aa (.string ⟨#[]⟩)/\w'.cell? ⟨H,6,N⟩=aa (.bool F)/\w'.cell? ⟨H,7,N⟩=aa (.slice N 0 0)/\∀j,w'.frozen? ⟨H,j,N⟩=F):=fun W hW hz=>by
     obtain⟨_,_,_,_,hd⟩:=u6 W hW.2;refine(CN hd I u5.out).mono fun e w' hq=>?_
     obtain⟨⟨v,e1,e2⟩,e3⟩:=hq;obtain⟨pv,cv,rfl,_⟩:=e2.form;have n4:=(e3.block H (rE hz.out)).trans hz.out;exact⟨pv,cv,e1,i2.out w' (hW.2.trans (e3.mono (by have:=hW.2.size;have:=a6.out.2.2.1;omega))),⟨e2.base hW.2.size,n4⟩,by simp[ac,n4],by simp[ac,n4],by simp[ac,n4],fun j=>by simp[ak,n4]⟩
    clear f6 m8 f5 e8 b6 n0 u6;go_wp2;have W3:Hid (w4.drew.heap[H]?=aa (.cells #[.string m2,.string m1,.string ⟨#[]⟩,.string I,.int .i64 Z,.int .i64 J,.bool F,.slice N 0 0] 81 (0,0))):=t8.out;go_region_held3 (fun W=>(W.cell? ⟨w.heap.size,3,N⟩=aa (.string I)/\ag H w4 W)) (first|assumption|exact i2.out _ bR.drew|exact i2.out _ (n5.2.setCell (p:=⟨H,2,N⟩) (ab H) _)|exact i2.out _ ((n5.2.setCell (p:=⟨H,2,N⟩) (ab H) _).setCell (p:=⟨H,6,N⟩) (ab H) _)|exact i2.out _ (((n5.2.setCell (p:=⟨H,2,N⟩) (ab H) _).setCell (p:=⟨H,6,N⟩) (ab H) _).setCell (p:=⟨H,7,N⟩) (ab H) _)) (first|(go_at_call 94;refine(H5.out _ (by assumption) (by assumption)).mono ?_;rintro e w5 ⟨rfl,H6,X1⟩)|(go_at_call 95;refine(n3.out _ (by assumption) (by assumption)).mono ?_;rintro e w6 ⟨pv,cv,rfl,n5,u7,o2,o6,o7,fz⟩))
    obtain⟨w8,a5⟩:=Xb (((w6.setCell ⟨H,2,N⟩ (.string ⟨#[116,111,108,100]⟩)).setCell ⟨H,6,N⟩ (.bool sh)).setCell ⟨H,7,N⟩ (.slice pv (Xc Lh I).length cv));have b4:w8.heap[H]?=aa (.cells #[.string m2,.string m1,.string ⟨#[116,111,108,100]⟩,.string I,.int .i64 Z,.int .i64 J,.bool sh,.slice pv (Xc Lh I).length cv] 81 (0,0)):=by rw[a5];exact Qc (Qc (Qc u7.out.2 2 _) 6 _) 7 _
    obtain⟨q0,q1,q2,q3,q4,q5,q6,q7⟩:=lF b4;have H7:ag H w4 w8:=by rw[a5];exact(((n5.2.setCell (p:=⟨H,2,N⟩) (ab H) _).setCell (p:=⟨H,6,N⟩) (ab H) _).setCell (p:=⟨H,7,N⟩) (ab H) _)
    have g8:Zc Ze 169 w8 w4.heap.size (.slice pv (Xc Lh I).length cv) (Xc Lh I):=by rw[a5];exact Zc.jX (Zc.jX (Zc.jX u7.out.1 (b:=H) a6.out.2.2.1 2 _) (b:=H) a6.out.2.2.1 6 _) (b:=H) a6.out.2.2.1 7 _
    have d4:Hid (∀w9,w9=w8.alloc (.cells #[.string m2,.string m1,.string ⟨#[116,111,108,100]⟩,.string I,.int .i64 Z,.int .i64 J,.bool sh,.slice pv (Xc Lh I).length cv] 81)->Q1 w B h S m ⟨m1,m2,⟨#[108,111,111,107]⟩,I,Z,J,m7,mL⟩ (.returned (.slice (aa ⟨w8.heap.size,0,N⟩) 1 1)) w9):=fun w9 f7=>by
     have c8:=Zk f7;have u8:ag O.heap.size O w8:=a6.out.1.trans (H7.mono a6.out.2.1);have L0:ag O.heap.size O w9:=u8.trans (c8.mono u8.size);have bA:=a6.out.1.size;refine uZ (y:=(⟨m2,m1,pU,I,Z,J,sh,Xc Lh I⟩,(pv,(Xc Lh I).length,cv))) (t:=81) i1.out g1.out (L0.mono g1.out.size) (fun k hk=>L0.block k (i1.out.aO k hk).2) ?_ (I2 (g8.kept c8)) u8.size (fun b o e=>?_) ?_
     ·rw[f7];show(w8.heap.push _)[w8.heap.size]?=_;simp;rfl
     ·have e':pv=aa ⟨b,o,N⟩:=e;have q9:=g8.block (k:=b) (by rw[e'];rfl);exact⟨by omega,ae q9.2 c8.size⟩
     ·rw[uO g0.out i9.out];show(match m.held J with|none=>(m,[])|some n6=>n6.cG (Yf m.L J) _)=_;rw[j1.out];show my.cG (Yf m.L J) _=_;unfold Je.cG;rw[if_pos (show(⟨m1,m2,⟨#[108,111,111,107]⟩,I,Z,J,m7,mL⟩:Zb).kind=ZW from rfl),s8.out,<-g3.out,<-z7.out];show(my,[(⟨my.name,m1,pU,I,Z,J,sh,Xc Lh I⟩:Zb)])=_;rw[p2.out,<-g0.out]
    have u9:Hid (w8=((w6.setCell ⟨H,2,N⟩ (.string ⟨#[116,111,108,100]⟩)).setCell ⟨H,6,N⟩ (.bool sh)).setCell ⟨H,7,N⟩ (.slice pv (Xc Lh I).length cv)):=a5;rw[<-u9.out];clear a5 b4 H7 g8 o2 o6 o7 fz H6 n5 W3 X1 u7 i2 H5 n3;go_wp2;go_ret;exact d4.out _ rfl
   ·obtain rfl:m3=⟨#[115,101,97,108]⟩:=hq;have L1:=VZ t9.out;clear f6 m8 f5 e8 b6 n0;go_wp2_with fail
    refine L1.mono ?_;rintro e w5 ⟨rfl,Sn,h4,a7⟩;clear L1 k2;have b6:=a6.out.2.2.1;have e8:=a6.out.2.1;have h5:¬a9 ii H:=fun hs=>by have:=(f3.out H hs).2;omega
    have n7:¬a9 ii w.heap.size:=fun hs=>g2.out.1 (f3.out _ hs).1
    have d6:=(a7.block H b6 h5).trans t8.out;have r0:=(a7.block w.heap.size (by have:=a6.out.2.2.2;omega) n7).trans p9.out;have n8:∀k,Sn k->k<w5.heap.size:=fun k hk=>by obtain⟨_,_,_,_,hd⟩:=h4;exact hd.dH k hk
    have n9:(my.put ii (Lh,T)).cH:=h7.out.kU p4.out (by rw[g3.out];exact h7.out.held ii) (by rw[g3.out];exact h7.out.names ii);have hT:=(i1.out.below a6.out.1).pI p4.out (L':=Lh) (s':=T) (by rw[z6.out];exact h4) a7 n8 n9;have f8:Hid (ZF w5 B h (fun k=>S2 k∨Sn k) (my.put ii (Lh,T)) s6 D2 d1 (fun j=>if j=ii then Sn else a9 j)):=hT.1;have r1:Hid (Yd S (fun k=>S2 k∨Sn k) w w5):=(g1.out.trans (Yd.aJ a6.out.1)).trans hT.2;have h6:Hid (H<w5.heap.size):=ae b6 a7.size;have v1:Hid (¬(S2 H∨Sn H)):=fun hs=>by
     rcases hs with hs|hs
     ·have:=(i1.out.aO H hs).2;omega
     ·rcases a7.new H hs with h1|h1
      ·exact h5 h1
      ·omega
    obtain⟨_,_,_,_,L2⟩:=h4;have n3:=CN L2 I u5.out;have k3:w5.cell? ⟨w.heap.size,3,N⟩=aa (.string I):=by simp[ac,r0]
    have r2:Hid (w5.heap[H]?=aa (.cells #[.string m2,.string m1,.string ⟨#[]⟩,.string I,.int .i64 Z,.int .i64 J,.bool F,.slice N 0 0] 81 (0,0))):=d6;clear L2 hT a7 n8 n9 h5 n7 d6 r0 b6 e8;go_wp2_with fail
    refine n3.mono ?_;rintro e w6 ⟨⟨v,rfl,v2⟩,r3⟩;obtain⟨pv,cv,rfl,_⟩:=v2.form;have o1:=(r3.block H h6.out).trans r2.out;have o2:w6.cell? ⟨H,2,N⟩=aa (.string ⟨#[]⟩):=by simp[ac,o1]
    have o7:w6.cell? ⟨H,7,N⟩=aa (.slice N 0 0):=by simp[ac,o1]
    have fz:∀j,w6.frozen? ⟨H,j,N⟩=false:=fun j=>by simp[ak,o1]
    obtain⟨w7,i3⟩:=Xb (w6.setCell ⟨H,2,N⟩ (.string ⟨#[115,101,97,108,101,100]⟩));obtain⟨w8,a5⟩:=Xb (w7.setCell ⟨H,7,N⟩ (.slice pv (Xc Lh I).length cv));have r4:w7.heap[H]?=aa (.cells #[.string m2,.string m1,.string ⟨#[115,101,97,108,101,100]⟩,.string I,.int .i64 Z,.int .i64 J,.bool F,.slice N 0 0] 81 (0,0)):=by rw[i3];exact Qc o1 2 _
    have b4:w8.heap[H]?=aa (.cells #[.string m2,.string m1,.string ⟨#[115,101,97,108,101,100]⟩,.string I,.int .i64 Z,.int .i64 J,.bool F,.slice pv (Xc Lh I).length cv] 81 (0,0)):=by rw[a5];exact Qc r4 7 _
    have p7:w7.cell? ⟨H,7,N⟩=aa (.slice N 0 0):=by simp[ac,r4]
    have bB:∀j,w7.frozen? ⟨H,j,N⟩=false:=fun j=>by simp[ak,r4]
    obtain⟨q0,q1,q2,q3,q4,q5,q6,q7⟩:=lF b4;have r5:∀k,k<w5.heap.size->k≠H->w8.heap[k]?=w5.heap[k]?:=fun k hk f9=>by rw[a5,ai _ _ _ _ f9,i3,ai _ _ _ _ f9];exact r3.block k hk
    have d7:ag H w5 w8:=by rw[a5,i3];exact(((r3.mono (Nat.le_of_lt h6.out)).setCell (p:=⟨H,2,N⟩) (ab H) _).setCell (p:=⟨H,7,N⟩) (ab H) _)
    have g8:Zc Ze 169 w8 w5.heap.size (.slice pv (Xc Lh I).length cv) (Xc Lh I):=by rw[a5,i3];exact Zc.jX (Zc.jX v2 (b:=H) h6.out 2 _) (b:=H) h6.out 7 _
    have d4:Hid (∀w9,w9=w8.alloc (.cells #[.string m2,.string m1,.string ⟨#[115,101,97,108,101,100]⟩,.string I,.int .i64 Z,.int .i64 J,.bool F,.slice pv (Xc Lh I).length cv] 81)->Q1 w B h S m ⟨m1,m2,⟨#[115,101,97,108]⟩,I,Z,J,m7,mL⟩ (.returned (.slice (aa ⟨w8.heap.size,0,N⟩) 1 1)) w9):=fun w9 f7=>by
     have c8:=Zk f7;have v3:w.heap.size<=H:=by have:=a6.out.2.2.2;omega
     have v4:ag w.heap.size w5 w9:=(d7.mono v3).trans (c8.mono (by have:=d7.size;have:=h6.out;omega));refine uZ (y:=(⟨m2,m1,o9,I,Z,J,F,Xc Lh I⟩,(pv,(Xc Lh I).length,cv))) (t:=81) f8.out r1.out v4 (fun k hk=>?_) ?_ (I2 (g8.kept c8)) d7.size (fun b o e=>?_) ?_
     ·rw[c8.block k (by have:=(f8.out.aO k hk).2;have:=d7.size;omega)];exact r5 k (f8.out.aO k hk).2 (fun e=>v1.out (by rw[<-e];exact hk))
     ·rw[f7];show(w8.heap.push _)[w8.heap.size]?=_;simp;rfl
     ·have e':pv=aa ⟨b,o,N⟩:=e;have q9:=g8.block (k:=b) (by rw[e'];rfl);exact⟨q9.1,ae q9.2 c8.size⟩
     ·rw[uO g0.out i9.out];show(match m.held J with|none=>(m,[])|some n6=>n6.cG (Yf m.L J) _)=_;rw[j1.out];show my.cG (Yf m.L J) _=_;unfold Je.cG;rw[if_neg (show ¬(⟨m1,m2,⟨#[115,101,97,108]⟩,I,Z,J,m7,mL⟩:Zb).kind=ZW from(by decide:¬Q3=ZW)),if_pos (show(⟨m1,m2,⟨#[115,101,97,108]⟩,I,Z,J,m7,mL⟩:Zb).kind=Q3 from rfl),s8.out,<-g3.out];show(my.put ii (Lh,T),[(⟨my.name,m1,o9,I,Z,J,F,Xc Lh I⟩:Zb)])=_;rw[p2.out,<-g0.out]
    have X2:Hid (w7=w6.setCell ⟨H,2,N⟩ (.string ⟨#[115,101,97,108,101,100]⟩)):=i3;have u9:Hid (w8=w7.setCell ⟨H,7,N⟩ (.slice pv (Xc Lh I).length cv)):=a5;clear i3 a5 o1 r4 b4 d7 r5 g8 v2 r3 n3 k3;go_wp2_with (first|rw[<-X2.out]|rw[<-u9.out])
    go_ret;exact d4.out _ rfl
   ·obtain rfl:m3=⟨#[107,101,101,112]⟩:=hq;have hL:=S5.out;have i4:=i9.out;have hR:=s5.out;have d9:=T1.out;have X3:(⟨#[107,101,101,112]⟩:BA)=Y3:=rfl;have r6:mL.length=1:=by
     by_cases h1:mL.length=1
     ·exact h1
     ·exact absurd ⟨by exact(by decide:Y3≠ZW),by exact(by decide:Y3≠Q3),Or.inr h1⟩ i4.2
    obtain⟨vb,vo,v5,O0,u0,u1,u2,u3,u4⟩:=QU hL.eC (i:=0) (by rw[r6];decide);simp only[Nat.zero_mul,Nat.add_zero]at u0 u1 u2 u3 u4;have O1:¬S vb:=d9 vb vo v5;have v6:(Xd mL 0).text.size<=140737488351232:=hR.2.2 _ (List.mem_of_getElem? (Xx (by rw[r6];decide)));obtain⟨v0,v7⟩:=Xb (Xd mL 0);rw[<-v7]at u0 u1 u2 u3 u4 v6;have X4:Hid (v0=Xd mL 0):=v7;obtain⟨vn,vw,vs,va,vt⟩:=v0;dsimp only at u0 u1 u2 u3 u4 v6;have O2:Hid (∀W:World,W.heap[vb]?=w.heap[vb]?->W.cell? ⟨vb,vo,N⟩=aa (.int .i64 vn)/\W.cell? ⟨vb,vo+1,N⟩=aa (.int .i64 vw)/\W.cell? ⟨vb,vo+2,N⟩=aa (.int .i64 vs)/\W.cell? ⟨vb,vo+3,N⟩=aa (.int .i64 va)/\W.cell? ⟨vb,vo+4,N⟩=aa (.string vt)):=fun W hW=>⟨(aj (a:=⟨vb,vo,N⟩) hW).trans u0,(aj (a:=⟨vb,vo+1,N⟩) hW).trans u1,(aj (a:=⟨vb,vo+2,N⟩) hW).trans u2,(aj (a:=⟨vb,vo+3,N⟩) hW).trans u3,(aj (a:=⟨vb,vo+4,N⟩) hW).trans u4⟩
    have o3:Hid (¬S vb/\vb<w.heap.size):=⟨O1,O0⟩;have X5:Hid (vt.size<=maxLen):=by show vt.size<=maxLen;unfold maxLen;omega
    have r7:Hid (lp=aa ⟨vb,vo,N⟩/\mL.length=1):=⟨v5,r6⟩;clear r6 v5 O0 u0 u1 u2 u3 u4 O1 v6 v7 d9 hL i4 hR X3;have O3:w4.heap[vb]?=w.heap[vb]?:=(f5.block vb (by have:=o3.out.2;have:=g2.out.2;omega)).trans (g1.out.block vb o3.out.2 o3.out.1);have r8:Hid (∀W,Yd (a9 ii) (a9 ii) w4 W->kN W ad/\W.heap[vb]?=w.heap[vb]?/\W.heap[w.heap.size]?=w4.heap[w.heap.size]?/\W.heap[H]?=w4.heap[H]?):=fun W hW=>by
     have aE:∀k,k<w.heap.size->¬S k->¬a9 ii k:=fun k hk hs h2=>by
      rcases g1.out.new k (f3.out k h2).1 with h3|h3
      ·exact hs h3
      ·omega
     have O4:∀k,k<w.heap.size->¬S k->W.heap[k]?=w.heap[k]?:=fun k hk hs=>(hW.block k (by omega) (aE k hk hs)).trans ((f5.block k (by have:=g2.out.2;omega)).trans (g1.out.block k hk hs))
     exact⟨HX.out W (by have:=hW.size;omega) O4,O4 vb o3.out.2 o3.out.1,hW.block _ (by omega) (fun hs=>g2.out.1 (f3.out _ hs).1),hW.block H b6 (fun hs=>by have:=(f3.out H hs).2;omega)⟩
    have O5:=(r8.out w4.drew (Yd.aJ bR.drew)).1.eZ;have O6:Hid (Calls prog 96 #[.pointer (aa ⟨hk,0,N⟩),.string I,.agg #[.int .i64 vn,.int .i64 vw,.int .i64 vs,.int .i64 va,.string vt]] w4.drew fun e w'=>∃ev,e=.returned ev/\(w'.cell? ⟨w.heap.size,3,N⟩=aa (.string I)/\w'.cell? ⟨w.heap.size,7,N⟩=aa (.slice (aa ⟨vb,vo,N⟩) 1 lc)/\w'.cell? ⟨vb,vo,N⟩=aa (.int .i64 vn)/\w'.cell? ⟨vb,vo+1,N⟩=aa (.int .i64 vw)/\w'.cell? ⟨vb,vo+2,N⟩=aa (.int .i64 vs)/\w'.cell? ⟨vb,vo+3,N⟩=aa (.int .i64 va)/\w'.cell? ⟨vb,vo+4,N⟩=aa (.string vt))/\Hid (oJ ad ev (Qt Lh sh I ⟨vn,vw,vs,va,vt⟩).1/\∃Sn,QB w' hk Sn (Qt Lh sh I ⟨vn,vw,vs,va,vt⟩).2 sh/\Yd (a9 ii) Sn w4 w')):=by
     refine(WH (t9.out.below bR.drew) I ⟨vn,vw,vs,va,vt⟩ u5.out X5.out O5).mono fun e w' hq=>?_
     obtain⟨⟨ev,e1,e2⟩,Sn,e3,e4⟩:=hq;have hU:Yd (a9 ii) Sn w4 w':=(Yd.aJ bR.drew).trans e4;have hx:=r8.out w' ⟨hU.os,hU.tape,hU.output,hU.size,hU.block,fun k hk=>Or.inl hk⟩;refine⟨ev,e1,⟨?_,?_,O2.out w' hx.2.1⟩,e2,Sn,e3,hU⟩
     ·have:=hx.2.2.1.trans p9.out;simp[ac,this]
     ·have:=hx.2.2.1.trans p9.out;simp[ac,this,r7.out.1,r7.out.2]
    have aF:(w4.drew.cell? ⟨w.heap.size,3,N⟩=aa (.string I)/\w4.drew.cell? ⟨w.heap.size,7,N⟩=aa (.slice (aa ⟨vb,vo,N⟩) 1 lc)/\w4.drew.cell? ⟨vb,vo,N⟩=aa (.int .i64 vn)/\w4.drew.cell? ⟨vb,vo+1,N⟩=aa (.int .i64 vw)/\w4.drew.cell? ⟨vb,vo+2,N⟩=aa (.int .i64 vs)/\w4.drew.cell? ⟨vb,vo+3,N⟩=aa (.int .i64 va)/\w4.drew.cell? ⟨vb,vo+4,N⟩=aa (.string vt)):=⟨by show w4.cell? _=_;simp[ac,f6],by show w4.cell? _=_;simp[ac,f6,r7.out.1,r7.out.2],O2.out w4.drew O3⟩;clear f6 m8 f5 e8 b6 n0 O3 O5;go_wp2;go_cut [7]from 61 to 93 (fun v W=>∃ev,ev=v/\Hid (oJ ad ev (Qt Lh sh I ⟨vn,vw,vs,va,vt⟩).1/\∃Sn,QB W hk Sn (Qt Lh sh I ⟨vn,vw,vs,va,vt⟩).2 sh/\Yd (a9 ii) Sn w4 W))
    case first =>
     go_region_held3 (fun W=>(W.cell? ⟨w.heap.size,3,N⟩=aa (.string I)/\W.cell? ⟨w.heap.size,7,N⟩=aa (.slice (aa ⟨vb,vo,N⟩) 1 lc)/\W.cell? ⟨vb,vo,N⟩=aa (.int .i64 vn)/\W.cell? ⟨vb,vo+1,N⟩=aa (.int .i64 vw)/\W.cell? ⟨vb,vo+2,N⟩=aa (.int .i64 vs)/\W.cell? ⟨vb,vo+3,N⟩=aa (.int .i64 va)/\W.cell? ⟨vb,vo+4,N⟩=aa (.string vt))) (first|assumption) (first|(go_at_call 96;refine O6.out.mono ?_;rintro e w5 ⟨ev,rfl,H6,r9⟩))
     all_goals (go_wp2_with fail;go_meet)
     all_goals exact⟨_,rfl,r9⟩
    case rest =>
    clear aF O6 k2;obtain⟨w5,rfl⟩:=Xb wc;obtain⟨ev,hv,r9⟩:=hcut;subst hv;obtain⟨i5,Sn,h4,a7⟩:=r9.out;clear r9;have v8:=r8.out w5 ⟨a7.os,a7.tape,a7.output,a7.size,a7.block,fun k hk=>Or.inl hk⟩;have v9:Hid (kN w5 ad):=v8.1;have g9:=v8.1.eZ.c9;clear v8 r8;have b6:=a6.out.2.2.1;have e8:=a6.out.2.1;have h5:¬a9 ii H:=fun hs=>by have:=(f3.out H hs).2;omega
    have n7:¬a9 ii w.heap.size:=fun hs=>g2.out.1 (f3.out _ hs).1
    have d6:=(a7.block H b6 h5).trans t8.out;have r0:=(a7.block w.heap.size (by have:=a6.out.2.2.2;omega) n7).trans p9.out;have n8:∀k,Sn k->k<w5.heap.size:=fun k hk=>by obtain⟨_,_,_,_,hd⟩:=h4;exact hd.dH k hk
    have n9:(my.put ii ((Qt Lh sh I ⟨vn,vw,vs,va,vt⟩).2,sh)).cH:=by
     have ha:=FY (L:=Lh) (s:=sh) (key:=I) (v:=⟨vn,vw,vs,va,vt⟩) (by rw[g3.out];exact h7.out.held ii) (by rw[g3.out];exact h7.out.names ii) i9.out.1.2;exact h7.out.kU p4.out ha.1 ha.2
    have hT:=(i1.out.below a6.out.1).pI p4.out (L':=(Qt Lh sh I ⟨vn,vw,vs,va,vt⟩).2) (s':=sh) (by rw[z6.out];exact h4) a7 n8 n9;have f8:Hid (ZF w5 B h (fun k=>S2 k∨Sn k) (my.put ii ((Qt Lh sh I ⟨vn,vw,vs,va,vt⟩).2,sh)) s6 D2 d1 (fun j=>if j=ii then Sn else a9 j)):=hT.1;have r1:Hid (Yd S (fun k=>S2 k∨Sn k) w w5):=(g1.out.trans (Yd.aJ a6.out.1)).trans hT.2;have h6:Hid (H<w5.heap.size):=ae b6 a7.size;have v1:Hid (¬(S2 H∨Sn H)):=fun hs=>by
     rcases hs with hs|hs
     ·have:=(i1.out.aO H hs).2;omega
     ·rcases a7.new H hs with h1|h1
      ·exact h5 h1
      ·omega
    have r2:Hid (w5.heap[H]?=aa (.cells #[.string m2,.string m1,.string ⟨#[]⟩,.string I,.int .i64 Z,.int .i64 J,.bool F,.slice N 0 0] 81 (0,0))):=d6;have s1:Hid (m.aD (⟨m1,m2,⟨#[107,101,101,112]⟩,I,Z,J,m7,mL⟩:Zb)=(my.put ii ((Qt Lh sh I ⟨vn,vw,vs,va,vt⟩).2,sh),if 0<(Qt Lh sh I ⟨vn,vw,vs,va,vt⟩).1/\(Qt Lh sh I ⟨vn,vw,vs,va,vt⟩).1≠10 then []else [⟨m2,m1,nK,I,Z,J,decide (0<(Qt Lh sh I ⟨vn,vw,vs,va,vt⟩).1),[]⟩])):=by
     show _=_;rw[uO g0.out i9.out];show(match m.held J with|none=>(m,[])|some n6=>n6.cG (Yf m.L J) _)=_;rw[j1.out];show my.cG (Yf m.L J) _=_;unfold Je.cG;rw[if_neg (show ¬(⟨m1,m2,⟨#[107,101,101,112]⟩,I,Z,J,m7,mL⟩:Zb).kind=ZW from(by decide:¬Y3=ZW)),if_neg (show ¬(⟨m1,m2,⟨#[107,101,101,112]⟩,I,Z,J,m7,mL⟩:Zb).kind=Q3 from(by decide:¬Y3=Q3)),s8.out,<-g3.out,<-z7.out,<-X4.out];show(my.put ii ((Qt Lh sh I ⟨vn,vw,vs,va,vt⟩).2,sh),if 0<(Qt Lh sh I ⟨vn,vw,vs,va,vt⟩).1/\(Qt Lh sh I ⟨vn,vw,vs,va,vt⟩).1≠10 then []else [(⟨my.name,m1,nK,I,Z,J,decide (0<(Qt Lh sh I ⟨vn,vw,vs,va,vt⟩).1),[]⟩:Zb)])=_;rw[p2.out,<-g0.out]
    have w0:=M9 Lh sh I ⟨vn,vw,vs,va,vt⟩;clear hT a7 n8 n9 h5 n7 r0 b6 e8 h4;generalize (Qt Lh sh I ⟨vn,vw,vs,va,vt⟩)=P at *;obtain⟨pc,pL⟩:=P;dsimp only at *;by_cases o4:0<pc/\pc≠10
    ·rw[if_pos o4]at s1;obtain⟨i,hi,rfl⟩:∃i,(i=1∨i=3∨i=5∨i=6)/\ev=.iface 301 (.pointer (aa (ad i))):=by
      rcases i5 with⟨_,h1⟩|⟨i,_,h1,h2⟩
      ·omega
      ·exact⟨i,by omega,h1⟩
     obtain⟨ca,ta,ha⟩:=v9.out.row i (by omega);obtain⟨cb,tb,R1⟩:=v9.out.row 9 (by omega);obtain⟨n1,n2⟩:=Jqc (v9.out.ne i hi) ha R1;have o5:Hid (Q1 w B h S m (⟨m1,m2,⟨#[107,101,101,112]⟩,I,Z,J,m7,mL⟩:Zb) (.returned (.slice N 0 0)) w5):=tD f8.out r1.out s1.out;clear ha R1 d6 hi i5 w0 o4;go_wp2;go_ret;exact o5.out
    ·rw[if_neg o4]at s1;have o2:w5.cell? ⟨H,2,N⟩=aa (.string ⟨#[]⟩):=by simp[ac,d6]
     have o6:w5.cell? ⟨H,6,N⟩=aa (.bool F):=by simp[ac,d6]
     have fz:∀j,w5.frozen? ⟨H,j,N⟩=false:=fun j=>by simp[ak,d6]
     have x0:3 <H:=by have:=ZD (HX.out w nR (fun _ _ _=>rfl)).eZ.c9;have:=a6.out.2.2.2;omega
     have b5:Hid (∀W,ag H w5 W->(W.cell? ⟨3,0,N⟩=aa (.iface 301 (.pointer (aa (ad 9))))/\ag H w5 W)):=fun W hW=>⟨(hW.cell (p:=⟨3,0,N⟩) x0).trans g9,hW⟩
     have d4:Hid (∀w8,Hid (w8.heap[H]?=aa (.cells #[.string m2,.string m1,.string ⟨#[107,101,112,116]⟩,.string I,.int .i64 Z,.int .i64 J,.bool (decide (0<pc)),.slice N 0 0] 81 (0,0))/\(∀k,k<w5.heap.size->k≠H->w8.heap[k]?=w5.heap[k]?)/\ag H w5 w8)->∀w9,w9=w8.alloc (.cells #[.string m2,.string m1,.string ⟨#[107,101,112,116]⟩,.string I,.int .i64 Z,.int .i64 J,.bool (decide (0<pc)),.slice N 0 0] 81)->Q1 w B h S m (⟨m1,m2,⟨#[107,101,101,112]⟩,I,Z,J,m7,mL⟩:Zb) (.returned (.slice (aa ⟨w8.heap.size,0,N⟩) 1 1)) w9):=fun w8 a5 w9 f7=>by
      obtain⟨b4,r5,d7⟩:=a5.out;have c8:=Zk f7;have v3:w.heap.size<=H:=by have:=a6.out.2.2.2;omega
      have v4:ag w.heap.size w5 w9:=(d7.mono v3).trans (c8.mono (by have:=d7.size;have:=h6.out;omega));refine uZ (y:=(⟨m2,m1,nK,I,Z,J,decide (0<pc),[]⟩,(N,0,0))) (t:=81) f8.out r1.out v4 (fun k hk=>?_) ?_ ⟨rfl,Or.inl rfl,ab _,fun _=>⟨rfl,rfl⟩⟩ d7.size (fun b o e=>by cases e) s1.out
      ·rw[c8.block k (by have:=(f8.out.aO k hk).2;have:=d7.size;omega)];exact r5 k (f8.out.aO k hk).2 (fun e=>v1.out (by rw[<-e];exact hk))
      ·rw[f7];show(w8.heap.push _)[w8.heap.size]?=_;simp;rfl
     by_cases h0:pc=0
     ·obtain rfl:ev=.nilIface:=by
       rcases i5 with⟨h1,_⟩|⟨i,_,h1,h2⟩
       ·exact h1
       ·omega
      have n1:∀W,(binOp .eql 29 .nilIface (.iface 301 (.pointer (aa (ad 9))))).run prog W=.ok (.bool F) W:=fun W=>Jtd _ _ W
      have x1:Hid (decide (0<pc)=F):=by show _=_;exact decide_eq_false (by omega)
      rw[x1.out]at d4;clear d6 i5 w0 o4 h0 x0;go_wp2;go_region_held3 (fun W=>(W.cell? ⟨3,0,N⟩=aa (.iface 301 (.pointer (aa (ad 9))))/\ag H w5 W)) (first|assumption|exact b5.out _ bR.drew|exact b5.out _ bR|exact b5.out _ ((Below.refl H w5).setCell (p:=⟨H,2,N⟩) (ab H) _)|exact b5.out _ ((Below.refl H w5).setCell (p:=⟨H,2,N⟩) (ab H) _).drew|exact b5.out _ (((Below.refl H w5).setCell (p:=⟨H,2,N⟩) (ab H) _).setCell (p:=⟨H,6,N⟩) (ab H) _)|exact b5.out _ (((Below.refl H w5).setCell (p:=⟨H,2,N⟩) (ab H) _).setCell (p:=⟨H,6,N⟩) (ab H) _).drew) (fail)
      obtain⟨w8,a5⟩:=Xb (((w5.setCell ⟨H,2,N⟩ (.string ⟨#[107,101,112,116]⟩)).setCell ⟨H,6,N⟩ (.bool F)).drew);rw[<-a5];have b4:w8.heap[H]?=aa (.cells #[.string m2,.string m1,.string ⟨#[107,101,112,116]⟩,.string I,.int .i64 Z,.int .i64 J,.bool F,.slice N 0 0] 81 (0,0)):=by rw[a5];exact Qc (Qc r2.out 2 _) 6 _
      obtain⟨q0,q1,q2,q3,q4,q5,q6,q7⟩:=lF b4;have o5:Hid (∀w9,w9=w8.alloc (.cells #[.string m2,.string m1,.string ⟨#[107,101,112,116]⟩,.string I,.int .i64 Z,.int .i64 J,.bool F,.slice N 0 0] 81)->Q1 w B h S m (⟨m1,m2,⟨#[107,101,101,112]⟩,I,Z,J,m7,mL⟩:Zb) (.returned (.slice (aa ⟨w8.heap.size,0,N⟩) 1 1)) w9):=d4.out w8 ⟨b4,fun k _ f9=>by rw[a5];exact(ai _ _ _ _ f9).trans (ai _ _ _ _ f9),by rw[a5];exact(((ax H w5).setCell (p:=⟨H,2,N⟩) (ab H) _).setCell (p:=⟨H,6,N⟩) (ab H) _).drew⟩;clear a5 b4 d4 b5 n1 o2 o6 fz g9;go_wp2;go_ret;exact o5.out _ rfl
     ·obtain rfl:ev=.iface 301 (.pointer (aa (ad 9))):=by
       rcases i5 with⟨h1,_⟩|⟨i,_,h1,h2⟩
       ·omega
       ·obtain rfl:i=9:=by omega
        exact h1
      have n1:∀W,(binOp .eql 29 (.iface 301 (.pointer (aa (ad 9)))) (.iface 301 (.pointer (aa (ad 9))))).run prog W=.ok (.bool T) W:=fun W=>(AH (ad 9) W).1
      have n2:∀W,(binOp .neq 29 (.iface 301 (.pointer (aa (ad 9)))) (.iface 301 (.pointer (aa (ad 9))))).run prog W=.ok (.bool F) W:=fun W=>(AH (ad 9) W).2
      have x1:Hid (decide (0<pc)=T):=by show _=_;exact decide_eq_true (by omega)
      rw[x1.out]at d4;clear d6 i5 w0 o4 h0 x0;go_wp2;go_region_held3 (fun W=>(W.cell? ⟨3,0,N⟩=aa (.iface 301 (.pointer (aa (ad 9))))/\ag H w5 W)) (first|assumption|exact b5.out _ bR.drew|exact b5.out _ bR|exact b5.out _ ((Below.refl H w5).setCell (p:=⟨H,2,N⟩) (ab H) _)|exact b5.out _ ((Below.refl H w5).setCell (p:=⟨H,2,N⟩) (ab H) _).drew|exact b5.out _ (((Below.refl H w5).setCell (p:=⟨H,2,N⟩) (ab H) _).setCell (p:=⟨H,6,N⟩) (ab H) _)|exact b5.out _ (((Below.refl H w5).setCell (p:=⟨H,2,N⟩) (ab H) _).setCell (p:=⟨H,6,N⟩) (ab H) _).drew) (fail)
      obtain⟨w8,a5⟩:=Xb (((w5.setCell ⟨H,2,N⟩ (.string ⟨#[107,101,112,116]⟩)).setCell ⟨H,6,N⟩ (.bool T)).drew);rw[<-a5];have b4:w8.heap[H]?=aa (.cells #[.string m2,.string m1,.string ⟨#[107,101,112,116]⟩,.string I,.int .i64 Z,.int .i64 J,.bool T,.slice N 0 0] 81 (0,0)):=by rw[a5];exact Qc (Qc r2.out 2 _) 6 _
      obtain⟨q0,q1,q2,q3,q4,q5,q6,q7⟩:=lF b4;have o5:Hid (∀w9,w9=w8.alloc (.cells #[.string m2,.string m1,.string ⟨#[107,101,112,116]⟩,.string I,.int .i64 Z,.int .i64 J,.bool T,.slice N 0 0] 81)->Q1 w B h S m (⟨m1,m2,⟨#[107,101,101,112]⟩,I,Z,J,m7,mL⟩:Zb) (.returned (.slice (aa ⟨w8.heap.size,0,N⟩) 1 1)) w9):=d4.out w8 ⟨b4,fun k _ f9=>by rw[a5];exact(ai _ _ _ _ f9).trans (ai _ _ _ _ f9),by rw[a5];exact(((ax H w5).setCell (p:=⟨H,2,N⟩) (ab H) _).setCell (p:=⟨H,6,N⟩) (ab H) _).drew⟩;clear a5 b4 d4 b5 n1 n2 o2 o6 fz g9;go_wp2;go_ret;exact o5.out _ rfl
end
section
variable {w:World} {B h:Nat} {S:Nat->Prop} {m:Je} {mp:Option Nat} {D:DataW Value} {hb:Nat->Nat} {Sh:Nat->Nat->Prop}
theorem VS (J:ZF w B h S m mp D hb Sh)(x:Zb×Lv)(K:Jn w x)(a0:∀b o,x.2.1=aa ⟨b,o,N⟩->¬S b)(O:pR x.1)(Z:YQ x.1.config)(hX:∀W:World,w.heap.size<=W.heap.size->(∀k,k<w.heap.size->¬S k->W.heap[k]?=w.heap[k]?)->kN W ad):
 Calls prog 72 #[.pointer (aa ⟨h,0,N⟩),.agg #[.string x.1.from_,.string x.1.aP,.string x.1.kind,.string x.1.key,.int .i64 x.1.op,.int .i64 x.1.config,.bool x.1.shut,.slice x.2.1 x.2.2.1 x.2.2.2]] w fun e w'=>Q1 w B h S m x.1 e w':=by
 by_cases H:x.1.aP=m.name
 ·by_cases I:iN x.1
  ·cases U:m.held x.1.config with
   |none=>exact TE J x K O Z H I U
   |some my =>
    by_cases h1:x.1.kind=ZW
    ·exact zK J x K O Z H I (Or.inl h1) U a0 hX
    ·by_cases h2:x.1.kind=Q3
     ·exact zK J x K O Z H I (Or.inr (Or.inl h2)) U a0 hX
     ·by_cases h3:x.1.kind=Y3
      ·exact zK J x K O Z H I (Or.inr (Or.inr h3)) U a0 hX
      ·exact absurd ⟨h1,h2,Or.inl h3⟩ I.2
  ·exact VJ J x K O H I
 ·exact N3 J x K H
end
end Go.Proofs.YtflpelnbjekjbaaGreatDoor
