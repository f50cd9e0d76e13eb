/- Texts laid together. -/
import Derived.Test.YtgapmoniajcliaaGreatDoorV14
import Derived.Deep.WholeRow
set_option maxRecDepth 10000
set_option maxHeartbeats 16000000
open Option renaming some->aa,none->N
open Go.RowKit renaming Below->ab
open Go.Act renaming put->ac,eval->aN
open Go.AllReadyH renaming nil->ae,cons->aY
open Bool renaming true->af,false->ag,eq_false_iff->ay
open Go renaming Calls->ah,wp_region_still_tail->ai,Value->ax,wpStill_nil->za,Addr->zd,wpAnyH_done->zg,below_drewN->zh
open List renaming take_succ_cons->aj,drop_succ_cons->ak,take_zero->au,drop_zero->av,take_of_length_le->aC,nodup_nil->aF
open Or renaming inl->al,inr->ao
open Nat renaming le_succ->am,le_trans->ap,lt_of_lt_of_le->aR,lt_or_ge->bb,zero_le->bf,le_refl->bg
open Go.Lib renaming itoa->an,pow10Tab->aq,TabIs->ar,decDigits->aA
open Go.World renaming frozen?->az,setRow_alloc_new->aE,cell?_of_block->zb,cell?->zc
namespace Go.Proofs.YtgapmoniajcliaaGreatDoor
open Go.Proofs.Tryz
open Go.RowKit
variable {a:Za}{w W H V:World}{B h J mb D:Nat}{S:Nat->Prop}{Q:Ending->World->Prop}{m:Zb}{who op config:Int}{ad:Nat->zd}{nm key:BA}{c:Xg}{cf:FuncId}{b:eT}
def Qw (w:World)(B:Nat)(h:Nat)(S:Nat->Prop)(a:Za):Prop:=ZR 137 w B h S a/\JU a
theorem P2 (h:JU a)(m:Zb)(I:∀v∈m.L,Jt v):JU (a.aD m).1:=by
 by_cases B:a.aM m=af
 ·cases H:m.shut with
  |true =>
   rw[qQ B H h.st];exact h.ended (ao rfl)
  |false =>
   have D:=h.heard B I;rcases(EB h.st B).1 with e|e
   ·rw[H8 B H e];unfold fU;split
    ·exact D
    ·split
     ·exact(D.found e).ended (al rfl)
     ·exact(D.found e).keeps (by simp_all)
   ·rw[uB B H e];split
    ·exact D
    ·exact D.ended (al rfl)
 ·rw[pW (ay.2 B)];exact h
theorem CL (J:Qw w B h S a):ah prog 47 #[.pointer (aa ⟨h,0,N⟩)] w fun e w'=>e=.returned (.string a.st.word)/\ab w.heap.size w w':=by
 obtain⟨⟨_,_,_,_,_,_,_,_,_,_,D⟩,_⟩:=J;have H:=CU D;clear D;generalize a.st.word=K at *;go_enter func47,ntmps47;go_wp2_with fail
 refine H.mono ?_;rintro e O ⟨rfl,I⟩;go_wp2;go_ret;exact⟨rfl,I⟩
theorem AR (hc:Qw w B h S a):ah prog 82 #[.pointer (aa ⟨h,0,N⟩)] w fun e w'=>e=.returned (if a.st=.done/\a.found=af then .tuple #[.agg #[.int .i64 a.tag.1,.int .i64 a.tag.2],.string a.text,.bool af]else .tuple #[.agg #[.int .i64 0,.int .i64 0],.string ⟨#[]⟩,.bool ag])/\ab w.heap.size w w':=by
 obtain⟨⟨_,_,_,_,_,_,_,_,_,_,hp⟩,_⟩:=hc;obtain⟨w1,D⟩:=Xb (w.alloc (.cells #[.int .i64 0,.int .i64 0] 39));have I:=Zk D;have a0:=fQ D;have a2:=JH D;have Z:=JlK (hp.below I);obtain⟨J,K,O,U,ho⟩:∃J K O U,(if a.st=.done/\a.found=af then(.tuple #[.agg #[.int .i64 a.tag.1,.int .i64 a.tag.2],.string a.text,.bool af]:ax)else .tuple #[.agg #[.int .i64 0,.int .i64 0],.string ⟨#[]⟩,.bool ag])=.tuple #[.agg #[.int .i64 J,.int .i64 K],.string O,.bool U]:=by
  split
  ·exact⟨_,_,_,_,rfl⟩
  ·exact⟨_,_,_,_,rfl⟩
 rw[ho]at Z ⊢;have a3:Hid (ah prog 110 #[.pointer (aa ⟨h,0,N⟩)] w1 fun e w'=>e=.returned (.tuple #[.agg #[.int .i64 J,.int .i64 K],.string O,.bool U])/\Hid (ab w.heap.size w w')/\w'.heap[w.heap.size]?=aa (.cells #[.int .i64 0,.int .i64 0] 39 (0,0))):=Z.mono fun e w' hq=>⟨hq.1,I.trans (hq.2.mono I.size),(hq.2.block _ a0).trans a2⟩
 have a4:Hid _:=D;clear hp D I a0 a2 Z ho;go_enter func82,ntmps82;go_wp2_with (rw[<-a4.out])
 refine a3.out.mono ?_;rintro e w2 ⟨rfl,a5,H⟩;have k0:=(Jb H 0).1;have k1:=(Jb H 1).1;have f0:=(Jb H 0).2;have f1:=(Jb H 1).2;clear a3 H;go_wp2;exact bodyPost_ret (v:=.tuple #[.agg #[.int .i64 J,.int .i64 K],.string O,.bool U]) (by simp[results,results82,go_sem,k0,k1]) rfl ⟨rfl,(a5.out.setCell nR _).setCell nR _⟩
theorem yJ (hc:Qw w B h S a):ah prog 56 #[.pointer (aa ⟨h,0,N⟩)] w fun e w'=>(∃p c,e=.returned (.slice p a.begin.length c)/\QE c w.heap.size w' p a.begin)/\ab w.heap.size w w':=by
 obtain⟨⟨S0,P,F,T,asks,cv,aw,m,D,row,H⟩,J⟩:=hc;have I:=J.still;have K:a.begin=gZ a F asks:=by
  obtain⟨Z,e2⟩:=H.fF.sJ I;have O:=H.fF.kind;rw[I]at O;unfold Za.begin gZ Za.send;rw[I,Z,e2,O];rfl
 rw[K];have U:=KA H;clear H K I J;generalize gZ a F asks=R at *;go_enter func56,ntmps56;go_wp2_with fail
 refine U.mono ?_;rintro e w2 ⟨⟨p2,c2,rfl,a0⟩,a2⟩;clear U;go_wp2;go_ret;exact⟨⟨p2,c2,rfl,a0⟩,a2⟩
theorem NF (m1 m2 m3 H:BA)(I J:Int)(K:Bool)(O:Option zd)(U Z:Nat)(hq:ah prog 80 #[.pointer (aa ⟨h,0,N⟩),.agg #[.string m1,.string m2,.string m3,.string H,.int .i64 I,.int .i64 J,.bool K,.slice O U Z]] (w.alloc (.cells #[.string m1,.string m2,.string m3,.string H,.int .i64 I,.int .i64 J,.bool K,.slice O U Z] 90)).drew fun e w'=>(∃p n c,e=.returned (.slice p n c))/\Q e w'):
 ah prog 61 #[.pointer (aa ⟨h,0,N⟩),.agg #[.string m1,.string m2,.string m3,.string H,.int .i64 I,.int .i64 J,.bool K,.slice O U Z]] w Q:=by
 obtain⟨w2,D⟩:=Xb (w.alloc (.cells #[.string m1,.string m2,.string m3,.string H,.int .i64 I,.int .i64 J,.bool K,.slice O U Z] 90));rw[<-D]at hq;have B:=JH D;have g0:=(Jb B 0).1;have g1:=(Jb B 1).1;have g2:=(Jb B 2).1;have g3:=(Jb B 3).1;have g4:=(Jb B 4).1;have g5:=(Jb B 5).1;have g6:=(Jb B 6).1;have g7:=(Jb B 7).1;have a0:Hid _:=D;clear D B;go_enter func61,ntmps61;go_wp2;rw[<-a0.out];refine ai 4 (by kernel_rfl) (by kernel_rfl) ?_;simp only[aj,au,ak,av]
 still_step
 still_step
 still_step
 still_step
 refine za ?_;go_wp2_with fail
 refine hq.mono ?_;rintro e w3 ⟨⟨p3,n3,c3,rfl⟩,a2⟩;clear hq g0 g1 g2 g3 g4 g5 g6 g7;go_wp2;exact a2
theorem EK (ad:Nat->zd)(hc:Qw w B h S a)(x:Zb×Lv)(hL:Jn w x)(a3:a.small x.1)(hv:∀v∈x.1.L,Jt v)(hG:∀W:World,w.heap.size<=W.heap.size->(∀k,k<w.heap.size->¬S k->W.heap[k]?=w.heap[k]?)->Zp W ad/\∃z,W.cell? ⟨9,0,N⟩=aa (.iface 287 (.pointer (aa z)))):
 ah prog 61 #[.pointer (aa ⟨h,0,N⟩),Z1 x.1 (fI x.2)] w fun e w'=>∃I:Nat->Prop,(∃p c,e=.returned (.slice p (a.aD x.1).2.length c)/\Qp c (fun b=>w.heap.size<=b/\b<w'.heap.size/\¬I b) w' p (a.aD x.1).2)/\Qw w' B h I (a.aD x.1).1/\Yd S I w w':=by
 obtain⟨⟨S0,P,F,T,asks,cv,aw,m,D,row,hp⟩,hf⟩:=hc;obtain⟨⟨m1,m2,m3,J,K,O,U,mL⟩,Z,ln,lc⟩:=x;refine NF m1 m2 m3 J K O U Z ln lc ?_;have H:ab w.heap.size w (w.alloc (.cells #[.string m1,.string m2,.string m3,.string J,.int .i64 K,.int .i64 O,.bool U,.slice Z ln lc] 90)).drew:=(bR.alloc nR _).drew;generalize (w.alloc (.cells #[.string m1,.string m2,.string m3,.string J,.int .i64 K,.int .i64 O,.bool U,.slice Z ln lc] 90)).drew=w2 at *;have:=E6 ad (hp.below H) (⟨m1,m2,m3,J,K,O,U,mL⟩,(Z,ln,lc)) (fun _ h2=>absurd h2 hf.st) (hL.below H) a3 hv (fun W hs hk=>hG W (ap H.size hs) (fun k a0 a2=>(hk k (aR a0 H.size) a2).trans (H.block k a0)));refine this.mono fun e w' hq=>?_
 obtain⟨I,⟨p,c,e1,e2⟩,h2,h3⟩:=hq;exact⟨⟨p,_,c,e1⟩,I,⟨p,c,e1,e2.mono (fun b hb=>⟨ap H.size hb.1,hb.2⟩)⟩,⟨h2,P2 hf _ hv⟩,h3.since H⟩
def XM (w:World)(B:Nat)(h:Nat)(S:Nat->Prop)(a:Za):Prop:=ZR 135 w B h S a/\a.aI=af
def bG (m:Zb):Zb:=⟨m.from_,m.aP,m.kind,m.key,m.op,m.config,m.shut&&decide (m.kind≠Q7),m.L⟩
theorem A3 (a:Za)(m:Zb):a.aM (bG m)=a.aM m:=rfl
theorem BH (h:a.aM m=af):m.kind=a.st.waits:=by
 unfold Za.aM at h;rw[Bool.and_eq_true]at h;exact(of_decide_eq_true h.1).2.1
theorem PR (a:Za)(m:Zb):a.aD (bG m)=a.aD m:=by
 by_cases B:a.aM m=af
 ·by_cases D:a.st=.sealing
  ·rw[uQ (A3 a m▸B) D,uQ B D];rfl
  ·have I:=BH B;have J:m.kind≠Q7:=by
    rw[I];have K:=(Z9 B).1;rcases K with(e|e)|e
    ·rw[e];decide +kernel
    ·exact absurd e D
    ·rw[e];decide +kernel
   have e:bG m=m:=by
    unfold bG;rw[decide_eq_true J,Bool.and_true]
   rw[e]
 ·have H:a.aM m=false:=ay.2 B;rw[pW H,pW (by rw[A3];exact H)]
theorem OL (D:a.aM (bG m)=af)(H:a.st=.sealing):(bG m).shut=false:=by
 have B:=BH D;rw[H]at B;have:m.kind=Q7:=B;unfold bG;rw[this];simp
theorem JoE (a:Za)(m:Zb):(a.aD m).1.aI=a.aI:=by
 unfold Za.aD;split
 ·rfl
 ·split
  ·rfl
  ·split
   ·rfl
   ·split
    ·rfl
    ·split
     ·exact(YE (a.heard m)).2.2.2.1
     ·exact(Q2 _).2.2.2.2.1.trans (YE (a.heard m)).2.2.2.1
theorem L4 (h:a.small m):a.small (bG m):=h
theorem AK (J:XM w B h S a):ah prog 59 #[.pointer (aa ⟨h,0,N⟩)] w fun e w'=>e=.returned (.string a.st.word)/\ab w.heap.size w w':=by
 obtain⟨⟨_,_,_,_,_,_,_,_,_,_,D⟩,_⟩:=J;have H:=CU D;clear D;generalize a.st.word=K at *;go_enter func59,ntmps59;go_wp2_with fail
 refine H.mono ?_;rintro e O ⟨rfl,I⟩;go_wp2;go_ret;exact⟨rfl,I⟩
theorem VW (hc:XM w B h S a):ah prog 46 #[.pointer (aa ⟨h,0,N⟩)] w fun e w'=>(∃p c,e=.returned (.slice p a.begin.length c)/\QE c w.heap.size w' p a.begin)/\ab w.heap.size w w':=by
 have I:=AK hc;obtain⟨⟨S0,P,F,T,asks,cv,aw,m,D,row,J⟩,K⟩:=hc;by_cases H:a.st=.sealing
 ·have O:a.begin=gZ a F asks:=by
   obtain⟨_,e1,e2,_⟩:=J.fF.rC (ao H);have U:=J.fF.kind;rw[K]at U;unfold Za.begin gZ Za.send;rw[K,if_pos rfl,if_pos H,e1,e2,U];rfl
  rw[O];rw[H]at I;have a2:Hid (∀W,ab w.heap.size w W->ah prog 67 #[.pointer (aa ⟨h,0,N⟩)] W fun e w'=>(∃p c,e=.returned (.slice p (gZ a F asks).length c)/\QE c w.heap.size w' p (gZ a F asks))/\ab w.heap.size w w'):=fun W Z=>(KA (J.below Z)).mono fun e w' hq=>by
   obtain⟨⟨p,c,e1,e2⟩,U⟩:=hq;exact⟨⟨p,c,e1,e2.mono Z.size⟩,Z.trans (U.mono Z.size)⟩
  have a3:ah prog 59 #[.pointer (aa ⟨h,0,N⟩)] w fun e w'=>e=.returned (.string ⟨#[115,101,97,108,105,110,103]⟩)/\ab w.heap.size w w':=I
  clear J O K H I;generalize gZ a F asks=R at *;go_enter func46,ntmps46;go_wp2_with fail
  refine a3.mono ?_;rintro e w1 ⟨rfl,a0⟩;have a4:=a2.out w1 a0;clear a2 a3;go_wp2_with fail
  refine a4.mono ?_;rintro e w2 ⟨⟨p2,c2,rfl,a5⟩,a6⟩;clear a4;go_wp2;go_ret;exact⟨⟨p2,c2,rfl,a5⟩,a6⟩
 ·have O:a.begin= []:=by
   unfold Za.begin;rw[K,if_pos rfl,if_neg H]
  rw[O];have a7:¬a.st.word.toList=[115,101,97,108,105,110,103]:=by
   generalize a.st=st at *;cases st<;>first|exact absurd rfl H|decide +kernel
  have a8:(a.st.word.toList==[115,101,97,108,105,110,103])=false:=by
   generalize a.st=st at *;cases st<;>first|exact absurd rfl H|decide +kernel
  clear J O K H;generalize a.st.word=sw at *;go_enter func46,ntmps46;go_wp2_with fail
  refine I.mono ?_;rintro e w1 ⟨rfl,a0⟩;clear I;go_wp2;go_ret;exact⟨⟨N,0,rfl,QE.nil _ _⟩,a0⟩
theorem Jsc (m1 m2 m3 O:BA)(U Z:Int)(m7 s:Bool)(lp:Option zd)(ln lc:Nat)(H:s=(m7&&decide (m3≠Q7)))(D:ah prog 80 #[.pointer (aa ⟨h,0,N⟩),.agg #[.string m1,.string m2,.string m3,.string O,.int .i64 U,.int .i64 Z,.bool s,.slice lp ln lc]] (w.alloc (.cells #[.string m1,.string m2,.string m3,.string O,.int .i64 U,.int .i64 Z,.bool s,.slice lp ln lc] 90)).drew fun e w'=>(∃p n c,e=.returned (.slice p n c))/\Q e w'):
 ah prog 58 #[.pointer (aa ⟨h,0,N⟩),.agg #[.string m1,.string m2,.string m3,.string O,.int .i64 U,.int .i64 Z,.bool m7,.slice lp ln lc]] w Q:=by
 obtain⟨w2,K⟩:=Xb (w.alloc (.cells #[.string m1,.string m2,.string m3,.string O,.int .i64 U,.int .i64 Z,.bool s,.slice lp ln lc] 90));rw[<-K]at D;have B:=JH K;have g0:=(Jb B 0).1;have g1:=(Jb B 1).1;have g2:=(Jb B 2).1;have g3:=(Jb B 3).1;have g4:=(Jb B 4).1;have g5:=(Jb B 5).1;have g6:=(Jb B 6).1;have g7:=(Jb B 7).1;have a0:Hid _:=K;clear K B;cases m7 with
 |false =>
  obtain rfl:s=false:=by rw[H];rfl
  clear H;go_enter func58,ntmps58;go_wp2;rw[<-a0.out];refine ai 4 (by kernel_rfl) (by kernel_rfl) ?_;simp only[aj,au,ak,av]
  still_step
  still_step
  still_step
  still_step
  refine za ?_;go_wp2_with fail
  refine D.mono ?_;rintro e w3 ⟨⟨p3,n3,c3,rfl⟩,I⟩;clear D g0 g1 g2 g3 g4 g5 g6 g7;go_wp2;exact I
 |true =>
  by_cases J:m3=Q7
  ·obtain rfl:s=false:=by rw[H,J];simp
   subst J;clear H;unfold Q7 at *;go_enter func58,ntmps58;go_wp2;rw[<-a0.out];refine ai 4 (by kernel_rfl) (by kernel_rfl) ?_;simp only[aj,au,ak,av]
   still_step
   still_step
   still_step
   still_step
   refine za ?_;go_wp2_with fail
   refine D.mono ?_;rintro e w3 ⟨⟨p3,n3,c3,rfl⟩,I⟩;clear D g0 g1 g2 g3 g4 g5 g6 g7;go_wp2;exact I
  ·obtain rfl:s=true:=by rw[H];simp[J]
   have a2:¬m3.toList=[115,101,97,108,101,100]:=fun e=>J (by
    have:m3.toList=Q7.toList:=e.trans (by decide +kernel);rw[ByteArray.toList_eq,ByteArray.toList_eq]at this;exact ByteArray.ext (Array.toList_inj.1 this))
   have a3:(m3.toList==[115,101,97,108,101,100])=false:=by rw[beq_eq_false_iff_ne];exact a2
   clear H J;go_enter func58,ntmps58;go_wp2;rw[<-a0.out];refine ai 4 (by kernel_rfl) (by kernel_rfl) ?_;simp only[aj,au,ak,av]
   still_step
   still_step
   still_step
   still_step
   refine za ?_;go_wp2_with fail
   refine D.mono ?_;rintro e w3 ⟨⟨p3,n3,c3,rfl⟩,I⟩;clear D g0 g1 g2 g3 g4 g5 g6 g7;go_wp2;exact I
theorem LU (ad:Nat->zd)(hc:XM w B h S a)(x:Zb×Lv)(hL:Jn w x)(a4:a.small x.1)(hv:∀v∈x.1.L,Jt v)(hG:∀W:World,w.heap.size<=W.heap.size->(∀k,k<w.heap.size->¬S k->W.heap[k]?=w.heap[k]?)->Zp W ad/\∃z,W.cell? ⟨9,0,N⟩=aa (.iface 287 (.pointer (aa z)))):
 ah prog 58 #[.pointer (aa ⟨h,0,N⟩),Z1 x.1 (fI x.2)] w fun e w'=>∃J:Nat->Prop,(∃p c,e=.returned (.slice p (a.aD x.1).2.length c)/\Qp c (fun b=>w.heap.size<=b/\b<w'.heap.size/\¬J b) w' p (a.aD x.1).2)/\XM w' B h J (a.aD x.1).1/\Yd S J w w':=by
 obtain⟨⟨S0,P,F,T,asks,cv,aw,m,D,row,hp⟩,hm⟩:=hc;obtain⟨⟨m1,m2,m3,K,O,U,I,mL⟩,Z,ln,lc⟩:=x;refine Jsc m1 m2 m3 K O U I (I&&decide (m3≠Q7)) Z ln lc rfl ?_;have H:ab w.heap.size w (w.alloc (.cells #[.string m1,.string m2,.string m3,.string K,.int .i64 O,.int .i64 U,.bool (I&&decide (m3≠Q7)),.slice Z ln lc] 90)).drew:=(bR.alloc nR _).drew;generalize (w.alloc (.cells #[.string m1,.string m2,.string m3,.string K,.int .i64 O,.int .i64 U,.bool (I&&decide (m3≠Q7)),.slice Z ln lc] 90)).drew=w2 at *;have a2:Jn w2 (bG ⟨m1,m2,m3,K,O,U,I,mL⟩,(Z,ln,lc)):=⟨hL.len,(hL.below H).eC,hL.room,hL.empty⟩;have:=E6 ad (hp.below H) (bG ⟨m1,m2,m3,K,O,U,I,mL⟩,(Z,ln,lc)) (fun h1 h2=>OL h1 h2) a2 (L4 a4) hv (fun W hs hk=>hG W (ap H.size hs) (fun k a0 a3=>(hk k (aR a0 H.size) a3).trans (H.block k a0)));rw[PR]at this;refine this.mono fun e w' hq=>?_
 obtain⟨J,⟨p,c,e1,e2⟩,h2,h3⟩:=hq;exact⟨⟨p,_,c,e1⟩,J,⟨p,c,e1,e2.mono (fun b hb=>⟨ap H.size hb.1,hb.2⟩)⟩,⟨h2,by rw[JoE];exact hm⟩,h3.since H⟩
section
open Go.Shelf
theorem VP (n:Int) (J:-9223372036854775808<=n) (B:n<=9223372036854775807) (w:World) (K:ar prog w "internal/strconv.uint64pow10" .u64 aq):
 ah prog 81 #[.int .i64 n] w fun e w'=>e=.returned (.string ⟨(an n).toArray⟩)/\ab w.heap.size w w':=(Any.strconv_Itoa laysM171 n J B w K).mono fun e w' D=>by
 obtain⟨B,k,os,H⟩:=D;refine⟨B,?_⟩;subst H;exact⟨rfl,rfl,rfl,by show w.heap.size<=(w.heap++os).size;rw[Array.size_append];omega,fun j I=>by show(w.heap++os)[j]?=_;rw[Array.getElem?_append_left I]⟩
theorem yE:∀(k u:Nat),u<10^(k+1)->(aA u).length<=k+1
 |0,u,h=>by
  rw[aA,dif_pos (by simpa using h)];simp
 |k+1,u,h=>by
  rw[aA];split
  ·simp
  ·have:=yE k (u/10) (by rw[Nat.pow_succ]at h;omega);rw[List.length_append,List.length_singleton];omega
theorem VB (n:Int)(B:-9223372036854775808<=n)(D:n<=9223372036854775807):(⟨(an n).toArray⟩:BA).size<=30:=by
 show(an n).length<=30;unfold an;split
 ·have:=yE 19 n.natAbs (by omega);rw[List.length_cons];omega
 ·have:=yE 19 n.toNat (by omega);omega
theorem TabIs.dJ {w':World} (h:ar prog w "internal/strconv.uint64pow10" .u64 aq) (I:∀k,k<w.heap.size->w'.heap[k]?=w.heap[k]?):ar prog w' "internal/strconv.uint64pow10" .u64 Lib.pow10Tab:=by
 unfold ar World.var? at *;cases D:prog.globalNamed "internal/strconv.uint64pow10" with
 |none=>rw[D]at h;cases h
 |some g =>
  rw[D]at h;simp only[Option.bind_some]at h ⊢;have H:g<w.heap.size:=by
   rcases bb g w.heap.size with B|B
   ·exact B
   ·rw[Array.getElem?_eq_none B]at h;cases h
  rw[I g H];exact h
end
theorem IP (D:0<=who)(H:who<6):(⟨#[99]⟩:BA)++⟨(an who).toArray⟩=JY who:=by
 obtain⟨i,rfl⟩:∃i:Nat,who=(i:Int):=⟨who.toNat,by omega⟩;have B:i<6:=by omega
 have e:an (i:Int)=[UInt8.ofNat (48+i)]:=by
  unfold an;rw[if_neg (by omega),Int.toNat_natCast,aA,dif_pos (by omega)]
 rw[e]
 match i,B with
 |0,_=>decide +kernel
 |1,_=>decide +kernel
 |2,_=>decide +kernel
 |3,_=>decide +kernel
 |4,_=>decide +kernel
 |5,_=>decide +kernel
theorem DB (who:Int) (B:Zt who) (w:World) (U:ar prog w "internal/strconv.uint64pow10" .u64 aq):
 ah prog 60 #[.int .i64 who] w fun e w'=>e=.returned (.string (⟨#[99]⟩++⟨(an who).toArray⟩))/\ab w.heap.size w w':=by
 have I:=VP who B.1 B.2 w U;obtain⟨D,J⟩:∃D:BA,D=⟨(an who).toArray⟩:=⟨_,rfl⟩;have K:=VB who B.1 B.2;rw[<-J]at I K ⊢;obtain⟨nm,H⟩:∃nm:BA,nm=⟨#[99]⟩++D:=⟨_,rfl⟩;rw[<-H];have a0:∀W:World,Sem.run prog (Op.stringOp .add ⟨#[99]⟩ D) W=.ok (.string nm) W:=fun W=>by
  rw[H];exact run_string_add_sum W _ _ (by show 1+_<=_;omega)
 clear J H K U B;go_enter func60,ntmps60;go_wp2_with fail
 refine I.mono ?_;rintro e Z ⟨rfl,O⟩;have HB:Hid (ab w.heap.size w Z):=O;clear O;go_wp2;go_ret;exact⟨rfl,HB.out⟩
def ZG (who op config:Int)(c:Xg)(key:BA):Int×Int:=if 0<(Jg c).1 then Jg c else if Jo key=ag then(4,-1)else if 0<=who/\who<6/\0<=op/\0<=config then(0,-1)else(2,-1)
theorem SI (who op config:Int)(c:Xg)(key:BA):ZG who op config c key=if 0<(Xz c c key op config config).1 then Xz c c key op config config else if 0<=who/\who<6 then(0,-1)else(2,-1):=by
 by_cases B:0<(Jg c).1
 ·have J:ZG who op config c key=Jg c:=if_pos B;have D:Xz c c key op config config=Jg c:=if_pos B;rw[J,D,if_pos B]
 ·by_cases I:Jo key=ag
  ·have J:ZG who op config c key=(4,-1):=by unfold ZG;rw[if_neg B,if_pos I]
   have D:Xz c c key op config config=(4,-1):=by unfold Xz;rw[if_neg B,if_neg B,if_pos I]
   rw[J,D];rfl
  ·by_cases H:0<=op/\0<=config
   ·have D:Xz c c key op config config=(0,-1):=by unfold Xz;rw[if_neg B,if_neg B,if_neg I,if_pos ⟨H.1,H.2,H.2⟩]
    rw[D,if_neg (by decide)];unfold ZG;rw[if_neg B,if_neg I];by_cases K:0<=who/\who<6
    ·rw[if_pos K,if_pos ⟨K.1,K.2,H.1,H.2⟩]
    ·rw[if_neg K,if_neg (fun h=>K ⟨h.1,h.2.1⟩)]
   ·have J:ZG who op config c key=(2,-1):=by unfold ZG;rw[if_neg B,if_neg I,if_neg (fun h=>H ⟨h.2.2.1,h.2.2.2⟩)]
    have D:Xz c c key op config config=(2,-1):=by unfold Xz;rw[if_neg B,if_neg B,if_neg I,if_neg (fun h=>H ⟨h.1,h.2.1⟩)]
    rw[J,D];rfl
theorem ZX.off {I:Nat}{f t:Xg}(h:ZX w W I J mb f t)(K:∀k,k≠B->H.heap[k]?=W.heap[k]?)(Z:H.heap.size=W.heap.size)(O:I≠B/\J≠B/\mb≠B):ZX w H I J mb f t :=
 ⟨h.sf.same (by omega) (fun b o e=>K b (by injection e with D;injection D with U;have:=O.1;omega)),h.st.same (by omega) (fun b o e=>K b (by injection e with D;injection D with U;have:=O.2.1;omega)),(K mb O.2.2).trans h.mp,by have:=h.gR;omega,by have:=h.gX;omega,by have:=h.iX;omega,h.ne⟩
def jN (ad:Nat->zd)(nm key:BA)(op config:Int)(c:Xg)(cf:FuncId)(I:Array ax)(V W:World)(cells:Array ax)(H:ax):Prop :=
 (0<(Xz c c key op config config).1/\cells=Jj/\Jd W ad H (Xz c c key op config config).1 (Xz c c key op config config).2)∨(Xz c c key op config config=(0,-1)/\(¬0<(Jg c).1/\Jo key=af/\0<=op/\0<=config)/\H=.nilIface/\∃B D mb,cells=Xl nm key op c B config c D config ⟨#[108,111,111,107]⟩ ⟨#[116,111,108,100]⟩ ⟨#[108,111,111,107,105,110,103]⟩ (.func (.func cf) #[] I) mb/\ZX V W B D mb c c)
theorem jN.cells {B:Array ax}{cells:Array ax}{D:ax}(h:jN ad nm key op config c cf B V W cells D):(prog.info? 129).map (·.size)=aa cells.size/\Jj.size=cells.size/\cells.all (·.oneCell')=true:=by
 rcases h with⟨_,rfl,_⟩|⟨_,_,_,H,I,mb,rfl,_⟩
 ·exact⟨YI,rfl,nQ⟩
 ·exact⟨nG _ _ _ _ _ _ _ _ _ _ _ _ _ _,rfl,vT _ _ _ _ _ _ _ _ _ _ _ _ _ _ _⟩
theorem jN.below {I:Array ax}{J:World}{cells:Array ax}{K:ax}(h:jN ad nm key op config c cf I V W cells K)(O:ab W.heap.size W J):jN ad nm key op config c cf I V J cells K:=by
 rcases h with⟨B,D,H⟩|⟨B,D,H,U,Z,mb,h4,h5⟩
 ·exact al ⟨B,D,H.below O⟩
 ·exact ao ⟨B,D,H,U,Z,mb,h4,h5.below O⟩
theorem jN.store {a0:Array ax}{V0:World}{cells:Array ax}{ev:ax}(h:jN ad nm key op config c cf a0 V W cells ev)(hb:W.heap[J]?=aa (.cells Jj 129 (0,0)))(hv:V0.heap.size<=V.heap.size)(I:J<V.heap.size∨∃K:World,K.heap.size<=J/\jN ad nm key op config c cf a0 V K cells ev):jN ad nm key op config c cf a0 V0 (W.setRow J cells) cells ev:=by
 obtain⟨r1,r2,r3,r4,r5,r6⟩:=XZ cells hb;rcases h with⟨D,O,U⟩|⟨D,O,U,gf,gt,mb,h4,H⟩
 ·exact al ⟨D,O,U.off (Jb hb 0).1 r3⟩
 ·refine ao ⟨D,O,U,gf,gt,mb,h4,(H.off r3 r2 ?_).base hv⟩;rcases I with I|⟨K,hw,I⟩
  ·have:=H.gR;have:=H.gX;have:=H.iX;omega
  ·rcases I with⟨g1,_⟩|⟨_,_,_,a4,a5,a6,B,Z⟩
   ·rw[D]at g1;exact absurd g1 (by decide)
   ·rw[h4]at B;unfold Xl at B;have e1:gf=a4/\gt=a5/\mb=a6:=by
     injection B with B
     simp only[List.cons.injEq,Value.slice.injEq,Value.map.injEq,Option.some.injEq,Addr.mk.injEq]at B;obtain⟨_,_,_,_,_,⟨⟨a1,_⟩,_⟩,_,_,_,a2,_,_,_,_,_,_,⟨⟨a3,_⟩,_⟩,_⟩:=B;exact⟨a1,a3,a2⟩
    have:=Z.gR;have:=Z.gX;have:=Z.iX;omega
theorem F1 (ad:Nat->zd) (who op config:Int) (c:Xg) (p:Option zd) (cap:Nat) (key:BA) (cf:FuncId) (a4:Array ax) (w:World) (hc:Yn w c p cap) (f9:Zt who) (hE:Zp w ad) (hT:ar prog w "internal/strconv.uint64pow10" .u64 aq):
 ah prog 77 #[.int .i64 who,.int .i64 op,.agg #[.int .i64 c.n,.int .i64 c.k,.slice p c.L.length cap],.int .i64 config,.string key,.func (.func cf) #[] a4] w fun e w'=>(∃ev,Jd w' ad ev (ZG who op config c key).1 (ZG who op config c key).2/\((0<(ZG who op config c key).1/\e=.returned (.tuple #[.pointer N,ev]))∨(ZG who op config c key=(0,-1)/\∃h U gt mb,e=.returned (.tuple #[.pointer (aa ⟨h,0,N⟩),ev])/\w'.heap[h]?=aa (.cells (Xl (JY who) key op c U config c gt config ⟨#[108,111,111,107]⟩ ⟨#[116,111,108,100]⟩ ⟨#[108,111,111,107,105,110,103]⟩ (.func (.func cf) #[] a4) mb) 137 (0,0))/\ZX w w' U gt mb c c/\(w.heap.size<=h/\h<w'.heap.size)/\h≠U/\h≠gt/\h≠mb)))/\ab w.heap.size w w':=by
 obtain⟨w1,b6⟩:=Xb (w.alloc (.cells #[.int .i64 c.n,.int .i64 c.k,.slice p c.L.length cap] 49));have d8:=Zk b6;have d9:=QT b6;have d2:=JH b6;have c0:=(Jb d2 0).1;have c1:=(Jb d2 1).1;have c2:=(Jb d2 2).1;obtain⟨H,d3⟩:=Xb (w1.alloc (.cells #[.int .i64 c.n,.int .i64 c.k,.slice p c.L.length cap,.int .i64 config] 121));have f3:=Zk d3;have b4:=d8.trans (f3.mono d8.size);have e0:H.heap[w.heap.size+1]?=aa (.cells #[.int .i64 c.n,.int .i64 c.k,.slice p c.L.length cap,.int .i64 config] 121 (0,0)):=by
  rw[d3,<-d9];show(w1.heap.push _)[w1.heap.size]?=_;simp
 obtain⟨nm,e1⟩:∃nm:BA,nm=⟨#[99]⟩++⟨(an who).toArray⟩:=⟨_,rfl⟩;have b5:Hid (∀W,ab H.heap.size H W->ah prog 60 #[.int .i64 who] W fun e w'=>e=.returned (.string nm)/\ab W.heap.size W w'):=fun W hW=>by
  rw[e1];exact DB who f9 W (TabIs.dJ hT (fun k hk=>(b4.trans (hW.mono b4.size)).block k hk))
 have a9:Hid (∀W,ab H.heap.size H W->ah prog 64 #[.agg #[.string nm,.string key,.int .i64 op,.int .i64 c.n,.int .i64 c.k,.slice p c.L.length cap,.int .i64 config,.int .i64 c.n,.int .i64 c.k,.slice p c.L.length cap,.int .i64 config,.string ⟨#[108,111,111,107]⟩,.string ⟨#[116,111,108,100]⟩,.string ⟨#[108,111,111,107,105,110,103]⟩,.func (.func cf) #[] a4]] W fun e w'=>∃cells ev,e=.returned (.tuple #[.agg cells,ev])/\Hid (jN ad nm key op config c cf a4 W w' cells ev)/\ab W.heap.size W w'):=fun W hW=>by
  have e2:=b4.trans (hW.mono b4.size);refine(GA ad nm key op c c config config p p cap cap ⟨#[108,111,111,107]⟩ ⟨#[116,111,108,100]⟩ ⟨#[108,111,111,107,105,110,103]⟩ cf a4 W (hc.below e2) (hc.below e2) (hE.below e2)).mono fun e w' hq=>?_
  obtain⟨⟨h1,ev,h2,h3⟩|⟨h1,h2,U,gt,mb,h3,h4⟩,h5⟩:=hq
  ·exact⟨_,_,h2,al ⟨h1,rfl,h3⟩,h5⟩
  ·exact⟨_,_,h3,ao ⟨h1,⟨h2.1,h2.2.2.1,h2.2.2.2.1,h2.2.2.2.2.1⟩,rfl,U,gt,mb,rfl,h4⟩,h5⟩
 have g0:Hid (0<=who/\who<6->nm=JY who):=fun h=>by rw[e1];exact IP h.1 h.2
 have g3:Hid _:=b6;have f4:Hid _:=d3;have g4:Hid _:=d9;have e3:Hid _:=b4;have g5:Hid _:=hE;have O:Hid (∀W,ab H.heap.size H W->(W.cell? (pA (w.heap.size+1) 0)=aa (.int .i64 c.n)/\W.cell? (pA (w.heap.size+1) 1)=aa (.int .i64 c.k)/\W.cell? (pA (w.heap.size+1) 2)=aa (.slice p c.L.length cap)/\W.cell? (pA (w.heap.size+1) 3)=aa (.int .i64 config))):=fun W hW=>by
  have hp:=(hW.block _ (YG e0)).trans e0;exact⟨(Jb hp 0).1,(Jb hp 1).1,(Jb hp 2).1,(Jb hp 3).1⟩
 have a6:Hid (∀W:World,ab W.heap.size W (W.alloc (.cells #[.string ⟨#[]⟩,.string ⟨#[]⟩,.int .i64 0,.int .i64 0,.int .i64 0,.slice N 0 0,.int .i64 0,.string ⟨#[]⟩,.int .i64 0,.map N,.int .i64 0,.int .i64 0,.slice N 0 0,.int .i64 0,.int .i64 0,.int .i64 0,.slice N 0 0,.int .i64 0,.string ⟨#[]⟩,.nilFunc,.string ⟨#[]⟩,.int .i64 0,.int .i64 0,.string ⟨#[]⟩,.bool ag] 129))/\(W.alloc (.cells #[.string ⟨#[]⟩,.string ⟨#[]⟩,.int .i64 0,.int .i64 0,.int .i64 0,.slice N 0 0,.int .i64 0,.string ⟨#[]⟩,.int .i64 0,.map N,.int .i64 0,.int .i64 0,.slice N 0 0,.int .i64 0,.int .i64 0,.int .i64 0,.slice N 0 0,.int .i64 0,.string ⟨#[]⟩,.nilFunc,.string ⟨#[]⟩,.int .i64 0,.int .i64 0,.string ⟨#[]⟩,.bool ag] 129)).heap[W.heap.size]?=aa (.cells Jj 129 (0,0))/\(W.alloc (.cells #[.string ⟨#[]⟩,.string ⟨#[]⟩,.int .i64 0,.int .i64 0,.int .i64 0,.slice N 0 0,.int .i64 0,.string ⟨#[]⟩,.int .i64 0,.map N,.int .i64 0,.int .i64 0,.slice N 0 0,.int .i64 0,.int .i64 0,.int .i64 0,.slice N 0 0,.int .i64 0,.string ⟨#[]⟩,.nilFunc,.string ⟨#[]⟩,.int .i64 0,.int .i64 0,.string ⟨#[]⟩,.bool ag] 129)).heap.size=W.heap.size+1):=fun W=>⟨bR.alloc nR _,(by show(W.heap.push _)[W.heap.size]?=_;simp;rfl),by simp⟩
 have f5:=SI who op config c key;have f6:Hid _:=f5;clear b6 d3 d8 f3 b4 d2 e0 d9 hc hE hT f9 e1 f5;go_enter func77,ntmps77;go_wp2_with (first|rw[<-g3.out]|rw[<-f4.out,g4.out]|rw[<-f4.out]|fail)
 go_cut [15,16]from 20 to 31 (fun v ev W=>∃eb cells,v=.pointer (aa (pA eb 0))/\H.heap.size<=eb/\W.heap[eb]?=aa (.cells cells 129 (0,0))/\jN ad nm key op config c cf a4 H W cells ev/\ab H.heap.size H W)
 case first =>
  have d4:ab H.heap.size H H.drew:=bR.drew;refine wp_region_held_drew (S:=fun W=>(W.cell? (pA (w.heap.size+1) 0)=aa (.int .i64 c.n)/\W.cell? (pA (w.heap.size+1) 1)=aa (.int .i64 c.k)/\W.cell? (pA (w.heap.size+1) 2)=aa (.slice p c.L.length cap)/\W.cell? (pA (w.heap.size+1) 3)=aa (.int .i64 config))) (by kernel_rfl) (O.out _ d4) (fun D=>?_);refine tk 0 _ D ?_;refine tk 2 _ D ?_;refine tk 3 _ D ?_;refine tk 4 _ D ?_;refine tk 5 _ D ?_;refine tk 6 _ D ?_;simp only[ac,sA,sZ,sS];refine rdy 1 [12] _ (fun K B=>?_) ?_
  ·skip
   go_simp;go_at_call 60
   refine(b5.out _ d4).mono ?_;rintro e w6 ⟨rfl,d5⟩;have Z:=d4.trans (d5.mono d4.size);first|(refine B.out _ _ ?_ (fun D=>?_))|(go_wp2_with fail;refine B.out _ _ ?_ (fun D=>?_))
   ·exact O.out _ Z
   clear B K;try simp only[ac,sA,sZ,sS]
   refine tk 7 _ D ?_;simp only[ac,sA,sZ,sS];refine rdy 8 [12] _ (fun K B=>?_) ?_
   ·skip
    go_simp;go_at_call 64
    refine(a9.out _ Z).mono ?_;rintro e w7 ⟨cells,ev,rfl,a5,b0⟩;have I:=Z.trans (b0.mono Z.size);first|(refine B.out _ _ ?_ (fun D=>?_))|(go_wp2_with fail;refine B.out _ _ ?_ (fun D=>?_))
    ·exact O.out _ I
    clear B K;try simp only[ac,sA,sZ,sS]
    refine tk 9 _ D ?_;refine tk 10 _ D ?_;refine tk 11 _ D ?_;simp only[ac,sA,sZ,sS];refine rdy 12 [] _ (fun K B=>?_) ae;go_simp;obtain⟨wa,a0⟩:=Xb (w7.alloc (.cells #[.string ⟨#[]⟩,.string ⟨#[]⟩,.int .i64 0,.int .i64 0,.int .i64 0,.slice N 0 0,.int .i64 0,.string ⟨#[]⟩,.int .i64 0,.map N,.int .i64 0,.int .i64 0,.slice N 0 0,.int .i64 0,.int .i64 0,.int .i64 0,.slice N 0 0,.int .i64 0,.string ⟨#[]⟩,.nilFunc,.string ⟨#[]⟩,.int .i64 0,.int .i64 0,.string ⟨#[]⟩,.bool ag] 129));obtain⟨a7,a2,e4⟩:=a6.out w7;rw[<-a0]at a7 a2 e4;rw[<-a0];have J:=I.trans (a7.mono I.size);refine B.out _ _ ?_ (fun D=>?_)
    ·exact O.out _ J
    clear B K a0;try simp only[ac,sA,sZ,sS]
    have g6:=a5.out.below a7;have b7:=g6.store a2 Z.size (ao ⟨w7,bg _,a5.out⟩);obtain⟨y1,y2,y3⟩:=a5.out.cells;obtain⟨r1,r2,r3,r4,r5,r6⟩:=XZ cells a2;have z0:=I.size;have a8:ab H.heap.size H (wa.setRow w7.heap.size cells):=⟨r4.trans J.os,r5.trans J.tape,r6.trans J.output,by rw[r2];exact J.size,fun k hk=>(r3 k (by omega)).trans (J.block k hk)⟩;refine rdy 13 [] _ (fun K B=>?_) ae;refine ZB rfl 129 (.tmp 15) (.tmp 30) rfl w7.heap.size cells (by simp[aN]) (by simp[aN]) 129 Jj a2 y1 y2 y3 ?_;refine B.out _ _ ?_ (fun D=>?_)
    ·exact O.out _ a8
    clear B K;try simp only[ac]
    refine tk 14 _ D ?_;simp only[ac,sA,sZ,sS];refine zg (by kernel_rfl) ?_ _;go_wp2_with fail
    go_meet
    exact⟨_,cells,rfl,z0,r1,b7,a8⟩
   ·refine aY (o:=⟨aa 15,.alloc 129,0, "ask.go:75",#[],N⟩) rfl (fun K B=>?_) ae;go_simp;obtain⟨wa,a0⟩:=Xb (w6.alloc (.cells #[.string ⟨#[]⟩,.string ⟨#[]⟩,.int .i64 0,.int .i64 0,.int .i64 0,.slice N 0 0,.int .i64 0,.string ⟨#[]⟩,.int .i64 0,.map N,.int .i64 0,.int .i64 0,.slice N 0 0,.int .i64 0,.int .i64 0,.int .i64 0,.slice N 0 0,.int .i64 0,.string ⟨#[]⟩,.nilFunc,.string ⟨#[]⟩,.int .i64 0,.int .i64 0,.string ⟨#[]⟩,.bool ag] 129));obtain⟨a7,a2,e4⟩:=a6.out w6;rw[<-a0]at a7 a2 e4;rw[<-a0];have J:=Z.trans (a7.mono Z.size);refine B.out _ _ ?_ (fun D=>?_)
    ·exact O.out _ J
    clear B K a0;try simp only[ac,sA,sZ,sS]
    refine rdy 8 [] _ (fun K B=>?_) ae;go_simp;go_at_call 64
    refine(a9.out _ J).mono ?_;rintro e w7 ⟨cells,ev,rfl,a5,b0⟩;have I:=J.trans (b0.mono J.size);have b1:=(b0.block _ (YG a2)).trans a2;first|(refine B.out _ _ ?_ (fun D=>?_))|(go_wp2_with fail;refine B.out _ _ ?_ (fun D=>?_))
    ·exact O.out _ I
    clear B K;try simp only[ac,sA,sZ,sS]
    refine tk 9 _ D ?_;refine tk 10 _ D ?_;refine tk 11 _ D ?_;simp only[ac,sA,sZ,sS];have b7:=a5.out.store b1 J.size (al (YG a2));obtain⟨y1,y2,y3⟩:=a5.out.cells;obtain⟨r1,r2,r3,r4,r5,r6⟩:=XZ cells b1;have z0:=Z.size;have a8:ab H.heap.size H (w7.setRow w6.heap.size cells):=⟨r4.trans I.os,r5.trans I.tape,r6.trans I.output,by rw[r2];exact I.size,fun k hk=>(r3 k (by omega)).trans (I.block k hk)⟩;refine rdy 13 [] _ (fun K B=>?_) ae;refine ZB rfl 129 (.tmp 15) (.tmp 30) rfl w6.heap.size cells (by simp[aN]) (by simp[aN]) 129 Jj b1 y1 y2 y3 ?_;refine B.out _ _ ?_ (fun D=>?_)
    ·exact O.out _ a8
    clear B K;try simp only[ac]
    refine tk 14 _ D ?_;simp only[ac,sA,sZ,sS];refine zg (by kernel_rfl) ?_ _;go_wp2_with fail
    go_meet
    exact⟨_,cells,rfl,z0,r1,b7,a8⟩
  ·refine aY (o:=⟨aa 15,.alloc 129,0, "ask.go:75",#[],N⟩) rfl (fun K B=>?_) ae;go_simp;obtain⟨wa,a0⟩:=Xb ((H.alloc (.cells #[.string ⟨#[]⟩,.string ⟨#[]⟩,.int .i64 0,.int .i64 0,.int .i64 0,.slice N 0 0,.int .i64 0,.string ⟨#[]⟩,.int .i64 0,.map N,.int .i64 0,.int .i64 0,.slice N 0 0,.int .i64 0,.int .i64 0,.int .i64 0,.slice N 0 0,.int .i64 0,.string ⟨#[]⟩,.nilFunc,.string ⟨#[]⟩,.int .i64 0,.int .i64 0,.string ⟨#[]⟩,.bool ag] 129)).drew);have a7:ab H.heap.size H wa:=by rw[a0];exact(a6.out H).1.drew
   have a2:wa.heap[H.heap.size]?=aa (.cells Jj 129 (0,0)):=by rw[a0];exact(a6.out H).2.1
   rw[<-a0];have J:=a7;refine B.out _ _ ?_ (fun D=>?_)
   ·exact O.out _ J
   clear B K a0;try simp only[ac,sA,sZ,sS]
   refine rdy 1 [] _ (fun K B=>?_) ae;go_simp;go_at_call 60
   refine(b5.out _ J).mono ?_;rintro e w6 ⟨rfl,d5⟩;have Z:=J.trans (d5.mono J.size);have e5:=(d5.block _ (YG a2)).trans a2;first|(refine B.out _ _ ?_ (fun D=>?_))|(go_wp2_with fail;refine B.out _ _ ?_ (fun D=>?_))
   ·exact O.out _ Z
   clear B K;try simp only[ac,sA,sZ,sS]
   refine tk 7 _ D ?_;simp only[ac,sA,sZ,sS];refine rdy 8 [] _ (fun K B=>?_) ae;go_simp;go_at_call 64
   refine(a9.out _ Z).mono ?_;rintro e w7 ⟨cells,ev,rfl,a5,b0⟩;have I:=Z.trans (b0.mono Z.size);have b1:=(b0.block _ (YG e5)).trans e5;first|(refine B.out _ _ ?_ (fun D=>?_))|(go_wp2_with fail;refine B.out _ _ ?_ (fun D=>?_))
   ·exact O.out _ I
   clear B K;try simp only[ac,sA,sZ,sS]
   refine tk 9 _ D ?_;refine tk 10 _ D ?_;refine tk 11 _ D ?_;simp only[ac,sA,sZ,sS];have b7:=a5.out.store b1 Z.size (al (YG e5));obtain⟨y1,y2,y3⟩:=a5.out.cells;obtain⟨r1,r2,r3,r4,r5,r6⟩:=XZ cells b1;have z0:H.heap.size<=H.heap.size:=bg _;have a8:ab H.heap.size H (w7.setRow H.heap.size cells):=⟨r4.trans I.os,r5.trans I.tape,r6.trans I.output,by rw[r2];exact I.size,fun k hk=>(r3 k (by omega)).trans (I.block k hk)⟩;refine rdy 13 [] _ (fun K B=>?_) ae;refine ZB rfl 129 (.tmp 15) (.tmp 30) rfl H.heap.size cells (by simp[aN]) (by simp[aN]) 129 Jj b1 y1 y2 y3 ?_;refine B.out _ _ ?_ (fun D=>?_)
   ·exact O.out _ a8
   clear B K;try simp only[ac]
   refine tk 14 _ D ?_;simp only[ac,sA,sZ,sS];refine zg (by kernel_rfl) ?_ _;go_wp2_with fail
   go_meet
   exact⟨_,cells,rfl,z0,r1,b7,a8⟩
 case rest =>
  obtain⟨eb,cells,rfl,i1,c8,hN,d0⟩:=hcut;have b2:Hid _:=e3.out.trans (d0.mono e3.out.size);have g7:=(g5.out.below b2.out).c1;rcases hN with⟨d6,rfl,e6⟩|⟨d7,e7,rfl,U,gt,mb,rfl,b3⟩
  ·have a3:Hid (ZG who op config c key=Xz c c key op config config):=by show _=_;rw[f6.out,if_pos d6]
   have g8:Hid _:=e6;have g9:Hid _:=d6;obtain⟨et,eu,rfl⟩:=e6.some d6;clear e6 d6 b5 a9 O a6 c8 d0 g7 c0 c1 c2;go_wp2
   go_ret2
   exact⟨⟨.iface et eu,by rw[a3.out];exact g8.out,al ⟨by rw[a3.out];exact g9.out,rfl⟩⟩,b2.out⟩
  ·have e8:Hid (ZG who op config c key=if 0<=who/\who<6 then(0,-1)else(2,-1)):=by show _=_;rw[f6.out,if_neg (by rw[d7];decide)]
   by_cases g1:who<0
   ·have a3:Hid (ZG who op config c key=(2,-1)):=by show _=_;rw[e8.out,if_neg (by omega)]
    have h0:=decide_eq_true g1;clear b5 a9 O a6 c8 d0 c0 c1 c2 d7 e7 b3 g1;go_wp2;go_quiet (fail)
    go_wp2
    go_ret2
    exact⟨⟨.iface 287 (.pointer (aa (ad 1))),by rw[a3.out];exact Jd.b8 1 (by decide),al ⟨by rw[a3.out];decide,rfl⟩⟩,zh b2.out _⟩
   ·have h0:decide (who<0)=false:=decide_eq_false g1;by_cases g2:6<=who
    ·have a3:Hid (ZG who op config c key=(2,-1)):=by show _=_;rw[e8.out,if_neg (by omega)]
     have h6:=decide_eq_true g2;clear b5 a9 O a6 c8 d0 c0 c1 c2 d7 e7 b3 g1 g2;go_wp2;go_quiet (fail)
     go_wp2
     go_ret2
     exact⟨⟨.iface 287 (.pointer (aa (ad 1))),by rw[a3.out];exact Jd.b8 1 (by decide),al ⟨by rw[a3.out];decide,rfl⟩⟩,zh b2.out _⟩
    ·have a3:Hid (ZG who op config c key=(0,-1)):=by show _=_;rw[e8.out,if_pos (by omega)]
     have h6:=decide_eq_false g2;obtain⟨w5,d1⟩:=Xb (wc.alloc (.cells (Xl nm key op c U config c gt config ⟨#[108,111,111,107]⟩ ⟨#[116,111,108,100]⟩ ⟨#[108,111,111,107,105,110,103]⟩ (.func (.func cf) #[] a4) mb) 137));have e9:=Zk d1;have h7:=QT d1;have f7:w5.heap[wc.heap.size]?=aa (.cells (Xl (JY who) key op c U config c gt config ⟨#[108,111,111,107]⟩ ⟨#[116,111,108,100]⟩ ⟨#[108,111,111,107,105,110,103]⟩ (.func (.func cf) #[] a4) mb) 137 (0,0)):=by
      rw[d1,<-g0.out (by omega)];show(wc.heap.push _)[wc.heap.size]?=_;simp
     have h8:Hid _:=b2.out.trans (e9.mono b2.out.size);have h9:Hid (w5.heap[wc.heap.size]?=aa (.cells (Xl (JY who) key op c U config c gt config ⟨#[108,111,111,107]⟩ ⟨#[116,111,108,100]⟩ ⟨#[108,111,111,107,105,110,103]⟩ (.func (.func cf) #[] a4) mb) 137 (0,0))/\ZX w w5 U gt mb c c/\(w.heap.size<=wc.heap.size/\wc.heap.size<w5.heap.size)/\wc.heap.size≠U/\wc.heap.size≠gt/\wc.heap.size≠mb):=by
      have y1:=b3.gR;have y2:=b3.gX;have y3:=b3.iX;have y4:=b2.out.size;exact⟨f7,(b3.below e9).base e3.out.size,⟨by omega,by omega⟩,by omega,by omega,by omega⟩
     have f8:Hid _:=d1;have i0:Hid _:=c8;unfold Xl at f8;clear b5 a9 O a6 c8 d0 c0 c1 c2 d7 e7 b3 g1 g2 d1 e9 h7 f7;go_wp2_with (first|(refine EF rfl 129 (.tmp 15) rfl eb rfl #[.string nm,.string key,.int .i64 op,.int .i64 c.n,.int .i64 c.k,.slice (aa (pA U 0)) c.L.length c.L.length,.int .i64 config,.string ⟨#[116,111,108,100]⟩,.int .i64 ((Jh c:Nat):Int),.map (aa mb),.int .i64 c.n,.int .i64 c.k,.slice (aa (pA U 0)) c.L.length c.L.length,.int .i64 config,.int .i64 c.n,.int .i64 c.k,.slice (aa (pA gt 0)) c.L.length c.L.length,.int .i64 config,.string ⟨#[108,111,111,107]⟩,.func (.func cf) #[] a4,.string ⟨#[108,111,111,107,105,110,103]⟩,.int .i64 0,.int .i64 0,.string ⟨#[]⟩,.bool ag] 129 i0.out _ underlying129 rfl (nG _ _ _ _ _ _ _ _ _ _ _ _ _ _) ?_)|rw[<-f8.out]|fail)
     go_ret2
     exact⟨⟨.nilIface,by rw[a3.out];exact Jd.nil _ _,ao ⟨a3.out,_,U,gt,mb,rfl,h9.out⟩⟩,h8.out⟩
theorem NQ {n:Int}(h:0<=n)(v:Yb):Yk n v=if YM v.n 0=af then max n v.n else n:=by
 have H:YM v.n 0=decide (0<=v.n/\v.n<=1099511627776):=by unfold YM;simp
 rw[H];unfold Yk;by_cases B:0<=v.n/\v.n<=1099511627776
 ·rw[decide_eq_true B,if_pos (rfl:af=af)];by_cases D:n<v.n
  ·rw[if_pos ⟨D,B.2⟩];omega
  ·rw[if_neg (fun h=>D h.1)];omega
 ·rw[decide_eq_false B,if_neg (fun h=>B (by omega)),if_neg (by decide)]
theorem JjI (p:Option zd)(LL:List (List Yb))(c:Nat)(w:World)(hL:eU w p LL)(h1:LL.length<=1000)(h2:∀l∈LL,l.length<=1000):ah prog 79 #[.slice p LL.length c] w fun e w'=>e=.returned (.int .i64 (XF LL))/\ab w.heap.size w w':=by
 have HL:Hid (eU w p LL):=hL;have H2:Hid _:=h2;have b4:Hid (∀a W,ah prog 104 #[.agg #[.int .i64 a,.int .i64 0]] W fun e w'=>e=.returned (.bool (YM a 0))/\ab W.heap.size W w'):=fun a W=>wI a 0 W
 clear hL h2;go_enter func79,ntmps79;go_wp2;go_loopw [3,10] (fun x y wr=>∃i:Nat,i<=LL.length/\y=.int .i64 i/\x=.int .i64 (XF (LL.take i))/\ab w.heap.size w wr) (fun _ y _=>LL.length-(intOf y).toNat)
 case atStart=>exact⟨0,bf _,rfl,rfl,Below.refl _ _⟩
 case round =>
  obtain⟨i,hi,rfl,rfl,hB⟩:=hrel;obtain⟨D,rfl⟩:=Xb wr;have HB:Hid _:=hB;by_cases O:i<LL.length
  ·rcases HL.out.below hB with h0|⟨b,o,b5,d6,a7⟩
   ·rw[h0]at O;exact absurd O (Nat.not_lt_zero _)
   obtain⟨rq,rc,d7,a8,d8,b6⟩:=a7 i O;have b7:Hid _:=M2 O;have b8:=sH (LL.take i);have d9:(LL.getD i []).length<=1000:=by
    have e:LL.getD i []=LL[i]:=by rw[List.getD_eq_getElem?_getD,List.getElem?_eq_getElem O];rfl
    rw[e];exact H2.out _ (List.getElem_mem _)
   have c8:Hid (Ql Ze D rq (LL.getD i [])):=a8;subst b5;clear a7 a8 b6 hB;generalize LL.getD i []=B at *;generalize XF (LL.take i)=M at *;go_wp2;go_loopw [3,16] (fun x y wr=>∃j:Nat,j<=B.length/\y=.int .i64 j/\x=.int .i64 ((B.take j).foldl Yk M)/\ab D.heap.size D wr) (fun _ y _=>B.length-(intOf y).toNat)
   case atStart=>exact⟨0,bf _,rfl,rfl,Below.refl _ _⟩
   case round =>
    obtain⟨j,hj,rfl,rfl,a0⟩:=hrel;obtain⟨I,rfl⟩:=Xb wr;have a4:Hid (ab D.heap.size D I):=a0;by_cases a9:j<B.length
    ·obtain⟨vb,vo,d0,e0,v0,v1,v2,v3,v4⟩:=QU (c8.out.below a0) a9;have b0:Hid ((B.take (j+1)).foldl Yk M=Yk ((B.take j).foldl Yk M) (Xd B j)):=OI a9 M;have b1:0<=(B.take j).foldl Yk M:=Int.le_trans b8.1 (ZK _ _);have U:Hid (Yk ((B.take j).foldl Yk M) (Xd B j)=if YM (Xd B j).n 0=af then max ((B.take j).foldl Yk M) (Xd B j).n else(B.take j).foldl Yk M):=NQ b1 _;have a5:=b4.out (Xd B j).n;subst d0;clear b1 a0;generalize (B.take j).foldl Yk M=e1 at *;generalize Xd B j=x at *;obtain⟨H,xw,xs,xa,xt⟩:=x;dsimp only at v0 v1 v2 v3 v4 U a5;obtain⟨J,Z⟩:=Xb (I.alloc (.cells #[.int .i64 H,.int .i64 xw,.int .i64 xs,.int .i64 xa,.string xt] 142));have b2:=Zk Z;have g0:J.cell? ⟨I.heap.size,0,N⟩=aa (.int .i64 H):=XX Z rfl;have d1:=fQ Z;have b3:Hid (J=I.alloc (.cells #[.int .i64 H,.int .i64 xw,.int .i64 xs,.int .i64 xa,.string xt] 142)):=Z;have a2:Hid (ab D.heap.size D J):=a4.out.trans (b2.mono a4.out.size);have a3:Hid (ah prog 104 #[.agg #[.int .i64 H,.int .i64 0]] J fun e w'=>e=.returned (.bool (YM H 0))/\ab J.heap.size J w'):=a5 J;clear Z b2 a5;by_cases ht:YM H 0=af
     ·rw[ht]at a3;rw[if_pos ht]at U;go_wp2_with (rw[<-b3.out])
      refine a3.out.mono ?_;rintro e w4 ⟨rfl,K⟩;have g4:w4.cell? ⟨I.heap.size,0,N⟩=aa (.int .i64 H):=(K.cell (p:=⟨I.heap.size,0,N⟩) d1).trans g0;have a6:Hid (ab D.heap.size D w4):=a2.out.trans (K.mono a2.out.size);clear K v0 v1 v2 v3 v4;go_wp2;go_roundw
      case rel=>exact⟨j+1,by omega,by go_num,by rw[b0.out,U.out],a6.out⟩
      case measure=>simp[intOf];omega
     ·rw[if_neg ht]at U;have d2:YM H 0=false:=ay.2 ht;rw[d2]at a3;go_wp2_with (rw[<-b3.out])
      refine a3.out.mono ?_;rintro e w4 ⟨rfl,K⟩;have a6:Hid (ab D.heap.size D w4):=a2.out.trans (K.mono a2.out.size);clear K v0 v1 v2 v3 v4;go_wp2;go_roundw
      case rel=>exact⟨j+1,by omega,by go_num,by rw[b0.out,U.out],a6.out⟩
      case measure=>simp[intOf];omega
    ·have d3:Hid (B.take j=B):=by show _=_;exact aC (by omega)
     rw[d3.out];have d4:Hid (ab w.heap.size w I):=HB.out.trans (a4.out.mono HB.out.size);clear a0;go_wp2;go_roundw
     case rel=>exact⟨i+1,by omega,by go_num,by rw[b7.out],d4.out⟩
     case measure=>simp[intOf];omega
  ·have d5:Hid (LL.take i=LL):=by show _=_;exact aC (by omega)
   rw[d5.out];clear hB;go_wp2;go_ret;exact⟨rfl,HB.out⟩
theorem SB (cn ck:Int)(cv:ax)(b2:∃a n m,cv=.slice a n m)(D H:Nat)(who:Int)(text:BA)(p:Option zd)(LL:List (List Yb))(c:Nat)(w:World)(hL:eU w p LL)(h1:LL.length<=1000)(h2:∀l∈LL,l.length<=1000)(q0:w.cell? ⟨D,0,N⟩=aa (.int .i64 who))(q1:w.cell? ⟨H,0,N⟩=aa (.string text)):
 ah prog 78 (#[.agg #[.int .i64 cn,.int .i64 ck,cv],.slice p LL.length c]++#[.pointer (aa ⟨D,0,N⟩),.pointer (aa ⟨H,0,N⟩)]) w fun e w'=>e=.returned (.agg #[.int .i64 (XF LL+1),.int .i64 who,.string text,.bool af])/\ab w.heap.size w w':=by
 show ah prog 78 #[.agg #[.int .i64 cn,.int .i64 ck,cv],.slice p LL.length c,.pointer (aa ⟨D,0,N⟩),.pointer (aa ⟨H,0,N⟩)] w _;obtain⟨ca,cm,cx,rfl⟩:=b2;have a6:=YC q0;have a7:=YC q1;obtain⟨U,O⟩:=Xb (w.alloc (.cells #[.int .i64 cn,.int .i64 ck,.slice ca cm cx] 49));have Z:=Zk O;have a0:=QT O;obtain⟨I,J⟩:=Xb (U.alloc (.cells #[.int .i64 0,.int .i64 0,.string ⟨#[]⟩,.bool ag] 127));have a2:=Zk J;have K:=Z.trans (a2.mono Z.size);have a3:w.heap.size+1<I.heap.size:=by rw[J];simp[a0]
 have a4:I.heap[w.heap.size+1]?=aa (.cells #[.int .i64 0,.int .i64 0,.string ⟨#[]⟩,.bool ag] 127 (0,0)):=by
  rw[J,<-a0];show(U.heap.push _)[U.heap.size]?=_;simp
 have b3:=sH LL;have HS:Hid (∀W,ab w.heap.size w W->(W.cell? ⟨D,0,N⟩=aa (.int .i64 who)/\W.cell? ⟨H,0,N⟩=aa (.string text)/\ab w.heap.size w W)):=fun W hW=>⟨(hW.cell (p:=⟨D,0,N⟩) a6).trans q0,(hW.cell (p:=⟨H,0,N⟩) a7).trans q1,hW⟩
 have HG:Hid (ah prog 79 #[.slice p LL.length c] I.drew fun e w'=>e=.returned (.int .i64 (XF LL))/\(w'.cell? ⟨D,0,N⟩=aa (.int .i64 who)/\w'.cell? ⟨H,0,N⟩=aa (.string text)/\ab w.heap.size w w')/\(w'.cell? ⟨w.heap.size+1,0,N⟩=aa (.int .i64 0)/\w'.cell? ⟨w.heap.size+1,1,N⟩=aa (.int .i64 0)/\w'.cell? ⟨w.heap.size+1,2,N⟩=aa (.string ⟨#[]⟩)/\w'.cell? ⟨w.heap.size+1,3,N⟩=aa (.bool ag))/\(w'.frozen? ⟨w.heap.size+1,0,N⟩=ag/\w'.frozen? ⟨w.heap.size+1,1,N⟩=ag/\w'.frozen? ⟨w.heap.size+1,2,N⟩=ag/\w'.frozen? ⟨w.heap.size+1,3,N⟩=ag)):=(JjI p LL c I.drew (hL.below K.drew) h1 h2).mono fun e w' hp=>by
  have hb:=(Below.refl _ I).drew.trans hp.2;have B:=(hb.block _ a3).trans a4;exact⟨hp.1,HS.out w' (K.trans (hb.mono K.size)),⟨by simp[zc,B],by simp[zc,B],by simp[zc,B],by simp[zc,B]⟩,by simp[az,B],by simp[az,B],by simp[az,B],by simp[az,B]⟩
 have a8:=HS.out I.drew K.drew;have a9:Hid _:=O;have b0:Hid _:=J;clear hL h2 J K a4 a3 q0 q1 O Z a0 a2;generalize XF LL=M at *;have b4:IntKind.i64.wrap (M+1)=M+1:=by rw[IntKind.wrap_i64];omega
 go_enter func78,ntmps78;go_wp2;rw[<-a9.out,<-b0.out];go_region_held3 (fun W=>(W.cell? ⟨D,0,N⟩=aa (.int .i64 who)/\W.cell? ⟨H,0,N⟩=aa (.string text)/\ab w.heap.size w W)) (first|assumption|exact a8|exact HS.out _ ((((a5.2.2.setCell (Nat.le_succ _) _).setCell (am _) _).setCell (am _) _).setCell (am _) _)) (first|(go_at_call 79;refine HG.out.mono ?_;rintro e w1 ⟨rfl,a5,⟨k0,k1,k2,k3⟩,f0,f1,f2,f3⟩))
 have b1:Hid (ab w.heap.size w ((((w1.setCell ⟨w.heap.size+1,0,N⟩ (.int .i64 (M+1))).setCell ⟨w.heap.size+1,1,N⟩ (.int .i64 who)).setCell ⟨w.heap.size+1,2,N⟩ (.string text)).setCell ⟨w.heap.size+1,3,N⟩ (.bool af))):=(((a5.2.2.setCell (am _) _).setCell (am _) _).setCell (am _) _).setCell (am _) _;go_wp2;exact bodyPost_ret (v:=.agg #[.int .i64 (M+1),.int .i64 who,.string text,.bool af]) (by simp[results,results78,go_sem,k0,k1,k2,k3]) rfl ⟨rfl,b1.out⟩
theorem VK {I:Nat->Prop}{text:BA}(K:I B)(O:I D)(U:w.cell? ⟨B,0,N⟩=aa (.int .i64 who))(Z:w.cell? ⟨D,0,N⟩=aa (.string text)):jY w I af who text (.func (.func 78) #[] #[.pointer (aa ⟨B,0,N⟩),.pointer (aa ⟨D,0,N⟩)]) :=
 ⟨_,_,rfl,fun args W=>by kernel_rfl,fun W J ad z c mp mc p LL cl H=>SB c.n c.k _ ⟨_,_,_,rfl⟩ B D who text p LL cl W H.wO H.m1 H.m3 ((zb (a:=⟨B,0,N⟩) (J B K)).trans U) ((zb (a:=⟨D,0,N⟩) (J D O)).trans Z)⟩
theorem PC :(JY who).size=2:=by unfold JY;rfl
theorem E0 (h:¬0<(ZG who op config c key).1):¬0<(Jg c).1/\Jo key=af/\(0<=who/\who<6/\0<=op/\0<=config)/\ZG who op config c key=(0,-1):=by
 unfold ZG at h ⊢;by_cases B:0<(Jg c).1
 ·rw[if_pos B]at h;exact absurd B h
 ·rw[if_neg B]at h ⊢;by_cases D:Jo key=ag
  ·rw[if_pos D]at h;exact absurd (by decide) h
  ·rw[if_neg D]at h ⊢;by_cases H:0<=who/\who<6/\0<=op/\0<=config
   ·rw[if_pos H];exact⟨B,by simpa using D,H,rfl⟩
   ·rw[if_neg H]at h;exact absurd (by decide) h
theorem DK (b:eT):JX b=if 0<(ZG b.who b.op b.config b.c b.key).1 then ZG b.who b.op b.config b.c b.key else if b.put=af/\1000<b.text.size then(2,-1)else(0,-1):=by
 unfold ZG;by_cases B:0<(Jg b.c).1
 ·rw[if_pos B,if_pos B,WO B]
 ·rw[if_neg B];by_cases I:Jo b.key=ag
  ·rw[if_pos I,LI B I];rfl
  ·rw[if_neg I];have K:Jo b.key=true:=by simpa using I
   by_cases D:0<=b.who/\b.who<6/\0<=b.op/\0<=b.config
   ·rw[if_pos D,if_neg (by decide)];by_cases J:b.put=af/\1000<b.text.size
    ·rw[if_pos J,FZ B K (fun H=>by have:=H.2.2.2.2 J.1;omega)]
    ·rw[if_neg J,KZ B K ⟨D.1,D.2.1,D.2.2.1,D.2.2.2,fun O=>by
      rcases bb 1000 b.text.size with h|h
      ·exact absurd ⟨O,h⟩ J
      ·exact h⟩]
   ·rw[if_neg D,if_pos (by decide),FZ B K (fun H=>D ⟨H.1,H.2.1,H.2.2.1,H.2.2.2.1⟩)]
def qO (w:World):Prop:=(∃z,w.cell? ⟨9,0,N⟩=aa (.iface 287 (.pointer (aa z))))/\ar prog w "internal/strconv.uint64pow10" .u64 aq
theorem GJ (H:¬0<(Jg b.c).1)(I:Jo b.key=af)(J:b.put=af->b.text.size<=1000):QN b.ask:=by
 refine⟨H,by have:=QF I;show b.key.size<=100;omega,by show(JY b.who).size<=100;rw[PC];decide,?_,(fun _ h=>by cases h),(fun h=>by cases h),aF,(fun x B=>by cases B),rfl,(fun h=>by cases h),(fun l D=>by cases D)⟩;show(if b.put=af then b.text else⟨#[]⟩:BA).size<=1000;by_cases h:b.put=af
 ·rw[if_pos h];exact J h
 ·rw[if_neg h];decide
theorem JpM (h:ZG b.who b.op b.config b.c b.key=(0,-1))(I:Zt b.op)(J:Zt b.config)(K:b.put=af->b.text.size<=1000):JU b.ask:=by
 obtain⟨f1,f2,B,_⟩:=E0 (who:=b.who) (op:=b.op) (config:=b.config) (c:=b.c) (key:=b.key) (by rw[h];decide);have e:=GJ f1 f2 K;exact⟨f1,e.key,e.name,rfl,⟨B.1,B.2.1⟩,⟨B.2.2.1,I.2⟩,⟨B.2.2.2,J.2⟩,e.text,(by intro e;cases e),aF,(fun x D=>by cases D),rfl,(fun e=>by cases e),(fun l H=>by cases H)⟩
theorem IG {I:ax}{S1:Nat->Prop}(J:ZG b.who b.op b.config b.c b.key=(0,-1))(Z:Zt b.op)(hc:Zt b.config)(K:b.put=af->b.text.size<=1000)(O:w.heap.size<=H.heap.size)(hE:ZX H W B D mb b.c b.c)(U:H.heap.size<=h/\h<W.heap.size)(a0:h≠B/\h≠D/\h≠mb)(hb:W.heap[h]?=aa (.cells (Xl (JY b.who) b.key b.op b.c B b.config b.c D b.config ⟨#[108,111,111,107]⟩ ⟨#[116,111,108,100]⟩ ⟨#[108,111,111,107,105,110,103]⟩ I mb) 137 (0,0)))(a2:∀k,S1 k->w.heap.size<=k/\k<W.heap.size/\k≠h/\k≠mb)(a3:jY W (fun k=>k=B∨k=D∨S1 k) b.ask.put b.ask.who b.ask.text I):Qw W w.heap.size h (fun k=>k=h∨k=mb∨k=B∨k=D∨S1 k) b.ask:=by
 obtain⟨f1,f2,_,_⟩:=E0 (who:=b.who) (op:=b.op) (config:=b.config) (c:=b.c) (key:=b.key) (by rw[J];decide);exact⟨JF.new (a:=b.ask) (asks:=rO) (told:=sW) (hE.base O) ⟨ap O U.1,U.2⟩ a0 hb a2 a3 (al rfl) (GJ f1 f2 K) f1 f1 rfl ⟨rfl,rfl,rfl,rfl⟩ rfl rfl,JpM J Z hc K⟩
theorem Jrz (ad:Nat->zd)(b:eT)(p:Option zd)(cap:Nat)(w:World)(hc:Yn w b.c p cap)(d5:b.put=af)(ht:b.text.size<=3000)(f7:Zt b.who)(f8:Zt b.op)(f9:Zt b.config)(hE:Zp w ad)(hX:qO w):
 ah prog 54 #[.int .i64 b.who,.int .i64 b.op,.agg #[.int .i64 b.c.n,.int .i64 b.c.k,.slice p b.c.L.length cap],.int .i64 b.config,.string b.key,.string b.text] w fun e w'=>pP Qw ad b w.heap.size e w'/\ab w.heap.size w w':=by
 obtain⟨w1,I⟩:=Xb (w.alloc (.cells #[.int .i64 b.who] 3));have b0:=Zk I;have b1:=QT I;have d6:=JH I;obtain⟨Z,a0⟩:=Xb (w1.alloc (.cells #[.int .i64 b.c.n,.int .i64 b.c.k,.slice p b.c.L.length cap] 49));have b2:=Zk a0;have d7:=b0.trans (b2.mono b0.size);have d8:=(b2.block _ (by omega)).trans d6;have d9:Z.heap[w.heap.size+1]?=aa (.cells #[.int .i64 b.c.n,.int .i64 b.c.k,.slice p b.c.L.length cap] 49 (0,0)):=by
  rw[a0,<-b1];show(w1.heap.push _)[w1.heap.size]?=_;simp
 have e0:=Xs b.text Z (by omega);have e3:Hid (∀W tb,ab w.heap.size w W->ah prog 77 #[.int .i64 b.who,.int .i64 b.op,.agg #[.int .i64 b.c.n,.int .i64 b.c.k,.slice p b.c.L.length cap],.int .i64 b.config,.string b.key,.func (.func 78) #[] #[.pointer (aa (pA w.heap.size 0)),.pointer (aa (pA tb 0))]] W _):=fun W tb hW=>F1 ad b.who b.op b.config b.c p cap b.key 78 #[.pointer (aa (pA w.heap.size 0)),.pointer (aa (pA tb 0))] W (hc.below hW) f7 (hE.below hW) (TabIs.dJ hX.2 (fun k hk=>hW.block k hk))
 have g0:Hid _:=I;have e4:Hid _:=a0;have g1:Hid _:=b1;have e5:Hid _:=d7;have a2:Hid (Z.heap[w.heap.size]?=aa (.cells #[.int .i64 b.who] 3 (0,0))/\Z.heap[w.heap.size+1]?=aa (.cells #[.int .i64 b.c.n,.int .i64 b.c.k,.slice p b.c.L.length cap] 49 (0,0))):=⟨d8,d9⟩;have g2:Hid _:=hE;have b3:=DK b;rw[d5]at b3;have b4:Hid _:=b3;have e6:Hid _:=d5;have g3:Hid _:=f8;have g4:Hid _:=f9;clear I a0 b0 b2 d7 d6 d8 d9 b1 hc hE hX b3 d5 f8 f9 f7;go_enter func54,ntmps54;go_wp2_with (first|rw[<-g0.out]|rw[<-e4.out,g1.out]|rw[<-e4.out]|fail)
 refine e0.mono ?_;rintro e J ⟨rfl,a3⟩;obtain⟨w4,K⟩:=Xb (J.alloc (.cells #[.string b.text] 9));have e7:=Zk K;have a4:=a3.trans (e7.mono a3.size);have e8:=QT K;have e9:=JH K;have f3:=YG a2.out.1;have f4:=YG a2.out.2;have b5:=(a4.block _ f3).trans a2.out.1;have a5:=(a4.block _ f4).trans a2.out.2;have c0:=(Jb b5 0).1;have d0:=(Jb a5 0).1;have d1:=(Jb a5 1).1;have d2:=(Jb a5 2).1;have a6:Hid _:=e5.out.trans (a4.mono e5.out.size);have f5:=e3.out w4 J.heap.size a6.out;have g5:Hid _:=K;have O:Hid (w4.heap[w.heap.size]?=aa (.cells #[.int .i64 b.who] 3 (0,0))/\w4.heap[J.heap.size]?=aa (.cells #[.string b.text] 9 (0,0))/\w.heap.size<J.heap.size):=⟨b5,e9,by have:=a3.size;omega⟩;have g6:Hid _:=e8;clear e0 e3 K e7 a4 e8 e9 b5 a5 a3 f3 f4;go_wp2_with (rw[<-g5.out])
 refine f5.mono ?_;rintro e w5 ⟨⟨ev,D,g7⟩,b6⟩;have a7:Hid _:=a6.out.trans (b6.mono a6.out.size);have b7:Hid _:=b6;clear f5 b6 c0 d0 d1 d2;rcases g7 with⟨a8,rfl⟩|⟨H,h,gf,gt,mb,rfl,c8,a9,d3,d4⟩
 ·have B:Hid (JX b=ZG b.who b.op b.config b.c b.key):=by show _=_;rw[b4.out,if_pos a8]
  have g8:Hid _:=D;have g9:Hid (0<(ZG b.who b.op b.config b.c b.key).1):=a8;obtain⟨et,eu,rfl⟩:=D.some a8;clear D a8;go_wp2
  go_ret2
  exact⟨⟨.iface et eu,by rw[B.out];exact g8.out,al ⟨by rw[B.out];exact g9.out,rfl⟩⟩,a7.out⟩
 ·rw[H]at D;obtain rfl:=Jd.isNil D;have h0:=(g2.out.below a7.out).c1;by_cases U:1000<b.text.size
  ·have B:Hid (JX b=(2,-1)):=by show _=_;rw[b4.out,if_neg (by rw[H];decide),if_pos (by first|exact⟨rfl,U⟩|exact⟨trivial,U⟩)]
   have h1:decide ((1000:Int)<(b.text.size:Int))=true:=decide_eq_true (by omega);clear D c8 a9 d3 d4 H U;go_wp2;go_quiet (fail)
   go_wp2
   go_ret2
   exact⟨⟨.iface 287 (.pointer (aa (ad 1))),by rw[B.out];exact Jd.b8 1 (by decide),al ⟨by rw[B.out];decide,rfl⟩⟩,zh a7.out _⟩
  ·have B:Hid (JX b=(0,-1)):=by show _=_;rw[b4.out,if_neg (by rw[H];decide),if_neg (fun h=>U h.2)]
   have h1:decide ((1000:Int)<(b.text.size:Int))=false:=decide_eq_false (by omega);have f6:Hid (Qw w5 w.heap.size h (fun k=>k=h∨k=mb∨k=gf∨k=gt∨(k=w.heap.size∨k=J.heap.size)) b.ask):=by
    have y1:=a9.iX;have y2:=O.out.2.2;have y3:=g6.out;have y4:=b7.out.size;have y5:=a6.out.size;have q0:=(Jb ((b7.out.block _ (YG O.out.1)).trans O.out.1) 0).1;have q1:=(Jb ((b7.out.block _ (YG O.out.2.1)).trans O.out.2.1) 0).1;have e1:b.ask.put=true:=e6.out;have e2:b.ask.text=b.text:=by show(if b.put=af then b.text else⟨#[]⟩)=_;rw[if_pos e6.out]
    exact IG H g3.out g4.out (fun _=>by omega) y5 a9 d3 d4 c8 (fun k hk=>by rcases hk with rfl|rfl;exact⟨by omega,by omega,by omega,by omega⟩;exact⟨by omega,by omega,by omega,by omega⟩) (by rw[e1,e2];exact VK (ao (ao (al rfl))) (ao (ao (ao rfl))) q0 q1)
   clear D c8 a9 d3 d4 H U h0;go_wp2
   go_ret2
   exact⟨⟨.nilIface,by rw[B.out];exact Jd.nil _ _,by first|exact Or.inr ⟨by rw[B.out];decide,_,rfl,_,f6.out⟩|exact Or.inr ⟨by rw[B.out];decide,_,_,rfl,f6.out⟩⟩,a7.out⟩
theorem OT (ad:Nat->zd)(b:eT)(p:Option zd)(cap:Nat)(w:World)(hc:Yn w b.c p cap)(a2:b.put=ag)(b3:Zt b.who)(b4:Zt b.op)(b5:Zt b.config)(hE:Zp w ad)(hX:qO w):
 ah prog 55 #[.int .i64 b.who,.int .i64 b.op,.agg #[.int .i64 b.c.n,.int .i64 b.c.k,.slice p b.c.L.length cap],.int .i64 b.config,.string b.key] w fun e w'=>pP Qw ad b w.heap.size e w'/\ab w.heap.size w w':=by
 obtain⟨w2,I⟩:=Xb (w.alloc (.cells #[.int .i64 b.c.n,.int .i64 b.c.k,.slice p b.c.L.length cap] 49));have H:=Zk I;have J:w2.heap[w.z]?=aa (.cells #[.int .i64 b.c.n,.int .i64 b.c.k,.slice p b.c.L.length cap] 49 (0,0)):=by
  rw[I];show(w.heap.push _)[w.z]?=_;simp
 have d0:=(Jb J 0).1;have d1:=(Jb J 1).1;have d2:=(Jb J 2).1;have a3:=F1 ad b.who b.op b.config b.c p cap b.key 65 #[] w2 (hc.below H) b3 (hE.below H) (TabIs.dJ hX.2 (fun k U=>H.block k U));have b6:Hid _:=I;have Z:Hid _:=H;have a0:=DK b;rw[a2]at a0;have a4:Hid (JX b=if 0<(ZG b.who b.op b.config b.c b.key).1 then ZG b.who b.op b.config b.c b.key else(0,-1)):=by
  show _=_;rw[a0,if_neg (fun h=>by cases h.1:¬(ag=af/\1000<b.text.size))]
 have a5:Hid _:=a2;have b7:Hid _:=b4;have b8:Hid _:=b5;clear I H J hc hE hX a0 a2 b4 b5 b3;go_enter func55,ntmps55;go_wp2_with (rw[<-b6.out])
 refine a3.mono ?_;rintro e w5 ⟨⟨ev,B,c8⟩,a6⟩;have a7:Hid _:=Z.out.trans (a6.mono Z.out.size);clear a3 a6 d0 d1 d2;rcases c8 with⟨K,rfl⟩|⟨O,h,gf,gt,mb,rfl,a8,a9,b0,b1⟩
 ·have D:Hid (JX b=ZG b.who b.op b.config b.c b.key):=by show _=_;rw[a4.out,if_pos K]
  have d3:Hid _:=B;have d4:Hid (0<(ZG b.who b.op b.config b.c b.key).1):=K;obtain⟨et,eu,rfl⟩:=B.some K;clear B K;go_wp2
  go_ret2
  exact⟨⟨.iface et eu,by rw[D.out];exact d3.out,al ⟨by rw[D.out];exact d4.out,rfl⟩⟩,a7.out⟩
 ·rw[O]at B;obtain rfl:=Jd.isNil B;have D:Hid (JX b=(0,-1)):=by show _=_;rw[a4.out,if_neg (by rw[O];decide)]
  have b2:Hid (Qw w5 w.z h (fun k=>k=h∨k=mb∨k=gf∨k=gt∨False) b.ask):=by
   have e1:b.ask.put=false:=a5.out;exact IG O b7.out b8.out (fun h=>by rw[a5.out]at h;cases h) Z.out.size a9 b0 b1 a8 (fun k U=>U.elim) (by rw[e1];exact EY _ _ _ _)
  clear B a8 a9 b0 b1 O;go_wp2
  go_ret2
  exact⟨⟨.nilIface,by rw[D.out];exact Jd.nil _ _,by first|exact Or.inr ⟨by rw[D.out];decide,_,rfl,_,b2.out⟩|exact Or.inr ⟨by rw[D.out];decide,_,_,rfl,b2.out⟩⟩,a7.out⟩
theorem eL (ad:Nat->zd):WS ad qO Qw where
 dH:=fun⟨⟨_,_,_,_,_,_,_,_,_,_,D⟩,_⟩ k J=>D.aO k J
 aS:=fun⟨⟨_,_,_,_,_,_,_,_,_,_,D⟩,hm⟩ K J=>⟨⟨_,_,_,_,_,_,_,_,_,_,D.aS K.size J⟩,hm⟩
 put:=fun b p cap w B O _ ht U Z hf hE hX=>Jrz ad b p cap w B O ht U Z hf hE hX
 get:=fun b p cap w B O _ U Z hf hE hX=>OT ad b p cap w B O U Z hf hE hX
 begin:=fun {_ _ _ S _} B _=>(yJ B).mono fun _ _ H=>⟨(by obtain⟨p,c,e1,e2⟩:=H.1;exact⟨p,c,e1,e2.n⟩),S,⟨by obtain⟨_,_,_,_,_,_,_,_,_,_,D⟩:=B.1;exact⟨_,_,_,_,_,_,_,_,_,_,D.below H.2⟩,B.2⟩,Yd.aJ H.2⟩
 aD:=fun x B hL hs hv hG=>(EK ad B x hL hs hv (fun W h1 I=>⟨(hG W h1 I).1,(hG W h1 I).2.1⟩)).mono fun _ _ H=>by
  obtain⟨S',⟨p,c,e1,e2⟩,I,h3⟩:=H;exact⟨⟨p,c,e1,e2.new (fun b K=>K.1)⟩,S',I,h3⟩
 state:=fun B=>CL B
 answer:=fun B=>AR B
theorem U8 {b:lN}{B:Int}(H:Zt b.config)(I:IntKind.i64.wrap (b.config+1)=B):lH b=Xz b.f b.t b.key b.op b.config B:=by
 unfold lH Xz;rw[IntKind.wrap_i64]at I;obtain⟨J,K⟩:=H;by_cases e:b.config<9223372036854775807
 ·have:B=b.config+1:=by omega
  have D:(0<=b.op/\0<=b.config/\b.config<9223372036854775807)↔(0<=b.op/\0<=b.config/\0<=B):=⟨fun h=>⟨h.1,h.2.1,by omega⟩,fun h=>⟨h.1,h.2.1,e⟩⟩;simp only[D]
 ·have:B=-9223372036854775808:=by omega
  have D:(0<=b.op/\0<=b.config/\b.config<9223372036854775807)↔(0<=b.op/\0<=b.config/\0<=B):=⟨fun h=>absurd h.2.2 e,fun h=>by have:=h.2.2;omega⟩;simp only[D]
theorem MW {b:lN}(H:¬0<(Jg b.f).1)(I:Jo b.key=af):QN b.mover:=by
 refine⟨H,by have:=QF I;show b.key.size<=100;omega,by show KC.size<=100;decide +kernel,by show(⟨#[]⟩:BA).size<=1000;decide,(fun h=>by cases h),(fun _ h=>by cases h),aF,(fun x B=>by cases B),rfl,(fun h=>by cases h),(fun l D=>by cases D)⟩
theorem RI (ad:Nat->zd)(b:lN)(p:Option zd)(cap:Nat)(q:Option zd)(a2:Nat)(w:World)(e4:Yn w b.f p cap)(e5:Yn w b.t q a2)(hi:Zt b.config)(hE:Zp w ad):
 ah prog 43 #[.int .i64 b.op,.agg #[.int .i64 b.f.n,.int .i64 b.f.k,.slice p b.f.L.length cap],.agg #[.int .i64 b.t.n,.int .i64 b.t.k,.slice q b.t.L.length a2],.int .i64 b.config,.string b.key] w fun e w'=>BQ XM ad b w.heap.size e w'/\ab w.heap.size w w':=by
 obtain⟨D,a8⟩:∃D,IntKind.i64.wrap (b.config+1)=D:=⟨_,rfl⟩;have a9:=U8 hi a8;obtain⟨w1,J⟩:=Xb (w.alloc (.cells #[.int .i64 b.f.n,.int .i64 b.f.k,.slice p b.f.L.length cap] 49));have b0:=Zk J;have b1:=QT J;have d3:=JH J;obtain⟨w2,a3⟩:=Xb (w1.alloc (.cells #[.int .i64 b.t.n,.int .i64 b.t.k,.slice q b.t.L.length a2] 49));have b2:=Zk a3;have K:=b0.trans (b2.mono b0.size);have a4:=(b2.block _ (by omega)).trans d3;have a5:w2.heap[w.heap.size+1]?=aa (.cells #[.int .i64 b.t.n,.int .i64 b.t.k,.slice q b.t.L.length a2] 49 (0,0)):=by
  rw[a3,<-b1];show(w1.heap.push _)[w1.heap.size]?=_;simp
 have c0:=(Jb a4 0).1;have c1:=(Jb a4 1).1;have c2:=(Jb a4 2).1;have d0:=(Jb a5 0).1;have d1:=(Jb a5 1).1;have d2:=(Jb a5 2).1;have d4:=GA ad ⟨#[109,111,118,101,114]⟩ b.key b.op b.f b.t b.config D p q cap a2 ⟨#[115,101,97,108]⟩ ⟨#[115,101,97,108,101,100]⟩ ⟨#[115,101,97,108,105,110,103]⟩ 65 #[] w2 (e4.below K) (e5.below K) (hE.below K);have e6:Hid _:=J;have d5:Hid _:=a3;have e7:Hid _:=b1;have b3:Hid _:=K;have e8:Hid _:=a8;have HI:Hid _:=hi;unfold BQ;rw[a9];have d6:Hid _:=a9;clear J a3 b0 b2 K d3 a4 a5 b1 e4 e5 hE hi a9;go_enter func43,ntmps43;go_wp2_with (first|rw[<-e6.out]|rw[<-d5.out,e7.out]|rw[<-d5.out]|fail)
 refine d4.mono ?_;rintro e B ⟨e9,b4⟩;have O:Hid _:=b3.out.trans (b4.mono b3.out.size);have g1:Hid _:=b4;clear d4 b4 c0 c1 c2 d0 d1 d2 a8;rcases e9 with⟨b5,ev,rfl,b6⟩|⟨d7,a6,H,I,mb,rfl,hN⟩
 ·have f3:Hid (Jd B ad ev (Xz b.f b.t b.key b.op b.config D).1 (Xz b.f b.t b.key b.op b.config D).2):=b6;have f4:Hid _:=b5;obtain⟨et,eu,rfl⟩:=b6.some b5;clear b6 b5 d6;have d8:ab B.heap.size B (B.alloc (.cells Jj 129)):=(Below.refl _ B).alloc nR _;go_wp2_with ((refine XR rfl 129 (.tmp 12) (.tmp 26) rfl B.heap.size Jj rfl rfl 129 Jj (DA B) YI rfl nQ ?_;rw[aE]))
  go_ret2
  exact⟨⟨.iface et eu,f3.out.below d8,al ⟨f4.out,rfl⟩⟩,O.out.trans (d8.mono O.out.size)⟩
 ·have a7:Hid (ZX w2 B H I mb b.f b.t):=hN;have U:Hid (¬0<(Jg b.f).1/\¬0<(Jg b.t).1/\Jo b.key=af/\0<=b.op/\0<=b.config/\0<=D):=⟨by have:=a6.1;omega,by have:=a6.2.1;omega,a6.2.2⟩;have b7:Hid _:=d7;obtain⟨w4,Z⟩:=Xb (B.alloc (.cells (Xl ⟨#[109,111,118,101,114]⟩ b.key b.op b.f H b.config b.t I D ⟨#[115,101,97,108]⟩ ⟨#[115,101,97,108,101,100]⟩ ⟨#[115,101,97,108,105,110,103]⟩ (.func (.func 65) #[] #[]) mb) 129));have b8:=Zk Z;have f5:=QT Z;have d9:=JH Z;obtain⟨w5,a0⟩:=Xb (w4.alloc (.cells (Xl ⟨#[109,111,118,101,114]⟩ b.key b.op b.f H b.config b.t I D ⟨#[115,101,97,108]⟩ ⟨#[115,101,97,108,101,100]⟩ ⟨#[115,101,97,108,105,110,103]⟩ (.func (.func 65) #[] #[]) mb) 135));have e0:=Zk a0;have f6:=QT a0;have e1:=JH a0;have c8:=b8.trans (e0.mono b8.size);have f7:Hid _:=O.out.trans (c8.mono O.out.size);have e2:Hid (XM w5 w.heap.size w4.heap.size (fun k=>k=w4.heap.size∨k=mb∨k=H∨k=I∨False) b.mover):=by
   have f8:D=b.config+1:=by
    have h1:=e8.out;rw[IntKind.wrap_i64]at h1;have h2:=U.out.2.2.2.2;have h3:=HI.out;unfold Zt at h3;omega
   have y1:=a7.out.gR;have y2:=a7.out.gX;have y3:=a7.out.iX;have y4:=b3.out.size;have y5:=O.out.size;exact⟨JF.new (a:=b.mover) (S1:=fun _=>False) (asks:=pX) (told:=Q7) ((a7.out.below c8).base y4) ⟨by omega,by omega⟩ ⟨by omega,by omega,by omega⟩ e1 (fun k hk=>hk.elim) (EY _ _ _ _) (ao rfl) (MW U.out.1 U.out.2.2.1) U.out.1 U.out.2.1 rfl ⟨rfl,rfl,rfl,f8⟩ rfl rfl,rfl⟩
  have f9:Hid _:=Z;have e3:Hid _:=a0;have g0:Hid _:=d9;unfold Xl at e3;clear d7 hN Z a0 b8 e0 c8 f5 f6 d9 e1 d6 a6;go_wp2_with (first|(refine XR rfl 129 (.tmp 12) (.tmp 26) rfl B.heap.size (Xl ⟨#[109,111,118,101,114]⟩ b.key b.op b.f H b.config b.t I D ⟨#[115,101,97,108]⟩ ⟨#[115,101,97,108,101,100]⟩ ⟨#[115,101,97,108,105,110,103]⟩ (.func (.func 65) #[] #[]) mb) rfl rfl 129 Jj (DA B) (nG _ _ _ _ _ _ _ _ _ _ _ _ _ _) rfl (vT _ _ _ _ _ _ _ _ _ _ _ _ _ _ _) ?_;rw[aE,<-f9.out])|(refine EF rfl 129 (.tmp 12) rfl B.heap.size rfl #[.string ⟨#[109,111,118,101,114]⟩,.string b.key,.int .i64 b.op,.int .i64 b.f.n,.int .i64 b.f.k,.slice (aa ⟨H,0,N⟩) b.f.L.length b.f.L.length,.int .i64 b.config,.string ⟨#[115,101,97,108,101,100]⟩,.int .i64 ((Jh b.f:Nat):Int),.map (aa mb),.int .i64 b.f.n,.int .i64 b.f.k,.slice (aa ⟨H,0,N⟩) b.f.L.length b.f.L.length,.int .i64 b.config,.int .i64 b.t.n,.int .i64 b.t.k,.slice (aa ⟨I,0,N⟩) b.t.L.length b.t.L.length,.int .i64 D,.string ⟨#[115,101,97,108]⟩,.func (.func 65) #[] #[],.string ⟨#[115,101,97,108,105,110,103]⟩,.int .i64 0,.int .i64 0,.string ⟨#[]⟩,.bool ag] 129 g0.out _ underlying129 rfl (nG _ _ _ _ _ _ _ _ _ _ _ _ _ _) ?_)|rw[<-e3.out]|fail)
  go_ret2
  exact⟨⟨_,by rw[b7.out];exact Jd.nil _ _,by first|exact Or.inr ⟨by rw[b7.out];decide,_,rfl,_,e2.out⟩|exact Or.inr ⟨by rw[b7.out];decide,_,_,rfl,e2.out⟩⟩,f7.out⟩
end Go.Proofs.YtgapmoniajcliaaGreatDoor
