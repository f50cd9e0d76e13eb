/- Texts laid together. -/
import Derived.Test.YtgapmoniajcliaaGreatDoorV12
import Derived.Test.YtgapmoniajcliaaGreatDoorV11
set_option maxRecDepth 10000
set_option maxHeartbeats 16000000
open Option renaming none->N,some->aa
open Go.AllReadyH renaming nil->ab,cons->ar
open Go.Act renaming put->ac,eval->ag
open Go.RowKit renaming Below->ae
open Go.World renaming cell?_of_block->af,frozen?->am,cell?->aq
open Bool renaming false->F,true->az
open Or renaming inr->ah,inl->ap
open Go renaming bodyPost_ret->ai,wpAnyH_done->aj,wp_region_held_drew->ak,Value->ao,Calls->au,Addr->aC,FuncId->aF
open Nat renaming lt_of_lt_of_le->al,le_trans->av,le_refl->aw,zero_add->aA
namespace Go.Proofs.YtgapmoniajcliaaGreatDoor
open Go.Proofs.Tryz
open Go.RowKit
variable {W D w:World}{H I mb:Nat}{f t:Xg}{a:Za}
def Xt (nm key:BA)(op:Int)(f:Xg)(B:Nat)(D:Int)(t:Xg)(H:Nat)(I:Int)(asks st:BA)(J:ao):Array Value:=#[.string nm,.string key,.int .i64 op,.int .i64 0,.int .i64 0,.slice N 0 0,.int .i64 0,.string ⟨#[]⟩,.int .i64 0,.map N,.int .i64 f.n,.int .i64 f.k,.slice (aa ⟨B,0,N⟩) f.L.length f.L.length,.int .i64 D,.int .i64 t.n,.int .i64 t.k,.slice (aa ⟨H,0,N⟩) t.L.length t.L.length,.int .i64 I,.string asks,J,.string st,.int .i64 0,.int .i64 0,.string ⟨#[]⟩,.bool F]
def Xl (nm key:BA)(op:Int)(f:Xg)(B:Nat)(D:Int)(t:Xg)(H:Nat)(I:Int)(asks told st:BA)(J:ao)(mb:Nat):Array Value:=#[.string nm,.string key,.int .i64 op,.int .i64 f.n,.int .i64 f.k,.slice (aa ⟨B,0,N⟩) f.L.length f.L.length,.int .i64 D,.string told,.int .i64 ((Jh f:Nat):Int),.map (aa mb),.int .i64 f.n,.int .i64 f.k,.slice (aa ⟨B,0,N⟩) f.L.length f.L.length,.int .i64 D,.int .i64 t.n,.int .i64 t.k,.slice (aa ⟨H,0,N⟩) t.L.length t.L.length,.int .i64 I,.string asks,J,.string st,.int .i64 0,.int .i64 0,.string ⟨#[]⟩,.bool F]
theorem tT (nm key:BA)(op:Int)(f:Xg)(B:Nat)(D:Int)(t:Xg)(H:Nat)(I:Int)(asks st:BA)(cf:aF)(J:Array ao):(Xt nm key op f B D t H I asks st (.func (.func cf) #[] J)).all (·.oneCell')=true:=by unfold Xt;simp[Value.oneCell']
theorem tQ (nm key:BA)(op:Int)(f:Xg)(B:Nat)(D:Int)(t:Xg)(H:Nat)(I:Int)(asks st:BA)(J:ao):(prog.info? 129).map (·.size)=aa (Xt nm key op f B D t H I asks st J).size:=by
 have:(Xt nm key op f B D t H I asks st J).size=Jj.size:=rfl;rw[this];exact YI
theorem vT (nm key:BA)(op:Int)(f:Xg)(B:Nat)(D:Int)(t:Xg)(H:Nat)(I:Int)(asks told st:BA)(cf:aF)(J:Array ao)(mb:Nat):(Xl nm key op f B D t H I asks told st (.func (.func cf) #[] J) mb).all (·.oneCell')=true:=by unfold Xl;simp[Value.oneCell']
theorem nG (nm key:BA)(op:Int)(f:Xg)(B:Nat)(D:Int)(t:Xg)(H:Nat)(I:Int)(asks told st:BA)(J:ao)(mb:Nat):(prog.info? 129).map (·.size)=aa (Xl nm key op f B D t H I asks told st J mb).size:=by
 have:(Xl nm key op f B D t H I asks told st J mb).size=Jj.size:=rfl;rw[this];exact YI
theorem Jt1 (nm key:BA)(op:Int)(f:Xg)(B:Nat)(D:Int)(t:Xg)(H:Nat)(I:Int)(asks told st:BA)(J:ao)(mb:Nat):nT (Xt nm key op f B D t H I asks st J) ⟨f,D,.slice (aa ⟨B,0,N⟩) f.L.length f.L.length⟩ told mb=Xl nm key op f B D t H I asks told st J mb:=by
 unfold nT Xt Xl;simp only[List.setIfInBounds_toArray,List.set_cons_zero,List.set_cons_succ]
structure jZ (w5 W:World) (eb gf gt:Nat) (cs:Array ao) (f t:Xg):Prop where
 blk:W.heap[eb]?=aa (.cells cs 129 (0,0))
 ge:w5.heap.size<=eb
 sf:Strs W (aa ⟨gf,0,N⟩) f.L
 st:Strs W (aa ⟨gt,0,N⟩) t.L
 gR:w5.heap.size<=gf/\gf<W.heap.size
 gX:w5.heap.size<=gt/\gt<W.heap.size
 ne:gf≠eb/\gt≠eb
 be:ae w5.heap.size w5 W
theorem jZ.of {B:World}{D:Nat}(O:Array ao)(hb:W.heap[D]?=aa (.cells Jj 129 (0,0)))(ge:B.heap.size<=D)(sf:Strs W (aa ⟨H,0,N⟩) f.L)(st:Strs W (aa ⟨I,0,N⟩) t.L)(gR:B.heap.size<=H/\H<W.heap.size)(gX:B.heap.size<=I/\I<W.heap.size)(ne:H≠D/\I≠D)(be:ae B.heap.size B W):jZ B (W.setRow D O) D H I O f t:=by
 obtain⟨U,Z,J,r4,r5,r6⟩:=XZ O hb;refine⟨U,ge,sf.same (by omega) (fun b o e=>J b (by injection e with K;injection K with e2;omega)),st.same (by omega) (fun b o e=>J b (by injection e with K;injection K with e2;omega)),by omega,by omega,ne,⟨r4.trans be.os,r5.trans be.tape,r6.trans be.output,by rw[Z];exact be.size,fun k hk=>(J k (by omega)).trans (be.block k hk)⟩⟩
structure ZX (w W:World) (gf gt mb:Nat) (f t:Xg):Prop where
 sf:Strs W (aa ⟨gf,0,N⟩) f.L
 st:Strs W (aa ⟨gt,0,N⟩) t.L
 mp:W.heap[mb]?=aa (.map #[] 0)
 gR:w.heap.size<=gf/\gf<W.heap.size
 gX:w.heap.size<=gt/\gt<W.heap.size
 iX:w.heap.size<=mb/\mb<W.heap.size
 ne:gf≠mb/\gt≠mb
theorem P5 {c:Xg}{g:Nat}(H:¬0<(Jg c).1)(I:Strs W (aa ⟨g,0,N⟩) c.L):Yn W c (aa ⟨g,0,N⟩) c.L.length:=by
 obtain⟨⟨_,_,J⟩,K,_,B,_⟩:=Xm H;exact⟨I,aw _,(fun e=>by cases e),by omega,fun x D=>by have:=QF (B x D);omega,⟨by omega,by omega⟩,by omega,by omega⟩
theorem Zp.dJ {ad:Nat->aC}(h:Zp w ad)(B:∀k,k<w.heap.size->W.heap[k]?=w.heap[k]?):Zp W ad :=
 ⟨(af (a:=⟨_,0,N⟩) (B _ (YC h.c1))).trans h.c1,(af (a:=⟨_,0,N⟩) (B _ (YC h.c2))).trans h.c2,(af (a:=⟨_,0,N⟩) (B _ (YC h.c3))).trans h.c3,(af (a:=⟨_,0,N⟩) (B _ (YC h.c4))).trans h.c4,(af (a:=⟨_,0,N⟩) (B _ (YC h.c5))).trans h.c5⟩
theorem P6 (ad:Nat->aC)(nm key:BA)(op:Int)(f t:Xg)(I J:Int)(p q:Option aC)(cap a3:Nat)(asks told st:BA)(cf:aF)(O:Array ao)(w:World)(f3:Yn w f p cap)(f4:Yn w t q a3)(hE:Zp w ad){Q:Ending->World->Prop}(HB:∀c a,Xz f t key op I J=(c,a)->0<c->∀ev w',Jd w' ad ev c a->ae w.heap.size w w'->Q (.returned (.tuple #[.agg Jj,ev])) w')(HO:¬0<(Jg f).1->¬0<(Jg t).1->Jo key=az->0<=op->0<=I->0<=J->∀gf gt mb w',ZX w w' gf gt mb f t->ae w.heap.size w w'->Q (.returned (.tuple #[.agg (Xl nm key op f gf I t gt J asks told st (.func (.func cf) #[] O) mb),.nilIface])) w'):
 au prog 64 #[.agg #[.string nm,.string key,.int .i64 op,.int .i64 f.n,.int .i64 f.k,.slice p f.L.length cap,.int .i64 I,.int .i64 t.n,.int .i64 t.k,.slice q t.L.length a3,.int .i64 J,.string asks,.string told,.string st,.func (.func cf) #[] O]] w Q:=by
 obtain⟨w2,g8⟩:=Xb ((w.alloc (.cells #[.string nm,.string key,.int .i64 op,.int .i64 f.n,.int .i64 f.k,.slice p f.L.length cap,.int .i64 I,.int .i64 t.n,.int .i64 t.k,.slice q t.L.length a3,.int .i64 J,.string asks,.string told,.string st,.func (.func cf) #[] O] 133)).alloc (.cells #[.string ⟨#[]⟩,.string ⟨#[]⟩,.int .i64 0,.int .i64 0,.int .i64 0,.slice N 0 0,.int .i64 0,.string ⟨#[]⟩,.int .i64 0,.map N,.int .i64 0,.int .i64 0,.slice N 0 0,.int .i64 0,.int .i64 0,.int .i64 0,.slice N 0 0,.int .i64 0,.string ⟨#[]⟩,.nilFunc,.string ⟨#[]⟩,.int .i64 0,.int .i64 0,.string ⟨#[]⟩,.bool F] 129));have d6:iH w w2 nm key op f p cap I t q a3 J asks told st (.func (.func cf) #[] O):=by rw[g8];exact iH.start w nm key op f p cap I t q a3 J asks told st (.func (.func cf) #[] O)
 have c3:=(Jb d6.pl 3).1;have c4:=(Jb d6.pl 4).1;have c5:=(Jb d6.pl 5).1;unfold lD at c3 c4 c5;have g0:=qU ad f p cap w2 (f3.below d6.be) (hE.below d6.be);unfold iE at g0;have i4:Hid (∀W,ae w.heap.size w W->au prog 32 #[.agg #[.int .i64 t.n,.int .i64 t.k,.slice q t.L.length a3]] W fun e w'=>(∃ev,e=.returned ev/\Jd w' ad ev (Jg t).1 (Jg t).2)/\ae W.heap.size W w'):=fun W hW=>qU ad t q a3 W (f4.below hW) (hE.below hW)
 have f5:Hid (Zp w ad):=hE;have m0:Hid (∀W,au prog 50 #[.string key] W fun e w'=>e=.returned (.bool (Jo key))/\ae W.heap.size W w'):=fun W=>qF key W
 have m4:Hid (w2=(w.alloc (.cells #[.string nm,.string key,.int .i64 op,.int .i64 f.n,.int .i64 f.k,.slice p f.L.length cap,.int .i64 I,.int .i64 t.n,.int .i64 t.k,.slice q t.L.length a3,.int .i64 J,.string asks,.string told,.string st,.func (.func cf) #[] O] 133)).alloc (.cells #[.string ⟨#[]⟩,.string ⟨#[]⟩,.int .i64 0,.int .i64 0,.int .i64 0,.slice N 0 0,.int .i64 0,.string ⟨#[]⟩,.int .i64 0,.map N,.int .i64 0,.int .i64 0,.slice N 0 0,.int .i64 0,.int .i64 0,.int .i64 0,.slice N 0 0,.int .i64 0,.string ⟨#[]⟩,.nilFunc,.string ⟨#[]⟩,.int .i64 0,.int .i64 0,.string ⟨#[]⟩,.bool F] 129)):=g8;have m5:Hid (iH w w2 nm key op f p cap I t q a3 J asks told st (.func (.func cf) #[] O)):=d6;have g9:Hid (Yn w f p cap/\Yn w t q a3):=⟨f3,f4⟩;have d1:Hid (∀c a,Xz f t key op I J=(c,a)->0<c->∀ev w',Jd w' ad ev c a->ae w.heap.size w w'->Q (.returned (.tuple #[.agg Jj,ev])) w'):=HB;have e8:Hid (¬0<(Jg f).1->¬0<(Jg t).1->Jo key=az->0<=op->0<=I->0<=J->∀gf gt mb w',ZX w w' gf gt mb f t->ae w.heap.size w w'->Q (.returned (.tuple #[.agg (Xl nm key op f gf I t gt J asks told st (.func (.func cf) #[] O) mb),.nilIface])) w'):=HO;clear g8 d6 f3 f4 hE HB HO;go_enter func64,ntmps64;go_wp2_with (rw[<-m4.out])
 refine g0.mono ?_;rintro e w3 ⟨⟨ev,rfl,b1⟩,h0⟩;have b2:Hid (iH w w3 nm key op f p cap I t q a3 J asks told st (.func (.func cf) #[] O)):=m5.out.below h0;by_cases hf:0<(Jg f).1
 ·have HQ:Hid (∀ev w',Jd w' ad ev (Jg f).1 (Jg f).2->ae w.heap.size w w'->Q (.returned (.tuple #[.agg Jj,ev])) w'):=d1.out _ _ (if_pos hf) hf;clear d1 e8;obtain⟨et,eu,rfl⟩:=b1.some hf;obtain⟨r1,r2,r3,r4,r5,r6⟩:=XZ Jj b2.out.rs;obtain⟨w4,h5⟩:=Xb (w3.setRow (w.heap.size+1) Jj);rw[<-h5]at r1 r2 r3 r4 r5 r6;have e0:Hid (w4.heap[w.heap.size+1]?=aa (.cells Jj 129 (0,0))):=r1;have e3:Hid (Jd w4 ad (.iface et eu) _ _):=b1.off (Jb b2.out.rs 0).1 r3;have m6:Hid (w4=w3.setRow (w.heap.size+1) Jj):=h5;have e4:Hid (ae w.heap.size w w4):=⟨r4.trans b2.out.be.os,r5.trans b2.out.be.tape,r6.trans b2.out.be.output,by rw[r2];exact b2.out.be.size,fun k hk=>(r3 k (by omega)).trans (b2.out.be.block k hk)⟩;clear b1 h0 g0 c3 c4 c5 h5 r1 r2 r3 r4 r5 r6;go_wp2_with ((refine XR rfl 129 (.tmp 2) (.tmp 13) rfl (w.heap.size+1) Jj (by simp[ag]) (by simp[ag,Jj]) 129 Jj b2.out.rs YI rfl nQ ?_;rw[<-m6.out]))
  refine ai (v:=.tuple #[.agg Jj,.iface et eu]) (qV results64 rfl rfl e0.out underlying129 rfl YI) rfl (HQ.out _ _ e3.out e4.out)
 have f6:Hid (¬0<(Jg f).1):=hf;rw[(Xm hf).2.2.1]at b1;obtain rfl:=Jd.isNil b1;have h6:=i4.out w3 b2.out.be;have d7:=(Jb b2.out.pl 7).1;have d8:=(Jb b2.out.pl 8).1;have d9:=(Jb b2.out.pl 9).1;unfold lD at d7 d8 d9;clear b1 h0 g0 i4 c3 c4 c5;go_wp2_with fail
 refine h6.mono ?_;rintro e w4 ⟨⟨ev,rfl,b1⟩,h7⟩;have b7:Hid (iH w w4 nm key op f p cap I t q a3 J asks told st (.func (.func cf) #[] O)):=b2.out.below h7;by_cases ht:0<(Jg t).1
 ·have HQ:Hid (∀ev w',Jd w' ad ev (Jg t).1 (Jg t).2->ae w.heap.size w w'->Q (.returned (.tuple #[.agg Jj,ev])) w'):=d1.out _ _ (by unfold Xz;rw[if_neg (Int.not_lt.2 f6.out),if_pos ht]) ht;clear d1 e8;obtain⟨et,eu,rfl⟩:=b1.some ht;obtain⟨r1,r2,r3,r4,r5,r6⟩:=XZ Jj b7.out.rs;obtain⟨wz,a7⟩:=Xb (w4.setRow (w.heap.size+1) Jj);rw[<-a7]at r1 r2 r3 r4 r5 r6;have e0:Hid (wz.heap[w.heap.size+1]?=aa (.cells Jj 129 (0,0))):=r1;have e3:Hid (Jd wz ad (.iface et eu) _ _):=b1.off (Jb b7.out.rs 0).1 r3;have e5:Hid (wz=w4.setRow (w.heap.size+1) Jj):=a7;have e4:Hid (ae w.heap.size w wz):=⟨r4.trans b7.out.be.os,r5.trans b7.out.be.tape,r6.trans b7.out.be.output,by rw[r2];exact b7.out.be.size,fun k hk=>(r3 k (by omega)).trans (b7.out.be.block k hk)⟩;clear b1 h7 h6 d7 d8 d9 a7 r1 r2 r3 r4 r5 r6;go_wp2_with ((refine XR rfl 129 (.tmp 2) (.tmp 21) rfl (w.heap.size+1) Jj (by simp[ag]) (by simp[ag,Jj]) 129 Jj b7.out.rs YI rfl nQ ?_;rw[<-e5.out]))
  refine ai (v:=.tuple #[.agg Jj,.iface et eu]) (qV results64 rfl rfl e0.out underlying129 rfl YI) rfl (HQ.out _ _ e3.out e4.out)
 have g5:Hid (¬0<(Jg t).1):=ht;rw[(Xm ht).2.2.1]at b1;obtain rfl:=Jd.isNil b1;have e1:=(Jb b7.out.pl 1).1;unfold lD at e1;clear b1 h7 h6 d7 d8 d9;go_wp2_with fail
 refine(m0.out _).mono ?_;rintro e B ⟨rfl,g6⟩;have b4:Hid (iH w B nm key op f p cap I t q a3 J asks told st (.func (.func cf) #[] O)):=b7.out.below g6;cases hk:Jo key with
 |false =>
  have HQ:Hid (∀ev w',Jd w' ad ev 4 (-1)->ae w.heap.size w w'->Q (.returned (.tuple #[.agg Jj,ev])) w'):=d1.out _ _ (by unfold Xz;rw[if_neg (Int.not_lt.2 f6.out),if_neg (Int.not_lt.2 g5.out),if_pos hk]) (by decide);clear d1 e8;have f7:=(f5.out.below b4.out.be).c3;have a9:Hid (iH w B.drew nm key op f p cap I t q a3 J asks told st (.func (.func cf) #[] O)):=b4.out.below bR.drew;obtain⟨r1,r2,r3,r4,r5,r6⟩:=XZ Jj a9.out.rs;obtain⟨wz,a7⟩:=Xb (B.drew.setRow (w.heap.size+1) Jj);rw[<-a7]at r1 r2 r3 r4 r5 r6;have e0:Hid (wz.heap[w.heap.size+1]?=aa (.cells Jj 129 (0,0))):=r1;have e3:Hid (Jd wz ad (.iface 287 (.pointer (aa (ad 3)))) _ _):=Jd.b8 3 (by decide);have h8:Hid (wz.cell? ⟨5,0,N⟩=aa (.iface 287 (.pointer (aa (ad 3))))):=(af (a:=⟨5,0,N⟩) (r3 _ (by show 5≠_;have:=YC (f5.out.c3);omega))).trans f7;have e5:Hid (wz=B.drew.setRow (w.heap.size+1) Jj):=a7;have e4:Hid (ae w.heap.size w wz):=⟨r4.trans a9.out.be.os,r5.trans a9.out.be.tape,r6.trans a9.out.be.output,by rw[r2];exact a9.out.be.size,fun k hk=>(r3 k (by omega)).trans (a9.out.be.block k hk)⟩;clear g6 e1 a7 r1 r2 r3 r4 r5 r6;go_wp2;refine ak (S:=fun W=>W.cell? ⟨5,0,N⟩=aa (.iface 287 (.pointer (aa (ad 3))))) (by kernel_rfl) f7 (fun H=>?_);refine tk 0 _ H ?_;refine tk 1 _ H ?_;simp only[ac,sA,sZ,sS];refine rdy 2 [] _ (fun K D=>?_) ab;refine ZB rfl 129 (.tmp 2) (.tmp 27) rfl (w.heap.size+1) Jj (by simp[ag]) (by simp[ag,Jj]) 129 Jj a9.out.rs YI rfl nQ ?_;rw[<-e5.out];refine D.out _ _ ?_ (fun H=>?_)
  ·exact h8.out
  clear D K;try simp only[ac]
  refine tk 3 _ H ?_;simp only[ac,sA,sZ,sS];refine aj (by kernel_rfl) ?_ _;go_wp2;refine ai (v:=.tuple #[.agg Jj,.iface 287 (.pointer (aa (ad 3)))]) (qV results64 rfl rfl e0.out underlying129 rfl YI) rfl (HQ.out _ _ e3.out e4.out)
 |true =>
  have e2:=(Jb b4.out.pl 2).1;have e6:=(Jb b4.out.pl 6).1;have i5:=(Jb b4.out.pl 10).1;unfold lD at e2 e6 i5;by_cases e9:0<=op/\0<=I/\0<=J;rotate_left
  ·have HQ:Hid (∀ev w',Jd w' ad ev 2 (-1)->ae w.heap.size w w'->Q (.returned (.tuple #[.agg Jj,ev])) w'):=d1.out _ _ (by unfold Xz;rw[if_neg (Int.not_lt.2 f6.out),if_neg (Int.not_lt.2 g5.out),if_neg (by rw[hk];decide),if_neg e9]) (by decide);clear d1 e8;have f7:=(f5.out.below b4.out.be).c1;have a9:Hid (iH w B.drew nm key op f p cap I t q a3 J asks told st (.func (.func cf) #[] O)):=b4.out.below bR.drew;obtain⟨r1,r2,r3,r4,r5,r6⟩:=XZ Jj a9.out.rs;obtain⟨wz,a7⟩:=Xb (B.drew.setRow (w.heap.size+1) Jj);rw[<-a7]at r1 r2 r3 r4 r5 r6;have e0:Hid (wz.heap[w.heap.size+1]?=aa (.cells Jj 129 (0,0))):=r1;have e3:Hid (Jd wz ad (.iface 287 (.pointer (aa (ad 1)))) _ _):=Jd.b8 1 (by decide);have h8:Hid (wz.cell? ⟨0,0,N⟩=aa (.iface 287 (.pointer (aa (ad 1))))):=(af (a:=⟨0,0,N⟩) (r3 _ (by show 0≠_;have:=YC (f5.out.c1);omega))).trans f7;have e5:Hid (wz=B.drew.setRow (w.heap.size+1) Jj):=a7;have e4:Hid (ae w.heap.size w wz):=⟨r4.trans a9.out.be.os,r5.trans a9.out.be.tape,r6.trans a9.out.be.output,by rw[r2];exact a9.out.be.size,fun k hk=>(r3 k (by omega)).trans (a9.out.be.block k hk)⟩;clear g6 e1 a7 r1 r2 r3 r4 r5 r6;have hw:decide (op<0)=az∨decide (op<0)=F/\(decide (I<0)=az∨decide (I<0)=F/\decide (J<0)=az):=by
    by_cases Z:op<0
    ·exact ap (decide_eq_true Z)
    ·by_cases g2:I<0
     ·exact ah ⟨decide_eq_false Z,ap (decide_eq_true g2)⟩
     ·exact ah ⟨decide_eq_false Z,ah ⟨decide_eq_false g2,decide_eq_true (by omega)⟩⟩
   clear e9;rcases hw with i8|⟨i8,i9|⟨i9,m7⟩⟩
   all_goals
    go_wp2;refine ak (S:=fun W=>W.cell? ⟨0,0,N⟩=aa (.iface 287 (.pointer (aa (ad 1))))) (by kernel_rfl) f7 (fun H=>?_);refine tk 0 _ H ?_;refine tk 1 _ H ?_;simp only[ac,sA,sZ,sS];refine rdy 2 [] _ (fun K D=>?_) ab;refine ZB rfl 129 (.tmp 2) (.tmp 44) rfl (w.heap.size+1) Jj (by simp[ag]) (by simp[ag,Jj]) 129 Jj a9.out.rs YI rfl nQ ?_;rw[<-e5.out];refine D.out _ _ ?_ (fun H=>?_)
    ·exact h8.out
    clear D K;try simp only[ac]
    refine tk 3 _ H ?_;simp only[ac,sA,sZ,sS];refine aj (by kernel_rfl) ?_ _;go_wp2;refine ai (v:=.tuple #[.agg Jj,.iface 287 (.pointer (aa (ad 1)))]) (qV results64 rfl rfl e0.out underlying129 rfl YI) rfl (HQ.out _ _ e3.out e4.out)
  have HQ:Hid (∀gf gt mb w',ZX w w' gf gt mb f t->ae w.heap.size w w'->Q (.returned (.tuple #[.agg (Xl nm key op f gf I t gt J asks told st (.func (.func cf) #[] O) mb),.nilIface])) w'):=e8.out f6.out g5.out hk e9.1 e9.2.1 e9.2.2;clear d1 e8
  replace hf:=Int.not_lt.2 f6.out
  replace ht:=Int.not_lt.2 g5.out
  have f3:=g9.out.1;have f4:=g9.out.2;have h1:¬op<0:=by omega
  have h2:¬I<0:=by omega
  have h3:¬J<0:=by omega
  have m8:key.size<=1000:=by have:=QF hk;omega
  have j1:1<=f.L.length:=by obtain⟨⟨_,_,_⟩,h4,_⟩:=Xm hf;omega
  have j2:1<=t.L.length:=by obtain⟨⟨_,_,_⟩,h4,_⟩:=Xm ht;omega
  have m9:Hid (¬0<(Jg f).1):=hf;have h9:Hid (∀W,au prog 19 #[.string key] W fun e w'=>e=.returned (.string key)/\ae W.heap.size W w'):=fun W=>Xs key W (by omega)
  have g7:Hid (∀W,ae w.heap.size w W->au prog 89 #[.agg #[.int .i64 f.n,.int .i64 f.k,.slice p f.L.length cap,.int .i64 I]] W fun e w'=>(∃g,e=.returned (.agg #[.int .i64 f.n,.int .i64 f.k,.slice (aa ⟨g,0,N⟩) f.L.length f.L.length,.int .i64 I])/\Hid (Strs w' (aa ⟨g,0,N⟩) f.L/\W.heap.size<=g/\g<w'.heap.size))/\ae W.heap.size W w'):=fun W hW=>(DJ I f p cap W (f3.below hW) j1).mono fun e w' hq=>hq
  have f8:Hid (∀W,ae w.heap.size w W->au prog 89 #[.agg #[.int .i64 t.n,.int .i64 t.k,.slice q t.L.length a3,.int .i64 J]] W fun e w'=>(∃g,e=.returned (.agg #[.int .i64 t.n,.int .i64 t.k,.slice (aa ⟨g,0,N⟩) t.L.length t.L.length,.int .i64 J])/\Hid (Strs w' (aa ⟨g,0,N⟩) t.L/\W.heap.size<=g/\g<w'.heap.size))/\ae W.heap.size W w'):=fun W hW=>(DJ J t q a3 W (f4.below hW) j2).mono fun e w' hq=>hq
  have i8:decide (op<0)=false:=decide_eq_false h1;have i9:decide (I<0)=false:=decide_eq_false h2;have m7:decide (J<0)=false:=decide_eq_false h3;clear f3 f4 hf ht hk h1 h2 h3 m8 j1 j2 e9 g9;clear g6 e1;have HS:Hid (∀W,ae B.heap.size B W->(W.cell? ⟨w.heap.size,0,N⟩=aa (.string nm)/\W.cell? ⟨w.heap.size,1,N⟩=aa (.string key)/\W.cell? ⟨w.heap.size,2,N⟩=aa (.int .i64 op)/\W.cell? ⟨w.heap.size,3,N⟩=aa (.int .i64 f.n)/\W.cell? ⟨w.heap.size,4,N⟩=aa (.int .i64 f.k)/\W.cell? ⟨w.heap.size,5,N⟩=aa (.slice p f.L.length cap)/\W.cell? ⟨w.heap.size,6,N⟩=aa (.int .i64 I)/\W.cell? ⟨w.heap.size,7,N⟩=aa (.int .i64 t.n)/\W.cell? ⟨w.heap.size,8,N⟩=aa (.int .i64 t.k)/\W.cell? ⟨w.heap.size,9,N⟩=aa (.slice q t.L.length a3)/\W.cell? ⟨w.heap.size,10,N⟩=aa (.int .i64 J)/\W.cell? ⟨w.heap.size,11,N⟩=aa (.string asks)/\W.cell? ⟨w.heap.size,13,N⟩=aa (.string st)/\W.cell? ⟨w.heap.size,14,N⟩=aa (.func (.func cf) #[] O))):=fun W hW=>by
   have hp:=(b4.out.below hW).pl;exact⟨(Jb hp 0).1,(Jb hp 1).1,(Jb hp 2).1,(Jb hp 3).1,(Jb hp 4).1,(Jb hp 5).1,(Jb hp 6).1,(Jb hp 7).1,(Jb hp 8).1,(Jb hp 9).1,(Jb hp 10).1,(Jb hp 11).1,(Jb hp 13).1,(Jb hp 14).1⟩
  have d3:Hid (∀W,ae B.heap.size B W->ae w.heap.size w W):=fun W hW=>(b4.out.below hW).be
  have e7:Hid (∀W:World,ae W.heap.size W (W.alloc (.cells #[.string ⟨#[]⟩,.string ⟨#[]⟩,.int .i64 0,.int .i64 0,.int .i64 0,.slice N 0 0,.int .i64 0,.string ⟨#[]⟩,.int .i64 0,.map N,.int .i64 0,.int .i64 0,.slice N 0 0,.int .i64 0,.int .i64 0,.int .i64 0,.slice N 0 0,.int .i64 0,.string ⟨#[]⟩,.nilFunc,.string ⟨#[]⟩,.int .i64 0,.int .i64 0,.string ⟨#[]⟩,.bool F] 129))/\(W.alloc (.cells #[.string ⟨#[]⟩,.string ⟨#[]⟩,.int .i64 0,.int .i64 0,.int .i64 0,.slice N 0 0,.int .i64 0,.string ⟨#[]⟩,.int .i64 0,.map N,.int .i64 0,.int .i64 0,.slice N 0 0,.int .i64 0,.int .i64 0,.int .i64 0,.slice N 0 0,.int .i64 0,.string ⟨#[]⟩,.nilFunc,.string ⟨#[]⟩,.int .i64 0,.int .i64 0,.string ⟨#[]⟩,.bool F] 129)).heap[W.heap.size]?=aa (.cells Jj 129 (0,0))/\(W.alloc (.cells #[.string ⟨#[]⟩,.string ⟨#[]⟩,.int .i64 0,.int .i64 0,.int .i64 0,.slice N 0 0,.int .i64 0,.string ⟨#[]⟩,.int .i64 0,.map N,.int .i64 0,.int .i64 0,.slice N 0 0,.int .i64 0,.int .i64 0,.int .i64 0,.slice N 0 0,.int .i64 0,.string ⟨#[]⟩,.nilFunc,.string ⟨#[]⟩,.int .i64 0,.int .i64 0,.string ⟨#[]⟩,.bool F] 129)).heap.size=W.heap.size+1):=fun W=>⟨bR.alloc nR _,(by show(W.heap.push _)[W.heap.size]?=_;simp;rfl),by simp⟩
  go_wp2;clear e2 e6 i5;go_cut [6]from 46 to 66 (fun v W=>∃eb gf gt,v=.pointer (aa ⟨eb,0,N⟩)/\jZ B W eb gf gt (Xt nm key op f gf I t gt J asks st (.func (.func cf) #[] O)) f t)
  case first =>
   have k0:ae B.heap.size B B.drew:=bR.drew;refine ak (S:=fun W=>(W.cell? ⟨w.heap.size,0,N⟩=aa (.string nm)/\W.cell? ⟨w.heap.size,1,N⟩=aa (.string key)/\W.cell? ⟨w.heap.size,2,N⟩=aa (.int .i64 op)/\W.cell? ⟨w.heap.size,3,N⟩=aa (.int .i64 f.n)/\W.cell? ⟨w.heap.size,4,N⟩=aa (.int .i64 f.k)/\W.cell? ⟨w.heap.size,5,N⟩=aa (.slice p f.L.length cap)/\W.cell? ⟨w.heap.size,6,N⟩=aa (.int .i64 I)/\W.cell? ⟨w.heap.size,7,N⟩=aa (.int .i64 t.n)/\W.cell? ⟨w.heap.size,8,N⟩=aa (.int .i64 t.k)/\W.cell? ⟨w.heap.size,9,N⟩=aa (.slice q t.L.length a3)/\W.cell? ⟨w.heap.size,10,N⟩=aa (.int .i64 J)/\W.cell? ⟨w.heap.size,11,N⟩=aa (.string asks)/\W.cell? ⟨w.heap.size,13,N⟩=aa (.string st)/\W.cell? ⟨w.heap.size,14,N⟩=aa (.func (.func cf) #[] O))) (by kernel_rfl) (HS.out _ k0) (fun H=>?_);refine tk 0 _ H ?_;refine tk 1 _ H ?_;refine tk 2 _ H ?_;refine tk 3 _ H ?_;refine tk 5 _ H ?_;refine tk 6 _ H ?_;refine tk 8 _ H ?_;refine tk 9 _ H ?_;refine tk 11 _ H ?_;refine tk 12 _ H ?_;refine tk 14 _ H ?_;refine tk 15 _ H ?_;refine tk 16 _ H ?_;refine tk 17 _ H ?_;refine tk 18 _ H ?_;refine tk 19 _ H ?_;simp only[ac,sA,sZ,sS];have i0:=k0;refine rdy 4 [21] _ (fun K D=>?_) ?_
   ·skip
    go_simp;go_at_call 19
    refine(h9.out _).mono ?_;rintro e w6 ⟨rfl,d4⟩;have a8:ae B.heap.size B w6:=i0.trans (d4.mono i0.size);first|(refine D.out _ _ ?_ (fun H=>?_))|(go_wp2_with fail;refine D.out _ _ ?_ (fun H=>?_))
    ·exact HS.out _ a8
    clear D K;try simp only[ac,sA,sZ,sS]
    refine tk 7 _ H ?_;simp only[ac,sA,sZ,sS];refine rdy 10 [21] _ (fun K D=>?_) ?_
    ·skip
     go_simp;go_at_call 89
     refine(g7.out _ (d3.out _ a8)).mono ?_;rintro e w7 ⟨⟨Z,rfl,c8⟩,b5⟩;have a0:ae B.heap.size B w7:=a8.trans (b5.mono a8.size);first|(refine D.out _ _ ?_ (fun H=>?_))|(go_wp2_with fail;refine D.out _ _ ?_ (fun H=>?_))
     ·exact HS.out _ a0
     clear D K;try simp only[ac,sA,sZ,sS]
     refine rdy 13 [21] _ (fun K D=>?_) ?_
     ·skip
      go_simp;go_at_call 89
      refine(f8.out _ (d3.out _ a0)).mono ?_;rintro e w8 ⟨⟨g2,rfl,b6⟩,a4⟩;have a5:ae B.heap.size B w8:=a0.trans (a4.mono a0.size);first|(refine D.out _ _ ?_ (fun H=>?_))|(go_wp2_with fail;refine D.out _ _ ?_ (fun H=>?_))
      ·exact HS.out _ a5
      clear D K;try simp only[ac,sA,sZ,sS]
      refine tk 20 _ H ?_;simp only[ac,sA,sZ,sS];refine rdy 21 [] _ (fun K D=>?_) ab;go_simp;obtain⟨wa,a6⟩:=Xb (w8.alloc (.cells #[.string ⟨#[]⟩,.string ⟨#[]⟩,.int .i64 0,.int .i64 0,.int .i64 0,.slice N 0 0,.int .i64 0,.string ⟨#[]⟩,.int .i64 0,.map N,.int .i64 0,.int .i64 0,.slice N 0 0,.int .i64 0,.int .i64 0,.int .i64 0,.slice N 0 0,.int .i64 0,.string ⟨#[]⟩,.nilFunc,.string ⟨#[]⟩,.int .i64 0,.int .i64 0,.string ⟨#[]⟩,.bool F] 129));obtain⟨b3,b0,d0⟩:=e7.out w8;rw[<-a6]at b3 b0 d0;rw[<-a6];have a2:ae B.heap.size B wa:=a5.trans (b3.mono a5.size);refine D.out _ _ ?_ (fun H=>?_)
      ·exact HS.out _ a2
      clear D K a6;try simp only[ac,sA,sZ,sS]
      refine rdy 22 [] _ (fun K D=>?_) ab;refine ZB rfl 129 (.tmp 6) (.tmp 66) rfl w8.heap.size (Xt nm key op f Z I t g2 J asks st (.func (.func cf) #[] O)) (by simp[ag]) (by simp[ag,Xt]) 129 Jj b0 (tQ _ _ _ _ _ _ _ _ _ _ _ _) rfl (tT _ _ _ _ _ _ _ _ _ _ _ _ _) ?_;have z0:=a5.size;have U:jZ B (wa.setRow w8.heap.size (Xt nm key op f Z I t g2 J asks st (.func (.func cf) #[] O))) w8.heap.size Z g2 (Xt nm key op f Z I t g2 J asks st (.func (.func cf) #[] O)) f t:=by
       have y7:=c8.out.2;have y8:=b6.out.2;have s6:=d4.size;have s7:=b5.size;have s8:=a4.size;have sa:=d0;have sb:=a8.size;have sc:=a0.size;have sd:=a5.size;have se:=a2.size;have sx:B.drew.heap.size=B.heap.size:=rfl;exact jZ.of _ b0 (by omega) (((c8.out.1.below a4).below b3)) (b6.out.1.below b3) (by omega) (by omega) (by omega) a2
      refine D.out _ _ ?_ (fun H=>?_)
      ·exact HS.out _ U.be
      clear D K;try simp only[ac]
      refine aj (by kernel_rfl) ?_ _;go_wp2_with fail
      go_meet
      exact⟨_,Z,g2,rfl,U⟩
     ·refine ar (o:=⟨aa 6,.alloc 129,0, "errand.go:70",#[],N⟩) rfl (fun K D=>?_) ab;go_simp;obtain⟨wa,a6⟩:=Xb (w7.alloc (.cells #[.string ⟨#[]⟩,.string ⟨#[]⟩,.int .i64 0,.int .i64 0,.int .i64 0,.slice N 0 0,.int .i64 0,.string ⟨#[]⟩,.int .i64 0,.map N,.int .i64 0,.int .i64 0,.slice N 0 0,.int .i64 0,.int .i64 0,.int .i64 0,.slice N 0 0,.int .i64 0,.string ⟨#[]⟩,.nilFunc,.string ⟨#[]⟩,.int .i64 0,.int .i64 0,.string ⟨#[]⟩,.bool F] 129));obtain⟨b3,b0,d0⟩:=e7.out w7;rw[<-a6]at b3 b0 d0;rw[<-a6];have a2:ae B.heap.size B wa:=a0.trans (b3.mono a0.size);refine D.out _ _ ?_ (fun H=>?_)
      ·exact HS.out _ a2
      clear D K a6;try simp only[ac,sA,sZ,sS]
      refine rdy 13 [] _ (fun K D=>?_) ab;go_simp;go_at_call 89
      refine(f8.out _ (d3.out _ a2)).mono ?_;rintro e w8 ⟨⟨g2,rfl,b6⟩,a4⟩;have a5:ae B.heap.size B w8:=a2.trans (a4.mono a2.size);have d5:w8.heap[w7.heap.size]?=aa (.cells Jj 129 (0,0)):=(a4.block _ (YG b0)).trans b0;first|(refine D.out _ _ ?_ (fun H=>?_))|(go_wp2_with fail;refine D.out _ _ ?_ (fun H=>?_))
      ·exact HS.out _ a5
      clear D K;try simp only[ac,sA,sZ,sS]
      refine tk 20 _ H ?_;simp only[ac,sA,sZ,sS];refine rdy 22 [] _ (fun K D=>?_) ab;refine ZB rfl 129 (.tmp 6) (.tmp 66) rfl w7.heap.size (Xt nm key op f Z I t g2 J asks st (.func (.func cf) #[] O)) (by simp[ag]) (by simp[ag,Xt]) 129 Jj d5 (tQ _ _ _ _ _ _ _ _ _ _ _ _) rfl (tT _ _ _ _ _ _ _ _ _ _ _ _ _) ?_;have z0:=a0.size;have U:jZ B (w8.setRow w7.heap.size (Xt nm key op f Z I t g2 J asks st (.func (.func cf) #[] O))) w7.heap.size Z g2 (Xt nm key op f Z I t g2 J asks st (.func (.func cf) #[] O)) f t:=by
       have y7:=c8.out.2;have y8:=b6.out.2;have s6:=d4.size;have s7:=b5.size;have s8:=a4.size;have sa:=d0;have sb:=a8.size;have sc:=a0.size;have sd:=a5.size;have se:=a2.size;have sx:B.drew.heap.size=B.heap.size:=rfl;exact jZ.of _ d5 (by omega) ((c8.out.1.below b3).below a4) b6.out.1 (by omega) (by omega) (by omega) a5
      refine D.out _ _ ?_ (fun H=>?_)
      ·exact HS.out _ U.be
      clear D K;try simp only[ac]
      refine aj (by kernel_rfl) ?_ _;go_wp2_with fail
      go_meet
      exact⟨_,Z,g2,rfl,U⟩
    ·refine ar (o:=⟨aa 6,.alloc 129,0, "errand.go:70",#[],N⟩) rfl (fun K D=>?_) ab;go_simp;obtain⟨wa,a6⟩:=Xb (w6.alloc (.cells #[.string ⟨#[]⟩,.string ⟨#[]⟩,.int .i64 0,.int .i64 0,.int .i64 0,.slice N 0 0,.int .i64 0,.string ⟨#[]⟩,.int .i64 0,.map N,.int .i64 0,.int .i64 0,.slice N 0 0,.int .i64 0,.int .i64 0,.int .i64 0,.slice N 0 0,.int .i64 0,.string ⟨#[]⟩,.nilFunc,.string ⟨#[]⟩,.int .i64 0,.int .i64 0,.string ⟨#[]⟩,.bool F] 129));obtain⟨b3,b0,d0⟩:=e7.out w6;rw[<-a6]at b3 b0 d0;rw[<-a6];have a2:ae B.heap.size B wa:=a8.trans (b3.mono a8.size);refine D.out _ _ ?_ (fun H=>?_)
     ·exact HS.out _ a2
     clear D K a6;try simp only[ac,sA,sZ,sS]
     refine rdy 10 [] _ (fun K D=>?_) ab;go_simp;go_at_call 89
     refine(g7.out _ (d3.out _ a2)).mono ?_;rintro e w7 ⟨⟨Z,rfl,c8⟩,b5⟩;have a0:ae B.heap.size B w7:=a2.trans (b5.mono a2.size);have f9:w7.heap[w6.heap.size]?=aa (.cells Jj 129 (0,0)):=(b5.block _ (YG b0)).trans b0;first|(refine D.out _ _ ?_ (fun H=>?_))|(go_wp2_with fail;refine D.out _ _ ?_ (fun H=>?_))
     ·exact HS.out _ a0
     clear D K;try simp only[ac,sA,sZ,sS]
     refine rdy 13 [] _ (fun K D=>?_) ab;go_simp;go_at_call 89
     refine(f8.out _ (d3.out _ a0)).mono ?_;rintro e w8 ⟨⟨g2,rfl,b6⟩,a4⟩;have a5:ae B.heap.size B w8:=a0.trans (a4.mono a0.size);have d5:w8.heap[w6.heap.size]?=aa (.cells Jj 129 (0,0)):=(a4.block _ (YG f9)).trans f9;first|(refine D.out _ _ ?_ (fun H=>?_))|(go_wp2_with fail;refine D.out _ _ ?_ (fun H=>?_))
     ·exact HS.out _ a5
     clear D K;try simp only[ac,sA,sZ,sS]
     refine tk 20 _ H ?_;simp only[ac,sA,sZ,sS];refine rdy 22 [] _ (fun K D=>?_) ab;refine ZB rfl 129 (.tmp 6) (.tmp 66) rfl w6.heap.size (Xt nm key op f Z I t g2 J asks st (.func (.func cf) #[] O)) (by simp[ag]) (by simp[ag,Xt]) 129 Jj d5 (tQ _ _ _ _ _ _ _ _ _ _ _ _) rfl (tT _ _ _ _ _ _ _ _ _ _ _ _ _) ?_;have z0:=a8.size;have U:jZ B (w8.setRow w6.heap.size (Xt nm key op f Z I t g2 J asks st (.func (.func cf) #[] O))) w6.heap.size Z g2 (Xt nm key op f Z I t g2 J asks st (.func (.func cf) #[] O)) f t:=by
      have y7:=c8.out.2;have y8:=b6.out.2;have s6:=d4.size;have s7:=b5.size;have s8:=a4.size;have sa:=d0;have sb:=a8.size;have sc:=a0.size;have sd:=a5.size;have se:=a2.size;have sx:B.drew.heap.size=B.heap.size:=rfl;exact jZ.of _ d5 (by omega) (c8.out.1.below a4) b6.out.1 (by omega) (by omega) (by omega) a5
     refine D.out _ _ ?_ (fun H=>?_)
     ·exact HS.out _ U.be
     clear D K;try simp only[ac]
     refine aj (by kernel_rfl) ?_ _;go_wp2_with fail
     go_meet
     exact⟨_,Z,g2,rfl,U⟩
   ·refine ar (o:=⟨aa 6,.alloc 129,0, "errand.go:70",#[],N⟩) rfl (fun K D=>?_) ab;go_simp;obtain⟨wa,a6⟩:=Xb ((B.alloc (.cells #[.string ⟨#[]⟩,.string ⟨#[]⟩,.int .i64 0,.int .i64 0,.int .i64 0,.slice N 0 0,.int .i64 0,.string ⟨#[]⟩,.int .i64 0,.map N,.int .i64 0,.int .i64 0,.slice N 0 0,.int .i64 0,.int .i64 0,.int .i64 0,.slice N 0 0,.int .i64 0,.string ⟨#[]⟩,.nilFunc,.string ⟨#[]⟩,.int .i64 0,.int .i64 0,.string ⟨#[]⟩,.bool F] 129)).drew);have b3:ae B.heap.size B wa:=by rw[a6];exact(e7.out B).1.drew
    have b0:wa.heap[B.heap.size]?=aa (.cells Jj 129 (0,0)):=by rw[a6];exact(e7.out B).2.1
    have d0:wa.heap.size=B.heap.size+1:=by rw[a6];exact(e7.out B).2.2
    rw[<-a6];have a2:=b3;refine D.out _ _ ?_ (fun H=>?_)
    ·exact HS.out _ a2
    clear D K a6;try simp only[ac,sA,sZ,sS]
    refine rdy 4 [] _ (fun K D=>?_) ab;go_simp;go_at_call 19
    refine(h9.out _).mono ?_;rintro e w6 ⟨rfl,d4⟩;have a8:ae B.heap.size B w6:=a2.trans (d4.mono a2.size);have k2:w6.heap[B.heap.size]?=aa (.cells Jj 129 (0,0)):=(d4.block _ (YG b0)).trans b0;first|(refine D.out _ _ ?_ (fun H=>?_))|(go_wp2_with fail;refine D.out _ _ ?_ (fun H=>?_))
    ·exact HS.out _ a8
    clear D K;try simp only[ac,sA,sZ,sS]
    refine tk 7 _ H ?_;simp only[ac,sA,sZ,sS];refine rdy 10 [] _ (fun K D=>?_) ab;go_simp;go_at_call 89
    refine(g7.out _ (d3.out _ a8)).mono ?_;rintro e w7 ⟨⟨Z,rfl,c8⟩,b5⟩;have a0:ae B.heap.size B w7:=a8.trans (b5.mono a8.size);have f9:w7.heap[B.heap.size]?=aa (.cells Jj 129 (0,0)):=(b5.block _ (YG k2)).trans k2;first|(refine D.out _ _ ?_ (fun H=>?_))|(go_wp2_with fail;refine D.out _ _ ?_ (fun H=>?_))
    ·exact HS.out _ a0
    clear D K;try simp only[ac,sA,sZ,sS]
    refine rdy 13 [] _ (fun K D=>?_) ab;go_simp;go_at_call 89
    refine(f8.out _ (d3.out _ a0)).mono ?_;rintro e w8 ⟨⟨g2,rfl,b6⟩,a4⟩;have a5:ae B.heap.size B w8:=a0.trans (a4.mono a0.size);have d5:w8.heap[B.heap.size]?=aa (.cells Jj 129 (0,0)):=(a4.block _ (YG f9)).trans f9;first|(refine D.out _ _ ?_ (fun H=>?_))|(go_wp2_with fail;refine D.out _ _ ?_ (fun H=>?_))
    ·exact HS.out _ a5
    clear D K;try simp only[ac,sA,sZ,sS]
    refine tk 20 _ H ?_;simp only[ac,sA,sZ,sS];refine rdy 22 [] _ (fun K D=>?_) ab;refine ZB rfl 129 (.tmp 6) (.tmp 66) rfl B.heap.size (Xt nm key op f Z I t g2 J asks st (.func (.func cf) #[] O)) (by simp[ag]) (by simp[ag,Xt]) 129 Jj d5 (tQ _ _ _ _ _ _ _ _ _ _ _ _) rfl (tT _ _ _ _ _ _ _ _ _ _ _ _ _) ?_;have z0:=i0.size;have U:jZ B (w8.setRow B.heap.size (Xt nm key op f Z I t g2 J asks st (.func (.func cf) #[] O))) B.heap.size Z g2 (Xt nm key op f Z I t g2 J asks st (.func (.func cf) #[] O)) f t:=by
     have y7:=c8.out.2;have y8:=b6.out.2;have s6:=d4.size;have s7:=b5.size;have s8:=a4.size;have sa:=d0;have sb:=a8.size;have sc:=a0.size;have sd:=a5.size;have se:=a2.size;have sx:B.drew.heap.size=B.heap.size:=rfl;exact jZ.of _ d5 (by omega) (c8.out.1.below a4) b6.out.1 (by omega) (by omega) (by omega) a5
    refine D.out _ _ ?_ (fun H=>?_)
    ·exact HS.out _ U.be
    clear D K;try simp only[ac]
    refine aj (by kernel_rfl) ?_ _;go_wp2_with fail
    go_meet
    exact⟨_,Z,g2,rfl,U⟩
  case rest =>
   obtain⟨eb,gf,gt,rfl,U⟩:=hcut;have k3:=(Jb U.blk 10).1;have k4:=(Jb U.blk 11).1;have k5:=(Jb U.blk 12).1;have k6:=(Jb U.blk 13).1;unfold Xt at k3 k4 k5 k6;have d2:=b4.out.below U.be;have k7:=(Jb d2.pl 12).1;unfold lD at k7;have n0:=b4.out.be.size;have i1:¬0<(Jg f).1:=by have:=m9.out;omega
   have i2:=ED ad ⟨f,I,.slice (aa ⟨gf,0,N⟩) f.L.length f.L.length⟩ (aa ⟨gf,0,N⟩) f.L.length told U.blk rfl i1 rfl (fun W hs hk=>⟨P5 i1 (U.sf.same hs (fun b o e=>hk b (by have:=U.gR;injection e with e1;injection e1 with e2;omega) (by have:=U.ne;injection e with e1;injection e1 with e2;omega))),f5.out.dJ (fun k n1=>by have:=U.ge;have:=U.be.size;exact(hk k (by omega) (by omega)).trans (d2.be.block k n1))⟩);dsimp only at i2;have l0:Hid (au prog 90 #[.pointer (aa ⟨eb,0,N⟩),.agg #[.int .i64 f.n,.int .i64 f.k,.slice (aa ⟨gf,0,N⟩) f.L.length f.L.length,.int .i64 I],.string told] wc fun e w'=>e=.returned (.tuple #[])/\∃mb,Hid (w'.heap[eb]?=aa (.cells (Xl nm key op f gf I t gt J asks told st (.func (.func cf) #[] O) mb) 129 (0,0)))/\Hid (w'.heap[w.heap.size+1]?=aa (.cells Jj 129 (0,0)))/\Hid (ZX w (w'.setRow (w.heap.size+1) (Xl nm key op f gf I t gt J asks told st (.func (.func cf) #[] O) mb)) gf gt mb f t/\ae w.heap.size w (w'.setRow (w.heap.size+1) (Xl nm key op f gf I t gt J asks told st (.func (.func cf) #[] O) mb)))):=i2.mono fun e w' hq=>by
    obtain⟨Z,mb,g2,g3,g4⟩:=hq;have n4:=YG b4.out.rs;have n5:=U.ge;have l7:w'.heap[w.heap.size+1]?=aa (.cells Jj 129 (0,0)):=(g3.cW _ (by have:=U.be.size;omega) (by omega)).trans d2.rs;obtain⟨r1,r2,r3,r4,r5,r6⟩:=XZ (Xl nm key op f gf I t gt J asks told st (.func (.func cf) #[] O) mb) l7;have n6:=U.gR;have n7:=U.gX;have n8:=U.ne;have n9:=g3.size;have o1:=U.be.size;have o2:=YG g4;refine⟨Z,mb,?_,l7,⟨?_,?_,?_,?_,?_,?_,?_⟩,?_⟩
    ·have:=g3.blk;rw[Jt1]at this;exact this
    ·exact U.sf.same (by omega) (fun b o e=>(r3 b (by injection e with e1;injection e1 with e2;omega)).trans (g3.cW b (by injection e with e1;injection e1 with e2;omega) (by injection e with e1;injection e1 with e2;omega)))
    ·exact U.st.same (by omega) (fun b o e=>(r3 b (by injection e with e1;injection e1 with e2;omega)).trans (g3.cW b (by injection e with e1;injection e1 with e2;omega) (by injection e with e1;injection e1 with e2;omega)))
    ·exact(r3 mb (by omega)).trans g4
    ·exact⟨by omega,by omega⟩
    ·exact⟨by omega,by omega⟩
    ·exact⟨by omega,by omega⟩
    ·exact⟨by omega,by omega⟩
    ·exact⟨r4.trans (g3.os.trans d2.be.os),r5.trans (g3.tape.trans d2.be.tape),r6.trans (g3.output.trans d2.be.output),by have:=d2.be.size;omega,fun k hk=>(r3 k (by omega)).trans ((g3.cW k (by omega) (by omega)).trans (d2.be.block k hk))⟩
   clear i2 U d2 n0 i1 HS d3 e7 h9 g7 f8;go_wp2_with fail
   refine l0.out.mono ?_;rintro e w9 ⟨rfl,mb,n2,l9,i3⟩;obtain⟨wz,a7⟩:=Xb (w9.setRow (w.heap.size+1) (Xl nm key op f gf I t gt J asks told st (.func (.func cf) #[] O) mb));have n3:Hid (wz.heap[w.heap.size+1]?=aa (.cells (Xl nm key op f gf I t gt J asks told st (.func (.func cf) #[] O) mb) 129 (0,0))):=by rw[a7];exact(XZ _ l9.out).1
   have e5:Hid (wz=w9.setRow (w.heap.size+1) (Xl nm key op f gf I t gt J asks told st (.func (.func cf) #[] O) mb)):=a7;rw[<-a7]at i3;clear l0 k3 k4 k5 k6 k7 a7;go_wp2_with (first|(refine wpList_load_mid rfl 129 (.tmp 6) rfl eb 0 rfl (Xl nm key op f gf I t gt J asks told st (.func (.func cf) #[] O) mb).toList _ (fun j u hu=>by rw[aA,(Jb n2.out j).1];simpa using hu) underlying129 rfl (nG _ _ _ _ _ _ _ _ _ _ _ _ _ _) ?_)|(refine XR rfl 129 (.tmp 2) (.tmp 73) rfl (w.heap.size+1) (Xl nm key op f gf I t gt J asks told st (.func (.func cf) #[] O) mb) rfl rfl 129 Jj l9.out (nG _ _ _ _ _ _ _ _ _ _ _ _ _ _) rfl (vT _ _ _ _ _ _ _ _ _ _ _ _ _ _ _) ?_;rw[<-e5.out])|fail)
   exact ai (v:=.tuple #[.agg (Xl nm key op f gf I t gt J asks told st (.func (.func cf) #[] O) mb),.nilIface]) (qV results64 rfl rfl n3.out underlying129 rfl (nG _ _ _ _ _ _ _ _ _ _ _ _ _ _)) rfl (HQ.out _ _ _ _ i3.out.1 i3.out.2)
theorem GA (ad:Nat->aC)(nm key:BA)(op:Int)(f t:Xg)(B D:Int)(p q:Option aC)(cap a0:Nat)(asks told st:BA)(cf:aF)(a2:Array ao)(w:World)(a3:Yn w f p cap)(a4:Yn w t q a0)(hE:Zp w ad):
 au prog 64 #[.agg #[.string nm,.string key,.int .i64 op,.int .i64 f.n,.int .i64 f.k,.slice p f.L.length cap,.int .i64 B,.int .i64 t.n,.int .i64 t.k,.slice q t.L.length a0,.int .i64 D,.string asks,.string told,.string st,.func (.func cf) #[] a2]] w fun e w'=>((0<(Xz f t key op B D).1/\∃H,e=.returned (.tuple #[.agg Jj,H])/\Jd w' ad H (Xz f t key op B D).1 (Xz f t key op B D).2)∨(Xz f t key op B D=(0,-1)/\(¬0<(Jg f).1/\¬0<(Jg t).1/\Jo key=az/\0<=op/\0<=B/\0<=D)/\∃I J mb,e=.returned (.tuple #[.agg (Xl nm key op f I B t J D asks told st (.func (.func cf) #[] a2) mb),.nilIface])/\ZX w w' I J mb f t))/\ae w.heap.size w w':=by
 exact P6 ad nm key op f t B D p q cap a0 asks told st cf a2 w a3 a4 hE (fun c a K O H w' U Z=>by rw[K];exact⟨ap ⟨O,H,rfl,U⟩,Z⟩) (fun K O U Z h5 h6 I J mb w' h7 h8=>⟨ah ⟨by unfold Xz;rw[if_neg K,if_neg O,if_neg (by rw[U];decide),if_pos ⟨Z,h5,h6⟩],⟨K,O,U,Z,h5,h6⟩,I,J,mb,rfl,h7⟩,h8⟩)
theorem ZX.below (h:ZX w W H I mb f t)(B:ae W.heap.size W D):ZX w D H I mb f t:=⟨h.sf.below B,h.st.below B,(B.block _ h.iX.2).trans h.mp,⟨h.gR.1,al h.gR.2 B.size⟩,⟨h.gX.1,al h.gX.2 B.size⟩,⟨h.iX.1,al h.iX.2 B.size⟩,h.ne⟩
theorem ZX.base (h:ZX w W H I mb f t)(B:D.heap.size<=w.heap.size):ZX D W H I mb f t:=⟨h.sf,h.st,h.mp,⟨av B h.gR.1,h.gR.2⟩,⟨av B h.gX.1,h.gX.2⟩,⟨av B h.iX.1,h.iX.2⟩,h.ne⟩
theorem Jpx (h:a.first):a.obj=(0,0,⟨#[]⟩,F):=if_neg (fun e=>by have:=mT h;rcases e.1 with e|e;exact this.1 e;exact this.2.1 e)
theorem JF.new {X:TypeId}{h:Nat}{O tn:Int}{asks told:BA}{cv:ao}{S1:Nat->Prop}(D:ZX w W H I mb f t)(hh:w.heap.size<=h/\h<W.heap.size)(a0:h≠H/\h≠I/\h≠mb)(hb:W.heap[h]?=aa (.cells (Xl a.name a.key a.op f H O t I tn asks told a.st.word cv mb) X (0,0)))(K:∀k,S1 k->w.heap.size<=k/\k<W.heap.size/\k≠h/\k≠mb)(a3:jY W (fun k=>k=H∨k=I∨S1 k) a.put a.who a.text cv)(a2:a.first)(hf:QN a)(a4:¬0<(Jg f).1)(a5:¬0<(Jg t).1)(e0:a.from_=[])(J:f=a.c/\O=a.config/\t=a.keeps.c/\tn=a.keeps.config)(B:asks=if a.aI then pX else rO)(hw:told=a.st.waits):ZR X W w.heap.size h (fun k=>k=h∨k=mb∨k=H∨k=I∨S1 k) a:=by
 refine⟨fun k=>k=H∨k=I∨S1 k,⟨f,O,.slice (aa ⟨H,0,N⟩) f.L.length f.L.length⟩,⟨f,O,.slice (aa ⟨H,0,N⟩) f.L.length f.L.length⟩,⟨t,tn,.slice (aa ⟨I,0,N⟩) t.L.length t.L.length⟩,asks,cv,told,aa mb,.map [],fun _=>.slice N 0 0,⟨?_,ap rfl,?_,⟨⟨a4,aa ⟨H,0,N⟩,f.L.length,rfl,D.sf,aw _,(fun e=>by cases e),(fun b o e=>ap (by injection e with U;injection U with Z;exact Z.symm))⟩,⟨a5,aa ⟨I,0,N⟩,t.L.length,rfl,D.st,aw _,(fun e=>by cases e),(fun b o e=>ah (ap (by injection e with U;injection U with Z;exact Z.symm)))⟩,fun _=>a3,(fun _ x hx=>by rw[e0]at hx;cases hx),?_⟩,?_,hf,⟨fun _=>⟨rfl,J.1,J.2.1,J.2.2.1,J.2.2.2⟩,fun e=>absurd e (mT a2).1,fun _=>⟨J.1,J.2.1⟩,B⟩,fun _=>⟨mb,rfl,ah (ap rfl),fun e=>a0.2.2 e.symm,?_⟩,(fun e=>by have:=mT a2;rcases e with e|e;exact absurd e this.2.1;exact absurd e this.2.2),fun _=>hw⟩⟩
 ·rw[hb];unfold JG Xl;rw[Jpx a2]
 ·rintro k (rfl|rfl|rfl|rfl|B)
  ·exact hh
  ·exact D.iX
  ·exact D.gR
  ·exact D.gX
  ·exact⟨(K k B).1,(K k B).2.1⟩
 ·rintro k (rfl|rfl|B)
  ·exact D.gR.2
  ·exact D.gX.2
  ·exact(K k B).2.1
 ·rintro k (rfl|rfl|B)
  ·exact⟨ah (ah (ap rfl)),fun e=>a0.1 e.symm,fun e=>D.ne.1 (Option.some.inj e).symm⟩
  ·exact⟨ah (ah (ah (ap rfl))),fun e=>a0.2.1 e.symm,fun e=>D.ne.2 (Option.some.inj e).symm⟩
  ·exact⟨ah (ah (ah (ah B))),(K k B).2.2.1,fun e=>(K k B).2.2.2 (Option.some.inj e).symm⟩
 ·rw[e0];exact ZC.made _ D.mp
theorem EF {P:Program}{ops:Array Oper}{rest:List Oper}{o:Oper}{a:Act}{Q:Exit->Act->World->Prop}(H:o.guard=N)(B:TypeId)(x:Operand)(I:o.op=.load B x)(b:Nat)(J:a.eval x=.pointer (aa ⟨b,0,N⟩))(cells:Array ao)(T:TypeId)(K:w.heap[b]?=aa (.cells cells T (0,0)))(d:TypeDesc)(D:P.underlying B=aa d)(O:d.isRow=az)(U:(P.info? B).map (·.size)=aa cells.size)(h:wpList P ops Q rest (a.put o.dst (.agg cells)) w):wpList P ops Q (o::rest) a w :=
 wpList_load_mid H B x I b 0 J cells.toList d (fun j u D=>by rw[aA,(Jb K j).1];simpa using D) D O (by simpa using U) (by simpa using h)
theorem DA (w:World):(w.alloc (.cells Jj 129)).heap[w.heap.size]?=aa (.cells Jj 129 (0,0)):=by
 show(w.heap.push _)[w.heap.size]?=_;simp
theorem Jo3 (ad:Nat->aC)(z:aC)(c:Xg)(mp:Option aC)(I:Nat)(p:Option aC)(LL:List (List Yb))(cl:Nat)(w:World)(ht:KN w ad z c mp I p LL):
 au prog 65 (#[.agg #[.int .i64 c.n,.int .i64 c.k,.slice mp c.L.length I],.slice p LL.length cl]++#[]) w fun e w'=>e=.returned (qE F 0 ⟨#[]⟩ c LL)/\ae w.heap.size w w':=by
 show au prog 65 #[.agg #[.int .i64 c.n,.int .i64 c.k,.slice mp c.L.length I],.slice p LL.length cl] w _;obtain⟨hc,hf,hL,hn,b4,b5,_,a7,hE,hZ⟩:=ht;have a8:qE F 0 ⟨#[]⟩ c LL=.agg #[.int .i64 (Ys c.n.toNat c.k.toNat LL.flatten LL.flatten).1.1,.int .i64 (Ys c.n.toNat c.k.toNat LL.flatten LL.flatten).1.2,.string (Ys c.n.toNat c.k.toNat LL.flatten LL.flatten).2.1,.bool (Ys c.n.toNat c.k.toNat LL.flatten LL.flatten).2.2]:=rfl;rw[a8];obtain⟨wa,J⟩:=Xb (w.alloc (.cells #[.int .i64 c.n,.int .i64 c.k,.slice mp c.L.length I] 49));have a3:=Zk J;have U:=QT J;obtain⟨K,O⟩:=Xb (wa.alloc (.cells #[.int .i64 0,.int .i64 0,.string ⟨#[]⟩,.bool F] 127));have a4:=Zk O;have H:=a3.trans (a4.mono a3.size);have a9:w.heap.size+1<K.heap.size:=by rw[O];simp[U]
 have b0:K.heap[w.heap.size+1]?=aa (.cells #[.int .i64 0,.int .i64 0,.string ⟨#[]⟩,.bool F] 127 (0,0)):=by
  rw[O,<-U];show(wa.heap.push _)[wa.heap.size]?=_;simp
 have b1:K.heap[w.heap.size]?=aa (.cells #[.int .i64 c.n,.int .i64 c.k,.slice mp c.L.length I] 49 (0,0)):=by
  rw[a4.block _ (by omega),J];show(w.heap.push _)[w.heap.size]?=_;simp
 obtain⟨g0,g1,g2⟩:=P9 b1;have b2:=(H.cell (p:=⟨9,0,N⟩) (YC hZ)).trans hZ;obtain⟨e1,e2⟩:=CM hf hn;have Z:=U4 ad c mp I LL p cl K (hc.below H) (hL.below H) b4 b5 a7 (hE.below H) z b2;rw[e1,e2]at Z;unfold iE at Z;generalize Ys c.n.toNat c.k.toNat LL.flatten LL.flatten=R at *;obtain⟨⟨t1,t2⟩,tx,fd⟩:=R;dsimp only at *;have b3:Hid (au prog 91 #[.agg #[.int .i64 c.n,.int .i64 c.k,.slice mp c.L.length I],.slice p LL.length cl] K fun e w'=>e=.returned (.tuple #[.agg #[.int .i64 t1,.int .i64 t2],.string tx,.bool fd,.nilIface])/\ae w.heap.size w w'/\w'.heap[w.heap.size+1]?=aa (.cells #[.int .i64 0,.int .i64 0,.string ⟨#[]⟩,.bool F] 127 (0,0))):=Z.mono fun e w' hp=>by
  obtain⟨⟨ev,h1,h2⟩,h3⟩:=hp;obtain rfl:=Jd.isNil h2;exact⟨h1,H.trans (h3.mono H.size),(h3.block _ a9).trans b0⟩
 have b6:Hid _:=J;have b7:Hid _:=O;have b8:Hid _:=U;clear Z hc hL a7 hE hZ b2 O H b0 a9 e1 e2 hf hn J a3 U a4 b1 a8;go_enter func65,ntmps65;go_wp2_with (first|rw[<-b6.out]|rw[<-b7.out,b8.out]|fail)
 refine b3.out.mono ?_;rintro e w1 ⟨rfl,a5,a0⟩;obtain⟨B,a2⟩:=Xb (w1.alloc (.cells #[.int .i64 t1,.int .i64 t2] 39));have c8:w.heap.size+1<w1.heap.size:=by
  rcases Nat.lt_or_ge (w.heap.size+1) w1.heap.size with h|h
  ·exact h
  ·rw[Array.getElem?_eq_none h]at a0;cases a0
 have a6:=Zk a2;have D:=(a6.block _ c8).trans a0;obtain⟨c0,c1⟩:=lO (JH a2);have k0:B.cell? ⟨w.heap.size+1,0,N⟩=aa (.int .i64 0):=by simp[aq,D]
 have k1:B.cell? ⟨w.heap.size+1,1,N⟩=aa (.int .i64 0):=by simp[aq,D]
 have k2:B.cell? ⟨w.heap.size+1,2,N⟩=aa (.string ⟨#[]⟩):=by simp[aq,D]
 have k3:B.cell? ⟨w.heap.size+1,3,N⟩=aa (.bool F):=by simp[aq,D]
 have f0:B.frozen? ⟨w.heap.size+1,0,N⟩=false:=by simp[am,D]
 have f1:B.frozen? ⟨w.heap.size+1,1,N⟩=false:=by simp[am,D]
 have f2:B.frozen? ⟨w.heap.size+1,2,N⟩=false:=by simp[am,D]
 have f3:B.frozen? ⟨w.heap.size+1,3,N⟩=false:=by simp[am,D]
 have d0:Hid (ae w.heap.size w ((((B.setCell ⟨w.heap.size+1,0,N⟩ (.int .i64 t1)).setCell ⟨w.heap.size+1,1,N⟩ (.int .i64 t2)).setCell ⟨w.heap.size+1,2,N⟩ (.string tx)).setCell ⟨w.heap.size+1,3,N⟩ (.bool fd))):=((((a5.trans (a6.mono a5.size)).setCell (by show w.heap.size<=w.heap.size+1;omega) _).setCell (by show w.heap.size<=w.heap.size+1;omega) _).setCell (by show w.heap.size<=w.heap.size+1;omega) _).setCell (by show w.heap.size<=w.heap.size+1;omega) _;have d1:Hid _:=a2;clear a2 a6 a0 D a5 b3 g0 g1 g2;go_wp2_with (rw[<-d1.out])
 exact ai (v:=.agg #[.int .i64 t1,.int .i64 t2,.string tx,.bool fd]) (by simp[results,results65,go_sem,k0,k1,k2,k3]) rfl ⟨rfl,d0.out⟩
theorem EY (w:World)(H:Nat->Prop)(who:Int)(text:BA):jY w H F who text (.func (.func 65) #[] #[]) :=
 ⟨_,_,rfl,fun args W=>by kernel_rfl,fun W _ ad z c mp B p LL cl D=>Jo3 ad z c mp B p LL cl W D⟩
end Go.Proofs.YtgapmoniajcliaaGreatDoor
