/- Texts laid together. -/
import Derived.Test.YtflpelnbjekjbaaGreatDoorZ23
import Derived.Test.YtflpelnbjekjbaaGreatDoorZ18
set_option maxRecDepth 10000
set_option maxHeartbeats 8000000
open Option renaming none->aa,some->ab
open Go.RowKit renaming Below->ae
open Bool renaming false->F,true->zi
open Go renaming Calls->af,Value->am,Addr->aI
open Nat renaming lt_of_lt_of_le->ag,le_trans->al,le_refl->an,zero_le->av
open Array renaming getElem?_eq_some_iff->ah,getElem?_setIfInBounds->ao,getElem?_push->ap,size_push->aN
open Go.RowKit.Below renaming heap_setCell->ai,refl->bj
open List renaming setIfInBounds_toArray->aj,getD_eq_getElem?_getD->ak,set_cons_zero->ar,set_cons_succ->au,getElem?_eq_getElem->ax,length_map->az,length_set->zc,range->bh
open Or renaming inr->aq,inl->aw
open Go.World renaming setCell->ay
namespace Go.Proofs.YtflpelnbjekjbaaGreatDoor
open Go.Proofs.Tryz
open Go.RowKit
variable {w W:World}{i g o n j:Nat}{T:TypeId}{a:Za}{x:Zb×Lv}{c:fB}{O0:Nat->Option Whose}
theorem Zc.kY {B:Nat}{v:am}{l:List Yb}(h:Zc Ze 169 w B v l)(Z:i<l.length):∃b o c,v=.slice (ab ⟨b,o,aa⟩) l.length c/\w.cell? ⟨b,o+i*5+4,aa⟩=ab (.string (Xd l i).text)/\w.frozen? ⟨b,o+i*5+4,aa⟩=F/\B<=b/\b<w.heap.size:=by
 obtain⟨p,c,I,J,_,_,K⟩:=h.form;obtain⟨b,o,rfl,a0,_,_,_,_,O⟩:=QU J Z;refine⟨b,o,c,I,O,?_,K b o rfl⟩;rcases h.2 with⟨D,_⟩|⟨g,cap,a2,D,_,U,_⟩
 ·rw[I]at D;cases D
 ·rw[I]at D;injection D with H _ _
  injection H with H
  injection H with H _ _
  subst H;exact(Xa U _).2
theorem PL {b:Nat}{a0 a1 a2 a3 a4 a5 a6 a7:am}(hb:W.heap[b]?=ab (.cells #[a0,a1,a2,a3,a4,a5,a6,a7] T (0,0)))(B D H I J K O U:am):((((((((W.setCell ⟨b,0,aa⟩ B).setCell ⟨b,1,aa⟩ D).setCell ⟨b,2,aa⟩ H).setCell ⟨b,3,aa⟩ I).setCell ⟨b,4,aa⟩ J).setCell ⟨b,5,aa⟩ K).setCell ⟨b,6,aa⟩ O).setCell ⟨b,7,aa⟩ U).heap[b]?=ab (.cells #[B,D,H,I,J,K,O,U] T (0,0)):=by
 have Z:=Qc hb 0 B;generalize W.setCell (pA b 0) B=w0 at *;have h1:=Qc Z 1 D;generalize w0.setCell (pA b 1) D=w1 at *;have h2:=Qc h1 2 H;generalize w1.setCell (pA b 2) H=w2 at *;have h3:=Qc h2 3 I;generalize w2.setCell (pA b 3) I=w3 at *;have h4:=Qc h3 4 J;generalize w3.setCell (pA b 4) J=w4 at *;have h5:=Qc h4 5 K;generalize w4.setCell (pA b 5) K=w5 at *;have h6:=Qc h5 6 O;generalize w5.setCell (pA b 6) O=w6 at *;have h7:=Qc h6 7 U;rw[h7];simp only[aj,ar,au]
theorem SH (x:Zb×Lv)(w:World)(hL:Jn w x)(hx:YF x.1):af prog 74 #[Z1 x.1 (fI x.2)] w fun e w'=>(∃lv:Lv,e=.returned (Z1 x.1 (fI lv))/\Jn w' (x.1,lv)/\∀b o,lv.1=ab ⟨b,o,aa⟩->w.heap.size<=b/\b<w'.heap.size)/\ae w.heap.size w w':=by
 obtain⟨⟨fr,aP,ki,ke,op,cf,I,L⟩,q,nl,c⟩:=x;have h0:nl=L.length:=hL.len;subst h0;have J:Ql Ze w q L:=hL.eC;have U:q=aa->L=[]/\c=0:=hL.empty;have h2:fr.size<=100:=hx.fr;have h3:aP.size<=100:=hx.aP;have h4:ki.size<=100:=hx.ki;have h6:ke.size<=100:=hx.ke;have p4:L.length<=60:=hx.bO;have b8:∀i,i<L.length->(Xd L i).text.size<=1000:=fun i hi=>(hx.cM _ (by have:=Xx hi;exact List.mem_of_getElem? this)).2
 obtain⟨B,a2⟩:=Xb ((w.alloc (.cells #[.string fr,.string aP,.string ki,.string ke,.int .i64 op,.int .i64 cf,.bool I,.slice q L.length c] 81)).alloc (.cells #[.string ⟨#[]⟩,.string ⟨#[]⟩,.string ⟨#[]⟩,.string ⟨#[]⟩,.int .i64 0,.int .i64 0,.bool F,.slice aa 0 0] 81));have b1:ae w.heap.size w B:=by rw[a2];exact(bR.alloc nR _).alloc (by simp) _
 have h7:B.heap.size=w.heap.size+2:=by rw[a2];simp
 have c8:B.heap[w.heap.size]?=ab (.cells #[.string fr,.string aP,.string ki,.string ke,.int .i64 op,.int .i64 cf,.bool I,.slice q L.length c] 81 (0,0)):=by
  rw[a2];show((w.heap.push _).push _)[w.heap.size]?=_;rw[ap,ap];simp
 have d8:B.heap[w.heap.size+1]?=ab (.cells #[.string ⟨#[]⟩,.string ⟨#[]⟩,.string ⟨#[]⟩,.string ⟨#[]⟩,.int .i64 0,.int .i64 0,.bool F,.slice aa 0 0] 81 (0,0)):=by
  rw[a2];show((w.heap.push _).push _)[w.heap.size+1]?=_;rw[ap];simp
 have HK:Hid (∀W,ae B.heap.size B W->W.heap[w.heap.size]?=ab (.cells #[.string fr,.string aP,.string ki,.string ke,.int .i64 op,.int .i64 cf,.bool I,.slice q L.length c] 81 (0,0))/\W.heap[w.heap.size+1]?=ab (.cells #[.string ⟨#[]⟩,.string ⟨#[]⟩,.string ⟨#[]⟩,.string ⟨#[]⟩,.int .i64 0,.int .i64 0,.bool F,.slice aa 0 0] 81 (0,0))):=fun W K=>⟨(K.block _ (by omega)).trans c8,(K.block _ (by omega)).trans d8⟩
 have HF:Hid (∀W,ae B.heap.size B W->(W.cell? (pA w.heap.size 0)=ab (.string fr)/\W.cell? (pA w.heap.size 1)=ab (.string aP)/\W.cell? (pA w.heap.size 2)=ab (.string ki)/\W.cell? (pA w.heap.size 3)=ab (.string ke))/\(W.frozen? (pA w.heap.size 0)=F/\W.frozen? (pA w.heap.size 1)=F/\W.frozen? (pA w.heap.size 2)=F/\W.frozen? (pA w.heap.size 3)=F)/\(W.setCell (pA w.heap.size 0) (.string fr)=W/\W.setCell (pA w.heap.size 1) (.string aP)=W/\W.setCell (pA w.heap.size 2) (.string ki)=W/\W.setCell (pA w.heap.size 3) (.string ke)=W)):=fun W K=>by
  have H:=(HK.out W K).1;have c0:W.cell? (pA w.heap.size 0)=ab (.string fr):=(Xa H 0).1;have c1:W.cell? (pA w.heap.size 1)=ab (.string aP):=(Xa H 1).1;have c2:W.cell? (pA w.heap.size 2)=ab (.string ki):=(Xa H 2).1;have c3:W.cell? (pA w.heap.size 3)=ab (.string ke):=(Xa H 3).1;exact⟨⟨c0,c1,c2,c3⟩,⟨(Xa H 0).2,(Xa H 1).2,(Xa H 2).2,(Xa H 3).2⟩,⟨Yo c0,Yo c1,Yo c2,Yo c3⟩⟩
 have HC:Hid (∀s:BA,s.size<=100->∀W,ae B.heap.size B W->af prog 28 #[.string s] W fun e w'=>e=.returned (.string s)/\((w'.cell? (pA w.heap.size 0)=ab (.string fr)/\w'.cell? (pA w.heap.size 1)=ab (.string aP)/\w'.cell? (pA w.heap.size 2)=ab (.string ki)/\w'.cell? (pA w.heap.size 3)=ab (.string ke))/\(w'.frozen? (pA w.heap.size 0)=F/\w'.frozen? (pA w.heap.size 1)=F/\w'.frozen? (pA w.heap.size 2)=F/\w'.frozen? (pA w.heap.size 3)=F)/\(w'.setCell (pA w.heap.size 0) (.string fr)=w'/\w'.setCell (pA w.heap.size 1) (.string aP)=w'/\w'.setCell (pA w.heap.size 2) (.string ki)=w'/\w'.setCell (pA w.heap.size 3) (.string ke)=w'))/\Hid (ae B.heap.size B w')):=fun s hs W K=>(Xs s W (by omega)).mono fun e w' U=>⟨U.1,HF.out w' (K.trans (U.2.mono K.size)),K.trans (U.2.mono K.size)⟩
 have HV:Hid (∀W,ae B.heap.size B W->af prog 98 #[.slice q L.length c] W fun e w'=>∃D c1,e=.returned (.slice D L.length c1)/\Hid (Zc Ze 169 w' B.heap.size (.slice D L.length c1) L/\ae B.heap.size B w')):=fun W K=>by
  have h8:ae w.heap.size w W:=b1.trans (K.mono b1.size);refine(IQ q L c W (J.below h8) U (by omega)).mono fun e w' U=>?_
  obtain⟨⟨v,e1,Z⟩,hb⟩:=U;obtain⟨D,c1,rfl,_⟩:=Z.form;exact⟨D,c1,e1,Z.base K.size,K.trans (hb.mono K.size)⟩
 have HT:Hid (∀i,i<L.length->∀W,af prog 28 #[.string (Xd L i).text] W fun e w'=>e=.returned (.string (Xd L i).text)/\ae W.heap.size W w'):=fun i hi W=>Xs _ W (by have:=b8 i hi;omega)
 have a5:Hid (w.heap.size<B.heap.size/\w.heap.size+1<B.heap.size/\ae w.heap.size w B):=⟨by omega,by omega,b1⟩;have d9:Hid (B=(w.alloc (.cells #[.string fr,.string aP,.string ki,.string ke,.int .i64 op,.int .i64 cf,.bool I,.slice q L.length c] 81)).alloc (.cells #[.string ⟨#[]⟩,.string ⟨#[]⟩,.string ⟨#[]⟩,.string ⟨#[]⟩,.int .i64 0,.int .i64 0,.bool F,.slice aa 0 0] 81)):=a2;have b3:Hid (∀W D c1,Zc Ze 169 W B.heap.size (.slice D L.length c1) L->ae w.heap.size w W->W.heap[w.heap.size+1]?=ab (.cells #[.string ⟨#[]⟩,.string ⟨#[]⟩,.string ⟨#[]⟩,.string ⟨#[]⟩,.int .i64 0,.int .i64 0,.bool F,.slice aa 0 0] 81 (0,0))->∀O,O=(((((((W.setCell (pA (w.heap.size+1) 0) (.string fr)).setCell (pA (w.heap.size+1) 1) (.string aP)).setCell (pA (w.heap.size+1) 2) (.string ki)).setCell (pA (w.heap.size+1) 3) (.string ke)).setCell (pA (w.heap.size+1) 4) (.int .i64 op)).setCell (pA (w.heap.size+1) 5) (.int .i64 cf)).setCell (pA (w.heap.size+1) 6) (.bool I)).setCell (pA (w.heap.size+1) 7) (.slice D L.length c1)->O.heap[w.heap.size+1]?=ab (.cells #[.string fr,.string aP,.string ki,.string ke,.int .i64 op,.int .i64 cf,.bool I,.slice D L.length c1] 81 (0,0))/\((∃lv:Lv,(Ending.returned (.agg #[.string fr,.string aP,.string ki,.string ke,.int .i64 op,.int .i64 cf,.bool I,.slice D L.length c1]))=.returned (Z1 ⟨fr,aP,ki,ke,op,cf,I,L⟩ (fI lv))/\Jn O (⟨fr,aP,ki,ke,op,cf,I,L⟩,lv)/\∀b o,lv.1=ab (pA b o)->w.heap.size<=b/\b<O.heap.size)/\ae w.heap.size w O)):=fun W D c1 Z hB H O a3=>by
  have h9:=PL H (.string fr) (.string aP) (.string ki) (.string ke) (.int .i64 op) (.int .i64 cf) (.bool I) (.slice D L.length c1);have i0:=xE W (w.heap.size+1) (w.heap.size+1) nR (.string fr) (.string aP) (.string ki) (.string ke) (.int .i64 op) (.int .i64 cf) (.bool I) (.slice D L.length c1);have e8:=xE W (w.heap.size+1) w.heap.size (Nat.le_succ _) (.string fr) (.string aP) (.string ki) (.string ke) (.int .i64 op) (.int .i64 cf) (.bool I) (.slice D L.length c1);rw[<-a3]at h9 i0 e8;have i1:Zc Ze 169 O B.heap.size (.slice D L.length c1) L:=Z.dC (fun k H=>by
   have h1:=(Z.block H).1;rw[a3];have i2:k≠w.heap.size+1:=by omega
   iterate 8 rw[ai _ _ _ _ i2])
  obtain⟨p2,c2,hv,g1,g2,g3,g4⟩:=i1.form;obtain⟨e1,_,e3⟩:=Value.slice.inj hv;subst e1 e3;exact⟨h9,⟨⟨(D,L.length,c1),rfl,⟨rfl,g1,g2,g3⟩,fun b o e=>by have:=g4 b o e;omega⟩,hB.trans e8⟩⟩
 clear hx hL b8 J U c8 d8 h7 a2 b1;have e9:ae B.heap.size B B.drew:=bR.drew;obtain⟨⟨i3,i4,i5,i8⟩,⟨i9,j1,j2,k0⟩,⟨k2,k3,k4,k5⟩⟩:=HF.out B bR;show af _ _ #[.agg #[.string fr,.string aP,.string ki,.string ke,.int .i64 op,.int .i64 cf,.bool I,.slice q L.length c]] _ _;go_enter func74,ntmps74;go_wp2_with (rw[<-d9.out])
 go_cut []from 4 to 11 (fun W=>ae B.heap.size B W)
 case first =>
  go_region_law (go_simp;go_at_call 28;refine(HC.out _ (by first|exact h2|exact h3) _ (by first|exact e9|exact a6.out)).mono ?_;rintro e w5 ⟨rfl,⟨⟨k6,l0,l7,l9⟩,⟨m0,m4,m5,m6⟩,⟨m8,m9,n0,n1⟩⟩,a6⟩;go_simp)
  all_goals (go_wp2_with fail;go_meet)
  all_goals exact a6.out
 case rest =>
  obtain⟨⟨n2,n3,n4,n5⟩,⟨n6,n7,n8,n9⟩,⟨o1,o2,o3,o4⟩⟩:=HF.out wc hcut;have f8:ae B.heap.size B wc.drew:=hcut.drew;clear hcut e9 i3 i4 i5 i8 i9 j1 j2 k0 k2 k3 k4 k5;go_wp2_with fail
  go_cut []from 12 to 19 (fun W=>ae B.heap.size B W)
  case first =>
   go_region_law (go_simp;go_at_call 28;refine(HC.out _ (by first|exact h4|exact h6) _ (by first|exact f8|exact a6.out)).mono ?_;rintro e w5 ⟨rfl,⟨⟨k6,l0,l7,l9⟩,⟨m0,m4,m5,m6⟩,⟨m8,m9,n0,n1⟩⟩,a6⟩;go_simp)
   all_goals (go_wp2_with fail;go_meet)
   all_goals exact a6.out
  case rest =>
   clear n2 n3 n4 n5 n6 n7 n8 n9 o1 o2 o3 o4 f8 HC HF;obtain⟨w4,b4⟩:=Xb wc;have b2:ae B.heap.size B w4:=by rw[b4];exact hcut
   rw[<-b4];clear hcut b4;have o5:Hid (ae B.heap.size B w4):=b2;have q7:w4.cell? (pA w.heap.size 7)=ab (.slice q L.length c):=(Xa (HK.out w4 b2).1 7).1;have f9:=HV.out w4 b2;clear b2 HV;go_wp2_with fail
   refine f9.mono ?_;rintro e w5 ⟨D,c1,rfl,a9⟩;have b0:=HK.out w5 a9.out.2;have a7:w5.cell? (pA w.heap.size 7)=ab (.slice q L.length c):=(Xa b0.1 7).1;have f7:=(Xa b0.1 7).2;obtain⟨w6,a4⟩:=Xb (w5.setCell (pA w.heap.size 7) (.slice D L.length c1));have b5:w6.heap[w.heap.size]?=ab (.cells #[.string fr,.string aP,.string ki,.string ke,.int .i64 op,.int .i64 cf,.bool I,.slice D L.length c1] 81 (0,0)):=by rw[a4];exact Qc b0.1 7 _
   have g0:w6.heap[w.heap.size+1]?=ab (.cells #[.string ⟨#[]⟩,.string ⟨#[]⟩,.string ⟨#[]⟩,.string ⟨#[]⟩,.int .i64 0,.int .i64 0,.bool F,.slice aa 0 0] 81 (0,0)):=by rw[a4];exact(ai _ _ _ _ (by show w.heap.size+1≠w.heap.size;omega)).trans b0.2
   have g5:ae w.heap.size w w6:=by rw[a4];exact(a5.out.2.2.trans (a9.out.2.mono a5.out.2.2.size)).setCell nR _
   have g6:Zc Ze 169 w6 B.heap.size (.slice D L.length c1) L:=a9.out.1.dC (fun k H=>by rw[a4];exact ai _ _ _ _ (by have:=(a9.out.1.block H).1;have:=a5.out.1;show k≠w.heap.size;omega));have b6:Hid (Zc Ze 169 w6 B.heap.size (.slice D L.length c1) L/\w6.heap[w.heap.size]?=ab (.cells #[.string fr,.string aP,.string ki,.string ke,.int .i64 op,.int .i64 cf,.bool I,.slice D L.length c1] 81 (0,0))/\w6.heap[w.heap.size+1]?=ab (.cells #[.string ⟨#[]⟩,.string ⟨#[]⟩,.string ⟨#[]⟩,.string ⟨#[]⟩,.int .i64 0,.int .i64 0,.bool F,.slice aa 0 0] 81 (0,0))/\ae w.heap.size w w6):=⟨g6,b5,g0,g5⟩;have b7:w6.cell? (pA w.heap.size 7)=ab (.slice D L.length c1):=(Xa b5 7).1;have o6:Hid (w6=w5.setCell (pA w.heap.size 7) (.slice D L.length c1)):=a4;clear b0 b5 g0 g5 g6 a4 a9 f9 o5 HK d9;go_wp2_with (rw[<-o6.out])
   clear a7 f7 b7 q7;go_loopw [27] (fun x wr=>∃i:Nat,i<=L.length/\x=.int .i64 i/\Zc Ze 169 wr B.heap.size (.slice D L.length c1) L/\wr.heap[w.heap.size]?=ab (.cells #[.string fr,.string aP,.string ki,.string ke,.int .i64 op,.int .i64 cf,.bool I,.slice D L.length c1] 81 (0,0))/\wr.heap[w.heap.size+1]?=ab (.cells #[.string ⟨#[]⟩,.string ⟨#[]⟩,.string ⟨#[]⟩,.string ⟨#[]⟩,.int .i64 0,.int .i64 0,.bool F,.slice aa 0 0] 81 (0,0))/\ae w.heap.size w wr) (fun x _=>L.length-(intOf x).toNat)
   case atStart=>exact⟨0,av _,rfl,b6.out⟩
   case round =>
    obtain⟨i,hi,rfl,Z,H,J,hB⟩:=hrel;by_cases g7:i<L.length
    ·obtain⟨b,o,c2,hv,h5,f5,p5,g8⟩:=Z.kY g7;obtain rfl:D=ab (pA b o):=by injection hv
     clear hv;have k7:wr.cell? (pA w.heap.size 7)=ab (.slice (ab (pA b o)) L.length c1):=(Xa H 7).1;have g9:w.heap.size<wr.heap.size:=(ah.1 H).1;have o7:w.heap.size+1<wr.heap.size:=(ah.1 J).1;have p0:af prog 28 #[.string (Xd L i).text] wr.drew fun e W=>e=.returned (.string (Xd L i).text)/\W.cell? (pA w.heap.size 7)=ab (.slice (ab (pA b o)) L.length c1)/\(W.cell? (pA b (o+i*5+4))=ab (.string (Xd L i).text)/\W.frozen? (pA b (o+i*5+4))=F/\W.setCell (pA b (o+i*5+4)) (.string (Xd L i).text)=W)/\Hid (Zc Ze 169 W B.heap.size (.slice (ab (pA b o)) L.length c1) L/\W.heap[w.heap.size]?=ab (.cells #[.string fr,.string aP,.string ki,.string ke,.int .i64 op,.int .i64 cf,.bool I,.slice (ab (pA b o)) L.length c1] 81 (0,0))/\W.heap[w.heap.size+1]?=ab (.cells #[.string ⟨#[]⟩,.string ⟨#[]⟩,.string ⟨#[]⟩,.string ⟨#[]⟩,.int .i64 0,.int .i64 0,.bool F,.slice aa 0 0] 81 (0,0))/\ae w.heap.size w W):=(HT.out i g7 wr.drew).mono fun e W U=>by
      have K:ae wr.heap.size wr W:=(bj _ wr).drew.trans U.2;have hc:=(K.cell (p:=(pA b (o+i*5+4))) g8).trans h5;exact⟨U.1,(K.cell (p:=(pA w.heap.size 7)) g9).trans k7,⟨hc,(World.frozen?_of_block (a:=(pA b (o+i*5+4))) (K.block b g8)).trans f5,Yo hc⟩,Z.kept K,(K.block _ g9).trans H,(K.block _ o7).trans J,hB.trans (K.mono hB.size)⟩
     clear Z H J hB f5 HT b6 b3 a5;generalize (Xd L i).text=t at *;go_wp2_with fail
     go_region_law (go_simp;go_at_call 28;refine p0.mono ?_;rintro e w7 ⟨rfl,m7,⟨g1,g2,g3⟩,H7⟩;go_simp)
     all_goals clear g1 g2 g3
     all_goals go_wp2
     all_goals go_roundw
     all_goals first|exact⟨i+1,by omega,by go_num,H7.out⟩|(simp[intOf];omega)
    ·obtain⟨O,a3⟩:=Xb ((((((((wr.setCell (pA (w.heap.size+1) 0) (.string fr)).setCell (pA (w.heap.size+1) 1) (.string aP)).setCell (pA (w.heap.size+1) 2) (.string ki)).setCell (pA (w.heap.size+1) 3) (.string ke)).setCell (pA (w.heap.size+1) 4) (.int .i64 op)).setCell (pA (w.heap.size+1) 5) (.int .i64 cf)).setCell (pA (w.heap.size+1) 6) (.bool I)).setCell (pA (w.heap.size+1) 7) (.slice D L.length c1));obtain⟨a0,hG⟩:=b3.out wr D c1 Z hB J O a3;have d0:wr.cell? (pA w.heap.size 0)=ab (.string fr):=(Xa H 0).1;have d1:wr.cell? (pA w.heap.size 1)=ab (.string aP):=(Xa H 1).1;have d2:wr.cell? (pA w.heap.size 2)=ab (.string ki):=(Xa H 2).1;have d3:wr.cell? (pA w.heap.size 3)=ab (.string ke):=(Xa H 3).1;have d4:wr.cell? (pA w.heap.size 4)=ab (.int .i64 op):=(Xa H 4).1;have d5:wr.cell? (pA w.heap.size 5)=ab (.int .i64 cf):=(Xa H 5).1;have d6:wr.cell? (pA w.heap.size 6)=ab (.bool I):=(Xa H 6).1;have d7:wr.cell? (pA w.heap.size 7)=ab (.slice D L.length c1):=(Xa H 7).1;have e0:wr.cell? (pA (w.heap.size+1) 0)=ab (.string ⟨#[]⟩):=(Xa J 0).1;have e1:wr.cell? (pA (w.heap.size+1) 1)=ab (.string ⟨#[]⟩):=(Xa J 1).1;have e2:wr.cell? (pA (w.heap.size+1) 2)=ab (.string ⟨#[]⟩):=(Xa J 2).1;have e3:wr.cell? (pA (w.heap.size+1) 3)=ab (.string ⟨#[]⟩):=(Xa J 3).1;have e4:wr.cell? (pA (w.heap.size+1) 4)=ab (.int .i64 0):=(Xa J 4).1;have e5:wr.cell? (pA (w.heap.size+1) 5)=ab (.int .i64 0):=(Xa J 5).1;have e6:wr.cell? (pA (w.heap.size+1) 6)=ab (.bool F):=(Xa J 6).1;have e7:wr.cell? (pA (w.heap.size+1) 7)=ab (.slice aa 0 0):=(Xa J 7).1;have f0:=(Xa J 0).2;have f1:=(Xa J 1).2;have f2:=(Xa J 2).2;have f3:=(Xa J 3).2;have f4:=(Xa J 4).2;have f5:=(Xa J 5).2;have f6:=(Xa J 6).2;have f7:=(Xa J 7).2;have r0:O.cell? (pA (w.heap.size+1) 0)=ab (.string fr):=(Xa a0 0).1;have r1:O.cell? (pA (w.heap.size+1) 1)=ab (.string aP):=(Xa a0 1).1;have r2:O.cell? (pA (w.heap.size+1) 2)=ab (.string ki):=(Xa a0 2).1;have r3:O.cell? (pA (w.heap.size+1) 3)=ab (.string ke):=(Xa a0 3).1;have r4:O.cell? (pA (w.heap.size+1) 4)=ab (.int .i64 op):=(Xa a0 4).1;have r5:O.cell? (pA (w.heap.size+1) 5)=ab (.int .i64 cf):=(Xa a0 5).1;have r6:O.cell? (pA (w.heap.size+1) 6)=ab (.bool I):=(Xa a0 6).1;have r7:O.cell? (pA (w.heap.size+1) 7)=ab (.slice D L.length c1):=(Xa a0 7).1;have HG:Hid ((∃lv:Lv,(Ending.returned (.agg #[.string fr,.string aP,.string ki,.string ke,.int .i64 op,.int .i64 cf,.bool I,.slice D L.length c1]))=.returned (Z1 ⟨fr,aP,ki,ke,op,cf,I,L⟩ (fI lv))/\Jn O (⟨fr,aP,ki,ke,op,cf,I,L⟩,lv)/\∀b o,lv.1=ab (pA b o)->w.heap.size<=b/\b<O.heap.size)/\ae w.heap.size w O):=hG;have p3:Hid (O=(((((((wr.setCell (pA (w.heap.size+1) 0) (.string fr)).setCell (pA (w.heap.size+1) 1) (.string aP)).setCell (pA (w.heap.size+1) 2) (.string ki)).setCell (pA (w.heap.size+1) 3) (.string ke)).setCell (pA (w.heap.size+1) 4) (.int .i64 op)).setCell (pA (w.heap.size+1) 5) (.int .i64 cf)).setCell (pA (w.heap.size+1) 6) (.bool I)).setCell (pA (w.heap.size+1) 7) (.slice D L.length c1)):=a3;clear a3 hG a0 Z H J hB HT b6 b3 a5;go_wp2;rw[<-p3.out];refine bodyPost_ret (v:=.agg #[.string fr,.string aP,.string ki,.string ke,.int .i64 op,.int .i64 cf,.bool I,.slice D L.length c1]) (by simp[results,results74,go_sem,r0,r1,r2,r3,r4,r5,r6,r7]) rfl HG.out
def j0 (W:World)(g B:Nat):List am->World
 | []=>W
 |v::vs=>j0 (W.setCell ⟨g,B,aa⟩ v) g (B+1) vs
def lJ (B:Array am)(D:Nat):List am->Array am
 | []=>B
 |v::vs=>lJ (B.setIfInBounds D v) (D+1) vs
theorem yZ:∀(B:List am) (H:Array am) (D k:Nat),(k<D∨D+B.length<=k)->(lJ H D B)[k]?=H[k]?
 | [],_,_,_,_=>rfl
 |v::B,H,D,k,h=>by
  have I:(v::B).length=B.length+1:=rfl;show(lJ (H.setIfInBounds D v) (D+1) B)[k]?=H[k]?;rw[yZ B _ _ k (by omega),ao,if_neg (by omega)]
theorem F7:∀(D:List am) (H:Array am) (B t:Nat) (u:am),D[t]?=ab u->B+t<H.size->(lJ H B D)[B+t]?=ab u
 | [],_,_,_,_,h,_=>by simp at h
 |v::D,H,B,0,u,h,hs=>by
  have e:v=u:=by simpa using h
  show(lJ (H.setIfInBounds B v) (B+1) D)[B+0]?=ab u;rw[yZ D _ _ _ (by omega),ao,Nat.add_zero,if_pos rfl,if_pos (by omega),e]
 |v::D,H,B,t+1,u,h,hs=>by
  show(lJ (H.setIfInBounds B v) (B+1) D)[B+(t+1)]?=ab u;rw[show B+(t+1)=B+1+t by omega];exact F7 D _ _ t u (by simpa using h) (by rw[Array.size_setIfInBounds];omega)
theorem zW:∀(D:List am) {W:World} {g B:Nat} {H:Array am} {T:TypeId},W.heap[g]?=ab (.cells H T (0,0))->(j0 W g B D).heap[g]?=ab (.cells (lJ H B D) T (0,0))
 | [],_,_,_,_,_,h=>h
 |v::D,W,g,B,_,_,h=>zW D (W:=W.setCell ⟨g,B,aa⟩ v) (Qc h B v)
theorem DR:∀(D:List am) {w W:World} {B g H:Nat},ae B w W->B<=g->ae B w (j0 W g H D)
 | [],_,_,_,_,_,h,_=>h
 |v::D,_,W,_,g,H,h,hg=>DR D (W:=W.setCell ⟨g,H,aa⟩ v) (h.setCell hg v) hg
theorem wT:∀(B:List am) {W:World} {g D k:Nat},k≠g->(j0 W g D B).heap[k]?=W.heap[k]?
 | [],_,_,_,_,_=>rfl
 |v::B,W,g,D,_,h=>(wT B (W:=W.setCell ⟨g,D,aa⟩ v) h).trans (ai _ _ _ _ h)
theorem uL:∀(B:List am) {W:World} {g D:Nat},(j0 W g D B).heap.size=W.heap.size
 | [],_,_,_=>rfl
 |v::B,W,g,D=>by
  show(j0 (W.setCell ⟨g,D,aa⟩ v) g (D+1) B).heap.size=_;rw[uL B];simp[ay]
theorem V4 {D:List (Zb×Lv)}{I:Array am}(hr:Ql mE W (ab ⟨g,o,aa⟩) D)(J:i<D.length)(hg:W.heap[g]?=ab (.cells I T (0,0)))(y:Zb×Lv):Ql mE (j0 W g (o+i*8) (Jw y)) (ab ⟨g,o,aa⟩) (D.set i y):=by
 rcases hr with h0|⟨b,o',K,a3,Z⟩
 ·rw[h0]at J;exact absurd J (Nat.not_lt_zero _)
 ·obtain⟨rfl,rfl⟩:g=b/\o=o':=by injection K with K;injection K with h1 h2 _;exact⟨h1,h2⟩
  have a0:∀B,W.cell? ⟨g,B,aa⟩=I[B]?:=fun B=>(Xa hg B).1
  have a4:∀B,(j0 W g (o+i*8) (Jw y)).cell? ⟨g,B,aa⟩=(lJ I (o+i*8) (Jw y))[B]?:=fun B=>(Xa (zW (Jw y) hg) B).1
  refine aq ⟨g,o,rfl,by rw[uL];exact a3,fun j x H t u O=>?_⟩;have ht:t<8:=by
   have:=(List.getElem?_eq_some_iff.1 O).1
   rwa[mE.len]at this
  show(j0 W g (o+i*8) (Jw y)).cell? ⟨g,o+j*8+t,aa⟩=ab u;rw[a4];by_cases e:j=i
  ·subst e;have hx:x=y:=by
    rw[List.getElem?_set_self J]at H;exact(Option.some.inj H).symm
   subst hx;have hz:D[j]?=ab D[j]:=ax J;have a5:t<(mE.enc D[j]).length:=by rw[mE.len];exact ht
   obtain⟨U,a6⟩:∃U,(mE.enc D[j])[t]?=ab U:=⟨_,ax a5⟩;have a2:=Z j _ hz t U a6;rw[show mE.k=8 from rfl,a0]at a2;exact F7 (Jw x) I (o+j*8) t u O (ah.1 a2).1
  ·rw[List.getElem?_set_ne (fun h=>e h.symm)]at H;have:=Z j x H t u O;rw[show mE.k=8 from rfl,a0]at this;rw[yZ _ _ _ _ (by show _∨o+i*8+8<=_;omega)];exact this
structure Q9 (w:World) (g o n:Nat) (ml:List (Zb×Lv)) (i:Nat) (wr:World) (ML:List (Zb×Lv)):Prop where
 len:ML.length=n
 fst:ML.map Prod.fst=ml.map Prod.fst
 eC:Ql mE wr (ab ⟨g,o,aa⟩) ML
 blk:∃cur,wr.heap[g]?=ab (.cells cur 81 (0,0))
 has:∀x∈ML,Jn wr x/\∀b o,x.2.1=ab ⟨b,o,aa⟩->b≠g
 below:ae w.heap.size w wr
theorem Q9.later {wr:World}{I J:List (Zb×Lv)}(h:Q9 w g o n I i wr J)(B:ae wr.heap.size wr W):Q9 w g o n I i W J:=by
 obtain⟨K,D⟩:=h.blk;exact⟨h.len,h.fst,h.eC.below B,⟨K,(B.block g (ah.1 D).1).trans D⟩,fun x H=>⟨(h.has x H).1.below B,(h.has x H).2⟩,h.below.trans (B.mono h.below.size)⟩
theorem Q9.put {K B:List (Zb×Lv)}(h:Q9 w g o n K i W B)(hi:i<n)(hg:w.heap.size<=g){lv:Lv}(hl:Jn W ((JN B i).1,lv))(O:∀b o,lv.1=ab ⟨b,o,aa⟩->b≠g):Q9 w g o n K (i+1) (j0 W g (o+i*8) (Jw ((JN B i).1,lv))) (B.set i ((JN B i).1,lv)):=by
 obtain⟨a0,I⟩:=h.blk;have H:i<B.length:=by rw[h.len];exact hi
 refine⟨by rw[zc];exact h.len,?_,V4 h.eC H I _,⟨_,zW _ I⟩,fun x U=>?_,DR _ h.below hg⟩
 ·rw[<-h.fst,List.map_set];show(B.map Prod.fst).set i (JN B i).1=B.map Prod.fst;rw[<-rR H];have:(B[i]).1=(B.map Prod.fst)[i]'(by rw[az];exact H):=by rw[List.getElem_map]
  rw[this,List.set_getElem_self]
 ·have D:x∈B∨x=((JN B i).1,lv):=List.mem_or_eq_of_mem_set U;rcases D with D|D
  ·obtain⟨Z,J⟩:=h.has x D;exact⟨Z.kept (by rw[uL];exact an _) (fun b o e=>wT _ (J b o e)),J⟩
  ·rw[D];exact⟨hl.kept (by rw[uL];exact an _) (fun b o e=>wT _ (O b o e)),O⟩
section
section
variable {w w':World} {B h:Nat} {O O':Nat->Option Whose} {m:Ya} {X:WB} {ml:List (Zb×Lv)} {nb hn:Nat->Nat} {n k:Nat} {ad:Nat->aI}
theorem K9 (hp:Ye w B h O m X ml nb hn)(hz:WZ n k m):af prog 49 #[.pointer (ab ⟨h,0,aa⟩)] w fun e w'=>(∃p c,e=.returned (.slice p m.L.length c)/\mN w' p m.L)/\ae w.heap.size w w':=by
 obtain⟨p,c,hv,hr,_,U,_⟩:=hp.row.form;have b1:ml.length=m.L.length:=by rw[<-hp.dK,az]
 have c0:w.cell? ⟨h,0,aa⟩=ab (.slice p m.L.length c):=by rw[<-b1,<-hv];exact(hp.cell 0).1
 have Z:=V2 p ml c w hr U (by have:=hz.bO;omega);rw[b1]at Z;have b5:=hp.dK;have c8:=hz.msgs;have e0:=hz.bO;have b6:∀x∈ml,Jn w x/\∀b o,x.2.1=ab ⟨b,o,aa⟩->b<w.heap.size:=fun x J=>⟨(hp.bD x J).1,fun b o e=>(hp.aO b _ ((hp.bD x J).2 b o e)).2⟩
 by_cases h0:m.L.length=0
 ·have b2:Hid (∀W p1 c1,ae w.heap.size w W->(∃p c,(Ending.returned (.slice p1 0 c1))=.returned (.slice p 0 c)/\mN W p m.L)/\ae w.heap.size w W):=fun W p1 c1 hW=>⟨⟨p1,c1,rfl,[],(List.length_eq_zero_iff.1 h0).symm,aw rfl,fun x J=>by cases J⟩,hW⟩
  have d3:af prog 73 #[.slice p 0 c] w fun e w'=>∃p1 c1,e=.returned (.slice p1 0 c1)/\Hid (ae w.heap.size w w'):=by
   rw[h0]at Z;refine Z.mono fun e w' U=>?_
   obtain⟨⟨v,e1,hO⟩,hb⟩:=U;obtain⟨p1,c1,rfl,_⟩:=hO.form;rw[b1,h0]at e1;exact⟨p1,c1,e1,hb⟩
  rw[h0]at c0 ⊢;clear hp hz hv hr U b1 b5 c8 e0 b6 h0 Z;generalize m.L=H at *;go_enter func49,ntmps49;go_wp2_with fail
  refine d3.mono ?_;rintro e w1 ⟨p1,c1,rfl,e5⟩;clear d3 c0;go_wp2;go_loopw [12] (fun x wr=>x=.int .i64 0/\ae w.heap.size w wr) (fun x _=>0)
  case atStart=>exact⟨rfl,e5.out⟩
  case round =>
   obtain⟨rfl,hB⟩:=hrel;have HB:Hid _:=hB;clear hB;go_wp2;go_ret;exact b2.out _ _ _ HB.out
 ·have Z:af prog 73 #[.slice p m.L.length c] w fun e w'=>∃g o c1,e=.returned (.slice (ab ⟨g,o,aa⟩) m.L.length c1)/\Hid (w.heap.size<=g/\Q9 w g o m.L.length ml 0 w' ml):=by
   refine Z.mono fun e w' U=>?_
   obtain⟨⟨v,e1,hO⟩,hb⟩:=U;rcases hO.2 with⟨_,h2⟩|⟨g,cap,d4,h2,h3,e6,_⟩
   ·omega
   ·have h2:v=.slice (ab ⟨g,0,aa⟩) ml.length cap:=h2;obtain⟨p2,c2,d5,e7,_⟩:=hO.form;rw[h2]at d5;obtain⟨e3,_,e4⟩:=Value.slice.inj d5;subst e3 e4;refine⟨g,0,cap,by rw[e1,h2,b1],h3,b1,rfl,e7,⟨d4,e6⟩,fun x J=>⟨(b6 x J).1.below hb,fun b o e=>?_⟩,hb⟩;have:=(b6 x J).2 b o e;omega
  have b3:Hid (∀g o i wr H,w.heap.size<=g->i<m.L.length->Q9 w g o m.L.length ml i wr H->∃fr aP ki ke op cf I q nl c,(wr.cell? ⟨g,o+i*8,aa⟩=ab (.string fr)/\wr.cell? ⟨g,o+i*8+1,aa⟩=ab (.string aP)/\wr.cell? ⟨g,o+i*8+2,aa⟩=ab (.string ki)/\wr.cell? ⟨g,o+i*8+3,aa⟩=ab (.string ke)/\wr.cell? ⟨g,o+i*8+4,aa⟩=ab (.int .i64 op)/\wr.cell? ⟨g,o+i*8+5,aa⟩=ab (.int .i64 cf)/\wr.cell? ⟨g,o+i*8+6,aa⟩=ab (.bool I)/\wr.cell? ⟨g,o+i*8+7,aa⟩=ab (.slice q nl c))/\af prog 74 #[.agg #[.string fr,.string aP,.string ki,.string ke,.int .i64 op,.int .i64 cf,.bool I,.slice q nl c]] wr fun e W=>∃q2 a9 c2,e=.returned (.agg #[.string fr,.string aP,.string ki,.string ke,.int .i64 op,.int .i64 cf,.bool I,.slice q2 a9 c2])/\(W.cell? ⟨g,o+i*8,aa⟩=ab (.string fr)/\W.cell? ⟨g,o+i*8+1,aa⟩=ab (.string aP)/\W.cell? ⟨g,o+i*8+2,aa⟩=ab (.string ki)/\W.cell? ⟨g,o+i*8+3,aa⟩=ab (.string ke)/\W.cell? ⟨g,o+i*8+4,aa⟩=ab (.int .i64 op)/\W.cell? ⟨g,o+i*8+5,aa⟩=ab (.int .i64 cf)/\W.cell? ⟨g,o+i*8+6,aa⟩=ab (.bool I)/\W.cell? ⟨g,o+i*8+7,aa⟩=ab (.slice q nl c))/\(W.frozen? ⟨g,o+i*8,aa⟩=F/\W.frozen? ⟨g,o+i*8+1,aa⟩=F/\W.frozen? ⟨g,o+i*8+2,aa⟩=F/\W.frozen? ⟨g,o+i*8+3,aa⟩=F/\W.frozen? ⟨g,o+i*8+4,aa⟩=F/\W.frozen? ⟨g,o+i*8+5,aa⟩=F/\W.frozen? ⟨g,o+i*8+6,aa⟩=F/\W.frozen? ⟨g,o+i*8+7,aa⟩=F)/\Hid (∃e8,Q9 w g o m.L.length ml (i+1) ((((((((W.setCell ⟨g,o+i*8,aa⟩ (.string fr)).setCell ⟨g,o+i*8+1,aa⟩ (.string aP)).setCell ⟨g,o+i*8+2,aa⟩ (.string ki)).setCell ⟨g,o+i*8+3,aa⟩ (.string ke)).setCell ⟨g,o+i*8+4,aa⟩ (.int .i64 op)).setCell ⟨g,o+i*8+5,aa⟩ (.int .i64 cf)).setCell ⟨g,o+i*8+6,aa⟩ (.bool I)).setCell ⟨g,o+i*8+7,aa⟩ (.slice q2 a9 c2)) e8)):=fun g o i wr H hg hi hc=>by
   have d0:i<H.length:=by rw[hc.len];exact hi
   obtain⟨b,o2,d1,e9,k0,k1,k2,k3,k4,k5,k6,k7⟩:=vF hc.eC d0;obtain⟨rfl,rfl⟩:g=b/\o=o2:=by injection d1 with d1;injection d1 with h1 h2 _;exact⟨h1,h2⟩
   have f8:=rR d0;rw[f8]at k0 k1 k2 k3 k4 k5 k6 k7;have d6:=vV d0;have f9:=c8 _ (by rw[<-b5,<-hc.fst];exact List.mem_map_of_mem d6);have g0:=(hc.has _ d6).1;have b4:=SH (JN H i) wr g0 f9;obtain⟨⟨⟨fr,aP,ki,ke,op,cf,I,L⟩,q,nl,c⟩,J⟩:∃x,x=JN H i:=⟨_,rfl⟩;rw[<-J]at k0 k1 k2 k3 k4 k5 k6 k7 b4;refine⟨fr,aP,ki,ke,op,cf,I,q,nl,c,⟨k0,k1,k2,k3,k4,k5,k6,k7⟩,b4.mono fun e W U=>?_⟩;obtain⟨⟨⟨q2,a9,c2⟩,e1,e2,e3⟩,hW⟩:=U;have d7:=hc.later hW;obtain⟨d4,b0⟩:=d7.blk;have hk:∀b7 v,wr.cell? ⟨g,b7,aa⟩=ab v->W.cell? ⟨g,b7,aa⟩=ab v:=fun b7 v e=>(hW.cell (p:=⟨g,b7,aa⟩) e9).trans e
   have d8:=d7.put hi hg (lv:=(q2,a9,c2)) (by rw[<-J];exact e2) (fun b o e=>by have:=(e3 b o e).1;omega);rw[<-J]at d8;exact⟨q2,a9,c2,e1,⟨hk _ _ k0,hk _ _ k1,hk _ _ k2,hk _ _ k3,hk _ _ k4,hk _ _ k5,hk _ _ k6,hk _ _ k7⟩,⟨(Xa b0 _).2,(Xa b0 _).2,(Xa b0 _).2,(Xa b0 _).2,(Xa b0 _).2,(Xa b0 _).2,(Xa b0 _).2,(Xa b0 _).2⟩,_,d8⟩
  have b2:Hid (∀g o i wr H,Q9 w g o m.L.length ml i wr H->mN wr (ab ⟨g,o,aa⟩) m.L/\ae w.heap.size w wr):=fun g o i wr H hc=>⟨⟨H,hc.fst.trans b5,hc.eC,fun x J=>(hc.has x J).1⟩,hc.below⟩
  clear hp hz hv hr U b1 b5 c8 b6 h0;generalize m.L.length=N at *;obtain⟨D,hD⟩:∃D:Nat->Nat->Nat->World->Prop,D=fun g o i wr=>∃H,Q9 w g o N ml i wr H:=⟨_,rfl⟩
  have Z:af prog 73 #[.slice p N c] w fun e w'=>∃g o c1,e=.returned (.slice (ab ⟨g,o,aa⟩) N c1)/\Hid (w.heap.size<=g/\D g o 0 w'):=Z.mono fun e w' U=>by
   obtain⟨g,o,c1,e1,e2⟩:=U;exact⟨g,o,c1,e1,e2.out.1,by rw[hD];exact⟨ml,e2.out.2⟩⟩
  have b3:Hid (∀g o i wr,w.heap.size<=g->i<N->D g o i wr->∃fr aP ki ke op cf I q nl c,(wr.cell? ⟨g,o+i*8,aa⟩=ab (.string fr)/\wr.cell? ⟨g,o+i*8+1,aa⟩=ab (.string aP)/\wr.cell? ⟨g,o+i*8+2,aa⟩=ab (.string ki)/\wr.cell? ⟨g,o+i*8+3,aa⟩=ab (.string ke)/\wr.cell? ⟨g,o+i*8+4,aa⟩=ab (.int .i64 op)/\wr.cell? ⟨g,o+i*8+5,aa⟩=ab (.int .i64 cf)/\wr.cell? ⟨g,o+i*8+6,aa⟩=ab (.bool I)/\wr.cell? ⟨g,o+i*8+7,aa⟩=ab (.slice q nl c))/\af prog 74 #[.agg #[.string fr,.string aP,.string ki,.string ke,.int .i64 op,.int .i64 cf,.bool I,.slice q nl c]] wr fun e W=>∃q2 a9 c2,e=.returned (.agg #[.string fr,.string aP,.string ki,.string ke,.int .i64 op,.int .i64 cf,.bool I,.slice q2 a9 c2])/\(W.cell? ⟨g,o+i*8,aa⟩=ab (.string fr)/\W.cell? ⟨g,o+i*8+1,aa⟩=ab (.string aP)/\W.cell? ⟨g,o+i*8+2,aa⟩=ab (.string ki)/\W.cell? ⟨g,o+i*8+3,aa⟩=ab (.string ke)/\W.cell? ⟨g,o+i*8+4,aa⟩=ab (.int .i64 op)/\W.cell? ⟨g,o+i*8+5,aa⟩=ab (.int .i64 cf)/\W.cell? ⟨g,o+i*8+6,aa⟩=ab (.bool I)/\W.cell? ⟨g,o+i*8+7,aa⟩=ab (.slice q nl c))/\(W.frozen? ⟨g,o+i*8,aa⟩=F/\W.frozen? ⟨g,o+i*8+1,aa⟩=F/\W.frozen? ⟨g,o+i*8+2,aa⟩=F/\W.frozen? ⟨g,o+i*8+3,aa⟩=F/\W.frozen? ⟨g,o+i*8+4,aa⟩=F/\W.frozen? ⟨g,o+i*8+5,aa⟩=F/\W.frozen? ⟨g,o+i*8+6,aa⟩=F/\W.frozen? ⟨g,o+i*8+7,aa⟩=F)/\Hid (D g o (i+1) ((((((((W.setCell ⟨g,o+i*8,aa⟩ (.string fr)).setCell ⟨g,o+i*8+1,aa⟩ (.string aP)).setCell ⟨g,o+i*8+2,aa⟩ (.string ki)).setCell ⟨g,o+i*8+3,aa⟩ (.string ke)).setCell ⟨g,o+i*8+4,aa⟩ (.int .i64 op)).setCell ⟨g,o+i*8+5,aa⟩ (.int .i64 cf)).setCell ⟨g,o+i*8+6,aa⟩ (.bool I)).setCell ⟨g,o+i*8+7,aa⟩ (.slice q2 a9 c2)))):=fun g o i wr hg hi K=>by
   rw[hD]at K ⊢;obtain⟨H,K⟩:=K;exact b3.out g o i wr H hg hi K
  have b2:Hid (∀g o i wr,D g o i wr->mN wr (ab ⟨g,o,aa⟩) m.L/\ae w.heap.size w wr):=fun g o i wr K=>by
   rw[hD]at K;obtain⟨H,K⟩:=K;exact b2.out g o i wr H K
  clear hD;go_enter func49,ntmps49;go_wp2_with fail
  refine Z.mono ?_;rintro e w1 ⟨g,o,c1,rfl,b8⟩;clear Z c0;go_wp2;go_loopw [12] (fun x wr=>∃i:Nat,i<=N/\x=.int .i64 i/\D g o i wr) (fun x _=>N-(intOf x).toNat)
  case atStart=>exact⟨0,av _,rfl,b8.out.2⟩
  case round =>
   obtain⟨i,hi,rfl,K⟩:=hrel;have HD:Hid _:=K;clear K;by_cases g1:i<N
   ·obtain⟨fr,aP,ki,ke,op,cf,I,q,nl,c9,⟨k0,k1,k2,k3,k4,k5,k6,k7⟩,b4⟩:=b3.out g o i wr b8.out.1 g1 HD.out;clear b3 b2 b8 HD;go_wp2_with fail
    refine b4.mono ?_;rintro e w5 ⟨q2,a9,c2,rfl,⟨a0,a1,a2,a3,a4,a5,a6,a7⟩,⟨f0,f1,f2,f3,f4,f5,f6,f7⟩,d9⟩;obtain⟨w6,d2⟩:=Xb ((((((((w5.setCell ⟨g,o+i*8,aa⟩ (.string fr)).setCell ⟨g,o+i*8+1,aa⟩ (.string aP)).setCell ⟨g,o+i*8+2,aa⟩ (.string ki)).setCell ⟨g,o+i*8+3,aa⟩ (.string ke)).setCell ⟨g,o+i*8+4,aa⟩ (.int .i64 op)).setCell ⟨g,o+i*8+5,aa⟩ (.int .i64 cf)).setCell ⟨g,o+i*8+6,aa⟩ (.bool I)).setCell ⟨g,o+i*8+7,aa⟩ (.slice q2 a9 c2));rw[<-d2]at d9;have g2:Hid _:=d2;clear d2 b4 k0 k1 k2 k3 k4 k5 k6 k7;go_wp2_with (rw[<-g2.out])
    clear a0 a1 a2 a3 a4 a5 a6 a7 f0 f1 f2 f3 f4 f5 f6 f7;go_wp2;go_roundw
    case rel=>exact⟨i+1,by omega,by go_num,d9.out⟩
    case measure=>simp[intOf];omega
   ·have HE:Hid (mN wr (ab ⟨g,o,aa⟩) m.L/\ae w.heap.size w wr):=b2.out g o i wr HD.out;clear b3 b2 b8 HD;go_wp2;go_ret;exact⟨⟨_,_,rfl,HE.out.1⟩,HE.out.2⟩
theorem VR (I:Ye w B h O m X ml nb hn)(J:WZ n k m):af prog 24 #[.pointer (ab ⟨h,0,aa⟩)] w fun e w'=>(∃p c,e=.returned (.slice p m.L.length c)/\mN w' p m.L)/\ae w.heap.size w w':=by
 have D:=K9 I J;have D:af prog 49 #[.pointer (ab ⟨h,0,aa⟩)] w fun e w'=>∃p c,e=.returned (.slice p m.L.length c)/\Hid (mN w' p m.L/\ae w.heap.size w w'):=D.mono fun e w' K=>by
  obtain⟨⟨p,c,U,Z⟩,h3⟩:=K;exact⟨p,c,U,Z,h3⟩
 clear I J;generalize m.L.length=N at *;go_enter func24,ntmps24;go_wp2_with fail
 refine D.mono ?_;rintro e w1 ⟨p,c,rfl,H⟩;clear D;go_wp2;go_ret;exact⟨⟨p,c,rfl,H.out.1⟩,H.out.2⟩
end
end
section
open Ring
section
variable {w w':World} {B h:Nat} {O O':Nat->Option Whose} {m:Ya} {X:WB} {ml:List (Zb×Lv)} {nb hn:Nat->Nat} {n k:Nat} {ad:Nat->aI}
theorem NG (J:Ye w' B h O m X ml nb hn)(K:iZ ad w)(hB:w.heap.size<=B)(H:ae w.heap.size w w'):Yi ad w' O:=fun W _ I=>K.fO (fun j D=>(I j (ag D H.size) (by
 cases e:O j with
 |none=>rfl
 |some o=>have:=(J.aO j o e).1;omega)).trans (H.block j D))
def JT:List BA:=[⟨#[97]⟩,⟨#[98]⟩,⟨#[100]⟩]
theorem Jo7:¬0<(Zr JT 3 1).1:=by decide +kernel
theorem PD {m:Ya}(D:m.asks.length=6)(put:Bool):(m.begin 0 put).state 0=⟨#[108,111,111,107,105,110,103]⟩:=by
 unfold Ya.state;rw[if_neg (by decide)];show(match Xf (m.asks.set 0 (ab _)) 0 with|none=>pQ|some a=>a.st.word)=_;rw[ZZ (by omega),if_pos rfl];rfl
theorem MY (ad:Nat->aI)(w:World)(hE:iZ ad w):af prog 4 #[] w fun e w'=>e=.returned (.bool zi)/\ae w.heap.size w w':=by
 obtain⟨Z,H⟩:=Xb (w.alloc (.cells #[.string ⟨#[97]⟩,.string ⟨#[98]⟩,.string ⟨#[100]⟩] 9));have I:=Zk H;have a5:=JH H;have a6:Strs Z (ab ⟨w.heap.size,0,aa⟩) JT:=aq ⟨w.heap.size,0,rfl,by rw[H];simp,fun i hi=>by
  have hi:i<3:=hi;have hc:=(Xa a5 i).1;rw[Nat.zero_add,hc]
  match i,hi with
  |0,_=>rfl
  |1,_=>rfl
  |2,_=>rfl⟩
 have a0:=hE.fO (fun j hj=>I.block j hj);have a7:af prog 7 #[.slice (ab ⟨w.heap.size,0,aa⟩) 3 3,.int .i64 3,.int .i64 1] Z fun e w2=>∃h,e=.returned (.tuple #[.pointer (ab ⟨h,0,aa⟩),.nilIface]) /\
  af prog 22 #[.pointer (ab ⟨h,0,aa⟩)] w2 fun e w3=>e=.returned (.tuple #[.int .i64 1,.int .i64 0]) /\
   af prog 23 #[.pointer (ab ⟨h,0,aa⟩),.int .i64 0] w3 fun e w4=>e=.returned (.string ⟨#[105,100,108,101]⟩) /\
    af prog 9 #[.pointer (ab ⟨h,0,aa⟩),.int .i64 0,.string ⟨#[120]⟩] w4 fun e w5=>e=.returned .nilIface /\
     af prog 24 #[.pointer (ab ⟨h,0,aa⟩)] w5 fun e w6=>(∃p c,e=.returned (.slice p 3 c)) /\
      af prog 23 #[.pointer (ab ⟨h,0,aa⟩),.int .i64 0] w6 fun e w7=>e=.returned (.string ⟨#[108,111,111,107,105,110,103]⟩)/\Hid (ae w.heap.size w w7):=by
  refine(GR ad (ab ⟨w.heap.size,0,aa⟩) JT 3 3 1 Z (by decide) (by decide) (by decide +kernel) ⟨by decide,by decide⟩ ⟨by decide,by decide⟩ a6 a0).mono fun e w2 D=>?_
  obtain⟨D,a9⟩:=D;rcases D with⟨J,_⟩|⟨_,h,c,e1,U,e3,e4,e5,O,X,ml,nb,hn,K⟩
  ·exact absurd J Jo7
  have b0:XS 3 1 c:=by
   obtain⟨J,h2,_,_,h5⟩:=Xm e5;exact⟨U,e3,by decide,by decide,by decide,by omega,h5⟩
  have hz:WZ 3 1 ((Ya.bare c).cE JT):=(GO e5 b0).kQ (by decide +kernel);have b8:=NG K a0 nR a9;have b1:=I.trans (a9.mono I.size);refine⟨h,e1,(EL K hz).mono fun e w3 D=>⟨D.1,?_⟩⟩;have a2:=D.2;have c8:=K.below a2;refine(KI c8 0).mono fun e w4 D=>⟨D.1,?_⟩
  have a3:=a2.trans (D.2.mono a2.size);have d0:=K.below a3;have d1:((Ya.bare c).cE JT).open_ 0 zi ⟨#[120]⟩=(Ya.begin {(Ya.bare c).cE JT with since:=((Ya.bare c).cE JT).since.set 0 ((Ya.bare c).cE JT).aA,texts:=((Ya.bare c).cE JT).texts.set 0 ⟨#[120]⟩} 0 zi,0):=rfl;refine(GI d0 hz 0 ⟨#[120]⟩ (by decide) (Int.le_refl _) (by show(0:Int)<=_;decide) (b8.below a3)).mono fun e w5 D=>?_
  obtain⟨⟨ev,e6,e7⟩,O5,X5,d8,a4,d2⟩:=D;rw[d1]at e7 a4;have d3:WZ 3 1 (Ya.begin {(Ya.bare c).cE JT with since:=((Ya.bare c).cE JT).since.set 0 ((Ya.bare c).cE JT).aA,texts:=((Ya.bare c).cE JT).texts.set 0 ⟨#[120]⟩} 0 zi):=(hz.opened (by decide) (by decide) _).begin (by decide) _;have d4:(Ya.begin {(Ya.bare c).cE JT with since:=((Ya.bare c).cE JT).since.set 0 ((Ya.bare c).cE JT).aA,texts:=((Ya.bare c).cE JT).texts.set 0 ⟨#[120]⟩} 0 zi).L.length=3:=by
   show([]++List.take 120 (((bh c.L.length).map _))).length=3;rw[List.nil_append,List.length_take,az,List.length_range,b0.len];rfl
  have d5:∀j,O j≠aa->w.heap.size<=j:=fun j e=>by
   cases U:O j with
   |none=>exact absurd U e
   |some o=>exact al I.size (K.aO j o U).1
  have b2:=Yd.jG (b1.trans (a3.mono b1.size)) d5 d2;refine⟨by rw[e6,e7.none (by dsimp only;decide)],(VR a4 d3).mono fun e w6 D=>?_⟩;obtain⟨⟨p,cc,e8,_⟩,b3⟩:=D;rw[d4]at e8;refine⟨⟨p,cc,e8⟩,(KI (a4.below b3) 0).mono fun e w7 D=>⟨?_,?_⟩⟩
  ·rw[D.1,PD rfl]
  ·have J:=b2.trans (b3.mono b2.size);exact J.trans (D.2.mono J.size)
 have d6:Hid _:=H;clear H I a5 a6 a0 hE;go_enter func4,ntmps4;go_wp2_with (rw[<-d6.out])
 refine a7.mono ?_;rintro e w2 ⟨h,rfl,b4⟩;clear a7;go_wp2_with fail
 refine b4.mono ?_;rintro e w3 ⟨rfl,b5⟩;clear b4;go_wp2_with fail
 refine b5.mono ?_;rintro e w4 ⟨rfl,b6⟩;clear b5;go_wp2_with fail
 refine b6.mono ?_;rintro e w5 ⟨rfl,b7⟩;clear b6;go_wp2_with fail
 refine b7.mono ?_;rintro e w6 ⟨⟨p,c,rfl⟩,d7⟩;clear b7;go_wp2_with fail
 refine d7.mono ?_;rintro e w7 ⟨rfl,HB⟩;go_wp2;go_ret;exact⟨rfl,HB.out⟩
end
end
section
section
variable {w w':World} {B h:Nat} {O O':Nat->Option Whose} {m:Ya} {X:WB} {ml:List (Zb×Lv)} {nb hn:Nat->Nat} {n k:Nat} {ad:Nat->aI}
theorem RJ (J:Ye w B h O m X ml nb hn)(hz:WZ n k m)(U:m.mover=ab a)(hL:Jn w x)(hx:YF x.1)(hE:Yi ad w O):∃b,X.mp=ab b/\∀W,ae w.heap.size w W->af prog 67 #[.pointer (ab ⟨b,0,aa⟩),Z1 x.1 (fI x.2)] W fun e w'=>∃p c,e=.returned (.slice p (a.aD x.1).2.length c)/\∃H,Ye w' B h H {m with mover:=ab (a.aD x.1).1} X ml nb hn/\Qp c (fun b=>H b=ab .bD) w' p (a.aD x.1).2/\Yd (fun k=>O k≠aa) (fun k=>H k≠aa) w w':=by
 obtain⟨b,Z,a0,a2⟩:∃b,X.mp=ab b/\XM w B b (fun k=>O k=ab .bI) a/\iR w O X.nx:=by have:=J.bI;rw[U]at this;exact this
 obtain⟨a3,a9,_⟩:=hz.bI a U;refine⟨b,Z,fun W D=>?_⟩;have a4:=J.below D;have a5:iR W O X.nx:=a2.kept (fun _ h=>h) D.size (fun k I=>D.block k (J.aO k _ I).2);refine(LU ad (a0.dA D.size (fun k I=>D.block k (J.aO k _ I).2)) x (hL.below D) (a3.small hx) (fun v hv=>(hx.cM v hv).1) (fun V hs I=>?_)).mono fun e w' hq=>?_
 ·have:=(hE.below D) V hs (fun k a6 a7=>I k a6 (fun e=>by have e:O k=ab .bI:=e;rw[a7]at e;cases e));exact⟨this.q,this.x.1⟩
 ·obtain⟨S',⟨p,c,e1,e2⟩,e3,e4⟩:=hq;obtain⟨H,g1,g3,g4⟩:=a4.rH Z (by rw[U];rfl) e3 e4 a5;exact⟨p,c,e1,H,g1,e2.mono (fun b K=>g3 b K.1 K.2.1 K.2.2),(Yd.aJ D).trans' g4⟩
def tY:fB:=⟨⟨0,0,[]⟩,aa,0⟩
theorem Jte (X:WB)(c:Int):(((((((((Zi X).setIfInBounds 36 (.int .i64 X.nx.c.n)).setIfInBounds 37 (.int .i64 X.nx.c.k)).setIfInBounds 38 X.nx.v).setIfInBounds 39 (.int .i64 c)).setIfInBounds 32 (.pointer aa)).setIfInBounds 33 (.int .i64 0)).setIfInBounds 34 (.int .i64 0)).setIfInBounds 35 (.slice aa 0 0))=Zi {X with cf:=X.nx,act:=c,mp:=aa,nx:=tY}:=by
 unfold Zi;simp only[aj,ar,au];rfl
def lC (w:World)(h:Nat)(X:WB)(c:Int):World:=(((((((w.setCell ⟨h,36,aa⟩ (.int .i64 X.nx.c.n)).setCell ⟨h,37,aa⟩ (.int .i64 X.nx.c.k)).setCell ⟨h,38,aa⟩ X.nx.v).setCell ⟨h,39,aa⟩ (.int .i64 c)).setCell ⟨h,32,aa⟩ (.pointer aa)).setCell ⟨h,33,aa⟩ (.int .i64 0)).setCell ⟨h,34,aa⟩ (.int .i64 0)).setCell ⟨h,35,aa⟩ (.slice aa 0 0)
theorem MV (hb:w.heap[h]?=ab (.cells (Zi X) 74 (0,0)))(c:Int):(lC w h X c).heap[h]?=ab (.cells (Zi {X with cf:=X.nx,act:=c,mp:=aa,nx:=tY}) 74 (0,0))/\Yp h w (lC w h X c):=by
 unfold lC;rw[<-Jte X c];have D:=Qc hb 36 (.int .i64 X.nx.c.n);have H:=(Yp.refl h w).set 36 (.int .i64 X.nx.c.n);generalize w.setCell ⟨h,36,aa⟩ (.int .i64 X.nx.c.n)=I at *;have J:=Qc D 37 (.int .i64 X.nx.c.k);have K:=H.set 37 (.int .i64 X.nx.c.k);generalize I.setCell ⟨h,37,aa⟩ (.int .i64 X.nx.c.k)=U at *;have Z:=Qc J 38 X.nx.v;have v2:=K.set 38 X.nx.v;generalize U.setCell ⟨h,38,aa⟩ X.nx.v=w2 at *;have b3:=Qc Z 39 (.int .i64 c);have v3:=v2.set 39 (.int .i64 c);generalize w2.setCell ⟨h,39,aa⟩ (.int .i64 c)=w3 at *;have b4:=Qc b3 32 (.pointer aa);have v4:=v3.set 32 (.pointer aa);generalize w3.setCell ⟨h,32,aa⟩ (.pointer aa)=w4 at *;have b5:=Qc b4 33 (.int .i64 0);have v5:=v4.set 33 (.int .i64 0);generalize w4.setCell ⟨h,33,aa⟩ (.int .i64 0)=w5 at *;have b6:=Qc b5 34 (.int .i64 0);have v6:=v5.set 34 (.int .i64 0);generalize w5.setCell ⟨h,34,aa⟩ (.int .i64 0)=w6 at *;have b7:=Qc b6 35 (.slice aa 0 0);have v7:=v6.set 35 (.slice aa 0 0);generalize w6.setCell ⟨h,35,aa⟩ (.slice aa 0 0)=w7 at *;exact⟨b7,v7⟩
theorem Ye.kP (H:Ye w B h O m X ml nb hn)(U:m.mover=ab a):∃O',Ye (lC w h X (X.act+1)) B h O' {m with aC:=m.aC+1,mover:=aa} {X with cf:=X.nx,act:=X.act+1,mp:=aa,nx:=tY} ml nb hn/\Yd (fun k=>O k≠aa) (fun k=>O' k≠aa) w (lC w h X (X.act+1)):=by
 obtain⟨Z,I⟩:=MV H.blk (X.act+1);have a0:iR w O X.nx:=by have:=H.bI;rw[U]at this;obtain⟨_,_,_,g⟩:=this;exact g
 have K:Yd (fun k=>O k=ab .bI∨O k=ab .self) (fun _=>False) w (lC w h X (X.act+1)):=⟨I.os,I.tape,I.output,I.size,fun k D a2=>I.cW k D (fun e=>a2 (aq (e▸H.self))),fun k D=>D.elim⟩;have J:=Qv.of (t:=.bI) (fun e=>by cases e) H.aO H.base K (fun k D=>D.elim) (fun k D=>D.elim);refine⟨_,{H.toXJ.mJ (m':={m with aC:=m.aC+1,mover:=aa}) (X':={X with cf:=X.nx,act:=X.act+1,mp:=aa,nx:=tY}) J rfl rfl rfl ⟨rfl,rfl,rfl⟩ rfl rfl rfl rfl rfl (a0.kept J.bD J.size (fun k D=>J.kept k _ D (fun e=>by cases e) (fun e=>by cases e)))with blk:=Z,self:=(J.same .self h (fun e=>by cases e) (fun e=>by cases e)).2 H.self,cV:=H.dF (by rw[U];rfl),dF:=(fun e=>by cases e),aW:=⟨?_,H.aW.2.1,H.aW.2.2⟩},QM K (fun k D=>D.elim)⟩;show X.act+1=((m.aC+1:Nat):Int);rw[H.aW.1];omega
end
end
section
def Ya.eP (m:Ya)(c:Xg):Ya:=Ya.send {m with mover:=ab (JD m.ops m.aC (aG m.aB m.aC) c),aB:=m.aB++ [c],ops:=m.ops+1} (JD m.ops m.aC (aG m.aB m.aC) c).begin
section
variable {w w':World} {B h:Nat} {O O':Nat->Option Whose} {m:Ya} {X:WB} {ml:List (Zb×Lv)} {nb hn:Nat->Nat} {n k:Nat} {ad:Nat->aI}
theorem DU {l:List Xg}{c:Xg}(D:j<l.length):aG (l++ [c]) j=aG l j:=by
 unfold aG;rw[ak,ak,List.getElem?_append_left D]
theorem G1 (l:List Xg)(c:Xg):aG (l++ [c]) l.length=c:=by
 unfold aG;rw[ak,List.getElem?_append_right nR,Nat.sub_self];rfl
open Classical in
theorem Ye.yV (H:Ye w B h O m X ml nb hn){P:Nat->Prop}{K:World}(U:∀k,P k->K.heap.size<=k/\k<w.heap.size/\O k=aa)(hB:B<=K.heap.size)(I:Yd (fun k=>O0 k≠aa) (fun k=>O k≠aa) K w):
 ∃O',Ye w B h O' m X ml nb hn/\(∀k,P k->O' k=ab .bD)/\Yd (fun k=>O0 k≠aa) (fun k=>O' k≠aa) K w:=by
 obtain⟨O',a0⟩:∃O':Nat->Option Whose,O'=fun k=>if P k then ab .bD else O k:=⟨_,rfl⟩
 have oP:∀k,P k->O' k=ab .bD:=fun k Z=>by rw[a0];exact if_pos Z
 have J:∀k,¬P k->O' k=O k:=fun k Z=>by rw[a0];exact if_neg Z
 have hT:Qv (.ask 6) O O' B w w:=by
  refine⟨fun o k _ hi=>?_,fun k e=>?_,fun k o e=>?_,an _,fun _ _ _ _ _=>rfl⟩
  ·by_cases e:P k
   ·rw[oP k e,(U k e).2.2];exact⟨fun e=>(by injection e with e;exact absurd e.symm hi),fun e=>(by cases e)⟩
   ·rw[J k e]
  ·rw[J k (fun D=>by rw[(U k D).2.2]at e;cases e)];exact e
  ·by_cases D:P k
   ·have:=U k D;omega
   ·rw[J k D]at e;exact H.aO k o e
 refine⟨O',{H.toXJ.gH (i:=6) hT rfl rfl rfl rfl (fun j _ _=>⟨rfl,rfl,rfl⟩) rfl rfl rfl rfl rfl rfl (fun _ _=>rfl) (fun hi=>absurd hi (by omega))with blk:=H.blk,self:=(hT.same .self h (fun e=>by cases e) (fun e=>by cases e)).2 H.self,cV:=H.cV,dF:=H.dF,aW:=H.aW},oP,⟨I.os,I.tape,I.output,I.size,I.block,fun k e=>?_⟩⟩;by_cases D:P k
 ·exact aq (U k D).1
 ·rw[J k D]at e;exact I.new k e
theorem Ye.nA (H:Ye w B h O m X ml nb hn)(hz:WZ n k m)(hm:m.mover=aa)(J:Yp h w w'){K:Nat}{S:Nat->Prop}{U:Int}(a3:w'.heap[h]?=ab (.cells (Zi {X with aY:=U,mp:=ab K,nx:=c}) 74 (0,0)))(ha:XM w' B K S a)(Z:∀k,S k->w.heap.size<=k)(a4:iR w O c):
 ∃O',Ye w' B h O' {m with mover:=ab a,aB:=m.aB++ [c.c],ops:=U} {X with aY:=U,mp:=ab K,nx:=c} ml nb hn/\(∀k,w.heap.size<=k->k<w'.heap.size->¬S k->O' k=ab .bD)/\Yd (fun k=>O k≠aa) (fun k=>O' k≠aa) w w':=by
 have a0:∀k,S k->k<w'.heap.size:=fun k D=>(ha.dH k D).2
 have hU:Yd (fun k=>O k=ab .bI∨O k=ab .self) S w w':=⟨J.os,J.tape,J.output,J.size,fun k D a2=>J.cW k D (fun e=>a2 (aq (e▸H.self))),fun k D=>aq (Z k D)⟩;have I:=Qv.of (t:=.bI) (fun e=>by cases e) H.aO H.base hU (fun k D=>aq (Z k D)) a0;refine⟨_,{H.toXJ.mJ (m':={m with mover:=ab a,aB:=m.aB++ [c.c],ops:=U}) (X':={X with aY:=U,mp:=ab K,nx:=c}) I rfl rfl rfl ⟨rfl,rfl,rfl⟩ rfl rfl rfl rfl ⟨K,rfl,?_,a4.kept I.bD I.size (fun k D=>I.kept k _ D (fun e=>by cases e) (fun e=>by cases e))⟩ (H.cf.kept I.bD I.size (fun k D=>I.kept k _ D (fun e=>by cases e) (fun e=>by cases e)))with blk:=a3,self:=(I.same .self h (fun e=>by cases e) (fun e=>by cases e)).2 H.self,cV:=?_,dF:=fun _=>?_,aW:=⟨H.aW.1,rfl,H.aW.2.2⟩},fun k h1 h2 h3=>oK (fun k o e=>(H.aO k o e).2) h3 h1 h2,QM hU (fun k D=>aq (Z k D))⟩
 ·have e:(fun k=>turnO O .bI S w.heap.size w'.heap.size k=ab .bI)=S:=funext fun k=>propext (ZU (fun e=>by cases e) k)
  rw[e];exact ha
 ·show X.cf.c=aG (m.aB++ [c.c]) m.aC;rw[DU hz.act];exact H.cV
 ·show c.c=aG (m.aB++ [c.c]) (m.aC+1);rw[<-hz.dN hm,G1]
theorem zU (D:WZ n k m){c:Xg}(K:¬0<(Jg c).1):XA (JD m.ops m.aC (aG m.aB m.aC) c):=by
 have I:=D.cU m.aC D.act;have U:=D.act;have Z:=D.many;exact⟨⟨I.1,by show wX.size<=100;decide,by show J8.size<=100;decide,by show(⟨#[]⟩:BA).size<=1000;decide,(fun e=>by cases e),(fun _ e=>by cases e),List.nodup_nil,(fun x J=>by cases J),rfl,(fun e=>by cases e),(fun l H=>by cases H)⟩,(fun l H=>by cases H),⟨by show(0:Int)<=(m.aC:Int);omega,by show(m.aC:Int)<=1000;omega⟩,⟨Int.le_refl _,by show(0:Int)<6;decide⟩,fun _=>K⟩
theorem WZ.lP (D:WZ n k m)(U:m.mover=aa)(hl:m.aB.length<12){c:Xg}(H:¬0<(Jg c).1)(Z:XS n k c):WZ n k (m.eP c)/\WZ n k {m with mover:=ab (JD m.ops m.aC (aG m.aB m.aC) c),aB:=m.aB++ [c],ops:=m.ops+1}:=by
 have a0:=D.dN U;have a2:(m.aB++ [c]).length=m.aB.length+1:=by rw[List.length_append];rfl
 have I:WZ n k {m with mover:=ab (JD m.ops m.aC (aG m.aB m.aC) c),aB:=m.aB++ [c],ops:=m.ops+1}:=by
  refine⟨D.bO,D.msgs,D.la,D.lt,D.ls,D.gD,?_,?_,fun e=>(by cases e),fun a J=>?_,fun j K=>?_,D.asks,fun a J=>?_,D.nodes⟩
  ·show m.aC<(m.aB++ [c]).length;have:=D.act;omega
  ·show(m.aB++ [c]).length<=12;omega
  ·show(m.aB++ [c]).length=m.aC+2;omega
  ·have K:j<(m.aB++ [c]).length:=K;show ¬0<(Jg (aG (m.aB++ [c]) j)).1/\XS n k (aG (m.aB++ [c]) j);by_cases e:j<m.aB.length
   ·rw[DU e];exact D.cU j e
   ·rw[show j=m.aB.length by omega,G1];exact⟨H,Z⟩
  ·rw[<-Option.some.inj J];exact⟨zU D H,rfl,aw ⟨rfl,rfl⟩⟩
 exact⟨I.send (zU D H).begin,I⟩
def mZ (w:World)(h D:Nat)(c:fB):World:=(((w.setCell ⟨h,32,aa⟩ (.pointer (ab ⟨D,0,aa⟩))).setCell ⟨h,33,aa⟩ (.int .i64 c.c.n)).setCell ⟨h,34,aa⟩ (.int .i64 c.c.k)).setCell ⟨h,35,aa⟩ c.v
theorem UI (hb:w.heap[h]?=ab (.cells (Zi X) 74 (0,0)))(D:Nat)(c:fB):(mZ w h D c).heap[h]?=ab (.cells (Zi {X with mp:=ab D,nx:=c}) 74 (0,0))/\Yp h w (mZ w h D c):=by
 unfold mZ;have e:(((((Zi X).setIfInBounds 32 (.pointer (ab ⟨D,0,aa⟩))).setIfInBounds 33 (.int .i64 c.c.n)).setIfInBounds 34 (.int .i64 c.c.k)).setIfInBounds 35 c.v)=Zi {X with mp:=ab D,nx:=c}:=by
  unfold Zi;simp only[aj,ar,au];rfl
 rw[<-e];have H:=Qc hb 32 (.pointer (ab ⟨D,0,aa⟩));have I:=(Yp.refl h w).set 32 (.pointer (ab ⟨D,0,aa⟩));generalize w.setCell ⟨h,32,aa⟩ (.pointer (ab ⟨D,0,aa⟩))=J at *;have K:=Qc H 33 (.int .i64 c.c.n);have U:=I.set 33 (.int .i64 c.c.n);generalize J.setCell ⟨h,33,aa⟩ (.int .i64 c.c.n)=Z at *;have b2:=Qc K 34 (.int .i64 c.c.k);have v2:=U.set 34 (.int .i64 c.c.k);generalize Z.setCell ⟨h,34,aa⟩ (.int .i64 c.c.k)=w2 at *;have b3:=Qc b2 35 c.v;have v3:=v2.set 35 c.v;generalize w2.setCell ⟨h,35,aa⟩ c.v=w3 at *;exact⟨b3,v3⟩
theorem JlS (I:Ye w B h O m X ml nb hn)(K:WZ n k m)(h0:0<=m.ops)(hc:Yn w' c.c c.p c.cap)(hf:¬0<(Jg c.c).1)(hE:Zp w' ad)(hW:Yp h w w'):
 af prog 65 #[.int .i64 m.ops,.agg #[.int .i64 X.cf.c.n,.int .i64 X.cf.c.k,.slice X.cf.p X.cf.c.L.length X.cf.cap],.agg #[.int .i64 c.c.n,.int .i64 c.c.k,.slice c.p c.c.L.length c.cap],.int .i64 X.act,.string ⟨#[120]⟩] w' fun e U=>∃J S,e=.returned (.tuple #[.pointer (ab ⟨J,0,aa⟩),.nilIface])/\XM U w'.heap.size J S (JD m.ops m.aC (aG m.aB m.aC) c.c)/\ae w'.heap.size w' U:=by
 have Z:X.cf.c=aG m.aB m.aC:=I.cV;have a0:Yn w' X.cf.c X.cf.p X.cf.cap:=by
  obtain⟨D,H⟩:=I.cf;exact⟨D.strs.same hW.size (fun b o e=>hW.cW b (I.aO b _ (H b o e)).2 (fun e'=>by have:=H b o e;rw[e',I.self]at this;cases this)),D.room,D.empty,D.len,D.size,D.ints⟩
 have a2:=(K.cU m.aC K.act).1;have ha:=K.act;have hm:=K.many;have a3:X.act=(m.aC:Int):=I.aW.1;have hF:¬0<(lH ⟨m.ops,X.cf.c,c.c,X.act,⟨#[120]⟩⟩).1:=by
  unfold lH;rw[if_neg (by rw[Z];exact a2),if_neg hf,if_neg (by show ¬Jo (⟨#[120]⟩:BA)=F;decide +kernel),if_pos ⟨h0,by show(0:Int)<=X.act;omega,by show X.act<9223372036854775807;omega⟩];decide
 refine(RI ad ⟨m.ops,X.cf.c,c.c,X.act,⟨#[120]⟩⟩ X.cf.p X.cf.cap c.p c.cap w' a0 hc ⟨by show _<=X.act;omega,by show X.act<=_;omega⟩ hE).mono fun e U hq=>?_
 obtain⟨⟨ev,D,H⟩,g3⟩:=hq;rcases H with⟨H,_⟩|⟨_,J,S,g4,g5⟩
 ·exact absurd H hF
 ·rw[D.none hF]at g4;refine⟨J,S,g4,?_,g3⟩;have e:(⟨m.ops,X.cf.c,c.c,X.act,⟨#[120]⟩⟩:lN).mover=JD m.ops m.aC (aG m.aB m.aC) c.c:=by
   rw[Z,a3];rfl
  rw[<-e];exact g5
end
end
section
section
variable {w w':World} {B h:Nat} {O O':Nat->Option Whose} {m:Ya} {X:WB} {ml:List (Zb×Lv)} {nb hn:Nat->Nat} {n k:Nat} {ad:Nat->aI}
theorem SG (f3:Ye w B h O m X ml nb hn)(hz:WZ n k m)(hm:m.mover=aa)(hl:m.aB.length<12)(h0:0<=m.ops)(h1:m.ops<=1152921504606846976){w0:World}(f4:Yd (fun k=>O0 k≠aa) (fun k=>O k≠aa) w0 w)(f5:B<=w0.heap.size)(f6:Yi ad w0 O0)(hc:Yn w c.c c.p c.cap)(hf:¬0<(Jg c.c).1)(f7:XS n k c.c)(d7:∀b o,c.p=ab ⟨b,o,aa⟩->w0.heap.size<=b/\b<w.heap.size/\O b=aa):
 af prog 41 #[.pointer (ab ⟨h,0,aa⟩),.agg #[.int .i64 c.c.n,.int .i64 c.c.k,c.v]] w fun e w'=>e=.returned (.tuple #[])/\Q4 w0 B h O0 (m.eP c.c) w':=by
 obtain⟨O1,U,b7,hU⟩:=f3.yV (P:=fun b=>∃o,c.p=ab ⟨b,o,aa⟩) (fun b hb=>by obtain⟨o,e⟩:=hb;exact d7 b o e) f5 f4;have d8:iR w O1 c:=⟨hc,fun b o e=>b7 b ⟨o,e⟩⟩;have hE:=f6.next hU;obtain⟨f8,d9⟩:=hz.lP hm hl hf f7;obtain⟨J,a9⟩:=Xb (w.alloc (.cells #[.int .i64 c.c.n,.int .i64 c.c.k,.slice c.p c.c.L.length c.cap] 58));have b8:=Zk a9;have b0:=JH a9;have f9:=fQ a9;have c8:h<w.heap.size:=U.lt;have b1:w.heap.size≠h:=by omega
 have a0:J.heap[h]?=ab (.cells (Zi X) 74 (0,0)):=(U.below b8).blk;have b4:X.aY=m.ops:=U.aW.2.1;have b5:=DI (w:=J.drew) (h:=h) (X:=X) a0 (by rw[b4];exact h0) (by rw[b4];exact h1);rw[b4]at b5;obtain⟨I,a2⟩:=Xb (J.drew.setCell ⟨h,40,aa⟩ (.int .i64 (m.ops+1)));rw[<-a2]at b5;have d0:Yp h w J:=(Yp.refl h w).below b8;have a3:Yp h w I:=by rw[a2];exact(d0.below bR.drew).set _ _
 have a4:I.heap[h]?=ab (.cells (Zi {X with aY:=m.ops+1}) 74 (0,0)):=by rw[a2];exact Qc (w:=J.drew) a0 40 _
 have b2:I.heap[w.heap.size]?=ab (.cells #[.int .i64 c.c.n,.int .i64 c.c.k,.slice c.p c.c.L.length c.cap] 58 (0,0)):=by rw[a2];exact(ai _ _ _ _ b1).trans b0
 have e0:J.heap.size=I.heap.size:=by rw[a2];simp[ay]
 have e4:Yn I c.c c.p c.cap:=⟨hc.strs.same a3.size (fun b o e=>a3.cW b (d7 b o e).2.1 (fun e'=>by have:=b7 b ⟨o,e⟩;rw[e',U.self]at this;cases this)),hc.room,hc.empty,hc.len,hc.size,hc.ints⟩;have a5:=JlS (ad:=ad) U hz h0 e4 hf ((hE.wrote U.self a3).here.q) a3;have a5:af prog 65 #[.int .i64 m.ops,.agg #[.int .i64 X.cf.c.n,.int .i64 X.cf.c.k,.slice X.cf.p X.cf.c.L.length X.cf.cap],.agg #[.int .i64 c.c.n,.int .i64 c.c.k,.slice c.p c.c.L.length c.cap],.int .i64 X.act,.string ⟨#[120]⟩] I fun e H=>∃D,e=.returned (.tuple #[.pointer (ab ⟨D,0,aa⟩),.nilIface])/\Hid (∃S,XM H I.heap.size D S (JD m.ops m.aC (aG m.aB m.aC) c.c)/\ae I.heap.size I H):=a5.mono fun e H hq=>by
  obtain⟨D,S,g1,g2,g3⟩:=hq;exact⟨D,g1,S,g2,g3⟩
 have g0:J.cell? ⟨h,36,aa⟩=ab (.int .i64 X.cf.c.n):=(Xa a0 36).1;have g4:J.cell? ⟨h,37,aa⟩=ab (.int .i64 X.cf.c.k):=(Xa a0 37).1;have g5:J.cell? ⟨h,38,aa⟩=ab (.slice X.cf.p X.cf.c.L.length X.cf.cap):=(Xa a0 38).1;have g6:J.cell? ⟨h,39,aa⟩=ab (.int .i64 X.act):=(Xa a0 39).1;have g7:I.cell? ⟨h,36,aa⟩=ab (.int .i64 X.cf.c.n):=(Xa a4 36).1;have g8:I.cell? ⟨h,37,aa⟩=ab (.int .i64 X.cf.c.k):=(Xa a4 37).1;have g9:I.cell? ⟨h,38,aa⟩=ab (.slice X.cf.p X.cf.c.L.length X.cf.cap):=(Xa a4 38).1;have h3:I.cell? ⟨h,39,aa⟩=ab (.int .i64 X.act):=(Xa a4 39).1;have x0:J.cell? ⟨w.heap.size,0,aa⟩=ab (.int .i64 c.c.n):=(Xa b0 0).1;have x1:J.cell? ⟨w.heap.size,1,aa⟩=ab (.int .i64 c.c.k):=(Xa b0 1).1;have x2:J.cell? ⟨w.heap.size,2,aa⟩=ab (.slice c.p c.c.L.length c.cap):=(Xa b0 2).1;have y0:I.cell? ⟨w.heap.size,0,aa⟩=ab (.int .i64 c.c.n):=(Xa b2 0).1;have y1:I.cell? ⟨w.heap.size,1,aa⟩=ab (.int .i64 c.c.k):=(Xa b2 1).1;have y2:I.cell? ⟨w.heap.size,2,aa⟩=ab (.slice c.p c.c.L.length c.cap):=(Xa b2 2).1;have e5:Hid (J=w.alloc (.cells #[.int .i64 c.c.n,.int .i64 c.c.k,.slice c.p c.c.L.length c.cap] 58)):=a9;have e6:af prog 62 #[.pointer (ab ⟨h,0,aa⟩)] J.drew fun e w'=>e=.returned (.int .i64 m.ops)/\w'=I:=b5
 have b6:Hid (∀D H,(∃S,XM H I.heap.size D S (JD m.ops m.aC (aG m.aB m.aC) c.c)/\ae I.heap.size I H)->∀K,K=mZ H h D c ->
  (H.cell? ⟨w.heap.size,0,aa⟩=ab (.int .i64 c.c.n)/\H.cell? ⟨w.heap.size,1,aa⟩=ab (.int .i64 c.c.k)/\H.cell? ⟨w.heap.size,2,aa⟩=ab (.slice c.p c.c.L.length c.cap))/\(∀i,32<=i->i<=35->(∃v,H.cell? ⟨h,i,aa⟩=ab v)/\H.frozen? ⟨h,i,aa⟩=F) /\
  af prog 66 #[.pointer (ab ⟨D,0,aa⟩)] K.drew fun e w'=>∃p d,e=.returned (.slice p (JD m.ops m.aC (aG m.aB m.aC) c.c).begin.length d) /\
   af prog 36 #[.pointer (ab ⟨h,0,aa⟩),.slice p (JD m.ops m.aC (aG m.aB m.aC) c.c).begin.length d] w' fun e w6=>e=.returned (.tuple #[])/\Hid (Q4 w0 B h O0 (m.eP c.c) w6)):=fun D H hS K a6=>by
  obtain⟨S,d1,d2⟩:=hS;have d3:=(d2.block _ (by omega)).trans b2;have d4:=(d2.block h (by omega)).trans a4;have a7:Yp h w H:=a3.below d2;obtain⟨e7,Z⟩:=UI d4 D c;rw[<-a6]at e7 Z;have h4:Yp h w K:=⟨Z.os.trans a7.os,Z.tape.trans a7.tape,Z.output.trans a7.output,al a7.size Z.size,fun k hk b1=>(Z.cW k (ag hk a7.size) b1).trans (a7.cW k hk b1)⟩;have d5:XM K I.heap.size D S (JD m.ops m.aC (aG m.aB m.aC) c.c):=d1.dA Z.size (fun k hk=>Z.cW k (d1.dH k hk).2 (by have:=(d1.dH k hk).1;omega));obtain⟨O4,h5,k6,h6⟩:=U.nA hz hm h4 e7 (d5.base (al U.base (al d0.size (Nat.le_of_eq e0)))) (fun k hk=>by have:=(d5.dH k hk).1;omega) d8;refine⟨⟨(Xa d3 0).1,(Xa d3 1).1,(Xa d3 2).1⟩,fun i k7 l0=>⟨?_,(Xa d4 i).2⟩,?_⟩
  ·have:=(Xa d4 i).1;have c8:i<(Zi {X with aY:=m.ops+1}).size:=by show i<43;omega
   rw[Array.getElem?_eq_getElem c8]at this;exact⟨_,this⟩
  ·refine(VW (d5.dA (w':=K.drew) nR (fun _ _=>rfl))).mono fun e w' hq=>?_
   obtain⟨⟨p,d,e1,e2⟩,e3⟩:=hq;have hb:ae K.heap.size K w':=(bj _ K).drew.trans e3;obtain⟨O5,h7,h8,h9,_⟩:=h5.grow hb;refine⟨p,d,e1,(oS h7 d9.bO (by have:=zR (zU hz hf);omega) (e2.out (fun b h1 h2=>h8 b h1 h2))).mono fun e w6 hq=>?_⟩;obtain⟨g1,O6,v6,i0,i1,_,i2⟩:=hq;exact⟨g1,O6,_,i0,nb,hn,i1,hU.trans' ((h6.trans' h9).trans' i2)⟩
 generalize (JD m.ops m.aC (aG m.aB m.aC) c.c).begin.length=bl at *;generalize Q4 w0 B h O0 (m.eP c.c)=G at *;obtain⟨MD,d6⟩:∃MD:Nat->World->Prop,MD=fun D H=>∃S,XM H I.heap.size D S (JD m.ops m.aC (aG m.aB m.aC) c.c)/\ae I.heap.size I H:=⟨_,rfl⟩
 have a5:af prog 65 #[.int .i64 m.ops,.agg #[.int .i64 X.cf.c.n,.int .i64 X.cf.c.k,.slice X.cf.p X.cf.c.L.length X.cf.cap],.agg #[.int .i64 c.c.n,.int .i64 c.c.k,.slice c.p c.c.L.length c.cap],.int .i64 X.act,.string ⟨#[120]⟩] I fun e H=>∃D,e=.returned (.tuple #[.pointer (ab ⟨D,0,aa⟩),.nilIface])/\Hid (MD D H):=a5.mono fun e H hq=>by
  obtain⟨D,g1,g2⟩:=hq;exact⟨D,g1,by rw[d6];exact g2.out⟩
 have b6:Hid (∀D H,MD D H->∀K,K=mZ H h D c->(H.cell? ⟨w.heap.size,0,aa⟩=ab (.int .i64 c.c.n)/\H.cell? ⟨w.heap.size,1,aa⟩=ab (.int .i64 c.c.k)/\H.cell? ⟨w.heap.size,2,aa⟩=ab (.slice c.p c.c.L.length c.cap))/\(∀i,32<=i->i<=35->(∃v,H.cell? ⟨h,i,aa⟩=ab v)/\H.frozen? ⟨h,i,aa⟩=F) /\
  af prog 66 #[.pointer (ab ⟨D,0,aa⟩)] K.drew fun e w'=>∃p d,e=.returned (.slice p bl d)/\af prog 36 #[.pointer (ab ⟨h,0,aa⟩),.slice p bl d] w' fun e w6=>e=.returned (.tuple #[])/\Hid (G w6)):=by rw[d6];exact b6.out
 have e8:Hid (∀H D,mZ H h D c=(((H.setCell ⟨h,32,aa⟩ (.pointer (ab ⟨D,0,aa⟩))).setCell ⟨h,33,aa⟩ (.int .i64 c.c.n)).setCell ⟨h,34,aa⟩ (.int .i64 c.c.k)).setCell ⟨h,35,aa⟩ (.slice c.p c.c.L.length c.cap)):=fun _ _=>rfl
 have hv:c.v=.slice c.p c.c.L.length c.cap:=rfl;rw[hv];clear hv d6 f3 hz hm hl h0 h1 f4 f5 f6 hc hf f7 d7 U b7 hU d8 hE f8 d9 a9 b8 b0 f9 c8 b1 a0 b4 b5 a2 d0 a3 a4 b2 e0 e4;generalize c.c.L.length=cl at *;generalize X.cf.c.L.length=fl at *;generalize c.c.n=cn at *;generalize c.c.k=ck at *;generalize X.cf.c.n=fn at *;generalize X.cf.c.k=fk at *;go_enter func41,ntmps41;go_wp2_with (rw[<-e5.out])
 go_cut [4,5]from 6 to 20 (fun x4 x5 W=>∃D,x4=.pointer (ab ⟨D,0,aa⟩)/\x5=.nilIface/\MD D W)
 case first =>
  go_region_law (first|(go_simp;go_at_call 62;refine e6.mono ?_;rintro e wn ⟨rfl,e9⟩;rw[e9];clear e9 wn;go_simp)|(go_simp;go_at_call 65;refine a5.mono ?_;rintro e H ⟨D,rfl,i3⟩;go_simp))
  all_goals (go_wp2_with fail;go_meet)
  all_goals exact⟨D,rfl,rfl,i3.out⟩
 case rest =>
  obtain⟨D,rfl,rfl,hM⟩:=hcut;obtain⟨K,a6⟩:=Xb (mZ wc h D c);obtain⟨⟨z0,z1,z2⟩,b3,i4⟩:=b6.out D wc hM K a6;obtain⟨⟨l7,i5⟩,i8⟩:=b3 32 (by decide) (by decide);obtain⟨⟨l9,i9⟩,j1⟩:=b3 33 (by decide) (by decide);obtain⟨⟨m0,j2⟩,k0⟩:=b3 34 (by decide) (by decide);obtain⟨⟨m4,k2⟩,k3⟩:=b3 35 (by decide) (by decide);rw[e8.out]at a6;have k4:Hid (K=(((wc.setCell ⟨h,32,aa⟩ (.pointer (ab ⟨D,0,aa⟩))).setCell ⟨h,33,aa⟩ (.int .i64 cn)).setCell ⟨h,34,aa⟩ (.int .i64 ck)).setCell ⟨h,35,aa⟩ (.slice c.p cl c.cap)):=a6;clear a6 b3 hM b6 e8 a5 e6 e5 g0 g4 g5 g6 g7 g8 g9 h3 x0 x1 x2 y0 y1 y2;go_wp2_with (rw[<-k4.out])
  clear z0 z1 z2 i5 i9 j2 k2 i8 j1 k0 k3;go_region_held3 (fun _=>True) (trivial) (first|(go_at_call 66;refine i4.mono ?_;rintro e w5 ⟨p5,c5,rfl,k5⟩)|(go_at_call 36;refine k5.mono ?_;rintro e w6 ⟨rfl,HF⟩))
  go_wp2
  go_end0
  exact⟨rfl,HF.out⟩
end
end
section
open Ring
def Ya.gC (m:Ya)(l:List BA):Int×Int :=
 if m.mover.isSome=zi then(11,-1)else if 12<=m.aB.length then(7,-1)else if 0<(Zr l (aG m.aB m.aC).n (aG m.aB m.aC).k).1 then Zr l (aG m.aB m.aC).n (aG m.aB m.aC).k else if 16<m.nodes.length+(m.fresh l).length then(7,-1)else(0,-1)
section
variable {w w':World} {B h:Nat} {O O':Nat->Option Whose} {m:Ya} {X:WB} {ml:List (Zb×Lv)} {nb hn:Nat->Nat} {n k:Nat} {ad:Nat->aI}
def ZY (ad:Nat->aI)(w:World)(B h:Nat)(O:Nat->Option Whose)(m:Ya)(l:List BA)(e:Ending)(w':World):Prop :=
 (0<(m.gC l).1/\(∃D,e=.returned D/\Jd w' ad D (m.gC l).1 (m.gC l).2)/\Q4 w B h O m w') ∨
 (¬0<(m.gC l).1/\e=.returned .nilIface/\∃c:Xg,c.n=(aG m.aB m.aC).n/\c.k=(aG m.aB m.aC).k/\XC (Xy wX) l c.L/\¬0<(Jg c).1/\Q4 w B h O ((m.cE (m.fresh l)).eP c) w')
def mH (ad:Nat->aI)(w:World)(l:List BA)(D H:Int)(J:Nat)(I:am)(W:World):Prop :=
 ae w.heap.size w W/\w.heap.size<=J/\((0<(Zr l D H).1/\(∃t v,I=.iface t v)/\Jd W ad I (Zr l D H).1 (Zr l D H).2) ∨
  (¬0<(Zr l D H).1/\I=.nilIface/\∃c:fB,W.heap[J]?=ab (.cells #[.int .i64 c.c.n,.int .i64 c.c.k,.slice c.p c.c.L.length c.cap] 58 (0,0))/\c.c.n=D/\c.c.k=H/\XC (Xy wX) l c.c.L/\¬0<(Jg c.c).1/\Yn W c.c c.p c.cap/\∀b o,c.p=ab ⟨b,o,aa⟩->w.heap.size<=b/\b<W.heap.size))
theorem AQ {W0 D:World}{l:List BA}{n0 k0:Int}{e:Ending}(hb:ae w.heap.size w W0)(hq:j3 ad W0 l n0 k0 e D):
 ∃cn ck q cl cc x8,e=.returned (.tuple #[.agg #[.int .i64 cn,.int .i64 ck,.slice q cl cc],x8])/\mH ad w l n0 k0 D.heap.size x8 (D.alloc (.cells #[.int .i64 cn,.int .i64 ck,.slice q cl cc] 58)) /\
  ∀H x0 x1 x2,w.heap.size<=H->H<W0.heap.size->D.heap[H]?=ab (.cells #[.int .i64 x0,.int .i64 x1,x2] 58 (0,0))->mH ad w l n0 k0 H x8 (Y0 D H (.int .i64 cn) (.int .i64 ck) (.slice q cl cc)):=by
 obtain⟨hq,a3⟩:=hq;have I:ae w.heap.size w D:=hb.trans (a3.mono hb.size);rcases hq with⟨K,ev,h2,U⟩|⟨K,c,h2,U,h4,h5,h6,J,h8⟩
 ·have a2:=U.some K;refine⟨0,0,aa,0,0,ev,h2,⟨I.alloc I.size _,I.size,aw ⟨K,a2,U.below (bR.alloc nR _)⟩⟩,fun H x0 x1 x2 Z _ a0=>⟨xS I Z _ _ _,Z,aw ⟨K,a2,U.pS (b:=H) (x:=x1) (Xa a0 1).1 (fun k hk=>sM _ _ _ _ _ hk)⟩⟩⟩
 ·refine⟨c.c.n,c.c.k,c.p,c.c.L.length,c.cap,.nilIface,h2,⟨I.alloc I.size _,I.size,aq ⟨K,rfl,c,?_,U,h4,h5,h6,J.below (bR.alloc nR _),fun b o e=>?_⟩⟩,fun H x0 x1 x2 Z a5 a0=>⟨xS I Z _ _ _,Z,aq ⟨K,rfl,c,G2 a0 _ _ _,U,h4,h5,h6,?_,fun b o e=>?_⟩⟩⟩
  ·show(D.heap.push _)[D.heap.size]?=_;simp
  ·have:=h8 b o e;have:=hb.size;refine⟨by omega,?_⟩;show b<(D.heap.push _).size;rw[aN];omega
  ·exact⟨J.strs.same (by unfold Y0;simp[ay]) (fun b o e=>sM _ _ _ _ _ (by have:=(h8 b o e).1;omega)),J.room,J.empty,J.len,J.size,J.ints⟩
  ·have a4:=h8 b o e;have:=hb.size;refine⟨by omega,?_⟩;unfold Y0;simpa[ay]using a4.2
end
end
section
open Ring
section
variable {w w':World} {B h:Nat} {O O':Nat->Option Whose} {m:Ya} {X:WB} {ml:List (Zb×Lv)} {nb hn:Nat->Nat} {n k:Nat} {ad:Nat->aI}
theorem Q4.here (H:Ye w B h O m X ml nb hn)(D:ae w.heap.size w W):Q4 w B h O m W:=⟨O,X,ml,nb,hn,H.below D,Yd.aJ D⟩
theorem Ye.jW (D:Ye w B h O m X ml nb hn)(H:w.heap.size<=j):O j=none:=by
 cases e:O j with
 |none=>rfl
 |some o=>have:=(D.aO j o e).2;omega
theorem L9 (K:Ye w B h O m X ml nb hn)(hz:WZ n k m)(h0:0<=m.ops)(h1:m.ops<=1152921504606846976)(hf:m.nodes.length<=16)(p:Option aI)(l:List BA)(cap:Nat)(hl:l.length<=1000)(hs:Strs w p l)(hE:Yi ad w O)(hm:m.mover=aa)(e0:¬12<=m.aB.length){D:Nat}(hW:ae w.heap.size w W)(e3:w.heap.size<=D)(hF:¬0<(Zr l (aG m.aB m.aC).n (aG m.aB m.aC).k).1)
 (hk:W.heap[D]?=ab (.cells #[.int .i64 c.c.n,.int .i64 c.c.k,.slice c.p c.c.L.length c.cap] 58 (0,0))) (b6:c.c.n=(aG m.aB m.aC).n) (c8:c.c.k=(aG m.aB m.aC).k) (e4:XC (Xy wX) l c.c.L) (a9:¬0<(Jg c.c).1) (a0:Yn W c.c c.p c.cap) (U:∀b o,c.p=ab ⟨b,o,aa⟩->w.heap.size<=b/\b<W.heap.size):
 af prog 40 #[.pointer (ab ⟨h,0,aa⟩),.slice p l.length cap] W fun e H=>∃q cc vp vc,e=.returned (.slice q (m.fresh l).length cc)/\H.cell? ⟨h,31,aa⟩=ab (.slice vp m.nodes.length vc)/\H.cell? ⟨2,0,aa⟩=ab (.iface 301 (.pointer (ab (ad 6)))) /\
  (16<m.nodes.length+(m.fresh l).length->Hid (ZY ad w B h O m l (.returned (.iface 301 (.pointer (ab (ad 6))))) H)) /\
  (¬16<m.nodes.length+(m.fresh l).length->af prog 26 #[.pointer (ab ⟨h,0,aa⟩),.slice q (m.fresh l).length cc] H fun e J=>e=.returned (.tuple #[])/\(J.cell? ⟨D,0,aa⟩=ab (.int .i64 c.c.n)/\J.cell? ⟨D,1,aa⟩=ab (.int .i64 c.c.k)/\J.cell? ⟨D,2,aa⟩=ab (.slice c.p c.c.L.length c.cap)) /\
   af prog 41 #[.pointer (ab ⟨h,0,aa⟩),.agg #[.int .i64 c.c.n,.int .i64 c.c.k,.slice c.p c.c.L.length c.cap]] J fun e w4=>e=.returned (.tuple #[])/\Hid (ZY ad w B h O m l (.returned .nilIface) w4)):=by
 have d0:=K.below hW;have hN:¬0<(Xj l).1:=fun h=>hF (by unfold Zr;rw[if_pos h];exact h)
 have d1:=(YP (l:=l) (by omega)).1;have b0:∀d,(if 16<m.nodes.length+(m.fresh l).length then((7:Int),(-1:Int))else(0,-1))=d->m.gC l=d:=fun d hd=>by
  unfold Ya.gC;rw[hm,if_neg (by decide),if_neg e0,if_neg hF];exact hd
 refine(SQ d0 (by omega) p l cap hl (hs.below hW)).mono fun e H Z=>?_
 obtain⟨⟨v,e1,hO⟩,I⟩:=Z;obtain⟨q,cc,rfl,g1,g2,g3,g4⟩:=hO.form;have a3:=hW.trans (I.mono hW.size);have a4:=K.below a3;obtain⟨vp,vc,hv,_⟩:=a4.cD.form;have d2:((bh m.nodes.length).map nb).length=m.nodes.length:=by simp
 rw[d2]at hv;have b1:=hE.below a3;refine⟨q,cc,vp,vc,e1,by rw[<-hv];exact(a4.cell 31).1,b1.here.sv.eZ.c6,fun a5=>?_,fun a5=>?_⟩
 ·have hF:=b0 _ (if_pos a5);exact aw ⟨by rw[hF];decide,⟨_,rfl,by rw[hF];exact Jd.b8 6 (by decide)⟩,Q4.here K a3⟩
 ·have d3:=b0 _ (if_neg a5);have d4:∀b o,q=ab (pA b o)->O b=none:=fun b o e=>K.jW (by have:=(g4 b o e).1;have:=hW.size;omega)
  have b2:∀x∈m.fresh l,Jo x=true:=fun x hx=>d1 x ((List.mem_filter.1 hx).1)
  refine(DF (ad:=ad) a4 q (m.fresh l) cc (by omega) b2 g1 d4 b1).mono fun e J Z=>?_
  obtain⟨e2,O3,X3,e5,e6,e7,d5,a2⟩:=Z;have b3:∀j,w.heap.size<=j->j<H.heap.size->J.heap[j]?=H.heap[j]?:=fun j a6 b4=>a2.block j b4 (fun e=>e (K.jW a6))
  have b5:D<W.heap.size:=by
   rcases Nat.lt_or_ge D W.heap.size with h'|h'
   ·exact h'
   ·rw[Array.getElem?_eq_none h']at hk;cases hk
  have a7:=(b3 D e3 (ag b5 I.size)).trans ((I.block D b5).trans hk);have d6:=(Yd.aJ a3).trans' a2;have d7:∀j,w.heap.size<=j->j<H.heap.size->O3 j=none:=fun j a6 b4=>by
   cases e:O3 j with
   |none=>rfl
   |some o =>
    rcases a2.new j (by rw[e];exact fun e=>by cases e)with h'|h'
    ·exact absurd (K.jW a6) h'
    ·omega
  have d8:Yn J c.c c.p c.cap:=⟨a0.strs.same (al I.size a2.size) (fun b o e=>(b3 b (U b o e).1 (ag (U b o e).2 I.size)).trans (I.block b (U b o e).2)),a0.room,a0.empty,a0.len,a0.size,a0.ints⟩;have d9:XS n k c.c:=by
   have h1:XS c.c.n.toNat c.c.k.toNat c.c:=by
    obtain⟨h1,h2,_,_,h5⟩:=Xm a9;exact⟨by omega,by omega,by omega,by omega,by omega,by omega,h5⟩
   have h2:=(hz.cU m.aC hz.act).2;rw[b6,c8,h2.n_,h2.k_,Int.toNat_natCast,Int.toNat_natCast]at h1;exact h1
  refine⟨e2,⟨(Xa a7 0).1,(Xa a7 1).1,(Xa a7 2).1⟩,(SG (ad:=ad) d5 (hz.kQ b2) hm (by show m.aB.length<12;omega) h0 h1 d6 K.base hE d8 a9 d9 (fun b o e=>⟨(U b o e).1,ag (U b o e).2 (al I.size a2.size),d7 b (U b o e).1 (ag (U b o e).2 I.size)⟩)).mono fun e w4 Z=>⟨Z.1,?_⟩⟩;exact aq ⟨by rw[d3];decide,rfl,c.c,b6,c8,e4,a9,Z.2⟩
theorem SD (hp:Ye w B h O m X ml nb hn)(hz:WZ n k m)(h0:0<=m.ops)(h1:m.ops<=1152921504606846976)(hf:m.nodes.length<=16)(p:Option aI)(l:List BA)(cap:Nat)(hl:l.length<=1000)(hc:l.length<=cap)(hx:∀x∈l,x.size<=1000)(hs:Strs w p l)(hE:Yi ad w O):
 af prog 17 #[.pointer (ab ⟨h,0,aa⟩),.slice p l.length cap] w (ZY ad w B h O m l):=by
 have a6:=sC hp;have f5:=hE.here.held;cases hm:m.mover.isSome with
 |true =>
  rw[hm]at a6;have hF:m.gC l=(11,-1):=by unfold Ya.gC;rw[hm,if_pos rfl]
  have HG:Hid (ZY ad w B h O m l (.returned (.iface 301 (.pointer (ab (ad 10))))) w):=aw ⟨by rw[hF];decide,⟨_,rfl,by rw[hF];exact Jd.b8 10 (by decide)⟩,Q4.here hp bR⟩;generalize ZY ad w B h O m l=G at *;clear hp hz h0 h1 hf hl hc hx hs hE hF hm;go_enter func17,ntmps17;go_wp2_with fail
  refine a6.mono ?_;rintro e D ⟨rfl,a3⟩;rw[a3];clear a3 D;go_wp2;exact HG.out
 |false =>
  rw[hm]at a6;have b5:m.mover=none:=by cases e:m.mover with|none=>rfl|some a=>rw[e]at hm;cases hm
  have a4:=EL hp hz;by_cases b1:12<=m.aB.length
  ·have hF:m.gC l=(7,-1):=by unfold Ya.gC;rw[hm,if_neg (by decide),if_pos b1]
   have a4:af prog 22 #[.pointer (ab (pA h 0))] w fun e w'=>e=.returned (.tuple #[.int .i64 m.aB.length,.int .i64 m.aC])/\w'.cell? ⟨2,0,aa⟩=ab (.iface 301 (.pointer (ab (ad 6))))/\Hid (ZY ad w B h O m l (.returned (.iface 301 (.pointer (ab (ad 6))))) w'):=a4.mono fun e w' hq=>⟨hq.1,(hE.below hq.2).here.sv.eZ.c6,aw ⟨by rw[hF];decide,⟨_,rfl,by rw[hF];exact Jd.b8 6 (by decide)⟩,Q4.here hp hq.2⟩⟩
   generalize ZY ad w B h O m l=G at *;have z1:(12:Int)<=(m.aB.length:Int):=by omega
   clear hp hz h0 h1 hf hl hc hx hs hE hF hm b5 b1;generalize m.aB.length=cl at *;generalize m.aC=ac at *;go_enter func17,ntmps17;go_wp2_with fail
   refine a6.mono ?_;rintro e D ⟨rfl,a3⟩;rw[a3];clear a3 D;go_wp2_with fail
   refine a4.mono ?_;rintro e w2 ⟨rfl,c6,HG⟩;go_wp2;exact HG.out
  ·obtain⟨I,a7⟩:=Xb ((aG m.aB m.aC).n);obtain⟨J,a9⟩:=Xb ((aG m.aB m.aC).k);have b6:Zt I/\Zt J:=by
    have:=hp.cf.1.ints;rw[hp.cV]at this;rw[a7,a9];exact this
   have c8:∀W,ae w.heap.size w W->af prog 25 #[.slice p l.length cap,.int .i64 I,.int .i64 J] W (j3 ad W l I J):=fun W hW=>FN ad p l cap I J W hl hc hx b6.1 b6.2 (hs.below hW) (hE.below hW).here
   have a4:af prog 22 #[.pointer (ab (pA h 0))] w fun e D=>e=.returned (.tuple #[.int .i64 m.aB.length,.int .i64 m.aC])/\(D.cell? (pA h 36)=ab (.int .i64 I)/\D.cell? (pA h 37)=ab (.int .i64 J))/\((D.alloc (.cells #[.int .i64 0,.int .i64 0,.slice aa 0 0] 58)).cell? (pA h 36)=ab (.int .i64 I)/\(D.alloc (.cells #[.int .i64 0,.int .i64 0,.slice aa 0 0] 58)).cell? (pA h 37)=ab (.int .i64 J)) /\
    (af prog 25 #[.slice p l.length cap,.int .i64 I,.int .i64 J] D.drew fun e K=>∃cn U q cl Z H,e=.returned (.tuple #[.agg #[.int .i64 cn,.int .i64 U,.slice q cl Z],H])/\Hid (mH ad w l I J K.heap.size H (K.alloc (.cells #[.int .i64 cn,.int .i64 U,.slice q cl Z] 58)))) /\
    (af prog 25 #[.slice p l.length cap,.int .i64 I,.int .i64 J] (D.alloc (.cells #[.int .i64 0,.int .i64 0,.slice aa 0 0] 58)).drew fun e K=>∃cn U q cl Z H,e=.returned (.tuple #[.agg #[.int .i64 cn,.int .i64 U,.slice q cl Z],H])/\(K.cell? (pA D.heap.size 0)=ab (.int .i64 0)/\K.cell? (pA D.heap.size 1)=ab (.int .i64 0)/\K.cell? (pA D.heap.size 2)=ab (.slice aa 0 0))/\(K.frozen? (pA D.heap.size 0)=F/\K.frozen? (pA D.heap.size 1)=F/\K.frozen? (pA D.heap.size 2)=F)/\Hid (mH ad w l I J D.heap.size H (((K.setCell (pA D.heap.size 0) (.int .i64 cn)).setCell (pA D.heap.size 1) (.int .i64 U)).setCell (pA D.heap.size 2) (.slice q cl Z)))):=a4.mono fun e D hq=>by
    obtain⟨e1,b0⟩:=hq;have d0:ae w.heap.size w (D.alloc (.cells #[.int .i64 0,.int .i64 0,.slice aa 0 0] 58)):=b0.alloc b0.size _;have p1:=hp.below b0;have p2:=hp.below d0;have b2:X.cf.c.n=I/\X.cf.c.k=J:=by rw[hp.cV,a7,a9];exact⟨rfl,rfl⟩
    refine⟨e1,⟨by rw[<-b2.1];exact(p1.cell 36).1,by rw[<-b2.2];exact(p1.cell 37).1⟩,⟨by rw[<-b2.1];exact(p2.cell 36).1,by rw[<-b2.2];exact(p2.cell 37).1⟩,(c8 D.drew b0.drew).mono fun e K hq=>?_,(c8 _ d0.drew).mono fun e K hq=>?_⟩
    ·obtain⟨cn,U,q,cl,Z,H,g1,g2,_⟩:=AQ b0.drew hq;exact⟨cn,U,q,cl,Z,H,g1,g2⟩
    ·obtain⟨cn,U,q,cl,Z,H,g1,_,g3⟩:=AQ d0.drew hq;have d2:D.heap.size<(D.alloc (.cells #[.int .i64 0,.int .i64 0,.slice aa 0 0] 58)).drew.heap.size:=by show _<(D.heap.push _).size;rw[aN];omega
     have a5:K.heap[D.heap.size]?=ab (.cells #[.int .i64 0,.int .i64 0,.slice aa 0 0] 58 (0,0)):=(hq.2.block _ d2).trans (by show(D.heap.push _)[D.heap.size]?=_;simp);exact⟨cn,U,q,cl,Z,H,g1,⟨(Xa a5 0).1,(Xa a5 1).1,(Xa a5 2).1⟩,⟨(Xa a5 0).2,(Xa a5 1).2,(Xa a5 2).2⟩,g3 D.heap.size 0 0 (.slice aa 0 0) b0.size d2 a5⟩
   have d3:0<(Zr l I J).1->m.gC l=Zr l I J:=fun hq=>by
    unfold Ya.gC;rw[hm,if_neg (by decide),if_neg b1,<-a7,<-a9,if_pos hq]
   have b3:Hid (∀b7 H W,mH ad w l I J b7 H W->(∃t v,H=.iface t v)->ZY ad w B h O m l (.returned H) W):=fun b7 H W hR ht=>by
    obtain⟨r1,r2,r3|r3⟩:=hR
    ·have hF:=d3 r3.1;exact aw ⟨by rw[hF];exact r3.1,⟨_,rfl,by rw[hF];exact r3.2.2⟩,Q4.here hp r1⟩
    ·obtain⟨t,v,ht⟩:=ht;rw[r3.2.1]at ht;cases ht
   have b4:Hid (∀b7 H W,mH ad w l I J b7 H W->(∃t v,H=.iface t v)∨H=.nilIface/\∃cn U q cl Z,af prog 40 #[.pointer (ab (pA h 0)),.slice p l.length cap] W fun e w2=>∃q2 d1 vp vc,e=.returned (.slice q2 (m.fresh l).length d1)/\w2.cell? (pA h 31)=ab (.slice vp m.nodes.length vc)/\w2.cell? ⟨2,0,aa⟩=ab (.iface 301 (.pointer (ab (ad 6)))) /\
    (16<m.nodes.length+(m.fresh l).length->Hid (ZY ad w B h O m l (.returned (.iface 301 (.pointer (ab (ad 6))))) w2)) /\
    (¬16<m.nodes.length+(m.fresh l).length->af prog 26 #[.pointer (ab (pA h 0)),.slice q2 (m.fresh l).length d1] w2 fun e w3=>e=.returned (.tuple #[])/\(w3.cell? (pA b7 0)=ab (.int .i64 cn)/\w3.cell? (pA b7 1)=ab (.int .i64 U)/\w3.cell? (pA b7 2)=ab (.slice q cl Z)) /\
     af prog 41 #[.pointer (ab (pA h 0)),.agg #[.int .i64 cn,.int .i64 U,.slice q cl Z]] w3 fun e w4=>e=.returned (.tuple #[])/\Hid (ZY ad w B h O m l (.returned .nilIface) w4))):=fun b7 H W hR=>by
    obtain⟨r1,r2,r3|⟨r3,r4,c,r5,r6,r7,r8,r9,e3,e4⟩⟩:=hR
    ·exact aw r3.2.1
    ·exact aq ⟨r4,c.c.n,c.c.k,c.p,c.c.L.length,c.cap,L9 hp hz h0 h1 hf p l cap hl hs hE b5 b1 r1 r2 (by rw[<-a7,<-a9];exact r3) r5 (by rw[<-a7];exact r6) (by rw[<-a9];exact r7) r8 r9 e3 e4⟩
   generalize ZY ad w B h O m l=G at *;have z1:¬(12:Int)<=(m.aB.length:Int):=by omega
   have z3:=EV m l;generalize (m.fresh l).length=fl at *;generalize m.nodes.length=N at *;generalize m.aB.length=f6 at *;generalize m.aC=ac at *;clear hp hz h0 h1 hc hx hs hE hm b5 b1 a7 a9 b6 c8 d3;obtain⟨RC,d4⟩:∃RC:Nat->am->World->Prop,RC=mH ad w l I J:=⟨_,rfl⟩;rw[<-d4]at a4 b3 b4;clear d4;go_enter func17,ntmps17;go_wp2_with fail
   refine a6.mono ?_;rintro e D ⟨rfl,a3⟩;rw[a3];clear a3 D;go_wp2_with fail
   refine a4.mono ?_;rintro e D ⟨rfl,⟨e5,e6⟩,⟨e7,e8⟩,d5,d6⟩;clear a4 a6;go_wp2_with fail
   go_cut [7,8]from 23 to 37 (fun x7 H W=>∃b7 t8,t8=H/\x7=.pointer (ab (pA b7 0))/\RC b7 t8 W)
   case first =>
    go_region_law (go_simp;go_at_call 25;first|(with_reducible refine d5.mono ?_;rintro e K ⟨cn,U,q,cl,Z,H,rfl,d7⟩;go_simp)|(with_reducible refine d6.mono ?_;rintro e K ⟨cn,U,q,cl,Z,H,rfl,⟨a0,a1,a2⟩,⟨f0,f1,f2⟩,d7⟩;go_simp))
    all_goals (go_wp2_with fail;go_meet)
    all_goals exact⟨_,_,rfl,rfl,d7.out⟩
   case rest =>
    obtain⟨b7,t8,e9,rfl,hR⟩:=hcut;subst e9;have HR:Hid _:=hR;clear hR d5 d6 e5 e6 e7 e8;rcases b4.out b7 t8 wc HR.out with d8|⟨rfl,cn,U,q,cl,Z,d9⟩
    ·have HG:Hid (G (.returned t8) wc):=b3.out b7 t8 wc HR.out d8;obtain⟨t,v,rfl⟩:=d8;clear b4 b3 HR;go_wp2;exact HG.out
    ·clear b4 b3 HR;go_wp2_with fail
     refine d9.mono ?_;rintro e w2 ⟨q2,d1,vp,vc,rfl,f7,c6,hB,hA⟩;clear d9;by_cases e0:16<N+fl
     ·have HG:=hB e0;have f3:(16:Int)<(N:Int)+(fl:Int):=by omega
      clear hA hB;go_wp2;exact HG.out
     ·have e2:=hA e0;have f3:¬(16:Int)<(N:Int)+(fl:Int):=by omega
      clear hA hB;go_wp2_with fail
      refine e2.mono ?_;rintro e w3 ⟨rfl,⟨y0,y1,y2⟩,f4⟩;clear e2;go_wp2_with fail
      refine f4.mono ?_;rintro e w4 ⟨rfl,HG⟩;go_wp2;exact HG.out
end
end
section
section
variable {w w':World} {B h:Nat} {O O':Nat->Option Whose} {m:Ya} {X:WB} {ml:List (Zb×Lv)} {nb hn:Nat->Nat} {n k:Nat} {ad:Nat->aI}
theorem NR (x:Je)(y:Zb):(x.aD y).2.length<=1:=by
 unfold Je.aD;split
 ·exact av _
 ·split
  ·exact av _
  ·unfold Je.cG;split
   ·exact an _
   ·split
    ·exact an _
    ·show(if _ then _ else _:List Zb).length<=1;split
     ·exact av _
     ·exact an _
theorem Je.iM (x:Je)(y:Zb):(x.aD y).1.name=x.name:=by
 unfold Je.aD;split
 ·rfl
 ·split
  ·rfl
  ·rename_i H D;have hn:=G0 D;unfold Je.cG;split
   ·exact hn
   ·split<;>exact hn
theorem SN (hp:Ye w B h O m X ml nb hn)(hi:i<m.nodes.length)(hL:Jn w x)(a6:∀b o,x.2.1=ab ⟨b,o,aa⟩->O b=ab .bD)(K:YF x.1)(hE:Yi ad w O):∀W,ae w.heap.size w W->af prog 72 #[.pointer (ab ⟨hn i,0,aa⟩),Z1 x.1 (fI x.2)] W fun e w'=>∃p c,e=.returned (.slice p ((Jc m.nodes i).1.aD x.1).2.length c)/\∃O1,Ye w' B h O1 {m with nodes:=m.nodes.set i (((Jc m.nodes i).1.aD x.1).1,(Jc m.nodes i).2)} X ml nb hn/\Qp c (fun b=>O1 b=ab .bD) w' p ((Jc m.nodes i).1.aD x.1).2/\Yd (fun k=>O k≠aa) (fun k=>O1 k≠aa) w w':=fun W U=>by
 have H:=hp.below U;obtain⟨mp,D,Z,Sh,a2⟩:=H.mem i hi;refine(VS a2 x (hL.below U) (fun b o e h'=>by have h':O b=ab (.mem i):=h';rw[a6 b o e]at h';cases h') ⟨⟨by have:=K.fr;omega,by have:=K.aP;omega,by have:=K.ki;omega,by have:=K.ke;omega⟩,by have:=K.bO;omega,fun v hv=>by have:=(K.cM v hv).2;omega⟩ K.cf (ad:=ad) (fun V hs J=>((hE.below U) V hs (fun k a3 a4=>J k a3 (fun e=>by have e:O k=ab (.mem i):=e;rw[a4]at e;cases e))).sv)).mono fun e w' hq=>?_
 obtain⟨p,c,S',e1,e2,e3,I⟩:=hq;have a5:∀k,S' k->k<w'.heap.size:=fun k J=>by
  obtain⟨_,_,_,_,hq⟩:=e3;exact(hq.aO k J).2
 have hT:=Qv.call (t:=.mem i) (fun e=>by cases e) H.aO H.base I a5;have a0:∀j,Jc (m.nodes.set i (((Jc m.nodes i).1.aD x.1).1,(Jc m.nodes i).2)) j=if j=i then(((Jc m.nodes i).1.aD x.1).1,(Jc m.nodes i).2)else Jc m.nodes j:=fun j=>uS hi _ j
 refine⟨p,c,e1,_,{H.toXJ.zZ (m':={m with nodes:=m.nodes.set i (((Jc m.nodes i).1.aD x.1).1,(Jc m.nodes i).2)}) hT hi rfl rfl rfl ⟨rfl,rfl,rfl⟩ zc (fun j hj=>(a0 j).trans (if_neg hj)) ?_ ?_ with blk:=?_,self:=?_,cV:=H.cV,dF:=H.dF,aW:=H.aW},e2.mono (fun b Z=>oK (fun k o e=>(H.aO k o e).2) Z.2.2 Z.1 Z.2.1),(Yd.aJ U).trans' (QM ⟨I.os,I.tape,I.output,I.size,fun k J h=>I.block k J (fun e=>h (aw e)),fun k J=>(I.new k J).imp (fun h=>aw h) id⟩ I.new)⟩
 ·show(Jc (m.nodes.set i _) i).1.name=_/\(Jc (m.nodes.set i _) i).2=_;rw[a0 i,if_pos rfl];exact⟨Je.iM _ _,rfl⟩
 ·show XE _ _ _ _ (Jc (m.nodes.set i (((Jc m.nodes i).1.aD x.1).1,(Jc m.nodes i).2)) i).1;rw[a0 i,if_pos rfl];have e:(fun k=>turnO O (.mem i) S' W.heap.size w'.heap.size k=ab (.mem i))=S':=funext fun k=>propext (ZU (fun e=>by cases e) k)
  rw[e];exact e3
 ·exact(I.block h H.lt (fun e=>by have e:O h=ab (.mem i):=e;rw[H.self]at e;cases e)).trans H.blk
 ·exact(hT.same .self h (fun e=>by cases e) (fun e=>by cases e)).2 H.self
end
end
section
section
variable {w w':World} {B h:Nat} {O O':Nat->Option Whose} {m:Ya} {X:WB} {ml:List (Zb×Lv)} {nb hn:Nat->Nat} {n k:Nat} {ad:Nat->aI}
theorem WQ (hp:Ye w B h O m X ml nb hn)(hz:WZ n k m)(hL:Jn w x)(a6:∀b o,x.2.1=ab ⟨b,o,aa⟩->O b=ab .bD)(hx:YF x.1)(hf:m.nodes.length<=1000)(hE:Yi ad w O):
 af prog 45 #[.pointer (ab ⟨h,0,aa⟩),Z1 x.1 (fI x.2)] w fun e w'=>e=.returned (.tuple #[])/\Yj w B h O (m.node x.1) nb hn w':=by
 have a5:=fun i hi=>SN (i:=i) hp hi hL a6 hx hE
 obtain⟨⟨H,D,I,J,K,U,Z,xL⟩,lp,ln,lc⟩:=x;obtain⟨w1,a3⟩:=Xb (w.alloc (.cells #[.string H,.string D,.string I,.string J,.int .i64 K,.int .i64 U,.bool Z,.slice lp ln lc] 81));have a2:=Zk a3;have a0:=JH a3;have a4:=wY (hp.below a2) D hf;have a7:Hid _:=a3;have c0:=(Xa a0 0).1;have c1:=(Xa a0 1).1;have c2:=(Xa a0 2).1;have c3:=(Xa a0 3).1;have c4:=(Xa a0 4).1;have c5:=(Xa a0 5).1;have c6:=(Xa a0 6).1;have c7:=(Xa a0 7).1;show af prog 45 #[.pointer (ab ⟨h,0,aa⟩),.agg #[.string H,.string D,.string I,.string J,.int .i64 K,.int .i64 U,.bool Z,.slice lp ln lc]] w _;by_cases hi:Qe m.nodes D<m.nodes.length
 ·rw[show J2 m nb D=.pointer (ab ⟨nb (Qe m.nodes D),0,aa⟩)from if_pos hi]at a4;have hk:=((hp.below a2).node _ hi).1;have d0:=(Xa hk 0).1;have d2:=(Xa hk 2).1;change w1.cell? ⟨nb (Qe m.nodes D),0,aa⟩=ab (.pointer (ab ⟨hn (Qe m.nodes D),0,aa⟩))at d0;change w1.cell? ⟨nb (Qe m.nodes D),2,aa⟩=ab (.bool (!(Jc m.nodes (Qe m.nodes D)).2))at d2;cases hu:(Jc m.nodes (Qe m.nodes D)).2 with
  |true =>
   rw[hu]at d2;have hM:m.node ⟨H,D,I,J,K,U,Z,xL⟩=Ya.send {m with nodes:=m.nodes.set (Qe m.nodes D) (((Jc m.nodes (Qe m.nodes D)).1.aD ⟨H,D,I,J,K,U,Z,xL⟩).1,(Jc m.nodes (Qe m.nodes D)).2)} ((Jc m.nodes (Qe m.nodes D)).1.aD ⟨H,D,I,J,K,U,Z,xL⟩).2:=by
    rw[hu];exact if_pos (show Qe m.nodes D<m.nodes.length/\(Jc m.nodes (Qe m.nodes D)).2=zi from⟨hi,hu⟩)
   have a9:Hid (af prog 72 #[.pointer (ab ⟨hn (Qe m.nodes D),0,aa⟩),.agg #[.string H,.string D,.string I,.string J,.int .i64 K,.int .i64 U,.bool Z,.slice lp ln lc]] w1.drew fun e w'=>∃p c,e=.returned (.slice p ((Jc m.nodes (Qe m.nodes D)).1.aD ⟨H,D,I,J,K,U,Z,xL⟩).2.length c)/\Hid (∃O1,Ye w' B h O1 {m with nodes:=m.nodes.set (Qe m.nodes D) (((Jc m.nodes (Qe m.nodes D)).1.aD ⟨H,D,I,J,K,U,Z,xL⟩).1,(Jc m.nodes (Qe m.nodes D)).2)} X ml nb hn/\Qp c (fun b=>O1 b=ab .bD) w' p ((Jc m.nodes (Qe m.nodes D)).1.aD ⟨H,D,I,J,K,U,Z,xL⟩).2/\Yd (fun k=>O k≠aa) (fun k=>O1 k≠aa) w w')):=(a5 _ hi w1.drew a2.drew).mono fun e w' hq=>hq
   have b0:Hid (∀W p c,Hid (∃O1,Ye W B h O1 {m with nodes:=m.nodes.set (Qe m.nodes D) (((Jc m.nodes (Qe m.nodes D)).1.aD ⟨H,D,I,J,K,U,Z,xL⟩).1,(Jc m.nodes (Qe m.nodes D)).2)} X ml nb hn/\Qp c (fun b=>O1 b=ab .bD) W p ((Jc m.nodes (Qe m.nodes D)).1.aD ⟨H,D,I,J,K,U,Z,xL⟩).2/\Yd (fun k=>O k≠aa) (fun k=>O1 k≠aa) w W)->af prog 36 #[.pointer (ab ⟨h,0,aa⟩),.slice p ((Jc m.nodes (Qe m.nodes D)).1.aD ⟨H,D,I,J,K,U,Z,xL⟩).2.length c] W fun e w'=>e=.returned (.tuple #[])/\Hid (Yj w B h O (m.node ⟨H,D,I,J,K,U,Z,xL⟩) nb hn w')):=fun W p c b1=>by
    obtain⟨O1,b2,b3,b4⟩:=b1.out;have d4:=NR (Jc m.nodes (Qe m.nodes D)).1 ⟨H,D,I,J,K,U,Z,xL⟩;refine(oS b2 hz.bO (by omega) b3).mono fun e w' hq=>?_
    obtain⟨e1,O6,v6,b5,b6,_,b7⟩:=hq;rw[hM];exact⟨e1,O6,_,b5,b6,b4.trans' b7⟩
   generalize Yj w B h O (m.node ⟨H,D,I,J,K,U,Z,xL⟩) nb hn=G at *;generalize ((Jc m.nodes (Qe m.nodes D)).1.aD ⟨H,D,I,J,K,U,Z,xL⟩).2.length=rl at *;generalize nb (Qe m.nodes D)=b8 at *;generalize hn (Qe m.nodes D)=c8 at *;clear hp hz hL a6 hx hf hE a5 a3 a2 a0 hi hk hu hM;go_enter func45,ntmps45;go_wp2_with (rw[<-a7.out])
   refine a4.mono ?_;rintro e w3 ⟨rfl,rfl⟩;go_wp2;go_region_law (first|(go_simp;go_at_call 72;refine a9.out.mono ?_;rintro e w5 ⟨p5,d5,rfl,d1⟩;go_simp)|(go_simp;go_at_call 36;refine(b0.out w5 p5 d5 d1).mono ?_;rintro e w6 ⟨rfl,d3⟩;go_simp))
   all_goals (go_wp2;go_end0;exact⟨rfl,d3.out⟩)
  |false =>
   rw[hu]at d2;have hM:m.node ⟨H,D,I,J,K,U,Z,xL⟩=m:=by
    unfold Ya.node;exact if_neg (fun h=>by have h2:=h.2;have h2:(Jc m.nodes (Qe m.nodes D)).2=true:=h2;rw[hu]at h2;cases h2)
   rw[hM];have HG:Hid (Yj w B h O m nb hn w1):=Yj.here hp a2;generalize Yj w B h O m nb hn=G at *;generalize nb (Qe m.nodes D)=b8 at *;generalize hn (Qe m.nodes D)=c8 at *;clear hp hz hL a6 hx hf hE a5 a3 a2 a0 hi hk hu hM;go_enter func45,ntmps45;go_wp2_with (rw[<-a7.out])
   refine a4.mono ?_;rintro e w3 ⟨rfl,rfl⟩;go_wp2
   go_end0
   exact⟨rfl,HG.out⟩
 ·rw[show J2 m nb D=.pointer aa from if_neg hi]at a4;have hM:m.node ⟨H,D,I,J,K,U,Z,xL⟩=m:=by
   unfold Ya.node;exact if_neg (fun h=>hi h.1)
  rw[hM];have HG:Hid (Yj w B h O m nb hn w1):=Yj.here hp a2;generalize Yj w B h O m nb hn=G at *;clear hp hz hL a6 hx hf hE a5 a3 a2 a0 hi hM;go_enter func45,ntmps45;go_wp2_with (rw[<-a7.out])
  refine a4.mono ?_;rintro e w3 ⟨rfl,rfl⟩;go_wp2
  go_end0
  exact⟨rfl,HG.out⟩
end
end
end Go.Proofs.YtflpelnbjekjbaaGreatDoor
