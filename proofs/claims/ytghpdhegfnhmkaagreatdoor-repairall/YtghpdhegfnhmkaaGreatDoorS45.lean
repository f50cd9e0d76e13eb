import Derived.Test.YtghpdhegfnhmkaaGreatDoorS41
import Derived.Test.YtghpdhegfnhmkaaGreatDoorS31
import Derived.Test.YtghpdhegfnhmkaaGreatDoorS43
namespace Go.Proofs.YtghpdhegfnhmkaaGreatDoor
open Go.RowKit
theorem nat_cell {w:World} {p:Option Addr} {M:List Nat} {j i:Nat} (h:Rec natE w p M) (hj:M[j]?=some i):∃ b o,p=some ⟨b,o,none⟩/\b < w.heap.size/\w.cell? ⟨b,o+j,none⟩=some (.int .i64 (i:Int)):=by
 rcases h with h | ⟨b,o,hq,hlt,hc⟩
 ·rw [h] at hj;simp at hj
 ·refine ⟨b,o,hq,hlt,?_⟩
  have:=hc j i hj 0 (.int .i64 (i:Int)) rfl
  rw [show o+j*natE.k+0=o+j by show o+j*1+0=o+j;omega] at this
  exact this
def mendT (F:Int×Nat×List (Option (List Kep))):Nat:=if F.1=0 then F.2.1 else 0
def mendOf (key:ByteArray) (c:Cfg) (Ks:List (Option (List Kep))):Int×Nat×List (Option (List Kep)):=mendF key (lookW c (tellL key Ks)) Ks (missF (lookW c (tellL key Ks)) (tellL key Ks))
def MdAt (w3:World) (B:Nat) (Kb:List (Option (List Kep))) (hp hm:Nat->Nat) (O:Nat->Option Nat) (S:Int×Nat×List (Option (List Kep))) (W:World):Prop:=∃ O',ShAt W B S.2.2 Kb hp hm O'/\Shf O O' w3 W
theorem mend_cell {w3 W:World} {O O':Nat->Option Nat} (h:Shf O O' w3 W) {b o:Nat} {v:Value} (hc:w3.cell? ⟨b,o,none⟩=some v) (hO:O b=none):W.cell? ⟨b,o,none⟩=some v :=
 (World.cell?_of_block (a:=⟨b,o,none⟩) (h.keepB (lt_of_cellE hc) hO).1).trans hc
theorem mend_round {ad:Nat->Addr} {w3:World} {B:Nat} {Ks Kb:List (Option (List Kep))} {hp hm:Nat->Nat} {O:Nat->Option Nat} {ph q1 q2:Option Addr} {key:ByteArray} {WL:List Ver} {M:List Nat} {F:Nat->Int×Nat×List (Option (List Kep))}
 (hk:key.size<=maxLen) (hB:B<=w3.heap.size) (hph:∀ b o,ph=some ⟨b,o,none⟩->O b=none) (hq1:∀ b o,q1=some ⟨b,o,none⟩->O b=none) (hq2:∀ b o,q2=some ⟨b,o,none⟩->O b=none)
 (hptr:Rec ptoE w3 ph (ptL hp Ks)) (hr1:Rec verE w3 q1 WL) (hr2:Rec natE w3 q2 M) (hEr:∀ O' W,Shf O O' w3 W->HErrs W ad)
 (hFS:∀ m i,M[m]?=some i->F (m+1)=mStep key WL (F m) i) (hFH:∀ m,(F m).2.2.length=Ks.length/\∀ j:Nat,((F m).2.2[j]?=some none↔Ks[j]?=some none)) (hTX:∀ i,i < WL.length->(verAt WL i).text.size<=maxLen)
 {j i:Nat} (hM:M[j]?=some i) (hi:i < WL.length) (hiK:i < Ks.length) (hz:(F j).1=0) {W:World} (hD:MdAt w3 B Kb hp hm O (F j) W) :
 ∃ bq oq bh oh x,q2=some ⟨bq,oq,none⟩/\W.cell? ⟨bq,oq+j,none⟩=some (.int .i64 (i:Int))/\ph=some ⟨bh,oh,none⟩/\W.cell? ⟨bh,oh+i,none⟩=some (.pointer x)/\(x=none->F (j+1)=F j) /\
  ∀ a,x=some a->∃ b1 o1,q1=some ⟨b1,o1,none⟩/\W.cell? ⟨b1,o1+i*5,none⟩=some (.int .i64 (verAt WL i).n)/\W.cell? ⟨b1,o1+i*5+1,none⟩=some (.int .i64 (verAt WL i).who)/\W.cell? ⟨b1,o1+i*5+2,none⟩=some (.int .i64 (verAt WL i).size)/\W.cell? ⟨b1,o1+i*5+3,none⟩=some (.int .i64 (verAt WL i).at_)/\W.cell? ⟨b1,o1+i*5+4,none⟩=some (.string (verAt WL i).text) /\
   ∀ W',Below W.heap.size W W'->Calls Tryz.prog 10 #[.pointer (some a),.string key,verA (verAt WL i)] W' fun e w4=>∃ ev,e=.returned ev/\BareIs ad ev (F (j+1)).1/\((F (j+1)).1=0->(F (j+1)).2.1=(F j).2.1+1)/\MdAt w3 B Kb hp hm O (F (j+1)) w4:=by
 obtain ⟨O1,hS,hU⟩:=hD
 obtain ⟨bq,oq,e1,_,c1⟩:=nat_cell hr2 hM
 obtain ⟨x0,hx0⟩:∃ x0,Ks[i]?=some x0:=⟨_,List.getElem?_eq_getElem hiK⟩
 obtain ⟨bh,oh,e2,_,c2⟩:=pto_cell hptr hx0
 obtain ⟨y,hy,hyx⟩:=ptL_shape (hp:=hp) (hFH j).1.symm (fun k=>((hFH j).2 k).symm) hx0
 refine ⟨bq,oq,bh,oh,_,e1,mend_cell hU c1 (hq2 _ _ e1),e2,mend_cell hU c2 (hph _ _ e2),fun hn=>?_,fun a ha=>?_⟩
 ·rw [hFS j i hM]
  cases y with
  | none=>exact mStep_none hz hy
  | some L=>cases x0 with
   | none=>simp at hyx
   | some L'=>simp at hn
 ·obtain ⟨b1,o1,e3,_,a0,a1,a2,a3,a4⟩:=ver_cells hr1 hi
  have hn1:=hq1 _ _ e3
  refine ⟨b1,o1,e3,mend_cell hU a0 hn1,mend_cell hU a1 hn1,mend_cell hU a2 hn1,mend_cell hU a3 hn1,mend_cell hU a4 hn1,fun W' hW'=>?_⟩
  cases x0 with
  | none=>simp at ha
  | some L'=>cases y with
   | none=>simp at hyx
   | some L =>
    obtain rfl:(⟨hp i,0,none⟩:Addr)=a:=by simpa using ha
    have hS':=hS.below hW'
    have hU':Shf O O1 w3 W':=hU.trans (Shf.of_below O1 hW')
    have hsz:B<=W'.heap.size:=Nat.le_trans hB hU'.size
    refine (put_any (hS'.own i L hy) key (verAt WL i) hk (hTX i hi) (hEr O1 W' hU')).mono fun e w4 hq=>?_
    obtain ⟨⟨ev,h1,h2⟩,S',h3,h4⟩:=hq
    obtain ⟨O2,g1,g2⟩:=hS'.put hsz hy h3 h4
    rw [hFS j i hM,mStep_some hz hy]
    refine ⟨ev,h1,h2,fun h=>by dsimp only at h ⊢;rw [if_pos h],O2,g1,hU'.trans g2⟩
set_option maxRecDepth 10000 in
set_option maxHeartbeats 4000000 in
theorem mend_any (ad:Nat->Addr) (z:Addr) (c:Cfg) (p:Option Addr) (cap:Nat) (key:ByteArray) (Ks Kb:List (Option (List Kep))) (hp hm:Nat->Nat) (O:Nat->Option Nat) (B:Nat) (ph:Option Addr) (ch:Nat) (w:World) (hk:key.size<=maxLen) (hI:LookIn w ad z c p cap Ks hp ph) (hS:ShAt w B Ks Kb hp hm O) (hB:B<=w.heap.size) (hph:∀ b o,ph=some ⟨b,o,none⟩->O b=none) (hEr:∀ O' W,Shf O O' w W->HErrs W ad) (he:¬ 0 < (lookE c Ks.length).1) :
 Calls Tryz.prog 14 #[cfgA c (.slice p c.L.length cap),.string key,.slice ph Ks.length ch] w fun e w'=>∃ ev O',e=.returned (.tuple #[.int .i64 ((mendT (mendOf key c Ks):Nat):Int),ev])/\BareIs ad ev (mendOf key c Ks).1/\ShAt w' B (mendOf key c Ks).2.2 Kb hp hm O'/\Shf O O' w w':=by
 obtain ⟨w0,hw0⟩:∃ w0,w0=w.alloc (.cells #[.int .i64 c.n,.int .i64 c.k,.slice p c.L.length cap] 24):=⟨_,rfl⟩
 have hb0:Below w.heap.size w w0:=by rw [hw0];exact (Below.refl _ _).alloc (Nat.le_refl _) _
 have hx0:CfgBox w0 w.heap.size c (.slice p c.L.length cap):=by rw [hw0];exact cfgBox_made w c _ _
 have h0:=hI.below hb0
 have HLK:=rplook_any ad c p cap key Ks hp ph ch w0 h0.cfg hk h0.ptr h0.own h0.errs z h0.zero
 have HW0:Hid (w0=w.alloc (.cells #[.int .i64 c.n,.int .i64 c.k,.slice p c.L.length cap] 24)):=hw0
 have HB0:Hid (Below w.heap.size w w0):=hb0
 have hz0:w.heap.size<=w0.heap.size:=hb0.size
 have hON:∀ b,w.heap.size<=b->O b=none:=fun b hb=>by
  cases e:O b with
  | none=>rfl
  | some j=>have:=(hS.dom b j e).2;omega
 have HPT:Hid (Rec ptoE w ph (ptL hp Ks)):=hI.ptr
 obtain ⟨F,hF⟩:∃ F:Nat->Int×Nat×List (Option (List Kep)),F=mendN key (lookW c (tellL key Ks)) Ks (missF (lookW c (tellL key Ks)) (tellL key Ks)):=⟨_,rfl⟩
 have HF0:Hid (F 0=(0,0,Ks)):=by show _=_;rw [hF];rfl
 have HFE:Hid (F (missF (lookW c (tellL key Ks)) (tellL key Ks)).length=mendOf key c Ks):=by show _=_;rw [hF];exact mendN_all
 have HFB:Hid (∀ m,(F m).1≠0->mendOf key c Ks=F m):=fun m h=>by rw [hF] at h ⊢;exact mendF_bad h
 have HFS:Hid (∀ m i,(missF (lookW c (tellL key Ks)) (tellL key Ks))[m]?=some i->F (m+1)=mStep key (lookW c (tellL key Ks)) (F m) i):=fun m i h=>by rw [hF];exact mendN_succ h
 have HFH:Hid (∀ m,(F m).2.2.length=Ks.length/\∀ j:Nat,((F m).2.2[j]?=some none↔Ks[j]?=some none)):=fun m=>by rw [hF];exact ⟨(mendN_shape m 0).1,fun j=>(mendN_shape m j).2⟩
 have HFD:Hid (∀ m,(F m).2.1<=m):=fun m=>by rw [hF];exact mendN_done
 have HLT:Hid (∀ m i,(missF (lookW c (tellL key Ks)) (tellL key Ks))[m]?=some i->i < (lookW c (tellL key Ks)).length):=fun m i h=>missF_lt (List.mem_of_getElem? h)
 have HTX:Hid (∀ i,i < (lookW c (tellL key Ks)).length->(verAt (lookW c (tellL key Ks)) i).text.size<=maxLen):=fun i hi=>by
  unfold lookW at hi ⊢
  by_cases he:0 < (lookE c (tellL key Ks).length).1
  ·rw [if_pos he] at hi;exact absurd hi (Nat.not_lt_zero _)
  ·rw [if_neg he] at hi ⊢
   rcases wholeF_cases c.n.toNat c.k.toNat (tellL key Ks) with h | ⟨_,h⟩
   ·rw [h] at hi;exact absurd hi (Nat.not_lt_zero _)
   ·rw [h] at hi ⊢
    rw [wholeL_length] at hi
    rw [wholeL_at hi]
    show (encT _ _ _).size<=maxLen
    rw [encT_size]
    have hk1:1<=c.k.toNat:=by
     by_cases hbad:0 < (cfgF c).1
     ·rw [lookE_bad hbad] at he;exact absurd hbad he
     ·have:=(cfgF_fine hbad).1;omega
    have h1:=wideN_le (size:=(bestF c.n.toNat c.k.toNat (tellL key Ks).flatten (tellL key Ks).flatten).2.1.size) hk1
    have h2:=bestF_size1 (n:=c.n.toNat) hk1 (tellL key Ks).flatten
    unfold maxLen
    omega
 have HWN:Hid (¬ 0 < (lookE c Ks.length).1->((lookW c (tellL key Ks)).length<=Ks.length/\Ks.length<=12)/\lookE c Ks.length=(0,-1)):=fun h=>by
  by_cases hb:0 < (cfgF c).1
  ·rw [lookE_bad hb] at h;exact absurd hb h
  by_cases hs:(Ks.length:Int)=c.n
  ·obtain ⟨g1,g2,g3,_⟩:=cfgF_fine hb
   refine ⟨?_,lookE_fine hb hs⟩
   rw [lookW_fine (by rw [tellL_length,lookE_fine hb hs];exact Int.lt_irrefl 0)]
   have:=wholeF_len c.n.toNat c.k.toNat (tellL key Ks)
   omega
  ·rw [lookE_shape hb hs] at h;exact absurd (by decide) h
 have HML:Hid ((missF (lookW c (tellL key Ks)) (tellL key Ks)).length<=(lookW c (tellL key Ks)).length):=missF_len _ _
 have f0:=hx0.f0
 have f1:=hx0.f1
 have f2:=hx0.f2
 clear hw0 hx0 h0 hI hF
 generalize mendOf key c Ks=MF at *
 generalize missF (lookW c (tellL key Ks)) (tellL key Ks)=M at *
 generalize lookW c (tellL key Ks)=WL at *
 generalize lookE c Ks.length=E at *
 have HSH:Hid (∀ W,Below w.heap.size w W->ShAt W B Ks Kb hp hm O/\Shf O O w W):=fun W hW=>⟨hS.below hW,Shf.of_below O hW⟩
 obtain ⟨hWN,hE0⟩:=HWN.out he
 have hml:=HML.out
 have hON2:∀ b,w0.heap.size<=b->O b=none:=fun b hb=>hON b (Nat.le_trans hz0 hb)
 have HRND:Hid (∀ w3 q1 q2,Below w0.heap.size w0 w3->Rec verE w3 q1 WL->Rec natE w3 q2 M->(∀ b o,q1=some ⟨b,o,none⟩->w0.heap.size<=b)->(∀ b o,q2=some ⟨b,o,none⟩->w0.heap.size<=b)->∀ (j i:Nat),M[j]?=some i->(F j).1=0->∀ W,MdAt w3 B Kb hp hm O (F j) W ->
  ∃ bq oq bh oh x,q2=some ⟨bq,oq,none⟩/\W.cell? ⟨bq,oq+j,none⟩=some (.int .i64 (i:Int))/\ph=some ⟨bh,oh,none⟩/\W.cell? ⟨bh,oh+i,none⟩=some (.pointer x)/\(x=none->F (j+1)=F j) /\
  ∀ a,x=some a->∃ b1 o1,q1=some ⟨b1,o1,none⟩/\W.cell? ⟨b1,o1+i*5,none⟩=some (.int .i64 (verAt WL i).n)/\W.cell? ⟨b1,o1+i*5+1,none⟩=some (.int .i64 (verAt WL i).who)/\W.cell? ⟨b1,o1+i*5+2,none⟩=some (.int .i64 (verAt WL i).size)/\W.cell? ⟨b1,o1+i*5+3,none⟩=some (.int .i64 (verAt WL i).at_)/\W.cell? ⟨b1,o1+i*5+4,none⟩=some (.string (verAt WL i).text) /\
   ∀ W',Below W.heap.size W W'->Calls Tryz.prog 10 #[.pointer (some a),.string key,verA (verAt WL i)] W' fun e w4=>∃ ev,e=.returned ev/\BareIs ad ev (F (j+1)).1/\((F (j+1)).1=0->(F (j+1)).2.1=(F j).2.1+1)/\MdAt w3 B Kb hp hm O (F (j+1)) w4):=fun w3 q1 q2 hb hr1 hr2 hq1 hq2 j i hM hz W hD=>by
  have hbw:=hb0.trans (hb.mono hz0)
  have hii:=HLT.out j i hM
  exact mend_round hk (Nat.le_trans hB hbw.size) hph (fun b o e=>hON2 b (hq1 b o e)) (fun b o e=>hON2 b (hq2 b o e)) (HPT.out.below hbw) hr1 hr2 (fun O' W h=>hEr O' W ((Shf.of_below O hbw).trans h)) HFS.out HFH.out HTX.out hM hii (by omega) hz hD
 have HST:Hid (∀ w3,Below w.heap.size w w3->MdAt w3 B Kb hp hm O (F 0) w3):=fun w3 hb=>by rw [HF0.out];exact ⟨O,(HSH.out w3 hb).1,Shf.of_below O (Below.refl _ _)⟩
 have HEND:Hid (∀ w3 W j ev,Below w.heap.size w w3->MdAt w3 B Kb hp hm O (F j) W->MF=F j->BareIs ad ev (F j).1->BareIs ad ev MF.1/\∃ O',ShAt W B MF.2.2 Kb hp hm O'/\Shf O O' w W):=fun w3 W j ev hb hD e hev=>by
  obtain ⟨O',g1,g2⟩:=hD
  exact ⟨by rw [e];exact hev,O',by rw [e];exact g1,(Shf.of_below O hb).trans g2⟩
 have HCEL:Hid (∀ w3 W j b v i,Below w.heap.size w w3->w.heap.size<=b->w3.cell? ⟨b,i,none⟩=some v->MdAt w3 B Kb hp hm O (F j) W->W.cell? ⟨b,i,none⟩=some v):=fun w3 W j b v i hb hge hc hD=>by
  obtain ⟨O',g1,g2⟩:=hD
  exact mend_cell g2 hc (hON b hge)
 have HTZ:Hid (MF.1=0->mendT MF=MF.2.1):=fun h=>if_pos h
 have HTN:Hid (MF.1≠0->mendT MF=0):=fun h=>if_neg h
 have HMI:Hid (∀ j,j < M.length->∃ i,M[j]?=some i/\i < WL.length):=fun j hj=>⟨_,List.getElem?_eq_getElem hj,HLT.out j _ (List.getElem?_eq_getElem hj)⟩
 have HWK:Hid (WL.length<=Ks.length/\Ks.length<=12):=hWN
 rw [hE0] at HLK
 clear he HWN HML HTX HLT HFH HFS HPT HSH hS hph hEr hON hON2 hB hb0 hE0 hWN
 obtain ⟨n,k,L⟩:=c
 unfold cfgA at *
 dsimp only at HLK HW0 f0 f1 f2 ⊢
 generalize Ks.length=m at *
 generalize mendT MF=T at *
 go_enter Tryz.func14,Tryz.ntmps14
 go_wp2_with fail
 rw [<- HW0.out]
 refine HLK.mono ?_
 rintro e w2 ⟨⟨ev,q1,d1,q2,d2,rfl,hr1,hr2,hq1,hq2,hev⟩,hb2⟩
 obtain rfl:=ErrIs.isNil hev
 obtain ⟨w3,hw3⟩:∃ w3,w3=w2.alloc (.cells #[.slice q1 WL.length d1,.slice q2 M.length d2] 86):=⟨_,rfl⟩
 have hb3:Below w2.heap.size w2 w3:=by rw [hw3];exact (Below.refl _ _).alloc (Nat.le_refl _) _
 have HW3:Hid (w3=w2.alloc (.cells #[.slice q1 WL.length d1,.slice q2 M.length d2] 86)):=hw3
 have g0:w3.cell? ⟨w2.heap.size,0,none⟩=some (.slice q1 WL.length d1):=by rw [hw3,World.cell?_alloc_at _ _ _ _ rfl];rfl
 have g1:w3.cell? ⟨w2.heap.size,1,none⟩=some (.slice q2 M.length d2):=by rw [hw3,World.cell?_alloc_at _ _ _ _ rfl];rfl
 have hb03:Below w0.heap.size w0 w3:=hb2.trans (hb3.mono hb2.size)
 have HB3:Hid (Below w.heap.size w w3):=HB0.out.trans (hb03.mono HB0.out.size)
 have HRD:=HRND.out w3 q1 q2 hb03 (hr1.below hb3) (hr2.below hb3) hq1 hq2
 have hge:w.heap.size<=w2.heap.size:=Nat.le_trans HB0.out.size hb2.size
 have HFC:Hid (∀ W j,MdAt w3 B Kb hp hm O (F j) W->W.cell? ⟨w2.heap.size,0,none⟩=some (.slice q1 WL.length d1)/\W.cell? ⟨w2.heap.size,1,none⟩=some (.slice q2 M.length d2)):=fun W j hD=>⟨HCEL.out w3 W j _ _ _ HB3.out hge g0 hD,HCEL.out w3 W j _ _ _ HB3.out hge g1 hD⟩
 have HST3:Hid (MdAt w3 B Kb hp hm O (F 0) w3):=HST.out w3 HB3.out
 have HRD:Hid (∀ (j i:Nat),M[j]?=some i->(F j).1=0->∀ W,MdAt w3 B Kb hp hm O (F j) W ->
  ∃ bq oq bh oh x,q2=some ⟨bq,oq,none⟩/\W.cell? ⟨bq,oq+j,none⟩=some (.int .i64 (i:Int))/\ph=some ⟨bh,oh,none⟩/\W.cell? ⟨bh,oh+i,none⟩=some (.pointer x)/\(x=none->F (j+1)=F j) /\
  ∀ a,x=some a->∃ b1 o1,q1=some ⟨b1,o1,none⟩/\W.cell? ⟨b1,o1+i*5,none⟩=some (.int .i64 (verAt WL i).n)/\W.cell? ⟨b1,o1+i*5+1,none⟩=some (.int .i64 (verAt WL i).who)/\W.cell? ⟨b1,o1+i*5+2,none⟩=some (.int .i64 (verAt WL i).size)/\W.cell? ⟨b1,o1+i*5+3,none⟩=some (.int .i64 (verAt WL i).at_)/\W.cell? ⟨b1,o1+i*5+4,none⟩=some (.string (verAt WL i).text) /\
   ∀ W',Below W.heap.size W W'->Calls Tryz.prog 10 #[.pointer (some a),.string key,verA (verAt WL i)] W' fun e w4=>∃ ev,e=.returned ev/\BareIs ad ev (F (j+1)).1/\((F (j+1)).1=0->(F (j+1)).2.1=(F j).2.1+1)/\MdAt w3 B Kb hp hm O (F (j+1)) w4):=HRD
 have HMF:Hid (F M.length=MF):=HFE.out
 have hz00:(F 0).1=0:=by rw [HF0.out]
 have hz01:(F 0).2.1=0:=by rw [HF0.out]
 have hw12:=HWK.out
 have hm12:M.length<=12:=by omega
 obtain ⟨D,hD⟩:∃ D:Nat->World->Prop,D=fun j W=>MdAt w3 B Kb hp hm O (F j) W:=⟨_,rfl⟩
 have HST4:Hid (D 0 w3):=by rw [hD];exact HST3.out
 have HEND:Hid (∀ W j ev,D j W->MF=F j->BareIs ad ev (F j).1->BareIs ad ev MF.1/\∃ O',ShAt W B MF.2.2 Kb hp hm O'/\Shf O O' w W):=fun W j ev h1 h2 h3=>by rw [hD] at h1;exact HEND.out w3 W j ev HB3.out h1 h2 h3
 have HFC:Hid (∀ W j,D j W->W.cell? ⟨w2.heap.size,0,none⟩=some (.slice q1 WL.length d1)/\W.cell? ⟨w2.heap.size,1,none⟩=some (.slice q2 M.length d2)):=fun W j h=>by rw [hD] at h;exact HFC.out W j h
 have HRD:Hid (∀ (j i:Nat),M[j]?=some i->(F j).1=0->∀ W,D j W ->
  ∃ bq oq bh oh x,q2=some ⟨bq,oq,none⟩/\W.cell? ⟨bq,oq+j,none⟩=some (.int .i64 (i:Int))/\ph=some ⟨bh,oh,none⟩/\W.cell? ⟨bh,oh+i,none⟩=some (.pointer x)/\(x=none->F (j+1)=F j/\D (j+1) W) /\
  ∀ a,x=some a->∃ b1 o1,q1=some ⟨b1,o1,none⟩/\W.cell? ⟨b1,o1+i*5,none⟩=some (.int .i64 (verAt WL i).n)/\W.cell? ⟨b1,o1+i*5+1,none⟩=some (.int .i64 (verAt WL i).who)/\W.cell? ⟨b1,o1+i*5+2,none⟩=some (.int .i64 (verAt WL i).size)/\W.cell? ⟨b1,o1+i*5+3,none⟩=some (.int .i64 (verAt WL i).at_)/\W.cell? ⟨b1,o1+i*5+4,none⟩=some (.string (verAt WL i).text) /\
   ∀ W',Below W.heap.size W W'->Calls Tryz.prog 10 #[.pointer (some a),.string key,verA (verAt WL i)] W' fun e w4=>∃ ev,e=.returned ev/\BareIs ad ev (F (j+1)).1/\((F (j+1)).1=0->(F (j+1)).2.1=(F j).2.1+1)/\D (j+1) w4):=fun j i h1 h2 W h3=>by
  rw [hD] at h3
  obtain ⟨bq,oq,bh,oh,x,r1,r2,r3,r4,r5,r6⟩:=HRD.out j i h1 h2 W h3
  exact ⟨bq,oq,bh,oh,x,r1,r2,r3,r4,fun e=>⟨r5 e,by rw [hD];show MdAt _ _ _ _ _ _ _ _;rw [r5 e];exact h3⟩,by rw [hD];exact r6⟩
 obtain ⟨E1,hE1⟩:∃ E1:Nat->Int,E1=fun j=>(F j).1:=⟨_,rfl⟩
 clear hb3 hw3 hb03 hge hr1 hr2 hq1 hq2 hev hb2 HST HRND HCEL HST3 HLK f0 f1 f2 HW0 HF0 HFE hD hE1 E1 HB0
 go_wp2_with (first | rw [<- HW3.out] | fail)
 clear g0 g1 HW3
 go_loopw [10,27] (fun y x wr=>∃ j:Nat,j<=M.length/\x=.int .i64 j/\y=.int .i64 ((F j).2.1:Nat)/\(F j).1=0/\D j wr) (fun _ x _=>M.length - (intOf x).toNat)
 case atStart=>exact ⟨0,Nat.zero_le _,rfl,by rw [hz01];rfl,hz00,HST4.out⟩
 case round =>
  obtain ⟨j,hj,rfl,rfl,hz,hDj⟩:=hrel
  obtain ⟨w5,rfl⟩:∃ w5,w5=wr:=⟨_,rfl⟩
  have HD:Hid (D j w5):=hDj
  have HZ:Hid ((F j).1=0):=hz
  have hdj:=HFD.out j
  obtain ⟨k0,k1⟩:=HFC.out w5 j hDj
  clear hDj hz HST4 hz00 hz01
  by_cases hjl:j < M.length
  ·obtain ⟨i,hMi,hiW⟩:=HMI.out j hjl
   obtain ⟨bq,oq,bh,oh,x,rfl,c1,rfl,c2,hx1,hx2⟩:=HRD.out j i hMi HZ.out w5 HD.out
   have hi12:i<=12:=by omega
   have him:i < m:=by omega
   cases x with
   | none =>
    have HX:Hid (F (j+1)=F j/\D (j+1) w5):=hx1 rfl
    clear hx1 hx2 hMi k0
    go_wp2
    go_roundw
    case rel=>exact ⟨j+1,by omega,by go_num,by rw [HX.out.1],by rw [HX.out.1];exact HZ.out,HX.out.2⟩
    case measure=>simp [intOf];omega
   | some a =>
    obtain ⟨b1,o1,rfl,a0,a1,a2,a3,a4,hcall⟩:=hx2 a rfl
    have HC:=hcall (w5.drewN 1) (below_drewN (Below.refl _ _) 1)
    clear hx1 hx2 hcall hMi
    generalize verAt WL i=v at *
    obtain ⟨vn,vw,vs,va,vt⟩:=v
    unfold verA at *
    dsimp only at a0 a1 a2 a3 a4 HC
    go_wp2
    refine wp_region_still_tail 10 (by kernel_rfl) (by kernel_rfl) ?_
    simp only [List.take_succ_cons,List.take_zero,List.drop_succ_cons,List.drop_zero]
    still_step
    still_step
    still_step
    still_step
    still_step
    still_step
    still_step
    still_step
    still_step
    still_step
    refine wpStill_nil ?_
    change wpList _ _ _ _ _ (w5.drewN 1)
    generalize w5.drewN 1=w6 at HC ⊢
    clear a0 a1 a2 a3 a4 c1 c2 k0 k1
    go_wp2_with fail
    refine HC.mono ?_
    rintro e w7 ⟨ev,rfl,hbare,hone,hD7⟩
    have HD7:Hid (D (j+1) w7):=hD7
    have HBR:Hid (BareIs ad ev (F (j+1)).1):=hbare
    have HONE:Hid ((F (j+1)).1=0->(F (j+1)).2.1=(F j).2.1+1):=hone
    clear HC hD7 hone
    rcases hbare with ⟨rfl,h0⟩ | ⟨i',hi',rfl,hc⟩
    ·have HZ1:Hid ((F (j+1)).1=0):=h0
     have HD1:Hid ((F (j+1)).2.1=(F j).2.1+1):=HONE.out h0
     clear h0
     go_wp2
     go_roundw
     case rel=>exact ⟨j+1,by omega,by go_num,by rw [HD1.out];go_num,HZ1.out,HD7.out⟩
     case measure=>simp [intOf];omega
    ·have hne:(F (j+1)).1≠0:=by rw [hc];omega
     have HMFE:Hid (MF=F (j+1)):=HFB.out (j+1) hne
     have HT0:Hid (T=0):=HTN.out (by rw [HMFE.out];exact hne)
     have HQ:=HEND.out w7 (j+1) _ HD7.out HMFE.out HBR.out
     have HQ':Hid (BareIs ad (.iface 218 (.pointer (some (ad i')))) MF.1/\∃ O',ShAt w7 B MF.2.2 Kb hp hm O'/\Shf O O' w w7):=HQ
     clear hc hne HQ
     go_wp2
     go_ret2
     obtain ⟨g1,O',g2,g3⟩:=HQ'.out
     first | exact ⟨_,O',by rw [HT0.out];rfl,g1,g2,g3⟩ | exact ⟨_,by rw [HT0.out];rfl,g1,O',g2,g3⟩
  ·have hje:j=M.length:=by omega
   have HMFE:Hid (MF=F j):=by show _=_;rw [hje];exact HMF.out.symm
   have HT0:Hid (T=(F j).2.1):=by show _=_;rw [<- HMFE.out];exact HTZ.out (by rw [HMFE.out];exact HZ.out)
   have HQ:=HEND.out w5 j .nilIface HD.out HMFE.out (Or.inl ⟨rfl,HZ.out⟩)
   have HQ':Hid (BareIs ad .nilIface MF.1/\∃ O',ShAt w5 B MF.2.2 Kb hp hm O'/\Shf O O' w w5):=HQ
   clear HQ k0 hje
   go_wp2
   go_ret2
   obtain ⟨g1,O',g2,g3⟩:=HQ'.out
   first | exact ⟨_,O',by rw [HT0.out];rfl,g1,g2,g3⟩ | exact ⟨_,by rw [HT0.out];rfl,g1,O',g2,g3⟩
end Go.Proofs.YtghpdhegfnhmkaaGreatDoor
