import Derived.Test.YtghpdhegfnhmkaaGreatDoorR48
import Derived.Test.YtghpdhegfnhmkaaGreatDoorR27
import Derived.Test.YtghpdhegfnhmkaaGreatDoorR6
import Derived.Deep.RegionHeld3
namespace Go.Proofs.YtghpdhegfnhmkaaGreatDoor
open Go.RowKit
set_option maxRecDepth 10000 in
set_option maxHeartbeats 16000000 in
theorem repairMends_any (ad:Nat->Addr) (c:Cfg) (p:Option Addr) (cap:Nat) (key:ByteArray) (l:List Shl) (pl:Option Addr) (cl:Nat) (w:World) (hC:TxsIn w c.L p cap) (hin:CfgIn c) (hkey:key.size<=maxLen) (hl:l.length<=8796093022206) (hx:∀ x ∈ l,x.L.length<=140737488355328/\∀ v ∈ x.L,v.text.size<=140737488355328) (hS:ShlsAt w pl l) (hE:∀ W,Below w.heap.size w W->Sent W ad) :
 Calls Tryz.prog 4 #[cfgA c (.slice p c.L.length cap),.string key,.slice pl l.length cl] w fun e w'=>e=.returned (.bool true)/\Below w.heap.size w w':=by
 obtain ⟨w1,hw1⟩:∃ w1,w1=w.alloc (.cells #[.int .i64 c.n,.int .i64 c.k,.slice p c.L.length cap] 24):=⟨_,rfl⟩
 have hb1:Below w.heap.size w w1:=by rw [hw1];exact (Below.refl _ _).alloc (Nat.le_refl _) _
 have hx1:CfgBox w1 w.heap.size c (.slice p c.L.length cap):=by rw [hw1];exact cfgBox_made w c _ _
 have HW1:Hid (w1=w.alloc (.cells #[.int .i64 c.n,.int .i64 c.k,.slice p c.L.length cap] 24)):=hw1
 have HB1:Hid (Below w.heap.size w w1):=hb1
 have hlt1:w.heap.size < w1.heap.size:=lt_of_cellE hx1.f0
 have HBOX:Hid (∀ W,Below w1.heap.size w1 W->W.cell? ⟨w.heap.size,0,none⟩=some (.int .i64 c.n)/\W.cell? ⟨w.heap.size,1,none⟩=some (.int .i64 c.k)/\W.cell? ⟨w.heap.size,2,none⟩=some (.slice p c.L.length cap)):=fun W hW=>by
  have h:=hx1.below hW
  exact ⟨h.f0,h.f1,h.f2⟩
 have HLO:Hid (∀ W,Below w1.heap.size w1 W->Below w.heap.size w W):=fun W hW=>hb1.trans (hW.mono hb1.size)
 have HMED:Hid (Calls Tryz.prog 5 #[] w1 fun e w'=>e=.returned (.bool true)/\Below w1.heap.size w1 w'):=mended_any ad (ad 11) w1 (hE w1 hb1).errsQ (hE w1 hb1).c11
 have HLT:Hid (∀ W,Below w1.heap.size w1 W->Calls Tryz.prog 6 #[.slice p c.L.length cap] W fun e w'=>e=.returned (.bool (lngT c.L))/\w'=W):=fun W hW=>wlongTexts_any c.L p cap W hC.len hC.size (hC.strs.below (HLO.out W hW))
 have HSF:Hid (∀ W,Below w1.heap.size w1 W->Calls Tryz.prog 15 #[.slice pl l.length cl] W fun e w'=>(∃ r,e=.returned (.bool r))/\Below W.heap.size W w'):=fun W hW=>shelvesFit_any pl l cl W (by omega) hx (hS.below (HLO.out W hW))
 have HSH:Hid (∀ W,Below w1.heap.size w1 W->Calls Tryz.prog 16 #[.slice pl l.length cl,.string key] W fun e w'=>(∃ hp hm O pa pb ca cb,e=.returned (.tuple #[.slice pa l.length ca,.slice pb l.length cb])/\StAt W w' (l.map (shlK key)) (l.map (shlK key)) (l.map (shlK key)) hp hm O pa pb ca cb)/\Below w1.heap.size w1 w'):=fun W hW=>(shelves_any ad pl l cl key W hkey hl hx (hS.below (HLO.out W hW)) (fun W2 h2=>(hE W2 ((HLO.out W hW).trans (h2.mono (HLO.out W hW).size))).herrsR)).mono fun e w' hq=>by
  obtain ⟨⟨va,vb,hp,hm,O,h1,h2⟩,h3⟩:=hq
  obtain ⟨pa,ca,ha,_⟩:=h2.ra.form
  obtain ⟨pb,cb,hb,_⟩:=h2.rb.form
  rw [ptL_length,List.length_map] at ha hb
  refine ⟨⟨hp,hm,O,pa,pb,ca,cb,by rw [h1,ha,hb],?_,h3⟩,hW.trans (h3.mono hW.size)⟩
  rw [List.length_map,<- ha,<- hb]
  exact h2
 have HKL:Hid ((l.map (shlK key)).length=l.length):=List.length_map _
 have HEB:Hid (∀ W,Below w1.heap.size w1 W->Sent W ad):=fun W hW=>hE W (HLO.out W hW)
 have HCB:Hid (∀ W,Below w1.heap.size w1 W->TxsIn W c.L p cap):=fun W hW=>⟨hC.strs.below (HLO.out W hW),hC.room,hC.empty,hC.len,hC.size⟩
 have HCI:Hid (CfgIn c):=hin
 have HKY:Hid (key.size<=maxLen):=hkey
 have hcn:=hin.1
 have hck:=hin.2
 clear hw1 hb1 hx1 hE hx hS hC hin hkey
 generalize l.map (shlK key)=Ks at *
 generalize hln:l.length=n at *
 have hnl:n<=8796093022206:=hl
 clear hln hl l
 have HOC:Hid (∀ wB W Ka Kb hp hm O pa pb ca cb,Below w1.heap.size w1 wB->lngT c.L=false->StAt wB W Ks Ka Kb hp hm O pa pb ca cb->Calls Tryz.prog 12 #[cfgA c (.slice p c.L.length cap)] W fun e w'=>(∃ q d,e=.returned (cfgA c (.slice q c.L.length d))/\CfgAt w' c q d)/\StAt wB w' Ks Ka Kb hp hm O pa pb ca cb/\Below W.heap.size W w'):=fun wB W Ka Kb hp hm O pa pb ca cb hB hlt hst=>st_own hst (HCB.out wB hB) HCI.out (lngT_fine hlt).1 (lngT_fine hlt).2
 have HMS:Hid (∀ wB W hp hm O pa pb ca cb q d,Below w1.heap.size w1 wB->StAt wB W Ks Ks Ks hp hm O pa pb ca cb->CfgAt W c q d->Calls Tryz.prog 17 #[cfgA c (.slice q c.L.length d),.string key,.slice pa n ca] W fun e w'=>(∃ ev q2 d2,e=.returned (.tuple #[.slice q2 (missF (lookW c (tellL key Ks)) (tellL key Ks)).length d2,ev])/\Rec natE w' q2 (missF (lookW c (tellL key Ks)) (tellL key Ks))/\ErrIs w' ad ev (lookE c Ks.length).1 (lookE c Ks.length).2)/\StAt wB w' Ks Ks Ks hp hm O pa pb ca cb/\Below W.heap.size W w'):=fun wB W hp hm O pa pb ca cb q d hB hst hc=>by
  have h:=missing_any ad (ad 11) c q d key Ks hp pa ca W HKY.out (hst.look hc (HEB.out W (hB.trans (hst.low.mono hB.size))))
  rw [HKL.out] at h ⊢
  refine h.mono fun e w' hq=>?_
  obtain ⟨⟨ev,q2,d2,h1,h2,h3⟩,h4⟩:=hq
  exact ⟨⟨ev,q2,d2,h1,h2,h3⟩,hst.below h4,h4⟩
 have HSD:Hid (∀ wB W hp hm O pa pb ca cb q d,Below w1.heap.size w1 wB->StAt wB W Ks Ks Ks hp hm O pa pb ca cb->CfgAt W c q d->Calls Tryz.prog 11 #[cfgA c (.slice q c.L.length d),.string key,.slice pa n ca] W fun e w'=>(∃ ev,e=.returned (.tuple #[.int .i64 (standT c Ks.length (lookW c (tellL key Ks)) (missF (lookW c (tellL key Ks)) (tellL key Ks))),ev])/\ErrIs w' ad ev (standE c Ks.length (lookW c (tellL key Ks))).1 (standE c Ks.length (lookW c (tellL key Ks))).2/\(¬ 0 < (lookE c Ks.length).1->BareIs ad ev (standE c Ks.length (lookW c (tellL key Ks))).1))/\StAt wB w' Ks Ks Ks hp hm O pa pb ca cb/\Below W.heap.size W w'):=fun wB W hp hm O pa pb ca cb q d hB hst hc=>by
  have h:=stand_any ad (ad 11) c q d key Ks hp pa ca W HKY.out (hst.look hc (HEB.out W (hB.trans (hst.low.mono hB.size))))
  rw [HKL.out] at h ⊢
  exact h.mono fun e w' hq=>⟨hq.1,hst.below hq.2,hq.2⟩
 have HCF:Hid (∀ wB W,Below w1.heap.size w1 wB->lngT c.L=false->Below wB.heap.size wB W->Calls Tryz.prog 8 #[cfgA c (.slice p c.L.length cap)] W fun e w'=>e=.returned (.agg #[.int .i64 (cfgF c).1,.int .i64 (cfgF c).2])/\Below W.heap.size W w'):=fun wB W hB hlt hW=>by
  have h:=HCB.out W (hB.trans (hW.mono hB.size))
  have h30:=(lngT_fine hlt).1
  exact rcfg_any c p cap W ⟨h.strs,h.room,h.empty,by omega,fun x hx=>by have:=(lngT_fine hlt).2 x hx;omega,HCI.out⟩
 have HFD:Hid (∀ W ev x y,Below w1.heap.size w1 W->ErrIs W ad ev x y->Calls Tryz.prog 19 #[ev,.agg #[.int .i64 x,.int .i64 y]] W fun e w'=>e=.returned (.bool true)/\Below W.heap.size W w'):=fun W ev x y hW he=>faulted3_any ad ev x y W (HEB.out W hW) he
 have HCO:Hid (∀ W ev x,Below w1.heap.size w1 W->BareIs ad ev x->Calls Tryz.prog 13 #[ev,.int .i64 x] W fun e w'=>e=.returned (.bool true)/\Below W.heap.size W w'):=fun W ev x hW he=>coded3_any he W (HEB.out W hW)
 have HMB:Hid (∀ wB W hp hm O pa pb ca cb q d,Below w1.heap.size w1 wB->StAt wB W Ks Ks Ks hp hm O pa pb ca cb->CfgAt W c q d->0 < (lookE c Ks.length).1->Calls Tryz.prog 14 #[cfgA c (.slice q c.L.length d),.string key,.slice pa n ca] W fun e w'=>(∃ ev,e=.returned (.tuple #[.int .i64 0,ev])/\ErrIs w' ad ev (lookE c Ks.length).1 (lookE c Ks.length).2)/\Below W.heap.size W w'):=fun wB W hp hm O pa pb ca cb q d hB hst hc he=>by
  have h:=mend_bad ad (ad 11) c q d key Ks hp pa ca W HKY.out (hst.look hc (HEB.out W (hB.trans (hst.low.mono hB.size)))) he
  rw [HKL.out] at h he ⊢
  exact h
 have HME:Hid (∀ wB W Kb hp hm O pa pb ca cb q d,Below w1.heap.size w1 wB->StAt wB W Ks Ks Kb hp hm O pa pb ca cb->CfgAt W c q d->¬ 0 < (lookE c Ks.length).1->Calls Tryz.prog 14 #[cfgA c (.slice q c.L.length d),.string key,.slice pa n ca] W fun e w'=>∃ ev,e=.returned (.tuple #[.int .i64 ((mendT (mendOf key c Ks):Nat):Int),ev])/\BareIs ad ev (mendOf key c Ks).1/\∃ O',StAt wB w' Ks (mendOf key c Ks).2.2 Kb hp hm O' pa pb ca cb):=fun wB W Kb hp hm O pa pb ca cb q d hB hst hc he=>by
  have h:=st_mend HKY.out hst hc (fun W2 hW2=>HEB.out W2 (hB.trans (hW2.mono hB.size))) he
  rw [HKL.out] at h
  exact h
 have HLK:Hid (∀ wB W hp hm O pa pb ca cb,StAt wB W Ks Ks Ks hp hm O pa pb ca cb->¬ 0 < (lookE c Ks.length).1->Calls Tryz.prog 20 #[cfgA c (.slice p c.L.length cap),.string key,.slice pb n cb] W fun e w'=>(∃ q1 d1 q2 d2,e=.returned (.tuple #[.slice q1 (lookW c (tellL key Ks)).length d1,.slice q2 (missF (lookW c (tellL key Ks)) (tellL key Ks)).length d2])/\Rec verE w' q1 (lookW c (tellL key Ks))/\Rec natE w' q2 (missF (lookW c (tellL key Ks)) (tellL key Ks))/\(∀ b o,q1=some ⟨b,o,none⟩->O b=none)/\∀ b o,q2=some ⟨b,o,none⟩->O b=none)/\StAt wB w' Ks Ks Ks hp hm O pa pb ca cb/\Below W.heap.size W w'):=fun wB W hp hm O pa pb ca cb hst he=>by
  have hbad:¬ 0 < (cfgF c).1:=fun h=>he (by rw [lookE_bad h];exact h)
  have hln:(Ks.length:Int)=c.n:=by
   by_cases h:(Ks.length:Int)=c.n
   ·exact h
   ·exact absurd (by rw [lookE_shape hbad h];decide) he
  obtain ⟨hfit,_⟩:=cfgF_fine hbad
  have h:=rlack_any c.n.toNat c.k.toNat p c.L.length cap key Ks hm pb cb W (by omega) (by omega) (by omega) (by omega) (goodK_of fun i L hi=>⟨_,hst.sv.sh.own i L hi⟩) hst.recB.1 (fun i L hi=>(hst.sv.sh.model i L hi).1)
  rw [lookW_fine (by rw [tellL_length];exact he)]
  unfold cfgA
  rw [show ((c.n.toNat:Nat):Int)=c.n by omega,show ((c.k.toNat:Nat):Int)=c.k by omega,HKL.out] at h
  refine h.mono fun e w' hq=>?_
  obtain ⟨⟨q1,d1,q2,d2,h1,h2,h3,h4,h5⟩,h6⟩:=hq
  exact ⟨⟨q1,d1,q2,d2,h1,h2,h3,fun b o e=>hst.sv.sh.free (h4 b o e),fun b o e=>hst.sv.sh.free (h5 b o e)⟩,hst.below h6,h6⟩
 obtain ⟨F,hF⟩:∃ F:Nat->Int×Nat×List (Option (List Kep)),F=mendN key (lookW c (tellL key Ks)) Ks (missF (lookW c (tellL key Ks)) (tellL key Ks)):=⟨_,rfl⟩
 have HF0:Hid (F 0=(0,0,Ks)):=by show _=_;rw [hF];rfl
 have HFE:Hid (F (missF (lookW c (tellL key Ks)) (tellL key Ks)).length=mendOf key c Ks):=by show _=_;rw [hF];exact mendN_all
 have HFB:Hid (∀ m,(F m).1≠0->mendOf key c Ks=F m):=fun m h=>by rw [hF] at h ⊢;exact mendF_bad h
 have HFN:Hid (∀ m,0<=(F m).1):=fun m=>by rw [hF];exact mendN_nonneg m
 have HFDN:Hid (∀ m,(F m).2.1<=m):=fun m=>by rw [hF];exact mendN_done
 have HPB:Hid (0 < (lookE c Ks.length).1->lookW c (tellL key Ks)=[]/\missF (lookW c (tellL key Ks)) (tellL key Ks)=[]/\standE c Ks.length (lookW c (tellL key Ks))=lookE c Ks.length/\standT c Ks.length (lookW c (tellL key Ks)) (missF (lookW c (tellL key Ks)) (tellL key Ks))=0):=fun h=>by
  have h1:lookW c (tellL key Ks)=[]:=lookW_bad (by rw [tellL_length];exact h)
  rw [h1]
  have h2:standE c Ks.length []=lookE c Ks.length:=if_pos h
  refine ⟨rfl,rfl,h2,?_⟩
  unfold standT
  rw [h2,if_pos h]
 have HPG:Hid (¬ 0 < (lookE c Ks.length).1->(1<=c.k/\c.k<=c.n/\c.n<=12)/\(n:Int)=c.n/\(lookW c (tellL key Ks)).length<=n/\(missF (lookW c (tellL key Ks)) (tellL key Ks)).length<=(lookW c (tellL key Ks)).length/\(lookW c (tellL key Ks)=[]->missF (lookW c (tellL key Ks)) (tellL key Ks)=[]/\standE c Ks.length (lookW c (tellL key Ks))=(5,-1)/\standT c Ks.length (lookW c (tellL key Ks)) (missF (lookW c (tellL key Ks)) (tellL key Ks))=0/\mendOf key c Ks=(0,0,Ks))/\(lookW c (tellL key Ks)≠[]->standE c Ks.length (lookW c (tellL key Ks))=(0,-1)/\standT c Ks.length (lookW c (tellL key Ks)) (missF (lookW c (tellL key Ks)) (tellL key Ks))=max 0 (c.n - ((missF (lookW c (tellL key Ks)) (tellL key Ks)).length:Int) - c.k))):=fun he=>by
  have hbad:¬ 0 < (cfgF c).1:=fun h=>he (by rw [lookE_bad h];exact h)
  have hln:(Ks.length:Int)=c.n:=by
   by_cases h:(Ks.length:Int)=c.n
   ·exact h
   ·exact absurd (by rw [lookE_shape hbad h];decide) he
  obtain ⟨hfit,_⟩:=cfgF_fine hbad
  have hwl:=wholeF_len c.n.toNat c.k.toNat (tellL key Ks)
  have hw:=lookW_fine (c:=c) (LL:=tellL key Ks) (by rw [tellL_length];exact he)
  refine ⟨hfit,by rw [<- HKL.out];exact hln,by rw [hw];have:=HKL.out;omega,missF_len _ _,fun h=>?_,fun h=>?_⟩
  ·have h2:standE c Ks.length (lookW c (tellL key Ks))=(5,-1):=by unfold standE;rw [if_neg he,if_pos h]
   refine ⟨by rw [h];rfl,h2,by unfold standT;rw [h2,if_pos (by decide)],by unfold mendOf;rw [h];rfl⟩
  ·have h2:standE c Ks.length (lookW c (tellL key Ks))=(0,-1):=by unfold standE;rw [if_neg he,if_neg h]
   exact ⟨h2,by unfold standT;rw [h2,if_neg (by decide)];rfl⟩
 have HEC1:Hid (0 < (cfgF c).1->lookE c Ks.length=cfgF c):=fun h=>lookE_bad h
 have HEC2:Hid (¬ 0 < (cfgF c).1->cfgF c=(0,-1)/\((n:Int)=c.n->lookE c Ks.length=(0,-1))/\(¬ (n:Int)=c.n->lookE c Ks.length=(3,-1))):=fun h=>⟨(cfgF_fine h).2.2.1,fun h2=>lookE_fine h (by rw [HKL.out];exact h2),fun h2=>lookE_shape h (by rw [HKL.out];exact h2)⟩
 have HRND:Hid (∀ wB w3 hp hm O pa pb ca cb q1 q2,¬ 0 < (lookE c Ks.length).1->StAt wB w3 Ks Ks Ks hp hm O pa pb ca cb->(∀ b o,q1=some ⟨b,o,none⟩->O b=none)->(∀ b o,q2=some ⟨b,o,none⟩->O b=none)->Rec verE w3 q1 (lookW c (tellL key Ks))->Rec natE w3 q2 (missF (lookW c (tellL key Ks)) (tellL key Ks)) ->
  ∀ (j i:Nat),(missF (lookW c (tellL key Ks)) (tellL key Ks))[j]?=some i->(F j).1=0->∀ W,MmAt wB w3 Ks hp hm O pa pb ca cb (F j) W ->
  ∃ bq oq bh oh x,q2=some ⟨bq,oq,none⟩/\W.cell? ⟨bq,oq+j,none⟩=some (.int .i64 (i:Int))/\pb=some ⟨bh,oh,none⟩/\W.cell? ⟨bh,oh+i,none⟩=some (.pointer x)/\(x=none->F (j+1)=F j) /\
  ∀ a,x=some a->∃ b1 o1,q1=some ⟨b1,o1,none⟩/\W.cell? ⟨b1,o1+i*5,none⟩=some (.int .i64 (verAt (lookW c (tellL key Ks)) i).n)/\W.cell? ⟨b1,o1+i*5+1,none⟩=some (.int .i64 (verAt (lookW c (tellL key Ks)) i).who)/\W.cell? ⟨b1,o1+i*5+2,none⟩=some (.int .i64 (verAt (lookW c (tellL key Ks)) i).size)/\W.cell? ⟨b1,o1+i*5+3,none⟩=some (.int .i64 (verAt (lookW c (tellL key Ks)) i).at_)/\W.cell? ⟨b1,o1+i*5+4,none⟩=some (.string (verAt (lookW c (tellL key Ks)) i).text) /\
   Calls Tryz.prog 22 #[.pointer (some a),.string key,.agg #[.int .i64 (verAt (lookW c (tellL key Ks)) i).n,.int .i64 (verAt (lookW c (tellL key Ks)) i).who,.int .i64 (verAt (lookW c (tellL key Ks)) i).size,.int .i64 (verAt (lookW c (tellL key Ks)) i).at_,.string (verAt (lookW c (tellL key Ks)) i).text]] W fun e w4=>e=.returned (.int .i64 (F (j+1)).1)/\((F (j+1)).1=0->(F (j+1)).2.1=(F j).2.1+1)/\((F (j+1)).1≠0->(F (j+1)).2.1=(F j).2.1)/\MmAt wB w3 Ks hp hm O pa pb ca cb (F (j+1)) w4):=fun wB w3 hp hm O pa pb ca cb q1 q2 he hst hq1 hq2 hr1 hr2 j i hM hz W hD=>by
  have hg:GoodK Ks:=goodK_of fun i L hi=>⟨_,hst.sv.sh.own i L hi⟩
  obtain ⟨hfit,hnn,g1,g2,_⟩:=HPG.out he
  have hii:=missF_lt (List.mem_of_getElem? hM)
  refine mmend_round hst hq1 hq2 hr1 hr2 (fun m i h=>by rw [hF];exact mendN_succ h) (fun m=>by rw [hF];exact ⟨(mendN_shape m 0).1,fun j=>(mendN_shape m j).2⟩) (fun i hi=>?_) (fun m L hL=>by rw [hF] at hL;have:=mendN_len hg m L hL;omega) hM hii (by rw [HKL.out];omega) hz hD
  have hw:=lookW_fine (c:=c) (LL:=tellL key Ks) (by rw [tellL_length];exact he)
  rw [hw] at hi ⊢
  rcases wholeF_cases c.n.toNat c.k.toNat (tellL key Ks) with h | ⟨_,h⟩
  ·rw [h] at hi;exact absurd hi (Nat.not_lt_zero _)
  ·rw [h] at hi ⊢
   rw [wholeL_length] at hi
   rw [wholeL_at hi]
   show (encT _ _ _).size<=maxLen
   rw [encT_size]
   have hk1:1<=c.k.toNat:=by omega
   have h1:=wideN_le (size:=(bestF c.n.toNat c.k.toNat (tellL key Ks).flatten (tellL key Ks).flatten).2.1.size) hk1
   have h2:=bestF_size1 (n:=c.n.toNat) hk1 (tellL key Ks).flatten
   unfold maxLen
   omega
 have HMI:Hid (∀ j,j < (missF (lookW c (tellL key Ks)) (tellL key Ks)).length->∃ i,(missF (lookW c (tellL key Ks)) (tellL key Ks))[j]?=some i/\i < (lookW c (tellL key Ks)).length):=fun j hj=>⟨_,List.getElem?_eq_getElem hj,missF_lt (List.getElem_mem hj)⟩
 have HSI:Hid (∀ W pa pb ca cb,(missF (lookW c (tellL key Ks)) (tellL key Ks)).length<=1000->Rec natE W pa (missF (lookW c (tellL key Ks)) (tellL key Ks))->Rec natE W pb (missF (lookW c (tellL key Ks)) (tellL key Ks))->Calls Tryz.prog 21 #[.slice pa (missF (lookW c (tellL key Ks)) (tellL key Ks)).length ca,.slice pb (missF (lookW c (tellL key Ks)) (tellL key Ks)).length cb] W fun e w'=>e=.returned (.bool true)/\Below W.heap.size W w'):=fun W pa pb ca cb hl h1 h2=>rsameInts_eq pa pb _ ca cb W (by omega) h1 h2
 have HTZ:Hid ((mendOf key c Ks).1=0->mendT (mendOf key c Ks)=(mendOf key c Ks).2.1):=fun h=>if_pos h
 have HTN:Hid ((mendOf key c Ks).1≠0->mendT (mendOf key c Ks)=0):=fun h=>if_neg h
 have HKF:Hid ((mendOf key c Ks).2.2.length=Ks.length/\∀ j:Nat,((mendOf key c Ks).2.2[j]?=some none↔Ks[j]?=some none)):=by
  show _/\_
  rw [<- HFE.out,hF]
  exact ⟨(mendN_shape _ 0).1,fun j=>(mendN_shape _ j).2⟩
 have HGT:Hid (∀ wB W hp hm O pa pb ca cb,StAt wB W Ks (mendOf key c Ks).2.2 (mendOf key c Ks).2.2 hp hm O pa pb ca cb->∀ j:Nat,j < n->∃ ba oa bb ob,pa=some ⟨ba,oa,none⟩/\pb=some ⟨bb,ob,none⟩/\ba < W.heap.size/\bb < W.heap.size/\(W.cell? ⟨ba,oa+j,none⟩=some (.pointer none)∨∃ a b R,W.cell? ⟨ba,oa+j,none⟩=some (.pointer (some a))/\W.cell? ⟨bb,ob+j,none⟩=some (.pointer (some b))/\(R:List Ver).length<=1000 /\
  (∀ W',Below W.heap.size W W'->Calls Tryz.prog 24 #[.pointer (some a),.string key] W' fun e w'=>(∃ p c,e=.returned (.slice p R.length c)/\Rec verE w' p R)/\Below W'.heap.size W' w') /\
  (∀ W',Below W.heap.size W W'->Calls Tryz.prog 25 #[.pointer (some b),.string key] W' fun e w'=>(∃ p c,e=.returned (.slice p R.length c)/\Rec verE w' p R)/\Below W'.heap.size W' w'))):=fun wB W hp hm O pa pb ca cb hst j hj=>by
  obtain ⟨x0,hx0⟩:∃ x0,Ks[j]?=some x0:=⟨_,List.getElem?_eq_getElem (by rw [HKL.out];exact hj)⟩
  obtain ⟨ba,oa,e1,l1,c1⟩:=pto_cell hst.recA.1 hx0
  obtain ⟨bb,ob,e2,l2,c2⟩:=pto_cell hst.recB.1 hx0
  obtain ⟨y,hy,hyx⟩:=ptL_shape (hp:=hp) HKF.out.1.symm (fun k=>(HKF.out.2 k).symm) hx0
  refine ⟨ba,oa,bb,ob,e1,e2,l1,l2,?_⟩
  cases x0 with
  | none=>exact Or.inl c1
  | some L0=>cases y with
   | none=>simp at hyx
   | some L =>
    obtain ⟨m,D,row,blk,hd⟩:=hst.sv.sh.own j L hy
    have hfew:=hd.few
    refine Or.inr ⟨_,_,getL L key,c1,c2,by have:=getL_le L key;omega,fun W' hW'=>get_any (hd.below hW') key HKY.out,fun W' hW'=>(rget_any (hm j) L false key W' (by omega) ((hst.sv.sh.model j L hy).1.below hW')).mono fun e w' hq=>?_⟩
    obtain ⟨⟨v,h1,h2⟩,h3⟩:=hq
    obtain ⟨q,d,hv,hr,_⟩:=h2.form
    exact ⟨⟨q,d,by rw [h1,hv],hr⟩,h3⟩
 have HSV:Hid (∀ W pa pb ca cb (R:List Ver),R.length<=1000->Rec verE W pa R->Rec verE W pb R->Calls Tryz.prog 23 #[.slice pa R.length ca,.slice pb R.length cb] W fun e w'=>e=.returned (.bool true)/\Below W.heap.size W w'):=fun W pa pb ca cb R hl h1 h2=>by
  have h:=sameVers_any pa pb R R ca cb W (by omega) h1 h2
  rw [decide_eq_true rfl] at h
  exact h
 clear hF
 generalize mendT (mendOf key c Ks)=T at *
 generalize mendOf key c Ks=MF at *
 generalize standT c Ks.length (lookW c (tellL key Ks)) (missF (lookW c (tellL key Ks)) (tellL key Ks))=ST at *
 generalize standE c Ks.length (lookW c (tellL key Ks))=SE at *
 generalize missF (lookW c (tellL key Ks)) (tellL key Ks)=M at *
 generalize lookW c (tellL key Ks)=WL at *
 generalize lookE c Ks.length=E at *
 generalize cfgF c=CF at *
 have HKN:Hid (Ks.length=n):=HKL.out
 clear HKL
 obtain ⟨cn,ck,CL⟩:=c
 unfold cfgA at *
 dsimp only at *
 go_enter Tryz.func4,Tryz.ntmps4
 go_wp2_with fail
 rw [<- HW1.out]
 refine HMED.out.mono ?_
 rintro e w2 ⟨rfl,hb2⟩
 have HB2:Hid (Below w1.heap.size w1 w2):=hb2
 have HBW2:Hid (Below w.heap.size w w2):=HLO.out w2 hb2
 obtain ⟨f0,f1,f2⟩:=HBOX.out w2 hb2
 have HL2:=HLT.out w2 hb2
 clear hb2 HMED HW1 HLT
 go_wp2_with fail
 refine HL2.mono ?_
 rintro e w2' ⟨rfl,hww⟩
 rw [hww]
 clear hww w2' HL2
 cases hlt:lngT CL with
 | true =>
  go_wp2
  go_ret
  exact ⟨rfl,HBW2.out⟩
 | false =>
  have HLG:Hid (lngT CL=false):=hlt
  clear hlt
  by_cases hk100:100 < key.size
  ·go_wp2
   go_ret
   exact ⟨rfl,HBW2.out⟩
  ·have HSF2:=HSF.out w2 HB2.out
   clear HSF
   go_wp2_with fail
   refine HSF2.mono ?_
   rintro e w3 ⟨⟨r,rfl⟩,hb3⟩
   have HB3:Hid (Below w1.heap.size w1 w3):=HB2.out.trans (hb3.mono HB2.out.size)
   have HBW3:Hid (Below w.heap.size w w3):=HLO.out w3 HB3.out
   clear hb3 HSF2 f0 f1 f2 HB2 HBW2
   cases r with
   | false =>
    go_wp2
    go_ret
    exact ⟨rfl,HBW3.out⟩
   | true =>
    have HSH3:=HSH.out w3 HB3.out
    clear HSH
    go_wp2_with fail
    refine HSH3.mono ?_
    rintro e w4 ⟨⟨hp,hm,O,pa,pb,ca,cb,rfl,hst⟩,hb4⟩
    have HST4:Hid (StAt w3 w4 Ks Ks Ks hp hm O pa pb ca cb):=hst
    have HB4:Hid (Below w1.heap.size w1 w4):=hb4
    have HBX:Hid (∀ W Ka Kb O,StAt w3 W Ks Ka Kb hp hm O pa pb ca cb->(W.cell? ⟨w.heap.size,0,none⟩=some (.int .i64 cn)/\W.cell? ⟨w.heap.size,1,none⟩=some (.int .i64 ck)/\W.cell? ⟨w.heap.size,2,none⟩=some (.slice p CL.length cap))/\Below w1.heap.size w1 W/\Below w.heap.size w W):=fun W Ka Kb O h=>by
     have hb:=HB3.out.trans (h.low.mono HB3.out.size)
     exact ⟨HBOX.out W hb,hb,HLO.out W hb⟩
    clear hst hb4 HSH3 hk100
    obtain ⟨⟨f0,f1,f2⟩,_,_⟩:=HBX.out w4 _ _ _ HST4.out
    have HOC4:=HOC.out w3 w4 Ks Ks hp hm O pa pb ca cb HB3.out HLG.out HST4.out
    go_wp2_with fail
    refine HOC4.mono ?_
    rintro e w5 ⟨⟨q5,d5,rfl,hcf5⟩,hst5,hb5⟩
    have HST5:Hid (StAt w3 w5 Ks Ks Ks hp hm O pa pb ca cb):=hst5
    have HMS5:=HMS.out w3 w5 hp hm O pa pb ca cb q5 d5 HB3.out hst5 hcf5
    clear hst5 hb5 hcf5 HOC4 f0 f1 f2 HST4
    go_wp2_with fail
    refine HMS5.mono ?_
    rintro e w6 ⟨⟨ev1,q6,d6,rfl,hr6,he6⟩,hst6,hb6⟩
    have HST6:Hid (StAt w3 w6 Ks Ks Ks hp hm O pa pb ca cb):=hst6
    have HR6:Hid (Rec natE w6 q6 M):=hr6
    have HE6:Hid (ErrIs w6 ad ev1 E.1 E.2):=he6
    obtain ⟨⟨f0,f1,f2⟩,_,_⟩:=HBX.out w6 _ _ _ hst6
    have HOC6:=HOC.out w3 w6 Ks Ks hp hm O pa pb ca cb HB3.out HLG.out hst6
    clear hst6 hb6 hr6 he6 HMS5 HST5
    go_wp2_with fail
    refine HOC6.mono ?_
    rintro e w7 ⟨⟨q7,d7,rfl,hcf7⟩,hst7,hb7⟩
    have HB67:Hid (Below w6.heap.size w6 w7):=hb7
    have HSD7:=HSD.out w3 w7 hp hm O pa pb ca cb q7 d7 HB3.out hst7 hcf7
    clear hst7 hb7 hcf7 HOC6 f0 f1 f2 HST6
    go_wp2_with fail
    refine HSD7.mono ?_
    rintro e w8 ⟨⟨ev2,rfl,he8,hbare8⟩,hst8,hb8⟩
    have HB68:Hid (Below w6.heap.size w6 w8):=HB67.out.trans (hb8.mono HB67.out.size)
    have HST8:Hid (StAt w3 w8 Ks Ks Ks hp hm O pa pb ca cb):=hst8
    have HR8:Hid (Rec natE w8 q6 M):=HR6.out.below HB68.out
    have HE8:Hid (ErrIs w8 ad ev1 E.1 E.2):=HE6.out.below HB68.out
    have HF8:Hid (ErrIs w8 ad ev2 SE.1 SE.2):=he8
    have HBA8:Hid (¬ 0 < E.1->BareIs ad ev2 SE.1):=fun h=>hbare8 (by omega)
    obtain ⟨⟨f0,f1,f2⟩,_,_⟩:=HBX.out w8 _ _ _ hst8
    have HCF8:=HCF.out w3 w8 HB3.out HLG.out hst8.low
    clear hst8 hb8 he8 hbare8 HSD7 HB67 HB68 HR6 HE6
    go_wp2_with fail
    refine HCF8.mono ?_
    rintro e w9 ⟨rfl,hb9⟩
    have HST9:Hid (StAt w3 w9 Ks Ks Ks hp hm O pa pb ca cb):=HST8.out.below hb9
    have HR9:Hid (Rec natE w9 q6 M):=HR8.out.below hb9
    have HE9:Hid (ErrIs w9 ad ev1 E.1 E.2):=HE8.out.below hb9
    have HF9:Hid (ErrIs w9 ad ev2 SE.1 SE.2):=HF8.out.below hb9
    clear hb9 HCF8 f0 f1 f2 HST8 HR8 HE8 HF8
    obtain ⟨w10,hw10⟩:∃ w10,w10=w9.alloc (.cells #[.int .i64 CF.1,.int .i64 CF.2] 30):=⟨_,rfl⟩
    have hb10:Below w9.heap.size w9 w10:=by rw [hw10];exact (Below.refl _ _).alloc (Nat.le_refl _) _
    have HW10:Hid (w10=w9.alloc (.cells #[.int .i64 CF.1,.int .i64 CF.2] 30)):=hw10
    have c0:w10.cell? ⟨w9.heap.size,0,none⟩=some (.int .i64 CF.1):=by rw [hw10,World.cell?_alloc_at _ _ _ _ rfl];rfl
    have c1:w10.cell? ⟨w9.heap.size,1,none⟩=some (.int .i64 CF.2):=by rw [hw10,World.cell?_alloc_at _ _ _ _ rfl];rfl
    have k0:w10.frozen? ⟨w9.heap.size,0,none⟩=false:=by rw [hw10];exact World.frozen?_alloc_at _ _ _ _ rfl
    have k1:w10.frozen? ⟨w9.heap.size,1,none⟩=false:=by rw [hw10];exact World.frozen?_alloc_at _ _ _ _ rfl
    have hlt10:w9.heap.size < w10.heap.size:=lt_of_cellH c0
    have HST10:Hid (StAt w3 w10 Ks Ks Ks hp hm O pa pb ca cb):=HST9.out.below hb10
    have HR10:Hid (Rec natE w10 q6 M):=HR9.out.below hb10
    have HE10:Hid (ErrIs w10 ad ev1 E.1 E.2):=HE9.out.below hb10
    have HF10:Hid (ErrIs w10 ad ev2 SE.1 SE.2):=HF9.out.below hb10
    have hST9:Below w3.heap.size w3 w9:=HST9.out.low
    have HLT9:Hid (w3.heap.size<=w9.heap.size):=hST9.size
    clear hw10 hb10 hST9
    by_cases hcf:0 < CF.1
    ·have hE0:0 < E.1:=by rw [HEC1.out hcf];exact hcf
     obtain rfl:=HEC1.out hcf
     clear k0 k1 hcf HR10 HST9 HR9 HE9 HF9
     obtain ⟨rfl,rfl,rfl,rfl⟩:=HPB.out hE0
     have HP:Hid (0 < SE.1):=hE0
     have HBX10:=HBX.out w10 _ _ _ HST10.out
     obtain ⟨⟨f0,f1,f2⟩,hbw10,_⟩:=HBX10
     have HOC10:=HOC.out w3 w10 Ks Ks hp hm O pa pb ca cb HB3.out HLG.out HST10.out
     have hEp:0 < SE.1:=hE0
     clear hE0 hbw10
     simp only [List.length_nil]
     go_wp2_with (first | rw [<- HW10.out] | fail)
     refine HOC10.mono ?_
     rintro e w11 ⟨⟨q11,d11,rfl,hcf11⟩,hst11,hb11⟩
     have HMB11:=HMB.out w3 w11 hp hm O pa pb ca cb q11 d11 HB3.out hst11 hcf11 HP.out
     have HST11:Hid (StAt w3 w11 Ks Ks Ks hp hm O pa pb ca cb):=hst11
     have HE11:Hid (ErrIs w11 ad ev1 SE.1 SE.2):=HE10.out.below hb11
     have HF11:Hid (ErrIs w11 ad ev2 SE.1 SE.2):=HF10.out.below hb11
     have y0:=(hb11.cell (p:=⟨w9.heap.size,0,none⟩) hlt10).trans c0
     have y1:=(hb11.cell (p:=⟨w9.heap.size,1,none⟩) hlt10).trans c1
     have HLT11:Hid (w9.heap.size < w11.heap.size):=Nat.lt_of_lt_of_le hlt10 hb11.size
     clear hst11 hb11 hcf11 HOC10 f0 f1 f2 c0 c1 hlt10 HE10 HF10 HST10
     go_wp2_with fail
     refine HMB11.mono ?_
     rintro e w12 ⟨⟨ev3,rfl,he12⟩,hb12⟩
     have HST12:Hid (StAt w3 w12 Ks Ks Ks hp hm O pa pb ca cb):=HST11.out.below hb12
     have HE12:Hid (ErrIs w12 ad ev1 SE.1 SE.2):=HE11.out.below hb12
     have HF12:Hid (ErrIs w12 ad ev2 SE.1 SE.2):=HF11.out.below hb12
     have HG12:Hid (ErrIs w12 ad ev3 SE.1 SE.2):=he12
     have z0:=(hb12.cell (p:=⟨w9.heap.size,0,none⟩) HLT11.out).trans y0
     have z1:=(hb12.cell (p:=⟨w9.heap.size,1,none⟩) HLT11.out).trans y1
     have HLT12:Hid (w9.heap.size < w12.heap.size):=Nat.lt_of_lt_of_le HLT11.out hb12.size
     obtain ⟨_,hbw12,_⟩:=HBX.out w12 _ _ _ HST12.out
     have HFD12:=HFD.out w12 ev1 SE.1 SE.2 hbw12 HE12.out
     clear he12 hb12 HMB11 y0 y1 HST11 HE11 HF11 HLT11 hbw12
     go_wp2_with fail
     refine HFD12.mono ?_
     rintro e w13 ⟨rfl,hb13⟩
     have HST13:Hid (StAt w3 w13 Ks Ks Ks hp hm O pa pb ca cb):=HST12.out.below hb13
     have HF13:Hid (ErrIs w13 ad ev2 SE.1 SE.2):=HF12.out.below hb13
     have HG13:Hid (ErrIs w13 ad ev3 SE.1 SE.2):=HG12.out.below hb13
     have x0:=(hb13.cell (p:=⟨w9.heap.size,0,none⟩) HLT12.out).trans z0
     have x1:=(hb13.cell (p:=⟨w9.heap.size,1,none⟩) HLT12.out).trans z1
     have HLT13:Hid (w9.heap.size < w13.heap.size):=Nat.lt_of_lt_of_le HLT12.out hb13.size
     obtain ⟨_,hbw13,_⟩:=HBX.out w13 _ _ _ HST13.out
     have HFD13:=HFD.out w13 ev2 SE.1 SE.2 hbw13 HF13.out
     clear hb13 HFD12 z0 z1 HST12 HE12 HF12 HG12 HLT12 hbw13
     go_wp2_with fail
     refine HFD13.mono ?_
     rintro e w14 ⟨rfl,hb14⟩
     have HST14:Hid (StAt w3 w14 Ks Ks Ks hp hm O pa pb ca cb):=HST13.out.below hb14
     have HG14:Hid (ErrIs w14 ad ev3 SE.1 SE.2):=HG13.out.below hb14
     have y0:=(hb14.cell (p:=⟨w9.heap.size,0,none⟩) HLT13.out).trans x0
     have y1:=(hb14.cell (p:=⟨w9.heap.size,1,none⟩) HLT13.out).trans x1
     obtain ⟨_,hbw14,_⟩:=HBX.out w14 _ _ _ HST14.out
     have HFD14:=HFD.out w14 ev3 SE.1 SE.2 hbw14 HG14.out
     clear hb14 HFD13 x0 x1 HST13 HF13 HG13 HLT13 hbw14
     go_wp2_with fail
     refine HFD14.mono ?_
     rintro e w15 ⟨rfl,hb15⟩
     obtain ⟨_,_,hbw15⟩:=HBX.out w15 _ _ _ (HST14.out.below hb15)
     have HBW15:Hid (Below w.heap.size w w15):=hbw15
     clear hb15 hbw15 HFD14 HST14 HG14
     go_wp2
     go_ret
     exact ⟨rfl,HBW15.out⟩
    ·obtain ⟨hCF,hG1,hG2⟩:=HEC2.out (by omega)
     by_cases hnn:(n:Int)=cn
     ·have hE1:=hG1 hnn
      have HNE:Hid (E.1<=0):=by show _<=_;rw [hE1];decide
      have hev1:ev1=.nilIface:=by have h:=HE10.out;rw [hE1] at h;exact ErrIs.isNil h
      subst hev1
      subst hCF
      obtain ⟨hfit,hncn,hwl,hmw,hB0,hC0⟩:=HPG.out (by have:=HNE.out;omega)
      have HB0:Hid (WL=[]->M=[]/\SE=(5,-1)/\ST=0/\MF=(0,0,Ks)):=hB0
      have HC0:Hid (WL≠[]->SE=(0,-1)/\ST=max 0 (cn - (M.length:Int) - ck)):=hC0
      have hn12:n<=12:=by omega
      have hck1:1<=ck:=hfit.1
      have hckn:ck<=cn:=hfit.2.1
      have HBS10:Hid (BareIs ad ev2 SE.1):=HBA8.out (by have:=HNE.out;omega)
      obtain ⟨⟨f0,f1,f2⟩,_,_⟩:=HBX.out w10 _ _ _ HST10.out
      have HLK10:=HLK.out w3 w10 hp hm O pa pb ca cb HST10.out (by have:=HNE.out;omega)
      clear hG1 hG2 hcf hE1 hfit hncn hB0 hC0 HST9 HR9 HE9 HF9 HE10 HF10 HPB HPG HEC1 HEC2 HMB HBA8 HMS HSD HCF HFD k0 k1 HLK
      dsimp only at c0 c1
      go_wp2_with (first | rw [<- HW10.out] | fail)
      refine HLK10.mono ?_
      rintro e w11 ⟨⟨q11,d11,q12,d12,rfl,hr11,hr12,hq11,hq12⟩,hst11,hb11⟩
      have HST11:Hid (StAt w3 w11 Ks Ks Ks hp hm O pa pb ca cb):=hst11
      have HR11:Hid (Rec natE w11 q6 M):=HR10.out.below hb11
      have HV11:Hid (Rec verE w11 q11 WL):=hr11
      have HN11:Hid (Rec natE w11 q12 M):=hr12
      have HQ11:Hid (∀ b o,q11=some ⟨b,o,none⟩->O b=none):=hq11
      have HQ12:Hid (∀ b o,q12=some ⟨b,o,none⟩->O b=none):=hq12
      have HSI11:=HSI.out w11 q6 q12 d6 d12 (by omega) HR11.out hr12
      clear hr11 hr12 hq11 hq12 hst11 hb11 HLK10 f0 f1 f2 c0 c1 hlt10 HW10 HST10 HR10
      go_wp2_with fail
      refine HSI11.mono ?_
      rintro e w13 ⟨rfl,hb13⟩
      have HST13:Hid (StAt w3 w13 Ks Ks Ks hp hm O pa pb ca cb):=HST11.out.below hb13
      have HV13:Hid (Rec verE w13 q11 WL):=HV11.out.below hb13
      have HN13:Hid (Rec natE w13 q12 M):=HN11.out.below hb13
      clear hb13 HSI11 HST11 HV11 HN11 HR11 HSI
      obtain ⟨⟨f0,f1,f2⟩,_,_⟩:=HBX.out w13 _ _ _ HST13.out
      by_cases hW:WL=[]
      ·obtain ⟨hM,hSE,hST,hMF⟩:=HB0.out hW
       have hT0:T=0:=by rw [HTZ.out (by rw [hMF]),hMF]
       subst hW hM hST hT0
       have HBS:Hid (BareIs ad ev2 5):=by have h:=HBS10.out;rw [hSE] at h;exact h
       have HMFC:Hid (MF=(0,0,Ks)):=hMF
       have HOC13:=HOC.out w3 w13 Ks Ks hp hm O pa pb ca cb HB3.out HLG.out HST13.out
       clear hSE hMF HB0 HC0 hwl hmw HQ11 HQ12 HRND HMI HBS10
       simp only [List.length_nil]
       go_wp2_with fail
       refine HOC13.mono ?_
       rintro e w14 ⟨⟨q14,d14,rfl,hcf14⟩,hst14,hb14⟩
       have HME14:=HME.out w3 w14 Ks hp hm O pa pb ca cb q14 d14 HB3.out hst14 hcf14 (by have:=HNE.out;omega)
       clear hb14 hst14 hcf14 HOC13 f0 f1 f2 HME HOC HST13 HV13 HN13
       go_wp2_with fail
       refine HME14.mono ?_
       rintro e w15 ⟨ev3,rfl,hbare,O2,hst15⟩
       have hev3:ev3=.nilIface:=by
        rw [HMFC.out] at hbare
        rcases hbare with ⟨h,_⟩ | ⟨i,_,_,h⟩
        ·exact h
        ·exfalso;dsimp only at h;omega
       subst hev3
       obtain ⟨_,hbw15,_⟩:=HBX.out w15 _ _ _ hst15
       have HST15:Hid (StAt w3 w15 Ks MF.2.2 Ks hp hm O2 pa pb ca cb):=hst15
       have HCO15:=HCO.out w15 ev2 5 hbw15 HBS.out
       clear hbare hst15 hbw15 HME14
       go_wp2_with fail
       refine HCO15.mono ?_
       rintro e w16 ⟨rfl,hb16⟩
       obtain ⟨_,_,hbw16⟩:=HBX.out w16 _ _ _ (HST15.out.below hb16)
       have HBW16:Hid (Below w.heap.size w w16):=hbw16
       clear hb16 hbw16 HCO15 HST15
       go_wp2
       go_ret
       exact ⟨rfl,HBW16.out⟩
      ·obtain ⟨hSE,hST⟩:=HC0.out hW
       have hW1:0 < WL.length:=List.length_pos_iff.2 hW
       have hW0:((WL.length:Int)==0)=false:=by rw [beq_eq_false_iff_ne];omega
       have hev2:ev2=.nilIface:=by
        have h:=HBS10.out
        rw [hSE] at h
        rcases h with ⟨h,_⟩ | ⟨i,_,_,h⟩
        ·exact h
        ·exfalso;dsimp only at h;omega
       subst hev2
       have HST0:Hid (ST=max 0 (cn - (M.length:Int) - ck)):=hST
       clear hST
       have hM0:(0:Int)<=(M.length:Int):=by omega
       have hM12:(M.length:Int)<=12:=by omega
       have hwl12:WL.length<=12:=by omega
       have hv1:IntKind.i64.wrap (cn - (M.length:Int))=cn - (M.length:Int):=by rw [IntKind.wrap_i64];omega
       have hv2:IntKind.i64.wrap (cn - (M.length:Int) - ck)=cn - (M.length:Int) - ck:=by rw [IntKind.wrap_i64];omega
       have HRD0:=HRND.out w3 w13 hp hm O pa pb ca cb q11 q12 (by have:=HNE.out;omega) HST13.out HQ11.out HQ12.out HV13.out HN13.out
       obtain ⟨D,hD⟩:∃ D:Nat->World->Prop,D=fun j W=>MmAt w3 w13 Ks hp hm O pa pb ca cb (F j) W:=⟨_,rfl⟩
       have HD0:Hid (D 0 w13):=by rw [hD];show MmAt _ _ _ _ _ _ _ _ _ _ _ _;rw [HF0.out];exact ⟨O,HST13.out,Shf.of_below O (Below.refl _ _)⟩
       have HDE:Hid (∀ j W,D j W->MF=F j->∃ O',StAt w3 W Ks Ks MF.2.2 hp hm O' pa pb ca cb):=fun j W h e=>by rw [hD] at h;obtain ⟨O',g,_⟩:=h;rw [e];exact ⟨O',g⟩
       have HRD:Hid (∀ (j i:Nat),M[j]?=some i->(F j).1=0->∀ W,D j W ->
        ∃ bq oq bh oh x,q12=some ⟨bq,oq,none⟩/\W.cell? ⟨bq,oq+j,none⟩=some (.int .i64 (i:Int))/\pb=some ⟨bh,oh,none⟩/\W.cell? ⟨bh,oh+i,none⟩=some (.pointer x)/\(x=none->F (j+1)=F j/\D (j+1) W) /\
        ∀ a,x=some a->∃ b1 o1,q11=some ⟨b1,o1,none⟩/\W.cell? ⟨b1,o1+i*5,none⟩=some (.int .i64 (verAt WL i).n)/\W.cell? ⟨b1,o1+i*5+1,none⟩=some (.int .i64 (verAt WL i).who)/\W.cell? ⟨b1,o1+i*5+2,none⟩=some (.int .i64 (verAt WL i).size)/\W.cell? ⟨b1,o1+i*5+3,none⟩=some (.int .i64 (verAt WL i).at_)/\W.cell? ⟨b1,o1+i*5+4,none⟩=some (.string (verAt WL i).text) /\
         Calls Tryz.prog 22 #[.pointer (some a),.string key,.agg #[.int .i64 (verAt WL i).n,.int .i64 (verAt WL i).who,.int .i64 (verAt WL i).size,.int .i64 (verAt WL i).at_,.string (verAt WL i).text]] W fun e w4=>e=.returned (.int .i64 (F (j+1)).1)/\((F (j+1)).1=0->(F (j+1)).2.1=(F j).2.1+1)/\((F (j+1)).1≠0->(F (j+1)).2.1=(F j).2.1)/\D (j+1) w4):=fun j i h1 h2 W h3=>by
        rw [hD] at h3
        obtain ⟨bq,oq,bh,oh,x,r1,r2,r3,r4,r5,r6⟩:=HRD0 j i h1 h2 W h3
        exact ⟨bq,oq,bh,oh,x,r1,r2,r3,r4,fun e=>⟨r5 e,by rw [hD];show MmAt _ _ _ _ _ _ _ _ _ _ _ _;rw [r5 e];exact h3⟩,by rw [hD];exact r6⟩
       have hz00:(F 0).1=0:=by rw [HF0.out]
       have hz01:(F 0).2.1=0:=by rw [HF0.out]
       clear HRD0 hSE hW HB0 HC0 HQ11 HQ12 HRND hD HST13 HV13 HN13 HBS10 HF0
       go_upto_if 169 with fail
       go_cut [21] from 168 to 169 (fun v W=>v=.int .i64 ST/\W=w13)
       case first =>
        by_cases hs:cn - (M.length:Int) - ck < 0
        ·have h0:Hid (ST=0):=by show _=_;rw [HST0.out];omega
         go_wp2
         go_meet
         exact ⟨by rw [h0.out],rfl⟩
        ·have h0:Hid (ST=cn - (M.length:Int) - ck):=by show _=_;rw [HST0.out];omega
         go_wp2
         go_meet
         exact ⟨by rw [h0.out],rfl⟩
       case rest =>
        obtain ⟨rfl,rfl⟩:=hcut
        clear HST0 hv1 hv2 f0 f1 f2
        go_wp2
        go_loopw [22,23,24] (fun e d x wr=>∃ j:Nat,j<=M.length/\x=.int .i64 j/\e=.int .i64 (F j).1/\d=.int .i64 ((F j).2.1:Nat)/\D j wr) (fun _ _ x _=>M.length - (intOf x).toNat)
        case atStart=>exact ⟨0,Nat.zero_le _,rfl,by rw [hz00],by rw [hz01];rfl,HD0.out⟩
        case round =>
         obtain ⟨j,hj,rfl,rfl,rfl,hDj⟩:=hrel
         obtain ⟨w14,rfl⟩:∃ w14,w14=wr:=⟨_,rfl⟩
         have HDJ:Hid (D j w14):=hDj
         have hdj:=HFDN.out j
         clear hDj HD0 hz00 hz01
         go_upto_region 27 with fail
         go_cut [184] from 177 to 209 (fun v W=>v=.bool (decide (j < M.length) && ((F j).1==0))/\W=w14)
         case first =>
          by_cases hjl:j < M.length
          ·have hd1:decide (j < M.length)=true:=decide_eq_true hjl
           go_wp2
           go_meet
           exact ⟨by rw [hd1];rfl,rfl⟩
          ·have hd1:decide (j < M.length)=false:=decide_eq_false hjl
           go_wp2
           go_meet
           exact ⟨by rw [hd1];rfl,rfl⟩
         case rest =>
          obtain ⟨rfl,hwc⟩:=hcut
          obtain rfl:w14=wc:=hwc.symm
          cases hgo:(decide (j < M.length) && ((F j).1==0)) with
          | true =>
           rw [Bool.and_eq_true] at hgo
           have hjl:j < M.length:=of_decide_eq_true hgo.1
           have HZ:Hid ((F j).1=0):=by show _=_;have:=hgo.2;simpa using this
           clear hgo
           obtain ⟨i,hMi,hiW⟩:=HMI.out j hjl
           obtain ⟨bq,oq,bh,oh,x,rfl,c1,rfl,c2,hx1,hx2⟩:=HRD.out j i hMi HZ.out w14 HDJ.out
           have hi12:i<=12:=by omega
           have him:i < n:=by omega
           cases x with
           | none =>
            have HX:Hid (F (j+1)=F j/\D (j+1) w14):=hx1 rfl
            clear hx1 hx2 hMi
            go_wp2
            go_roundw
            case rel=>exact ⟨j+1,by omega,by go_num,by rw [HX.out.1],by rw [HX.out.1],HX.out.2⟩
            case measure=>simp [intOf];omega
           | some a =>
            obtain ⟨b1,o1,rfl,a0,a1,a2,a3,a4,hcall⟩:=hx2 a rfl
            clear hx1 hx2 hMi
            generalize verAt WL i=v at *
            obtain ⟨vn,vw,vs,va,vt⟩:=v
            dsimp only at a0 a1 a2 a3 a4 hcall
            go_wp2_with fail
            refine hcall.mono ?_
            rintro e w15 ⟨rfl,hone,hsame,hD15⟩
            have HD15:Hid (D (j+1) w15):=hD15
            clear hcall hD15 a0 a1 a2 a3 a4 c1 c2
            by_cases hz1:(F (j+1)).1=0
            ·have HO:Hid ((F (j+1)).2.1=(F j).2.1+1):=hone hz1
             have hzb:((F (j+1)).1==0)=true:=by rw [hz1];rfl
             have HZ1:Hid ((F (j+1)).1=0):=hz1
             clear hone hsame hz1
             go_wp2
             go_roundw
             case rel=>exact ⟨j+1,by omega,by go_num,rfl,by rw [HO.out];go_num,HD15.out⟩
             case measure=>simp [intOf];omega
            ·have HO:Hid ((F (j+1)).2.1=(F j).2.1):=hsame hz1
             have hzb:((F (j+1)).1==0)=false:=by rw [beq_eq_false_iff_ne];exact hz1
             clear hone hsame hz1
             go_wp2
             go_roundw
             case rel=>exact ⟨j+1,by omega,by go_num,rfl,by rw [HO.out],HD15.out⟩
             case measure=>simp [intOf];omega
          | false =>
           have HMFE:MF=F j:=by
            rw [Bool.and_eq_false_iff] at hgo
            by_cases hz:(F j).1=0
            ·rcases hgo with h | h
             ·have:j=M.length:=by have:=of_decide_eq_false h;omega
              rw [this];exact HFE.out.symm
             ·rw [beq_eq_false_iff_ne] at h;exact absurd hz h
            ·exact HFB.out j hz
           obtain ⟨O4,hst14⟩:=HDE.out j w14 HDJ.out HMFE
           obtain rfl:=HMFE
           obtain ⟨⟨f0,f1,f2⟩,_,_⟩:=HBX.out w14 _ _ _ hst14
           have HOC14:=HOC.out w3 w14 Ks (F j).2.2 hp hm O4 pa pb ca cb HB3.out HLG.out hst14
           clear hst14 HDJ HDE HRD HMI HFE HFB HOC
           go_wp2_with fail
           refine HOC14.mono ?_
           rintro e w15 ⟨⟨q15,d15,rfl,hcf15⟩,hst15,hb15⟩
           have HME15:=HME.out w3 w15 (F j).2.2 hp hm O4 pa pb ca cb q15 d15 HB3.out hst15 hcf15 (by have:=HNE.out;omega)
           clear hst15 hb15 hcf15 HOC14 f0 f1 f2 HME
           go_wp2_with fail
           refine HME15.mono ?_
           rintro e w16 ⟨ev3,rfl,hbare,O5,hst16⟩
           have HST16:Hid (StAt w3 w16 Ks (F j).2.2 (F j).2.2 hp hm O5 pa pb ca cb):=hst16
           obtain ⟨_,hbw16,_⟩:=HBX.out w16 _ _ _ hst16
           have hnn0:=HFN.out j
           by_cases hz:(F j).1=0
           ·have hev3 : ev3 = .nilIface := by
             rcases hbare with ⟨h,_⟩ | ⟨i,_,_,h⟩
             ·exact h
             ·exfalso;omega
            have hT:=HTZ.out hz
            subst hev3 hT
            have hgt:decide (0 < (F j).1)=false:=by rw [hz];rfl
            obtain ⟨D3,hD3⟩:∃ D3:World->Prop,D3=fun W=>∃ O,StAt w3 W Ks (F j).2.2 (F j).2.2 hp hm O pa pb ca cb:=⟨_,rfl⟩
            have H30:Hid (D3 w16):=by rw [hD3];exact ⟨O5,hst16⟩
            have H3B:Hid (∀ W W',D3 W->Below W.heap.size W W'->D3 W'):=fun W W' h hb=>by rw [hD3] at h ⊢;obtain ⟨O,g⟩:=h;exact ⟨O,g.below hb⟩
            have H3W:Hid (∀ W,D3 W->Below w.heap.size w W):=fun W h=>by rw [hD3] at h;obtain ⟨O,g⟩:=h;exact (HBX.out W _ _ _ g).2.2
            have H3G:Hid (∀ W,D3 W->∀ j:Nat,j < n->∃ ba oa bb ob,pa=some ⟨ba,oa,none⟩/\pb=some ⟨bb,ob,none⟩/\ba < W.heap.size/\bb < W.heap.size/\(W.cell? ⟨ba,oa+j,none⟩=some (.pointer none)∨∃ a b R,W.cell? ⟨ba,oa+j,none⟩=some (.pointer (some a))/\W.cell? ⟨bb,ob+j,none⟩=some (.pointer (some b))/\(R:List Ver).length<=1000 /\
             (∀ W',Below W.heap.size W W'->Calls Tryz.prog 24 #[.pointer (some a),.string key] W' fun e w'=>(∃ p c,e=.returned (.slice p R.length c)/\Rec verE w' p R)/\Below W'.heap.size W' w') /\
             (∀ W',Below W.heap.size W W'->Calls Tryz.prog 25 #[.pointer (some b),.string key] W' fun e w'=>(∃ p c,e=.returned (.slice p R.length c)/\Rec verE w' p R)/\Below W'.heap.size W' w'))):=fun W h=>by rw [hD3] at h;obtain ⟨O,g⟩:=h;exact HGT.out w3 W hp hm O pa pb ca cb g
            clear hD3 hst16 HST16 hbare hbw16 HME15 HGT hz hnn0 HBX HTZ HTN
            go_wp2
            go_loopw [28] (fun x wr=>∃ i:Nat,i<=n/\x=.int .i64 i/\D3 wr) (fun x _=>n - (intOf x).toNat)
            case atStart=>exact ⟨0,Nat.zero_le _,rfl,H30.out⟩
            case round =>
             obtain ⟨i,hi,rfl,hDi⟩:=hrel
             obtain ⟨w17,rfl⟩:∃ w17,w17=wr:=⟨_,rfl⟩
             have HD17:Hid (D3 w17):=hDi
             clear hDi H30
             by_cases hil:i < n
             ·obtain ⟨ba,oa,bb,ob,rfl,rfl,l1,l2,hcase⟩:=H3G.out w17 HD17.out i hil
              rcases hcase with c1 | ⟨a,b,R,c1,c2,hR,hG1,hG2⟩
              ·go_wp2
               go_quiet (fail)
               go_wp2
               go_roundw
               case rel=>exact ⟨i+1,by omega,by go_num,H3B.out _ _ HD17.out (by first | exact below_drewN (Below.refl _ _) _ | exact (Below.refl _ _).drew)⟩
               case measure=>simp [intOf];omega
              ·have HS:Hid (∀ W,Below w17.heap.size w17 W->(W.cell? ⟨ba,oa+i,none⟩=some (.pointer (some a))/\W.cell? ⟨bb,ob+i,none⟩=some (.pointer (some b))/\Below w17.heap.size w17 W)):=fun W hW=>⟨(hW.cell (p:=⟨ba,oa+i,none⟩) l1).trans c1,(hW.cell (p:=⟨bb,ob+i,none⟩) l2).trans c2,hW⟩
               have HG1':Hid (∀ W,(W.cell? ⟨ba,oa+i,none⟩=some (.pointer (some a))/\W.cell? ⟨bb,ob+i,none⟩=some (.pointer (some b))/\Below w17.heap.size w17 W)->Calls Tryz.prog 24 #[.pointer (some a),.string key] W fun e w'=>(∃ p c,e=.returned (.slice p R.length c)/\Rec verE w' p R)/\(w'.cell? ⟨ba,oa+i,none⟩=some (.pointer (some a))/\w'.cell? ⟨bb,ob+i,none⟩=some (.pointer (some b))/\Below w17.heap.size w17 w')):=fun W hW=>(hG1 W hW.2.2).mono fun e w' ⟨h1,hb⟩=>⟨h1,HS.out w' (hW.2.2.trans (hb.mono hW.2.2.size))⟩
               have HG2':Hid (∀ W,(W.cell? ⟨ba,oa+i,none⟩=some (.pointer (some a))/\W.cell? ⟨bb,ob+i,none⟩=some (.pointer (some b))/\Below w17.heap.size w17 W)->Calls Tryz.prog 25 #[.pointer (some b),.string key] W fun e w'=>(∃ p c,e=.returned (.slice p R.length c)/\Rec verE w' p R)/\Below W.heap.size W w'/\(w'.cell? ⟨ba,oa+i,none⟩=some (.pointer (some a))/\w'.cell? ⟨bb,ob+i,none⟩=some (.pointer (some b))/\Below w17.heap.size w17 w')):=fun W hW=>(hG2 W hW.2.2).mono fun e w' ⟨h1,hb⟩=>⟨h1,hb,HS.out w' (hW.2.2.trans (hb.mono hW.2.2.size))⟩
               have HSV':Hid (∀ W pa pb ca cb,(W.cell? ⟨ba,oa+i,none⟩=some (.pointer (some a))/\W.cell? ⟨bb,ob+i,none⟩=some (.pointer (some b))/\Below w17.heap.size w17 W)->Rec verE W pa R->Rec verE W pb R->Calls Tryz.prog 23 #[.slice pa R.length ca,.slice pb R.length cb] W fun e w'=>e=.returned (.bool true)/\(w'.cell? ⟨ba,oa+i,none⟩=some (.pointer (some a))/\w'.cell? ⟨bb,ob+i,none⟩=some (.pointer (some b))/\Below w17.heap.size w17 w')):=fun W pa pb ca cb hW h1 h2=>(HSV.out W pa pb ca cb R hR h1 h2).mono fun e w' ⟨h3,hb⟩=>⟨h3,HS.out w' (hW.2.2.trans (hb.mono hW.2.2.size))⟩
               have hS0:=HS.out w17.drew (Below.refl _ _).drew
               clear hG1 hG2 l1 l2
               go_upto_region 42 with fail
               go_cut [260] from 234 to 260 (fun v W=>v=.bool false/\Below w17.heap.size w17 W)
               case first =>
                go_region_held3 (fun W=>(W.cell? ⟨ba,oa+i,none⟩=some (.pointer (some a))/\W.cell? ⟨bb,ob+i,none⟩=some (.pointer (some b))/\Below w17.heap.size w17 W)) (first | assumption | exact hS0) (first | (go_at_call 24;refine (HG1'.out _ (by assumption)).mono ?_;rintro e wg ⟨⟨pg,cg,rfl,hrg⟩,hSg⟩) | (go_at_call 25;refine (HG2'.out _ (by assumption)).mono ?_;rintro e wm ⟨⟨pm,cm,rfl,hrm⟩,hbm,hSm⟩) | (go_at_call 23;refine (HSV'.out _ pg pm cg cm (by assumption) (hrg.below hbm) hrm).mono ?_;rintro e ws ⟨rfl,hSs⟩))
                all_goals (go_wp2_with fail;go_meet)
                all_goals exact ⟨rfl,hSs.2.2⟩
               case rest =>
                obtain ⟨rfl,hbc⟩:=hcut
                have HDC:Hid (D3 wc):=H3B.out _ _ HD17.out hbc
                clear hbc HS HG1' HG2' HSV' hS0 c1 c2
                go_wp2
                go_roundw
                case rel=>exact ⟨i+1,by omega,by go_num,HDC.out⟩
                case measure=>simp [intOf];omega
             ·have HBW17:Hid (Below w.heap.size w w17):=H3W.out w17 HD17.out
              go_wp2
              go_ret
              exact ⟨rfl,HBW17.out⟩
           ·have hgt:decide (0 < (F j).1)=true:=decide_eq_true (by omega)
            have hT:=HTN.out hz
            subst hT
            have HCO16:=HCO.out w16 ev3 (F j).1 hbw16 hbare
            clear hst16 hbare hbw16 HME15 HGT hz hnn0 HTZ HTN HCO
            go_wp2_with fail
            refine HCO16.mono ?_
            rintro e w17 ⟨rfl,hb17⟩
            obtain ⟨_,_,hbw17⟩:=HBX.out w17 _ _ _ (HST16.out.below hb17)
            have HBW17:Hid (Below w.heap.size w w17):=hbw17
            clear hb17 hbw17 HCO16 HST16
            go_wp2
            go_ret
            exact ⟨rfl,HBW17.out⟩
     ·have hE3:=hG2 hnn
      subst hCF
      have HBR:=fun W=>bare_any 3 W
      obtain ⟨⟨f0,f1,f2⟩,_,_⟩:=HBX.out w10 _ _ _ HST10.out
      clear hG1 hG2 hcf
      go_wp2_with (first | rw [<- HW10.out] | fail)
      refine (HBR _).mono ?_
      rintro e w11 ⟨rfl,hb11⟩
      have j0:=(hb11.cell (p:=⟨w9.heap.size,0,none⟩) hlt10).trans c0
      have j1:=(hb11.cell (p:=⟨w9.heap.size,1,none⟩) hlt10).trans c1
      have l0:=(hb11.frozen (p:=⟨w9.heap.size,0,none⟩) hlt10).trans k0
      have l1:=(hb11.frozen (p:=⟨w9.heap.size,1,none⟩) hlt10).trans k1
      have hb911:Below w9.heap.size w9 w11:=by
       have h1:Below w9.heap.size w9 w10:=by rw [HW10.out];exact (Below.refl _ _).alloc (Nat.le_refl _) _
       exact h1.trans (hb11.mono h1.size)
      have hlt11:w9.heap.size < w11.heap.size:=Nat.lt_of_lt_of_le hlt10 hb11.size
      clear hlt10 c0 c1 k0 k1 HST10 HR10 HE10 HF10 HW10 HBR hb11 f0 f1 f2
      obtain ⟨w10,hw10⟩:∃ w10,w10=(w11.setCell ⟨w9.heap.size,0,none⟩ (.int .i64 3)).setCell ⟨w9.heap.size,1,none⟩ (.int .i64 (-1)):=⟨_,rfl⟩
      have HW12:Hid (w10=(w11.setCell ⟨w9.heap.size,0,none⟩ (.int .i64 3)).setCell ⟨w9.heap.size,1,none⟩ (.int .i64 (-1))):=hw10
      have hb10:Below w9.heap.size w9 w10:=by rw [hw10];exact (hb911.setCell (Nat.le_refl _) _).setCell (Nat.le_refl _) _
      have hT:TwoC w11 w9.heap.size (.int .i64 0) (.int .i64 (-1)):=⟨j0,j1,l0,l1⟩
      have hT2:=(hT.set0 (.int .i64 3)).set1 (.int .i64 (-1))
      rw [<- hw10] at hT2
      have c0:w10.cell? ⟨w9.heap.size,0,none⟩=some (.int .i64 E.1):=by rw [hE3];exact hT2.c0
      have c1:w10.cell? ⟨w9.heap.size,1,none⟩=some (.int .i64 E.2):=by rw [hE3];exact hT2.c1
      have hlt10:w9.heap.size < w10.heap.size:=lt_of_cellH c0
      have hE0:0 < E.1:=by rw [hE3];decide
      have HST10:Hid (StAt w3 w10 Ks Ks Ks hp hm O pa pb ca cb):=HST9.out.below hb10
      have HE10:Hid (ErrIs w10 ad ev1 E.1 E.2):=HE9.out.below hb10
      have HF10:Hid (ErrIs w10 ad ev2 SE.1 SE.2):=HF9.out.below hb10
      clear hE3 hw10 hb10 hT hT2 hlt11 hb911 HST9 HR9 HE9 HF9
      obtain ⟨rfl,rfl,rfl,rfl⟩:=HPB.out hE0
      have HP:Hid (0 < SE.1):=hE0
      have HBX10:=HBX.out w10 _ _ _ HST10.out
      obtain ⟨⟨f0,f1,f2⟩,hbw10,_⟩:=HBX10
      have HOC10:=HOC.out w3 w10 Ks Ks hp hm O pa pb ca cb HB3.out HLG.out HST10.out
      have hEp:0 < SE.1:=hE0
      clear hE0 hbw10
      simp only [List.length_nil]
      go_wp2_with (first | rw [<- HW12.out] | fail)
      refine HOC10.mono ?_
      rintro e w11 ⟨⟨q11,d11,rfl,hcf11⟩,hst11,hb11⟩
      have HMB11:=HMB.out w3 w11 hp hm O pa pb ca cb q11 d11 HB3.out hst11 hcf11 HP.out
      have HST11:Hid (StAt w3 w11 Ks Ks Ks hp hm O pa pb ca cb):=hst11
      have HE11:Hid (ErrIs w11 ad ev1 SE.1 SE.2):=HE10.out.below hb11
      have HF11:Hid (ErrIs w11 ad ev2 SE.1 SE.2):=HF10.out.below hb11
      have y0:=(hb11.cell (p:=⟨w9.heap.size,0,none⟩) hlt10).trans c0
      have y1:=(hb11.cell (p:=⟨w9.heap.size,1,none⟩) hlt10).trans c1
      have HLT11:Hid (w9.heap.size < w11.heap.size):=Nat.lt_of_lt_of_le hlt10 hb11.size
      clear hst11 hb11 hcf11 HOC10 f0 f1 f2 c0 c1 hlt10 HE10 HF10 HST10
      go_wp2_with fail
      refine HMB11.mono ?_
      rintro e w12 ⟨⟨ev3,rfl,he12⟩,hb12⟩
      have HST12:Hid (StAt w3 w12 Ks Ks Ks hp hm O pa pb ca cb):=HST11.out.below hb12
      have HE12:Hid (ErrIs w12 ad ev1 SE.1 SE.2):=HE11.out.below hb12
      have HF12:Hid (ErrIs w12 ad ev2 SE.1 SE.2):=HF11.out.below hb12
      have HG12:Hid (ErrIs w12 ad ev3 SE.1 SE.2):=he12
      have z0:=(hb12.cell (p:=⟨w9.heap.size,0,none⟩) HLT11.out).trans y0
      have z1:=(hb12.cell (p:=⟨w9.heap.size,1,none⟩) HLT11.out).trans y1
      have HLT12:Hid (w9.heap.size < w12.heap.size):=Nat.lt_of_lt_of_le HLT11.out hb12.size
      obtain ⟨_,hbw12,_⟩:=HBX.out w12 _ _ _ HST12.out
      have HFD12:=HFD.out w12 ev1 SE.1 SE.2 hbw12 HE12.out
      clear he12 hb12 HMB11 y0 y1 HST11 HE11 HF11 HLT11 hbw12
      go_wp2_with fail
      refine HFD12.mono ?_
      rintro e w13 ⟨rfl,hb13⟩
      have HST13:Hid (StAt w3 w13 Ks Ks Ks hp hm O pa pb ca cb):=HST12.out.below hb13
      have HF13:Hid (ErrIs w13 ad ev2 SE.1 SE.2):=HF12.out.below hb13
      have HG13:Hid (ErrIs w13 ad ev3 SE.1 SE.2):=HG12.out.below hb13
      have x0:=(hb13.cell (p:=⟨w9.heap.size,0,none⟩) HLT12.out).trans z0
      have x1:=(hb13.cell (p:=⟨w9.heap.size,1,none⟩) HLT12.out).trans z1
      have HLT13:Hid (w9.heap.size < w13.heap.size):=Nat.lt_of_lt_of_le HLT12.out hb13.size
      obtain ⟨_,hbw13,_⟩:=HBX.out w13 _ _ _ HST13.out
      have HFD13:=HFD.out w13 ev2 SE.1 SE.2 hbw13 HF13.out
      clear hb13 HFD12 z0 z1 HST12 HE12 HF12 HG12 HLT12 hbw13
      go_wp2_with fail
      refine HFD13.mono ?_
      rintro e w14 ⟨rfl,hb14⟩
      have HST14:Hid (StAt w3 w14 Ks Ks Ks hp hm O pa pb ca cb):=HST13.out.below hb14
      have HG14:Hid (ErrIs w14 ad ev3 SE.1 SE.2):=HG13.out.below hb14
      have y0:=(hb14.cell (p:=⟨w9.heap.size,0,none⟩) HLT13.out).trans x0
      have y1:=(hb14.cell (p:=⟨w9.heap.size,1,none⟩) HLT13.out).trans x1
      obtain ⟨_,hbw14,_⟩:=HBX.out w14 _ _ _ HST14.out
      have HFD14:=HFD.out w14 ev3 SE.1 SE.2 hbw14 HG14.out
      clear hb14 HFD13 x0 x1 HST13 HF13 HG13 HLT13 hbw14
      go_wp2_with fail
      refine HFD14.mono ?_
      rintro e w15 ⟨rfl,hb15⟩
      obtain ⟨_,_,hbw15⟩:=HBX.out w15 _ _ _ (HST14.out.below hb15)
      have HBW15:Hid (Below w.heap.size w w15):=hbw15
      clear hb15 hbw15 HFD14 HST14 HG14
      go_wp2
      go_ret
      exact ⟨rfl,HBW15.out⟩
end Go.Proofs.YtghpdhegfnhmkaaGreatDoor
