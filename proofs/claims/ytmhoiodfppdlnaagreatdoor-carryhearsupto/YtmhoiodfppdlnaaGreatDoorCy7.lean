import Derived.Test.YtmhoiodfppdlnaaGreatDoorCy4
import Derived.Test.YtmhoiodfppdlnaaGreatDoorCy6
import Derived.ProofKit
import Derived.OpenShut
import Derived.ChangeOld
import Derived.Deep.SlicePairs
import Derived.Lib.SmallJoins
import Derived.Test.YtmhoiodfppdlnaaGreatDoorCy5
import Derived.Deep.QuietTactic
import Derived.BigQuiet
import Derived.StillTailTactics
namespace Go.Proofs.YtmhoiodfppdlnaaGreatDoor
open Go.RowKit
def weighM (l:List Msg):Nat:=(l.map fun m=>20+bulkN m).sum
def fitsM (l:List Msg):Bool:=!(l.any fun m=>m.L.any bigV) && decide (weighM l < 6000)
theorem weighM_take {l:List Msg} {m:Msg} {i:Nat} (h:l[i]?=some m):weighM (l.take (i+1))=weighM (l.take i)+(20+bulkN m):=by
 unfold weighM
 rw [List.take_add_one,h,List.map_append,List.sum_append]
 simp
theorem weighM_le (l:List Msg) (i:Nat):weighM (l.take i)<=weighM l:=by
 have h:weighM l=weighM (l.take i)+weighM (l.drop i):=by
  unfold weighM
  rw [<- List.sum_append,<- List.map_append,List.take_append_drop]
 omega
theorem weighM_len (l:List Msg):l.length<=weighM l:=by
 unfold weighM
 induction l with
 | nil=>exact Nat.zero_le _
 | cons x r ih=>rw [List.map_cons,List.sum_cons,List.length_cons];omega
theorem weighM_one {l:List Msg} {m:Msg} (h:m ∈ l):20+bulkN m<=weighM l:=by
 unfold weighM
 induction l with
 | nil=>cases h
 | cons x r ih =>
  rw [List.map_cons,List.sum_cons]
  rcases List.mem_cons.1 h with e | e
  ·subst e;omega
  ·have:=ih e;omega
theorem fitsM_big {l:List Msg} {m:Msg} (h:m ∈ l) (hb:m.L.any bigV=true):fitsM l=false:=by
 unfold fitsM
 have:(l.any fun m=>m.L.any bigV)=true:=List.any_eq_true.2 ⟨m,h,hb⟩
 rw [this]
 rfl
theorem fitsM_end {l:List Msg} (h:∀ m ∈ l,m.L.any bigV=false):fitsM l=decide (weighM l < 6000):=by
 unfold fitsM
 have:(l.any fun m=>m.L.any bigV)=false:=List.any_eq_false.2 fun m hm hb=>by rw [h m hm] at hb;cases hb
 rw [this]
 rfl
set_option maxRecDepth 10000 in
set_option maxHeartbeats 8000000 in
theorem messagesFit_any (p:Option Addr) (l:List Msg) (cap:Nat) (w:World) (hw:weighM l<=4611686018427387904) (h:MsgsAt w p l) :
 Calls Tryz.prog 7 #[.slice p l.length cap] w fun e w'=>e=.returned (.bool (fitsM l))/\Below w.heap.size w w':=by
 obtain ⟨ml,hml,hr,hh⟩:=h
 have hlen:l.length=ml.length:=by rw [<- hml,List.length_map]
 have hmlen:ml.length<=4611686018427387904:=by have:=weighM_len l;omega
 have HR:Hid (Rec mE w p ml):=hr
 have HH:Hid (∀ x ∈ ml,HasL w x):=hh
 have hmem:∀ i,i < ml.length->(msgAt ml i).1 ∈ l:=fun i hi=>by rw [<- hml];exact List.mem_map.2 ⟨_,msgAt_mem hi,rfl⟩
 have HG:Hid (∀ i,i < ml.length->l[i]?=some (msgAt ml i).1):=fun i hi=>by rw [<- hml,List.getElem?_map,List.getElem?_eq_getElem hi,msgAt_get hi];rfl
 have HWT:Hid (∀ i,i < ml.length->weighM (l.take (i+1))=weighM (l.take i)+(20+bulkN (msgAt ml i).1)):=fun i hi=>weighM_take (HG.out i hi)
 have HWL:Hid (∀ i,weighM (l.take i)<=weighM l):=fun i=>weighM_le l i
 have HWO:Hid (∀ i,i < ml.length->20+bulkN (msgAt ml i).1<=weighM l):=fun i hi=>weighM_one (hmem i hi)
 have HBG:Hid (∀ i,i < ml.length->(msgAt ml i).1.L.any bigV=true->fitsM l=false):=fun i hi hb=>fitsM_big (hmem i hi) hb
 have HEN:Hid ((∀ i,i < ml.length->(msgAt ml i).1.L.any bigV=false)->fitsM l=decide (weighM (l.take ml.length) < 6000)):=fun hall=>by
  rw [<- hlen,List.take_length]
  refine fitsM_end fun m hm=>?_
  rw [<- hml] at hm
  obtain ⟨x,hx,rfl⟩:=List.mem_map.1 hm
  obtain ⟨i,hi,rfl⟩:=List.getElem_of_mem hx
  have:=hall i hi
  rw [<- msgAt_get hi] at this
  exact this
 have H0:Hid (weighM (l.take 0)=0):=by show _=_;rfl
 rw [hlen]
 generalize fitsM l=R at *
 generalize weighM l=WW at *
 have HBU:Hid (∀ (x:Msg×Lv) W,HasL W x->bulkN x.1<=9223372036854775807->Calls Tryz.prog 32 #[.agg #[.string x.1.from_,.string x.1.to_,.string x.1.kind,.string x.1.key,.int .i64 x.1.op,.int .i64 x.1.config,.bool x.1.shut,.slice x.2.1 x.2.2.1 x.2.2.2]] W fun e w'=>e=.returned (.int .i64 ((bulkN x.1:Nat):Int))/\Below W.heap.size W w'):=fun x W hx hb=>by
  have h:=bulk_any x.1 x.2.1 x.2.2.2 W hx.recs hb
  rw [hx.len]
  exact h
 clear hr hh hml hlen hmem HG
 go_enter Tryz.func7,Tryz.ntmps7
 go_wp2
 go_loopw [3,4] (fun nv x wr=>∃ i:Nat,i<=ml.length/\x=.int .i64 i/\nv=.int .i64 ((weighM (l.take i):Nat):Int)/\(∀ j,j < i->(msgAt ml j).1.L.any bigV=false)/\Below w.heap.size w wr) (fun _ x _=>ml.length - (intOf x).toNat)
 case atStart=>exact ⟨0,Nat.zero_le _,rfl,by rw [H0.out];rfl,fun j hj=>absurd hj (Nat.not_lt_zero _),Below.refl _ _⟩
 case round =>
  obtain ⟨i,hi,rfl,rfl,hall,hB⟩:=hrel
  obtain ⟨w1,rfl⟩:∃ w1,w1=wr:=⟨_,rfl⟩
  have HB:Hid (Below w.heap.size w w1):=hB
  have HALL:Hid (∀ j,j < i->(msgAt ml j).1.L.any bigV=false):=hall
  have hwi:=HWL.out i
  clear hall
  by_cases hil:i < ml.length
  ·obtain ⟨b,o,hpp,hblt,d0,d1,d2,d3,d4,d5,d6,d7⟩:=msg_cells (HR.out.below hB) hil
   rw [msgAt_get hil] at d0 d1 d2 d3 d4 d5 d6 d7
   have hwo:=HWO.out i hil
   have hwt:=HWT.out i hil
   have hws:=HWL.out (i+1)
   rw [hwt] at hws
   have HHX:Hid (HasL w (msgAt ml i)):=HH.out _ (msgAt_mem hil)
   have HBX:=HBU.out (msgAt ml i) w1 (HHX.out.below hB) (by omega)
   have HWTI:Hid (weighM (l.take (i+1))=weighM (l.take i)+(20+bulkN (msgAt ml i).1)):=hwt
   have HBGI:Hid ((msgAt ml i).1.L.any bigV=true->R=false):=HBG.out i hil
   have HNX:Hid ((msgAt ml i).1.L.any bigV=false->∀ j,j < i+1->(msgAt ml j).1.L.any bigV=false):=fun hb j hj=>by
    by_cases e:j=i
    ·rw [e];exact hb
    ·exact HALL.out j (by omega)
   have hbl:=bulkV_len (msgAt ml i).1.L
   have hbn:bulkV (msgAt ml i).1.L<=bulkN (msgAt ml i).1:=by unfold bulkN;omega
   subst hpp
   clear hwt hB HH HBU HWT HWL HWO HBG HALL
   generalize msgAt ml i=x at *
   generalize weighM (l.take i)=ni at *
   obtain ⟨⟨m1,m2,m3,m4,m5,m6,m7,mL⟩,lp,ln,lc⟩:=x
   have hln:ln=mL.length:=HHX.out.len
   subst hln
   dsimp only at *
   generalize bulkN ⟨m1,m2,m3,m4,m5,m6,m7,mL⟩=bn at *
   have HCE:Hid (∀ W,Below w1.heap.size w1 W->W.cell? ⟨b,o+i*8+7,none⟩=some (.slice lp mL.length lc)/\Rec verE W lp mL/\Below w.heap.size w W):=fun W hW=>⟨(hW.cell (p:=⟨b,o+i*8+7,none⟩) hblt).trans d7,(HHX.out.recs.below HB.out).below hW,HB.out.trans (hW.mono HB.out.size)⟩
   have HBI:Hid (∀ j,j < mL.length->bigV (verAt mL j)=true->mL.any bigV=true):=fun j hj hv=>big_of_at hj hv
   have HBS:Hid (∀ j,j < mL.length->(mL.take (j+1)).any bigV=((mL.take j).any bigV || bigV (verAt mL j))):=fun j hj=>big_succ hj
   have HTK:Hid (mL.take mL.length=mL):=List.take_length
   go_wp2_with fail
   refine HBX.mono ?_
   rintro e w2 ⟨rfl,hb2⟩
   have HB12:Hid (Below w1.heap.size w1 w2):=hb2
   have q7:=(HCE.out w2 hb2).1
   clear HBX hb2 d0 d1 d2 d3 d4 d5 d6 d7
   go_wp2
   go_loopw [5] (fun y wr=>∃ j:Nat,j<=mL.length/\y=.int .i64 j/\(mL.take j).any bigV=false/\wr=w2) (fun y _=>mL.length - (intOf y).toNat)
   case atStart=>exact ⟨0,Nat.zero_le _,rfl,rfl,rfl⟩
   case round =>
    obtain ⟨j,hj,rfl,hany,hwr⟩:=hrel
    subst hwr
    have HANY:Hid ((mL.take j).any bigV=false):=hany
    clear hany
    by_cases hjl:j < mL.length
    ·obtain ⟨b',o',hpp,hblt',v0,v1,v2,v3,v4⟩:=ver_cells (HCE.out wr HB12.out).2.1 hjl
     subst hpp
     have HS:=HBS.out j hjl
     have HI:=HBI.out j hjl
     have HBE:Hid (bigV (verAt mL j)=decide (200 < (verAt mL j).size/\(verAt mL j).size<=1000)):=by show _=_;rfl
     rw [HANY.out,Bool.false_or] at HS
     have HSH:Hid ((mL.take (j+1)).any bigV=bigV (verAt mL j)):=HS
     have HIH:Hid (bigV (verAt mL j)=true->mL.any bigV=true):=HI
     clear HS HI v0 v1 v3 v4
     generalize verAt mL j=x at *
     obtain ⟨xn,xw,xs,xa,xt⟩:=x
     dsimp only at v2 HBE
     by_cases h1:200 < xs
     ·have d1:decide (200 < xs)=true:=decide_eq_true h1
      by_cases h2:xs<=1000
      ·have d2:decide (xs<=1000)=true:=decide_eq_true h2
       have HR0:Hid (R=false):=HBGI.out (HIH.out (by rw [HBE.out];exact decide_eq_true ⟨h1,h2⟩))
       go_wp2
       go_ret
       exact ⟨by rw [HR0.out];rfl,(HCE.out wr HB12.out).2.2⟩
      ·have d2:decide (xs<=1000)=false:=decide_eq_false h2
       have HN:Hid ((mL.take (j+1)).any bigV=false):=by show _=_;rw [HSH.out,HBE.out];exact decide_eq_false fun h=>h2 h.2
       go_wp2
       go_roundw
       case rel=>exact ⟨j+1,by omega,by go_num,HN.out,trivial⟩
       case measure=>simp [intOf];omega
     ·have d1:decide (200 < xs)=false:=decide_eq_false h1
      have HN:Hid ((mL.take (j+1)).any bigV=false):=by show _=_;rw [HSH.out,HBE.out];exact decide_eq_false fun h=>h1 h.1
      go_wp2
      go_roundw
      case rel=>exact ⟨j+1,by omega,by go_num,HN.out,trivial⟩
      case measure=>simp [intOf];omega
    ·have hje:mL.take j=mL:=List.take_of_length_le (by omega)
     have HN:Hid (mL.any bigV=false):=by have:=HANY.out;rw [hje] at this;exact this
     have HW3:Hid (((ni:Int)+20+(bn:Int))=((weighM (l.take (i+1)):Nat):Int)):=by show _=_;rw [HWTI.out];omega
     clear hje HANY
     go_wp2
     go_roundw
     case rel=>exact ⟨i+1,by omega,by go_num,by rw [<- HW3.out],HNX.out HN.out,(HCE.out wr HB12.out).2.2⟩
     case measure=>simp [intOf];omega
  ·have HRE:Hid (R=decide (weighM (l.take ml.length) < 6000)):=HEN.out fun j hj=>HALL.out j (by omega)
   have hie:i=ml.length:=by omega
   rw [<- hie] at HRE
   clear hB hie
   generalize weighM (l.take i)=ni at *
   go_wp2
   go_ret
   exact ⟨ret_bool (by rw [HRE.out];exact decide_eq_decide.2 (by omega)),HB.out⟩
end Go.Proofs.YtmhoiodfppdlnaaGreatDoor
namespace Go.Proofs.YtmhoiodfppdlnaaGreatDoor
open Go.ChangeShapes Go.WideShapes Go.ChangeAt Go.RowKit
def MsgI (x:Msg):Prop:=(∀ v ∈ x.L,VerI64 v)/\(-9223372036854775808<=x.config/\x.config<=9223372036854775807)
theorem aCellsBool:Tryz.prog.cellsOf 4=1:=by kernel_rfl
theorem aCellsMsg:Tryz.prog.cellsOf 59=8:=by kernel_rfl
theorem aMsgFields:∃ f0 f1 f2 f3 f4 f5 f6 f7,Tryz.prog.underlying 59=some (.struct #[f0,f1,f2,f3,f4,f5,f6,f7])/\(f0.offset=0/\f1.offset=1/\f2.offset=2/\f3.offset=3/\f4.offset=4/\f5.offset=5/\f6.offset=6/\f7.offset=7)/\f0.type=9/\f1.type=9/\f2.type=9/\f3.type=9/\f4.type=3/\f5.type=3/\f6.type=4/\f7.type=55:=⟨_,_,_,_,_,_,_,_,Tryz.underlying59,⟨rfl,rfl,rfl,rfl,rfl,rfl,rfl,rfl⟩,rfl,rfl,rfl,rfl,rfl,rfl,rfl,rfl⟩
theorem bulkV_tol (l:List Ver):bulkV l<=60*tolN l:=by
 induction l with
 | nil=>exact Nat.le_refl _
 | cons v l ih =>
  have e:tolN (v :: l)=1+v.text.size / 20+tolN l:=by simp [tolN]
  have e':bulkV (v :: l)=40+v.text.size+bulkV l:=by simp [bulkV]
  omega
set_option maxRecDepth 100000 in
theorem msg_elem9 {H:Type} {m:DataW H->Nat} (hb:IsBulk m) {enc:TypeId×Value->H} {W:World} {fuel:Nat} {cs:List Value} {y:DataW H×List MemPlace} (h:DataW.trod enc Tryz.prog W 0 (fun _=>true) true fuel 59 cs=some y) (hcl:cs.length=8):∃ x:Msg×Lv,cs=msgC x/\HasL W x/\MsgI x.1/\20+bulkN x.1<=60*m y.1:=by
 obtain ⟨f0,f1,f2,f3,f4,f5,f6,f7,hst,⟨o0,o1,o2,o3,o4,o5,o6,o7⟩,t0,t1,t2,t3,t4,t5,t6,t7⟩:=aMsgFields
 obtain ⟨xs,n,_,hx,_,hlen,hr⟩:=DataW.trod_struct hst h
 match cs,hcl,xs,hlen with
 | [v0,v1,v2,v3,v4,v5,v6,v7],_,[y0,y1,y2,y3,y4,y5,y6,y7],_ =>
  have r0:=hr 0 f0 rfl
  have r1:=hr 1 f1 rfl
  have r2:=hr 2 f2 rfl
  have r3:=hr 3 f3 rfl
  have r4:=hr 4 f4 rfl
  have r5:=hr 5 f5 rfl
  have r6:=hr 6 f6 rfl
  have r7:=hr 7 f7 rfl
  rw [t0,o0,qCellsStr] at r0
  rw [t1,o1,qCellsStr] at r1
  rw [t2,o2,qCellsStr] at r2
  rw [t3,o3,qCellsStr] at r3
  rw [t4,o4,vCellsInt] at r4
  rw [t5,o5,vCellsInt] at r5
  rw [t6,o6,aCellsBool] at r6
  rw [t7,o7,qCellsVers] at r7
  obtain ⟨m1,h1,e1,_⟩:=DataW.trod_string Tryz.underlying9 (show DataW.trod _ _ _ _ _ _ _ _ [v0]=some y0 from r0)
  obtain ⟨m2,h2,e2,_⟩:=DataW.trod_string Tryz.underlying9 (show DataW.trod _ _ _ _ _ _ _ _ [v1]=some y1 from r1)
  obtain ⟨m3,h3,e3,_⟩:=DataW.trod_string Tryz.underlying9 (show DataW.trod _ _ _ _ _ _ _ _ [v2]=some y2 from r2)
  obtain ⟨m4,h4,e4,_⟩:=DataW.trod_string Tryz.underlying9 (show DataW.trod _ _ _ _ _ _ _ _ [v3]=some y3 from r3)
  obtain ⟨m5,h5,_,_⟩:=DataW.trod_int Tryz.underlying3 (show DataW.trod _ _ _ _ _ _ _ _ [v4]=some y4 from r4)
  obtain ⟨m6,h6,_,w6⟩:=DataW.trod_int Tryz.underlying3 (show DataW.trod _ _ _ _ _ _ _ _ [v5]=some y5 from r5)
  obtain ⟨m7,h7,_⟩:=DataW.trod_bool Tryz.underlying4 (show DataW.trod _ _ _ _ _ _ _ _ [v6]=some y6 from r6)
  obtain ⟨p,L,c,h8,hrec,hrm,hn,hvs,hll⟩:=vers_arg8 hb (show DataW.trod _ _ _ _ _ _ _ _ [v7]=some y7 from r7)
  simp only [List.cons.injEq,and_true] at h1 h2 h3 h4 h5 h6 h7
  subst h1 h2 h3 h4 h5 h6 h7 h8
  refine ⟨(⟨m1,m2,m3,m4,m5,m6,m7,L⟩,(p,L.length,c)),rfl,⟨rfl,hrec,hrm,hn⟩,⟨hvs,by simp [Lit.wf,IntKind.min,IntKind.max,IntKind.bits,IntKind.signed] at w6;exact w6⟩,?_⟩
  have hd:y.1=.agg [y0.1,y1.1,y2.1,y3.1,y4.1,y5.1,y6.1,y7.1]:=by rw [hx];rfl
  have hs:=hb.agg [y0.1,y1.1,y2.1,y3.1,y4.1,y5.1,y6.1,y7.1]
  rw [<- hd] at hs
  simp only [List.map_cons,List.map_nil,List.sum_cons,List.sum_nil] at hs
  have b1:m1.size<=m y0.1:=by rw [e1];exact hb.str' m1
  have b2:m2.size<=m y1.1:=by rw [e2];exact hb.str' m2
  have b3:m3.size<=m y2.1:=by rw [e3];exact hb.str' m3
  have b4:m4.size<=m y3.1:=by rw [e4];exact hb.str' m4
  have b5:=hb.one y4.1
  have b6:=bulkV_tol L
  show 20+(m1.size+m2.size+m3.size+m4.size+bulkV L)<=_
  omega
set_option maxRecDepth 100000 in
theorem msgs_arg9 {H:Type} {m:DataW H->Nat} (hb:IsBulk m) {enc:TypeId×Value->H} {W:World} {fuel:Nat} {v:Value} {y:DataW H×List MemPlace} (h:DataW.trod enc Tryz.prog W 0 (fun _=>true) true fuel 27 [v]=some y) :
 ∃ p l cap,v=.slice p l.length cap/\MsgsAt W p l/\(∀ x ∈ l,MsgI x)/\weighM l<=60*m y.1:=by
 rcases Deep.open_slice Tryz.underlying27 h with ⟨hcs,_⟩ | ⟨a,len0,cap0,m0,nn,D,Pl,hcs,_,hle,hcm,hm,hy,hx⟩
 ·simp at hcs
  subst hcs
  exact ⟨none,[],0,rfl,MsgsAt.nil _ _,(fun x hx=>by cases hx),Nat.zero_le _⟩
 ·simp at hcs
  subst hcs
  have hlm:len0<=m0:=by rw [hm];split <;> omega
  have hsum:((List.range len0).map fun i=>m (D i)).sum<=m y.1:=by
   rw [hy]
   have h1:=hb.slice ((List.range len0).map D)
   simp only [List.map_map] at h1
   exact h1 _
  have hv:∀ i,∃ x:Msg×Lv,i < len0->(∀ j u,(msgC x)[j]?=some u->W.cell? ((a.add (i*8)).add j)=some u)/\HasL W x/\MsgI x.1/\20+bulkN x.1<=60*m (D i):=fun i=>by
   by_cases hi:i < len0
   ·obtain ⟨cs',h1,h2⟩:=hx i (by omega)
    rw [aCellsMsg] at h1
    obtain ⟨_,hlen,hcell⟩:=World.cells?_some h1
    obtain ⟨x,hcx,hfx,hvx,hbx⟩:=msg_elem9 hb h2 hlen
    refine ⟨x,fun _=>⟨fun j u hj=>?_,hfx,hvx,hbx⟩⟩
    have hj8:j < 8:=(List.getElem?_eq_some_iff.1 hj).1
    have:=hcell j (by omega)
    rw [this,hcx]
    exact hj
   ·exact ⟨(⟨⟨#[]⟩,⟨#[]⟩,⟨#[]⟩,⟨#[]⟩,0,0,false,[]⟩,(none,0,0)),fun h=>absurd h hi⟩
  obtain ⟨R,hR⟩:∃ R:Nat->Msg×Lv,∀ i,i < len0->(∀ j u,(msgC (R i))[j]?=some u->W.cell? ((a.add (i*8)).add j)=some u)/\HasL W (R i)/\MsgI (R i).1/\20+bulkN (R i).1<=60*m (D i):=⟨fun i=>Classical.choose (hv i),fun i=>Classical.choose_spec (hv i)⟩
  clear hv
  have hlen:((List.range len0).map R).length=len0:=by simp
  have hat:∀ i,i < len0->((List.range len0).map R)[i]?=some (R i):=fun i hi=>by
   rw [List.getElem?_map,List.getElem?_range hi]
   rfl
  refine ⟨some a,((List.range len0).map R).map Prod.fst,cap0,by rw [List.length_map,hlen],⟨(List.range len0).map R,rfl,?_,fun x hxm=>?_⟩,fun x hxm=>?_,?_⟩
  ·by_cases h0:len0=0
   ·exact Or.inl (List.length_eq_zero_iff.1 (by rw [hlen];exact h0))
   ·obtain ⟨u0,hx0⟩:∃ u,W.cell? ((a.add (0*8)).add 0)=some u:=⟨_,(hR 0 (by omega)).1 0 _ rfl⟩
    obtain ⟨b,off,sp⟩:=a
    have hsp:sp=none:=by
     cases sp with
     | none=>rfl
     | some q =>
      exfalso
      simp [Addr.add,World.cell?] at hx0
      revert hx0
      split <;> intro h9 <;> cases h9
    subst hsp
    refine Or.inr ⟨b,off,rfl,?_,fun i x hxi j u hj=>?_⟩
    ·rw [Addr.add_lit,Addr.add_lit] at hx0
     rcases Nat.lt_or_ge b W.heap.size with h' | h'
     ·exact h'
     ·simp [World.cell?,Array.getElem?_eq_none h'] at hx0
    ·have hi:i < len0:=by have:=(List.getElem?_eq_some_iff.1 hxi).1;rw [hlen] at this;exact this
     rw [hat i hi] at hxi
     have e:=Option.some.inj hxi
     have hc:=(hR i hi).1 j u (by rw [e];exact hj)
     rw [Addr.add_lit,Addr.add_lit] at hc
     exact hc
  ·obtain ⟨i,hi,rfl⟩:=List.mem_map.1 hxm
   exact (hR i (List.mem_range.1 hi)).2.1
  ·obtain ⟨z,hz,rfl⟩:=List.mem_map.1 hxm
   obtain ⟨i,hi,rfl⟩:=List.mem_map.1 hz
   exact (hR i (List.mem_range.1 hi)).2.2.1
  ·have h2 : weighM (((List.range len0).map R).map Prod.fst) <= ((List.range len0).map fun i => 60 * m (D i)).sum := by
    unfold weighM
    rw [List.map_map,List.map_map]
    exact sum_range_le len0 fun i hi=>(hR i hi).2.2.2
   have h3:∀ (L:List Nat),(L.map fun i=>60*m (D i)).sum=60*(L.map fun i=>m (D i)).sum:=by
    intro L
    induction L with
    | nil=>rfl
    | cons x r ih=>simp only [List.map_cons,List.sum_cons,ih];omega
   rw [h3] at h2
   omega
end Go.Proofs.YtmhoiodfppdlnaaGreatDoor
namespace Go.Proofs.YtmhoiodfppdlnaaGreatDoor
open Go.RowKit
set_option maxRecDepth 10000 in
set_option maxHeartbeats 4000000 in
theorem wireOf_any (m:Msg) (p:Option Addr) (c:Nat) (w:World) (hl:m.L.length<=2932031007317) (hr:Rec verE w p m.L) (hc:p=none->m.L=[]/\c=0) :
 Calls Tryz.prog 19 #[msgA m (.slice p m.L.length c)] w fun e w'=>(∃ lv,e=.returned (msgA m lv)/\OwnR verE 76 w' w.heap.size lv m.L)/\Below w.heap.size w w':=by
 obtain ⟨m1,m2,m3,m4,m5,m6,m7,mL⟩:=m
 unfold msgA
 simp only [] at *
 have hb1:Below w.heap.size w (((w.alloc (.cells #[.string m1,.string m2,.string m3,.string m4,.int .i64 m5,.int .i64 m6,.bool m7,.slice p mL.length c] 59)).alloc (.cells #[.string ⟨#[]⟩,.string ⟨#[]⟩,.string ⟨#[]⟩,.string ⟨#[]⟩,.int .i64 0,.int .i64 0,.bool false,.slice none 0 0] 57)).alloc (.cells #[.string m1,.string m2,.string m3,.string m4,.int .i64 m5,.int .i64 m6,.bool m7,.slice none 0 0] 57)):=(((Below.refl _ _).alloc (Nat.le_refl _) _).alloc (by simp) _).alloc (by simp;omega) _
 have he1:(((w.alloc (.cells #[.string m1,.string m2,.string m3,.string m4,.int .i64 m5,.int .i64 m6,.bool m7,.slice p mL.length c] 59)).alloc (.cells #[.string ⟨#[]⟩,.string ⟨#[]⟩,.string ⟨#[]⟩,.string ⟨#[]⟩,.int .i64 0,.int .i64 0,.bool false,.slice none 0 0] 57)).alloc (.cells #[.string m1,.string m2,.string m3,.string m4,.int .i64 m5,.int .i64 m6,.bool m7,.slice none 0 0] 57)).heap[w.heap.size+1]?=some (.cells #[.string ⟨#[]⟩,.string ⟨#[]⟩,.string ⟨#[]⟩,.string ⟨#[]⟩,.int .i64 0,.int .i64 0,.bool false,.slice none 0 0] 57 (0,0)):=by
  have e:w.heap.size+1=(w.alloc (.cells #[.string m1,.string m2,.string m3,.string m4,.int .i64 m5,.int .i64 m6,.bool m7,.slice p mL.length c] 59)).heap.size:=by simp
  rw [heap_alloc_old _ _ (by simp),e]
  exact heap_alloc_new _ _
 have he2:(((w.alloc (.cells #[.string m1,.string m2,.string m3,.string m4,.int .i64 m5,.int .i64 m6,.bool m7,.slice p mL.length c] 59)).alloc (.cells #[.string ⟨#[]⟩,.string ⟨#[]⟩,.string ⟨#[]⟩,.string ⟨#[]⟩,.int .i64 0,.int .i64 0,.bool false,.slice none 0 0] 57)).alloc (.cells #[.string m1,.string m2,.string m3,.string m4,.int .i64 m5,.int .i64 m6,.bool m7,.slice none 0 0] 57)).heap[w.heap.size+2]?=some (.cells #[.string m1,.string m2,.string m3,.string m4,.int .i64 m5,.int .i64 m6,.bool m7,.slice none 0 0] 57 (0,0)):=by
  have e:w.heap.size+2=((w.alloc (.cells #[.string m1,.string m2,.string m3,.string m4,.int .i64 m5,.int .i64 m6,.bool m7,.slice p mL.length c] 59)).alloc (.cells #[.string ⟨#[]⟩,.string ⟨#[]⟩,.string ⟨#[]⟩,.string ⟨#[]⟩,.int .i64 0,.int .i64 0,.bool false,.slice none 0 0] 57)).heap.size:=by simp
  rw [e]
  exact heap_alloc_new _ _
 have HBK:Hid ((((w.alloc (.cells #[.string m1,.string m2,.string m3,.string m4,.int .i64 m5,.int .i64 m6,.bool m7,.slice p mL.length c] 59)).alloc (.cells #[.string ⟨#[]⟩,.string ⟨#[]⟩,.string ⟨#[]⟩,.string ⟨#[]⟩,.int .i64 0,.int .i64 0,.bool false,.slice none 0 0] 57)).alloc (.cells #[.string m1,.string m2,.string m3,.string m4,.int .i64 m5,.int .i64 m6,.bool m7,.slice none 0 0] 57)).heap[w.heap.size+1]?=some (.cells #[.string ⟨#[]⟩,.string ⟨#[]⟩,.string ⟨#[]⟩,.string ⟨#[]⟩,.int .i64 0,.int .i64 0,.bool false,.slice none 0 0] 57 (0,0))/\(((w.alloc (.cells #[.string m1,.string m2,.string m3,.string m4,.int .i64 m5,.int .i64 m6,.bool m7,.slice p mL.length c] 59)).alloc (.cells #[.string ⟨#[]⟩,.string ⟨#[]⟩,.string ⟨#[]⟩,.string ⟨#[]⟩,.int .i64 0,.int .i64 0,.bool false,.slice none 0 0] 57)).alloc (.cells #[.string m1,.string m2,.string m3,.string m4,.int .i64 m5,.int .i64 m6,.bool m7,.slice none 0 0] 57)).heap[w.heap.size+2]?=some (.cells #[.string m1,.string m2,.string m3,.string m4,.int .i64 m5,.int .i64 m6,.bool m7,.slice none 0 0] 57 (0,0))/\Below w.heap.size w (((w.alloc (.cells #[.string m1,.string m2,.string m3,.string m4,.int .i64 m5,.int .i64 m6,.bool m7,.slice p mL.length c] 59)).alloc (.cells #[.string ⟨#[]⟩,.string ⟨#[]⟩,.string ⟨#[]⟩,.string ⟨#[]⟩,.int .i64 0,.int .i64 0,.bool false,.slice none 0 0] 57)).alloc (.cells #[.string m1,.string m2,.string m3,.string m4,.int .i64 m5,.int .i64 m6,.bool m7,.slice none 0 0] 57))):=⟨he1,he2,hb1⟩
 have HR:Hid (Rec verE (((w.alloc (.cells #[.string m1,.string m2,.string m3,.string m4,.int .i64 m5,.int .i64 m6,.bool m7,.slice p mL.length c] 59)).alloc (.cells #[.string ⟨#[]⟩,.string ⟨#[]⟩,.string ⟨#[]⟩,.string ⟨#[]⟩,.int .i64 0,.int .i64 0,.bool false,.slice none 0 0] 57)).alloc (.cells #[.string m1,.string m2,.string m3,.string m4,.int .i64 m5,.int .i64 m6,.bool m7,.slice none 0 0] 57)) p mL):=hr.below hb1
 have hsz:w.heap.size+3<=(((w.alloc (.cells #[.string m1,.string m2,.string m3,.string m4,.int .i64 m5,.int .i64 m6,.bool m7,.slice p mL.length c] 59)).alloc (.cells #[.string ⟨#[]⟩,.string ⟨#[]⟩,.string ⟨#[]⟩,.string ⟨#[]⟩,.int .i64 0,.int .i64 0,.bool false,.slice none 0 0] 57)).alloc (.cells #[.string m1,.string m2,.string m3,.string m4,.int .i64 m5,.int .i64 m6,.bool m7,.slice none 0 0] 57)).heap.size:=by simp
 have HC:Hid (p=none->mL=[]/\c=0):=hc
 clear hb1 he1 he2 hr hc
 go_enter Tryz.func19,Tryz.ntmps19
 go_wp2_with (first | (at_builtin;refine wpList_append_recs (E:=verE) rfl (.tmp 20) (.tmp 22) 55 76 rfl (.agg #[.int .i64 0,.int .i64 0,.int .i64 0,.int .i64 0,.string ⟨#[]⟩]) 48 Tryz.underlying55 verinfo rfl (w.heap.size+3) (.slice none 0 0) [] rfl (OwnR.nil _ _ _) p mL c rfl HR.out HC.out (by unfold maxLen;simp;omega) (by simp;omega) hsz ?_;intro v3 w3 hO3 hb3;obtain ⟨p3,c3,hv3,_⟩:=hO3.form;rw [List.nil_append] at hv3 hO3;subst hv3;have e1:=(hb3.block (w.heap.size+1) (by omega)).trans HBK.out.1;have e2:=(hb3.block (w.heap.size+2) (by omega)).trans HBK.out.2.1;have HB3:Hid (Below w.heap.size w w3):=(HBK.out.2.2.trans (hb3.mono (by omega)));have HO3:Hid (OwnR verE 76 w3 (w.heap.size+3) (.slice p3 mL.length c3) mL):=hO3;have z0:w3.cell? ⟨w.heap.size+1,0,none⟩=some (.string ⟨#[]⟩):=(by simp [World.cell?,e1]);have z1:w3.cell? ⟨w.heap.size+1,1,none⟩=some (.string ⟨#[]⟩):=(by simp [World.cell?,e1]);have z2:w3.cell? ⟨w.heap.size+1,2,none⟩=some (.string ⟨#[]⟩):=(by simp [World.cell?,e1]);have z3:w3.cell? ⟨w.heap.size+1,3,none⟩=some (.string ⟨#[]⟩):=(by simp [World.cell?,e1]);have z4:w3.cell? ⟨w.heap.size+1,4,none⟩=some (.int .i64 0):=(by simp [World.cell?,e1]);have z5:w3.cell? ⟨w.heap.size+1,5,none⟩=some (.int .i64 0):=(by simp [World.cell?,e1]);have z6:w3.cell? ⟨w.heap.size+1,6,none⟩=some (.bool false):=(by simp [World.cell?,e1]);have z7:w3.cell? ⟨w.heap.size+1,7,none⟩=some (.slice none 0 0):=(by simp [World.cell?,e1]);have y0:w3.cell? ⟨w.heap.size+2,0,none⟩=some (.string m1):=(by simp [World.cell?,e2]);have y1:w3.cell? ⟨w.heap.size+2,1,none⟩=some (.string m2):=(by simp [World.cell?,e2]);have y2:w3.cell? ⟨w.heap.size+2,2,none⟩=some (.string m3):=(by simp [World.cell?,e2]);have y3:w3.cell? ⟨w.heap.size+2,3,none⟩=some (.string m4):=(by simp [World.cell?,e2]);have y4:w3.cell? ⟨w.heap.size+2,4,none⟩=some (.int .i64 m5):=(by simp [World.cell?,e2]);have y5:w3.cell? ⟨w.heap.size+2,5,none⟩=some (.int .i64 m6):=(by simp [World.cell?,e2]);have y6:w3.cell? ⟨w.heap.size+2,6,none⟩=some (.bool m7):=(by simp [World.cell?,e2]);have y7:w3.cell? ⟨w.heap.size+2,7,none⟩=some (.slice none 0 0):=(by simp [World.cell?,e2]);have g1:∀ o,w3.frozen? ⟨w.heap.size+1,o,none⟩=false:=(fun o=>by simp [World.frozen?,e1]);have g2:∀ o,w3.frozen? ⟨w.heap.size+2,o,none⟩=false:=(fun o=>by simp [World.frozen?,e2]);clear e1 e2 hO3 hb3))
 refine bodyPost_ret (v:=.agg #[.string m1,.string m2,.string m3,.string m4,.int .i64 m5,.int .i64 m6,.bool m7,.slice p3 mL.length c3]) (by simp [results,Tryz.results19,go_sem,z0,z1,z2,z3,z4,z5,z6,z7]) rfl ⟨⟨_,rfl,?_⟩,?_⟩
 ·exact OwnR.base (((((((((HO3.out.setC (b:=w.heap.size+2) (by omega) 7 _).setC (b:=w.heap.size+1) (by omega) 0 _).setC (b:=w.heap.size+1) (by omega) 1 _).setC (b:=w.heap.size+1) (by omega) 2 _).setC (b:=w.heap.size+1) (by omega) 3 _).setC (b:=w.heap.size+1) (by omega) 4 _).setC (b:=w.heap.size+1) (by omega) 5 _).setC (b:=w.heap.size+1) (by omega) 6 _).setC (b:=w.heap.size+1) (by omega) 7 _) (by omega)
 ·exact (((((((((HB3.out.setCell (p:=⟨w.heap.size+2,7,none⟩) (by show w.heap.size<=w.heap.size+2;omega) _).setCell (p:=⟨w.heap.size+1,0,none⟩) (by show w.heap.size<=w.heap.size+1;omega) _).setCell (p:=⟨w.heap.size+1,1,none⟩) (by show w.heap.size<=w.heap.size+1;omega) _).setCell (p:=⟨w.heap.size+1,2,none⟩) (by show w.heap.size<=w.heap.size+1;omega) _).setCell (p:=⟨w.heap.size+1,3,none⟩) (by show w.heap.size<=w.heap.size+1;omega) _).setCell (p:=⟨w.heap.size+1,4,none⟩) (by show w.heap.size<=w.heap.size+1;omega) _).setCell (p:=⟨w.heap.size+1,5,none⟩) (by show w.heap.size<=w.heap.size+1;omega) _).setCell (p:=⟨w.heap.size+1,6,none⟩) (by show w.heap.size<=w.heap.size+1;omega) _).setCell (p:=⟨w.heap.size+1,7,none⟩) (by show w.heap.size<=w.heap.size+1;omega) _)
set_option maxRecDepth 10000 in
set_option maxHeartbeats 4000000 in
theorem backWires_any (B:Nat) (p:Option Addr) (l:List Msg) (cap:Nat) (w:World) (hl:l.length<=1000) (hB0:B<=w.heap.size) (h:MsgsN B w p l) :
 Calls Tryz.prog 15 #[.slice p l.length cap] w fun e w'=>(∃ p' c',e=.returned (.slice p' l.length c')/\MsgsN B w' p' l)/\Below w.heap.size w w':=by
 obtain ⟨ml,hml,hr,hh,_⟩:=h
 have hlen:l.length=ml.length:=by rw [<- hml,List.length_map]
 rw [hlen] at hl ⊢
 have HR:Hid (Rec mE w p ml):=hr
 have HH:Hid (∀ x ∈ ml,HasL w x/\∀ b o,x.2.1=some ⟨b,o,none⟩->B<=b):=hh
 have HB0:Hid (B<=w.heap.size):=hB0
 clear hB0
 have HML:Hid (ml.map Prod.fst=l):=hml
 have HBK:Hid (∀ (m:Msg) (h:Lv) W,Calls Tryz.prog 41 #[.agg #[.string m.from_,.string m.to_,.string m.kind,.string m.key,.int .i64 m.op,.int .i64 m.config,.bool m.shut,.slice h.1 h.2.1 h.2.2]] W fun e w'=>e=.returned (.agg #[.string m.from_,.string m.to_,.string m.kind,.string m.key,.int .i64 m.op,.int .i64 m.config,.bool m.shut,.slice h.1 h.2.1 h.2.2])/\Below W.heap.size W w'):=fun m h W=>backWire_any m h.1 h.2.1 h.2.2 W
 clear hr hh hml hlen
 go_enter Tryz.func15,Tryz.ntmps15
 go_wp2
 go_loopw [3,4] (fun v x wr=>∃ i:Nat,i<=ml.length/\x=.int .i64 i/\OwnR mE 59 wr w.heap.size v (ml.take i)/\Below w.heap.size w wr) (fun _ x _=>ml.length - (intOf x).toNat)
 case atStart=>exact ⟨0,Nat.zero_le _,rfl,OwnR.nil _ _ _,Below.refl _ _⟩
 case round =>
  obtain ⟨i,hi,rfl,hO,hB⟩:=hrel
  obtain ⟨w1,rfl⟩:∃ w1,w1=wr:=⟨_,rfl⟩
  obtain ⟨pv,cv,rfl,hms,hcv,hpn,hpb⟩:=hO.form
  have HPB:Hid (∀ b o,pv=some ⟨b,o,none⟩->w.heap.size<=b/\b < w1.heap.size):=hpb
  clear hpb
  have HO:Hid (OwnR mE 59 w1 w.heap.size (.slice pv (ml.take i).length cv) (ml.take i)):=hO
  have HB:Hid (Below w.heap.size w w1):=hB
  have HMS:Hid (Rec mE w1 pv (ml.take i)):=hms
  have htl:(ml.take i).length<=1000:=by rw [List.length_take];omega
  clear hO hms hpn
  by_cases hil:i < ml.length
  ·have HT:Hid (ml.take (i+1)=ml.take i ++ [msgAt ml i]):=msg_take hil
   obtain ⟨b,o,hpp,hblt,d0,d1,d2,d3,d4,d5,d6,d7⟩:=msg_cells (HR.out.below hB) hil
   subst hpp
   rw [msgAt_get hil] at d0 d1 d2 d3 d4 d5 d6 d7
   have HBX:=HBK.out (msgAt ml i).1 (msgAt ml i).2
   clear hB
   generalize msgAt ml i=x at *
   generalize ml.take i=done at *
   obtain ⟨⟨m1,m2,m3,m4,m5,m6,m7,mL⟩,lp,ln,lc⟩:=x
   dsimp only at d0 d1 d2 d3 d4 d5 d6 d7 HBX
   have HBY:Hid (∀ W,Calls Tryz.prog 41 #[.agg #[.string m1,.string m2,.string m3,.string m4,.int .i64 m5,.int .i64 m6,.bool m7,.slice lp ln lc]] W fun e w'=>e=.returned (.agg #[.string m1,.string m2,.string m3,.string m4,.int .i64 m5,.int .i64 m6,.bool m7,.slice lp ln lc])/\Below W.heap.size W w'):=HBX
   clear HBX
   go_wp2_with fail
   refine (HBY.out _).mono ?_
   rintro e w2 ⟨rfl,hb2⟩
   have HO2:Hid (OwnR mE 59 w2 w.heap.size (.slice pv done.length cv) done):=HO.out.kept hb2
   have HB2:Hid (Below w.heap.size w w2):=HB.out.trans (hb2.mono HB.out.size)
   have hz2:w.heap.size<=w2.heap.size:=HB2.out.size
   obtain ⟨w4,hw4⟩:∃ w4,w4=(w2.alloc (.cells #[.string m1,.string m2,.string m3,.string m4,.int .i64 m5,.int .i64 m6,.bool m7,.slice lp ln lc] 59)).alloc (.cells #[.string m1,.string m2,.string m3,.string m4,.int .i64 m5,.int .i64 m6,.bool m7,.slice lp ln lc] 59):=⟨_,rfl⟩
   have hb24:Below w2.heap.size w2 w4:=by rw [hw4];exact ((Below.refl _ _).alloc (Nat.le_refl _) _).alloc (by simp) _
   have HN4:Hid (∀ j u,(mE.enc (⟨m1,m2,m3,m4,m5,m6,m7,mL⟩,lp,ln,lc))[j]?=some u->w4.cell? ⟨w2.heap.size+1,0+j,none⟩=some u):=fun j u hj=>by
    rw [hw4,World.cell?_alloc_at _ _ _ _ (by simp),Nat.zero_add]
    simpa [mE,msgC] using hj
   have HW4:Hid (w4=(w2.alloc (.cells #[.string m1,.string m2,.string m3,.string m4,.int .i64 m5,.int .i64 m6,.bool m7,.slice lp ln lc] 59)).alloc (.cells #[.string m1,.string m2,.string m3,.string m4,.int .i64 m5,.int .i64 m6,.bool m7,.slice lp ln lc] 59)):=hw4
   have HO4:Hid (OwnR mE 59 w4 w.heap.size (.slice pv done.length cv) done):=HO2.out.kept hb24
   have HB4:Hid (Below w.heap.size w w4):=HB2.out.trans (hb24.mono HB2.out.size)
   have HS4:Hid (w.heap.size<=w4.heap.size/\w2.heap.size+1 < w4.heap.size):=by
    have e:w4.heap.size=w2.heap.size+1+1:=by rw [hw4];simp
    exact ⟨by omega,by omega⟩
   clear hb2 HO HB HBY d0 d1 d2 d3 d4 d5 d6 d7 hw4 hb24 HO2 HB2 HMS
   go_wp2_with (first | rw [<- HW4.out] | (at_builtin;refine wpList_append_rec (E:=mE) rfl (.tmp 17) (.tmp 19) 27 59 rfl (.agg #[.string ⟨#[]⟩,.string ⟨#[]⟩,.string ⟨#[]⟩,.string ⟨#[]⟩,.int .i64 0,.int .i64 0,.bool false,.slice none 0 0]) 112 Tryz.underlying27 minfoR rfl w.heap.size (.slice pv done.length cv) done rfl HO4.out (w2.heap.size+1) 0 1 (⟨m1,m2,m3,m4,m5,m6,m7,mL⟩,lp,ln,lc) rfl HN4.out (by unfold maxLen;omega) (by omega) HS4.out.1 HS4.out.2 ?_;intro v5 w5 hO5 hb5))
   have HO5:Hid (OwnR mE 59 w5 w.heap.size v5 (done ++ [(⟨m1,m2,m3,m4,m5,m6,m7,mL⟩,lp,ln,lc)])):=hO5
   have HB5:Hid (Below w.heap.size w w5):=HB4.out.trans hb5
   clear hO5 hb5 HO4 HB4
   go_wp2
   go_roundw
   case rel=>exact ⟨i+1,by omega,by go_num,by rw [HT.out];exact HO5.out,HB5.out⟩
   case measure=>simp [intOf];omega
  ·have hie:i=ml.length:=by omega
   have HE:Hid (ml.take i=ml):=by show _=_;rw [hie,List.take_length]
   rw [HE.out] at HMS
   rw [HE.out]
   clear hie htl
   go_wp2
   go_ret
   exact ⟨⟨pv,cv,rfl,ml,HML.out,HMS.out,fun x hx=>⟨(HH.out x hx).1.below HB.out,(HH.out x hx).2⟩,fun b o e=>Nat.le_trans HB0.out (HPB.out b o e).1⟩,HB.out⟩
set_option maxRecDepth 10000 in
set_option maxHeartbeats 4000000 in
theorem sameMsgs_yes (pa pb:Option Addr) (l:List Msg) (ca cb:Nat) (w:World) (hl:l.length<=1000) (hv:∀ m ∈ l,m.L.length<=1000000) (ha:MsgsAt w pa l) (hb:MsgsAt w pb l) :
 Calls Tryz.prog 14 #[.slice pa l.length ca,.slice pb l.length cb] w fun e w'=>e=.returned (.bool true)/\Below w.heap.size w w':=by
 obtain ⟨al,hal,har,hah⟩:=ha
 obtain ⟨bl,hbl,hbr,hbh⟩:=hb
 have hla:al.length=l.length:=by rw [<- hal,List.length_map]
 have hlb:bl.length=l.length:=by rw [<- hbl,List.length_map]
 have HAR:Hid (Rec mE w pa al):=har
 have HBR:Hid (Rec mE w pb bl):=hbr
 have HAH:Hid (∀ x ∈ al,HasL w x):=hah
 have HBH:Hid (∀ x ∈ bl,HasL w x):=hbh
 have HLA:Hid (al.length=l.length):=hla
 have HLB:Hid (bl.length=l.length):=hlb
 have HEQ:Hid (∀ i,i < l.length->(msgAt al i).1=(msgAt bl i).1/\(msgAt al i).1.L.length<=1000000):=fun i hi=>by
  have e1:(msgAt al i).1=l[i]:=by rw [<- msgAt_get (by omega)];simp only [<- hal,List.getElem_map]
  have e2:(msgAt bl i).1=l[i]:=by rw [<- msgAt_get (by omega)];simp only [<- hbl,List.getElem_map]
  exact ⟨e1.trans e2.symm,by rw [e1];exact hv _ (List.getElem_mem hi)⟩
 have HSM:Hid (∀ (m:Msg) (p1 p2:Option Addr) (c1 c2:Nat) W,m.L.length<=1000000->Rec verE W p1 m.L->Rec verE W p2 m.L->Calls Tryz.prog 40 #[.agg #[.string m.from_,.string m.to_,.string m.kind,.string m.key,.int .i64 m.op,.int .i64 m.config,.bool m.shut,.slice p1 m.L.length c1],.agg #[.string m.from_,.string m.to_,.string m.kind,.string m.key,.int .i64 m.op,.int .i64 m.config,.bool m.shut,.slice p2 m.L.length c2]] W fun e w'=>e=.returned (.bool true)/\Below W.heap.size W w'):=fun m p1 p2 c1 c2 W h1 h2 h3=>sameMsg_yes m p1 p2 c1 c2 W h1 h2 h3
 clear har hah hbr hbh hla hlb hal hbl hv
 go_enter Tryz.func14,Tryz.ntmps14
 go_wp2
 go_loopw [5] (fun x wr=>∃ i:Nat,i<=l.length/\x=.int .i64 i/\Below w.heap.size w wr) (fun x _=>l.length - (intOf x).toNat)
 case atStart=>exact ⟨0,Nat.zero_le _,rfl,Below.refl _ _⟩
 case round =>
  obtain ⟨i,hi,rfl,hB⟩:=hrel
  obtain ⟨w1,rfl⟩:∃ w1,w1=wr:=⟨_,rfl⟩
  have HB:Hid (Below w.heap.size w w1):=hB
  by_cases hil:i < l.length
  ·have hia:i < al.length:=by rw [HLA.out];exact hil
   have hib:i < bl.length:=by rw [HLB.out];exact hil
   obtain ⟨b1,o1,hp1,hlt1,a0,a1,a2,a3,a4,a5,a6,a7⟩:=msg_cells (HAR.out.below hB) hia
   obtain ⟨b2,o2,hp2,hlt2,c0,c1,c2,c3,c4,c5,c6,c7⟩:=msg_cells (HBR.out.below hB) hib
   rw [msgAt_get hia] at a0 a1 a2 a3 a4 a5 a6 a7
   rw [msgAt_get hib] at c0 c1 c2 c3 c4 c5 c6 c7
   obtain ⟨he,hle⟩:=HEQ.out i hil
   have hA:=(HAH.out _ (msgAt_mem hia)).below hB
   have hC:=(HBH.out _ (msgAt_mem hib)).below hB
   rw [<- he] at c0 c1 c2 c3 c4 c5 c6
   have l1:=hA.len
   have l2:=hC.len
   have r1:=hA.recs
   have r2:=hC.recs
   rw [<- he] at l2 r2
   rw [l1] at a7
   rw [l2] at c7
   have HX:Hid (∀ W,Below w1.heap.size w1 W->Calls Tryz.prog 40 #[.agg #[.string (msgAt al i).1.from_,.string (msgAt al i).1.to_,.string (msgAt al i).1.kind,.string (msgAt al i).1.key,.int .i64 (msgAt al i).1.op,.int .i64 (msgAt al i).1.config,.bool (msgAt al i).1.shut,.slice (msgAt al i).2.1 (msgAt al i).1.L.length (msgAt al i).2.2.2],.agg #[.string (msgAt al i).1.from_,.string (msgAt al i).1.to_,.string (msgAt al i).1.kind,.string (msgAt al i).1.key,.int .i64 (msgAt al i).1.op,.int .i64 (msgAt al i).1.config,.bool (msgAt al i).1.shut,.slice (msgAt bl i).2.1 (msgAt al i).1.L.length (msgAt bl i).2.2.2]] W fun e w'=>e=.returned (.bool true)/\Below W.heap.size W w'):=fun W hW=>HSM.out (msgAt al i).1 _ _ _ _ W hle (r1.below hW) (r2.below hW)
   subst hp1 hp2
   clear hA hC l1 l2 r1 r2 he hle hB
   generalize (msgAt al i).1=m at *
   generalize (msgAt al i).2=ha at *
   generalize (msgAt bl i).2=hb at *
   obtain ⟨m1,m2,m3,m4,m5,m6,m7,mL⟩:=m
   obtain ⟨p1,n1,k1⟩:=ha
   obtain ⟨p2,n2,k2⟩:=hb
   dsimp only at *
   go_wp2
   refine wp_region_still_tail 8 (by kernel_rfl) (by kernel_rfl) ?_
   simp only [List.take_succ_cons,List.take_zero,List.drop_succ_cons,List.drop_zero]
   still_step
   still_step
   still_step
   still_step
   still_step
   still_step
   still_step
   still_step
   refine wpStill_nil ?_
   go_wp2_with (go_at_call 40;refine (HX.out _ (Below.refl _ _).drew).mono ?_;rintro e w2 ⟨rfl,hb2⟩;have HB2:Hid (Below w.heap.size w w2):=HB.out.trans (((Below.refl _ _).drew.trans hb2).mono HB.out.size);clear hb2)
   go_roundw
   case rel=>exact ⟨i+1,by omega,by go_num,HB2.out⟩
   case measure=>simp [intOf];omega
  ·go_wp2
   go_ret
   exact ⟨rfl,HB.out⟩
set_option maxRecDepth 10000 in
theorem bare_any (c:Int) (w:World):Calls Tryz.prog 27 #[.int .i64 c] w fun e w'=>e=.returned (.agg #[.int .i64 c,.int .i64 (-1)])/\Below w.heap.size w w':=by
 go_enter Tryz.func27,Tryz.ntmps27
 go_wp2
 refine bodyPost_ret (v:=.agg #[.int .i64 c,.int .i64 (-1)]) (by simp [results,Tryz.results27,go_sem]) rfl ⟨rfl,?_⟩
 exact (Below.refl _ _).alloc (Nat.le_refl _) _
set_option maxRecDepth 10000 in
theorem fine_any (w:World):Calls Tryz.prog 77 #[] w fun e w'=>e=.returned (.agg #[.int .i64 0,.int .i64 (-1)])/\Below w.heap.size w w':=by
 go_enter Tryz.func77,Tryz.ntmps77
 go_wp2
 refine bodyPost_ret (v:=.agg #[.int .i64 0,.int .i64 (-1)]) (by simp [results,Tryz.results77,go_sem]) rfl ⟨rfl,?_⟩
 exact (Below.refl _ _).alloc (Nat.le_refl _) _
theorem pair_kept (w:World) (t:TypeId) (wq:World) (hb:Below (w.alloc (.cells #[.int .i64 0,.int .i64 0] t)).heap.size (w.alloc (.cells #[.int .i64 0,.int .i64 0] t)) wq) :
 wq.cell? ⟨w.heap.size,0,none⟩=some (.int .i64 0)/\wq.cell? ⟨w.heap.size,1,none⟩=some (.int .i64 0)/\wq.frozen? ⟨w.heap.size,0,none⟩=false/\wq.frozen? ⟨w.heap.size,1,none⟩=false:=by
 have hlt:w.heap.size < (w.alloc (.cells #[.int .i64 0,.int .i64 0] t)).heap.size:=by simp
 refine ⟨(hb.cell (p:=⟨w.heap.size,0,none⟩) hlt).trans ?_,(hb.cell (p:=⟨w.heap.size,1,none⟩) hlt).trans ?_,(hb.frozen (p:=⟨w.heap.size,0,none⟩) hlt).trans ?_,(hb.frozen (p:=⟨w.heap.size,1,none⟩) hlt).trans ?_⟩
 ·rw [World.cell?_alloc_at _ _ _ _ rfl];rfl
 ·rw [World.cell?_alloc_at _ _ _ _ rfl];rfl
 ·unfold World.frozen?;rw [heap_alloc_new];rfl
 ·unfold World.frozen?;rw [heap_alloc_new];rfl
theorem pair_below {w wq:World} {t:TypeId} (hb:Below (w.alloc (.cells #[.int .i64 0,.int .i64 0] t)).heap.size (w.alloc (.cells #[.int .i64 0,.int .i64 0] t)) wq):Below w.heap.size w wq :=
 ((Below.refl _ w).alloc (Nat.le_refl _) _).trans (hb.mono (by simp))
theorem pair_set {w wq:World} (hb:Below w.heap.size w wq) (a b:Value):Below w.heap.size w ((wq.setCell ⟨w.heap.size,0,none⟩ a).setCell ⟨w.heap.size,1,none⟩ b):=by
 refine (hb.setCell ?_ _).setCell ?_ _ <;> exact Nat.le_refl _
set_option maxRecDepth 10000 in
set_option maxHeartbeats 4000000 in
theorem nodesFault_bound (p:Option Addr) (l:List ByteArray) (c:Nat) (w:World) (hl:l.length<=1000000) (h:l.length < 1∨16 < l.length) :
 Calls Tryz.prog 54 #[.slice p l.length c] w fun e w'=>e=.returned (.agg #[.int .i64 2,.int .i64 (-1)])/\Below w.heap.size w w':=by
 rcases h with h | h
 ·go_enter Tryz.func54,Tryz.ntmps54
  go_wp2_with fail
  refine (bare_any 2 _).mono ?_
  rintro e w1 ⟨rfl,hb1⟩
  obtain ⟨q1,q2,f1,f2⟩:=pair_kept w _ w1 hb1
  have HB:Hid (Below w.heap.size w w1):=pair_below hb1
  clear hb1
  go_wp2
  refine bodyPost_ret (v:=.agg #[.int .i64 2,.int .i64 (-1)]) (by simp [results,Tryz.results54,go_sem,q1,q2]) rfl ⟨rfl,pair_set HB.out _ _⟩
 ·go_enter Tryz.func54,Tryz.ntmps54
  go_wp2_with fail
  refine (bare_any 2 _).mono ?_
  rintro e w1 ⟨rfl,hb1⟩
  obtain ⟨q1,q2,f1,f2⟩:=pair_kept w _ w1 hb1
  have HB:Hid (Below w.heap.size w w1):=pair_below hb1
  clear hb1
  go_wp2
  refine bodyPost_ret (v:=.agg #[.int .i64 2,.int .i64 (-1)]) (by simp [results,Tryz.results54,go_sem,q1,q2]) rfl ⟨rfl,pair_set HB.out _ _⟩
set_option maxRecDepth 10000 in
set_option maxHeartbeats 4000000 in
theorem nodesFault_scan (p:Option Addr) (l:List ByteArray) (c:Nat) (w:World) (h1:¬ l.length < 1) (h2:¬ 16 < l.length) (hc:l.length<=c) (ht:∀ x ∈ l,x.size<=1000000) (hs:Strs w p l) :
 Calls Tryz.prog 54 #[.slice p l.length c] w fun e w'=>e=.returned (.agg #[.int .i64 (scanF l 0 l.length).1,.int .i64 (scanF l 0 l.length).2])/\Below w.heap.size w w':=by
 have HT:Hid (∀ i,i < l.length->(txt l i).size<=1000000):=fun i hi=>ht _ (txt_mem hi)
 have HS:Hid (Strs w p l):=hs
 have g1:decide ((l.length:Int) < 1)=false:=decide_eq_false (by omega)
 have g2:decide (16 < (l.length:Int))=false:=decide_eq_false (by omega)
 obtain ⟨b,o,rfl⟩:∃ b o,p=some ⟨b,o,none⟩:=by
  rcases hs with h0 | ⟨b,o,hp,_⟩
  ·rw [h0] at h1;exact absurd (by decide) h1
  ·exact ⟨b,o,hp⟩
 clear hs ht
 obtain ⟨R,hR⟩:∃ R,R=scanF l 0 l.length:=⟨_,rfl⟩
 rw [<- hR]
 have HR:Hid (R=scanF l 0 l.length):=hR
 clear hR
 go_enter Tryz.func54,Tryz.ntmps54
 go_wp2
 have HB0:Hid (Below (w.alloc (.cells #[.int .i64 0,.int .i64 0] 39)).heap.size (w.alloc (.cells #[.int .i64 0,.int .i64 0] 39)) (w.alloc (.cells #[.int .i64 0,.int .i64 0] 39))):=Below.refl _ _
 have HK:Hid (∀ wq,Below (w.alloc (.cells #[.int .i64 0,.int .i64 0] 39)).heap.size (w.alloc (.cells #[.int .i64 0,.int .i64 0] 39)) wq->(wq.cell? ⟨w.heap.size,0,none⟩=some (.int .i64 0)/\wq.cell? ⟨w.heap.size,1,none⟩=some (.int .i64 0)/\wq.frozen? ⟨w.heap.size,0,none⟩=false/\wq.frozen? ⟨w.heap.size,1,none⟩=false)/\Below w.heap.size w wq):=fun wq h=>⟨pair_kept w _ wq h,pair_below h⟩
 generalize w.alloc (.cells #[.int .i64 0,.int .i64 0] 39)=w0 at HB0 HK ⊢
 go_loopw [3] (fun x wq=>∃ i:Nat,i<=l.length/\x=.int .i64 i/\scanF l i (l.length - i)=R/\Below w0.heap.size w0 wq) (fun x _=>l.length - (intOf x).toNat)
 case atStart=>exact ⟨0,Nat.zero_le _,rfl,HR.out.symm,HB0.out⟩
 case round =>
  obtain ⟨i,hi,rfl,hsc,hbq⟩:=hrel
  obtain ⟨w1,rfl⟩:∃ w1,w1=wr:=⟨_,rfl⟩
  have HSC:Hid (scanF l i (l.length - i)=R):=hsc
  have HBQ:Hid (Below w0.heap.size w0 w1):=hbq
  obtain ⟨⟨q1,q2,f1,f2⟩,hbw⟩:=HK.out w1 hbq
  have HBW:Hid (Below w.heap.size w w1):=hbw
  have HS1:Hid (Strs w1 (some ⟨b,o,none⟩) l):=HS.out.below hbw
  clear hsc hbq hbw HR
  by_cases hil:i < l.length
  ·have q3 : w1.cell? ⟨b, o + i, none⟩ = some (.string (txt l i)) := by
    rcases HS1.out with h0 | ⟨b',o',hp,_,hcell⟩
    ·rw [h0] at hil;exact absurd hil (Nat.not_lt_zero _)
    ·obtain ⟨rfl,rfl⟩:b=b'/\o=o':=by simpa using hp
     exact hcell i hil
   have HNAME:Hid (∀ W,Calls Tryz.prog 26 #[.string (txt l i)] W fun e w'=>e=.returned (.bool (isN (txt l i)))/\w'=W):=fun W=>isName_any _ W (HT.out i hil)
   have HTAKE:Hid ((l.take i).length=i):=by show _=_;rw [List.length_take];omega
   have HSUC:Hid (scanF l i (l.length - i)=if faultAt l i=0 then scanF l (i+1) (l.length - (i+1)) else (((faultAt l i:Nat):Int),(i:Int))):=by
    show _=_
    rw [show l.length - i=(l.length - (i+1))+1 by omega]
    rfl
   by_cases hN:isN (txt l i)=true
   ·by_cases hM:txt l i ∈ l.take i
    ·have HA : Hid (R = (6, (i : Int))) := by
      show _=_
      rw [<- HSC.out,HSUC.out,faultAt_twice hN hM,if_neg (by decide)]
      rfl
     have HIX:Hid (∀ W,Strs W (some ⟨b,o,none⟩) (l.take i)->Calls Tryz.prog 46 #[.slice (some ⟨b,o,none⟩) (l.take i).length c,.string (txt l i)] W fun e w'=>e=.returned (.int .i64 ((idxN (l.take i) (txt l i):Nat):Int))/\w'=W):=fun W hW=>index_hit _ _ c _ W (by rw [List.length_take];omega) hW hM
     rw [hN] at HNAME
     rw [HTAKE.out] at HIX
     have HST:Hid (Strs w1 (some ⟨b,o,none⟩) (l.take i)):=HS1.out.take i
     clear HSC HSUC HT HTAKE hN hM
     generalize idxN (l.take i) (txt l i)=k at *
     generalize txt l i=t at *
     go_wp2_with fail
     refine (HNAME.out _).mono ?_
     rintro e w2 ⟨rfl,hw2⟩
     rw [hw2]
     clear hw2 w2 HNAME
     go_wp2
     go_quiet ((go_at_call 46;exact Calls.quiet_of_same (HIX.out _ (HST.out.drewN _))))
     go_wp2
     refine bodyPost_ret (v:=.agg #[.int .i64 R.1,.int .i64 R.2]) (by rw [HA.out];simp [results,Tryz.results54,go_sem,q1,q2]) rfl ⟨rfl,?_⟩
     exact pair_set (below_drewN HBW.out _) _ _
    ·have HA : Hid (scanF l (i + 1) (l.length - (i + 1)) = R) := by
      show _=_
      rw [<- HSC.out,HSUC.out,faultAt_fine hN hM,if_pos rfl]
     have HIX:Hid (∀ W,Strs W (some ⟨b,o,none⟩) (l.take i)->Calls Tryz.prog 46 #[.slice (some ⟨b,o,none⟩) (l.take i).length c,.string (txt l i)] W fun e w'=>e=.returned (.int .i64 (-1))/\w'=W):=fun W hW=>index_miss _ _ c _ W (by rw [List.length_take];omega) hW hM
     rw [hN] at HNAME
     rw [HTAKE.out] at HIX
     have HST:Hid (Strs w1 (some ⟨b,o,none⟩) (l.take i)):=HS1.out.take i
     clear HSC HSUC HT HTAKE hN hM
     generalize txt l i=t at *
     go_wp2_with fail
     refine (HNAME.out _).mono ?_
     rintro e w2 ⟨rfl,hw2⟩
     rw [hw2]
     clear hw2 w2 HNAME
     go_wp2
     go_quiet ((go_at_call 46;exact Calls.quiet_of_same (HIX.out _ (HST.out.drewN _))))
     go_wp2
     go_roundw
     case rel=>exact ⟨i+1,by omega,by go_num,HA.out,below_drewN HBQ.out _⟩
     case measure=>simp [intOf];omega
   ·have hN':isN (txt l i)=false:=Bool.eq_false_iff.2 hN
    have HA:Hid (R=(4,(i:Int))):=by
     show _=_
     rw [<- HSC.out,HSUC.out,faultAt_name hN',if_neg (by decide)]
     rfl
    rw [hN'] at HNAME
    clear HSC HSUC HT HTAKE hN hN'
    generalize txt l i=t at *
    go_wp2_with fail
    refine (HNAME.out _).mono ?_
    rintro e w2 ⟨rfl,hw2⟩
    rw [hw2]
    clear hw2 w2 HNAME
    go_wp2
    refine bodyPost_ret (v:=.agg #[.int .i64 R.1,.int .i64 R.2]) (by rw [HA.out];simp [results,Tryz.results54,go_sem,q1,q2]) rfl ⟨rfl,?_⟩
    exact pair_set HBW.out _ _
  ·have hie:i=l.length:=by omega
   subst hie
   have HA:Hid (R=(0,-1)):=by
    show _=_
    rw [<- HSC.out,Nat.sub_self]
    rfl
   clear HSC
   go_wp2_with fail
   refine (fine_any _).mono ?_
   rintro e w2 ⟨rfl,hb2⟩
   obtain ⟨⟨r1,r2,e1,e2⟩,hbw⟩:=HK.out w2 (HBQ.out.trans (hb2.mono HBQ.out.size))
   clear q1 q2 f1 f2 hb2
   go_wp2
   refine bodyPost_ret (v:=.agg #[.int .i64 R.1,.int .i64 R.2]) (by rw [HA.out];simp [results,Tryz.results54,go_sem,r1,r2]) rfl ⟨rfl,?_⟩
   exact pair_set hbw _ _
theorem nodesFault_any (p:Option Addr) (l:List ByteArray) (c:Nat) (w:World) (hl:l.length<=1000000) (hc:l.length<=c) (ht:∀ x ∈ l,x.size<=1000000) (hs:Strs w p l) :
 Calls Tryz.prog 54 #[.slice p l.length c] w fun e w'=>e=.returned (.agg #[.int .i64 (nodesF l).1,.int .i64 (nodesF l).2])/\Below w.heap.size w w':=by
 by_cases h:l.length < 1∨16 < l.length
 ·rw [nodesF_bound h]
  exact nodesFault_bound p l c w hl h
 ·rw [nodesF_scan (by omega) (by omega)]
  exact nodesFault_scan p l c w (by omega) (by omega) hc ht hs
theorem box_set {w wq:World} (hb:Below w.heap.size w wq) (a b:Value):Below w.heap.size w ((wq.setCell ⟨w.heap.size+1,0,none⟩ a).setCell ⟨w.heap.size+1,1,none⟩ b) :=
 (hb.setCell (p:=⟨w.heap.size+1,0,none⟩) (by show w.heap.size<=w.heap.size+1;omega) _).setCell (p:=⟨w.heap.size+1,1,none⟩) (by show w.heap.size<=w.heap.size+1;omega) _
set_option maxRecDepth 10000 in
set_option maxHeartbeats 4000000 in
theorem rcfg_any (c:Cfg) (p:Option Addr) (cap:Nat) (w:World) (hc:CfgAt w c p cap) :
 Calls Tryz.prog 25 #[cfgA c (.slice p c.L.length cap)] w fun e w'=>e=.returned (.agg #[.int .i64 (cfgF c).1,.int .i64 (cfgF c).2])/\Below w.heap.size w w':=by
 obtain ⟨hs,hcap,hnn,hlen,hsz,hin⟩:=hc
 obtain ⟨w1,hw1⟩:∃ w1,w1=(w.alloc (.cells #[.int .i64 c.n,.int .i64 c.k,.slice p c.L.length cap] 24)).alloc (.cells #[.int .i64 0,.int .i64 0] 39):=⟨_,rfl⟩
 have HW1:Hid (w1=(w.alloc (.cells #[.int .i64 c.n,.int .i64 c.k,.slice p c.L.length cap] 24)).alloc (.cells #[.int .i64 0,.int .i64 0] 39)):=hw1
 have e2:(w.alloc (.cells #[.int .i64 c.n,.int .i64 c.k,.slice p c.L.length cap] 24)).heap.size=w.heap.size+1:=by simp
 have hb1:Below w.heap.size w w1:=by rw [hw1];exact ((Below.refl _ _).alloc (Nat.le_refl _) _).alloc (by rw [e2];omega) _
 have hx1:w1.heap[w.heap.size]?=some (.cells #[.int .i64 c.n,.int .i64 c.k,.slice p c.L.length cap] 24 (0,0)):=by
  rw [hw1,heap_alloc_old _ _ (by rw [e2];omega)]
  exact heap_alloc_new _ _
 have hy1:w1.heap[w.heap.size+1]?=some (.cells #[.int .i64 0,.int .i64 0] 39 (0,0)):=by
  rw [hw1,<- e2]
  exact heap_alloc_new _ _
 have hl1:=(Array.getElem?_eq_some_iff.1 hy1).1
 have HKE:Hid (∀ W,Below w1.heap.size w1 W->W.cell? ⟨w.heap.size+1,0,none⟩=some (.int .i64 0)/\W.cell? ⟨w.heap.size+1,1,none⟩=some (.int .i64 0)/\(∀ i,W.frozen? ⟨w.heap.size+1,i,none⟩=false)/\Below w.heap.size w W):=fun W hW=>by
  have hy:=(hW.block _ hl1).trans hy1
  exact ⟨by simp [World.cell?,hy],by simp [World.cell?,hy],fun i=>by simp [World.frozen?,hy],hb1.trans (hW.mono hb1.size)⟩
 have q0:w1.cell? ⟨w.heap.size,0,none⟩=some (.int .i64 c.n):=by simp [World.cell?,hx1]
 have q1:w1.cell? ⟨w.heap.size,1,none⟩=some (.int .i64 c.k):=by simp [World.cell?,hx1]
 have q2:w1.cell? ⟨w.heap.size,2,none⟩=some (.slice p c.L.length cap):=by simp [World.cell?,hx1]
 have HBA:Hid (∀ (x:Int) (W:World),Calls Tryz.prog 27 #[.int .i64 x] W fun e w'=>e=.returned (.agg #[.int .i64 x,.int .i64 (-1)])/\Below W.heap.size W w'):=fun x W=>bare_any x W
 by_cases h1:1<=c.k/\c.k<=c.n/\c.n<=12
 ·have HIS:Hid (Calls Tryz.prog 53 #[.int .i64 c.n,.int .i64 c.k] w1 fun e w'=>e=.returned (.bool true)/\w'=w1):=isSpread_yes c.n c.k w1 h1.1 h1.2.1 h1.2.2
  by_cases h2:(c.L.length:Int)=c.n
  ·have HNF:Hid (Calls Tryz.prog 54 #[.slice p c.L.length cap] w1 fun e w'=>e=.returned (.agg #[.int .i64 (nodesF c.L).1,.int .i64 (nodesF c.L).2])/\Below w1.heap.size w1 w'):=nodesFault_any p c.L cap w1 (by omega) hcap (fun x hx=>by have:=hsz x hx;omega) (hs.below hb1)
   rw [cfgF_nodes h1 h2]
   clear hw1 hb1 hx1 hy1 hl1 e2 hs hin HBA
   generalize nodesF c.L=F at *
   obtain ⟨cn,ck,L⟩:=c
   obtain ⟨F1,F2⟩:=F
   unfold cfgA
   simp only [] at *
   have d1:((L.length:Int)==cn)=true:=by simpa using h2
   go_enter Tryz.func25,Tryz.ntmps25
   go_wp2_with fail
   rw [<- HW1.out]
   refine HIS.out.mono ?_
   rintro e w2 ⟨rfl,hw2⟩
   rw [hw2]
   clear hw2 w2 HIS
   go_wp2_with fail
   refine HNF.out.mono ?_
   rintro e w3 ⟨rfl,hb3⟩
   obtain ⟨z0,z1,z2,hlow⟩:=HKE.out w3 hb3
   have HB3:Hid (Below w.heap.size w w3):=hlow
   clear hb3 hlow HNF
   go_wp2
   refine bodyPost_ret (v:=.agg #[.int .i64 F1,.int .i64 F2]) (by simp [results,Tryz.results25,go_sem,z0,z1]) rfl ⟨rfl,box_set HB3.out _ _⟩
  ·rw [cfgF_shape h1 h2]
   clear hw1 hb1 hx1 hy1 hl1 e2 hs hin
   obtain ⟨cn,ck,L⟩:=c
   unfold cfgA
   simp only [] at *
   have d1:((L.length:Int)==cn)=false:=by simpa using h2
   have d2:((L.length:Int) != cn)=true:=by simpa using h2
   go_enter Tryz.func25,Tryz.ntmps25
   go_wp2_with fail
   rw [<- HW1.out]
   refine HIS.out.mono ?_
   rintro e w2 ⟨rfl,hw2⟩
   rw [hw2]
   clear hw2 w2 HIS
   go_wp2_with fail
   refine (HBA.out 3 w1).mono ?_
   rintro e w3 ⟨rfl,hb3⟩
   obtain ⟨z0,z1,z2,hlow⟩:=HKE.out w3 hb3
   have HB3:Hid (Below w.heap.size w w3):=hlow
   clear hb3 hlow
   go_wp2
   refine bodyPost_ret (v:=.agg #[.int .i64 3,.int .i64 (-1)]) (by simp [results,Tryz.results25,go_sem,z0,z1]) rfl ⟨rfl,box_set HB3.out _ _⟩
 ·have HIS:Hid (Calls Tryz.prog 53 #[.int .i64 c.n,.int .i64 c.k] w1 fun e w'=>e=.returned (.bool false)/\w'=w1):=isSpread_no c.n c.k w1 h1
  rw [cfgF_bound h1]
  clear hw1 hb1 hx1 hy1 hl1 e2 hs hin h1
  obtain ⟨cn,ck,L⟩:=c
  unfold cfgA
  simp only [] at *
  go_enter Tryz.func25,Tryz.ntmps25
  go_wp2_with fail
  rw [<- HW1.out]
  refine HIS.out.mono ?_
  rintro e w2 ⟨rfl,hw2⟩
  rw [hw2]
  clear hw2 w2 HIS
  go_wp2_with fail
  refine (HBA.out 2 w1).mono ?_
  rintro e w3 ⟨rfl,hb3⟩
  obtain ⟨z0,z1,z2,hlow⟩:=HKE.out w3 hb3
  have HB3:Hid (Below w.heap.size w w3):=hlow
  clear hb3 hlow
  go_wp2
  refine bodyPost_ret (v:=.agg #[.int .i64 2,.int .i64 (-1)]) (by simp [results,Tryz.results25,go_sem,z0,z1]) rfl ⟨rfl,box_set HB3.out _ _⟩
set_option maxRecDepth 10000 in
set_option maxHeartbeats 2000000 in
theorem renough_any (c:Cfg) (lv:Value) (hlv:∃ p n d,lv=.slice p n d) (w:World) (h:1<=c.k/\c.k<=c.n/\c.n<=12) :
 Calls Tryz.prog 47 #[cfgA c lv] w fun e w'=>e=.returned (.int .i64 ((enoughN c:Nat):Int))/\Below w.heap.size w w':=by
 obtain ⟨p,nn,d,rfl⟩:=hlv
 obtain ⟨w1,hw1⟩:∃ w1,w1=w.alloc (.cells #[.int .i64 c.n,.int .i64 c.k,.slice p nn d] 24):=⟨_,rfl⟩
 have HW1:Hid (w1=w.alloc (.cells #[.int .i64 c.n,.int .i64 c.k,.slice p nn d] 24)):=hw1
 have HB1:Hid (Below w.heap.size w w1):=by rw [hw1];exact (Below.refl _ _).alloc (Nat.le_refl _) _
 have q0:w1.cell? ⟨w.heap.size,0,none⟩=some (.int .i64 c.n):=by rw [hw1,World.cell?_alloc_at _ _ _ _ rfl];rfl
 have q1:w1.cell? ⟨w.heap.size,1,none⟩=some (.int .i64 c.k):=by rw [hw1,World.cell?_alloc_at _ _ _ _ rfl];rfl
 have HE:Hid (enoughN c=(c.n.toNat+c.k.toNat+1) / 2):=by show _=_;rfl
 generalize enoughN c=E at *
 obtain ⟨cn,ck,L⟩:=c
 unfold cfgA
 simp only [] at *
 obtain ⟨nn',rfl⟩:=Int.eq_ofNat_of_zero_le (show 0<=cn by omega)
 obtain ⟨kk,rfl⟩:=Int.eq_ofNat_of_zero_le (show 0<=ck by omega)
 have hE:E=(nn'+kk+1) / 2:=HE.out
 clear hw1 HE
 go_enter Tryz.func47,Tryz.ntmps47
 go_wp2
 rw [show w.alloc (.cells #[.int .i64 (nn':Int),.int .i64 (kk:Int),.slice p nn d] 24)=w1 from HW1.out.symm]
 clear HW1
 have hn12:nn'<=12:=by omega
 have hk12:kk<=12:=by omega
 go_loopw [3] (fun x wr=>∃ i:Nat,i<=E/\x=.int .i64 i/\wr=w1) (fun x _=>E - (intOf x).toNat)
 case atStart=>exact ⟨0,Nat.zero_le _,rfl,rfl⟩
 case round =>
  obtain ⟨i,hi,rfl,hwr⟩:=hrel
  subst hwr
  by_cases hil:i < E
  ·have d1:decide (2*(i:Int) < (nn':Int)+(kk:Int))=true:=decide_eq_true (by omega)
   go_wp2
   go_roundw
   case rel=>exact ⟨i+1,by omega,by go_num,trivial⟩
   case measure=>simp [intOf];omega
  ·obtain rfl:i=E:=by omega
   have d1:decide (2*(i:Int) < (nn':Int)+(kk:Int))=false:=decide_eq_false (by omega)
   go_wp2
   go_ret
   exact ⟨rfl,HB1.out⟩
end Go.Proofs.YtmhoiodfppdlnaaGreatDoor
