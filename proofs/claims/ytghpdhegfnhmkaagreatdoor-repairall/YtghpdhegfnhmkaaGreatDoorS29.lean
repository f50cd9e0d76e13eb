import Derived.Test.YtghpdhegfnhmkaaGreatDoorS25
import Derived.BigQuiet
namespace Go.Proofs.YtghpdhegfnhmkaaGreatDoor
open Go.RowKit Go.Sort
def foundV (l:List Ver) (t:Int×Int):Bool:=l.any fun x=>decide (tagOf x=t)
theorem verAt_lt {l:List Ver} (hs:l.Pairwise fun x y=>lessB (tagOf x) (tagOf y)=true) {i j:Nat} (hij:i < j) (hj:j < l.length):lessB (tagOf (verAt l i)) (tagOf (verAt l j))=true:=by
 have:=List.pairwise_iff_getElem.1 hs i j (by omega) hj hij
 have e:∀ k (hk:k < l.length),l[k]=verAt l k:=fun k hk=>by
  have:=verAt_get hk
  rw [List.getElem?_eq_getElem hk] at this
  exact Option.some.inj this
 rw [e i (by omega),e j hj] at this
 exact this
theorem placeV_at {l:List Ver} {t:Int×Int} {k:Nat} (hk:k<=l.length) (hlo:∀ j,j < k->lessB (tagOf (verAt l j)) t=true) (hhi:∀ j,k<=j->j < l.length->lessB (tagOf (verAt l j)) t=false):placeV l t=k:=by
 have e:∀ k (hk:k < l.length),l[k]=verAt l k:=fun k hk=>by
  have:=verAt_get hk
  rw [List.getElem?_eq_getElem hk] at this
  exact Option.some.inj this
 unfold placeV
 rw [<- List.take_append_drop k l]
 rw [findIdx_split (fun x hx=>?_) (fun x hx=>?_),List.length_take]
 ·omega
 ·obtain ⟨j,hj,rfl⟩:=List.getElem_of_mem hx
  rw [List.length_take] at hj
  rw [List.getElem_take,e j (by omega),hlo j (by omega)]
  rfl
 ·obtain ⟨j,hj,rfl⟩:=List.getElem_of_mem hx
  rw [List.length_drop] at hj
  rw [List.getElem_drop,e (k+j) (by omega),hhi (k+j) (by omega) (by omega)]
  rfl
theorem foundV_at {l:List Ver} {t:Int×Int} (hs:l.Pairwise fun x y=>lessB (tagOf x) (tagOf y)=true) {k:Nat} (hlo:∀ j,j < k->lessB (tagOf (verAt l j)) t=true) (hhi:∀ j,k<=j->j < l.length->lessB (tagOf (verAt l j)) t=false):foundV l t=(decide (k < l.length) && decide (tagOf (verAt l k)=t)):=by
 have e:∀ k (hk:k < l.length),l[k]=verAt l k:=fun k hk=>by
  have:=verAt_get hk
  rw [List.getElem?_eq_getElem hk] at this
  exact Option.some.inj this
 unfold foundV
 rw [Bool.eq_iff_iff]
 simp only [List.any_eq_true,decide_eq_true_eq,Bool.and_eq_true]
 constructor
 ·rintro ⟨x,hx,ht⟩
  obtain ⟨j,hj,rfl⟩:=List.getElem_of_mem hx
  rw [e j hj] at ht
  have h1:k<=j:=by
   refine Classical.byContradiction fun h=>?_
   have:=hlo j (by omega)
   rw [ht,lessB_irrefl] at this
   cases this
  rcases Nat.lt_or_ge k j with h2 | h2
  ·have h3:=verAt_lt hs h2 hj
   have h4:=hhi k (Nat.le_refl _) (by omega)
   rw [ht] at h3
   rw [h3] at h4
   cases h4
  ·obtain rfl:j=k:=by omega
   exact ⟨hj,ht⟩
 ·rintro ⟨hk,ht⟩
  exact ⟨l[k],List.getElem_mem hk,by rw [e k hk];exact ht⟩
set_option maxRecDepth 10000 in
set_option maxHeartbeats 4000000 in
theorem search_any (p:Option Addr) (l:List Ver) (c:Nat) (t:Int×Int) (w:World) (hl:l.length<=1000) (hs:l.Pairwise fun x y=>lessB (tagOf x) (tagOf y)=true) (hr:Rec verE w p l) :
 Calls Tryz.prog 54 #[.slice p l.length c,.agg #[.int .i64 t.1,.int .i64 t.2],.func (.func 55) #[] #[]] w fun e w'=>e=.returned (.tuple #[.int .i64 ((placeV l t:Nat):Int),.bool (foundV l t)])/\RowKit.Below w.heap.size w w':=by
 have mixed:Tryz.prog.follows .mixedOrders=true:=by kernel_rfl
 have HSK:Hid (∀ (v:Ver) (W:World),Calls Tryz.prog 55 #[.agg #[.int .i64 v.n,.int .i64 v.who,.int .i64 v.size,.int .i64 v.at_,.string v.text],.agg #[.int .i64 t.1,.int .i64 t.2]] W fun e w'=>e=.returned (.int .i64 (tagC (tagOf v) t))/\∃ q os,w'=grow (W.drewN q) os):=fun v W=>seek_any v t W
 have HTL:Hid (∀ v:Ver,decide (tagC (tagOf v) t < 0)=lessB (tagOf v) t):=fun v=>tagC_lt
 have HTZ:Hid (∀ v:Ver,tagC (tagOf v) t=0↔tagOf v=t):=fun v=>tagC_zero
 have HLT:Hid (∀ i j,i < j->j < l.length->lessB (tagOf (verAt l i)) (tagOf (verAt l j))=true):=fun i j h1 h2=>verAt_lt hs h1 h2
 have HP:Hid (∀ k,k<=l.length->(∀ j,j < k->lessB (tagOf (verAt l j)) t=true)->(∀ j,k<=j->j < l.length->lessB (tagOf (verAt l j)) t=false)->placeV l t=k/\foundV l t=(decide (k < l.length) && decide (tagOf (verAt l k)=t))):=fun k h1 h2 h3=>⟨placeV_at h1 h2 h3,foundV_at hs h2 h3⟩
 generalize placeV l t=R1 at *
 generalize foundV l t=R2 at *
 obtain ⟨t1,t2⟩:=t
 obtain ⟨w1,hw1⟩:∃ w1,w1=w.alloc (.cells #[.int .i64 t1,.int .i64 t2] 43):=⟨_,rfl⟩
 have HW1:Hid (w1=w.alloc (.cells #[.int .i64 t1,.int .i64 t2] 43)):=hw1
 have HB1:Hid (RowKit.Below w.heap.size w w1):=by rw [hw1];exact (RowKit.Below.refl _ _).alloc (Nat.le_refl _) _
 have hs1:w.heap.size < w1.heap.size:=by rw [hw1];simp
 have k1:w1.cell? ⟨w.heap.size,0,none⟩=some (.int .i64 t1):=by rw [hw1];simp
 have k2:w1.cell? ⟨w.heap.size,1,none⟩=some (.int .i64 t2):=by rw [hw1];simp
 have HALL:Hid (∀ W,RowKit.Below w1.heap.size w1 W->W.cell? ⟨w.heap.size,0,none⟩=some (.int .i64 t1)/\W.cell? ⟨w.heap.size,1,none⟩=some (.int .i64 t2)/\Rec verE W p l/\RowKit.Below w.heap.size w W):=fun W hW=>⟨(hW.cell (p:=⟨w.heap.size,0,none⟩) hs1).trans k1,(hW.cell (p:=⟨w.heap.size,1,none⟩) hs1).trans k2,(hr.below HB1.out).below hW,HB1.out.trans (hW.mono HB1.out.size)⟩
 clear hw1 k1 k2 hr hs HB1
 have HTR:Hid (∀ i j,i<=j->j < l.length->lessB (tagOf (verAt l j)) (t1,t2)=true->lessB (tagOf (verAt l i)) (t1,t2)=true):=fun i j h1 h2 h3=>by
  rcases Nat.lt_or_ge i j with h4 | h4
  ·exact lessB_trans (HLT.out i j h4 h2) h3
  ·obtain rfl:i=j:=by omega
   exact h3
 clear HLT
 go_enter Tryz.func54,Tryz.ntmps54
 go_wp2
 rw [<- HW1.out]
 clear HW1
 go_loopw [9,10] (fun a b wq=>∃ lo hi:Nat,lo<=hi/\hi<=l.length/\a=.int .i64 lo/\b=.int .i64 hi/\(∀ j,j < lo->lessB (tagOf (verAt l j)) (t1,t2)=true)/\(∀ j,hi<=j->j < l.length->lessB (tagOf (verAt l j)) (t1,t2)=false)/\RowKit.Below w1.heap.size w1 wq) (fun a b _=>(intOf b).toNat - (intOf a).toNat)
 case atStart=>exact ⟨0,l.length,Nat.zero_le _,Nat.le_refl _,rfl,rfl,fun j hj=>absurd hj (Nat.not_lt_zero _),fun j h1 h2=>by omega,RowKit.Below.refl _ _⟩
 case round =>
  obtain ⟨lo,hi,hlh,hhl,rfl,rfl,hlo,hhi,hbq⟩:=hrel
  obtain ⟨w2,rfl⟩:∃ w2,w2=wr:=⟨_,rfl⟩
  have HLO:Hid (∀ j,j < lo->lessB (tagOf (verAt l j)) (t1,t2)=true):=hlo
  have HHI:Hid (∀ j,hi<=j->j < l.length->lessB (tagOf (verAt l j)) (t1,t2)=false):=hhi
  have HBQ:Hid (RowKit.Below w1.heap.size w1 w2):=hbq
  obtain ⟨q1,q2,hrec,hb0⟩:=HALL.out w2 hbq
  have HREC:Hid (Rec verE w2 p l):=hrec
  have HB0:Hid (RowKit.Below w.heap.size w w2):=hb0
  clear hlo hhi hbq hrec hb0
  by_cases hlt:lo < hi
  ·obtain ⟨M,hM⟩:∃ M:Nat,M=(lo+hi) / 2:=⟨_,rfl⟩
   have hM1:lo<=M:=by omega
   have hM2:M < hi:=by omega
   have hMl:M < l.length:=by omega
   have hmid:((lo:Int)+(hi:Int)) / 2=(M:Int):=by omega
   have hmi:(0:Int)<=(M:Int):=by omega
   have hmx:(M:Int) < (l.length:Int):=by omega
   obtain ⟨b,o,hpp,hblt,c0,c1,c2,c3,c4⟩:=ver_cells HREC.out hMl
   have HT2:=HTL.out (verAt l M)
   have HC:Hid (∀ W,Calls Tryz.prog 55 #[.agg #[.int .i64 (verAt l M).n,.int .i64 (verAt l M).who,.int .i64 (verAt l M).size,.int .i64 (verAt l M).at_,.string (verAt l M).text],.agg #[.int .i64 t1,.int .i64 t2]] W fun e w'=>e=.returned (.int .i64 (tagC (tagOf (verAt l M)) (t1,t2)))/\∃ q os,w'=grow (W.drewN q) os):=fun W=>HSK.out (verAt l M) W
   subst hpp
   have HNL:Hid (lessB (tagOf (verAt l M)) (t1,t2)=true->∀ j,j < M+1->lessB (tagOf (verAt l j)) (t1,t2)=true):=fun h j hj=>HTR.out j M (by omega) hMl h
   have HNH:Hid (lessB (tagOf (verAt l M)) (t1,t2)=false->∀ j,M<=j->j < l.length->lessB (tagOf (verAt l j)) (t1,t2)=false):=fun h j h1 h2=>by
    cases h3:lessB (tagOf (verAt l j)) (t1,t2)
    ·rfl
    ·rw [HTR.out M j h1 h2 h3] at h;cases h
   generalize lessB (tagOf (verAt l M)) (t1,t2)=r at *
   generalize tagC (tagOf (verAt l M)) (t1,t2)=cc at *
   generalize verAt l M=y at *
   have j1:=cell_grown (lt_of_cellH q1) q1
   have j2:=cell_grown (lt_of_cellH q2) q2
   have i0:=cell_grown (lt_of_cellH c0) c0
   have i1:=cell_grown (lt_of_cellH c1) c1
   have i2:=cell_grown (lt_of_cellH c2) c2
   have i3:=cell_grown (lt_of_cellH c3) c3
   have i4:=cell_grown (lt_of_cellH c4) c4
   clear hM HSK HTL HTZ HP HALL HTR HREC
   cases r with
   | true =>
    have HN:=HNL.out rfl
    have HN1:Hid (∀ j,j < M+1->lessB (tagOf (verAt l j)) (t1,t2)=true):=HN
    clear HN HNL HNH HLO
    go_wp2
    go_quiet_grown ((go_at_call 55;exact Calls.grown_of (HC.out _)))
    go_wp2
    go_roundw
    case rel=>exact ⟨M+1,hi,by omega,hhl,by go_num,rfl,HN1.out,HHI.out,HBQ.out.trans ((below_grow w2 _ _).mono HBQ.out.size)⟩
    case measure=>simp [intOf];omega
   | false =>
    have HN:=HNH.out rfl
    have HN1:Hid (∀ j,M<=j->j < l.length->lessB (tagOf (verAt l j)) (t1,t2)=false):=HN
    clear HN HNL HNH HHI
    go_wp2
    go_quiet_grown ((go_at_call 55;exact Calls.grown_of (HC.out _)))
    go_wp2
    go_roundw
    case rel=>exact ⟨lo,M,by omega,by omega,rfl,by go_num,HLO.out,HN1.out,HBQ.out.trans ((below_grow w2 _ _).mono HBQ.out.size)⟩
    case measure=>simp [intOf];omega
  ·obtain rfl:hi=lo:=by omega
   obtain ⟨hR1,hR2⟩:=HP.out hi hhl HLO.out HHI.out
   subst hR1
   have HR2:Hid (R2=(decide (R1 < l.length) && decide (tagOf (verAt l R1)=(t1,t2)))):=hR2
   clear hR2 HLO HHI
   by_cases hkl:R1 < l.length
   ·have hmi:(0:Int)<=(R1:Int):=by omega
    have hmx:(R1:Int) < (l.length:Int):=by omega
    obtain ⟨b,o,hpp,hblt,c0,c1,c2,c3,c4⟩:=ver_cells HREC.out hkl
    have HC:Hid (∀ W,Calls Tryz.prog 55 #[.agg #[.int .i64 (verAt l R1).n,.int .i64 (verAt l R1).who,.int .i64 (verAt l R1).size,.int .i64 (verAt l R1).at_,.string (verAt l R1).text],.agg #[.int .i64 t1,.int .i64 t2]] W fun e w'=>e=.returned (.int .i64 (tagC (tagOf (verAt l R1)) (t1,t2)))/\∃ q os,w'=grow (W.drewN q) os):=fun W=>HSK.out (verAt l R1) W
    have HZ:Hid (R2=decide (tagC (tagOf (verAt l R1)) (t1,t2)=0)):=by
     show _=_
     rw [HR2.out,decide_eq_true hkl,Bool.true_and]
     exact decide_eq_decide.2 (HTZ.out (verAt l R1)).symm
    subst hpp
    clear HR2
    generalize tagC (tagOf (verAt l R1)) (t1,t2)=cc at *
    generalize verAt l R1=y at *
    have j1:=cell_grown (lt_of_cellH q1) q1
    have j2:=cell_grown (lt_of_cellH q2) q2
    have i0:=cell_grown (lt_of_cellH c0) c0
    have i1:=cell_grown (lt_of_cellH c1) c1
    have i2:=cell_grown (lt_of_cellH c2) c2
    have i3:=cell_grown (lt_of_cellH c3) c3
    have i4:=cell_grown (lt_of_cellH c4) c4
    clear HSK HTL HTZ HP HALL HTR HREC
    go_wp2
    go_quiet_grown ((go_at_call 55;exact Calls.grown_of (HC.out _)))
    go_wp2
    go_ret2
    exact ⟨by rw [HZ.out];rfl,HB0.out.trans ((below_grow w2 _ _).mono HB0.out.size)⟩
   ·have HZ:Hid (R2=false):=by show _=_;rw [HR2.out,decide_eq_false hkl];rfl
    clear HR2 HSK HTL HTZ HP HALL HTR HREC
    go_wp2
    go_quiet (fail)
    go_wp2
    go_ret2
    exact ⟨by rw [HZ.out];rfl,HB0.out.trans ⟨rfl,rfl,rfl,Nat.le_refl _,fun _ _=>rfl⟩⟩
set_option maxRecDepth 10000 in
set_option maxHeartbeats 1000000 in
theorem place_any (p:Option Addr) (l:List Ver) (c:Nat) (t:Int×Int) (w:World) (hl:l.length<=1000) (hs:l.Pairwise fun x y=>lessB (tagOf x) (tagOf y)=true) (hr:Rec verE w p l) :
 Calls Tryz.prog 35 #[.slice p l.length c,.agg #[.int .i64 t.1,.int .i64 t.2]] w fun e w'=>e=.returned (.tuple #[.int .i64 ((placeV l t:Nat):Int),.bool (foundV l t)])/\RowKit.Below w.heap.size w w':=by
 obtain ⟨t1,t2⟩:=t
 have HB:Hid (RowKit.Below w.heap.size w (w.alloc (.cells #[.int .i64 t1,.int .i64 t2] 43))):=(RowKit.Below.refl _ _).alloc (Nat.le_refl _) _
 have HC:Hid (∀ W,RowKit.Below w.heap.size w W->Calls Tryz.prog 54 #[.slice p l.length c,.agg #[.int .i64 t1,.int .i64 t2],.func (.func 55) #[] #[]] W fun e w'=>e=.returned (.tuple #[.int .i64 ((placeV l (t1,t2):Nat):Int),.bool (foundV l (t1,t2))])/\RowKit.Below W.heap.size W w'):=fun W hW=>search_any p l c (t1,t2) W hl hs (hr.below hW)
 clear hs hr
 generalize placeV l (t1,t2)=R1 at *
 generalize foundV l (t1,t2)=R2 at *
 go_enter Tryz.func35,Tryz.ntmps35
 go_wp2_with fail
 refine (HC.out _ HB.out).mono ?_
 rintro e w2 ⟨rfl,hb2⟩
 have HB2:Hid (RowKit.Below w.heap.size w w2):=HB.out.trans (hb2.mono HB.out.size)
 clear hb2
 go_wp2
 go_ret2
 exact ⟨rfl,HB2.out⟩
end Go.Proofs.YtghpdhegfnhmkaaGreatDoor
