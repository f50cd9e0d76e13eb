import Derived.Test.YtghpdhegfnhmkaaGreatDoorS27
namespace Go.Proofs.YtghpdhegfnhmkaaGreatDoor
open Go.RowKit
variable {h:Nat} {S:Nat->Prop} {L:List Kep} {s:Bool} {m:Option Nat} {D:DataW Value} {row:ByteArray->Value} {blk:ByteArray->Nat}
theorem sameKey_decide (z x:ByteArray):(litK z).sameKey (litK x)=decide (z=x):=by
 by_cases e:z=x
 ·subst e
  rw [sameKey_litK,decide_eq_true rfl]
 ·rw [Maps.sameKey_ne (fun h=>e (litK_inj h)),decide_eq_false e]
def sumLeft (L:List Kep) (left:Lit->Bool):Nat:=(((keysL L).filter fun x=>left (litK x)).map fun x=>(getL L x).length).sum
theorem sum_strike {K:List ByteArray} (hn:K.Nodup) (f:ByteArray->Nat) (p:ByteArray->Bool) {x:ByteArray} (hx:x ∈ K) (hp:p x=true):((K.filter p).map f).sum=f x+((K.filter fun z=>p z && !decide (z=x)).map f).sum:=by
 induction K with
 | nil=>cases hx
 | cons a K ih =>
  obtain ⟨h1,h2⟩:=List.nodup_cons.1 hn
  by_cases e:a=x
  ·subst e
   have hK:K.filter (fun z=>p z && !decide (z=a))=K.filter p:=by
    apply List.filter_congr
    intro z hz
    have:z≠a:=fun e=>h1 (e ▸ hz)
    simp [this]
   rw [List.filter_cons_of_pos hp,List.filter_cons_of_neg (by simp),hK]
   simp
  ·have hxK : x ∈ K := by
    rcases List.mem_cons.1 hx with h3 | h3
    ·exact absurd h3.symm e
    ·exact h3
   have:=ih h2 hxK
   cases hpa:p a with
   | true =>
    rw [List.filter_cons_of_pos hpa,List.filter_cons_of_pos (by simp [hpa,e]),List.map_cons,List.map_cons,List.sum_cons,List.sum_cons,this]
    omega
   | false =>
    rw [List.filter_cons_of_neg (by simp [hpa]),List.filter_cons_of_neg (by simp [hpa]),this]
theorem sumLeft_strike {L:List Kep} (hs:SortedK L) {left:Lit->Bool} {x:ByteArray} (hx:x ∈ keysL L) (hl:left (litK x)=true):sumLeft L left=(getL L x).length+sumLeft L (fun z=>left z && !z.sameKey (litK x)):=by
 unfold sumLeft
 rw [sum_strike (keysL_nodup hs) (fun x=>(getL L x).length) (fun x=>left (litK x)) hx hl]
 simp only [sameKey_decide]
theorem sumLeft_all {L:List Kep} (hs:SortedK L) {left:Lit->Bool} (hl:∀ x ∈ keysL L,left (litK x)=true):sumLeft L left=L.length:=by
 unfold sumLeft
 rw [List.filter_eq_self.2 hl,keys_sum hs]
theorem sumLeft_none {L:List Kep} {left:Lit->Bool} (hl:∀ k,left k=false):sumLeft L left=0:=by
 unfold sumLeft
 rw [List.filter_eq_nil_iff.2 (fun x _=>by rw [hl];decide)]
 rfl
theorem keysL_size {L:List Kep} (hs:SortedK L) (hf:∀ x ∈ L,isN x.1=true/\verOk x.2=true) {x:ByteArray} (hx:x ∈ keysL L):x.size<=16:=by
 obtain ⟨v,hv⟩:=List.exists_mem_of_ne_nil _ (((keysOk L hs).mem x).1 hx)
 exact (isN_size (hf _ (mem_getL.1 hv)).1).2
theorem HdAt.entry {w:World} (hd:HdAt w h S L s m D row blk) {b:Nat} (hm:m=some b) {x:ByteArray} {c:Value} {kl:Lit} {y:DataW Value×List MemPlace} {left:Lit->Bool} (hsub:∀ z,left z=true->Maps.has D z=true) (hkey:keyOf Tryz.prog 9 (.string x)=some kl) (hlk:left kl=true) (hv:anyR c=some y) (hat:∀ zd,D.atKey kl zd=y.1):kl=litK x/\x ∈ keysL L/\c=row x:=by
 obtain ⟨x',e1,e2,e3⟩:=keyOfK_inv hkey
 injection e1 with e1
 subst e1
 subst e2
 obtain ⟨_,_,_,h4,h5⟩:=hd.mapS b hm
 have hh:=hsub _ hlk
 rw [h4 x e3] at hh
 have hne:getL L x≠[]:=by simpa using hh
 refine ⟨rfl,((keysOk L hd.sorted).mem x).2 hne,?_⟩
 have h6:=h5 x hne .nil
 rw [hat] at h6
 have h7:y.1=.held c:=by
  unfold anyR at hv
  exact (congrArg Prod.fst (Option.some.inj hv)).symm
 rw [h7] at h6
 injection h6
set_option maxRecDepth 10000 in
set_option maxHeartbeats 1600000 in
theorem count_nil {w:World} (hd:HdAt w h S L s none D row blk):Calls Tryz.prog 36 #[.pointer (some ⟨h,0,none⟩)] w fun e w'=>e=.returned (.int .i64 (L.length:Int))/\Below w.heap.size w w':=by
 have HA:Hid (Calls Tryz.prog 53 #[.pointer (some ⟨h,0,none⟩)] w fun e w'=>e=.returned (.map none)/\w'=w):=all_any hd
 rw [hd.nothing rfl]
 clear hd
 have hrg:=run_range_nilMap (P:=Tryz.prog) w 36 9 62 Tryz.underlying36
 have hnx:∀ ty,(Instr.next (.pointer (some ⟨w.heap.size,0,none⟩)) false ty).run Tryz.prog (w.alloc (.mapIter none 0 #[] 0))=_:=fun ty=>run_next_nilMap w ty 0 0 #[]
 go_enter Tryz.func36,Tryz.ntmps36
 go_wp2_with fail
 refine HA.out.mono ?_
 rintro e w1 ⟨rfl,hw1⟩
 rw [hw1]
 clear hw1 w1 HA
 go_wp2
 refine wp_loop_rounds 1 ?_
 rw [rounds_succ]
 go_wp2
 go_ret
 exact ⟨rfl,(Below.refl _ _).alloc (Nat.le_refl _) _⟩
set_option maxRecDepth 10000 in
set_option maxHeartbeats 1600000 in
theorem count_some {w:World} {b:Nat} (hd:HdAt w h S L s (some b) D row blk):Calls Tryz.prog 36 #[.pointer (some ⟨h,0,none⟩)] w fun e w'=>e=.returned (.int .i64 (L.length:Int))/\Below w.heap.size w w':=by
 have HA:Hid (Calls Tryz.prog 53 #[.pointer (some ⟨h,0,none⟩)] w fun e w'=>e=.returned (.map (some b))/\w'=w):=all_any hd
 obtain ⟨hSb,hbh,⟨n,hown⟩,h4,h5⟩:=hd.mapS b rfl
 have HD:Hid (HdAt w h S L s (some b) D row blk):=hd
 have hfew:=hd.few
 have H0:Hid (sumLeft L (Maps.has D)=L.length):=sumLeft_all hd.sorted (fun x hx=>by
  rw [h4 x (by have:=keysL_size hd.sorted hd.fits hx;unfold maxLen;omega)]
  simpa using ((keysOk L hd.sorted).mem x).1 hx)
 have hblt:b < w.heap.size:=hd.inS b hSb
 clear h4 h5 hd hSb hbh
 go_enter Tryz.func36,Tryz.ntmps36
 go_wp2_with fail
 refine HA.out.mono ?_
 rintro e w1 ⟨rfl,hw1⟩
 rw [hw1]
 clear hw1 w1 HA
 go_wp2_with (first
  | (at_range;refine wpList_range_own _ rfl _ 36 rfl 9 62 keyedK Tryz.underlying36 anyR b n D rfl hown ?_;intro w0 hrg0 hg0 hs0)
  | go_in)
 go_frame
 go_loopw [3] (fun k wr=>∃ (left:Lit->Bool) (cnt acc:Nat),wr.ranges Tryz.prog 9 anyR b w.heap.size n D left cnt/\k=.int .i64 acc/\acc+sumLeft L left=L.length/\(∀ z,left z=true->Maps.has D z=true)/\Below w.heap.size w wr) (fun _ wr=>wr.rangeLeft b w.heap.size)
 case atStart=>exact ⟨Maps.has D,Maps.size D,0,hrg0,rfl,by rw [H0.out];omega,fun z hz=>hz,⟨hg0.os,hg0.tape,hg0.output,hg0.size,fun k hk=>hg0.block k hk (by simp)⟩⟩
 case round =>
  clear hg0 hs0 hrg0 hown H0
  obtain ⟨left,cnt,acc,hrg,rfl,hacc,hsub,hbw⟩:=hrel
  obtain ⟨w1,rfl⟩:∃ w1,w1=wr:=⟨_,rfl⟩
  have HACC:Hid (acc+sumLeft L left=L.length):=hacc
  have HSUB:Hid (∀ z,left z=true->Maps.has D z=true):=hsub
  have HBW:Hid (Below w.heap.size w w1):=hbw
  have hacc2:acc<=60:=by omega
  clear hacc hsub hbw
  go_wp2_with (first
   | (at_next;refine wpList_next_ranges (α:=ByteArray) (β:=Value) _ rfl _ rfl 9 keyedK anyR Value.string id (fun key kl hk=>by obtain ⟨x,hx,_⟩:=keyOfK_inv hk;exact ⟨x,hx⟩) (fun v y _=>⟨v,rfl⟩) b w.heap.size n D left cnt rfl hrg ?_ ?_)
   | go_in)
  ·intro _ hl0
   have HE:Hid (acc=L.length):=by
    show _=_
    have:=HACC.out
    rw [sumLeft_none hl0] at this
    exact this
   go_wp2
   go_ret
   exact ⟨by rw [HE.out];rfl,HBW.out⟩
  ·intro x c kl yd yp w2 cnt2 hkey hlk hv hat hrg2 hlt2 hg2 hs2 hen
   obtain ⟨rfl,hxk,rfl⟩:=HD.out.entry rfl HSUB.out hkey hlk hv hat
   have HST:Hid (sumLeft L left=(getL L x).length+sumLeft L (fun z=>left z && !z.sameKey (litK x))):=sumLeft_strike HD.out.sorted hxk hlk
   obtain ⟨p,cc,hrow,_,_,_,_⟩:=HD.out.form x
   have hrow2:row x=.slice p (getL L x).length cc:=hrow
   rw [hrow2] at hen ⊢
   have HRG:Hid (w2.ranges Tryz.prog 9 anyR b w.heap.size n D (fun z=>left z && !z.sameKey (litK x)) cnt2):=hrg2
   have HLT:Hid (cnt2 < cnt):=hlt2
   have HRG0:Hid (w1.ranges Tryz.prog 9 anyR b w.heap.size n D left cnt):=hrg
   have HB2:Hid (Below w.heap.size w w2):=HBW.out.trans ⟨hg2.os,hg2.tape,hg2.output,hg2.size,fun k hk=>hg2.block k (by have:=HBW.out.size;omega) (fun e=>by injection e with e;omega)⟩
   have hgl:(getL L x).length<=60:=Nat.le_trans (getL_le _ _) hfew
   have HAC2:Hid (acc+(getL L x).length+sumLeft L (fun z=>left z && !z.sameKey (litK x))=L.length):=by
    show _=_
    have:=HACC.out
    rw [HST.out] at this
    omega
   have HS2:Hid (∀ z,(left z && !z.sameKey (litK x))=true->Maps.has D z=true):=fun z hz=>HSUB.out z (by simp only [Bool.and_eq_true] at hz;exact hz.1)
   clear hv hat hrg2 hlt2 hg2 hs2 hrow hrow2 hkey hlk hxk HST HACC hrg
   generalize (getL L x).length=g at *
   go_wp2
   go_roundw
   case rel=>exact ⟨_,cnt2,acc+g,HRG.out,by go_num,HAC2.out,HS2.out,HB2.out⟩
   case measure=>rw [HRG.out.left_eq,HRG0.out.left_eq];exact HLT.out
theorem count_any {w:World} (hd:HdAt w h S L s m D row blk):Calls Tryz.prog 36 #[.pointer (some ⟨h,0,none⟩)] w fun e w'=>e=.returned (.int .i64 (L.length:Int))/\Below w.heap.size w w':=by
 cases m with
 | none=>exact count_nil hd
 | some b=>exact count_some hd
end Go.Proofs.YtghpdhegfnhmkaaGreatDoor
