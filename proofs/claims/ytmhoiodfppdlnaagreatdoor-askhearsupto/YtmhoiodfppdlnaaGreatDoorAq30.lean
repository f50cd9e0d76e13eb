import Derived.Test.YtmhoiodfppdlnaaGreatDoorAq29
set_option maxRecDepth 10000
set_option maxHeartbeats 8000000
namespace Go.Proofs.YtmhoiodfppdlnaaGreatDoor
open Go.RowKit
variable {X:TypeId} {w w':World} {B h:Nat} {S S0:Nat->Prop} {a:MAsk} {P F T:Plc} {asks:ByteArray} {cv:Value} {aw:ByteArray} {m:Option Nat} {D:DataW Value} {row:ByteArray->Value}
theorem Upd.since {S S':Nat->Prop}{w w1 w':World}(hb:Below w.heap.size w w1)(h:Upd S S' w1 w'):Upd S S' w w':=(Upd.of_below (S:=S) hb).trans h
theorem hear_first {a:MAsk}{m:Msg}(h:a.takes m=true)(h1:m.shut=false)(h2:a.first):a.hear m=tolR (a.heard m):=by
 rcases h2 with h2 | h2
 ·exact hear_told h h1 h2
 ·exact hear_seal h h2
theorem ehear_any (ad:Nat->Addr)(hp:PEr X w B h S S0 a P F T asks cv aw m D row)(x:Msg×Lv)(hns:a.takes x.1=true->a.st=.sealing->x.1.shut=false)(hL:HasL w x)(hsm:a.small x.1)(hv:∀ v ∈ x.1.L,VerI64 v)(hG:∀ W:World,w.heap.size<=W.heap.size->(∀ k,k < w.heap.size->¬ S k->W.heap[k]?=w.heap[k]?)->ErrsQ W ad/\∃ z,W.cell? ⟨11,0,none⟩=some (.iface 252 (.pointer (some z)))) :
 Calls Tryz.prog 44 #[.pointer (some ⟨h,0,none⟩),.agg #[.string x.1.from_,.string x.1.to_,.string x.1.kind,.string x.1.key,.int .i64 x.1.op,.int .i64 x.1.config,.bool x.1.shut,.slice x.2.1 x.2.2.1 x.2.2.2]] w fun e w'=>(∃ p c,e=.returned (.slice p (a.hear x.1).2.length c)/\MsgsN w.heap.size w' p (a.hear x.1).2)/\∃ S',PErOf X w' B h S' (a.hear x.1).1/\Upd S S' w w':=by
 obtain⟨b1,_,_,_,_⟩:=bulk_from hsm
 have HCN:=fun W (hW:Below w.heap.size w W)=>counts_any (hp.below hW) x (by unfold maxLen;omega)
 have HTK:∀ W,Below w.heap.size w W->a.takes x.1=true->x.1.shut=false->a.first->Calls Tryz.prog 69 #[.pointer (some ⟨h,0,none⟩),.string x.1.from_,.slice x.2.1 x.2.2.1 x.2.2.2] W fun e w'=>(∃ p c,e=.returned (.slice p (a.hear x.1).2.length c)/\MsgsN w.heap.size w' p (a.hear x.1).2)/\∃ S',PErOf X w' B h S' (a.hear x.1).1/\Upd S S' w w':=fun W hW h1 h2 h3=>by
  rw [hear_first h1 h2 h3]
  exact(phtold_any ad (hp.below hW) x h1 h3 (hL.below hW) hv hsm (fun W2 hs hk=>hG W2 (Nat.le_trans hW.size hs) (fun k hk1 hk2=>(hk k (Nat.lt_of_lt_of_le hk1 hW.size) hk2).trans (hW.block k hk1)))).mono fun e w' hq=>by
   obtain⟨⟨p,c,e1,e2⟩,S',h2,h3⟩:=hq
   exact⟨⟨p,c,e1,e2.mono hW.size⟩,S',h2,h3.since hW⟩
 have HKP:∀ W,Below w.heap.size w W->a.takes x.1=true->x.1.shut=false->a.st=.keeping->Calls Tryz.prog 68 #[.pointer (some ⟨h,0,none⟩),.string x.1.from_] W fun e w'=>e=.returned (.tuple #[])/\∃ S',PErOf X w' B h S' (a.hear x.1).1/\Upd S S' w w':=fun W hW h1 h2 h3=>by
  rw [hear_kept h1 h2 h3]
  exact(phkept_any (hp.below hW) x.1 h1 h3 hv b1).mono fun e w' hq=>by
   obtain⟨h1,S',h2,h3⟩:=hq
   exact⟨h1,S',h2,h3.since hW⟩
 have hnt:a.takes x.1=true->x.1.shut=true->a.st≠.sealing:=fun h1 h2 e=>by rw [hns h1 e] at h2;cases h2
 have HED:∀ W,Below w.heap.size w W->a.takes x.1=true->x.1.shut=true->Calls Tryz.prog 67 #[.pointer (some ⟨h,0,none⟩),.string ⟨#[114,101,102,117,115,101,100]⟩,.agg #[.int .i64 0,.int .i64 0,.string ⟨#[]⟩,.bool false]] W fun e w'=>e=.returned (.tuple #[])/\PErOf X w' B h S (a.hear x.1).1/\Upd S S w w':=fun W hW h1 h2=>by
  rw [hear_shut h1 h2 (hnt h1 h2)]
  have hPW:=hp.below hW
  refine(pend_any ⟨#[114,101,102,117,115,101,100]⟩ 0 0 ⟨#[]⟩ false hPW.blk rfl).mono fun e w' hq=>?_
  obtain⟨g1,g2⟩:=hq
  have hob2:({ a with st:=.refused }:MAsk).obj=(0,0,⟨#[]⟩,false):=if_neg (fun e=>by rcases e.1 with e | e <;> cases e)
  have hcs:=end_cells (a:=a) (a':={ a with st:=.refused }) P aw (enoughN P.c) (.map m) F T asks cv rfl rfl rfl
  rw [hob2] at hcs
  exact⟨g1,hPW.ended (cv':=.nilFunc) (a':={ a with st:=.refused }) (hcs ▸ g2) rfl rfl rfl (hPW.fine.ended (Or.inr rfl)) (Or.inr rfl),(g2.upd hPW.self (fun k hk=>Or.inl hk)).since hW⟩
 have HKE:∀ W,Below w.heap.size w W->PErOf X W B h S a:=fun W hW=>⟨_,_,_,_,_,_,_,_,_,_,hp.below hW⟩
 have hc10:∀ W,Below w.heap.size w W->W.cell? ⟨h,20,none⟩=some (.string a.st.word):=fun W hW=>(hp.below hW).cell 20
 have hno:a.takes x.1=false->a.hear x.1=(a,[]):=hear_no
 have hsh:a.takes x.1=true->x.1.shut=true->(a.hear x.1).2=[]:=fun h1 h2=>by rw [hear_shut h1 h2 (hnt h1 h2)]
 have hkh:a.takes x.1=true->x.1.shut=false->a.st=.keeping->(a.hear x.1).2=[]:=fun h1 h2 h3=>by rw [hear_kept h1 h2 h3]
 have htf:a.takes x.1=true->a.first∨a.st=.keeping:=fun h1=>(etakes_facts h1).1
 clear hp hL hsm hv hG b1 hnt hns
 obtain⟨⟨m1,m2,m3,m4,m5,m6,m7,mL⟩,lp,ln,lc⟩:=x
 dsimp only at *
 obtain⟨w1,hw1⟩:∃ w1,w1=w.alloc (.cells #[.string m1,.string m2,.string m3,.string m4,.int .i64 m5,.int .i64 m6,.bool m7,.slice lp ln lc] 57):=⟨_,rfl⟩
 have hb1:Below w.heap.size w w1:=zBe hw1
 have hlt1:w.heap.size < w1.heap.size:=by rw [hw1];simp
 have hbl1:w1.heap[w.heap.size]?=some (.cells #[.string m1,.string m2,.string m3,.string m4,.int .i64 m5,.int .i64 m6,.bool m7,.slice lp ln lc] 57 (0,0)):=by
  rw [hw1]
  show(w.heap.push _)[w.heap.size]?=_
  simp
 have g0:=(blk_cell hbl1 0).1
 have g1:=(blk_cell hbl1 1).1
 have g2:=(blk_cell hbl1 2).1
 have g3:=(blk_cell hbl1 3).1
 have g4:=(blk_cell hbl1 4).1
 have g5:=(blk_cell hbl1 5).1
 have g6:=(blk_cell hbl1 6).1
 have g7:=(blk_cell hbl1 7).1
 have HW1:Hid (w1=w.alloc (.cells #[.string m1,.string m2,.string m3,.string m4,.int .i64 m5,.int .i64 m6,.bool m7,.slice lp ln lc] 57)):=hw1
 have HCT:Calls Tryz.prog 66 #[.pointer (some ⟨h,0,none⟩),.agg #[.string m1,.string m2,.string m3,.string m4,.int .i64 m5,.int .i64 m6,.bool m7,.slice lp ln lc]] w1.drew fun e w'=>e=.returned (.bool (a.takes ⟨m1,m2,m3,m4,m5,m6,m7,mL⟩))/\(w'.cell? ⟨w.heap.size,0,none⟩=some (.string m1)/\w'.cell? ⟨w.heap.size,6,none⟩=some (.bool m7)/\w'.cell? ⟨w.heap.size,7,none⟩=some (.slice lp ln lc))/\Hid (Below w.heap.size w w'):=(HCN w1.drew hb1.drew).mono fun e w' hq=>by
  have hW:Below w1.heap.size w1 w':=(Below.refl _ w1).drew.trans hq.2
  have hb:=(hW.block _ hlt1).trans hbl1
  exact⟨hq.1,⟨(blk_cell hb 0).1,(blk_cell hb 6).1,(blk_cell hb 7).1⟩,hb1.trans (hW.mono hb1.size)⟩
 have HNO:Hid (a.takes ⟨m1,m2,m3,m4,m5,m6,m7,mL⟩=false->a.hear ⟨m1,m2,m3,m4,m5,m6,m7,mL⟩=(a,[])):=hno
 have HKEE:Hid (∀ W,Below w.heap.size w W->PErOf X W B h S a):=HKE
 clear hw1 hb1 hlt1 hbl1 HCN hno HKE
 by_cases htk:a.takes ⟨m1,m2,m3,m4,m5,m6,m7,mL⟩=true
 ·rw [htk] at HCT
  have htl:=htf htk
  cases m7 with
  | true =>
   have HEX:Hid (∀ W,Below w.heap.size w W->Calls Tryz.prog 67 #[.pointer (some ⟨h,0,none⟩),.string ⟨#[114,101,102,117,115,101,100]⟩,.agg #[.int .i64 0,.int .i64 0,.string ⟨#[]⟩,.bool false]] W fun e w'=>e=.returned (.tuple #[])/\PErOf X w' B h S (a.hear ⟨m1,m2,m3,m4,m5,m6,true,mL⟩).1/\Upd S S w w'):=fun W hW=>HED W hW htk rfl
   have HE2:Hid ((a.hear ⟨m1,m2,m3,m4,m5,m6,true,mL⟩).2=[]):=hsh htk rfl
   clear HTK HKP HED hsh hkh htf htk htl HNO HKEE hc10
   generalize a.hear ⟨m1,m2,m3,m4,m5,m6,true,mL⟩=R at *
   go_enter Tryz.func44,Tryz.ntmps44
   go_wp2
   rw [<- HW1.out]
   refine wp_region_still_tail 4 (by kernel_rfl) (by kernel_rfl) ?_
   simp only [List.take_succ_cons,List.take_zero,List.drop_succ_cons,List.drop_zero]
   still_step
   still_step
   still_step
   still_step
   refine wpStill_nil ?_
   go_wp2_with fail
   refine HCT.mono ?_
   rintro e w2 ⟨rfl,⟨k0,k6,k7⟩,HB2⟩
   have HEY:=HEX.out w2 HB2.out
   clear HCT HEX g0 g1 g2 g3 g4 g5 g6 g7
   go_wp2_with fail
   refine HEY.mono ?_
   rintro e w3 ⟨rfl,hP3,hU3⟩
   have HP3:Hid (PErOf X w3 B h S R.1):=hP3
   have HU3:Hid (Upd S S w w3):=hU3
   clear hP3 hU3 HEY
   go_wp2
   go_ret
   rw [HE2.out]
   exact⟨⟨none,0,rfl,MsgsN.nil _ _⟩,S,HP3.out,HU3.out⟩
  | false =>
   by_cases hkp:a.st=.keeping
   ·have HKX:Hid (∀ W,Below w.heap.size w W->Calls Tryz.prog 68 #[.pointer (some ⟨h,0,none⟩),.string m1] W fun e w'=>e=.returned (.tuple #[])/\∃ S',PErOf X w' B h S' (a.hear ⟨m1,m2,m3,m4,m5,m6,false,mL⟩).1/\Upd S S' w w'):=fun W hW=>HKP W hW htk rfl hkp
    have HE2:Hid ((a.hear ⟨m1,m2,m3,m4,m5,m6,false,mL⟩).2=[]):=hkh htk rfl hkp
    have HC10:Hid (∀ W,Below w.heap.size w W->W.cell? ⟨h,20,none⟩=some (.string ⟨#[107,101,101,112,105,110,103]⟩)):=fun W hW=>by rw [hc10 W hW,hkp];rfl
    clear HTK HKP HED hsh hkh htf htk htl HNO HKEE hc10 hkp
    generalize a.hear ⟨m1,m2,m3,m4,m5,m6,false,mL⟩=R at *
    go_enter Tryz.func44,Tryz.ntmps44
    go_wp2
    rw [<- HW1.out]
    refine wp_region_still_tail 4 (by kernel_rfl) (by kernel_rfl) ?_
    simp only [List.take_succ_cons,List.take_zero,List.drop_succ_cons,List.drop_zero]
    still_step
    still_step
    still_step
    still_step
    refine wpStill_nil ?_
    go_wp2_with fail
    refine HCT.mono ?_
    rintro e w2 ⟨rfl,⟨k0,k6,k7⟩,HB2⟩
    have HKY:=HKX.out w2 HB2.out
    have d10:=HC10.out w2 HB2.out
    clear HCT HKX HC10 g0 g1 g2 g3 g4 g5 g6 g7
    go_wp2_with fail
    refine HKY.mono ?_
    rintro e w3 ⟨rfl,S3,hP3,hU3⟩
    have HP3:Hid (PErOf X w3 B h S3 R.1):=hP3
    have HU3:Hid (Upd S S3 w w3):=hU3
    clear hP3 hU3 HKY
    go_wp2
    go_ret
    rw [HE2.out]
    exact⟨⟨none,0,rfl,MsgsN.nil _ _⟩,S3,HP3.out,HU3.out⟩
   ·have hlk:a.first:=by rcases htl with e | e;exact e;exact absurd e hkp
    have HTX:Hid (∀ W,Below w.heap.size w W->Calls Tryz.prog 69 #[.pointer (some ⟨h,0,none⟩),.string m1,.slice lp ln lc] W fun e w'=>(∃ p c,e=.returned (.slice p (a.hear ⟨m1,m2,m3,m4,m5,m6,false,mL⟩).2.length c)/\MsgsN w.heap.size w' p (a.hear ⟨m1,m2,m3,m4,m5,m6,false,mL⟩).2)/\∃ S',PErOf X w' B h S' (a.hear ⟨m1,m2,m3,m4,m5,m6,false,mL⟩).1/\Upd S S' w w'):=fun W hW=>HTK W hW htk rfl hlk
    have hne:¬ a.st.word.toList=[107,101,101,112,105,110,103]:=by
     rcases hlk with e | e <;> rw [e] <;> decide +kernel
    have hbq:(a.st.word.toList==[107,101,101,112,105,110,103])=false:=by
     rcases hlk with e | e <;> rw [e] <;> decide +kernel
    clear HTK HKP HED hsh hkh htf htk htl HNO HKEE hlk hkp
    generalize a.hear ⟨m1,m2,m3,m4,m5,m6,false,mL⟩=R at *
    generalize a.st.word=sw at *
    have HC10:Hid (∀ W,Below w.heap.size w W->W.cell? ⟨h,20,none⟩=some (.string sw)):=hc10
    clear hc10
    go_enter Tryz.func44,Tryz.ntmps44
    go_wp2
    rw [<- HW1.out]
    refine wp_region_still_tail 4 (by kernel_rfl) (by kernel_rfl) ?_
    simp only [List.take_succ_cons,List.take_zero,List.drop_succ_cons,List.drop_zero]
    still_step
    still_step
    still_step
    still_step
    refine wpStill_nil ?_
    go_wp2_with fail
    refine HCT.mono ?_
    rintro e w2 ⟨rfl,⟨k0,k6,k7⟩,HB2⟩
    have HTY:=HTX.out w2 HB2.out
    have d10:=HC10.out w2 HB2.out
    clear HCT HTX HC10 g0 g1 g2 g3 g4 g5 g6 g7
    go_wp2_with fail
    refine HTY.mono ?_
    rintro e w3 ⟨⟨p3,c3,rfl,hM3⟩,S3,hP3,hU3⟩
    have HM3:Hid (MsgsN w.heap.size w3 p3 R.2):=hM3
    have HP3:Hid (PErOf X w3 B h S3 R.1):=hP3
    have HU3:Hid (Upd S S3 w w3):=hU3
    clear hM3 hP3 hU3 HTY
    go_wp2
    go_ret
    exact⟨⟨p3,c3,rfl,HM3.out⟩,S3,HP3.out,HU3.out⟩
 ·have htf':a.takes ⟨m1,m2,m3,m4,m5,m6,m7,mL⟩=false:=Bool.eq_false_iff.2 htk
  rw [htf'] at HCT
  have HR:=HNO.out htf'
  rw [HR]
  clear HTK HKP HED hsh hkh htf htk htf' HNO hc10 HR
  go_enter Tryz.func44,Tryz.ntmps44
  go_wp2
  rw [<- HW1.out]
  refine wp_region_still_tail 4 (by kernel_rfl) (by kernel_rfl) ?_
  simp only [List.take_succ_cons,List.take_zero,List.drop_succ_cons,List.drop_zero]
  still_step
  still_step
  still_step
  still_step
  refine wpStill_nil ?_
  go_wp2_with fail
  refine HCT.mono ?_
  rintro e w2 ⟨rfl,⟨k0,k6,k7⟩,HB2⟩
  clear HCT g0 g1 g2 g3 g4 g5 g6 g7
  go_wp2
  go_ret
  exact⟨⟨none,0,rfl,MsgsN.nil _ _⟩,S,HKEE.out w2 HB2.out,Upd.of_below HB2.out⟩
end Go.Proofs.YtmhoiodfppdlnaaGreatDoor
