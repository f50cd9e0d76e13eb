import Derived.Test.YtmhoiodfppdlnaaGreatDoorCy25
namespace Go.Proofs.YtmhoiodfppdlnaaGreatDoor
open Go.RowKit
set_option maxRecDepth 10000 in
set_option maxHeartbeats 8000000 in
theorem enew_b (ad:Nat->Addr) (nm key:ByteArray) (op:Int) (f t:Cfg) (fn tn:Int) (p q:Option Addr) (cap cap2:Nat) (asks told st:ByteArray) (cf:FuncId) (caps:Array Value) (w:World) (hcf:CfgAt w f p cap) (hct:CfgAt w t q cap2) (hE:ErrsQ w ad) (hf:¬ 0 < (cfgF f).1) (ht:¬ 0 < (cfgF t).1) (hk:isN key=true) (hbd:op < 0∨fn < 0∨tn < 0) :
 Calls Tryz.prog 52 #[.agg #[.string nm,.string key,.int .i64 op,.int .i64 f.n,.int .i64 f.k,.slice p f.L.length cap,.int .i64 fn,.int .i64 t.n,.int .i64 t.k,.slice q t.L.length cap2,.int .i64 tn,.string asks,.string told,.string st,.func (.func cf) #[] caps]] w fun e w'=>(∃ ev,e=.returned (.tuple #[.agg zErr,ev])/\ErrIs w' ad ev 2 (-1))/\Below w.heap.size w w':=by
 obtain ⟨w2,hw2⟩:∃ w2,w2=(w.alloc (.cells #[.string nm,.string key,.int .i64 op,.int .i64 f.n,.int .i64 f.k,.slice p f.L.length cap,.int .i64 fn,.int .i64 t.n,.int .i64 t.k,.slice q t.L.length cap2,.int .i64 tn,.string asks,.string told,.string st,.func (.func cf) #[] caps] 104)).alloc (.cells #[.string ⟨#[]⟩,.string ⟨#[]⟩,.int .i64 0,.int .i64 0,.int .i64 0,.slice none 0 0,.int .i64 0,.string ⟨#[]⟩,.int .i64 0,.map none,.int .i64 0,.int .i64 0,.slice none 0 0,.int .i64 0,.int .i64 0,.int .i64 0,.slice none 0 0,.int .i64 0,.string ⟨#[]⟩,.nilFunc,.string ⟨#[]⟩,.int .i64 0,.int .i64 0,.string ⟨#[]⟩,.bool false] 93):=⟨_,rfl⟩
 have hP2:PlAt w w2 nm key op f p cap fn t q cap2 tn asks told st (.func (.func cf) #[] caps):=by rw [hw2];exact PlAt.start w nm key op f p cap fn t q cap2 tn asks told st (.func (.func cf) #[] caps)
 have c3:=(blk_cell hP2.pl 3).1
 have c4:=(blk_cell hP2.pl 4).1
 have c5:=(blk_cell hP2.pl 5).1
 unfold plCells at c3 c4 c5
 have HCK:=qcheck_any ad f p cap w2 (hcf.below hP2.be) (hE.below hP2.be)
 unfold cfgA at HCK
 rw [(cfgF_fine hf).2.2.1] at HCK
 have HCT:Hid (∀ W,Below w.heap.size w W->Calls Tryz.prog 73 #[.agg #[.int .i64 t.n,.int .i64 t.k,.slice q t.L.length cap2]] W fun e w'=>(∃ ev,e=.returned ev/\ErrIs w' ad ev (cfgF t).1 (cfgF t).2)/\Below W.heap.size W w'):=fun W hW=>qcheck_any ad t q cap2 W (hct.below hW) (hE.below hW)
 have HER:Hid (ErrsQ w ad):=hE
 have HNM:Hid (∀ W,Calls Tryz.prog 74 #[.string key] W fun e w'=>e=.returned (.bool (isN key))/\Below W.heap.size W w'):=fun W=>pname_any key W
 have HW2:Hid (w2=(w.alloc (.cells #[.string nm,.string key,.int .i64 op,.int .i64 f.n,.int .i64 f.k,.slice p f.L.length cap,.int .i64 fn,.int .i64 t.n,.int .i64 t.k,.slice q t.L.length cap2,.int .i64 tn,.string asks,.string told,.string st,.func (.func cf) #[] caps] 104)).alloc (.cells #[.string ⟨#[]⟩,.string ⟨#[]⟩,.int .i64 0,.int .i64 0,.int .i64 0,.slice none 0 0,.int .i64 0,.string ⟨#[]⟩,.int .i64 0,.map none,.int .i64 0,.int .i64 0,.slice none 0 0,.int .i64 0,.int .i64 0,.int .i64 0,.slice none 0 0,.int .i64 0,.string ⟨#[]⟩,.nilFunc,.string ⟨#[]⟩,.int .i64 0,.int .i64 0,.string ⟨#[]⟩,.bool false] 93)):=hw2
 have HP2:Hid (PlAt w w2 nm key op f p cap fn t q cap2 tn asks told st (.func (.func cf) #[] caps)):=hP2
 have HTF:Hid (cfgF t=(0,-1)):=(cfgF_fine ht).2.2.1
 rw [hk] at HNM
 clear hw2 hP2 hcf hct hE ht hf hk
 go_enter Tryz.func52,Tryz.ntmps52
 go_wp2_with (first | rw [<- HW2.out] | fail)
 refine HCK.mono ?_
 rintro e w3 ⟨⟨ev,rfl,hev⟩,hb3⟩
 obtain rfl:=ErrIs.isNil hev
 have HP3:Hid (PlAt w w3 nm key op f p cap fn t q cap2 tn asks told st (.func (.func cf) #[] caps)):=HP2.out.below hb3
 have HCU:=HCT.out w3 HP3.out.be
 have d7:=(blk_cell HP3.out.pl 7).1
 have d8:=(blk_cell HP3.out.pl 8).1
 have d9:=(blk_cell HP3.out.pl 9).1
 unfold plCells at d7 d8 d9
 clear hev hb3 HCK HCT c3 c4 c5
 go_wp2_with fail
 refine HCU.mono ?_
 rintro e w4 ⟨⟨ev,rfl,hev⟩,hb4⟩
 rw [HTF.out] at hev
 obtain rfl:=ErrIs.isNil hev
 have HP4:Hid (PlAt w w4 nm key op f p cap fn t q cap2 tn asks told st (.func (.func cf) #[] caps)):=HP3.out.below hb4
 have e1:=(blk_cell HP4.out.pl 1).1
 unfold plCells at e1
 clear hev hb4 HCU d7 d8 d9
 go_wp2_with fail
 refine (HNM.out _).mono ?_
 rintro e w5 ⟨rfl,hb5⟩
 have HP5:Hid (PlAt w w5 nm key op f p cap fn t q cap2 tn asks told st (.func (.func cf) #[] caps)):=HP4.out.below hb5
 have e2:=(blk_cell HP5.out.pl 2).1
 have e6:=(blk_cell HP5.out.pl 6).1
 have e10:=(blk_cell HP5.out.pl 10).1
 unfold plCells at e2 e6 e10
 have hez:=(HER.out.below HP5.out.be).c1
 have HP6:Hid (PlAt w w5.drew nm key op f p cap fn t q cap2 tn asks told st (.func (.func cf) #[] caps)):=HP5.out.below (Below.refl _ _).drew
 obtain ⟨r1,r2,r3,r4,r5,r6⟩:=row_set zErr HP6.out.rs
 obtain ⟨wz,hwz⟩:∃ wz,wz=w5.drew.setRow (w.heap.size+1) zErr:=⟨_,rfl⟩
 rw [<- hwz] at r1 r2 r3 r4 r5 r6
 have HR1:Hid (wz.heap[w.heap.size+1]?=some (.cells zErr 93 (0,0))):=r1
 have HEV:Hid (ErrIs wz ad (.iface 252 (.pointer (some (ad 1)))) _ _):=ErrIs.sent 1 (by decide)
 have HGZ:Hid (wz.cell? ⟨0,0,none⟩=some (.iface 252 (.pointer (some (ad 1))))):=(World.cell?_of_block (a:=⟨0,0,none⟩) (r3 _ (by show 0≠_;have:=lt_cellE (HER.out.c1);omega))).trans hez
 have HWZ:Hid (wz=w5.drew.setRow (w.heap.size+1) zErr):=hwz
 have HBF:Hid (Below w.heap.size w wz):=⟨r4.trans HP6.out.be.os,r5.trans HP6.out.be.tape,r6.trans HP6.out.be.output,by rw [r2];exact HP6.out.be.size,fun k hk=>(r3 k (by omega)).trans (HP6.out.be.block k hk)⟩
 clear hb5 e1 hwz r1 r2 r3 r4 r5 r6
 by_cases g1:op < 0
 ·have hd1:decide (op < 0)=true:=decide_eq_true g1
  clear hbd g1
  go_wp2
  refine wp_region_held_drew (S:=fun W=>W.cell? ⟨0,0,none⟩=some (.iface 252 (.pointer (some (ad 1))))) (by kernel_rfl) hez (fun hHeld=>?_)
  refine wpAnyH_take (i:=0) (oi:={ dst:=some 44,op:=Op.build 93 #[],type:=93,pos := "errand.go:68",after:=#[],guard:=none }) (v:=?_) rfl (by kernel_rfl) (by kernel_rfl) (by kernel_rfl) (fun _ _ _ h=>h) (Or.inl ⟨by rfl,?_⟩) hHeld ?_
  rotate_left
  ·(intro w hSw;(try dsimp only at hSw);go_simp;try with_reducible rfl)
  try simp only [Act.put,List.setIfInBounds_toArray,List.set_cons_zero,List.set_cons_succ]
  refine wpAnyH_take (i:=1) (oi:={ dst:=some 45,op:=Op.load 33 (Operand.global 0),type:=33,pos := "errand.go:68",after:=#[{ on:=2,ground:=Ground.gcOnly Departure.lateStores }],guard:=none }) (v:=?_) rfl (by kernel_rfl) (by kernel_rfl) (by kernel_rfl) (fun _ _ _ h=>h) (Or.inl ⟨by rfl,?_⟩) hHeld ?_
  rotate_left
  ·(intro w hSw;(try dsimp only at hSw);go_simp;try with_reducible rfl)
  try simp only [Act.put,List.setIfInBounds_toArray,List.set_cons_zero,List.set_cons_succ]
  refine wpAnyH_ready (rs:=[2]) (by kernel_rfl) (by simp) ?_
  refine AllReadyH.cons (o:={ dst:=none,op:=Op.store 93 (Operand.tmp 2) (Operand.tmp 44),type:=0,pos := "errand.go:68",after:=#[{ on:=0,ground:=Ground.data },{ on:=0,ground:=Ground.phase },{ on:=1,ground:=Ground.textOnly Departure.lateStores }],guard:=none }) rfl (fun K hK=>?_) AllReadyH.nil
  refine step_store_all rfl 93 (.tmp 2) (.tmp 44) rfl (w.heap.size+1) zErr (by simp [Act.eval]) (by simp [Act.eval,zErr]) 93 zErr HP6.out.rs zErr_size rfl zErr_one ?_
  rw [<- HWZ.out]
  refine hK.out _ _ ?_ (fun hHeld=>?_)
  ·exact HGZ.out
  clear hK K
  try simp only [Act.put]
  refine wpAnyH_take (i:=3) (oi:={ dst:=some 3,op:=Op.assign (Operand.tmp 45),type:=33,pos := "errand.go:68",after:=#[{ on:=1,ground:=Ground.data },{ on:=2,ground:=Ground.chain },{ on:=0,ground:=Ground.phase },{ on:=1,ground:=Ground.phase },{ on:=2,ground:=Ground.phase }],guard:=none }) (v:=?_) rfl (by kernel_rfl) (by kernel_rfl) (by kernel_rfl) (fun _ _ _ h=>h) (Or.inl ⟨by rfl,?_⟩) hHeld ?_
  rotate_left
  ·(intro w hSw;(try dsimp only at hSw);go_simp;try with_reducible rfl)
  try simp only [Act.put,List.setIfInBounds_toArray,List.set_cons_zero,List.set_cons_succ]
  refine wpAnyH_done (by kernel_rfl) ?_ _
  go_wp2
  refine bodyPost_ret (v:=.tuple #[.agg zErr,.iface 252 (.pointer (some (ad 1)))]) (res_two Tryz.results52 rfl rfl HR1.out Tryz.underlying93 rfl zErr_size) rfl ⟨⟨_,rfl,HEV.out⟩,HBF.out⟩
 ·have hd1:decide (op < 0)=false:=decide_eq_false g1
  by_cases g2:fn < 0
  ·have hd2:decide (fn < 0)=true:=decide_eq_true g2
   clear hbd g1 g2
   go_wp2
   refine wp_region_held_drew (S:=fun W=>W.cell? ⟨0,0,none⟩=some (.iface 252 (.pointer (some (ad 1))))) (by kernel_rfl) hez (fun hHeld=>?_)
   refine wpAnyH_take (i:=0) (oi:={ dst:=some 44,op:=Op.build 93 #[],type:=93,pos := "errand.go:68",after:=#[],guard:=none }) (v:=?_) rfl (by kernel_rfl) (by kernel_rfl) (by kernel_rfl) (fun _ _ _ h=>h) (Or.inl ⟨by rfl,?_⟩) hHeld ?_
   rotate_left
   ·(intro w hSw;(try dsimp only at hSw);go_simp;try with_reducible rfl)
   try simp only [Act.put,List.setIfInBounds_toArray,List.set_cons_zero,List.set_cons_succ]
   refine wpAnyH_take (i:=1) (oi:={ dst:=some 45,op:=Op.load 33 (Operand.global 0),type:=33,pos := "errand.go:68",after:=#[{ on:=2,ground:=Ground.gcOnly Departure.lateStores }],guard:=none }) (v:=?_) rfl (by kernel_rfl) (by kernel_rfl) (by kernel_rfl) (fun _ _ _ h=>h) (Or.inl ⟨by rfl,?_⟩) hHeld ?_
   rotate_left
   ·(intro w hSw;(try dsimp only at hSw);go_simp;try with_reducible rfl)
   try simp only [Act.put,List.setIfInBounds_toArray,List.set_cons_zero,List.set_cons_succ]
   refine wpAnyH_ready (rs:=[2]) (by kernel_rfl) (by simp) ?_
   refine AllReadyH.cons (o:={ dst:=none,op:=Op.store 93 (Operand.tmp 2) (Operand.tmp 44),type:=0,pos := "errand.go:68",after:=#[{ on:=0,ground:=Ground.data },{ on:=0,ground:=Ground.phase },{ on:=1,ground:=Ground.textOnly Departure.lateStores }],guard:=none }) rfl (fun K hK=>?_) AllReadyH.nil
   refine step_store_all rfl 93 (.tmp 2) (.tmp 44) rfl (w.heap.size+1) zErr (by simp [Act.eval]) (by simp [Act.eval,zErr]) 93 zErr HP6.out.rs zErr_size rfl zErr_one ?_
   rw [<- HWZ.out]
   refine hK.out _ _ ?_ (fun hHeld=>?_)
   ·exact HGZ.out
   clear hK K
   try simp only [Act.put]
   refine wpAnyH_take (i:=3) (oi:={ dst:=some 3,op:=Op.assign (Operand.tmp 45),type:=33,pos := "errand.go:68",after:=#[{ on:=1,ground:=Ground.data },{ on:=2,ground:=Ground.chain },{ on:=0,ground:=Ground.phase },{ on:=1,ground:=Ground.phase },{ on:=2,ground:=Ground.phase }],guard:=none }) (v:=?_) rfl (by kernel_rfl) (by kernel_rfl) (by kernel_rfl) (fun _ _ _ h=>h) (Or.inl ⟨by rfl,?_⟩) hHeld ?_
   rotate_left
   ·(intro w hSw;(try dsimp only at hSw);go_simp;try with_reducible rfl)
   try simp only [Act.put,List.setIfInBounds_toArray,List.set_cons_zero,List.set_cons_succ]
   refine wpAnyH_done (by kernel_rfl) ?_ _
   go_wp2
   refine bodyPost_ret (v:=.tuple #[.agg zErr,.iface 252 (.pointer (some (ad 1)))]) (res_two Tryz.results52 rfl rfl HR1.out Tryz.underlying93 rfl zErr_size) rfl ⟨⟨_,rfl,HEV.out⟩,HBF.out⟩
  ·have hd2:decide (fn < 0)=false:=decide_eq_false g2
   have hd3:decide (tn < 0)=true:=decide_eq_true (by omega)
   clear hbd g1 g2
   go_wp2
   refine wp_region_held_drew (S:=fun W=>W.cell? ⟨0,0,none⟩=some (.iface 252 (.pointer (some (ad 1))))) (by kernel_rfl) hez (fun hHeld=>?_)
   refine wpAnyH_take (i:=0) (oi:={ dst:=some 44,op:=Op.build 93 #[],type:=93,pos := "errand.go:68",after:=#[],guard:=none }) (v:=?_) rfl (by kernel_rfl) (by kernel_rfl) (by kernel_rfl) (fun _ _ _ h=>h) (Or.inl ⟨by rfl,?_⟩) hHeld ?_
   rotate_left
   ·(intro w hSw;(try dsimp only at hSw);go_simp;try with_reducible rfl)
   try simp only [Act.put,List.setIfInBounds_toArray,List.set_cons_zero,List.set_cons_succ]
   refine wpAnyH_take (i:=1) (oi:={ dst:=some 45,op:=Op.load 33 (Operand.global 0),type:=33,pos := "errand.go:68",after:=#[{ on:=2,ground:=Ground.gcOnly Departure.lateStores }],guard:=none }) (v:=?_) rfl (by kernel_rfl) (by kernel_rfl) (by kernel_rfl) (fun _ _ _ h=>h) (Or.inl ⟨by rfl,?_⟩) hHeld ?_
   rotate_left
   ·(intro w hSw;(try dsimp only at hSw);go_simp;try with_reducible rfl)
   try simp only [Act.put,List.setIfInBounds_toArray,List.set_cons_zero,List.set_cons_succ]
   refine wpAnyH_ready (rs:=[2]) (by kernel_rfl) (by simp) ?_
   refine AllReadyH.cons (o:={ dst:=none,op:=Op.store 93 (Operand.tmp 2) (Operand.tmp 44),type:=0,pos := "errand.go:68",after:=#[{ on:=0,ground:=Ground.data },{ on:=0,ground:=Ground.phase },{ on:=1,ground:=Ground.textOnly Departure.lateStores }],guard:=none }) rfl (fun K hK=>?_) AllReadyH.nil
   refine step_store_all rfl 93 (.tmp 2) (.tmp 44) rfl (w.heap.size+1) zErr (by simp [Act.eval]) (by simp [Act.eval,zErr]) 93 zErr HP6.out.rs zErr_size rfl zErr_one ?_
   rw [<- HWZ.out]
   refine hK.out _ _ ?_ (fun hHeld=>?_)
   ·exact HGZ.out
   clear hK K
   try simp only [Act.put]
   refine wpAnyH_take (i:=3) (oi:={ dst:=some 3,op:=Op.assign (Operand.tmp 45),type:=33,pos := "errand.go:68",after:=#[{ on:=1,ground:=Ground.data },{ on:=2,ground:=Ground.chain },{ on:=0,ground:=Ground.phase },{ on:=1,ground:=Ground.phase },{ on:=2,ground:=Ground.phase }],guard:=none }) (v:=?_) rfl (by kernel_rfl) (by kernel_rfl) (by kernel_rfl) (fun _ _ _ h=>h) (Or.inl ⟨by rfl,?_⟩) hHeld ?_
   rotate_left
   ·(intro w hSw;(try dsimp only at hSw);go_simp;try with_reducible rfl)
   try simp only [Act.put,List.setIfInBounds_toArray,List.set_cons_zero,List.set_cons_succ]
   refine wpAnyH_done (by kernel_rfl) ?_ _
   go_wp2
   refine bodyPost_ret (v:=.tuple #[.agg zErr,.iface 252 (.pointer (some (ad 1)))]) (res_two Tryz.results52 rfl rfl HR1.out Tryz.underlying93 rfl zErr_size) rfl ⟨⟨_,rfl,HEV.out⟩,HBF.out⟩
end Go.Proofs.YtmhoiodfppdlnaaGreatDoor
