import Derived.Test.YtmhoiodfppdlnaaGreatDoorAq21
set_option maxRecDepth 10000
set_option maxHeartbeats 16000000
namespace Go.Proofs.YtmhoiodfppdlnaaGreatDoor
open Go.RowKit
def nwCells (nm key:ByteArray)(op:Int)(f:Cfg)(gf:Nat)(fn:Int)(t:Cfg)(gt:Nat)(tn:Int)(asks st:ByteArray)(cv:Value):Array Value:=#[.string nm,.string key,.int .i64 op,.int .i64 0,.int .i64 0,.slice none 0 0,.int .i64 0,.string ⟨#[]⟩,.int .i64 0,.map none,.int .i64 f.n,.int .i64 f.k,.slice (some ⟨gf,0,none⟩) f.L.length f.L.length,.int .i64 fn,.int .i64 t.n,.int .i64 t.k,.slice (some ⟨gt,0,none⟩) t.L.length t.L.length,.int .i64 tn,.string asks,cv,.string st,.int .i64 0,.int .i64 0,.string ⟨#[]⟩,.bool false]
def enCells (nm key:ByteArray)(op:Int)(f:Cfg)(gf:Nat)(fn:Int)(t:Cfg)(gt:Nat)(tn:Int)(asks told st:ByteArray)(cv:Value)(mb:Nat):Array Value:=#[.string nm,.string key,.int .i64 op,.int .i64 f.n,.int .i64 f.k,.slice (some ⟨gf,0,none⟩) f.L.length f.L.length,.int .i64 fn,.string told,.int .i64 ((enoughN f:Nat):Int),.map (some mb),.int .i64 f.n,.int .i64 f.k,.slice (some ⟨gf,0,none⟩) f.L.length f.L.length,.int .i64 fn,.int .i64 t.n,.int .i64 t.k,.slice (some ⟨gt,0,none⟩) t.L.length t.L.length,.int .i64 tn,.string asks,cv,.string st,.int .i64 0,.int .i64 0,.string ⟨#[]⟩,.bool false]
theorem nw_one (nm key:ByteArray)(op:Int)(f:Cfg)(gf:Nat)(fn:Int)(t:Cfg)(gt:Nat)(tn:Int)(asks st:ByteArray)(cf:FuncId)(caps:Array Value):(nwCells nm key op f gf fn t gt tn asks st (.func (.func cf) #[] caps)).all (·.oneCell')=true:=by unfold nwCells;simp [Value.oneCell']
theorem nw_size (nm key:ByteArray)(op:Int)(f:Cfg)(gf:Nat)(fn:Int)(t:Cfg)(gt:Nat)(tn:Int)(asks st:ByteArray)(cv:Value):(Tryz.prog.info? 93).map (·.size)=some (nwCells nm key op f gf fn t gt tn asks st cv).size:=by
 have:(nwCells nm key op f gf fn t gt tn asks st cv).size=zErr.size:=rfl
 rw [this]
 exact zErr_size
theorem en_one (nm key:ByteArray)(op:Int)(f:Cfg)(gf:Nat)(fn:Int)(t:Cfg)(gt:Nat)(tn:Int)(asks told st:ByteArray)(cf:FuncId)(caps:Array Value)(mb:Nat):(enCells nm key op f gf fn t gt tn asks told st (.func (.func cf) #[] caps) mb).all (·.oneCell')=true:=by unfold enCells;simp [Value.oneCell']
theorem en_size (nm key:ByteArray)(op:Int)(f:Cfg)(gf:Nat)(fn:Int)(t:Cfg)(gt:Nat)(tn:Int)(asks told st:ByteArray)(cv:Value)(mb:Nat):(Tryz.prog.info? 93).map (·.size)=some (enCells nm key op f gf fn t gt tn asks told st cv mb).size:=by
 have:(enCells nm key op f gf fn t gt tn asks told st cv mb).size=zErr.size:=rfl
 rw [this]
 exact zErr_size
theorem aw_nw (nm key:ByteArray)(op:Int)(f:Cfg)(gf:Nat)(fn:Int)(t:Cfg)(gt:Nat)(tn:Int)(asks told st:ByteArray)(cv:Value)(mb:Nat):awCells (nwCells nm key op f gf fn t gt tn asks st cv) ⟨f,fn,.slice (some ⟨gf,0,none⟩) f.L.length f.L.length⟩ told mb=enCells nm key op f gf fn t gt tn asks told st cv mb:=by
 unfold awCells nwCells enCells
 simp only [List.setIfInBounds_toArray,List.set_cons_zero,List.set_cons_succ]
structure NwAt (w5 W:World) (eb gf gt:Nat) (cs:Array Value) (f t:Cfg):Prop where
 blk:W.heap[eb]?=some (.cells cs 93 (0,0))
 ge:w5.heap.size<=eb
 sf:Strs W (some ⟨gf,0,none⟩) f.L
 st:Strs W (some ⟨gt,0,none⟩) t.L
 gfb:w5.heap.size<=gf/\gf < W.heap.size
 gtb:w5.heap.size<=gt/\gt < W.heap.size
 ne:gf≠eb/\gt≠eb
 be:Below w5.heap.size w5 W
theorem NwAt.of {w5 W:World}{eb gf gt:Nat}(cs:Array Value){f t:Cfg}(hb:W.heap[eb]?=some (.cells zErr 93 (0,0)))(ge:w5.heap.size<=eb)(sf:Strs W (some ⟨gf,0,none⟩) f.L)(st:Strs W (some ⟨gt,0,none⟩) t.L)(gfb:w5.heap.size<=gf/\gf < W.heap.size)(gtb:w5.heap.size<=gt/\gt < W.heap.size)(ne:gf≠eb/\gt≠eb)(be:Below w5.heap.size w5 W):NwAt w5 (W.setRow eb cs) eb gf gt cs f t:=by
 obtain⟨r1,r2,r3,r4,r5,r6⟩:=row_set cs hb
 refine⟨r1,ge,sf.same (by omega) (fun b o e=>r3 b (by injection e with e1;injection e1 with e2;omega)),st.same (by omega) (fun b o e=>r3 b (by injection e with e1;injection e1 with e2;omega)),by omega,by omega,ne,⟨r4.trans be.os,r5.trans be.tape,r6.trans be.output,by rw [r2];exact be.size,fun k hk=>(r3 k (by omega)).trans (be.block k hk)⟩⟩
structure EnAt (w W:World) (gf gt mb:Nat) (f t:Cfg):Prop where
 sf:Strs W (some ⟨gf,0,none⟩) f.L
 st:Strs W (some ⟨gt,0,none⟩) t.L
 mp:W.heap[mb]?=some (.map #[] 0)
 gfb:w.heap.size<=gf/\gf < W.heap.size
 gtb:w.heap.size<=gt/\gt < W.heap.size
 mbb:w.heap.size<=mb/\mb < W.heap.size
 ne:gf≠mb/\gt≠mb
theorem cfgAt_own {W:World}{c:Cfg}{g:Nat}(hf:¬ 0 < (cfgF c).1)(hs:Strs W (some ⟨g,0,none⟩) c.L):CfgAt W c (some ⟨g,0,none⟩) c.L.length:=by
 obtain⟨⟨_,_,hn12⟩,hln,_,hnm,_⟩:=cfgF_fine hf
 exact⟨hs,Nat.le_refl _,(fun e=>by cases e),by omega,fun x hx=>by have:=isN_size (hnm x hx);omega,⟨by omega,by omega⟩,by omega,by omega⟩
theorem ErrsQ.old {w W:World}{ad:Nat->Addr}(h:ErrsQ w ad)(hk:∀ k,k < w.heap.size->W.heap[k]?=w.heap[k]?):ErrsQ W ad :=
 ⟨(World.cell?_of_block (a:=⟨_,0,none⟩) (hk _ (lt_cellE h.c1))).trans h.c1,(World.cell?_of_block (a:=⟨_,0,none⟩) (hk _ (lt_cellE h.c2))).trans h.c2,(World.cell?_of_block (a:=⟨_,0,none⟩) (hk _ (lt_cellE h.c3))).trans h.c3,(World.cell?_of_block (a:=⟨_,0,none⟩) (hk _ (lt_cellE h.c4))).trans h.c4,(World.cell?_of_block (a:=⟨_,0,none⟩) (hk _ (lt_cellE h.c5))).trans h.c5⟩
theorem enew_ok (ad:Nat->Addr)(nm key:ByteArray)(op:Int)(f t:Cfg)(fn tn:Int)(p q:Option Addr)(cap cap2:Nat)(asks told st:ByteArray)(cf:FuncId)(caps:Array Value)(w:World)(hcf:CfgAt w f p cap)(hct:CfgAt w t q cap2)(hE:ErrsQ w ad)(hf:¬ 0 < (cfgF f).1)(ht:¬ 0 < (cfgF t).1)(hk:isN key=true)(h1:¬ op < 0)(h2:¬ fn < 0)(h3:¬ tn < 0) :
 Calls Tryz.prog 52 #[.agg #[.string nm,.string key,.int .i64 op,.int .i64 f.n,.int .i64 f.k,.slice p f.L.length cap,.int .i64 fn,.int .i64 t.n,.int .i64 t.k,.slice q t.L.length cap2,.int .i64 tn,.string asks,.string told,.string st,.func (.func cf) #[] caps]] w fun e w'=>(∃ gf gt mb,e=.returned (.tuple #[.agg (enCells nm key op f gf fn t gt tn asks told st (.func (.func cf) #[] caps) mb),.nilIface])/\EnAt w w' gf gt mb f t)/\Below w.heap.size w w':=by
 obtain⟨w2,hw2⟩:∃ w2,w2=(w.alloc (.cells #[.string nm,.string key,.int .i64 op,.int .i64 f.n,.int .i64 f.k,.slice p f.L.length cap,.int .i64 fn,.int .i64 t.n,.int .i64 t.k,.slice q t.L.length cap2,.int .i64 tn,.string asks,.string told,.string st,.func (.func cf) #[] caps] 104)).alloc (.cells #[.string ⟨#[]⟩,.string ⟨#[]⟩,.int .i64 0,.int .i64 0,.int .i64 0,.slice none 0 0,.int .i64 0,.string ⟨#[]⟩,.int .i64 0,.map none,.int .i64 0,.int .i64 0,.slice none 0 0,.int .i64 0,.int .i64 0,.int .i64 0,.slice none 0 0,.int .i64 0,.string ⟨#[]⟩,.nilFunc,.string ⟨#[]⟩,.int .i64 0,.int .i64 0,.string ⟨#[]⟩,.bool false] 93):=⟨_,rfl⟩
 have hP2:PlAt w w2 nm key op f p cap fn t q cap2 tn asks told st (.func (.func cf) #[] caps):=by rw [hw2];exact PlAt.start w nm key op f p cap fn t q cap2 tn asks told st (.func (.func cf) #[] caps)
 have c3:=(blk_cell hP2.pl 3).1
 have c4:=(blk_cell hP2.pl 4).1
 have c5:=(blk_cell hP2.pl 5).1
 unfold plCells at c3 c4 c5
 have HCK:=qcheck_any ad f p cap w2 (hcf.below hP2.be) (hE.below hP2.be)
 unfold cfgA at HCK
 rw [(cfgF_fine hf).2.2.1] at HCK
 have HCT:Hid (∀ W,Below w.heap.size w W->Calls Tryz.prog 73 #[.agg #[.int .i64 t.n,.int .i64 t.k,.slice q t.L.length cap2]] W fun e w'=>(∃ ev,e=.returned ev/\ErrIs w' ad ev (cfgF t).1 (cfgF t).2)/\Below W.heap.size W w'):=fun W hW=>qcheck_any ad t q cap2 W (hct.below hW) (hE.below hW)
 have HER:Hid (ErrsQ w ad):=hE
 have HNM:Hid (∀ W,Calls Tryz.prog 74 #[.string key] W fun e w'=>e=.returned (.bool (isN key))/\Below W.heap.size W w'):=fun W=>pname_any key W
 have HW2:Hid (w2=(w.alloc (.cells #[.string nm,.string key,.int .i64 op,.int .i64 f.n,.int .i64 f.k,.slice p f.L.length cap,.int .i64 fn,.int .i64 t.n,.int .i64 t.k,.slice q t.L.length cap2,.int .i64 tn,.string asks,.string told,.string st,.func (.func cf) #[] caps] 104)).alloc (.cells #[.string ⟨#[]⟩,.string ⟨#[]⟩,.int .i64 0,.int .i64 0,.int .i64 0,.slice none 0 0,.int .i64 0,.string ⟨#[]⟩,.int .i64 0,.map none,.int .i64 0,.int .i64 0,.slice none 0 0,.int .i64 0,.int .i64 0,.int .i64 0,.slice none 0 0,.int .i64 0,.string ⟨#[]⟩,.nilFunc,.string ⟨#[]⟩,.int .i64 0,.int .i64 0,.string ⟨#[]⟩,.bool false] 93)):=hw2
 have HP2:Hid (PlAt w w2 nm key op f p cap fn t q cap2 tn asks told st (.func (.func cf) #[] caps)):=hP2
 have HTF:Hid (cfgF t=(0,-1)):=(cfgF_fine ht).2.2.1
 have hks:key.size<=1000:=by have:=isN_size hk;omega
 have hfl:1<=f.L.length:=by obtain⟨⟨_,_,_⟩,h4,_⟩:=cfgF_fine hf;omega
 have htl:1<=t.L.length:=by obtain⟨⟨_,_,_⟩,h4,_⟩:=cfgF_fine ht;omega
 have HFF:Hid (¬ 0 < (cfgF f).1):=hf
 have HKC:Hid (∀ W,Calls Tryz.prog 33 #[.string key] W fun e w'=>e=.returned (.string key)/\Below W.heap.size W w'):=fun W=>sclone_any key W (by omega)
 have HC1:Hid (∀ W,Below w.heap.size w W->Calls Tryz.prog 75 #[.agg #[.int .i64 f.n,.int .i64 f.k,.slice p f.L.length cap,.int .i64 fn]] W fun e w'=>(∃ g,e=.returned (.agg #[.int .i64 f.n,.int .i64 f.k,.slice (some ⟨g,0,none⟩) f.L.length f.L.length,.int .i64 fn])/\Hid (Strs w' (some ⟨g,0,none⟩) f.L/\W.heap.size<=g/\g < w'.heap.size))/\Below W.heap.size W w'):=fun W hW=>(pcopied_any fn f p cap W (hcf.below hW) hfl).mono fun e w' hq=>hq
 have HC2:Hid (∀ W,Below w.heap.size w W->Calls Tryz.prog 75 #[.agg #[.int .i64 t.n,.int .i64 t.k,.slice q t.L.length cap2,.int .i64 tn]] W fun e w'=>(∃ g,e=.returned (.agg #[.int .i64 t.n,.int .i64 t.k,.slice (some ⟨g,0,none⟩) t.L.length t.L.length,.int .i64 tn])/\Hid (Strs w' (some ⟨g,0,none⟩) t.L/\W.heap.size<=g/\g < w'.heap.size))/\Below W.heap.size W w'):=fun W hW=>(pcopied_any tn t q cap2 W (hct.below hW) htl).mono fun e w' hq=>hq
 have hd1:decide (op < 0)=false:=decide_eq_false h1
 have hd2:decide (fn < 0)=false:=decide_eq_false h2
 have hd3:decide (tn < 0)=false:=decide_eq_false h3
 rw [hk] at HNM
 clear hw2 hP2 hcf hct hE ht hf hk h1 h2 h3 hks hfl htl
 go_enter Tryz.func52,Tryz.ntmps52
 go_wp2_with (first | rw [<- HW2.out] | fail)
 refine HCK.mono ?_
 rintro e w3 ⟨⟨ev,rfl,hev⟩,hb3⟩
 obtain rfl:=ErrIs.isNil hev
 have HP3:Hid (PlAt w w3 nm key op f p cap fn t q cap2 tn asks told st (.func (.func cf) #[] caps)):=HP2.out.below hb3
 have HCU:=HCT.out w3 HP3.out.be
 have d7:=(blk_cell HP3.out.pl 7).1
 have d8:=(blk_cell HP3.out.pl 8).1
 have d9:=(blk_cell HP3.out.pl 9).1
 unfold plCells at d7 d8 d9
 clear hev hb3 HCK HCT c3 c4 c5
 go_wp2_with fail
 refine HCU.mono ?_
 rintro e w4 ⟨⟨ev,rfl,hev⟩,hb4⟩
 rw [HTF.out] at hev
 obtain rfl:=ErrIs.isNil hev
 have HP4:Hid (PlAt w w4 nm key op f p cap fn t q cap2 tn asks told st (.func (.func cf) #[] caps)):=HP3.out.below hb4
 have e1:=(blk_cell HP4.out.pl 1).1
 unfold plCells at e1
 clear hev hb4 HCU d7 d8 d9
 go_wp2_with fail
 refine(HNM.out _).mono ?_
 rintro e w5 ⟨rfl,hb5⟩
 have HP5:Hid (PlAt w w5 nm key op f p cap fn t q cap2 tn asks told st (.func (.func cf) #[] caps)):=HP4.out.below hb5
 have e2:=(blk_cell HP5.out.pl 2).1
 have e6:=(blk_cell HP5.out.pl 6).1
 have e10:=(blk_cell HP5.out.pl 10).1
 unfold plCells at e2 e6 e10
 clear hb5 e1
 have HS:Hid (∀ W,Below w5.heap.size w5 W->(W.cell? ⟨w.heap.size,0,none⟩=some (.string nm)/\W.cell? ⟨w.heap.size,1,none⟩=some (.string key)/\W.cell? ⟨w.heap.size,2,none⟩=some (.int .i64 op)/\W.cell? ⟨w.heap.size,3,none⟩=some (.int .i64 f.n)/\W.cell? ⟨w.heap.size,4,none⟩=some (.int .i64 f.k)/\W.cell? ⟨w.heap.size,5,none⟩=some (.slice p f.L.length cap)/\W.cell? ⟨w.heap.size,6,none⟩=some (.int .i64 fn)/\W.cell? ⟨w.heap.size,7,none⟩=some (.int .i64 t.n)/\W.cell? ⟨w.heap.size,8,none⟩=some (.int .i64 t.k)/\W.cell? ⟨w.heap.size,9,none⟩=some (.slice q t.L.length cap2)/\W.cell? ⟨w.heap.size,10,none⟩=some (.int .i64 tn)/\W.cell? ⟨w.heap.size,11,none⟩=some (.string asks)/\W.cell? ⟨w.heap.size,13,none⟩=some (.string st)/\W.cell? ⟨w.heap.size,14,none⟩=some (.func (.func cf) #[] caps))):=fun W hW=>by
  have hp:=(HP5.out.below hW).pl
  exact⟨(blk_cell hp 0).1,(blk_cell hp 1).1,(blk_cell hp 2).1,(blk_cell hp 3).1,(blk_cell hp 4).1,(blk_cell hp 5).1,(blk_cell hp 6).1,(blk_cell hp 7).1,(blk_cell hp 8).1,(blk_cell hp 9).1,(blk_cell hp 10).1,(blk_cell hp 11).1,(blk_cell hp 13).1,(blk_cell hp 14).1⟩
 have HBW:Hid (∀ W,Below w5.heap.size w5 W->Below w.heap.size w W):=fun W hW=>(HP5.out.below hW).be
 have HZB:Hid (∀ W:World,Below W.heap.size W (W.alloc (.cells #[.string ⟨#[]⟩,.string ⟨#[]⟩,.int .i64 0,.int .i64 0,.int .i64 0,.slice none 0 0,.int .i64 0,.string ⟨#[]⟩,.int .i64 0,.map none,.int .i64 0,.int .i64 0,.slice none 0 0,.int .i64 0,.int .i64 0,.int .i64 0,.slice none 0 0,.int .i64 0,.string ⟨#[]⟩,.nilFunc,.string ⟨#[]⟩,.int .i64 0,.int .i64 0,.string ⟨#[]⟩,.bool false] 93))/\(W.alloc (.cells #[.string ⟨#[]⟩,.string ⟨#[]⟩,.int .i64 0,.int .i64 0,.int .i64 0,.slice none 0 0,.int .i64 0,.string ⟨#[]⟩,.int .i64 0,.map none,.int .i64 0,.int .i64 0,.slice none 0 0,.int .i64 0,.int .i64 0,.int .i64 0,.slice none 0 0,.int .i64 0,.string ⟨#[]⟩,.nilFunc,.string ⟨#[]⟩,.int .i64 0,.int .i64 0,.string ⟨#[]⟩,.bool false] 93)).heap[W.heap.size]?=some (.cells zErr 93 (0,0))/\(W.alloc (.cells #[.string ⟨#[]⟩,.string ⟨#[]⟩,.int .i64 0,.int .i64 0,.int .i64 0,.slice none 0 0,.int .i64 0,.string ⟨#[]⟩,.int .i64 0,.map none,.int .i64 0,.int .i64 0,.slice none 0 0,.int .i64 0,.int .i64 0,.int .i64 0,.slice none 0 0,.int .i64 0,.string ⟨#[]⟩,.nilFunc,.string ⟨#[]⟩,.int .i64 0,.int .i64 0,.string ⟨#[]⟩,.bool false] 93)).heap.size=W.heap.size+1):=fun W=>⟨(Below.refl _ _).alloc (Nat.le_refl _) _,(by show(W.heap.push _)[W.heap.size]?=_;simp;rfl),by simp⟩
 go_wp2
 clear e2 e6 e10
 go_cut [6] from 46 to 66 (fun v W=>∃ eb gf gt,v=.pointer (some ⟨eb,0,none⟩)/\NwAt w5 W eb gf gt (nwCells nm key op f gf fn t gt tn asks st (.func (.func cf) #[] caps)) f t)
 case first =>
  have hBw5:Below w5.heap.size w5 w5.drew:=(Below.refl _ _).drew
  refine wp_region_held_drew (S:=fun W=>(W.cell? ⟨w.heap.size,0,none⟩=some (.string nm)/\W.cell? ⟨w.heap.size,1,none⟩=some (.string key)/\W.cell? ⟨w.heap.size,2,none⟩=some (.int .i64 op)/\W.cell? ⟨w.heap.size,3,none⟩=some (.int .i64 f.n)/\W.cell? ⟨w.heap.size,4,none⟩=some (.int .i64 f.k)/\W.cell? ⟨w.heap.size,5,none⟩=some (.slice p f.L.length cap)/\W.cell? ⟨w.heap.size,6,none⟩=some (.int .i64 fn)/\W.cell? ⟨w.heap.size,7,none⟩=some (.int .i64 t.n)/\W.cell? ⟨w.heap.size,8,none⟩=some (.int .i64 t.k)/\W.cell? ⟨w.heap.size,9,none⟩=some (.slice q t.L.length cap2)/\W.cell? ⟨w.heap.size,10,none⟩=some (.int .i64 tn)/\W.cell? ⟨w.heap.size,11,none⟩=some (.string asks)/\W.cell? ⟨w.heap.size,13,none⟩=some (.string st)/\W.cell? ⟨w.heap.size,14,none⟩=some (.func (.func cf) #[] caps))) (by kernel_rfl) (HS.out _ hBw5) (fun hHeld=>?_)
  refine wpAnyH_take (i:=0) (oi:={ dst:=some 46,op:=Op.fieldAddr 104 (Operand.tmp 1) 0,type:=0,pos := "errand.go:70",after:=#[],guard:=none }) (v:=?_) rfl (by kernel_rfl) (by kernel_rfl) (by kernel_rfl) (fun _ _ _ h=>h) (Or.inl ⟨by rfl,?_⟩) hHeld ?_
  rotate_left
  ·(intro w hSw;(try dsimp only at hSw);go_simp;try with_reducible rfl)
  try simp only [Act.put,sA,sZ,sS]
  refine wpAnyH_take (i:=1) (oi:={ dst:=some 47,op:=Op.load 9 (Operand.tmp 46),type:=9,pos := "errand.go:70",after:=#[{ on:=0,ground:=Ground.data }],guard:=none }) (v:=?_) rfl (by kernel_rfl) (by kernel_rfl) (by kernel_rfl) (fun _ _ _ h=>h) (Or.inl ⟨by rfl,?_⟩) hHeld ?_
  rotate_left
  ·(intro w hSw;(try dsimp only at hSw);go_simp;try with_reducible rfl)
  try simp only [Act.put,sA,sZ,sS]
  refine wpAnyH_take (i:=2) (oi:={ dst:=some 48,op:=Op.fieldAddr 104 (Operand.tmp 1) 1,type:=0,pos := "errand.go:70",after:=#[],guard:=none }) (v:=?_) rfl (by kernel_rfl) (by kernel_rfl) (by kernel_rfl) (fun _ _ _ h=>h) (Or.inl ⟨by rfl,?_⟩) hHeld ?_
  rotate_left
  ·(intro w hSw;(try dsimp only at hSw);go_simp;try with_reducible rfl)
  try simp only [Act.put,sA,sZ,sS]
  refine wpAnyH_take (i:=3) (oi:={ dst:=some 49,op:=Op.load 9 (Operand.tmp 48),type:=9,pos := "errand.go:70",after:=#[{ on:=2,ground:=Ground.data }],guard:=none }) (v:=?_) rfl (by kernel_rfl) (by kernel_rfl) (by kernel_rfl) (fun _ _ _ h=>h) (Or.inl ⟨by rfl,?_⟩) hHeld ?_
  rotate_left
  ·(intro w hSw;(try dsimp only at hSw);go_simp;try with_reducible rfl)
  try simp only [Act.put,sA,sZ,sS]
  refine wpAnyH_take (i:=5) (oi:={ dst:=some 51,op:=Op.fieldAddr 104 (Operand.tmp 1) 2,type:=0,pos := "errand.go:70",after:=#[],guard:=none }) (v:=?_) rfl (by kernel_rfl) (by kernel_rfl) (by kernel_rfl) (fun _ _ _ h=>h) (Or.inl ⟨by rfl,?_⟩) hHeld ?_
  rotate_left
  ·(intro w hSw;(try dsimp only at hSw);go_simp;try with_reducible rfl)
  try simp only [Act.put,sA,sZ,sS]
  refine wpAnyH_take (i:=6) (oi:={ dst:=some 52,op:=Op.load 3 (Operand.tmp 51),type:=3,pos := "errand.go:70",after:=#[{ on:=5,ground:=Ground.data }],guard:=none }) (v:=?_) rfl (by kernel_rfl) (by kernel_rfl) (by kernel_rfl) (fun _ _ _ h=>h) (Or.inl ⟨by rfl,?_⟩) hHeld ?_
  rotate_left
  ·(intro w hSw;(try dsimp only at hSw);go_simp;try with_reducible rfl)
  try simp only [Act.put,sA,sZ,sS]
  refine wpAnyH_take (i:=8) (oi:={ dst:=some 54,op:=Op.fieldAddr 104 (Operand.tmp 1) 3,type:=0,pos := "errand.go:70",after:=#[],guard:=none }) (v:=?_) rfl (by kernel_rfl) (by kernel_rfl) (by kernel_rfl) (fun _ _ _ h=>h) (Or.inl ⟨by rfl,?_⟩) hHeld ?_
  rotate_left
  ·(intro w hSw;(try dsimp only at hSw);go_simp;try with_reducible rfl)
  try simp only [Act.put,sA,sZ,sS]
  refine wpAnyH_take (i:=9) (oi:={ dst:=some 55,op:=Op.load 88 (Operand.tmp 54),type:=88,pos := "errand.go:70",after:=#[{ on:=8,ground:=Ground.data }],guard:=none }) (v:=?_) rfl (by kernel_rfl) (by kernel_rfl) (by kernel_rfl) (fun _ _ _ h=>h) (Or.inl ⟨by rfl,?_⟩) hHeld ?_
  rotate_left
  ·(intro w hSw;(try dsimp only at hSw);go_simp;try with_reducible rfl)
  try simp only [Act.put,sA,sZ,sS]
  refine wpAnyH_take (i:=11) (oi:={ dst:=some 57,op:=Op.fieldAddr 104 (Operand.tmp 1) 4,type:=0,pos := "errand.go:70",after:=#[],guard:=none }) (v:=?_) rfl (by kernel_rfl) (by kernel_rfl) (by kernel_rfl) (fun _ _ _ h=>h) (Or.inl ⟨by rfl,?_⟩) hHeld ?_
  rotate_left
  ·(intro w hSw;(try dsimp only at hSw);go_simp;try with_reducible rfl)
  try simp only [Act.put,sA,sZ,sS]
  refine wpAnyH_take (i:=12) (oi:={ dst:=some 58,op:=Op.load 88 (Operand.tmp 57),type:=88,pos := "errand.go:70",after:=#[{ on:=11,ground:=Ground.data }],guard:=none }) (v:=?_) rfl (by kernel_rfl) (by kernel_rfl) (by kernel_rfl) (fun _ _ _ h=>h) (Or.inl ⟨by rfl,?_⟩) hHeld ?_
  rotate_left
  ·(intro w hSw;(try dsimp only at hSw);go_simp;try with_reducible rfl)
  try simp only [Act.put,sA,sZ,sS]
  refine wpAnyH_take (i:=14) (oi:={ dst:=some 60,op:=Op.fieldAddr 104 (Operand.tmp 1) 5,type:=0,pos := "errand.go:70",after:=#[],guard:=none }) (v:=?_) rfl (by kernel_rfl) (by kernel_rfl) (by kernel_rfl) (fun _ _ _ h=>h) (Or.inl ⟨by rfl,?_⟩) hHeld ?_
  rotate_left
  ·(intro w hSw;(try dsimp only at hSw);go_simp;try with_reducible rfl)
  try simp only [Act.put,sA,sZ,sS]
  refine wpAnyH_take (i:=15) (oi:={ dst:=some 61,op:=Op.load 9 (Operand.tmp 60),type:=9,pos := "errand.go:70",after:=#[{ on:=14,ground:=Ground.data }],guard:=none }) (v:=?_) rfl (by kernel_rfl) (by kernel_rfl) (by kernel_rfl) (fun _ _ _ h=>h) (Or.inl ⟨by rfl,?_⟩) hHeld ?_
  rotate_left
  ·(intro w hSw;(try dsimp only at hSw);go_simp;try with_reducible rfl)
  try simp only [Act.put,sA,sZ,sS]
  refine wpAnyH_take (i:=16) (oi:={ dst:=some 62,op:=Op.fieldAddr 104 (Operand.tmp 1) 8,type:=0,pos := "errand.go:70",after:=#[],guard:=none }) (v:=?_) rfl (by kernel_rfl) (by kernel_rfl) (by kernel_rfl) (fun _ _ _ h=>h) (Or.inl ⟨by rfl,?_⟩) hHeld ?_
  rotate_left
  ·(intro w hSw;(try dsimp only at hSw);go_simp;try with_reducible rfl)
  try simp only [Act.put,sA,sZ,sS]
  refine wpAnyH_take (i:=17) (oi:={ dst:=some 63,op:=Op.load 82 (Operand.tmp 62),type:=82,pos := "errand.go:70",after:=#[{ on:=16,ground:=Ground.data }],guard:=none }) (v:=?_) rfl (by kernel_rfl) (by kernel_rfl) (by kernel_rfl) (fun _ _ _ h=>h) (Or.inl ⟨by rfl,?_⟩) hHeld ?_
  rotate_left
  ·(intro w hSw;(try dsimp only at hSw);go_simp;try with_reducible rfl)
  try simp only [Act.put,sA,sZ,sS]
  refine wpAnyH_take (i:=18) (oi:={ dst:=some 64,op:=Op.fieldAddr 104 (Operand.tmp 1) 7,type:=0,pos := "errand.go:70",after:=#[],guard:=none }) (v:=?_) rfl (by kernel_rfl) (by kernel_rfl) (by kernel_rfl) (fun _ _ _ h=>h) (Or.inl ⟨by rfl,?_⟩) hHeld ?_
  rotate_left
  ·(intro w hSw;(try dsimp only at hSw);go_simp;try with_reducible rfl)
  try simp only [Act.put,sA,sZ,sS]
  refine wpAnyH_take (i:=19) (oi:={ dst:=some 65,op:=Op.load 9 (Operand.tmp 64),type:=9,pos := "errand.go:70",after:=#[{ on:=18,ground:=Ground.data }],guard:=none }) (v:=?_) rfl (by kernel_rfl) (by kernel_rfl) (by kernel_rfl) (fun _ _ _ h=>h) (Or.inl ⟨by rfl,?_⟩) hHeld ?_
  rotate_left
  ·(intro w hSw;(try dsimp only at hSw);go_simp;try with_reducible rfl)
  try simp only [Act.put,sA,sZ,sS]
  have hBv0:=hBw5
  refine wpAnyH_ready (rs:=[4,21]) (by kernel_rfl) (by simp) ?_
  refine AllReadyH.cons (o:={ dst:=some 50,op:=Op.call { callee:=Callee.value (Operand.func 33),args:=#[Operand.tmp 49],argTypes:=#[9] },type:=9,pos := "errand.go:71",after:=#[{ on:=3,ground:=Ground.data }],guard:=none }) rfl (fun K hK=>?_) ?_
  ·skip
   go_simp
   go_at_call 33
   refine(HKC.out _).mono ?_
   rintro e w6 ⟨rfl,hbw6⟩
   have hBw6:Below w5.heap.size w5 w6:=hBv0.trans (hbw6.mono hBv0.size)
   first | (refine hK.out _ _ ?_ (fun hHeld=>?_)) | (go_wp2_with fail;refine hK.out _ _ ?_ (fun hHeld=>?_))
   ·exact HS.out _ hBw6
   clear hK K
   try simp only [Act.put,sA,sZ,sS]
   refine wpAnyH_take (i:=7) (oi:={ dst:=some 53,op:=Op.build 91 #[(0,Operand.tmp 47),(1,Operand.tmp 50),(2,Operand.tmp 52)],type:=91,pos := "errand.go:70",after:=#[{ on:=1,ground:=Ground.data },{ on:=4,ground:=Ground.data },{ on:=6,ground:=Ground.data }],guard:=none }) (v:=?_) rfl (by kernel_rfl) (by kernel_rfl) (by kernel_rfl) (fun _ _ _ h=>h) (Or.inl ⟨by rfl,?_⟩) hHeld ?_
   rotate_left
   ·(intro w hSw;(try dsimp only at hSw);go_simp;try with_reducible rfl)
   try simp only [Act.put,sA,sZ,sS]
   refine wpAnyH_ready (rs:=[10,21]) (by kernel_rfl) (by simp) ?_
   refine AllReadyH.cons (o:={ dst:=some 56,op:=Op.call { callee:=Callee.value (Operand.func 75),args:=#[Operand.tmp 55],argTypes:=#[88] },type:=88,pos := "errand.go:72",after:=#[{ on:=9,ground:=Ground.data },{ on:=4,ground:=Ground.chain }],guard:=none }) rfl (fun K hK=>?_) ?_
   ·skip
    go_simp
    go_at_call 75
    refine(HC1.out _ (HBW.out _ hBw6)).mono ?_
    rintro e w7 ⟨⟨g1,rfl,hG1⟩,hbw7⟩
    have hBw7:Below w5.heap.size w5 w7:=hBw6.trans (hbw7.mono hBw6.size)
    first | (refine hK.out _ _ ?_ (fun hHeld=>?_)) | (go_wp2_with fail;refine hK.out _ _ ?_ (fun hHeld=>?_))
    ·exact HS.out _ hBw7
    clear hK K
    try simp only [Act.put,sA,sZ,sS]
    refine wpAnyH_ready (rs:=[13,21]) (by kernel_rfl) (by simp) ?_
    refine AllReadyH.cons (o:={ dst:=some 59,op:=Op.call { callee:=Callee.value (Operand.func 75),args:=#[Operand.tmp 58],argTypes:=#[88] },type:=88,pos := "errand.go:72",after:=#[{ on:=12,ground:=Ground.data },{ on:=10,ground:=Ground.chain }],guard:=none }) rfl (fun K hK=>?_) ?_
    ·skip
     go_simp
     go_at_call 75
     refine(HC2.out _ (HBW.out _ hBw7)).mono ?_
     rintro e w8 ⟨⟨g2,rfl,hG2⟩,hbw8⟩
     have hBw8:Below w5.heap.size w5 w8:=hBw7.trans (hbw8.mono hBw7.size)
     first | (refine hK.out _ _ ?_ (fun hHeld=>?_)) | (go_wp2_with fail;refine hK.out _ _ ?_ (fun hHeld=>?_))
     ·exact HS.out _ hBw8
     clear hK K
     try simp only [Act.put,sA,sZ,sS]
     refine wpAnyH_take (i:=20) (oi:={ dst:=some 66,op:=Op.build 93 #[(0,Operand.tmp 53),(1,Operand.tmp 56),(2,Operand.tmp 59),(3,Operand.tmp 61),(4,Operand.tmp 63),(5,Operand.tmp 65)],type:=93,pos := "errand.go:70",after:=#[{ on:=7,ground:=Ground.data },{ on:=10,ground:=Ground.data },{ on:=13,ground:=Ground.data },{ on:=15,ground:=Ground.data },{ on:=17,ground:=Ground.data },{ on:=19,ground:=Ground.data }],guard:=none }) (v:=?_) rfl (by kernel_rfl) (by kernel_rfl) (by kernel_rfl) (fun _ _ _ h=>h) (Or.inl ⟨by rfl,?_⟩) hHeld ?_
     rotate_left
     ·(intro w hSw;(try dsimp only at hSw);go_simp;try with_reducible rfl)
     try simp only [Act.put,sA,sZ,sS]
     refine wpAnyH_ready (rs:=[21]) (by kernel_rfl) (by simp) ?_
     refine AllReadyH.cons (o:={ dst:=some 6,op:=Op.alloc 93,type:=0,pos := "errand.go:70",after:=#[],guard:=none }) rfl (fun K hK=>?_) AllReadyH.nil
     go_simp
     obtain⟨wa,hwa⟩:∃ wa,wa=w8.alloc (.cells #[.string ⟨#[]⟩,.string ⟨#[]⟩,.int .i64 0,.int .i64 0,.int .i64 0,.slice none 0 0,.int .i64 0,.string ⟨#[]⟩,.int .i64 0,.map none,.int .i64 0,.int .i64 0,.slice none 0 0,.int .i64 0,.int .i64 0,.int .i64 0,.slice none 0 0,.int .i64 0,.string ⟨#[]⟩,.nilFunc,.string ⟨#[]⟩,.int .i64 0,.int .i64 0,.string ⟨#[]⟩,.bool false] 93):=⟨_,rfl⟩
     obtain⟨hbwa,hEwa,hzwa⟩:=HZB.out w8
     rw [<- hwa] at hbwa hEwa hzwa
     rw [<- hwa]
     have hBwa:Below w5.heap.size w5 wa:=hBw8.trans (hbwa.mono hBw8.size)
     refine hK.out _ _ ?_ (fun hHeld=>?_)
     ·exact HS.out _ hBwa
     clear hK K hwa
     try simp only [Act.put,sA,sZ,sS]
     refine wpAnyH_ready (rs:=[22]) (by kernel_rfl) (by simp) ?_
     refine AllReadyH.cons (o:={ dst:=none,op:=Op.store 93 (Operand.tmp 6) (Operand.tmp 66),type:=0,pos := "errand.go:70",after:=#[{ on:=21,ground:=Ground.data },{ on:=20,ground:=Ground.data },{ on:=13,ground:=Ground.chain },{ on:=0,ground:=Ground.phase },{ on:=1,ground:=Ground.phase },{ on:=2,ground:=Ground.phase },{ on:=3,ground:=Ground.phase },{ on:=4,ground:=Ground.phase },{ on:=5,ground:=Ground.phase },{ on:=6,ground:=Ground.phase },{ on:=7,ground:=Ground.phase },{ on:=8,ground:=Ground.phase },{ on:=9,ground:=Ground.phase },{ on:=10,ground:=Ground.phase },{ on:=11,ground:=Ground.phase },{ on:=12,ground:=Ground.phase },{ on:=13,ground:=Ground.phase },{ on:=14,ground:=Ground.phase },{ on:=15,ground:=Ground.phase },{ on:=16,ground:=Ground.phase },{ on:=17,ground:=Ground.phase },{ on:=18,ground:=Ground.phase },{ on:=19,ground:=Ground.phase },{ on:=20,ground:=Ground.phase },{ on:=21,ground:=Ground.phase }],guard:=none }) rfl (fun K hK=>?_) AllReadyH.nil
     refine step_store_all rfl 93 (.tmp 6) (.tmp 66) rfl w8.heap.size (nwCells nm key op f g1 fn t g2 tn asks st (.func (.func cf) #[] caps)) (by simp [Act.eval]) (by simp [Act.eval,nwCells]) 93 zErr hEwa (nw_size _ _ _ _ _ _ _ _ _ _ _ _) rfl (nw_one _ _ _ _ _ _ _ _ _ _ _ _ _) ?_
     have z0:=hBw8.size
     have hN:NwAt w5 (wa.setRow w8.heap.size (nwCells nm key op f g1 fn t g2 tn asks st (.func (.func cf) #[] caps))) w8.heap.size g1 g2 (nwCells nm key op f g1 fn t g2 tn asks st (.func (.func cf) #[] caps)) f t:=by
      have y7:=hG1.out.2
      have y8:=hG2.out.2
      have s6:=hbw6.size
      have s7:=hbw7.size
      have s8:=hbw8.size
      have sa:=hzwa
      have sb:=hBw6.size
      have sc:=hBw7.size
      have sd:=hBw8.size
      have se:=hBwa.size
      have sx:w5.drew.heap.size=w5.heap.size:=rfl
      exact NwAt.of _ hEwa (by omega) (((hG1.out.1.below hbw8).below hbwa)) (hG2.out.1.below hbwa) (by omega) (by omega) (by omega) hBwa
     refine hK.out _ _ ?_ (fun hHeld=>?_)
     ·exact HS.out _ hN.be
     clear hK K
     try simp only [Act.put]
     refine wpAnyH_done (by kernel_rfl) ?_ _
     go_wp2_with fail
     go_meet
     exact⟨_,g1,g2,rfl,hN⟩
    ·refine AllReadyH.cons (o:={ dst:=some 6,op:=Op.alloc 93,type:=0,pos := "errand.go:70",after:=#[],guard:=none }) rfl (fun K hK=>?_) AllReadyH.nil
     go_simp
     obtain⟨wa,hwa⟩:∃ wa,wa=w7.alloc (.cells #[.string ⟨#[]⟩,.string ⟨#[]⟩,.int .i64 0,.int .i64 0,.int .i64 0,.slice none 0 0,.int .i64 0,.string ⟨#[]⟩,.int .i64 0,.map none,.int .i64 0,.int .i64 0,.slice none 0 0,.int .i64 0,.int .i64 0,.int .i64 0,.slice none 0 0,.int .i64 0,.string ⟨#[]⟩,.nilFunc,.string ⟨#[]⟩,.int .i64 0,.int .i64 0,.string ⟨#[]⟩,.bool false] 93):=⟨_,rfl⟩
     obtain⟨hbwa,hEwa,hzwa⟩:=HZB.out w7
     rw [<- hwa] at hbwa hEwa hzwa
     rw [<- hwa]
     have hBwa:Below w5.heap.size w5 wa:=hBw7.trans (hbwa.mono hBw7.size)
     refine hK.out _ _ ?_ (fun hHeld=>?_)
     ·exact HS.out _ hBwa
     clear hK K hwa
     try simp only [Act.put,sA,sZ,sS]
     refine wpAnyH_ready (rs:=[13]) (by kernel_rfl) (by simp) ?_
     refine AllReadyH.cons (o:={ dst:=some 59,op:=Op.call { callee:=Callee.value (Operand.func 75),args:=#[Operand.tmp 58],argTypes:=#[88] },type:=88,pos := "errand.go:72",after:=#[{ on:=12,ground:=Ground.data },{ on:=10,ground:=Ground.chain }],guard:=none }) rfl (fun K hK=>?_) AllReadyH.nil
     go_simp
     go_at_call 75
     refine(HC2.out _ (HBW.out _ hBwa)).mono ?_
     rintro e w8 ⟨⟨g2,rfl,hG2⟩,hbw8⟩
     have hBw8:Below w5.heap.size w5 w8:=hBwa.trans (hbw8.mono hBwa.size)
     have hEw8:w8.heap[w7.heap.size]?=some (.cells zErr 93 (0,0)):=(hbw8.block _ (lt_blk hEwa)).trans hEwa
     first | (refine hK.out _ _ ?_ (fun hHeld=>?_)) | (go_wp2_with fail;refine hK.out _ _ ?_ (fun hHeld=>?_))
     ·exact HS.out _ hBw8
     clear hK K
     try simp only [Act.put,sA,sZ,sS]
     refine wpAnyH_take (i:=20) (oi:={ dst:=some 66,op:=Op.build 93 #[(0,Operand.tmp 53),(1,Operand.tmp 56),(2,Operand.tmp 59),(3,Operand.tmp 61),(4,Operand.tmp 63),(5,Operand.tmp 65)],type:=93,pos := "errand.go:70",after:=#[{ on:=7,ground:=Ground.data },{ on:=10,ground:=Ground.data },{ on:=13,ground:=Ground.data },{ on:=15,ground:=Ground.data },{ on:=17,ground:=Ground.data },{ on:=19,ground:=Ground.data }],guard:=none }) (v:=?_) rfl (by kernel_rfl) (by kernel_rfl) (by kernel_rfl) (fun _ _ _ h=>h) (Or.inl ⟨by rfl,?_⟩) hHeld ?_
     rotate_left
     ·(intro w hSw;(try dsimp only at hSw);go_simp;try with_reducible rfl)
     try simp only [Act.put,sA,sZ,sS]
     refine wpAnyH_ready (rs:=[22]) (by kernel_rfl) (by simp) ?_
     refine AllReadyH.cons (o:={ dst:=none,op:=Op.store 93 (Operand.tmp 6) (Operand.tmp 66),type:=0,pos := "errand.go:70",after:=#[{ on:=21,ground:=Ground.data },{ on:=20,ground:=Ground.data },{ on:=13,ground:=Ground.chain },{ on:=0,ground:=Ground.phase },{ on:=1,ground:=Ground.phase },{ on:=2,ground:=Ground.phase },{ on:=3,ground:=Ground.phase },{ on:=4,ground:=Ground.phase },{ on:=5,ground:=Ground.phase },{ on:=6,ground:=Ground.phase },{ on:=7,ground:=Ground.phase },{ on:=8,ground:=Ground.phase },{ on:=9,ground:=Ground.phase },{ on:=10,ground:=Ground.phase },{ on:=11,ground:=Ground.phase },{ on:=12,ground:=Ground.phase },{ on:=13,ground:=Ground.phase },{ on:=14,ground:=Ground.phase },{ on:=15,ground:=Ground.phase },{ on:=16,ground:=Ground.phase },{ on:=17,ground:=Ground.phase },{ on:=18,ground:=Ground.phase },{ on:=19,ground:=Ground.phase },{ on:=20,ground:=Ground.phase },{ on:=21,ground:=Ground.phase }],guard:=none }) rfl (fun K hK=>?_) AllReadyH.nil
     refine step_store_all rfl 93 (.tmp 6) (.tmp 66) rfl w7.heap.size (nwCells nm key op f g1 fn t g2 tn asks st (.func (.func cf) #[] caps)) (by simp [Act.eval]) (by simp [Act.eval,nwCells]) 93 zErr hEw8 (nw_size _ _ _ _ _ _ _ _ _ _ _ _) rfl (nw_one _ _ _ _ _ _ _ _ _ _ _ _ _) ?_
     have z0:=hBw7.size
     have hN:NwAt w5 (w8.setRow w7.heap.size (nwCells nm key op f g1 fn t g2 tn asks st (.func (.func cf) #[] caps))) w7.heap.size g1 g2 (nwCells nm key op f g1 fn t g2 tn asks st (.func (.func cf) #[] caps)) f t:=by
      have y7:=hG1.out.2
      have y8:=hG2.out.2
      have s6:=hbw6.size
      have s7:=hbw7.size
      have s8:=hbw8.size
      have sa:=hzwa
      have sb:=hBw6.size
      have sc:=hBw7.size
      have sd:=hBw8.size
      have se:=hBwa.size
      have sx:w5.drew.heap.size=w5.heap.size:=rfl
      exact NwAt.of _ hEw8 (by omega) ((hG1.out.1.below hbwa).below hbw8) hG2.out.1 (by omega) (by omega) (by omega) hBw8
     refine hK.out _ _ ?_ (fun hHeld=>?_)
     ·exact HS.out _ hN.be
     clear hK K
     try simp only [Act.put]
     refine wpAnyH_done (by kernel_rfl) ?_ _
     go_wp2_with fail
     go_meet
     exact⟨_,g1,g2,rfl,hN⟩
   ·refine AllReadyH.cons (o:={ dst:=some 6,op:=Op.alloc 93,type:=0,pos := "errand.go:70",after:=#[],guard:=none }) rfl (fun K hK=>?_) AllReadyH.nil
    go_simp
    obtain⟨wa,hwa⟩:∃ wa,wa=w6.alloc (.cells #[.string ⟨#[]⟩,.string ⟨#[]⟩,.int .i64 0,.int .i64 0,.int .i64 0,.slice none 0 0,.int .i64 0,.string ⟨#[]⟩,.int .i64 0,.map none,.int .i64 0,.int .i64 0,.slice none 0 0,.int .i64 0,.int .i64 0,.int .i64 0,.slice none 0 0,.int .i64 0,.string ⟨#[]⟩,.nilFunc,.string ⟨#[]⟩,.int .i64 0,.int .i64 0,.string ⟨#[]⟩,.bool false] 93):=⟨_,rfl⟩
    obtain⟨hbwa,hEwa,hzwa⟩:=HZB.out w6
    rw [<- hwa] at hbwa hEwa hzwa
    rw [<- hwa]
    have hBwa:Below w5.heap.size w5 wa:=hBw6.trans (hbwa.mono hBw6.size)
    refine hK.out _ _ ?_ (fun hHeld=>?_)
    ·exact HS.out _ hBwa
    clear hK K hwa
    try simp only [Act.put,sA,sZ,sS]
    refine wpAnyH_ready (rs:=[10]) (by kernel_rfl) (by simp) ?_
    refine AllReadyH.cons (o:={ dst:=some 56,op:=Op.call { callee:=Callee.value (Operand.func 75),args:=#[Operand.tmp 55],argTypes:=#[88] },type:=88,pos := "errand.go:72",after:=#[{ on:=9,ground:=Ground.data },{ on:=4,ground:=Ground.chain }],guard:=none }) rfl (fun K hK=>?_) AllReadyH.nil
    go_simp
    go_at_call 75
    refine(HC1.out _ (HBW.out _ hBwa)).mono ?_
    rintro e w7 ⟨⟨g1,rfl,hG1⟩,hbw7⟩
    have hBw7:Below w5.heap.size w5 w7:=hBwa.trans (hbw7.mono hBwa.size)
    have hEw7:w7.heap[w6.heap.size]?=some (.cells zErr 93 (0,0)):=(hbw7.block _ (lt_blk hEwa)).trans hEwa
    first | (refine hK.out _ _ ?_ (fun hHeld=>?_)) | (go_wp2_with fail;refine hK.out _ _ ?_ (fun hHeld=>?_))
    ·exact HS.out _ hBw7
    clear hK K
    try simp only [Act.put,sA,sZ,sS]
    refine wpAnyH_ready (rs:=[13]) (by kernel_rfl) (by simp) ?_
    refine AllReadyH.cons (o:={ dst:=some 59,op:=Op.call { callee:=Callee.value (Operand.func 75),args:=#[Operand.tmp 58],argTypes:=#[88] },type:=88,pos := "errand.go:72",after:=#[{ on:=12,ground:=Ground.data },{ on:=10,ground:=Ground.chain }],guard:=none }) rfl (fun K hK=>?_) AllReadyH.nil
    go_simp
    go_at_call 75
    refine(HC2.out _ (HBW.out _ hBw7)).mono ?_
    rintro e w8 ⟨⟨g2,rfl,hG2⟩,hbw8⟩
    have hBw8:Below w5.heap.size w5 w8:=hBw7.trans (hbw8.mono hBw7.size)
    have hEw8:w8.heap[w6.heap.size]?=some (.cells zErr 93 (0,0)):=(hbw8.block _ (lt_blk hEw7)).trans hEw7
    first | (refine hK.out _ _ ?_ (fun hHeld=>?_)) | (go_wp2_with fail;refine hK.out _ _ ?_ (fun hHeld=>?_))
    ·exact HS.out _ hBw8
    clear hK K
    try simp only [Act.put,sA,sZ,sS]
    refine wpAnyH_take (i:=20) (oi:={ dst:=some 66,op:=Op.build 93 #[(0,Operand.tmp 53),(1,Operand.tmp 56),(2,Operand.tmp 59),(3,Operand.tmp 61),(4,Operand.tmp 63),(5,Operand.tmp 65)],type:=93,pos := "errand.go:70",after:=#[{ on:=7,ground:=Ground.data },{ on:=10,ground:=Ground.data },{ on:=13,ground:=Ground.data },{ on:=15,ground:=Ground.data },{ on:=17,ground:=Ground.data },{ on:=19,ground:=Ground.data }],guard:=none }) (v:=?_) rfl (by kernel_rfl) (by kernel_rfl) (by kernel_rfl) (fun _ _ _ h=>h) (Or.inl ⟨by rfl,?_⟩) hHeld ?_
    rotate_left
    ·(intro w hSw;(try dsimp only at hSw);go_simp;try with_reducible rfl)
    try simp only [Act.put,sA,sZ,sS]
    refine wpAnyH_ready (rs:=[22]) (by kernel_rfl) (by simp) ?_
    refine AllReadyH.cons (o:={ dst:=none,op:=Op.store 93 (Operand.tmp 6) (Operand.tmp 66),type:=0,pos := "errand.go:70",after:=#[{ on:=21,ground:=Ground.data },{ on:=20,ground:=Ground.data },{ on:=13,ground:=Ground.chain },{ on:=0,ground:=Ground.phase },{ on:=1,ground:=Ground.phase },{ on:=2,ground:=Ground.phase },{ on:=3,ground:=Ground.phase },{ on:=4,ground:=Ground.phase },{ on:=5,ground:=Ground.phase },{ on:=6,ground:=Ground.phase },{ on:=7,ground:=Ground.phase },{ on:=8,ground:=Ground.phase },{ on:=9,ground:=Ground.phase },{ on:=10,ground:=Ground.phase },{ on:=11,ground:=Ground.phase },{ on:=12,ground:=Ground.phase },{ on:=13,ground:=Ground.phase },{ on:=14,ground:=Ground.phase },{ on:=15,ground:=Ground.phase },{ on:=16,ground:=Ground.phase },{ on:=17,ground:=Ground.phase },{ on:=18,ground:=Ground.phase },{ on:=19,ground:=Ground.phase },{ on:=20,ground:=Ground.phase },{ on:=21,ground:=Ground.phase }],guard:=none }) rfl (fun K hK=>?_) AllReadyH.nil
    refine step_store_all rfl 93 (.tmp 6) (.tmp 66) rfl w6.heap.size (nwCells nm key op f g1 fn t g2 tn asks st (.func (.func cf) #[] caps)) (by simp [Act.eval]) (by simp [Act.eval,nwCells]) 93 zErr hEw8 (nw_size _ _ _ _ _ _ _ _ _ _ _ _) rfl (nw_one _ _ _ _ _ _ _ _ _ _ _ _ _) ?_
    have z0:=hBw6.size
    have hN:NwAt w5 (w8.setRow w6.heap.size (nwCells nm key op f g1 fn t g2 tn asks st (.func (.func cf) #[] caps))) w6.heap.size g1 g2 (nwCells nm key op f g1 fn t g2 tn asks st (.func (.func cf) #[] caps)) f t:=by
     have y7:=hG1.out.2
     have y8:=hG2.out.2
     have s6:=hbw6.size
     have s7:=hbw7.size
     have s8:=hbw8.size
     have sa:=hzwa
     have sb:=hBw6.size
     have sc:=hBw7.size
     have sd:=hBw8.size
     have se:=hBwa.size
     have sx:w5.drew.heap.size=w5.heap.size:=rfl
     exact NwAt.of _ hEw8 (by omega) (hG1.out.1.below hbw8) hG2.out.1 (by omega) (by omega) (by omega) hBw8
    refine hK.out _ _ ?_ (fun hHeld=>?_)
    ·exact HS.out _ hN.be
    clear hK K
    try simp only [Act.put]
    refine wpAnyH_done (by kernel_rfl) ?_ _
    go_wp2_with fail
    go_meet
    exact⟨_,g1,g2,rfl,hN⟩
  ·refine AllReadyH.cons (o:={ dst:=some 6,op:=Op.alloc 93,type:=0,pos := "errand.go:70",after:=#[],guard:=none }) rfl (fun K hK=>?_) AllReadyH.nil
   go_simp
   obtain⟨wa,hwa⟩:∃ wa,wa=(w5.alloc (.cells #[.string ⟨#[]⟩,.string ⟨#[]⟩,.int .i64 0,.int .i64 0,.int .i64 0,.slice none 0 0,.int .i64 0,.string ⟨#[]⟩,.int .i64 0,.map none,.int .i64 0,.int .i64 0,.slice none 0 0,.int .i64 0,.int .i64 0,.int .i64 0,.slice none 0 0,.int .i64 0,.string ⟨#[]⟩,.nilFunc,.string ⟨#[]⟩,.int .i64 0,.int .i64 0,.string ⟨#[]⟩,.bool false] 93)).drew:=⟨_,rfl⟩
   have hbwa:Below w5.heap.size w5 wa:=by rw [hwa];exact(HZB.out w5).1.drew
   have hEwa:wa.heap[w5.heap.size]?=some (.cells zErr 93 (0,0)):=by rw [hwa];exact(HZB.out w5).2.1
   have hzwa:wa.heap.size=w5.heap.size+1:=by rw [hwa];exact(HZB.out w5).2.2
   rw [<- hwa]
   have hBwa:=hbwa
   refine hK.out _ _ ?_ (fun hHeld=>?_)
   ·exact HS.out _ hBwa
   clear hK K hwa
   try simp only [Act.put,sA,sZ,sS]
   refine wpAnyH_ready (rs:=[4]) (by kernel_rfl) (by simp) ?_
   refine AllReadyH.cons (o:={ dst:=some 50,op:=Op.call { callee:=Callee.value (Operand.func 33),args:=#[Operand.tmp 49],argTypes:=#[9] },type:=9,pos := "errand.go:71",after:=#[{ on:=3,ground:=Ground.data }],guard:=none }) rfl (fun K hK=>?_) AllReadyH.nil
   go_simp
   go_at_call 33
   refine(HKC.out _).mono ?_
   rintro e w6 ⟨rfl,hbw6⟩
   have hBw6:Below w5.heap.size w5 w6:=hBwa.trans (hbw6.mono hBwa.size)
   have hEw6:w6.heap[w5.heap.size]?=some (.cells zErr 93 (0,0)):=(hbw6.block _ (lt_blk hEwa)).trans hEwa
   first | (refine hK.out _ _ ?_ (fun hHeld=>?_)) | (go_wp2_with fail;refine hK.out _ _ ?_ (fun hHeld=>?_))
   ·exact HS.out _ hBw6
   clear hK K
   try simp only [Act.put,sA,sZ,sS]
   refine wpAnyH_take (i:=7) (oi:={ dst:=some 53,op:=Op.build 91 #[(0,Operand.tmp 47),(1,Operand.tmp 50),(2,Operand.tmp 52)],type:=91,pos := "errand.go:70",after:=#[{ on:=1,ground:=Ground.data },{ on:=4,ground:=Ground.data },{ on:=6,ground:=Ground.data }],guard:=none }) (v:=?_) rfl (by kernel_rfl) (by kernel_rfl) (by kernel_rfl) (fun _ _ _ h=>h) (Or.inl ⟨by rfl,?_⟩) hHeld ?_
   rotate_left
   ·(intro w hSw;(try dsimp only at hSw);go_simp;try with_reducible rfl)
   try simp only [Act.put,sA,sZ,sS]
   refine wpAnyH_ready (rs:=[10]) (by kernel_rfl) (by simp) ?_
   refine AllReadyH.cons (o:={ dst:=some 56,op:=Op.call { callee:=Callee.value (Operand.func 75),args:=#[Operand.tmp 55],argTypes:=#[88] },type:=88,pos := "errand.go:72",after:=#[{ on:=9,ground:=Ground.data },{ on:=4,ground:=Ground.chain }],guard:=none }) rfl (fun K hK=>?_) AllReadyH.nil
   go_simp
   go_at_call 75
   refine(HC1.out _ (HBW.out _ hBw6)).mono ?_
   rintro e w7 ⟨⟨g1,rfl,hG1⟩,hbw7⟩
   have hBw7:Below w5.heap.size w5 w7:=hBw6.trans (hbw7.mono hBw6.size)
   have hEw7:w7.heap[w5.heap.size]?=some (.cells zErr 93 (0,0)):=(hbw7.block _ (lt_blk hEw6)).trans hEw6
   first | (refine hK.out _ _ ?_ (fun hHeld=>?_)) | (go_wp2_with fail;refine hK.out _ _ ?_ (fun hHeld=>?_))
   ·exact HS.out _ hBw7
   clear hK K
   try simp only [Act.put,sA,sZ,sS]
   refine wpAnyH_ready (rs:=[13]) (by kernel_rfl) (by simp) ?_
   refine AllReadyH.cons (o:={ dst:=some 59,op:=Op.call { callee:=Callee.value (Operand.func 75),args:=#[Operand.tmp 58],argTypes:=#[88] },type:=88,pos := "errand.go:72",after:=#[{ on:=12,ground:=Ground.data },{ on:=10,ground:=Ground.chain }],guard:=none }) rfl (fun K hK=>?_) AllReadyH.nil
   go_simp
   go_at_call 75
   refine(HC2.out _ (HBW.out _ hBw7)).mono ?_
   rintro e w8 ⟨⟨g2,rfl,hG2⟩,hbw8⟩
   have hBw8:Below w5.heap.size w5 w8:=hBw7.trans (hbw8.mono hBw7.size)
   have hEw8:w8.heap[w5.heap.size]?=some (.cells zErr 93 (0,0)):=(hbw8.block _ (lt_blk hEw7)).trans hEw7
   first | (refine hK.out _ _ ?_ (fun hHeld=>?_)) | (go_wp2_with fail;refine hK.out _ _ ?_ (fun hHeld=>?_))
   ·exact HS.out _ hBw8
   clear hK K
   try simp only [Act.put,sA,sZ,sS]
   refine wpAnyH_take (i:=20) (oi:={ dst:=some 66,op:=Op.build 93 #[(0,Operand.tmp 53),(1,Operand.tmp 56),(2,Operand.tmp 59),(3,Operand.tmp 61),(4,Operand.tmp 63),(5,Operand.tmp 65)],type:=93,pos := "errand.go:70",after:=#[{ on:=7,ground:=Ground.data },{ on:=10,ground:=Ground.data },{ on:=13,ground:=Ground.data },{ on:=15,ground:=Ground.data },{ on:=17,ground:=Ground.data },{ on:=19,ground:=Ground.data }],guard:=none }) (v:=?_) rfl (by kernel_rfl) (by kernel_rfl) (by kernel_rfl) (fun _ _ _ h=>h) (Or.inl ⟨by rfl,?_⟩) hHeld ?_
   rotate_left
   ·(intro w hSw;(try dsimp only at hSw);go_simp;try with_reducible rfl)
   try simp only [Act.put,sA,sZ,sS]
   refine wpAnyH_ready (rs:=[22]) (by kernel_rfl) (by simp) ?_
   refine AllReadyH.cons (o:={ dst:=none,op:=Op.store 93 (Operand.tmp 6) (Operand.tmp 66),type:=0,pos := "errand.go:70",after:=#[{ on:=21,ground:=Ground.data },{ on:=20,ground:=Ground.data },{ on:=13,ground:=Ground.chain },{ on:=0,ground:=Ground.phase },{ on:=1,ground:=Ground.phase },{ on:=2,ground:=Ground.phase },{ on:=3,ground:=Ground.phase },{ on:=4,ground:=Ground.phase },{ on:=5,ground:=Ground.phase },{ on:=6,ground:=Ground.phase },{ on:=7,ground:=Ground.phase },{ on:=8,ground:=Ground.phase },{ on:=9,ground:=Ground.phase },{ on:=10,ground:=Ground.phase },{ on:=11,ground:=Ground.phase },{ on:=12,ground:=Ground.phase },{ on:=13,ground:=Ground.phase },{ on:=14,ground:=Ground.phase },{ on:=15,ground:=Ground.phase },{ on:=16,ground:=Ground.phase },{ on:=17,ground:=Ground.phase },{ on:=18,ground:=Ground.phase },{ on:=19,ground:=Ground.phase },{ on:=20,ground:=Ground.phase },{ on:=21,ground:=Ground.phase }],guard:=none }) rfl (fun K hK=>?_) AllReadyH.nil
   refine step_store_all rfl 93 (.tmp 6) (.tmp 66) rfl w5.heap.size (nwCells nm key op f g1 fn t g2 tn asks st (.func (.func cf) #[] caps)) (by simp [Act.eval]) (by simp [Act.eval,nwCells]) 93 zErr hEw8 (nw_size _ _ _ _ _ _ _ _ _ _ _ _) rfl (nw_one _ _ _ _ _ _ _ _ _ _ _ _ _) ?_
   have z0:=hBv0.size
   have hN:NwAt w5 (w8.setRow w5.heap.size (nwCells nm key op f g1 fn t g2 tn asks st (.func (.func cf) #[] caps))) w5.heap.size g1 g2 (nwCells nm key op f g1 fn t g2 tn asks st (.func (.func cf) #[] caps)) f t:=by
    have y7:=hG1.out.2
    have y8:=hG2.out.2
    have s6:=hbw6.size
    have s7:=hbw7.size
    have s8:=hbw8.size
    have sa:=hzwa
    have sb:=hBw6.size
    have sc:=hBw7.size
    have sd:=hBw8.size
    have se:=hBwa.size
    have sx:w5.drew.heap.size=w5.heap.size:=rfl
    exact NwAt.of _ hEw8 (by omega) (hG1.out.1.below hbw8) hG2.out.1 (by omega) (by omega) (by omega) hBw8
   refine hK.out _ _ ?_ (fun hHeld=>?_)
   ·exact HS.out _ hN.be
   clear hK K
   try simp only [Act.put]
   refine wpAnyH_done (by kernel_rfl) ?_ _
   go_wp2_with fail
   go_meet
   exact⟨_,g1,g2,rfl,hN⟩
 case rest =>
  obtain⟨eb,gf,gt,rfl,hN⟩:=hcut
  have k10:=(blk_cell hN.blk 10).1
  have k11:=(blk_cell hN.blk 11).1
  have k12:=(blk_cell hN.blk 12).1
  have k13:=(blk_cell hN.blk 13).1
  unfold nwCells at k10 k11 k12 k13
  have hPc:=HP5.out.below hN.be
  have m12:=(blk_cell hPc.pl 12).1
  unfold plCells at m12
  have hzz:=HP5.out.be.size
  have hff:¬ 0 < (cfgF f).1:=by have:=HFF.out;omega
  have HAW:=pawait_any ad ⟨f,fn,.slice (some ⟨gf,0,none⟩) f.L.length f.L.length⟩ (some ⟨gf,0,none⟩) f.L.length told hN.blk rfl hff rfl (fun W hs hk=>⟨cfgAt_own hff (hN.sf.same hs (fun b o e=>hk b (by have:=hN.gfb;injection e with e1;injection e1 with e2;omega) (by have:=hN.ne;injection e with e1;injection e1 with e2;omega))),HER.out.old (fun k hk0=>by have:=hN.ge;have:=hN.be.size;exact(hk k (by omega) (by omega)).trans (hPc.be.block k hk0))⟩)
  dsimp only at HAW
  have HAX:Hid (Calls Tryz.prog 76 #[.pointer (some ⟨eb,0,none⟩),.agg #[.int .i64 f.n,.int .i64 f.k,.slice (some ⟨gf,0,none⟩) f.L.length f.L.length,.int .i64 fn],.string told] wc fun e w'=>e=.returned (.tuple #[])/\∃ mb,Hid (w'.heap[eb]?=some (.cells (enCells nm key op f gf fn t gt tn asks told st (.func (.func cf) #[] caps) mb) 93 (0,0)))/\Hid (w'.heap[w.heap.size+1]?=some (.cells zErr 93 (0,0)))/\Hid (EnAt w (w'.setRow (w.heap.size+1) (enCells nm key op f gf fn t gt tn asks told st (.func (.func cf) #[] caps) mb)) gf gt mb f t/\Below w.heap.size w (w'.setRow (w.heap.size+1) (enCells nm key op f gf fn t gt tn asks told st (.func (.func cf) #[] caps) mb)))):=HAW.mono fun e w' hq=>by
   obtain⟨g1,mb,g2,g3,g4⟩:=hq
   have hlr:=lt_blk HP5.out.rs
   have hge:=hN.ge
   have hrs:w'.heap[w.heap.size+1]?=some (.cells zErr 93 (0,0)):=(g3.oth _ (by have:=hN.be.size;omega) (by omega)).trans hPc.rs
   obtain⟨r1,r2,r3,r4,r5,r6⟩:=row_set (enCells nm key op f gf fn t gt tn asks told st (.func (.func cf) #[] caps) mb) hrs
   have hfb:=hN.gfb
   have htb:=hN.gtb
   have hne:=hN.ne
   have hsz:=g3.size
   have hbs:=hN.be.size
   have hml:=lt_blk g4
   refine⟨g1,mb,?_,hrs,⟨?_,?_,?_,?_,?_,?_,?_⟩,?_⟩
   ·have:=g3.blk
    rw [aw_nw] at this
    exact this
   ·exact hN.sf.same (by omega) (fun b o e=>(r3 b (by injection e with e1;injection e1 with e2;omega)).trans (g3.oth b (by injection e with e1;injection e1 with e2;omega) (by injection e with e1;injection e1 with e2;omega)))
   ·exact hN.st.same (by omega) (fun b o e=>(r3 b (by injection e with e1;injection e1 with e2;omega)).trans (g3.oth b (by injection e with e1;injection e1 with e2;omega) (by injection e with e1;injection e1 with e2;omega)))
   ·exact(r3 mb (by omega)).trans g4
   ·exact⟨by omega,by omega⟩
   ·exact⟨by omega,by omega⟩
   ·exact⟨by omega,by omega⟩
   ·exact⟨by omega,by omega⟩
   ·exact⟨r4.trans (g3.os.trans hPc.be.os),r5.trans (g3.tape.trans hPc.be.tape),r6.trans (g3.output.trans hPc.be.output),by have:=hPc.be.size;omega,fun k hk=>(r3 k (by omega)).trans ((g3.oth k (by omega) (by omega)).trans (hPc.be.block k hk))⟩
  clear HAW hN hPc hzz hff HS HBW HZB HKC HC1 HC2
  go_wp2_with fail
  refine HAX.out.mono ?_
  rintro e w9 ⟨rfl,mb,HK9,HR9,HF9⟩
  obtain⟨wz,hwz⟩:∃ wz,wz=w9.setRow (w.heap.size+1) (enCells nm key op f gf fn t gt tn asks told st (.func (.func cf) #[] caps) mb):=⟨_,rfl⟩
  have HRZ:Hid (wz.heap[w.heap.size+1]?=some (.cells (enCells nm key op f gf fn t gt tn asks told st (.func (.func cf) #[] caps) mb) 93 (0,0))):=by rw [hwz];exact(row_set _ HR9.out).1
  have HWZ:Hid (wz=w9.setRow (w.heap.size+1) (enCells nm key op f gf fn t gt tn asks told st (.func (.func cf) #[] caps) mb)):=hwz
  rw [<- hwz] at HF9
  clear HAX k10 k11 k12 k13 m12 hwz
  go_wp2_with (first | (refine wpList_load_mid rfl 93 (.tmp 6) rfl eb 0 rfl (enCells nm key op f gf fn t gt tn asks told st (.func (.func cf) #[] caps) mb).toList _ (fun j u hu=>by rw [Nat.zero_add,(blk_cell HK9.out j).1];simpa using hu) Tryz.underlying93 rfl (en_size _ _ _ _ _ _ _ _ _ _ _ _ _ _) ?_) | (refine wpList_store_all rfl 93 (.tmp 2) (.tmp 73) rfl (w.heap.size+1) (enCells nm key op f gf fn t gt tn asks told st (.func (.func cf) #[] caps) mb) rfl rfl 93 zErr HR9.out (en_size _ _ _ _ _ _ _ _ _ _ _ _ _ _) rfl (en_one _ _ _ _ _ _ _ _ _ _ _ _ _ _ _) ?_;rw [<- HWZ.out]) | fail)
  exact bodyPost_ret (v:=.tuple #[.agg (enCells nm key op f gf fn t gt tn asks told st (.func (.func cf) #[] caps) mb),.nilIface]) (res_two Tryz.results52 rfl rfl HRZ.out Tryz.underlying93 rfl (en_size _ _ _ _ _ _ _ _ _ _ _ _ _ _)) rfl ⟨⟨gf,gt,mb,rfl,HF9.out.1⟩,HF9.out.2⟩
end Go.Proofs.YtmhoiodfppdlnaaGreatDoor
