import Derived.Test.YtmhoiodfppdlnaaGreatDoorAq46
import Derived.Test.YtmhoiodfppdlnaaGreatDoorAq3
import Derived.Test.YtmhoiodfppdlnaaGreatDoorAq33
import Derived.Deep.WholeRow
set_option maxRecDepth 10000
set_option maxHeartbeats 16000000
namespace Go.Proofs.YtmhoiodfppdlnaaGreatDoor
open Go.RowKit
def newF (who op config:Int)(c:Cfg)(key:ByteArray):Int×Int:=if 0 < (cfgF c).1 then cfgF c else if isN key=false then (4,-1) else if 0<=who/\who < 6/\0<=op/\0<=config then (0,-1) else (2,-1)
theorem newF_en (who op config:Int)(c:Cfg)(key:ByteArray):newF who op config c key=if 0 < (enewF c c key op config config).1 then enewF c c key op config config else if 0<=who/\who < 6 then (0,-1) else (2,-1):=by
 by_cases h1:0 < (cfgF c).1
 ·have e1:newF who op config c key=cfgF c:=if_pos h1
  have e2:enewF c c key op config config=cfgF c:=if_pos h1
  rw [e1,e2,if_pos h1]
 ·by_cases h2:isN key=false
  ·have e1:newF who op config c key=(4,-1):=by unfold newF;rw [if_neg h1,if_pos h2]
   have e2:enewF c c key op config config=(4,-1):=by unfold enewF;rw [if_neg h1,if_neg h1,if_pos h2]
   rw [e1,e2]
   rfl
  ·by_cases h3:0<=op/\0<=config
   ·have e2:enewF c c key op config config=(0,-1):=by unfold enewF;rw [if_neg h1,if_neg h1,if_neg h2,if_pos ⟨h3.1,h3.2,h3.2⟩]
    rw [e2,if_neg (by decide)]
    unfold newF
    rw [if_neg h1,if_neg h2]
    by_cases h4:0<=who/\who < 6
    ·rw [if_pos h4,if_pos ⟨h4.1,h4.2,h3.1,h3.2⟩]
    ·rw [if_neg h4,if_neg (fun h=>h4 ⟨h.1,h.2.1⟩)]
   ·have e1:newF who op config c key=(2,-1):=by unfold newF;rw [if_neg h1,if_neg h2,if_neg (fun h=>h3 ⟨h.2.2.1,h.2.2.2⟩)]
    have e2:enewF c c key op config config=(2,-1):=by unfold enewF;rw [if_neg h1,if_neg h1,if_neg h2,if_neg (fun h=>h3 ⟨h.1,h.2.1⟩)]
    rw [e1,e2]
    rfl
theorem client_itoa {who:Int}(h0:0<=who)(h1:who < 6):(⟨#[99]⟩:ByteArray) ++ ⟨(Lib.itoa who).toArray⟩=clientN who:=by
 obtain⟨i,rfl⟩:∃ i:Nat,who=(i:Int):=⟨who.toNat,by omega⟩
 have hi:i < 6:=by omega
 have e:Lib.itoa (i:Int)=[UInt8.ofNat (48+i)]:=by
  unfold Lib.itoa
  rw [if_neg (by omega),Int.toNat_natCast,Lib.decDigits,dif_pos (by omega)]
 rw [e]
 match i,hi with
 | 0,_=>decide +kernel
 | 1,_=>decide +kernel
 | 2,_=>decide +kernel
 | 3,_=>decide +kernel
 | 4,_=>decide +kernel
 | 5,_=>decide +kernel
theorem EnAt.off {w W W':World}{gf gt mb eb:Nat}{f t:Cfg}(h:EnAt w W gf gt mb f t)(hk:∀ k,k≠eb->W'.heap[k]?=W.heap[k]?)(hz:W'.heap.size=W.heap.size)(hne:gf≠eb/\gt≠eb/\mb≠eb):EnAt w W' gf gt mb f t :=
 ⟨h.sf.same (by omega) (fun b o e=>hk b (by injection e with e1;injection e1 with e2;have:=hne.1;omega)),h.st.same (by omega) (fun b o e=>hk b (by injection e with e1;injection e1 with e2;have:=hne.2.1;omega)),(hk mb hne.2.2).trans h.mp,by have:=h.gfb;omega,by have:=h.gtb;omega,by have:=h.mbb;omega,h.ne⟩
def NewR (ad:Nat->Addr)(nm key:ByteArray)(op config:Int)(c:Cfg)(cf:FuncId)(caps:Array Value)(V W:World)(cells:Array Value)(ev:Value):Prop :=
 (0 < (enewF c c key op config config).1/\cells=zErr/\ErrIs W ad ev (enewF c c key op config config).1 (enewF c c key op config config).2)∨(enewF c c key op config config=(0,-1)/\(¬ 0 < (cfgF c).1/\isN key=true/\0<=op/\0<=config)/\ev=.nilIface/\∃ gf gt mb,cells=enCells nm key op c gf config c gt config ⟨#[108,111,111,107]⟩ ⟨#[116,111,108,100]⟩ ⟨#[108,111,111,107,105,110,103]⟩ (.func (.func cf) #[] caps) mb/\EnAt V W gf gt mb c c)
theorem NewR.cells {ad:Nat->Addr}{nm key:ByteArray}{op config:Int}{c:Cfg}{cf:FuncId}{caps:Array Value}{V W:World}{cells:Array Value}{ev:Value}(h:NewR ad nm key op config c cf caps V W cells ev):(Tryz.prog.info? 93).map (·.size)=some cells.size/\zErr.size=cells.size/\cells.all (·.oneCell')=true:=by
 rcases h with ⟨_,rfl,_⟩ | ⟨_,_,_,gf,gt,mb,rfl,_⟩
 ·exact⟨zErr_size,rfl,zErr_one⟩
 ·exact⟨en_size _ _ _ _ _ _ _ _ _ _ _ _ _ _,rfl,en_one _ _ _ _ _ _ _ _ _ _ _ _ _ _ _⟩
theorem NewR.below {ad:Nat->Addr}{nm key:ByteArray}{op config:Int}{c:Cfg}{cf:FuncId}{caps:Array Value}{V W W':World}{cells:Array Value}{ev:Value}(h:NewR ad nm key op config c cf caps V W cells ev)(hb:Below W.heap.size W W'):NewR ad nm key op config c cf caps V W' cells ev:=by
 rcases h with ⟨h1,h2,h3⟩ | ⟨h1,h2,h3,gf,gt,mb,h4,h5⟩
 ·exact Or.inl ⟨h1,h2,h3.below hb⟩
 ·exact Or.inr ⟨h1,h2,h3,gf,gt,mb,h4,h5.below hb⟩
theorem NewR.store {ad:Nat->Addr}{nm key:ByteArray}{op config:Int}{c:Cfg}{cf:FuncId}{caps:Array Value}{V V0 W:World}{cells:Array Value}{ev:Value}{eb:Nat}(h:NewR ad nm key op config c cf caps V W cells ev)(hb:W.heap[eb]?=some (.cells zErr 93 (0,0)))(hv:V0.heap.size<=V.heap.size)(hn:eb < V.heap.size∨∃ W0:World,W0.heap.size<=eb/\NewR ad nm key op config c cf caps V W0 cells ev):NewR ad nm key op config c cf caps V0 (W.setRow eb cells) cells ev:=by
 obtain⟨r1,r2,r3,r4,r5,r6⟩:=row_set cells hb
 rcases h with ⟨h1,h2,h3⟩ | ⟨h1,h2,h3,gf,gt,mb,h4,h5⟩
 ·exact Or.inl ⟨h1,h2,h3.off (blk_cell hb 0).1 r3⟩
 ·refine Or.inr ⟨h1,h2,h3,gf,gt,mb,h4,(h5.off r3 r2 ?_).base hv⟩
  rcases hn with hn | ⟨W0,hw,hn⟩
  ·have:=h5.gfb
   have:=h5.gtb
   have:=h5.mbb
   omega
  ·rcases hn with ⟨g1,_⟩ | ⟨_,_,_,gf',gt',mb',g4,g5⟩
   ·rw [h1] at g1
    exact absurd g1 (by decide)
   ·rw [h4] at g4
    unfold enCells at g4
    have e1:gf=gf'/\gt=gt'/\mb=mb':=by
     injection g4 with g4
     simp only [List.cons.injEq,Value.slice.injEq,Value.map.injEq,Option.some.injEq,Addr.mk.injEq] at g4
     obtain⟨_,_,_,_,_,⟨⟨a1,_⟩,_⟩,_,_,_,a2,_,_,_,_,_,_,⟨⟨a3,_⟩,_⟩,_⟩:=g4
     exact⟨a1,a3,a2⟩
    have:=g5.gfb
    have:=g5.gtb
    have:=g5.mbb
    omega
theorem anew_any (ad:Nat->Addr) (who op config:Int) (c:Cfg) (p:Option Addr) (cap:Nat) (key:ByteArray) (cf:FuncId) (caps:Array Value) (w:World) (hc:CfgAt w c p cap) (hwho:I64 who) (hE:ErrsQ w ad) (hT:Lib.TabIs Tryz.prog w "internal/strconv.uint64pow10" .u64 Lib.pow10Tab) :
 Calls Tryz.prog 34 #[.int .i64 who,.int .i64 op,.agg #[.int .i64 c.n,.int .i64 c.k,.slice p c.L.length cap],.int .i64 config,.string key,.func (.func cf) #[] caps] w fun e w'=>(∃ ev,ErrIs w' ad ev (newF who op config c key).1 (newF who op config c key).2/\((0 < (newF who op config c key).1/\e=.returned (.tuple #[.pointer none,ev]))∨(newF who op config c key=(0,-1)/\∃ h gf gt mb,e=.returned (.tuple #[.pointer (some ⟨h,0,none⟩),ev])/\w'.heap[h]?=some (.cells (enCells (clientN who) key op c gf config c gt config ⟨#[108,111,111,107]⟩ ⟨#[116,111,108,100]⟩ ⟨#[108,111,111,107,105,110,103]⟩ (.func (.func cf) #[] caps) mb) 95 (0,0))/\EnAt w w' gf gt mb c c/\(w.heap.size<=h/\h < w'.heap.size)/\h≠gf/\h≠gt/\h≠mb)))/\Below w.heap.size w w':=by
 obtain⟨w1,hw1⟩:∃ w1,w1=w.alloc (.cells #[.int .i64 c.n,.int .i64 c.k,.slice p c.L.length cap] 24):=⟨_,rfl⟩
 have hb1:Below w.heap.size w w1:=zBe hw1
 have hz1:w1.heap.size=w.heap.size+1:=by rw [hw1];simp
 have hk1:w1.heap[w.heap.size]?=some (.cells #[.int .i64 c.n,.int .i64 c.k,.slice p c.L.length cap] 24 (0,0)):=by
  rw [hw1]
  show(w.heap.push _)[w.heap.size]?=_
  simp
 have c0:=(blk_cell hk1 0).1
 have c1:=(blk_cell hk1 1).1
 have c2:=(blk_cell hk1 2).1
 obtain⟨w2,hw2⟩:∃ w2,w2=w1.alloc (.cells #[.int .i64 c.n,.int .i64 c.k,.slice p c.L.length cap,.int .i64 config] 88):=⟨_,rfl⟩
 have hb12:Below w1.heap.size w1 w2:=zBe hw2
 have hb2:Below w.heap.size w w2:=hb1.trans (hb12.mono hb1.size)
 have hk2:w2.heap[w.heap.size+1]?=some (.cells #[.int .i64 c.n,.int .i64 c.k,.slice p c.L.length cap,.int .i64 config] 88 (0,0)):=by
  rw [hw2,<- hz1]
  show(w1.heap.push _)[w1.heap.size]?=_
  simp
 obtain⟨it,hit⟩:∃ it:ByteArray,it=⟨(Lib.itoa who).toArray⟩:=⟨_,rfl⟩
 obtain⟨nm,hnm⟩:∃ nm:ByteArray,nm=⟨#[99]⟩ ++ it:=⟨_,rfl⟩
 have HIT:Hid (∀ W,Below w2.heap.size w2 W->Calls Tryz.prog 56 #[.int .i64 who] W fun e w'=>e=.returned (.string it)/\Below W.heap.size W w'):=fun W hW=>by
  rw [hit]
  exact itoa_any who hwho.1 hwho.2 W (TabIs.old hT (fun k hk=>(hb2.trans (hW.mono hb2.size)).block k hk))
 have HNW:Hid (∀ W,Below w2.heap.size w2 W->Calls Tryz.prog 52 #[.agg #[.string nm,.string key,.int .i64 op,.int .i64 c.n,.int .i64 c.k,.slice p c.L.length cap,.int .i64 config,.int .i64 c.n,.int .i64 c.k,.slice p c.L.length cap,.int .i64 config,.string ⟨#[108,111,111,107]⟩,.string ⟨#[116,111,108,100]⟩,.string ⟨#[108,111,111,107,105,110,103]⟩,.func (.func cf) #[] caps]] W fun e w'=>∃ cells ev,e=.returned (.tuple #[.agg cells,ev])/\Hid (NewR ad nm key op config c cf caps W w' cells ev)/\Below W.heap.size W w'):=fun W hW=>by
  have hbW:=hb2.trans (hW.mono hb2.size)
  refine(enew_any ad nm key op c c config config p p cap cap ⟨#[108,111,111,107]⟩ ⟨#[116,111,108,100]⟩ ⟨#[108,111,111,107,105,110,103]⟩ cf caps W (hc.below hbW) (hc.below hbW) (hE.below hbW)).mono fun e w' hq=>?_
  obtain⟨⟨h1,ev,h2,h3⟩ | ⟨h1,h2,gf,gt,mb,h3,h4⟩,h5⟩:=hq
  ·exact⟨_,_,h2,Or.inl ⟨h1,rfl,h3⟩,h5⟩
  ·exact⟨_,_,h3,Or.inr ⟨h1,⟨h2.1,h2.2.2.1,h2.2.2.2.1,h2.2.2.2.2.1⟩,rfl,gf,gt,mb,rfl,h4⟩,h5⟩
 have hsum:∀ W:World,Sem.run Tryz.prog (Op.stringOp .add ⟨#[99]⟩ it) W=.ok (.string nm) W:=fun W=>by
  rw [hnm]
  exact run_string_add_sum W _ _ (by have:=itoa_le who hwho.1 hwho.2;rw [<- hit] at this;show 1+_<=_;omega)
 have HNM:Hid (0<=who/\who < 6->nm=clientN who):=fun h=>by rw [hnm,hit];exact client_itoa h.1 h.2
 have HW1:Hid (w1=w.alloc (.cells #[.int .i64 c.n,.int .i64 c.k,.slice p c.L.length cap] 24)):=hw1
 have HW2:Hid (w2=w1.alloc (.cells #[.int .i64 c.n,.int .i64 c.k,.slice p c.L.length cap,.int .i64 config] 88)):=hw2
 have HZ1:Hid (w1.heap.size=w.heap.size+1):=hz1
 have HB2:Hid (Below w.heap.size w w2):=hb2
 have HER:Hid (ErrsQ w ad):=hE
 have HS:Hid (∀ W,Below w2.heap.size w2 W->(W.cell? ⟨w.heap.size+1,0,none⟩=some (.int .i64 c.n)/\W.cell? ⟨w.heap.size+1,1,none⟩=some (.int .i64 c.k)/\W.cell? ⟨w.heap.size+1,2,none⟩=some (.slice p c.L.length cap)/\W.cell? ⟨w.heap.size+1,3,none⟩=some (.int .i64 config))):=fun W hW=>by
  have hp:=(hW.block _ (lt_blk hk2)).trans hk2
  exact⟨(blk_cell hp 0).1,(blk_cell hp 1).1,(blk_cell hp 2).1,(blk_cell hp 3).1⟩
 have HZB:Hid (∀ W:World,Below W.heap.size W (W.alloc (.cells #[.string ⟨#[]⟩,.string ⟨#[]⟩,.int .i64 0,.int .i64 0,.int .i64 0,.slice none 0 0,.int .i64 0,.string ⟨#[]⟩,.int .i64 0,.map none,.int .i64 0,.int .i64 0,.slice none 0 0,.int .i64 0,.int .i64 0,.int .i64 0,.slice none 0 0,.int .i64 0,.string ⟨#[]⟩,.nilFunc,.string ⟨#[]⟩,.int .i64 0,.int .i64 0,.string ⟨#[]⟩,.bool false] 93))/\(W.alloc (.cells #[.string ⟨#[]⟩,.string ⟨#[]⟩,.int .i64 0,.int .i64 0,.int .i64 0,.slice none 0 0,.int .i64 0,.string ⟨#[]⟩,.int .i64 0,.map none,.int .i64 0,.int .i64 0,.slice none 0 0,.int .i64 0,.int .i64 0,.int .i64 0,.slice none 0 0,.int .i64 0,.string ⟨#[]⟩,.nilFunc,.string ⟨#[]⟩,.int .i64 0,.int .i64 0,.string ⟨#[]⟩,.bool false] 93)).heap[W.heap.size]?=some (.cells zErr 93 (0,0))/\(W.alloc (.cells #[.string ⟨#[]⟩,.string ⟨#[]⟩,.int .i64 0,.int .i64 0,.int .i64 0,.slice none 0 0,.int .i64 0,.string ⟨#[]⟩,.int .i64 0,.map none,.int .i64 0,.int .i64 0,.slice none 0 0,.int .i64 0,.int .i64 0,.int .i64 0,.slice none 0 0,.int .i64 0,.string ⟨#[]⟩,.nilFunc,.string ⟨#[]⟩,.int .i64 0,.int .i64 0,.string ⟨#[]⟩,.bool false] 93)).heap.size=W.heap.size+1):=fun W=>⟨(Below.refl _ _).alloc (Nat.le_refl _) _,(by show(W.heap.push _)[W.heap.size]?=_;simp;rfl),by simp⟩
 have HNF:=newF_en who op config c key
 have HNE:Hid (newF who op config c key=if 0 < (enewF c c key op config config).1 then enewF c c key op config config else if 0<=who/\who < 6 then (0,-1) else (2,-1)):=HNF
 clear hw1 hw2 hb1 hb12 hb2 hk1 hk2 hz1 hc hE hT hwho hit hnm HNF
 go_enter Tryz.func34,Tryz.ntmps34
 go_wp2_with (first | rw [<- HW1.out] | rw [<- HW2.out,HZ1.out] | rw [<- HW2.out] | fail)
 go_cut [15,16] from 20 to 32 (fun v ev W=>∃ eb cells,v=.pointer (some ⟨eb,0,none⟩)/\w2.heap.size<=eb/\W.heap[eb]?=some (.cells cells 93 (0,0))/\NewR ad nm key op config c cf caps w2 W cells ev/\Below w2.heap.size w2 W)
 case first =>
  have hBv0:Below w2.heap.size w2 w2.drew:=(Below.refl _ _).drew
  refine wp_region_held_drew (S:=fun W=>(W.cell? ⟨w.heap.size+1,0,none⟩=some (.int .i64 c.n)/\W.cell? ⟨w.heap.size+1,1,none⟩=some (.int .i64 c.k)/\W.cell? ⟨w.heap.size+1,2,none⟩=some (.slice p c.L.length cap)/\W.cell? ⟨w.heap.size+1,3,none⟩=some (.int .i64 config))) (by kernel_rfl) (HS.out _ hBv0) (fun hHeld=>?_)
  refine wpAnyH_take (i:=0) (oi:={ dst:=some 21,op:=Op.move (Operand.tmp 0),type:=3,pos := "ask.go:72",after:=#[],guard:=none }) (v:=?_) rfl (by kernel_rfl) (by kernel_rfl) (by kernel_rfl) (fun _ _ _ h=>h) (Or.inl ⟨by rfl,?_⟩) hHeld ?_
  rotate_left
  ·(intro w hSw;(try dsimp only at hSw);go_simp;try with_reducible rfl)
  try simp only [Act.put,sA,sZ,sS]
  refine wpAnyH_take (i:=3) (oi:={ dst:=some 24,op:=Op.move (Operand.tmp 4),type:=9,pos := "ask.go:72",after:=#[],guard:=none }) (v:=?_) rfl (by kernel_rfl) (by kernel_rfl) (by kernel_rfl) (fun _ _ _ h=>h) (Or.inl ⟨by rfl,?_⟩) hHeld ?_
  rotate_left
  ·(intro w hSw;(try dsimp only at hSw);go_simp;try with_reducible rfl)
  try simp only [Act.put,sA,sZ,sS]
  refine wpAnyH_take (i:=4) (oi:={ dst:=some 25,op:=Op.move (Operand.tmp 1),type:=3,pos := "ask.go:72",after:=#[],guard:=none }) (v:=?_) rfl (by kernel_rfl) (by kernel_rfl) (by kernel_rfl) (fun _ _ _ h=>h) (Or.inl ⟨by rfl,?_⟩) hHeld ?_
  rotate_left
  ·(intro w hSw;(try dsimp only at hSw);go_simp;try with_reducible rfl)
  try simp only [Act.put,sA,sZ,sS]
  refine wpAnyH_take (i:=5) (oi:={ dst:=some 26,op:=Op.load 88 (Operand.tmp 14),type:=88,pos := "ask.go:72",after:=#[],guard:=none }) (v:=?_) rfl (by kernel_rfl) (by kernel_rfl) (by kernel_rfl) (fun _ _ _ h=>h) (Or.inl ⟨by rfl,?_⟩) hHeld ?_
  rotate_left
  ·(intro w hSw;(try dsimp only at hSw);go_simp;try with_reducible rfl)
  try simp only [Act.put,sA,sZ,sS]
  refine wpAnyH_take (i:=6) (oi:={ dst:=some 27,op:=Op.load 88 (Operand.tmp 14),type:=88,pos := "ask.go:72",after:=#[],guard:=none }) (v:=?_) rfl (by kernel_rfl) (by kernel_rfl) (by kernel_rfl) (fun _ _ _ h=>h) (Or.inl ⟨by rfl,?_⟩) hHeld ?_
  rotate_left
  ·(intro w hSw;(try dsimp only at hSw);go_simp;try with_reducible rfl)
  try simp only [Act.put,sA,sZ,sS]
  refine wpAnyH_take (i:=7) (oi:={ dst:=some 28,op:=Op.move (Operand.tmp 5),type:=82,pos := "ask.go:72",after:=#[],guard:=none }) (v:=?_) rfl (by kernel_rfl) (by kernel_rfl) (by kernel_rfl) (fun _ _ _ h=>h) (Or.inl ⟨by rfl,?_⟩) hHeld ?_
  rotate_left
  ·(intro w hSw;(try dsimp only at hSw);go_simp;try with_reducible rfl)
  try simp only [Act.put,sA,sZ,sS]
  refine wpAnyH_ready (rs:=[1,13]) (by kernel_rfl) (by simp) ?_
  refine AllReadyH.cons (o:={ dst:=some 22,op:=Op.call { callee:=Callee.value (Operand.func 56),args:=#[Operand.tmp 21],argTypes:=#[3] },type:=9,pos := "ask.go:73",after:=#[{ on:=0,ground:=Ground.data }],guard:=none }) rfl (fun K hK=>?_) ?_
  ·skip
   go_simp
   go_at_call 56
   refine(HIT.out _ hBv0).mono ?_
   rintro e w6 ⟨rfl,hbw6⟩
   have hBw6:Below w2.heap.size w2 w6:=hBv0.trans (hbw6.mono hBv0.size)
   first | (refine hK.out _ _ ?_ (fun hHeld=>?_)) | (go_wp2_with fail;refine hK.out _ _ ?_ (fun hHeld=>?_))
   ·exact HS.out _ hBw6
   clear hK K
   try simp only [Act.put,sA,sZ,sS]
   refine wpAnyH_take (i:=2) (oi:={ dst:=some 23,op:=Op.binOp BinOp.add 9 (Operand.const (Value.string { data:=#[99] })) (Operand.tmp 22) 9,type:=9,pos := "ask.go:72",after:=#[{ on:=1,ground:=Ground.data }],guard:=none }) (v:=?_) rfl (by kernel_rfl) (by kernel_rfl) (by kernel_rfl) (fun _ _ _ h=>h) (Or.inl ⟨by rfl,?_⟩) hHeld ?_
   rotate_left
   ·(intro w hSw;(try dsimp only at hSw);go_simp;try with_reducible rfl)
   try simp only [Act.put,sA,sZ,sS]
   refine wpAnyH_take (i:=8) (oi:={ dst:=some 29,op:=Op.build 104 #[(0,Operand.tmp 23),(1,Operand.tmp 24),(2,Operand.tmp 25),(3,Operand.tmp 26),(4,Operand.tmp 27),(5,Operand.const (Value.string { data:=#[108,111,111,107] })),(6,Operand.const (Value.string { data:=#[116,111,108,100] })),(7,Operand.const (Value.string { data:=#[108,111,111,107,105,110,103] })),(8,Operand.tmp 28)],type:=104,pos := "ask.go:72",after:=#[{ on:=2,ground:=Ground.data },{ on:=3,ground:=Ground.data },{ on:=4,ground:=Ground.data },{ on:=5,ground:=Ground.data },{ on:=6,ground:=Ground.data },{ on:=7,ground:=Ground.data }],guard:=none }) (v:=?_) rfl (by kernel_rfl) (by kernel_rfl) (by kernel_rfl) (fun _ _ _ h=>h) (Or.inl ⟨by rfl,?_⟩) hHeld ?_
   rotate_left
   ·(intro w hSw;(try dsimp only at hSw);go_simp;try with_reducible rfl)
   try simp only [Act.put,sA,sZ,sS]
   refine wpAnyH_ready (rs:=[9,13]) (by kernel_rfl) (by simp) ?_
   refine AllReadyH.cons (o:={ dst:=some 30,op:=Op.call { callee:=Callee.value (Operand.func 52),args:=#[Operand.tmp 29],argTypes:=#[104] },type:=101,pos := "ask.go:72",after:=#[{ on:=8,ground:=Ground.data },{ on:=1,ground:=Ground.chain }],guard:=none }) rfl (fun K hK=>?_) ?_
   ·skip
    go_simp
    go_at_call 52
    refine(HNW.out _ hBw6).mono ?_
    rintro e w7 ⟨cells,ev,rfl,hR7,hbw7⟩
    have hBw7:Below w2.heap.size w2 w7:=hBw6.trans (hbw7.mono hBw6.size)
    first | (refine hK.out _ _ ?_ (fun hHeld=>?_)) | (go_wp2_with fail;refine hK.out _ _ ?_ (fun hHeld=>?_))
    ·exact HS.out _ hBw7
    clear hK K
    try simp only [Act.put,sA,sZ,sS]
    refine wpAnyH_take (i:=10) (oi:={ dst:=some 20,op:=Op.move (Operand.tmp 30),type:=101,pos := "ask.go:72",after:=#[{ on:=9,ground:=Ground.data }],guard:=none }) (v:=?_) rfl (by kernel_rfl) (by kernel_rfl) (by kernel_rfl) (fun _ _ _ h=>h) (Or.inl ⟨by rfl,?_⟩) hHeld ?_
    rotate_left
    ·(intro w hSw;(try dsimp only at hSw);go_simp;try with_reducible rfl)
    try simp only [Act.put,sA,sZ,sS]
    refine wpAnyH_take (i:=11) (oi:={ dst:=some 31,op:=Op.extract (Operand.tmp 20) 0,type:=93,pos := "ask.go:72",after:=#[{ on:=10,ground:=Ground.data }],guard:=none }) (v:=?_) rfl (by kernel_rfl) (by kernel_rfl) (by kernel_rfl) (fun _ _ _ h=>h) (Or.inl ⟨by rfl,?_⟩) hHeld ?_
    rotate_left
    ·(intro w hSw;(try dsimp only at hSw);go_simp;try with_reducible rfl)
    try simp only [Act.put,sA,sZ,sS]
    refine wpAnyH_take (i:=12) (oi:={ dst:=some 32,op:=Op.extract (Operand.tmp 20) 1,type:=33,pos := "ask.go:72",after:=#[{ on:=10,ground:=Ground.data },{ on:=14,ground:=Ground.gcOnly Departure.lateStores }],guard:=none }) (v:=?_) rfl (by kernel_rfl) (by kernel_rfl) (by kernel_rfl) (fun _ _ _ h=>h) (Or.inl ⟨by rfl,?_⟩) hHeld ?_
    rotate_left
    ·(intro w hSw;(try dsimp only at hSw);go_simp;try with_reducible rfl)
    try simp only [Act.put,sA,sZ,sS]
    refine wpAnyH_ready (rs:=[13]) (by kernel_rfl) (by simp) ?_
    refine AllReadyH.cons (o:={ dst:=some 15,op:=Op.alloc 93,type:=0,pos := "ask.go:72",after:=#[],guard:=none }) rfl (fun K hK=>?_) AllReadyH.nil
    go_simp
    obtain⟨wa,hwa⟩:∃ wa,wa=w7.alloc (.cells #[.string ⟨#[]⟩,.string ⟨#[]⟩,.int .i64 0,.int .i64 0,.int .i64 0,.slice none 0 0,.int .i64 0,.string ⟨#[]⟩,.int .i64 0,.map none,.int .i64 0,.int .i64 0,.slice none 0 0,.int .i64 0,.int .i64 0,.int .i64 0,.slice none 0 0,.int .i64 0,.string ⟨#[]⟩,.nilFunc,.string ⟨#[]⟩,.int .i64 0,.int .i64 0,.string ⟨#[]⟩,.bool false] 93):=⟨_,rfl⟩
    obtain⟨hbwa,hEwa,hzwa⟩:=HZB.out w7
    rw [<- hwa] at hbwa hEwa hzwa
    rw [<- hwa]
    have hBwa:Below w2.heap.size w2 wa:=hBw7.trans (hbwa.mono hBw7.size)
    refine hK.out _ _ ?_ (fun hHeld=>?_)
    ·exact HS.out _ hBwa
    clear hK K hwa
    try simp only [Act.put,sA,sZ,sS]
    have hRW:NewR ad nm key op config c cf caps w6 wa cells ev:=hR7.out.below hbwa
    have hNN:NewR ad nm key op config c cf caps w2 (wa.setRow w7.heap.size cells) cells ev:=hRW.store hEwa hBw6.size (Or.inr ⟨w7,Nat.le_refl _,hR7.out⟩)
    obtain⟨y1,y2,y3⟩:=hR7.out.cells
    obtain⟨r1,r2,r3,r4,r5,r6⟩:=row_set cells hEwa
    have z0:w2.heap.size<=w7.heap.size:=hBw7.size
    have hBZ:Below w2.heap.size w2 (wa.setRow w7.heap.size cells):=⟨r4.trans hBwa.os,r5.trans hBwa.tape,r6.trans hBwa.output,by rw [r2];exact hBwa.size,fun k hk=>(r3 k (by omega)).trans (hBwa.block k hk)⟩
    refine wpAnyH_ready (rs:=[14]) (by kernel_rfl) (by simp) ?_
    refine AllReadyH.cons (o:={ dst:=none,op:=Op.store 93 (Operand.tmp 15) (Operand.tmp 31),type:=0,pos := "ask.go:72",after:=#[{ on:=13,ground:=Ground.data },{ on:=11,ground:=Ground.data },{ on:=9,ground:=Ground.chain },{ on:=0,ground:=Ground.phase },{ on:=1,ground:=Ground.phase },{ on:=2,ground:=Ground.phase },{ on:=3,ground:=Ground.phase },{ on:=4,ground:=Ground.phase },{ on:=5,ground:=Ground.phase },{ on:=6,ground:=Ground.phase },{ on:=7,ground:=Ground.phase },{ on:=8,ground:=Ground.phase },{ on:=9,ground:=Ground.phase },{ on:=10,ground:=Ground.phase },{ on:=11,ground:=Ground.phase },{ on:=12,ground:=Ground.textOnly Departure.lateStores },{ on:=13,ground:=Ground.phase }],guard:=none }) rfl (fun K hK=>?_) AllReadyH.nil
    refine step_store_all rfl 93 (.tmp 15) (.tmp 31) rfl w7.heap.size cells (by simp [Act.eval]) (by simp [Act.eval]) 93 zErr hEwa y1 y2 y3 ?_
    refine hK.out _ _ ?_ (fun hHeld=>?_)
    ·exact HS.out _ hBZ
    clear hK K
    try simp only [Act.put]
    refine wpAnyH_take (i:=15) (oi:={ dst:=some 16,op:=Op.assign (Operand.tmp 32),type:=33,pos := "ask.go:72",after:=#[{ on:=12,ground:=Ground.data },{ on:=14,ground:=Ground.chain },{ on:=0,ground:=Ground.phase },{ on:=1,ground:=Ground.phase },{ on:=2,ground:=Ground.phase },{ on:=3,ground:=Ground.phase },{ on:=4,ground:=Ground.phase },{ on:=5,ground:=Ground.phase },{ on:=6,ground:=Ground.phase },{ on:=7,ground:=Ground.phase },{ on:=8,ground:=Ground.phase },{ on:=9,ground:=Ground.phase },{ on:=10,ground:=Ground.phase },{ on:=11,ground:=Ground.phase },{ on:=12,ground:=Ground.phase },{ on:=13,ground:=Ground.phase },{ on:=14,ground:=Ground.phase }],guard:=none }) (v:=?_) rfl (by kernel_rfl) (by kernel_rfl) (by kernel_rfl) (fun _ _ _ h=>h) (Or.inl ⟨by rfl,?_⟩) hHeld ?_
    rotate_left
    ·(intro w hSw;(try dsimp only at hSw);go_simp;try with_reducible rfl)
    try simp only [Act.put,sA,sZ,sS]
    refine wpAnyH_done (by kernel_rfl) ?_ _
    go_wp2_with fail
    go_meet
    exact⟨_,cells,rfl,z0,r1,hNN,hBZ⟩
   ·refine AllReadyH.cons (o:={ dst:=some 15,op:=Op.alloc 93,type:=0,pos := "ask.go:72",after:=#[],guard:=none }) rfl (fun K hK=>?_) AllReadyH.nil
    go_simp
    obtain⟨wa,hwa⟩:∃ wa,wa=w6.alloc (.cells #[.string ⟨#[]⟩,.string ⟨#[]⟩,.int .i64 0,.int .i64 0,.int .i64 0,.slice none 0 0,.int .i64 0,.string ⟨#[]⟩,.int .i64 0,.map none,.int .i64 0,.int .i64 0,.slice none 0 0,.int .i64 0,.int .i64 0,.int .i64 0,.slice none 0 0,.int .i64 0,.string ⟨#[]⟩,.nilFunc,.string ⟨#[]⟩,.int .i64 0,.int .i64 0,.string ⟨#[]⟩,.bool false] 93):=⟨_,rfl⟩
    obtain⟨hbwa,hEwa,hzwa⟩:=HZB.out w6
    rw [<- hwa] at hbwa hEwa hzwa
    rw [<- hwa]
    have hBwa:Below w2.heap.size w2 wa:=hBw6.trans (hbwa.mono hBw6.size)
    refine hK.out _ _ ?_ (fun hHeld=>?_)
    ·exact HS.out _ hBwa
    clear hK K hwa
    try simp only [Act.put,sA,sZ,sS]
    refine wpAnyH_ready (rs:=[9]) (by kernel_rfl) (by simp) ?_
    refine AllReadyH.cons (o:={ dst:=some 30,op:=Op.call { callee:=Callee.value (Operand.func 52),args:=#[Operand.tmp 29],argTypes:=#[104] },type:=101,pos := "ask.go:72",after:=#[{ on:=8,ground:=Ground.data },{ on:=1,ground:=Ground.chain }],guard:=none }) rfl (fun K hK=>?_) AllReadyH.nil
    go_simp
    go_at_call 52
    refine(HNW.out _ hBwa).mono ?_
    rintro e w7 ⟨cells,ev,rfl,hR7,hbw7⟩
    have hBw7:Below w2.heap.size w2 w7:=hBwa.trans (hbw7.mono hBwa.size)
    have hEw7:w7.heap[w6.heap.size]?=some (.cells zErr 93 (0,0)):=(hbw7.block _ (lt_blk hEwa)).trans hEwa
    first | (refine hK.out _ _ ?_ (fun hHeld=>?_)) | (go_wp2_with fail;refine hK.out _ _ ?_ (fun hHeld=>?_))
    ·exact HS.out _ hBw7
    clear hK K
    try simp only [Act.put,sA,sZ,sS]
    refine wpAnyH_take (i:=10) (oi:={ dst:=some 20,op:=Op.move (Operand.tmp 30),type:=101,pos := "ask.go:72",after:=#[{ on:=9,ground:=Ground.data }],guard:=none }) (v:=?_) rfl (by kernel_rfl) (by kernel_rfl) (by kernel_rfl) (fun _ _ _ h=>h) (Or.inl ⟨by rfl,?_⟩) hHeld ?_
    rotate_left
    ·(intro w hSw;(try dsimp only at hSw);go_simp;try with_reducible rfl)
    try simp only [Act.put,sA,sZ,sS]
    refine wpAnyH_take (i:=11) (oi:={ dst:=some 31,op:=Op.extract (Operand.tmp 20) 0,type:=93,pos := "ask.go:72",after:=#[{ on:=10,ground:=Ground.data }],guard:=none }) (v:=?_) rfl (by kernel_rfl) (by kernel_rfl) (by kernel_rfl) (fun _ _ _ h=>h) (Or.inl ⟨by rfl,?_⟩) hHeld ?_
    rotate_left
    ·(intro w hSw;(try dsimp only at hSw);go_simp;try with_reducible rfl)
    try simp only [Act.put,sA,sZ,sS]
    refine wpAnyH_take (i:=12) (oi:={ dst:=some 32,op:=Op.extract (Operand.tmp 20) 1,type:=33,pos := "ask.go:72",after:=#[{ on:=10,ground:=Ground.data },{ on:=14,ground:=Ground.gcOnly Departure.lateStores }],guard:=none }) (v:=?_) rfl (by kernel_rfl) (by kernel_rfl) (by kernel_rfl) (fun _ _ _ h=>h) (Or.inl ⟨by rfl,?_⟩) hHeld ?_
    rotate_left
    ·(intro w hSw;(try dsimp only at hSw);go_simp;try with_reducible rfl)
    try simp only [Act.put,sA,sZ,sS]
    have hNN:NewR ad nm key op config c cf caps w2 (w7.setRow w6.heap.size cells) cells ev:=hR7.out.store hEw7 hBwa.size (Or.inl (lt_blk hEwa))
    obtain⟨y1,y2,y3⟩:=hR7.out.cells
    obtain⟨r1,r2,r3,r4,r5,r6⟩:=row_set cells hEw7
    have z0:w2.heap.size<=w6.heap.size:=hBw6.size
    have hBZ:Below w2.heap.size w2 (w7.setRow w6.heap.size cells):=⟨r4.trans hBw7.os,r5.trans hBw7.tape,r6.trans hBw7.output,by rw [r2];exact hBw7.size,fun k hk=>(r3 k (by omega)).trans (hBw7.block k hk)⟩
    refine wpAnyH_ready (rs:=[14]) (by kernel_rfl) (by simp) ?_
    refine AllReadyH.cons (o:={ dst:=none,op:=Op.store 93 (Operand.tmp 15) (Operand.tmp 31),type:=0,pos := "ask.go:72",after:=#[{ on:=13,ground:=Ground.data },{ on:=11,ground:=Ground.data },{ on:=9,ground:=Ground.chain },{ on:=0,ground:=Ground.phase },{ on:=1,ground:=Ground.phase },{ on:=2,ground:=Ground.phase },{ on:=3,ground:=Ground.phase },{ on:=4,ground:=Ground.phase },{ on:=5,ground:=Ground.phase },{ on:=6,ground:=Ground.phase },{ on:=7,ground:=Ground.phase },{ on:=8,ground:=Ground.phase },{ on:=9,ground:=Ground.phase },{ on:=10,ground:=Ground.phase },{ on:=11,ground:=Ground.phase },{ on:=12,ground:=Ground.textOnly Departure.lateStores },{ on:=13,ground:=Ground.phase }],guard:=none }) rfl (fun K hK=>?_) AllReadyH.nil
    refine step_store_all rfl 93 (.tmp 15) (.tmp 31) rfl w6.heap.size cells (by simp [Act.eval]) (by simp [Act.eval]) 93 zErr hEw7 y1 y2 y3 ?_
    refine hK.out _ _ ?_ (fun hHeld=>?_)
    ·exact HS.out _ hBZ
    clear hK K
    try simp only [Act.put]
    refine wpAnyH_take (i:=15) (oi:={ dst:=some 16,op:=Op.assign (Operand.tmp 32),type:=33,pos := "ask.go:72",after:=#[{ on:=12,ground:=Ground.data },{ on:=14,ground:=Ground.chain },{ on:=0,ground:=Ground.phase },{ on:=1,ground:=Ground.phase },{ on:=2,ground:=Ground.phase },{ on:=3,ground:=Ground.phase },{ on:=4,ground:=Ground.phase },{ on:=5,ground:=Ground.phase },{ on:=6,ground:=Ground.phase },{ on:=7,ground:=Ground.phase },{ on:=8,ground:=Ground.phase },{ on:=9,ground:=Ground.phase },{ on:=10,ground:=Ground.phase },{ on:=11,ground:=Ground.phase },{ on:=12,ground:=Ground.phase },{ on:=13,ground:=Ground.phase },{ on:=14,ground:=Ground.phase }],guard:=none }) (v:=?_) rfl (by kernel_rfl) (by kernel_rfl) (by kernel_rfl) (fun _ _ _ h=>h) (Or.inl ⟨by rfl,?_⟩) hHeld ?_
    rotate_left
    ·(intro w hSw;(try dsimp only at hSw);go_simp;try with_reducible rfl)
    try simp only [Act.put,sA,sZ,sS]
    refine wpAnyH_done (by kernel_rfl) ?_ _
    go_wp2_with fail
    go_meet
    exact⟨_,cells,rfl,z0,r1,hNN,hBZ⟩
  ·refine AllReadyH.cons (o:={ dst:=some 15,op:=Op.alloc 93,type:=0,pos := "ask.go:72",after:=#[],guard:=none }) rfl (fun K hK=>?_) AllReadyH.nil
   go_simp
   obtain⟨wa,hwa⟩:∃ wa,wa=(w2.alloc (.cells #[.string ⟨#[]⟩,.string ⟨#[]⟩,.int .i64 0,.int .i64 0,.int .i64 0,.slice none 0 0,.int .i64 0,.string ⟨#[]⟩,.int .i64 0,.map none,.int .i64 0,.int .i64 0,.slice none 0 0,.int .i64 0,.int .i64 0,.int .i64 0,.slice none 0 0,.int .i64 0,.string ⟨#[]⟩,.nilFunc,.string ⟨#[]⟩,.int .i64 0,.int .i64 0,.string ⟨#[]⟩,.bool false] 93)).drew:=⟨_,rfl⟩
   have hbwa:Below w2.heap.size w2 wa:=by rw [hwa];exact(HZB.out w2).1.drew
   have hEwa:wa.heap[w2.heap.size]?=some (.cells zErr 93 (0,0)):=by rw [hwa];exact(HZB.out w2).2.1
   rw [<- hwa]
   have hBwa:=hbwa
   refine hK.out _ _ ?_ (fun hHeld=>?_)
   ·exact HS.out _ hBwa
   clear hK K hwa
   try simp only [Act.put,sA,sZ,sS]
   refine wpAnyH_ready (rs:=[1]) (by kernel_rfl) (by simp) ?_
   refine AllReadyH.cons (o:={ dst:=some 22,op:=Op.call { callee:=Callee.value (Operand.func 56),args:=#[Operand.tmp 21],argTypes:=#[3] },type:=9,pos := "ask.go:73",after:=#[{ on:=0,ground:=Ground.data }],guard:=none }) rfl (fun K hK=>?_) AllReadyH.nil
   go_simp
   go_at_call 56
   refine(HIT.out _ hBwa).mono ?_
   rintro e w6 ⟨rfl,hbw6⟩
   have hBw6:Below w2.heap.size w2 w6:=hBwa.trans (hbw6.mono hBwa.size)
   have hEw6:w6.heap[w2.heap.size]?=some (.cells zErr 93 (0,0)):=(hbw6.block _ (lt_blk hEwa)).trans hEwa
   first | (refine hK.out _ _ ?_ (fun hHeld=>?_)) | (go_wp2_with fail;refine hK.out _ _ ?_ (fun hHeld=>?_))
   ·exact HS.out _ hBw6
   clear hK K
   try simp only [Act.put,sA,sZ,sS]
   refine wpAnyH_take (i:=2) (oi:={ dst:=some 23,op:=Op.binOp BinOp.add 9 (Operand.const (Value.string { data:=#[99] })) (Operand.tmp 22) 9,type:=9,pos := "ask.go:72",after:=#[{ on:=1,ground:=Ground.data }],guard:=none }) (v:=?_) rfl (by kernel_rfl) (by kernel_rfl) (by kernel_rfl) (fun _ _ _ h=>h) (Or.inl ⟨by rfl,?_⟩) hHeld ?_
   rotate_left
   ·(intro w hSw;(try dsimp only at hSw);go_simp;try with_reducible rfl)
   try simp only [Act.put,sA,sZ,sS]
   refine wpAnyH_take (i:=8) (oi:={ dst:=some 29,op:=Op.build 104 #[(0,Operand.tmp 23),(1,Operand.tmp 24),(2,Operand.tmp 25),(3,Operand.tmp 26),(4,Operand.tmp 27),(5,Operand.const (Value.string { data:=#[108,111,111,107] })),(6,Operand.const (Value.string { data:=#[116,111,108,100] })),(7,Operand.const (Value.string { data:=#[108,111,111,107,105,110,103] })),(8,Operand.tmp 28)],type:=104,pos := "ask.go:72",after:=#[{ on:=2,ground:=Ground.data },{ on:=3,ground:=Ground.data },{ on:=4,ground:=Ground.data },{ on:=5,ground:=Ground.data },{ on:=6,ground:=Ground.data },{ on:=7,ground:=Ground.data }],guard:=none }) (v:=?_) rfl (by kernel_rfl) (by kernel_rfl) (by kernel_rfl) (fun _ _ _ h=>h) (Or.inl ⟨by rfl,?_⟩) hHeld ?_
   rotate_left
   ·(intro w hSw;(try dsimp only at hSw);go_simp;try with_reducible rfl)
   try simp only [Act.put,sA,sZ,sS]
   refine wpAnyH_ready (rs:=[9]) (by kernel_rfl) (by simp) ?_
   refine AllReadyH.cons (o:={ dst:=some 30,op:=Op.call { callee:=Callee.value (Operand.func 52),args:=#[Operand.tmp 29],argTypes:=#[104] },type:=101,pos := "ask.go:72",after:=#[{ on:=8,ground:=Ground.data },{ on:=1,ground:=Ground.chain }],guard:=none }) rfl (fun K hK=>?_) AllReadyH.nil
   go_simp
   go_at_call 52
   refine(HNW.out _ hBw6).mono ?_
   rintro e w7 ⟨cells,ev,rfl,hR7,hbw7⟩
   have hBw7:Below w2.heap.size w2 w7:=hBw6.trans (hbw7.mono hBw6.size)
   have hEw7:w7.heap[w2.heap.size]?=some (.cells zErr 93 (0,0)):=(hbw7.block _ (lt_blk hEw6)).trans hEw6
   first | (refine hK.out _ _ ?_ (fun hHeld=>?_)) | (go_wp2_with fail;refine hK.out _ _ ?_ (fun hHeld=>?_))
   ·exact HS.out _ hBw7
   clear hK K
   try simp only [Act.put,sA,sZ,sS]
   refine wpAnyH_take (i:=10) (oi:={ dst:=some 20,op:=Op.move (Operand.tmp 30),type:=101,pos := "ask.go:72",after:=#[{ on:=9,ground:=Ground.data }],guard:=none }) (v:=?_) rfl (by kernel_rfl) (by kernel_rfl) (by kernel_rfl) (fun _ _ _ h=>h) (Or.inl ⟨by rfl,?_⟩) hHeld ?_
   rotate_left
   ·(intro w hSw;(try dsimp only at hSw);go_simp;try with_reducible rfl)
   try simp only [Act.put,sA,sZ,sS]
   refine wpAnyH_take (i:=11) (oi:={ dst:=some 31,op:=Op.extract (Operand.tmp 20) 0,type:=93,pos := "ask.go:72",after:=#[{ on:=10,ground:=Ground.data }],guard:=none }) (v:=?_) rfl (by kernel_rfl) (by kernel_rfl) (by kernel_rfl) (fun _ _ _ h=>h) (Or.inl ⟨by rfl,?_⟩) hHeld ?_
   rotate_left
   ·(intro w hSw;(try dsimp only at hSw);go_simp;try with_reducible rfl)
   try simp only [Act.put,sA,sZ,sS]
   refine wpAnyH_take (i:=12) (oi:={ dst:=some 32,op:=Op.extract (Operand.tmp 20) 1,type:=33,pos := "ask.go:72",after:=#[{ on:=10,ground:=Ground.data },{ on:=14,ground:=Ground.gcOnly Departure.lateStores }],guard:=none }) (v:=?_) rfl (by kernel_rfl) (by kernel_rfl) (by kernel_rfl) (fun _ _ _ h=>h) (Or.inl ⟨by rfl,?_⟩) hHeld ?_
   rotate_left
   ·(intro w hSw;(try dsimp only at hSw);go_simp;try with_reducible rfl)
   try simp only [Act.put,sA,sZ,sS]
   have hNN:NewR ad nm key op config c cf caps w2 (w7.setRow w2.heap.size cells) cells ev:=hR7.out.store hEw7 hBw6.size (Or.inl (lt_blk hEw6))
   obtain⟨y1,y2,y3⟩:=hR7.out.cells
   obtain⟨r1,r2,r3,r4,r5,r6⟩:=row_set cells hEw7
   have z0:w2.heap.size<=w2.heap.size:=Nat.le_refl _
   have hBZ:Below w2.heap.size w2 (w7.setRow w2.heap.size cells):=⟨r4.trans hBw7.os,r5.trans hBw7.tape,r6.trans hBw7.output,by rw [r2];exact hBw7.size,fun k hk=>(r3 k (by omega)).trans (hBw7.block k hk)⟩
   refine wpAnyH_ready (rs:=[14]) (by kernel_rfl) (by simp) ?_
   refine AllReadyH.cons (o:={ dst:=none,op:=Op.store 93 (Operand.tmp 15) (Operand.tmp 31),type:=0,pos := "ask.go:72",after:=#[{ on:=13,ground:=Ground.data },{ on:=11,ground:=Ground.data },{ on:=9,ground:=Ground.chain },{ on:=0,ground:=Ground.phase },{ on:=1,ground:=Ground.phase },{ on:=2,ground:=Ground.phase },{ on:=3,ground:=Ground.phase },{ on:=4,ground:=Ground.phase },{ on:=5,ground:=Ground.phase },{ on:=6,ground:=Ground.phase },{ on:=7,ground:=Ground.phase },{ on:=8,ground:=Ground.phase },{ on:=9,ground:=Ground.phase },{ on:=10,ground:=Ground.phase },{ on:=11,ground:=Ground.phase },{ on:=12,ground:=Ground.textOnly Departure.lateStores },{ on:=13,ground:=Ground.phase }],guard:=none }) rfl (fun K hK=>?_) AllReadyH.nil
   refine step_store_all rfl 93 (.tmp 15) (.tmp 31) rfl w2.heap.size cells (by simp [Act.eval]) (by simp [Act.eval]) 93 zErr hEw7 y1 y2 y3 ?_
   refine hK.out _ _ ?_ (fun hHeld=>?_)
   ·exact HS.out _ hBZ
   clear hK K
   try simp only [Act.put]
   refine wpAnyH_take (i:=15) (oi:={ dst:=some 16,op:=Op.assign (Operand.tmp 32),type:=33,pos := "ask.go:72",after:=#[{ on:=12,ground:=Ground.data },{ on:=14,ground:=Ground.chain },{ on:=0,ground:=Ground.phase },{ on:=1,ground:=Ground.phase },{ on:=2,ground:=Ground.phase },{ on:=3,ground:=Ground.phase },{ on:=4,ground:=Ground.phase },{ on:=5,ground:=Ground.phase },{ on:=6,ground:=Ground.phase },{ on:=7,ground:=Ground.phase },{ on:=8,ground:=Ground.phase },{ on:=9,ground:=Ground.phase },{ on:=10,ground:=Ground.phase },{ on:=11,ground:=Ground.phase },{ on:=12,ground:=Ground.phase },{ on:=13,ground:=Ground.phase },{ on:=14,ground:=Ground.phase }],guard:=none }) (v:=?_) rfl (by kernel_rfl) (by kernel_rfl) (by kernel_rfl) (fun _ _ _ h=>h) (Or.inl ⟨by rfl,?_⟩) hHeld ?_
   rotate_left
   ·(intro w hSw;(try dsimp only at hSw);go_simp;try with_reducible rfl)
   try simp only [Act.put,sA,sZ,sS]
   refine wpAnyH_done (by kernel_rfl) ?_ _
   go_wp2_with fail
   go_meet
   exact⟨_,cells,rfl,z0,r1,hNN,hBZ⟩
 case rest =>
  obtain⟨eb,cells,rfl,hge,hblk,hN,hbc⟩:=hcut
  have HBC:Hid (Below w.heap.size w wc):=HB2.out.trans (hbc.mono HB2.out.size)
  have hez:=(HER.out.below HBC.out).c1
  rcases hN with ⟨hpos,rfl,hev⟩ | ⟨hzero,hfine,rfl,gf,gt,mb,rfl,hEn⟩
  ·have HFE:Hid (newF who op config c key=enewF c c key op config config):=by show _=_;rw [HNE.out,if_pos hpos]
   have HEV:Hid (ErrIs wc ad u16 (enewF c c key op config config).1 (enewF c c key op config config).2):=hev
   have HPP:Hid (0 < (enewF c c key op config config).1):=hpos
   obtain⟨et,eu,rfl⟩:=hev.some hpos
   clear hev hpos HIT HNW HS HZB hblk hbc hez c0 c1 c2
   go_wp2
   go_ret2
   exact⟨⟨.iface et eu,by rw [HFE.out];exact HEV.out,Or.inl ⟨by rw [HFE.out];exact HPP.out,rfl⟩⟩,HBC.out⟩
  ·have HZZ:Hid (newF who op config c key=if 0<=who/\who < 6 then (0,-1) else (2,-1)):=by show _=_;rw [HNE.out,if_neg (by rw [hzero];decide)]
   by_cases g1:who < 0
   ·have HFE:Hid (newF who op config c key=(2,-1)):=by show _=_;rw [HZZ.out,if_neg (by omega)]
    have hd0:decide (who < 0)=true:=decide_eq_true g1
    clear HIT HNW HS HZB hblk hbc c0 c1 c2 hzero hfine hEn g1
    go_wp2
    go_quiet (fail)
    go_wp2
    go_ret2
    exact⟨⟨.iface 252 (.pointer (some (ad 1))),by rw [HFE.out];exact ErrIs.sent 1 (by decide),Or.inl ⟨by rw [HFE.out];decide,rfl⟩⟩,below_drewN HBC.out _⟩
   ·have hd0:decide (who < 0)=false:=decide_eq_false g1
    by_cases g2:6<=who
    ·have HFE:Hid (newF who op config c key=(2,-1)):=by show _=_;rw [HZZ.out,if_neg (by omega)]
     have hd1:decide (6<=who)=true:=decide_eq_true g2
     clear HIT HNW HS HZB hblk hbc c0 c1 c2 hzero hfine hEn g1 g2
     go_wp2
     go_quiet (fail)
     go_wp2
     go_ret2
     exact⟨⟨.iface 252 (.pointer (some (ad 1))),by rw [HFE.out];exact ErrIs.sent 1 (by decide),Or.inl ⟨by rw [HFE.out];decide,rfl⟩⟩,below_drewN HBC.out _⟩
    ·have HFE:Hid (newF who op config c key=(0,-1)):=by show _=_;rw [HZZ.out,if_pos (by omega)]
     have hd1:decide (6<=who)=false:=decide_eq_false g2
     obtain⟨w5,hw5⟩:∃ w5,w5=wc.alloc (.cells (enCells nm key op c gf config c gt config ⟨#[108,111,111,107]⟩ ⟨#[116,111,108,100]⟩ ⟨#[108,111,111,107,105,110,103]⟩ (.func (.func cf) #[] caps) mb) 95):=⟨_,rfl⟩
     have hb45:Below wc.heap.size wc w5:=zBe hw5
     have hz5:w5.heap.size=wc.heap.size+1:=by rw [hw5];simp
     have hk5:w5.heap[wc.heap.size]?=some (.cells (enCells (clientN who) key op c gf config c gt config ⟨#[108,111,111,107]⟩ ⟨#[116,111,108,100]⟩ ⟨#[108,111,111,107,105,110,103]⟩ (.func (.func cf) #[] caps) mb) 95 (0,0)):=by
      rw [hw5,<- HNM.out (by omega)]
      show(wc.heap.push _)[wc.heap.size]?=_
      simp
     have HBF:Hid (Below w.heap.size w w5):=HBC.out.trans (hb45.mono HBC.out.size)
     have HFIN:Hid (w5.heap[wc.heap.size]?=some (.cells (enCells (clientN who) key op c gf config c gt config ⟨#[108,111,111,107]⟩ ⟨#[116,111,108,100]⟩ ⟨#[108,111,111,107,105,110,103]⟩ (.func (.func cf) #[] caps) mb) 95 (0,0))/\EnAt w w5 gf gt mb c c/\(w.heap.size<=wc.heap.size/\wc.heap.size < w5.heap.size)/\wc.heap.size≠gf/\wc.heap.size≠gt/\wc.heap.size≠mb):=by
      have y1:=hEn.gfb
      have y2:=hEn.gtb
      have y3:=hEn.mbb
      have y4:=HBC.out.size
      exact⟨hk5,(hEn.below hb45).base HB2.out.size,⟨by omega,by omega⟩,by omega,by omega,by omega⟩
     have HW5:Hid (w5=wc.alloc (.cells (enCells nm key op c gf config c gt config ⟨#[108,111,111,107]⟩ ⟨#[116,111,108,100]⟩ ⟨#[108,111,111,107,105,110,103]⟩ (.func (.func cf) #[] caps) mb) 95)):=hw5
     have HKC:Hid (wc.heap[eb]?=some (.cells (enCells nm key op c gf config c gt config ⟨#[108,111,111,107]⟩ ⟨#[116,111,108,100]⟩ ⟨#[108,111,111,107,105,110,103]⟩ (.func (.func cf) #[] caps) mb) 93 (0,0))):=hblk
     unfold enCells at HW5
     clear HIT HNW HS HZB hblk hbc c0 c1 c2 hzero hfine hEn g1 g2 hw5 hb45 hz5 hk5
     go_wp2_with (first | (refine wpList_load_all rfl 93 (.tmp 15) rfl eb rfl #[.string nm,.string key,.int .i64 op,.int .i64 c.n,.int .i64 c.k,.slice (some ⟨gf,0,none⟩) c.L.length c.L.length,.int .i64 config,.string ⟨#[116,111,108,100]⟩,.int .i64 ((enoughN c:Nat):Int),.map (some mb),.int .i64 c.n,.int .i64 c.k,.slice (some ⟨gf,0,none⟩) c.L.length c.L.length,.int .i64 config,.int .i64 c.n,.int .i64 c.k,.slice (some ⟨gt,0,none⟩) c.L.length c.L.length,.int .i64 config,.string ⟨#[108,111,111,107]⟩,.func (.func cf) #[] caps,.string ⟨#[108,111,111,107,105,110,103]⟩,.int .i64 0,.int .i64 0,.string ⟨#[]⟩,.bool false] 93 HKC.out _ Tryz.underlying93 rfl (en_size _ _ _ _ _ _ _ _ _ _ _ _ _ _) ?_) | rw [<- HW5.out] | fail)
     go_ret2
     exact⟨⟨.nilIface,by rw [HFE.out];exact ErrIs.nil _ _,Or.inr ⟨HFE.out,_,gf,gt,mb,rfl,HFIN.out⟩⟩,HBF.out⟩
end Go.Proofs.YtmhoiodfppdlnaaGreatDoor
