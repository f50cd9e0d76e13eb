import Derived.Test.YtmhoiodfppdlnaaGreatDoorAq33
import Derived.Test.YtmhoiodfppdlnaaGreatDoorAq47
import Derived.Test.YtmhoiodfppdlnaaGreatDoorAq35
set_option maxRecDepth 10000
set_option maxHeartbeats 8000000
namespace Go.Proofs.YtmhoiodfppdlnaaGreatDoor
open Go.RowKit
theorem clientN_size {who:Int}:(clientN who).size=2:=by unfold clientN;rfl
theorem newF_fine {who op config:Int}{c:Cfg}{key:ByteArray}(h:¬ 0 < (newF who op config c key).1):¬ 0 < (cfgF c).1/\isN key=true/\(0<=who/\who < 6/\0<=op/\0<=config)/\newF who op config c key=(0,-1):=by
 unfold newF at h ⊢
 by_cases h1:0 < (cfgF c).1
 ·rw [if_pos h1] at h;exact absurd h1 h
 ·rw [if_neg h1] at h ⊢
  by_cases h2:isN key=false
  ·rw [if_pos h2] at h;exact absurd (by decide) h
  ·rw [if_neg h2] at h ⊢
   by_cases h3:0<=who/\who < 6/\0<=op/\0<=config
   ·rw [if_pos h3]
    exact⟨h1,by simpa using h2,h3,rfl⟩
   ·rw [if_neg h3] at h;exact absurd (by decide) h
theorem bidF_new (b:Bid):bidF b=if 0 < (newF b.who b.op b.config b.c b.key).1 then newF b.who b.op b.config b.c b.key else if b.put=true/\1000 < b.text.size then (2,-1) else (0,-1):=by
 unfold newF
 by_cases h1:0 < (cfgF b.c).1
 ·rw [if_pos h1,if_pos h1,bidF_cfg h1]
 ·rw [if_neg h1]
  by_cases h2:isN b.key=false
  ·rw [if_pos h2,bidF_key h1 h2];rfl
  ·rw [if_neg h2]
   have h2':isN b.key=true:=by simpa using h2
   by_cases h3:0<=b.who/\b.who < 6/\0<=b.op/\0<=b.config
   ·rw [if_pos h3,if_neg (by decide)]
    by_cases h4:b.put=true/\1000 < b.text.size
    ·rw [if_pos h4,bidF_bound h1 h2' (fun hf=>by have:=hf.2.2.2.2 h4.1;omega)]
    ·rw [if_neg h4, bidF_fine h1 h2' ⟨h3.1, h3.2.1, h3.2.2.1, h3.2.2.2, fun hp => by
      rcases Nat.lt_or_ge 1000 b.text.size with h | h
      ·exact absurd ⟨hp,h⟩ h4
      ·exact h⟩]
   ·rw [if_neg h3,if_pos (by decide),bidF_bound h1 h2' (fun hf=>h3 ⟨hf.1,hf.2.1,hf.2.2.1,hf.2.2.2.1⟩)]
def AskX (w:World):Prop:=(∃ z,w.cell? ⟨11,0,none⟩=some (.iface 252 (.pointer (some z))))/\Lib.TabIs Tryz.prog w "internal/strconv.uint64pow10" .u64 Lib.pow10Tab
theorem bid_efine {b:Bid}(hf:¬ 0 < (cfgF b.c).1)(hk:isN b.key=true)(ht:b.put=true->b.text.size<=1000):EFine b.ask:=by
 refine⟨hf,by have:=isN_size hk;show b.key.size<=100;omega,by show(clientN b.who).size<=100;rw [clientN_size];decide,?_,(fun _ h=>by cases h),(fun h=>by cases h),List.nodup_nil,(fun x hx=>by cases hx),rfl,(fun h=>by cases h),(fun l hl=>by cases hl)⟩
 show(if b.put=true then b.text else ⟨#[]⟩:ByteArray).size<=1000
 by_cases h:b.put=true
 ·rw [if_pos h];exact ht h
 ·rw [if_neg h];decide
theorem bid_afine {b:Bid}(h:newF b.who b.op b.config b.c b.key=(0,-1))(ho:I64 b.op)(hc:I64 b.config)(ht:b.put=true->b.text.size<=1000):AFine b.ask:=by
 obtain⟨f1,f2,f3,_⟩:=newF_fine (who:=b.who) (op:=b.op) (config:=b.config) (c:=b.c) (key:=b.key) (by rw [h];decide)
 have e:=bid_efine f1 f2 ht
 exact⟨f1,e.key,e.name,rfl,⟨f3.1,f3.2.1⟩,⟨f3.2.2.1,ho.2⟩,⟨f3.2.2.2,hc.2⟩,e.text,(by intro e;cases e),List.nodup_nil,(fun x hx=>by cases hx),rfl,(fun e=>by cases e),(fun l hl=>by cases hl)⟩
theorem bid_made {b:Bid}{w w2 W:World}{h gf gt mb:Nat}{cv:Value}{S1:Nat->Prop}(hn:newF b.who b.op b.config b.c b.key=(0,-1))(ho:I64 b.op)(hc:I64 b.config)(ht:b.put=true->b.text.size<=1000)(hw:w.heap.size<=w2.heap.size)(hE:EnAt w2 W gf gt mb b.c b.c)(hh:w2.heap.size<=h/\h < W.heap.size)(hne:h≠gf/\h≠gt/\h≠mb)(hb:W.heap[h]?=some (.cells (enCells (clientN b.who) b.key b.op b.c gf b.config b.c gt b.config ⟨#[108,111,111,107]⟩ ⟨#[116,111,108,100]⟩ ⟨#[108,111,111,107,105,110,103]⟩ cv mb) 95 (0,0)))(hS1:∀ k,S1 k->w.heap.size<=k/\k < W.heap.size/\k≠h/\k≠mb)(hch:ChDo W (fun k=>k=gf∨k=gt∨S1 k) b.ask.put b.ask.who b.ask.text cv):AkOf W w.heap.size h (fun k=>k=h∨k=mb∨k=gf∨k=gt∨S1 k) b.ask:=by
 obtain⟨f1,f2,_,_⟩:=newF_fine (who:=b.who) (op:=b.op) (config:=b.config) (c:=b.c) (key:=b.key) (by rw [hn];decide)
 exact⟨PEr.new (a:=b.ask) (asks:=wLook) (told:=wTold) (hE.base hw) ⟨Nat.le_trans hw hh.1,hh.2⟩ hne hb hS1 hch (Or.inl rfl) (bid_efine f1 f2 ht) f1 f1 rfl ⟨rfl,rfl,rfl,rfl⟩ rfl rfl,bid_afine hn ho hc ht⟩
theorem aput_any (ad:Nat->Addr)(b:Bid)(p:Option Addr)(cap:Nat)(w:World)(hc:CfgAt w b.c p cap)(hput:b.put=true)(ht:b.text.size<=3000)(hwho:I64 b.who)(hop:I64 b.op)(hcf:I64 b.config)(hE:ErrsQ w ad)(hX:AskX w) :
 Calls Tryz.prog 8 #[.int .i64 b.who,.int .i64 b.op,.agg #[.int .i64 b.c.n,.int .i64 b.c.k,.slice p b.c.L.length cap],.int .i64 b.config,.string b.key,.string b.text] w fun e w'=>AskMade AkOf ad b w.heap.size e w'/\Below w.heap.size w w':=by
 obtain⟨w1,hw1⟩:∃ w1,w1=w.alloc (.cells #[.int .i64 b.who] 3):=⟨_,rfl⟩
 have hb1:Below w.heap.size w w1:=zBe hw1
 have hz1:w1.heap.size=w.heap.size+1:=by rw [hw1];simp
 have hk1:w1.heap[w.heap.size]?=some (.cells #[.int .i64 b.who] 3 (0,0)):=by
  rw [hw1]
  show(w.heap.push _)[w.heap.size]?=_
  simp
 obtain⟨w2,hw2⟩:∃ w2,w2=w1.alloc (.cells #[.int .i64 b.c.n,.int .i64 b.c.k,.slice p b.c.L.length cap] 24):=⟨_,rfl⟩
 have hb12:Below w1.heap.size w1 w2:=zBe hw2
 have hb2:Below w.heap.size w w2:=hb1.trans (hb12.mono hb1.size)
 have hk2:w2.heap[w.heap.size]?=some (.cells #[.int .i64 b.who] 3 (0,0)):=(hb12.block _ (by omega)).trans hk1
 have hk3:w2.heap[w.heap.size+1]?=some (.cells #[.int .i64 b.c.n,.int .i64 b.c.k,.slice p b.c.L.length cap] 24 (0,0)):=by
  rw [hw2,<- hz1]
  show(w1.heap.push _)[w1.heap.size]?=_
  simp
 have HSC:=sclone_any b.text w2 (by omega)
 have HNW:Hid (∀ W tb,Below w.heap.size w W->Calls Tryz.prog 34 #[.int .i64 b.who,.int .i64 b.op,.agg #[.int .i64 b.c.n,.int .i64 b.c.k,.slice p b.c.L.length cap],.int .i64 b.config,.string b.key,.func (.func 35) #[] #[.pointer (some ⟨w.heap.size,0,none⟩),.pointer (some ⟨tb,0,none⟩)]] W _):=fun W tb hW=>anew_any ad b.who b.op b.config b.c p cap b.key 35 #[.pointer (some ⟨w.heap.size,0,none⟩),.pointer (some ⟨tb,0,none⟩)] W (hc.below hW) hwho (hE.below hW) (TabIs.old hX.2 (fun k hk=>hW.block k hk))
 have HW1:Hid (w1=w.alloc (.cells #[.int .i64 b.who] 3)):=hw1
 have HW2:Hid (w2=w1.alloc (.cells #[.int .i64 b.c.n,.int .i64 b.c.k,.slice p b.c.L.length cap] 24)):=hw2
 have HZ1:Hid (w1.heap.size=w.heap.size+1):=hz1
 have HB2:Hid (Below w.heap.size w w2):=hb2
 have HK2:Hid (w2.heap[w.heap.size]?=some (.cells #[.int .i64 b.who] 3 (0,0))/\w2.heap[w.heap.size+1]?=some (.cells #[.int .i64 b.c.n,.int .i64 b.c.k,.slice p b.c.L.length cap] 24 (0,0))):=⟨hk2,hk3⟩
 have HER:Hid (ErrsQ w ad):=hE
 have HBF:=bidF_new b
 rw [hput] at HBF
 have HBE:Hid (bidF b=if 0 < (newF b.who b.op b.config b.c b.key).1 then newF b.who b.op b.config b.c b.key else if true=true/\1000 < b.text.size then (2,-1) else (0,-1)):=HBF
 have HPUT:Hid (b.put=true):=hput
 have HOP:Hid (I64 b.op):=hop
 have HCFG:Hid (I64 b.config):=hcf
 clear hw1 hw2 hb1 hb12 hb2 hk1 hk2 hk3 hz1 hc hE hX HBF hput hop hcf hwho
 go_enter Tryz.func8,Tryz.ntmps8
 go_wp2_with (first | rw [<- HW1.out] | rw [<- HW2.out,HZ1.out] | rw [<- HW2.out] | fail)
 refine HSC.mono ?_
 rintro e w3 ⟨rfl,hb3⟩
 obtain⟨w4,hw4⟩:∃ w4,w4=w3.alloc (.cells #[.string b.text] 9):=⟨_,rfl⟩
 have hb34:Below w3.heap.size w3 w4:=zBe hw4
 have hb24:Below w2.heap.size w2 w4:=hb3.trans (hb34.mono hb3.size)
 have hz4:w4.heap.size=w3.heap.size+1:=by rw [hw4];simp
 have hk4:w4.heap[w3.heap.size]?=some (.cells #[.string b.text] 9 (0,0)):=by
  rw [hw4]
  show(w3.heap.push _)[w3.heap.size]?=_
  simp
 have hl1:=lt_blk HK2.out.1
 have hl2:=lt_blk HK2.out.2
 have hkw:=(hb24.block _ hl1).trans HK2.out.1
 have hkc:=(hb24.block _ hl2).trans HK2.out.2
 have c0:=(blk_cell hkw 0).1
 have d0:=(blk_cell hkc 0).1
 have d1:=(blk_cell hkc 1).1
 have d2:=(blk_cell hkc 2).1
 have HB4:Hid (Below w.heap.size w w4):=HB2.out.trans (hb24.mono HB2.out.size)
 have HNX:=HNW.out w4 w3.heap.size HB4.out
 have HW4:Hid (w4=w3.alloc (.cells #[.string b.text] 9)):=hw4
 have HKK:Hid (w4.heap[w.heap.size]?=some (.cells #[.int .i64 b.who] 3 (0,0))/\w4.heap[w3.heap.size]?=some (.cells #[.string b.text] 9 (0,0))/\w.heap.size < w3.heap.size):=⟨hkw,hk4,by have:=hb3.size;omega⟩
 have HZ4:Hid (w4.heap.size=w3.heap.size+1):=hz4
 clear HSC HNW hw4 hb34 hb24 hz4 hk4 hkw hkc hb3 hl1 hl2
 go_wp2_with (first | rw [<- HW4.out] | fail)
 refine HNX.mono ?_
 rintro e w5 ⟨⟨ev,hev,hor⟩,hb5⟩
 have HB5:Hid (Below w.heap.size w w5):=HB4.out.trans (hb5.mono HB4.out.size)
 have HB45:Hid (Below w4.heap.size w4 w5):=hb5
 clear HNX hb5 c0 d0 d1 d2
 rcases hor with ⟨hpos,rfl⟩ | ⟨hzero,h,gf,gt,mb,rfl,hblk,hEn,hhb,hne⟩
 ·have HBX:Hid (bidF b=newF b.who b.op b.config b.c b.key):=by show _=_;rw [HBE.out,if_pos hpos]
  have HEV:Hid (ErrIs w5 ad ev (newF b.who b.op b.config b.c b.key).1 (newF b.who b.op b.config b.c b.key).2):=hev
  have HPP:Hid (0 < (newF b.who b.op b.config b.c b.key).1):=hpos
  obtain⟨et,eu,rfl⟩:=hev.some hpos
  clear hev hpos
  go_wp2
  go_ret2
  exact⟨⟨.iface et eu,by rw [HBX.out];exact HEV.out,Or.inl ⟨by rw [HBX.out];exact HPP.out,rfl⟩⟩,HB5.out⟩
 ·rw [hzero] at hev
  obtain rfl:=ErrIs.isNil hev
  have hez:=(HER.out.below HB5.out).c1
  by_cases hlong:1000 < b.text.size
  ·have HBX:Hid (bidF b=(2,-1)):=by show _=_;rw [HBE.out,if_neg (by rw [hzero];decide),if_pos (by first | exact⟨rfl,hlong⟩ | exact⟨trivial,hlong⟩)]
   have hdl:decide ((1000:Int) < (b.text.size:Int))=true:=decide_eq_true (by omega)
   clear hev hblk hEn hhb hne hzero hlong
   go_wp2
   go_quiet (fail)
   go_wp2
   go_ret2
   exact⟨⟨.iface 252 (.pointer (some (ad 1))),by rw [HBX.out];exact ErrIs.sent 1 (by decide),Or.inl ⟨by rw [HBX.out];decide,rfl⟩⟩,below_drewN HB5.out _⟩
  ·have HBX:Hid (bidF b=(0,-1)):=by show _=_;rw [HBE.out,if_neg (by rw [hzero];decide),if_neg (fun h=>hlong h.2)]
   have hdl:decide ((1000:Int) < (b.text.size:Int))=false:=decide_eq_false (by omega)
   have HFIN:Hid (AkOf w5 w.heap.size h (fun k=>k=h∨k=mb∨k=gf∨k=gt∨(k=w.heap.size∨k=w3.heap.size)) b.ask):=by
    have y1:=hEn.mbb
    have y2:=HKK.out.2.2
    have y3:=HZ4.out
    have y4:=HB45.out.size
    have y5:=HB4.out.size
    have q0:=(blk_cell ((HB45.out.block _ (lt_blk HKK.out.1)).trans HKK.out.1) 0).1
    have q1:=(blk_cell ((HB45.out.block _ (lt_blk HKK.out.2.1)).trans HKK.out.2.1) 0).1
    have e1:b.ask.put=true:=HPUT.out
    have e2:b.ask.text=b.text:=by show(if b.put=true then b.text else ⟨#[]⟩)=_;rw [if_pos HPUT.out]
    exact bid_made hzero HOP.out HCFG.out (fun _=>by omega) y5 hEn hhb hne hblk (fun k hk=>by rcases hk with rfl | rfl;exact⟨by omega,by omega,by omega,by omega⟩;exact⟨by omega,by omega,by omega,by omega⟩) (by rw [e1,e2];exact put_do (Or.inr (Or.inr (Or.inl rfl))) (Or.inr (Or.inr (Or.inr rfl))) q0 q1)
   clear hev hblk hEn hhb hne hzero hlong hez
   go_wp2
   go_ret2
   exact⟨⟨.nilIface,by rw [HBX.out];exact ErrIs.nil _ _,by first | exact Or.inr ⟨by rw [HBX.out];decide,_,rfl,_,HFIN.out⟩ | exact Or.inr ⟨by rw [HBX.out];decide,_,_,rfl,HFIN.out⟩⟩,HB5.out⟩
theorem aget_any (ad:Nat->Addr)(b:Bid)(p:Option Addr)(cap:Nat)(w:World)(hc:CfgAt w b.c p cap)(hput:b.put=false)(hwho:I64 b.who)(hop:I64 b.op)(hcf:I64 b.config)(hE:ErrsQ w ad)(hX:AskX w) :
 Calls Tryz.prog 10 #[.int .i64 b.who,.int .i64 b.op,.agg #[.int .i64 b.c.n,.int .i64 b.c.k,.slice p b.c.L.length cap],.int .i64 b.config,.string b.key] w fun e w'=>AskMade AkOf ad b w.heap.size e w'/\Below w.heap.size w w':=by
 obtain⟨w2,hw2⟩:∃ w2,w2=w.alloc (.cells #[.int .i64 b.c.n,.int .i64 b.c.k,.slice p b.c.L.length cap] 24):=⟨_,rfl⟩
 have hb2:Below w.heap.size w w2:=zBe hw2
 have hk2:w2.heap[w.heap.size]?=some (.cells #[.int .i64 b.c.n,.int .i64 b.c.k,.slice p b.c.L.length cap] 24 (0,0)):=by
  rw [hw2]
  show(w.heap.push _)[w.heap.size]?=_
  simp
 have d0:=(blk_cell hk2 0).1
 have d1:=(blk_cell hk2 1).1
 have d2:=(blk_cell hk2 2).1
 have HNX:=anew_any ad b.who b.op b.config b.c p cap b.key 37 #[] w2 (hc.below hb2) hwho (hE.below hb2) (TabIs.old hX.2 (fun k hk=>hb2.block k hk))
 have HW2:Hid (w2=w.alloc (.cells #[.int .i64 b.c.n,.int .i64 b.c.k,.slice p b.c.L.length cap] 24)):=hw2
 have HB2:Hid (Below w.heap.size w w2):=hb2
 have HBF:=bidF_new b
 rw [hput] at HBF
 have HBE:Hid (bidF b=if 0 < (newF b.who b.op b.config b.c b.key).1 then newF b.who b.op b.config b.c b.key else (0,-1)):=by
  show _=_
  rw [HBF,if_neg (fun h=>by cases h.1:¬ (false=true/\1000 < b.text.size))]
 have HPUT:Hid (b.put=false):=hput
 have HOP:Hid (I64 b.op):=hop
 have HCFG:Hid (I64 b.config):=hcf
 clear hw2 hb2 hk2 hc hE hX HBF hput hop hcf hwho
 go_enter Tryz.func10,Tryz.ntmps10
 go_wp2_with (first | rw [<- HW2.out] | fail)
 refine HNX.mono ?_
 rintro e w5 ⟨⟨ev,hev,hor⟩,hb5⟩
 have HB5:Hid (Below w.heap.size w w5):=HB2.out.trans (hb5.mono HB2.out.size)
 clear HNX hb5 d0 d1 d2
 rcases hor with ⟨hpos,rfl⟩ | ⟨hzero,h,gf,gt,mb,rfl,hblk,hEn,hhb,hne⟩
 ·have HBX:Hid (bidF b=newF b.who b.op b.config b.c b.key):=by show _=_;rw [HBE.out,if_pos hpos]
  have HEV:Hid (ErrIs w5 ad ev (newF b.who b.op b.config b.c b.key).1 (newF b.who b.op b.config b.c b.key).2):=hev
  have HPP:Hid (0 < (newF b.who b.op b.config b.c b.key).1):=hpos
  obtain⟨et,eu,rfl⟩:=hev.some hpos
  clear hev hpos
  go_wp2
  go_ret2
  exact⟨⟨.iface et eu,by rw [HBX.out];exact HEV.out,Or.inl ⟨by rw [HBX.out];exact HPP.out,rfl⟩⟩,HB5.out⟩
 ·rw [hzero] at hev
  obtain rfl:=ErrIs.isNil hev
  have HBX:Hid (bidF b=(0,-1)):=by show _=_;rw [HBE.out,if_neg (by rw [hzero];decide)]
  have HFIN:Hid (AkOf w5 w.heap.size h (fun k=>k=h∨k=mb∨k=gf∨k=gt∨False) b.ask):=by
   have e1:b.ask.put=false:=HPUT.out
   exact bid_made hzero HOP.out HCFG.out (fun h=>by rw [HPUT.out] at h;cases h) HB2.out.size hEn hhb hne hblk (fun k hk=>hk.elim) (by rw [e1];exact best_do _ _ _ _)
  clear hev hblk hEn hhb hne hzero
  go_wp2
  go_ret2
  exact⟨⟨.nilIface,by rw [HBX.out];exact ErrIs.nil _ _,by first | exact Or.inr ⟨by rw [HBX.out];decide,_,rfl,_,HFIN.out⟩ | exact Or.inr ⟨by rw [HBX.out];decide,_,_,rfl,HFIN.out⟩⟩,HB5.out⟩
theorem askOk (ad:Nat->Addr):AskOk ad AskX AkOf where
 inS:=fun⟨⟨_,_,_,_,_,_,_,_,_,_,hp⟩,_⟩ k hk=>hp.inB k hk
 keep:=fun⟨⟨_,_,_,_,_,_,_,_,_,_,hp⟩,hm⟩ hb hk=>⟨⟨_,_,_,_,_,_,_,_,_,_,hp.keep hb.size hk⟩,hm⟩
 put:=fun b p cap w hc hput _ ht hw ho hf hE hX=>aput_any ad b p cap w hc hput ht hw ho hf hE hX
 get:=fun b p cap w hc hput _ hw ho hf hE hX=>aget_any ad b p cap w hc hput hw ho hf hE hX
 begin:=fun {_ _ _ S _} hc _=>(abegin_any hc).mono fun _ _ hq=>⟨hq.1,S,⟨by obtain⟨_,_,_,_,_,_,_,_,_,_,hp⟩:=hc.1;exact⟨_,_,_,_,_,_,_,_,_,_,hp.below hq.2⟩,hc.2⟩,Upd.of_below hq.2⟩
 hear:=fun x hc hL hs hv hG=>ahear_any ad hc x hL hs hv (fun W h1 h2=>⟨(hG W h1 h2).1,(hG W h1 h2).2.1⟩)
 state:=fun hc=>astate_any hc
 answer:=fun hc=>aanswer_any hc
end Go.Proofs.YtmhoiodfppdlnaaGreatDoor
