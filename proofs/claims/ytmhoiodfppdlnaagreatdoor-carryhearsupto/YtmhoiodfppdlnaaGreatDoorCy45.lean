import Derived.Test.YtmhoiodfppdlnaaGreatDoorCy25
import Derived.Test.YtmhoiodfppdlnaaGreatDoorCy26
import Derived.Test.YtmhoiodfppdlnaaGreatDoorCy44
import Derived.Test.YtmhoiodfppdlnaaGreatDoorCy28
import Derived.Test.YtmhoiodfppdlnaaGreatDoorCy36
import Derived.Test.YtmhoiodfppdlnaaGreatDoorCy38
import Derived.Deep.WholeRow
namespace Go.Proofs.YtmhoiodfppdlnaaGreatDoor
open Go.RowKit
theorem enew_any (ad:Nat->Addr) (nm key:ByteArray) (op:Int) (f t:Cfg) (fn tn:Int) (p q:Option Addr) (cap cap2:Nat) (asks told st:ByteArray) (cf:FuncId) (caps:Array Value) (w:World) (hcf:CfgAt w f p cap) (hct:CfgAt w t q cap2) (hE:ErrsQ w ad) :
 Calls Tryz.prog 52 #[.agg #[.string nm,.string key,.int .i64 op,.int .i64 f.n,.int .i64 f.k,.slice p f.L.length cap,.int .i64 fn,.int .i64 t.n,.int .i64 t.k,.slice q t.L.length cap2,.int .i64 tn,.string asks,.string told,.string st,.func (.func cf) #[] caps]] w fun e w'=>((0 < (enewF f t key op fn tn).1/\∃ ev,e=.returned (.tuple #[.agg zErr,ev])/\ErrIs w' ad ev (enewF f t key op fn tn).1 (enewF f t key op fn tn).2)∨(enewF f t key op fn tn=(0,-1)/\(¬ 0 < (cfgF f).1/\¬ 0 < (cfgF t).1/\isN key=true/\0<=op/\0<=fn/\0<=tn)/\∃ gf gt mb,e=.returned (.tuple #[.agg (enCells nm key op f gf fn t gt tn asks told st (.func (.func cf) #[] caps) mb),.nilIface])/\EnAt w w' gf gt mb f t))/\Below w.heap.size w w':=by
 by_cases h1:0 < (cfgF f).1
 ·have e:enewF f t key op fn tn=cfgF f:=if_pos h1
  rw [e]
  exact (enew_f ad nm key op f t fn tn p q cap cap2 asks told st cf caps w hcf hE h1).mono fun e w' hq=>⟨Or.inl ⟨h1,hq.1⟩,hq.2⟩
 ·by_cases h2:0 < (cfgF t).1
  ·have e:enewF f t key op fn tn=cfgF t:=by unfold enewF;rw [if_neg h1,if_pos h2]
   rw [e]
   exact (enew_t ad nm key op f t fn tn p q cap cap2 asks told st cf caps w hcf hct hE h1 h2).mono fun e w' hq=>⟨Or.inl ⟨h2,hq.1⟩,hq.2⟩
  ·by_cases h3:isN key=false
   ·have e:enewF f t key op fn tn=(4,-1):=by unfold enewF;rw [if_neg h1,if_neg h2,if_pos h3]
    rw [e]
    exact (enew_k ad nm key op f t fn tn p q cap cap2 asks told st cf caps w hcf hct hE h1 h2 h3).mono fun e w' hq=>⟨Or.inl ⟨by decide,hq.1⟩,hq.2⟩
   ·have h3':isN key=true:=by simpa using h3
    by_cases h4:0<=op/\0<=fn/\0<=tn
    ·have e:enewF f t key op fn tn=(0,-1):=by unfold enewF;rw [if_neg h1,if_neg h2,if_neg h3,if_pos h4]
     exact (enew_ok ad nm key op f t fn tn p q cap cap2 asks told st cf caps w hcf hct hE h1 h2 h3' (by omega) (by omega) (by omega)).mono fun e' w' hq=>⟨Or.inr ⟨e,⟨h1,h2,h3',h4.1,h4.2.1,h4.2.2⟩,hq.1⟩,hq.2⟩
    ·have e:enewF f t key op fn tn=(2,-1):=by unfold enewF;rw [if_neg h1,if_neg h2,if_neg h3,if_neg h4]
     rw [e]
     exact (enew_b ad nm key op f t fn tn p q cap cap2 asks told st cf caps w hcf hct hE h1 h2 h3' (by omega)).mono fun e w' hq=>⟨Or.inl ⟨by decide,hq.1⟩,hq.2⟩
theorem EnAt.below {w W W':World} {gf gt mb:Nat} {f t:Cfg} (h:EnAt w W gf gt mb f t) (hb:Below W.heap.size W W'):EnAt w W' gf gt mb f t:=⟨h.sf.below hb,h.st.below hb,(hb.block _ h.mbb.2).trans h.mp,⟨h.gfb.1,Nat.lt_of_lt_of_le h.gfb.2 hb.size⟩,⟨h.gtb.1,Nat.lt_of_lt_of_le h.gtb.2 hb.size⟩,⟨h.mbb.1,Nat.lt_of_lt_of_le h.mbb.2 hb.size⟩,h.ne⟩
theorem EnAt.base {w0 w W:World} {gf gt mb:Nat} {f t:Cfg} (h:EnAt w W gf gt mb f t) (hb:w0.heap.size<=w.heap.size):EnAt w0 W gf gt mb f t:=⟨h.sf,h.st,h.mp,⟨Nat.le_trans hb h.gfb.1,h.gfb.2⟩,⟨Nat.le_trans hb h.gtb.1,h.gtb.2⟩,⟨Nat.le_trans hb h.mbb.1,h.mbb.2⟩,h.ne⟩
theorem first_obj {a:MAsk} (h:a.first):a.obj=(0,0,⟨#[]⟩,false):=if_neg (fun e=>by have:=first_not h;rcases e.1 with e | e;exact this.1 e;exact this.2.1 e)
theorem PEr.new {X:TypeId} {w W:World} {h gf gt mb:Nat} {a:MAsk} {f t:Cfg} {fn tn:Int} {asks told:ByteArray} {cv:Value} {S1:Nat->Prop} (hn:EnAt w W gf gt mb f t) (hh:w.heap.size<=h/\h < W.heap.size) (hne:h≠gf/\h≠gt/\h≠mb) (hb:W.heap[h]?=some (.cells (enCells a.name a.key a.op f gf fn t gt tn asks told a.st.word cv mb) X (0,0))) (hS1:∀ k,S1 k->w.heap.size<=k/\k < W.heap.size/\k≠h/\k≠mb) (hch:ChDo W (fun k=>k=gf∨k=gt∨S1 k) a.put a.who a.text cv) (hfi:a.first) (hf:EFine a) (hff:¬ 0 < (cfgF f).1) (htt:¬ 0 < (cfgF t).1) (e0:a.from_=[]) (hc:f=a.c/\fn=a.config/\t=a.keeps.c/\tn=a.keeps.config) (hk:asks=if a.moves then wSeal else wLook) (hw:told=a.st.waits):PErOf X W w.heap.size h (fun k=>k=h∨k=mb∨k=gf∨k=gt∨S1 k) a:=by
 refine ⟨fun k=>k=gf∨k=gt∨S1 k,⟨f,fn,.slice (some ⟨gf,0,none⟩) f.L.length f.L.length⟩,⟨f,fn,.slice (some ⟨gf,0,none⟩) f.L.length f.L.length⟩,⟨t,tn,.slice (some ⟨gt,0,none⟩) t.L.length t.L.length⟩,asks,cv,told,some mb,.map [],fun _=>.slice none 0 0,⟨?_,Or.inl rfl,?_,⟨⟨hff,some ⟨gf,0,none⟩,f.L.length,rfl,hn.sf,Nat.le_refl _,(fun e=>by cases e),(fun b o e=>Or.inl (by injection e with e1;injection e1 with e2;exact e2.symm))⟩,⟨htt,some ⟨gt,0,none⟩,t.L.length,rfl,hn.st,Nat.le_refl _,(fun e=>by cases e),(fun b o e=>Or.inr (Or.inl (by injection e with e1;injection e1 with e2;exact e2.symm)))⟩,fun _=>hch,(fun _ x hx=>by rw [e0] at hx;cases hx),?_⟩,?_,hf,⟨fun _=>⟨rfl,hc.1,hc.2.1,hc.2.2.1,hc.2.2.2⟩,fun e=>absurd e (first_not hfi).1,fun _=>⟨hc.1,hc.2.1⟩,hk⟩,fun _=>⟨mb,rfl,Or.inr (Or.inl rfl),fun e=>hne.2.2 e.symm,?_⟩,(fun e=>by have:=first_not hfi;rcases e with e | e;exact absurd e this.2.1;exact absurd e this.2.2),fun _=>hw⟩⟩
 ·rw [hb]
  unfold erCells enCells
  rw [first_obj hfi]
 ·rintro k (rfl | rfl | rfl | rfl | hk)
  ·exact hh
  ·exact hn.mbb
  ·exact hn.gfb
  ·exact hn.gtb
  ·exact ⟨(hS1 k hk).1,(hS1 k hk).2.1⟩
 ·rintro k (rfl | rfl | hk)
  ·exact hn.gfb.2
  ·exact hn.gtb.2
  ·exact (hS1 k hk).2.1
 ·rintro k (rfl | rfl | hk)
  ·exact ⟨Or.inr (Or.inr (Or.inl rfl)),fun e=>hne.1 e.symm,fun e=>hn.ne.1 (Option.some.inj e).symm⟩
  ·exact ⟨Or.inr (Or.inr (Or.inr (Or.inl rfl))),fun e=>hne.2.1 e.symm,fun e=>hn.ne.2 (Option.some.inj e).symm⟩
  ·exact ⟨Or.inr (Or.inr (Or.inr (Or.inr hk))),(hS1 k hk).2.2.1,fun e=>(hS1 k hk).2.2.2 (Option.some.inj e).symm⟩
 ·rw [e0]
  exact HeardAt.made _ hn.mp
theorem wpList_load_all {P:Program} {ops:Array Oper} {rest:List Oper} {o:Oper} {a:Act} {w:World} {Q:Exit->Act->World->Prop} (hgd:o.guard=none) (ty:TypeId) (x:Operand) (ho:o.op=.load ty x) (b:Nat) (hx:a.eval x=.pointer (some ⟨b,0,none⟩)) (cells:Array Value) (T:TypeId) (hb:w.heap[b]?=some (.cells cells T (0,0))) (d:TypeDesc) (hu:P.underlying ty=some d) (hd:d.isRow=true) (hi:(P.info? ty).map (·.size)=some cells.size) (h:wpList P ops Q rest (a.put o.dst (.agg cells)) w):wpList P ops Q (o :: rest) a w :=
 wpList_load_mid hgd ty x ho b 0 hx cells.toList d (fun j u hu=>by rw [Nat.zero_add,(blk_cell hb j).1];simpa using hu) hu hd (by simpa using hi) (by simpa using h)
theorem zErr_new (w:World):(w.alloc (.cells zErr 93)).heap[w.heap.size]?=some (.cells zErr 93 (0,0)):=by
 show (w.heap.push _)[w.heap.size]?=_
 simp
theorem carF_new {b:Lift} {tn:Int} (hi:I64 b.config) (ht:IntKind.i64.wrap (b.config+1)=tn):carF b=enewF b.f b.t b.key b.op b.config tn:=by
 unfold carF enewF
 rw [IntKind.wrap_i64] at ht
 obtain ⟨h1,h2⟩:=hi
 by_cases e:b.config < 9223372036854775807
 ·have:tn=b.config+1:=by omega
  have hx:(0<=b.op/\0<=b.config/\b.config < 9223372036854775807)↔(0<=b.op/\0<=b.config/\0<=tn):=⟨fun h=>⟨h.1,h.2.1,by omega⟩,fun h=>⟨h.1,h.2.1,e⟩⟩
  simp only [hx]
 ·have:tn=-9223372036854775808:=by omega
  have hx:(0<=b.op/\0<=b.config/\b.config < 9223372036854775807)↔(0<=b.op/\0<=b.config/\0<=tn):=⟨fun h=>absurd h.2.2 e,fun h=>by have:=h.2.2;omega⟩
  simp only [hx]
theorem lift_fine {b:Lift} (hf:¬ 0 < (cfgF b.f).1) (hk:isN b.key=true):EFine b.mover:=by
 refine ⟨hf,by have:=isN_size hk;show b.key.size<=100;omega,by show wMover.size<=100;decide +kernel,by show (⟨#[]⟩:ByteArray).size<=1000;decide,(fun h=>by cases h),(fun _ h=>by cases h),List.nodup_nil,(fun x hx=>by cases hx),rfl,(fun h=>by cases h),(fun l hl=>by cases hl)⟩
set_option maxRecDepth 10000 in
set_option maxHeartbeats 8000000 in
theorem cnew_any (ad:Nat->Addr) (b:Lift) (p:Option Addr) (cap:Nat) (q:Option Addr) (cap2:Nat) (w:World) (hcf:CfgAt w b.f p cap) (hct:CfgAt w b.t q cap2) (hi:I64 b.config) (hE:ErrsQ w ad) :
 Calls Tryz.prog 24 #[.int .i64 b.op,.agg #[.int .i64 b.f.n,.int .i64 b.f.k,.slice p b.f.L.length cap],.agg #[.int .i64 b.t.n,.int .i64 b.t.k,.slice q b.t.L.length cap2],.int .i64 b.config,.string b.key] w fun e w'=>LiftMade CkOf ad b w.heap.size e w'/\Below w.heap.size w w':=by
 obtain ⟨tn,htn⟩:∃ tn,IntKind.i64.wrap (b.config+1)=tn:=⟨_,rfl⟩
 have hcF:=carF_new hi htn
 obtain ⟨w1,hw1⟩:∃ w1,w1=w.alloc (.cells #[.int .i64 b.f.n,.int .i64 b.f.k,.slice p b.f.L.length cap] 24):=⟨_,rfl⟩
 have hb1:Below w.heap.size w w1:=by rw [hw1];exact (Below.refl _ _).alloc (Nat.le_refl _) _
 have hz1:w1.heap.size=w.heap.size+1:=by rw [hw1];simp
 have hk1:w1.heap[w.heap.size]?=some (.cells #[.int .i64 b.f.n,.int .i64 b.f.k,.slice p b.f.L.length cap] 24 (0,0)):=by
  rw [hw1]
  show (w.heap.push _)[w.heap.size]?=_
  simp
 obtain ⟨w2,hw2⟩:∃ w2,w2=w1.alloc (.cells #[.int .i64 b.t.n,.int .i64 b.t.k,.slice q b.t.L.length cap2] 24):=⟨_,rfl⟩
 have hb12:Below w1.heap.size w1 w2:=by rw [hw2];exact (Below.refl _ _).alloc (Nat.le_refl _) _
 have hb2:Below w.heap.size w w2:=hb1.trans (hb12.mono hb1.size)
 have hk2:w2.heap[w.heap.size]?=some (.cells #[.int .i64 b.f.n,.int .i64 b.f.k,.slice p b.f.L.length cap] 24 (0,0)):=(hb12.block _ (by omega)).trans hk1
 have hk3:w2.heap[w.heap.size+1]?=some (.cells #[.int .i64 b.t.n,.int .i64 b.t.k,.slice q b.t.L.length cap2] 24 (0,0)):=by
  rw [hw2,<- hz1]
  show (w1.heap.push _)[w1.heap.size]?=_
  simp
 have c0:=(blk_cell hk2 0).1
 have c1:=(blk_cell hk2 1).1
 have c2:=(blk_cell hk2 2).1
 have d0:=(blk_cell hk3 0).1
 have d1:=(blk_cell hk3 1).1
 have d2:=(blk_cell hk3 2).1
 have HNW:=enew_any ad ⟨#[109,111,118,101,114]⟩ b.key b.op b.f b.t b.config tn p q cap cap2 ⟨#[115,101,97,108]⟩ ⟨#[115,101,97,108,101,100]⟩ ⟨#[115,101,97,108,105,110,103]⟩ 37 #[] w2 (hcf.below hb2) (hct.below hb2) (hE.below hb2)
 have HW1:Hid (w1=w.alloc (.cells #[.int .i64 b.f.n,.int .i64 b.f.k,.slice p b.f.L.length cap] 24)):=hw1
 have HW2:Hid (w2=w1.alloc (.cells #[.int .i64 b.t.n,.int .i64 b.t.k,.slice q b.t.L.length cap2] 24)):=hw2
 have HZ1:Hid (w1.heap.size=w.heap.size+1):=hz1
 have HB2:Hid (Below w.heap.size w w2):=hb2
 have HTN:Hid (IntKind.i64.wrap (b.config+1)=tn):=htn
 have HI:Hid (I64 b.config):=hi
 unfold LiftMade
 rw [hcF]
 have HCF:Hid (carF b=enewF b.f b.t b.key b.op b.config tn):=hcF
 clear hw1 hw2 hb1 hb12 hb2 hk1 hk2 hk3 hz1 hcf hct hE hi hcF
 go_enter Tryz.func24,Tryz.ntmps24
 go_wp2_with (first | rw [<- HW1.out] | rw [<- HW2.out,HZ1.out] | rw [<- HW2.out] | fail)
 refine HNW.mono ?_
 rintro e w3 ⟨hor,hb3⟩
 have HB3:Hid (Below w.heap.size w w3):=HB2.out.trans (hb3.mono HB2.out.size)
 have HB23:Hid (Below w2.heap.size w2 w3):=hb3
 clear HNW hb3 c0 c1 c2 d0 d1 d2 htn
 rcases hor with ⟨hpos,ev,rfl,hev⟩ | ⟨hzero,hfine,gf,gt,mb,rfl,hN⟩
 ·have HEV:Hid (ErrIs w3 ad ev (enewF b.f b.t b.key b.op b.config tn).1 (enewF b.f b.t b.key b.op b.config tn).2):=hev
  have HPP:Hid (0 < (enewF b.f b.t b.key b.op b.config tn).1):=hpos
  obtain ⟨et,eu,rfl⟩:=hev.some hpos
  clear hev hpos HCF
  have hba:Below w3.heap.size w3 (w3.alloc (.cells zErr 93)):=(Below.refl _ w3).alloc (Nat.le_refl _) _
  go_wp2_with (first | (refine wpList_store_all rfl 93 (.tmp 12) (.tmp 26) rfl w3.heap.size zErr rfl rfl 93 zErr (zErr_new w3) zErr_size rfl zErr_one ?_;rw [World.setRow_alloc_new]) | fail)
  go_ret2
  exact ⟨⟨.iface et eu,HEV.out.below hba,Or.inl ⟨HPP.out,rfl⟩⟩,HB3.out.trans (hba.mono HB3.out.size)⟩
 ·have HNN:Hid (EnAt w2 w3 gf gt mb b.f b.t):=hN
  have HFI:Hid (¬ 0 < (cfgF b.f).1/\¬ 0 < (cfgF b.t).1/\isN b.key=true/\0<=b.op/\0<=b.config/\0<=tn):=⟨by have:=hfine.1;omega,by have:=hfine.2.1;omega,hfine.2.2⟩
  have HZZ:Hid (enewF b.f b.t b.key b.op b.config tn=(0,-1)):=hzero
  obtain ⟨w4,hw4⟩:∃ w4,w4=w3.alloc (.cells (enCells ⟨#[109,111,118,101,114]⟩ b.key b.op b.f gf b.config b.t gt tn ⟨#[115,101,97,108]⟩ ⟨#[115,101,97,108,101,100]⟩ ⟨#[115,101,97,108,105,110,103]⟩ (.func (.func 37) #[] #[]) mb) 93):=⟨_,rfl⟩
  have hb34:Below w3.heap.size w3 w4:=by rw [hw4];exact (Below.refl _ _).alloc (Nat.le_refl _) _
  have hz4:w4.heap.size=w3.heap.size+1:=by rw [hw4];simp
  have hk4:w4.heap[w3.heap.size]?=some (.cells (enCells ⟨#[109,111,118,101,114]⟩ b.key b.op b.f gf b.config b.t gt tn ⟨#[115,101,97,108]⟩ ⟨#[115,101,97,108,101,100]⟩ ⟨#[115,101,97,108,105,110,103]⟩ (.func (.func 37) #[] #[]) mb) 93 (0,0)):=by
   rw [hw4]
   show (w3.heap.push _)[w3.heap.size]?=_
   simp
  obtain ⟨w5,hw5⟩:∃ w5,w5=w4.alloc (.cells (enCells ⟨#[109,111,118,101,114]⟩ b.key b.op b.f gf b.config b.t gt tn ⟨#[115,101,97,108]⟩ ⟨#[115,101,97,108,101,100]⟩ ⟨#[115,101,97,108,105,110,103]⟩ (.func (.func 37) #[] #[]) mb) 106):=⟨_,rfl⟩
  have hb45:Below w4.heap.size w4 w5:=by rw [hw5];exact (Below.refl _ _).alloc (Nat.le_refl _) _
  have hz5:w5.heap.size=w4.heap.size+1:=by rw [hw5];simp
  have hk5:w5.heap[w4.heap.size]?=some (.cells (enCells ⟨#[109,111,118,101,114]⟩ b.key b.op b.f gf b.config b.t gt tn ⟨#[115,101,97,108]⟩ ⟨#[115,101,97,108,101,100]⟩ ⟨#[115,101,97,108,105,110,103]⟩ (.func (.func 37) #[] #[]) mb) 106 (0,0)):=by
   rw [hw5]
   show (w4.heap.push _)[w4.heap.size]?=_
   simp
  have hb35:Below w3.heap.size w3 w5:=hb34.trans (hb45.mono hb34.size)
  have HBF:Hid (Below w.heap.size w w5):=HB3.out.trans (hb35.mono HB3.out.size)
  have HFIN:Hid (CkOf w5 w.heap.size w4.heap.size (fun k=>k=w4.heap.size∨k=mb∨k=gf∨k=gt∨False) b.mover):=by
   have htn2:tn=b.config+1:=by
    have h1:=HTN.out
    rw [IntKind.wrap_i64] at h1
    have h2:=HFI.out.2.2.2.2
    have h3:=HI.out
    unfold I64 at h3
    omega
   have y1:=HNN.out.gfb
   have y2:=HNN.out.gtb
   have y3:=HNN.out.mbb
   have y4:=HB2.out.size
   have y5:=HB3.out.size
   exact ⟨PEr.new (a:=b.mover) (S1:=fun _=>False) (asks:=wSeal) (told:=wShut) ((HNN.out.below hb35).base y4) ⟨by omega,by omega⟩ ⟨by omega,by omega,by omega⟩ hk5 (fun k hk=>hk.elim) (best_do _ _ _ _) (Or.inr rfl) (lift_fine HFI.out.1 HFI.out.2.2.1) HFI.out.1 HFI.out.2.1 rfl ⟨rfl,rfl,rfl,htn2⟩ rfl rfl,rfl⟩
  have HW4:Hid (w4=w3.alloc (.cells (enCells ⟨#[109,111,118,101,114]⟩ b.key b.op b.f gf b.config b.t gt tn ⟨#[115,101,97,108]⟩ ⟨#[115,101,97,108,101,100]⟩ ⟨#[115,101,97,108,105,110,103]⟩ (.func (.func 37) #[] #[]) mb) 93)):=hw4
  have HW5:Hid (w5=w4.alloc (.cells (enCells ⟨#[109,111,118,101,114]⟩ b.key b.op b.f gf b.config b.t gt tn ⟨#[115,101,97,108]⟩ ⟨#[115,101,97,108,101,100]⟩ ⟨#[115,101,97,108,105,110,103]⟩ (.func (.func 37) #[] #[]) mb) 106)):=hw5
  have HK4:Hid (w4.heap[w3.heap.size]?=some (.cells (enCells ⟨#[109,111,118,101,114]⟩ b.key b.op b.f gf b.config b.t gt tn ⟨#[115,101,97,108]⟩ ⟨#[115,101,97,108,101,100]⟩ ⟨#[115,101,97,108,105,110,103]⟩ (.func (.func 37) #[] #[]) mb) 93 (0,0))):=hk4
  unfold enCells at HW5
  clear hzero hN hw4 hw5 hb34 hb45 hb35 hz4 hz5 hk4 hk5 HCF hfine
  go_wp2_with (first | (refine wpList_store_all rfl 93 (.tmp 12) (.tmp 26) rfl w3.heap.size (enCells ⟨#[109,111,118,101,114]⟩ b.key b.op b.f gf b.config b.t gt tn ⟨#[115,101,97,108]⟩ ⟨#[115,101,97,108,101,100]⟩ ⟨#[115,101,97,108,105,110,103]⟩ (.func (.func 37) #[] #[]) mb) rfl rfl 93 zErr (zErr_new w3) (en_size _ _ _ _ _ _ _ _ _ _ _ _ _ _) rfl (en_one _ _ _ _ _ _ _ _ _ _ _ _ _ _ _) ?_;rw [World.setRow_alloc_new,<- HW4.out]) | (refine wpList_load_all rfl 93 (.tmp 12) rfl w3.heap.size rfl #[.string ⟨#[109,111,118,101,114]⟩,.string b.key,.int .i64 b.op,.int .i64 b.f.n,.int .i64 b.f.k,.slice (some ⟨gf,0,none⟩) b.f.L.length b.f.L.length,.int .i64 b.config,.string ⟨#[115,101,97,108,101,100]⟩,.int .i64 ((enoughN b.f:Nat):Int),.map (some mb),.int .i64 b.f.n,.int .i64 b.f.k,.slice (some ⟨gf,0,none⟩) b.f.L.length b.f.L.length,.int .i64 b.config,.int .i64 b.t.n,.int .i64 b.t.k,.slice (some ⟨gt,0,none⟩) b.t.L.length b.t.L.length,.int .i64 tn,.string ⟨#[115,101,97,108]⟩,.func (.func 37) #[] #[],.string ⟨#[115,101,97,108,105,110,103]⟩,.int .i64 0,.int .i64 0,.string ⟨#[]⟩,.bool false] 93 HK4.out _ Tryz.underlying93 rfl (en_size _ _ _ _ _ _ _ _ _ _ _ _ _ _) ?_) | rw [<- HW5.out] | fail)
  go_ret2
  exact ⟨⟨_,by rw [HZZ.out];exact ErrIs.nil _ _,by first | exact Or.inr ⟨by rw [HZZ.out];decide,_,rfl,_,HFIN.out⟩ | exact Or.inr ⟨by rw [HZZ.out];decide,_,_,rfl,HFIN.out⟩⟩,HBF.out⟩
theorem carryOk (ad:Nat->Addr):CarryOk ad (fun w=>∃ z,w.cell? ⟨11,0,none⟩=some (.iface 252 (.pointer (some z)))) CkOf where
 inS:=fun ⟨⟨_,_,_,_,_,_,_,_,_,_,hp⟩,_⟩ k hk=>hp.inB k hk
 keep:=fun ⟨⟨_,_,_,_,_,_,_,_,_,_,hp⟩,hm⟩ hb hk=>⟨⟨_,_,_,_,_,_,_,_,_,_,hp.keep hb.size hk⟩,hm⟩
 new:=fun b p cap q cap2 w hcf hct _ _ hi hE _=>cnew_any ad b p cap q cap2 w hcf hct hi hE
 begin:=fun {_ _ _ S _} hc _=>(cbegin_any hc).mono fun _ _ hq=>⟨hq.1,S,⟨by obtain ⟨_,_,_,_,_,_,_,_,_,_,hp⟩:=hc.1;exact ⟨_,_,_,_,_,_,_,_,_,_,hp.below hq.2⟩,hc.2⟩,Upd.of_below hq.2⟩
 hear:=fun x hc hL _ hs hv hG=>chear_any ad hc x hL hs hv hG
 state:=fun hc=>cstate_any hc
 answer:=fun hc=>canswer_any hc
end Go.Proofs.YtmhoiodfppdlnaaGreatDoor
