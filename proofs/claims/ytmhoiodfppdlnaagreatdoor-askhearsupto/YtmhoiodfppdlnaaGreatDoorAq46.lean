import Derived.Test.YtmhoiodfppdlnaaGreatDoorAq21
import Derived.Test.YtmhoiodfppdlnaaGreatDoorAq45
import Derived.Test.YtmhoiodfppdlnaaGreatDoorAq23
namespace Go.Proofs.YtmhoiodfppdlnaaGreatDoor
open Go.RowKit
theorem enew_any (ad:Nat->Addr)(nm key:ByteArray)(op:Int)(f t:Cfg)(fn tn:Int)(p q:Option Addr)(cap cap2:Nat)(asks told st:ByteArray)(cf:FuncId)(caps:Array Value)(w:World)(hcf:CfgAt w f p cap)(hct:CfgAt w t q cap2)(hE:ErrsQ w ad) :
 Calls Tryz.prog 52 #[.agg #[.string nm,.string key,.int .i64 op,.int .i64 f.n,.int .i64 f.k,.slice p f.L.length cap,.int .i64 fn,.int .i64 t.n,.int .i64 t.k,.slice q t.L.length cap2,.int .i64 tn,.string asks,.string told,.string st,.func (.func cf) #[] caps]] w fun e w'=>((0 < (enewF f t key op fn tn).1/\∃ ev,e=.returned (.tuple #[.agg zErr,ev])/\ErrIs w' ad ev (enewF f t key op fn tn).1 (enewF f t key op fn tn).2)∨(enewF f t key op fn tn=(0,-1)/\(¬ 0 < (cfgF f).1/\¬ 0 < (cfgF t).1/\isN key=true/\0<=op/\0<=fn/\0<=tn)/\∃ gf gt mb,e=.returned (.tuple #[.agg (enCells nm key op f gf fn t gt tn asks told st (.func (.func cf) #[] caps) mb),.nilIface])/\EnAt w w' gf gt mb f t))/\Below w.heap.size w w':=by
 by_cases h1:0 < (cfgF f).1
 ·have e:enewF f t key op fn tn=cfgF f:=if_pos h1
  rw [e]
  exact(enew_f ad nm key op f t fn tn p q cap cap2 asks told st cf caps w hcf hE h1).mono fun e w' hq=>⟨Or.inl ⟨h1,hq.1⟩,hq.2⟩
 ·by_cases h2:0 < (cfgF t).1
  ·have e:enewF f t key op fn tn=cfgF t:=by unfold enewF;rw [if_neg h1,if_pos h2]
   rw [e]
   exact(enew_t ad nm key op f t fn tn p q cap cap2 asks told st cf caps w hcf hct hE h1 h2).mono fun e w' hq=>⟨Or.inl ⟨h2,hq.1⟩,hq.2⟩
  ·by_cases h3:isN key=false
   ·have e:enewF f t key op fn tn=(4,-1):=by unfold enewF;rw [if_neg h1,if_neg h2,if_pos h3]
    rw [e]
    exact(enew_k ad nm key op f t fn tn p q cap cap2 asks told st cf caps w hcf hct hE h1 h2 h3).mono fun e w' hq=>⟨Or.inl ⟨by decide,hq.1⟩,hq.2⟩
   ·have h3':isN key=true:=by simpa using h3
    by_cases h4:0<=op/\0<=fn/\0<=tn
    ·have e:enewF f t key op fn tn=(0,-1):=by unfold enewF;rw [if_neg h1,if_neg h2,if_neg h3,if_pos h4]
     exact(enew_ok ad nm key op f t fn tn p q cap cap2 asks told st cf caps w hcf hct hE h1 h2 h3' (by omega) (by omega) (by omega)).mono fun e' w' hq=>⟨Or.inr ⟨e,⟨h1,h2,h3',h4.1,h4.2.1,h4.2.2⟩,hq.1⟩,hq.2⟩
    ·have e:enewF f t key op fn tn=(2,-1):=by unfold enewF;rw [if_neg h1,if_neg h2,if_neg h3,if_neg h4]
     rw [e]
     exact(enew_b ad nm key op f t fn tn p q cap cap2 asks told st cf caps w hcf hct hE h1 h2 h3' (by omega)).mono fun e w' hq=>⟨Or.inl ⟨by decide,hq.1⟩,hq.2⟩
theorem EnAt.below {w W W':World}{gf gt mb:Nat}{f t:Cfg}(h:EnAt w W gf gt mb f t)(hb:Below W.heap.size W W'):EnAt w W' gf gt mb f t:=⟨h.sf.below hb,h.st.below hb,(hb.block _ h.mbb.2).trans h.mp,⟨h.gfb.1,Nat.lt_of_lt_of_le h.gfb.2 hb.size⟩,⟨h.gtb.1,Nat.lt_of_lt_of_le h.gtb.2 hb.size⟩,⟨h.mbb.1,Nat.lt_of_lt_of_le h.mbb.2 hb.size⟩,h.ne⟩
theorem EnAt.base {w0 w W:World}{gf gt mb:Nat}{f t:Cfg}(h:EnAt w W gf gt mb f t)(hb:w0.heap.size<=w.heap.size):EnAt w0 W gf gt mb f t:=⟨h.sf,h.st,h.mp,⟨Nat.le_trans hb h.gfb.1,h.gfb.2⟩,⟨Nat.le_trans hb h.gtb.1,h.gtb.2⟩,⟨Nat.le_trans hb h.mbb.1,h.mbb.2⟩,h.ne⟩
theorem first_obj {a:MAsk}(h:a.first):a.obj=(0,0,⟨#[]⟩,false):=if_neg (fun e=>by have:=first_not h;rcases e.1 with e | e;exact this.1 e;exact this.2.1 e)
theorem PEr.new {X:TypeId}{w W:World}{h gf gt mb:Nat}{a:MAsk}{f t:Cfg}{fn tn:Int}{asks told:ByteArray}{cv:Value}{S1:Nat->Prop}(hn:EnAt w W gf gt mb f t)(hh:w.heap.size<=h/\h < W.heap.size)(hne:h≠gf/\h≠gt/\h≠mb)(hb:W.heap[h]?=some (.cells (enCells a.name a.key a.op f gf fn t gt tn asks told a.st.word cv mb) X (0,0)))(hS1:∀ k,S1 k->w.heap.size<=k/\k < W.heap.size/\k≠h/\k≠mb)(hch:ChDo W (fun k=>k=gf∨k=gt∨S1 k) a.put a.who a.text cv)(hfi:a.first)(hf:EFine a)(hff:¬ 0 < (cfgF f).1)(htt:¬ 0 < (cfgF t).1)(e0:a.from_=[])(hc:f=a.c/\fn=a.config/\t=a.keeps.c/\tn=a.keeps.config)(hk:asks=if a.moves then wSeal else wLook)(hw:told=a.st.waits):PErOf X W w.heap.size h (fun k=>k=h∨k=mb∨k=gf∨k=gt∨S1 k) a:=by
 refine⟨fun k=>k=gf∨k=gt∨S1 k,⟨f,fn,.slice (some ⟨gf,0,none⟩) f.L.length f.L.length⟩,⟨f,fn,.slice (some ⟨gf,0,none⟩) f.L.length f.L.length⟩,⟨t,tn,.slice (some ⟨gt,0,none⟩) t.L.length t.L.length⟩,asks,cv,told,some mb,.map [],fun _=>.slice none 0 0,⟨?_,Or.inl rfl,?_,⟨⟨hff,some ⟨gf,0,none⟩,f.L.length,rfl,hn.sf,Nat.le_refl _,(fun e=>by cases e),(fun b o e=>Or.inl (by injection e with e1;injection e1 with e2;exact e2.symm))⟩,⟨htt,some ⟨gt,0,none⟩,t.L.length,rfl,hn.st,Nat.le_refl _,(fun e=>by cases e),(fun b o e=>Or.inr (Or.inl (by injection e with e1;injection e1 with e2;exact e2.symm)))⟩,fun _=>hch,(fun _ x hx=>by rw [e0] at hx;cases hx),?_⟩,?_,hf,⟨fun _=>⟨rfl,hc.1,hc.2.1,hc.2.2.1,hc.2.2.2⟩,fun e=>absurd e (first_not hfi).1,fun _=>⟨hc.1,hc.2.1⟩,hk⟩,fun _=>⟨mb,rfl,Or.inr (Or.inl rfl),fun e=>hne.2.2 e.symm,?_⟩,(fun e=>by have:=first_not hfi;rcases e with e | e;exact absurd e this.2.1;exact absurd e this.2.2),fun _=>hw⟩⟩
 ·rw [hb]
  unfold erCells enCells
  rw [first_obj hfi]
 ·rintro k (rfl | rfl | rfl | rfl | hk)
  ·exact hh
  ·exact hn.mbb
  ·exact hn.gfb
  ·exact hn.gtb
  ·exact⟨(hS1 k hk).1,(hS1 k hk).2.1⟩
 ·rintro k (rfl | rfl | hk)
  ·exact hn.gfb.2
  ·exact hn.gtb.2
  ·exact(hS1 k hk).2.1
 ·rintro k (rfl | rfl | hk)
  ·exact⟨Or.inr (Or.inr (Or.inl rfl)),fun e=>hne.1 e.symm,fun e=>hn.ne.1 (Option.some.inj e).symm⟩
  ·exact⟨Or.inr (Or.inr (Or.inr (Or.inl rfl))),fun e=>hne.2.1 e.symm,fun e=>hn.ne.2 (Option.some.inj e).symm⟩
  ·exact⟨Or.inr (Or.inr (Or.inr (Or.inr hk))),(hS1 k hk).2.2.1,fun e=>(hS1 k hk).2.2.2 (Option.some.inj e).symm⟩
 ·rw [e0]
  exact HeardAt.made _ hn.mp
theorem wpList_load_all {P:Program}{ops:Array Oper}{rest:List Oper}{o:Oper}{a:Act}{w:World}{Q:Exit->Act->World->Prop}(hgd:o.guard=none)(ty:TypeId)(x:Operand)(ho:o.op=.load ty x)(b:Nat)(hx:a.eval x=.pointer (some ⟨b,0,none⟩))(cells:Array Value)(T:TypeId)(hb:w.heap[b]?=some (.cells cells T (0,0)))(d:TypeDesc)(hu:P.underlying ty=some d)(hd:d.isRow=true)(hi:(P.info? ty).map (·.size)=some cells.size)(h:wpList P ops Q rest (a.put o.dst (.agg cells)) w):wpList P ops Q (o :: rest) a w :=
 wpList_load_mid hgd ty x ho b 0 hx cells.toList d (fun j u hu=>by rw [Nat.zero_add,(blk_cell hb j).1];simpa using hu) hu hd (by simpa using hi) (by simpa using h)
end Go.Proofs.YtmhoiodfppdlnaaGreatDoor
