import Derived.Test.YtmhoiodfppdlnaaGreatDoorAq20
import Derived.Test.YtmhoiodfppdlnaaGreatDoorAq22
import Derived.Test.YtmhoiodfppdlnaaGreatDoorAq15
import Derived.Test.YtmhoiodfppdlnaaGreatDoorAq18
import Derived.Test.YtmhoiodfppdlnaaGreatDoorAq19
import Derived.Deep.RegionHeld3
set_option maxRecDepth 10000
set_option maxHeartbeats 4000000
namespace Go.Proofs.YtmhoiodfppdlnaaGreatDoor
open Go.RowKit
theorem etakes_facts {a:MAsk}{m:Msg}(h:a.takes m=true):(a.first∨a.st=.keeping)/\m.from_ ∈ a.c.L/\m.from_ ∉ a.from_:=by
 unfold MAsk.takes at h
 rw [Bool.and_eq_true,Bool.and_eq_true] at h
 obtain⟨q1,q2,q3⟩:=h
 refine⟨?_,inL_iff.1 q2,fun hm=>by rw [inL_iff.2 hm] at q3;cases q3⟩
 have h0:=(of_decide_eq_true q1).1
 unfold MAsk.first
 cases e:a.st with
 | looking=>exact Or.inl (Or.inl rfl)
 | sealing=>exact Or.inl (Or.inr rfl)
 | keeping=>exact Or.inr rfl
 | done=>rw [e] at h0;exact absurd rfl h0
 | refused=>rw [e] at h0;exact absurd rfl h0
theorem EFine.heard {a:MAsk}{m:Msg}(h:EFine a)(ht:a.takes m=true)(hv:∀ v ∈ m.L,VerI64 v):EFine (a.heard m):=by
 obtain⟨_,h2,h3⟩:=etakes_facts ht
 refine⟨h.cfg,h.key,h.name,h.text,h.still,h.moves,?_,?_,?_,h.keep,?_⟩
 ·show(a.from_ ++ [m.from_]).Nodup
  rw [List.nodup_append]
  exact⟨h.nodup,by simp,fun x hx y hy=>by rw [List.mem_singleton.1 hy];intro e;exact h3 (e ▸ hx)⟩
 ·intro x hx
  rcases List.mem_append.1 hx with hx | hx
  ·exact h.sub x hx
  ·rw [List.mem_singleton.1 hx];exact h2
 ·show(a.from_ ++ [m.from_]).length=(a.L ++ [m.L]).length
  simp [h.both]
 ·intro l hl
  rcases List.mem_append.1 hl with hl | hl
  ·exact h.vers l hl
  ·rw [List.mem_singleton.1 hl];exact hv
theorem efound_text {a:MAsk}(h:EFine a):a.found_.text.size<=1000:=by
 unfold MAsk.found_
 split
 ·exact h.text
 ·obtain⟨⟨h1,_,_⟩,_⟩:=cfgF_fine h.cfg
  exact bestF_size (by omega) _ _ (by decide)
theorem EFine.ended {a:MAsk}(h:EFine a){st:St}(hs:st=.done∨st=.refused):EFine { a with st:=st }:=⟨h.cfg,h.key,h.name,h.text,(by intro _ e;rcases hs with hs | hs <;> rw [hs] at e <;> cases e),(by intro _ e;rcases hs with hs | hs <;> rw [hs] at e <;> cases e),h.nodup,h.sub,h.both,(fun e=>by rcases hs with hs | hs <;> rw [hs] at e <;> cases e),h.vers⟩
theorem first_not {a:MAsk}(h:a.first):a.st≠.keeping/\a.st≠.done/\a.st≠.refused:=by
 rcases h with h | h <;> rw [h] <;> exact⟨(fun e=>by cases e),(fun e=>by cases e),(fun e=>by cases e)⟩
theorem EFine.found {a:MAsk}(h:EFine a)(hst:a.first):EFine a.found_:=by
 obtain⟨e1,e2,e3,e4,_,_,_,e8,e9,e10,_⟩:=found_same a
 exact⟨by rw [e1];exact h.cfg,by rw [e2];exact h.key,by rw [e3];exact h.name,efound_text h,by rw [e4,e8];exact h.still,by rw [e4,e8];exact h.moves,by rw [e9];exact h.nodup,by rw [e9,e1];exact h.sub,by rw [e9,e10];exact h.both,(fun e=>by rw [e8] at e;exact absurd e (first_not hst).1),by rw [e10];exact h.vers⟩
theorem keeps_same (a:MAsk):a.keeps.name=a.name/\a.keeps.key=a.key/\a.keeps.op=a.op/\a.keeps.text=a.text/\a.keeps.moves=a.moves/\a.keeps.st=.keeping/\a.keeps.from_=[]/\a.keeps.L=[]/\a.keeps.found=a.found/\a.keeps.tag=a.tag:=by
 unfold MAsk.keeps
 split <;> exact⟨rfl,rfl,rfl,rfl,rfl,rfl,rfl,rfl,rfl,rfl⟩
theorem keeps_place (a:MAsk):a.keeps.c=(if a.moves=true then a.next else a.c)/\a.keeps.config=(if a.moves=true then a.config+1 else a.config):=by
 unfold MAsk.keeps
 by_cases h:a.moves=true
 ·rw [if_pos h,if_pos h,if_pos h];exact⟨rfl,rfl⟩
 ·rw [if_neg h,if_neg h,if_neg h];exact⟨rfl,rfl⟩
theorem EFine.keeps {a:MAsk}(h:EFine a)(hf:a.found=true)(hc:¬ 0 < (cfgF a.keeps.c).1):EFine a.keeps:=by
 obtain⟨e1,e2,_,e4,_,e6,e7,e8,e9,_⟩:=keeps_same a
 exact⟨hc,by rw [e2];exact h.key,by rw [e1];exact h.name,by rw [e4];exact h.text,(fun _ e=>by rw [e6] at e;cases e),(fun _ e=>by rw [e6] at e;cases e),by rw [e7];exact List.nodup_nil,(fun x hx=>by rw [e7] at hx;cases hx),by rw [e7,e8];rfl,(fun _=>by rw [e9];exact hf),(fun l hl=>by rw [e8] at hl;cases hl)⟩
theorem found_keeps (a:MAsk):a.found_.keeps.c=a.keeps.c/\a.found_.keeps.config=a.keeps.config:=by
 obtain⟨e1,_,_,e4,_,_,e7,_⟩:=found_same a
 rw [(keeps_place a).1,(keeps_place a).2,(keeps_place a.found_).1,(keeps_place a.found_).2,e1,e4,e7,found_next]
 exact⟨rfl,rfl⟩
variable {X:TypeId} {w w':World} {B h:Nat} {S S0:Nat->Prop} {a:MAsk} {P F T:Plc} {asks:ByteArray} {cv:Value} {aw:ByteArray} {m:Option Nat} {D:DataW Value} {row:ByteArray->Value}
theorem Stat.shut {a':MAsk}{cv':Value}{row':ByteArray->Value}(hst:Stat w S0 a F T cv row)(hs:¬ a'.first):Stat w S0 a' F T cv' row':=⟨hst.fr,hst.to_,fun e=>absurd e hs,fun e=>absurd e hs,hst.lt⟩
theorem PEr.ended {a':MAsk}{cv':Value}(hp:PEr X w B h S S0 a P F T asks cv aw m D row)(hw:ErWr X h (erCells a' P aw (enoughN P.c) (.map none) F T asks cv') w w')(hc:a'.c=a.c)(hcf:a'.config=a.config)(hm:a'.moves=a.moves)(hf:EFine a')(hs:a'.st=.done∨a'.st=.refused):PErOf X w' B h S a':=by
 have hne:¬ a'.first:=fun hf=>by have:=first_not hf;rcases hs with e | e;exact this.2.1 e;exact this.2.2 e
 have hnk:a'.st≠.keeping:=by rcases hs with e | e <;> rw [e] <;> intro e' <;> cases e'
 have hst:Stat w' S0 a F T cv row:=hp.stat.keep hw.size (fun k hk=>hw.oth k (hp.stat.lt k hk) (hp.s0 k hk).2.1)
 exact⟨S0,P,F,T,asks,cv',aw,none,D,row,hw.blk,hp.self,fun k hk=>⟨(hp.inB k hk).1,Nat.lt_of_lt_of_le (hp.inB k hk).2 hw.size⟩,hst.shut hne,fun k hk=>⟨(hp.s0 k hk).1,(hp.s0 k hk).2.1,fun e=>by cases e⟩,hf,⟨fun e=>absurd e hne,fun e=>absurd e hnk,fun e=>by rw [hc,hcf];exact hp.plc.beg (hm ▸ e),by rw [hm];exact hp.plc.kind⟩,(fun e=>by rcases e with e | e;exact absurd e hne;exact absurd e hnk),(fun _=>rfl),(fun e=>by rcases e with e | e;exact absurd e hne;exact absurd e hnk)⟩
theorem PEr.kept {a':MAsk}{cv':Value}{mb:Nat}(hp:PEr X w B h S S0 a P F T asks cv aw m D row)(hw:ErWr X h (erCells a' T wKept (enoughN T.c) (.map (some mb)) F T asks cv') w w')(hT:T.c=a'.c/\T.num=a'.config)(hb:a'.moves=false->F.c=a'.c/\F.num=a'.config)(hm:a'.moves=a.moves)(hf:EFine a')(hs:a'.st=.keeping)(hn:a'.from_=[])(hmb:w.heap.size<=mb)(hmp:w'.heap[mb]?=some (.map #[] 0)):∃ row' D',PEr X w' B h (fun k=>S k∨k=mb) S0 a' T F T asks cv' wKept (some mb) D' row':=by
 have hne:¬ a'.first:=fun hf=>(first_not hf).1 hs
 have hst:Stat w' S0 a F T cv row:=hp.stat.keep hw.size (fun k hk=>hw.oth k (hp.stat.lt k hk) (hp.s0 k hk).2.1)
 have hmlt:mb < w'.heap.size:=by
  rcases Nat.lt_or_ge mb w'.heap.size with h' | h'
  ·exact h'
  ·rw [Array.getElem?_eq_none h'] at hmp;cases hmp
 have hB:B<=mb:=Nat.le_trans (hp.inB h hp.self).1 (Nat.le_trans (Nat.le_of_lt hp.lt) hmb)
 refine⟨fun _=>.slice none 0 0,.map [],hw.blk,Or.inl hp.self,?_,hst.shut hne,fun k hk=>⟨Or.inl (hp.s0 k hk).1,(hp.s0 k hk).2.1,fun e=>?_⟩,hf,⟨fun e=>absurd e hne,fun _=>⟨rfl,hT.1,hT.2⟩,hb,by rw [hm];exact hp.plc.kind⟩,fun _=>⟨mb,rfl,Or.inr rfl,?_,?_⟩,(fun e=>by rw [hs] at e;rcases e with e | e <;> cases e),(fun _=>by rw [hs];rfl)⟩
 ·rintro k (hk | rfl)
  ·exact⟨(hp.inB k hk).1,Nat.lt_of_lt_of_le (hp.inB k hk).2 hw.size⟩
  ·exact⟨hB,hmlt⟩
 ·have:=hp.stat.lt k hk
  have:=Option.some.inj e
  omega
 ·have:=hp.lt
  omega
 ·rw [hn]
  exact HeardAt.made _ hmp
theorem PEr.heard {b:Nat}{msg:Msg}{l:List Ver}{v':Value}{w1:World}(hp:PEr X w B h S S0 a P F T asks cv aw (some b) D row)(ht:a.takes msg=true)(hv:∀ v ∈ msg.L,VerI64 v)(hl:a.first->l=msg.L)(hfs:msg.from_.size<=maxLen)
 (ho:OwnR verE 76 w1 w.heap.size v' l) (hb:Below w.heap.size w w1) (hs:SetOk w1 w' b D msg.from_ v') :
 ∃ S1 S01 D' row',PEr X w' B h S1 S01 (a.heard msg) P F T asks cv aw (some b) D' row'/\Upd S S1 w w':=by
 obtain⟨h1,h2,h3⟩:=etakes_facts ht
 obtain⟨b',hbe,hSb,hbh,hH⟩:=hp.open_ h1
 obtain rfl:b=b':=Option.some.inj hbe
 have hg:=hs.grown
 have hblt:b < w.heap.size:=(hp.inB b hSb).2
 have hsz:w.heap.size<=w'.heap.size:=Nat.le_trans hb.size hg.size
 have hoth:∀ k,k < w.heap.size->k≠b->w'.heap[k]?=w.heap[k]?:=fun k hk hne=>(hg.block k (Nat.lt_of_lt_of_le hk hb.size) (fun e=>hne (Option.some.inj e))).trans (hb.block k hk)
 have hvb:∀ k,v'.ownBlock=some k->w.heap.size<=k/\k < w1.heap.size:=fun k hk=>ho.block hk
 have hBw:B<=w.heap.size:=Nat.le_trans (hp.inB h hp.self).1 (Nat.le_of_lt hp.lt)
 have hs0:∀ k,S0 k->w'.heap[k]?=w.heap[k]?:=fun k hk=>hoth k (hp.stat.lt k hk) (fun e=>(hp.s0 k hk).2.2 (by rw [e]))
 have hst:Stat w' S0 a F T cv row:=hp.stat.keep hsz hs0
 have hpl:PlOk (a.heard msg) P F T asks:=⟨fun e=>by
  obtain⟨g1,g2,g3,g4,g5⟩:=hp.plc.pl1 e
  refine⟨g1,g2,g3,?_,?_⟩
  ·rw [g4,(keeps_place a).1,(keeps_place (a.heard msg)).1];rfl
  ·rw [g5,(keeps_place a).2,(keeps_place (a.heard msg)).2];rfl,hp.plc.pl2,hp.plc.beg,hp.plc.kind⟩
 refine⟨fun k=>S k∨v'.ownBlock=some k,fun k=>S0 k∨v'.ownBlock=some k,D.put (litK msg.from_) (.held v'),fun y=>if y=msg.from_ then v' else row y,⟨?_,Or.inl hp.self,?_,⟨hst.fr.more (fun _=>Or.inl),hst.to_.more (fun _=>Or.inl),fun hlk=>(hst.ch hlk).more (fun _=>Or.inl),fun hlk x hx=>?_,?_⟩,?_,hp.fine.heard ht hv,hpl,fun _=>⟨b,rfl,Or.inl hSb,hbh,?_⟩,hp.shut,hp.aw1⟩,⟨hg.os.trans hb.os,hg.tape.trans hb.tape,hg.output.trans hb.output,hsz,?_,?_⟩⟩
 ·rw [hoth h hp.lt (fun e=>hbh e.symm)]
  exact hp.blk
 ·rintro k (hk | hk)
  ·exact⟨(hp.inB k hk).1,Nat.lt_of_lt_of_le (hp.inB k hk).2 hsz⟩
  ·have:=hvb k hk;exact⟨by omega,Nat.lt_of_lt_of_le this.2 hg.size⟩
 ·by_cases e:x=msg.from_
  ·subst e
   rw [if_pos rfl,rowL_new hp.fine.both h3,<- hl hlk]
   obtain⟨q,c,g1,g2,g3,g4,g5⟩:=ho.form
   refine⟨q,c,g1,g2.sameAt hg.size fun b' o' e'=>?_,g3,g4,fun b' o' e'=>Or.inr (by rw [g1,e'];rfl)⟩
   exact hg.block b' (g5 b' o' e').2 (fun e2=>by have:=(g5 b' o' e').1;have:=Option.some.inj e2;omega)
  ·have hx' : x ∈ a.from_ := by
    rcases List.mem_append.1 hx with hx | hx
    ·exact hx
    ·exact absurd (List.mem_singleton.1 hx) e
   rw [if_neg e,rowL_old hp.fine.both hx']
   obtain⟨q,c,g1,g2,g3,g4,g5⟩:=hst.rows hlk x hx'
   exact⟨q,c,g1,g2,g3,g4,fun b o e=>Or.inl (g5 b o e)⟩
 ·rintro k (hk | hk)
  ·exact hst.lt k hk
  ·exact Nat.lt_of_lt_of_le (hvb k hk).2 hg.size
 ·rintro k (hk | hk)
  ·exact⟨Or.inl (hp.s0 k hk).1,(hp.s0 k hk).2⟩
  ·have:=hvb k hk
   have:=hp.lt
   exact⟨Or.inr hk,by omega,fun e=>by have:=Option.some.inj e;omega⟩
 ·exact hH.put hfs h3 v' hs.own
 ·intro k hk hn
  exact hoth k hk (fun e=>hn (by rw [e];exact hSb))
 ·rintro k (hk | hk)
  ·exact Or.inl hk
  ·exact Or.inr (hvb k hk).1
end Go.Proofs.YtmhoiodfppdlnaaGreatDoor
namespace Go.Proofs.YtmhoiodfppdlnaaGreatDoor
open Go.RowKit
variable {X:TypeId} {w w':World} {B h:Nat} {S S0:Nat->Prop} {a:MAsk} {P F T:Plc} {asks:ByteArray} {cv:Value} {aw:ByteArray} {m:Option Nat} {D:DataW Value} {row:ByteArray->Value}
theorem pstate_any (hp:PEr X w B h S S0 a P F T asks cv aw m D row):Calls Tryz.prog 50 #[.pointer (some ⟨h,0,none⟩)] w fun e w'=>e=.returned (.string a.st.word)/\Below w.heap.size w w':=by
 have c10:w.cell? ⟨h,20,none⟩=some (.string a.st.word):=hp.cell 20
 clear hp
 generalize a.st.word=sw at *
 go_enter Tryz.func50,Tryz.ntmps50
 go_wp2
 go_ret
 exact⟨rfl,Below.refl _ _⟩
theorem panswer_any (hp:PEr X w B h S S0 a P F T asks cv aw m D row):Calls Tryz.prog 51 #[.pointer (some ⟨h,0,none⟩)] w fun e w'=>e=.returned (if a.st=.done/\a.found=true then .tuple #[.agg #[.int .i64 a.tag.1,.int .i64 a.tag.2],.string a.text,.bool true] else .tuple #[.agg #[.int .i64 0,.int .i64 0],.string ⟨#[]⟩,.bool false])/\Below w.heap.size w w':=by
 obtain⟨w1,hw1⟩:∃ w1,w1=w.alloc (.cells #[.int .i64 0,.int .i64 0] 46):=⟨_,rfl⟩
 have hb1:Below w.heap.size w w1:=zBe hw1
 have hP1:=hp.below hb1
 have hlt1:w.heap.size < w1.heap.size:=by rw [hw1];simp
 have k0:w1.cell? ⟨w.heap.size,0,none⟩=some (.int .i64 0):=zAc hw1 rfl
 have k1:w1.cell? ⟨w.heap.size,1,none⟩=some (.int .i64 0):=zAc hw1 rfl
 have f0:w1.frozen? ⟨w.heap.size,0,none⟩=false:=by rw [hw1];exact World.frozen?_alloc_at _ _ _ _ rfl
 have f1:w1.frozen? ⟨w.heap.size,1,none⟩=false:=by rw [hw1];exact World.frozen?_alloc_at _ _ _ _ rfl
 have c10:w1.cell? ⟨h,20,none⟩=some (.string a.st.word):=hP1.cell 20
 have HW1:Hid (w1=w.alloc (.cells #[.int .i64 0,.int .i64 0] 46)):=hw1
 have HB1:Hid (Below w.heap.size w w1):=hb1
 have htx:a.obj.2.2.1.size<=1000:=by
  unfold MAsk.obj
  split
  ·exact hp.fine.text
  ·decide
 by_cases hd:a.st=.done
 ·have hres : (if a.st = .done /\ a.found = true then (.tuple #[.agg #[.int .i64 a.tag.1, .int .i64 a.tag.2], .string a.text, .bool true] : Value) else .tuple #[.agg #[.int .i64 0, .int .i64 0], .string ⟨#[]⟩, .bool false]) = .tuple #[.agg #[.int .i64 a.obj.1, .int .i64 a.obj.2.1], .string a.obj.2.2.1, .bool a.obj.2.2.2] := by
   unfold MAsk.obj
   by_cases hf:a.found=true
   ·rw [if_pos ⟨hd,hf⟩,if_pos ⟨Or.inr hd,hf⟩]
   ·rw [if_neg (fun e=>hf e.2),if_neg (fun e=>hf e.2)]
  rw [hres]
  have q:w1.cell? ⟨h,20,none⟩=some (.string ⟨#[100,111,110,101]⟩):=by rw [c10,hd];rfl
  have HS:Hid (∀ W,Below w.heap.size w W->(W.cell? ⟨h,21,none⟩=some (.int .i64 a.obj.1)/\W.cell? ⟨h,22,none⟩=some (.int .i64 a.obj.2.1)/\W.cell? ⟨h,23,none⟩=some (.string a.obj.2.2.1)/\W.cell? ⟨h,24,none⟩=some (.bool a.obj.2.2.2)/\Below w.heap.size w W)):=fun W hW=>by
   have hq:=hp.below hW
   exact⟨hq.cell 21,hq.cell 22,hq.cell 23,hq.cell 24,hW⟩
  generalize a.obj=ob at *
  obtain⟨o1,o2,o3,o4⟩:=ob
  dsimp only at *
  have HCL:Hid (Calls Tryz.prog 33 #[.string o3] w1.drew fun e w'=>e=.returned (.string o3)/\(w'.cell? ⟨h,21,none⟩=some (.int .i64 o1)/\w'.cell? ⟨h,22,none⟩=some (.int .i64 o2)/\w'.cell? ⟨h,23,none⟩=some (.string o3)/\w'.cell? ⟨h,24,none⟩=some (.bool o4)/\Below w.heap.size w w')/\(w'.cell? ⟨w.heap.size,0,none⟩=some (.int .i64 0)/\w'.cell? ⟨w.heap.size,1,none⟩=some (.int .i64 0)/\w'.frozen? ⟨w.heap.size,0,none⟩=false/\w'.frozen? ⟨w.heap.size,1,none⟩=false)):=(sclone_any o3 w1.drew (by omega)).mono fun e w' hq=>by
   have hW:Below w1.heap.size w1 w':=(Below.refl _ w1).drew.trans hq.2
   exact⟨hq.1,HS.out w' (hb1.trans (hW.mono hb1.size)),(hW.cell (p:=⟨w.heap.size,0,none⟩) hlt1).trans k0,(hW.cell (p:=⟨w.heap.size,1,none⟩) hlt1).trans k1,(hW.frozen (p:=⟨w.heap.size,0,none⟩) hlt1).trans f0,(hW.frozen (p:=⟨w.heap.size,1,none⟩) hlt1).trans f1⟩
  have HS0:=HS.out w1.drew hb1.drew
  clear hp hP1 c10 hw1 hb1 hres hd hlt1
  go_enter Tryz.func51,Tryz.ntmps51
  go_wp2_with (first | rw [<- HW1.out] | fail)
  go_region_held3 (fun W=>(W.cell? ⟨h,21,none⟩=some (.int .i64 o1)/\W.cell? ⟨h,22,none⟩=some (.int .i64 o2)/\W.cell? ⟨h,23,none⟩=some (.string o3)/\W.cell? ⟨h,24,none⟩=some (.bool o4)/\Below w.heap.size w W)) (first | assumption | exact HS0 | exact HS.out _ ((hS2.2.2.2.2.setCell (Nat.le_refl _) _).setCell (Nat.le_refl _) _)) (first | (go_at_call 33;refine HCL.out.mono ?_;rintro e w2 ⟨rfl,hS2,x0,x1,y0,y1⟩))
  have HB9:Hid (Below w.heap.size w ((w2.setCell ⟨w.heap.size,0,none⟩ (.int .i64 o1)).setCell ⟨w.heap.size,1,none⟩ (.int .i64 o2))):=(hS2.2.2.2.2.setCell (Nat.le_refl _) _).setCell (Nat.le_refl _) _
  go_wp2
  exact bodyPost_ret (v:=.tuple #[.agg #[.int .i64 o1,.int .i64 o2],.string o3,.bool o4]) (by simp [results,Tryz.results51,go_sem,x0,x1]) rfl ⟨rfl,HB9.out⟩
 ·rw [if_neg (fun e=>hd e.1)]
  have hne:¬ a.st.word.toList=[100,111,110,101]:=by
   generalize a.st=st at *
   cases st <;> first | exact absurd rfl hd | decide +kernel
  have hbq:(a.st.word.toList==[100,111,110,101])=false:=by
   generalize a.st=st at *
   cases st <;> first | exact absurd rfl hd | decide +kernel
  clear hp hP1 hw1 hb1 hd hlt1 htx
  generalize a.st.word=sw at *
  go_enter Tryz.func51,Tryz.ntmps51
  go_wp2_with (first | rw [<- HW1.out] | fail)
  exact bodyPost_ret (v:=.tuple #[.agg #[.int .i64 0,.int .i64 0],.string ⟨#[]⟩,.bool false]) (by simp [results,Tryz.results51,go_sem,k0,k1]) rfl ⟨rfl,(HB1.out.setCell (Nat.le_refl _) _).setCell (Nat.le_refl _) _⟩
theorem end_cells {a a':MAsk}(P:Plc)(aw:ByteArray)(en:Nat)(hv:Value)(F T:Plc)(asks:ByteArray)(cv:Value)(e1:a'.name=a.name)(e2:a'.key=a.key)(e3:a'.op=a.op):(((((((erCells a P aw en hv F T asks cv).setIfInBounds 20 (.string a'.st.word)).setIfInBounds 21 (.int .i64 a'.obj.1)).setIfInBounds 22 (.int .i64 a'.obj.2.1)).setIfInBounds 23 (.string a'.obj.2.2.1)).setIfInBounds 24 (.bool a'.obj.2.2.2)).setIfInBounds 19 .nilFunc).setIfInBounds 9 (.map none)=erCells a' P aw en (.map none) F T asks .nilFunc:=by
 unfold erCells
 rw [e1,e2,e3]
 generalize a.obj=ob
 generalize a'.obj=ob'
 simp only [List.setIfInBounds_toArray,List.set_cons_zero,List.set_cons_succ]
theorem phkept_any (hp:PEr X w B h S S0 a P F T asks cv aw m D row)(msg:Msg)(ht:a.takes msg=true)(hst:a.st=.keeping)(hv:∀ v ∈ msg.L,VerI64 v)(hf:msg.from_.size<=6000) :
 Calls Tryz.prog 68 #[.pointer (some ⟨h,0,none⟩),.string msg.from_] w fun e w'=>e=.returned (.tuple #[])/\∃ S',PErOf X w' B h S' (if (a.heard msg).from_.length < enoughN a.c then a.heard msg else { a.heard msg with st:=.done })/\Upd S S' w w':=by
 obtain⟨b,hmb,hSb,hbh,hH⟩:=hp.open_ (Or.inr hst)
 subst hmb
 obtain⟨n0,hown0⟩:=hH.own
 have hown:=hown0.tight
 have hsz:Maps.size D<=12:=by
  rw [hH.size]
  obtain⟨⟨_,_,h3⟩,h4,_⟩:=cfgF_fine hp.fine.cfg
  have:=length_le_sub hp.fine.nodup hp.fine.sub
  omega
 have hlt:=hp.lt
 have HNT:=pnote_any msg.from_ none [] 0 hlt (hp.cell 9) hown (by unfold maxLen;omega) (by omega) (Rec.nil _ _) (fun _=>⟨rfl,rfl⟩) (by decide) (fun v hv=>by cases hv)
 have HNU:Hid (Calls Tryz.prog 94 #[.pointer (some ⟨h,0,none⟩),.string msg.from_,.slice none 0 0] w fun e w'=>e=.returned (.tuple #[])/\∃ S1 S01 D' row',PEr X w' B h S1 S01 (a.heard msg) P F T asks cv aw (some b) D' row'/\Upd S S1 w w'):=HNT.mono fun e w' hq=>by
  obtain⟨h1,v',w1,h2,h3,h4⟩:=hq
  exact⟨h1,hp.heard ht hv (fun e=>absurd hst (first_not e).1) (by unfold maxLen;omega) h2 h3 h4⟩
 have HST':Hid ((a.heard msg).st=.keeping):=hst
 have HEC:Hid (enoughN P.c=enoughN a.c):=by show _=_;rw [(hp.here (Or.inr hst)).2.1]
 clear hown hown0 hH HNT hsz hp hv hst ht
 generalize a.heard msg=a' at *
 generalize msg.from_=mf at *
 by_cases hfl:a'.from_.length < enoughN a.c
 ·rw [if_pos hfl]
  go_enter Tryz.func68,Tryz.ntmps68
  go_wp2_with fail
  refine HNU.out.mono ?_
  rintro e w2 ⟨rfl,S1,S01,D',row',hP,hU⟩
  obtain⟨b2,hb2,_,_,hH2⟩:=hP.open_ (Or.inr HST'.out)
  have HFU:=pfull_any (h:=h) (enoughN P.c) hH2 (by rw [hP.cell 9,hb2];rfl) (hP.cell 8)
  have hdf:decide (enoughN P.c<=a'.from_.length)=false:=decide_eq_false (by rw [HEC.out];omega)
  rw [hdf] at HFU
  have HP2:Hid (PEr X w2 B h S1 S01 a' P F T asks cv aw (some b) D' row'):=hP
  have HU2:Hid (Upd S S1 w w2):=hU
  clear hP hU hH2 hdf HNU
  go_wp2_with fail
  refine HFU.mono ?_
  rintro e w3 ⟨rfl,hb3⟩
  have HB3:Hid (Below w2.heap.size w2 w3):=hb3
  clear hb3 HFU
  go_wp2
  go_end0
  exact⟨rfl,S1,⟨_,_,_,_,_,_,_,_,_,_,HP2.out.below HB3.out⟩,HU2.out.trans (Upd.of_below HB3.out)⟩
 ·rw [if_neg hfl]
  go_enter Tryz.func68,Tryz.ntmps68
  go_wp2_with fail
  refine HNU.out.mono ?_
  rintro e w2 ⟨rfl,S1,S01,D',row',hP,hU⟩
  obtain⟨b2,hb2,_,_,hH2⟩:=hP.open_ (Or.inr HST'.out)
  have HFU:=pfull_any (h:=h) (enoughN P.c) hH2 (by rw [hP.cell 9,hb2];rfl) (hP.cell 8)
  have hdf:decide (enoughN P.c<=a'.from_.length)=true:=decide_eq_true (by rw [HEC.out];omega)
  rw [hdf] at HFU
  have HP2:Hid (PEr X w2 B h S1 S01 a' P F T asks cv aw (some b) D' row'):=hP
  have HU2:Hid (Upd S S1 w w2):=hU
  clear hP hU hH2 hdf HNU
  go_wp2_with fail
  refine HFU.mono ?_
  rintro e w3 ⟨rfl,hb3⟩
  have hP3:=HP2.out.below hb3
  have hobj:a'.obj=(a'.tag.1,a'.tag.2,a'.text,true):=if_pos ⟨Or.inl HST'.out,hP3.fine.keep HST'.out⟩
  have c12:w3.cell? ⟨h,21,none⟩=some (.int .i64 a'.obj.1):=hP3.cell 21
  have c13:w3.cell? ⟨h,22,none⟩=some (.int .i64 a'.obj.2.1):=hP3.cell 22
  have c14:w3.cell? ⟨h,23,none⟩=some (.string a'.obj.2.2.1):=hP3.cell 23
  have c15:w3.cell? ⟨h,24,none⟩=some (.bool a'.obj.2.2.2):=hP3.cell 24
  have HEND:=pend_any ⟨#[100,111,110,101]⟩ a'.obj.1 a'.obj.2.1 a'.obj.2.2.1 a'.obj.2.2.2 hP3.blk rfl
  have HENE:Hid (Calls Tryz.prog 67 #[.pointer (some ⟨h,0,none⟩),.string ⟨#[100,111,110,101]⟩,.agg #[.int .i64 a'.obj.1,.int .i64 a'.obj.2.1,.string a'.obj.2.2.1,.bool a'.obj.2.2.2]] w3 fun e w'=>e=.returned (.tuple #[])/\PErOf X w' B h S1 { a' with st:=.done }/\Upd S S1 w w'):=HEND.mono fun e w' hq=>by
   obtain⟨h1,h2⟩:=hq
   have hob2:({ a' with st:=.done }:MAsk).obj=a'.obj:=by rw [hobj];exact if_pos ⟨Or.inr rfl,hP3.fine.keep HST'.out⟩
   refine⟨h1,hP3.ended (cv':=.nilFunc) (a':={ a' with st:=.done }) ?_ rfl rfl rfl (hP3.fine.ended (Or.inl rfl)) (Or.inl rfl),(HU2.out.trans (Upd.of_below hb3)).trans (h2.upd hP3.self (fun k hk=>Or.inl hk))⟩
   rw [<- hob2] at h2
   exact(end_cells (a:=a') (a':={ a' with st:=.done }) P aw _ (.map (some b)) F T asks cv rfl rfl rfl) ▸ h2
  clear hP3 hb3 HFU HEND hobj
  generalize a'.obj=ob at *
  obtain⟨o1,o2,o3,o4⟩:=ob
  dsimp only at *
  go_wp2_with fail
  refine HENE.out.mono ?_
  rintro e w4 ⟨rfl,hP4,hU4⟩
  have HP4:Hid (PErOf X w4 B h S1 { a' with st:=.done }):=hP4
  have HU4:Hid (Upd S S1 w w4):=hU4
  clear hP4 hU4 HENE
  go_wp2
  go_end0
  exact⟨rfl,S1,HP4.out,HU4.out⟩
end Go.Proofs.YtmhoiodfppdlnaaGreatDoor
namespace Go.Proofs.YtmhoiodfppdlnaaGreatDoor
open Go.RowKit
variable {X:TypeId} {w w':World} {B h:Nat} {S S0:Nat->Prop} {a:MAsk} {P F T:Plc} {asks:ByteArray} {cv:Value} {aw:ByteArray} {m:Option Nat} {D:DataW Value} {row:ByteArray->Value}
theorem PlcAt.cfgAt {p:Option Addr}{c:Nat}(h:PlcAt w S0 P)(hv:P.v=.slice p P.c.L.length c):CfgAt w P.c p c:=by
 obtain⟨p',c',h1,h2,h3,h4,_⟩:=h.mem
 rw [hv] at h1
 injection h1 with e1 _ e3
 subst e1 e3
 obtain⟨⟨_,_,hn12⟩,hln,_,hnm,_⟩:=cfgF_fine h.fine
 exact⟨h2,h3,h4,by omega,fun x hx=>by have:=isN_size (hnm x hx);omega,⟨by omega,by omega⟩,by omega,by omega⟩
theorem echoose_any (ad:Nat->Addr)(z:Addr)(hp:PEr X w B h S S0 a P F T asks cv aw m D row)(hst:a.first)(hfl:a.L.flatten.length<=1000)(hE:ErrsQ w ad)(hZ:w.cell? ⟨11,0,none⟩=some (.iface 252 (.pointer (some z)))) :
 ∃ fn caps mp mc,cv=.func (.func fn) #[] caps/\F.v=.slice mp a.c.L.length mc/\(∀ args W,Sem.run Tryz.prog (callFunc fn args) W=.ok (.enter fn args) W)/\∀ W,Below w.heap.size w W->∀ p c,Vss W p (toldP a a.c.L)->Calls Tryz.prog fn (#[.agg #[.int .i64 a.c.n,.int .i64 a.c.k,.slice mp a.c.L.length mc],.slice p (toldP a a.c.L).length c] ++ caps) W fun e w'=>e=.returned (.agg #[.int .i64 a.found_.tag.1,.int .i64 a.found_.tag.2,.string a.found_.text,.bool a.found_.found])/\Below W.heap.size W w':=by
 obtain⟨⟨_,_,hn12⟩,hln,_,hnm,hnd⟩:=cfgF_fine hp.fine.cfg
 have htl:(toldP a a.c.L).length=a.c.L.length:=by unfold toldP;simp
 have hmem:=told_mem hp.fine.both hp.fine.nodup hp.fine.sub
 have hfe:(toldP a a.c.L).flatten=(toldL a.from_ a.L a.c.L).flatten:=toldP_flat a a.c.L
 have hrow:∀ l ∈ toldP a a.c.L,l.length<=1000:=fun l hl=>by
  unfold toldP at hl
  obtain⟨x,_,rfl⟩:=List.mem_map.1 hl
  by_cases hi:inL a.from_ x=true
  ·rw [if_pos hi]
   have hlt:idxN a.from_ x < a.L.length:=by rw [<- hp.fine.both];exact idxN_lt' (inL_iff.1 hi)
   have hm:rowL a x ∈ a.L:=by
    unfold rowL
    rw [List.getD_eq_getElem?_getD,List.getElem?_eq_getElem hlt]
    exact List.getElem_mem hlt
   have:=flat_mem hm
   omega
  ·rw [if_neg hi];decide
 obtain⟨_,hFc,_⟩:=hp.plc.pl1 hst
 obtain⟨mp,mc,hmv,_⟩:=hp.stat.fr.mem
 have hflat:(toldP a a.c.L).flatten.length<=1000:=Nat.le_trans (toldP_le hp.fine.both hp.fine.nodup hnd) hfl
 obtain⟨fn,caps,h1,h2,h3⟩:=hp.stat.ch hst
 refine⟨fn,caps,mp,mc,h1,by rw [hmv,hFc],h2,fun W hW p c hv=>?_⟩
 have hch:chosen a.put a.who a.text a.c (toldP a a.c.L)=.agg #[.int .i64 a.found_.tag.1,.int .i64 a.found_.tag.2,.string a.found_.text,.bool a.found_.found]:=by
  unfold chosen MAsk.found_
  by_cases hput:a.put=true
  ·rw [if_pos hput,if_pos hput,maxN_same hmem]
  ·rw [if_neg hput,if_neg hput,hfe]
 rw [<- hch]
 have hpW:=hp.stat.fr.keep hW.size (fun k hk=>hW.block k (hp.stat.lt k hk))
 have hcW:CfgAt W a.c mp mc:=by
  have:=hpW.cfgAt hmv
  rw [hFc] at this
  exact this
 exact h3 W (fun k hk=>hW.block k (hp.stat.lt k hk)) ad z a.c mp mc p (toldP a a.c.L) c ⟨hcW,hp.fine.cfg,hv,by rw [htl];omega,by omega,hflat,hrow,fun v hv'=>by
  obtain⟨l,hl,hvl⟩:=List.mem_flatten.1 ((hmem v).1 hv')
  exact hp.fine.vers l hl v hvl,hE.below hW,(hW.cell (p:=⟨11,0,none⟩) (lt_cellE hZ)).trans hZ⟩
end Go.Proofs.YtmhoiodfppdlnaaGreatDoor
