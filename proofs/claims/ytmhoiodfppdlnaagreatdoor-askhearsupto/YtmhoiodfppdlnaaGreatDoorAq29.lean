import Derived.Test.YtmhoiodfppdlnaaGreatDoorAq23
import Derived.Test.YtmhoiodfppdlnaaGreatDoorAq15
import Derived.StillTailTactics
import Derived.Deep.CutRange
set_option maxRecDepth 10000
set_option maxHeartbeats 8000000
namespace Go.Proofs.YtmhoiodfppdlnaaGreatDoor
open Go.RowKit
variable {X:TypeId} {w w':World} {B h:Nat} {S S0:Nat->Prop} {a:MAsk} {P F T:Plc} {asks:ByteArray} {cv:Value} {aw:ByteArray} {m:Option Nat} {D:DataW Value} {row:ByteArray->Value}
theorem four_set {w:World}{b:Nat}{v0 v1 v2 v3 u0 u1 u2 u3:Value}(k0:w.cell? ⟨b,0,none⟩=some u0)(k1:w.cell? ⟨b,1,none⟩=some u1)(k2:w.cell? ⟨b,2,none⟩=some u2)(k3:w.cell? ⟨b,3,none⟩=some u3) :
 ((((w.setCell ⟨b,0,none⟩ v0).setCell ⟨b,1,none⟩ v1).setCell ⟨b,2,none⟩ v2).setCell ⟨b,3,none⟩ v3).cell? ⟨b,0,none⟩=some v0/\((((w.setCell ⟨b,0,none⟩ v0).setCell ⟨b,1,none⟩ v1).setCell ⟨b,2,none⟩ v2).setCell ⟨b,3,none⟩ v3).cell? ⟨b,1,none⟩=some v1/\((((w.setCell ⟨b,0,none⟩ v0).setCell ⟨b,1,none⟩ v1).setCell ⟨b,2,none⟩ v2).setCell ⟨b,3,none⟩ v3).cell? ⟨b,2,none⟩=some v2/\((((w.setCell ⟨b,0,none⟩ v0).setCell ⟨b,1,none⟩ v1).setCell ⟨b,2,none⟩ v2).setCell ⟨b,3,none⟩ v3).cell? ⟨b,3,none⟩=some v3:=by
 refine⟨?_,?_,?_,?_⟩ <;> simp [go_sem,k0,k1,k2,k3]
theorem keep_cells {a a':MAsk}(P:Plc)(aw:ByteArray)(en:Nat)(hv:Value)(F T:Plc)(asks:ByteArray)(cv:Value)(mb:Nat)(e1:a'.name=a.name)(e2:a'.key=a.key)(e3:a'.op=a.op):awCells ((((((erCells a P aw en hv F T asks cv).setIfInBounds 20 (.string a'.st.word)).setIfInBounds 21 (.int .i64 a'.obj.1)).setIfInBounds 22 (.int .i64 a'.obj.2.1)).setIfInBounds 23 (.string a'.obj.2.2.1)).setIfInBounds 24 (.bool a'.obj.2.2.2)) T wKept mb=erCells a' T wKept (enoughN T.c) (.map (some mb)) F T asks cv:=by
 unfold awCells erCells
 rw [e1,e2,e3]
 generalize a.obj=ob
 generalize a'.obj=ob'
 simp only [List.setIfInBounds_toArray,List.set_cons_zero,List.set_cons_succ]
theorem phtold_any (ad:Nat->Addr)(hp:PEr X w B h S S0 a P F T asks cv aw m D row)(x:Msg×Lv)(ht:a.takes x.1=true)(hst:a.first)(hL:HasL w x)(hv:∀ v ∈ x.1.L,VerI64 v)(hsm:a.small x.1)(hG:∀ W:World,w.heap.size<=W.heap.size->(∀ k,k < w.heap.size->¬ S k->W.heap[k]?=w.heap[k]?)->ErrsQ W ad/\∃ z,W.cell? ⟨11,0,none⟩=some (.iface 252 (.pointer (some z)))) :
 Calls Tryz.prog 69 #[.pointer (some ⟨h,0,none⟩),.string x.1.from_,.slice x.2.1 x.2.2.1 x.2.2.2] w fun e w'=>(∃ p c,e=.returned (.slice p (tolR (a.heard x.1)).2.length c)/\MsgsN w.heap.size w' p (tolR (a.heard x.1)).2)/\∃ S',PErOf X w' B h S' (tolR (a.heard x.1)).1/\Upd S S' w w':=by
 obtain⟨b,hmb,hSb,hbh,hH⟩:=hp.open_ (Or.inl hst)
 subst hmb
 obtain⟨n0,hown0⟩:=hH.own
 have hown:=hown0.tight
 have hsz:Maps.size D<=12:=by
  rw [hH.size]
  obtain⟨⟨_,_,h3⟩,h4,_⟩:=cfgF_fine hp.fine.cfg
  have:=length_le_sub hp.fine.nodup hp.fine.sub
  omega
 have hlt:=hp.lt
 obtain⟨b1,b2,b3,b4,b5⟩:=bulk_from hsm
 have HNT:=pnote_any x.1.from_ x.2.1 x.1.L x.2.2.2 hlt (hp.cell 9) hown (by unfold maxLen;omega) (by omega) hL.recs hL.empty (by omega) (fun v hv=>by have:=b3 v hv;omega)
 rw [hL.len]
 have HNU:Hid (Calls Tryz.prog 94 #[.pointer (some ⟨h,0,none⟩),.string x.1.from_,.slice x.2.1 x.1.L.length x.2.2.2] w fun e w'=>e=.returned (.tuple #[])/\∃ S1 S01 D' row',PEr X w' B h S1 S01 (a.heard x.1) P F T asks cv aw (some b) D' row'/\Upd S S1 w w'):=HNT.mono fun e w' hq=>by
  obtain⟨h1,v',w1,h2,h3,h4⟩:=hq
  exact⟨h1,hp.heard ht hv (fun _=>rfl) (by unfold maxLen;omega) h2 h3 h4⟩
 have HST':Hid ((a.heard x.1).first):=hst
 have HEC:Hid (enoughN P.c=enoughN (a.heard x.1).c):=by show _=_;rw [(hp.here (Or.inl hst)).2.1];rfl
 have HFL:Hid ((a.heard x.1).L.flatten.length<=1000):=by show _<=_;omega
 have HGG:Hid (∀ W:World,w.heap.size<=W.heap.size->(∀ k,k < w.heap.size->¬ S k->W.heap[k]?=w.heap[k]?)->ErrsQ W ad/\∃ z,W.cell? ⟨11,0,none⟩=some (.iface 252 (.pointer (some z)))):=hG
 clear hown hown0 hH HNT hsz hp hv hst ht hL hsm b1 b2 b3 b4 b5 hG
 generalize a.heard x.1=a' at *
 generalize x.1.from_=mf at *
 generalize x.1.L.length=ln at *
 generalize x.2.1=lp at *
 generalize x.2.2.2=lc at *
 by_cases hfl:a'.from_.length < enoughN a'.c
 ·have HR:Hid (tolR a'=(a',[])):=if_pos hfl
  rw [HR.out]
  go_enter Tryz.func69,Tryz.ntmps69
  go_wp2_with fail
  refine HNU.out.mono ?_
  rintro e w2 ⟨rfl,S1,S01,D',row',hP,hU⟩
  obtain⟨b2,hb2,_,_,hH2⟩:=hP.open_ (Or.inl HST'.out)
  have HFU:=pfull_any (h:=h) (enoughN P.c) hH2 (by rw [hP.cell 9,hb2];rfl) (hP.cell 8)
  have hdf:decide (enoughN P.c<=a'.from_.length)=false:=decide_eq_false (by rw [HEC.out];omega)
  rw [hdf] at HFU
  have HP2:Hid (PEr X w2 B h S1 S01 a' P F T asks cv aw (some b) D' row'):=hP
  have HU2:Hid (Upd S S1 w w2):=hU
  clear hP hU hH2 hdf HNU
  go_wp2_with fail
  refine HFU.mono ?_
  rintro e w3 ⟨rfl,hb3⟩
  have HB3:Hid (Below w2.heap.size w2 w3):=hb3
  clear hb3 HFU
  go_wp2
  go_ret
  exact⟨⟨none,0,rfl,MsgsN.nil _ _⟩,S1,⟨_,_,_,_,_,_,_,_,_,_,HP2.out.below HB3.out⟩,HU2.out.trans (Upd.of_below HB3.out)⟩
 ·go_enter Tryz.func69,Tryz.ntmps69
  go_wp2_with fail
  refine HNU.out.mono ?_
  rintro e w2 ⟨rfl,S1,S01,D',row',hP,hU⟩
  obtain⟨b2,hb2,_,_,hH2⟩:=hP.open_ (Or.inl HST'.out)
  have HFU:=pfull_any (h:=h) (enoughN P.c) hH2 (by rw [hP.cell 9,hb2];rfl) (hP.cell 8)
  have hdf:decide (enoughN P.c<=a'.from_.length)=true:=decide_eq_true (by rw [HEC.out];omega)
  rw [hdf] at HFU
  have HP2:Hid (PEr X w2 B h S1 S01 a' P F T asks cv aw (some b) D' row'):=hP
  have HU2:Hid (Upd S S1 w w2):=hU
  clear hP hU hH2 hdf HNU
  go_wp2_with fail
  refine HFU.mono ?_
  rintro e w3 ⟨rfl,hb3⟩
  have hP3:=HP2.out.below hb3
  have hU3:=HU2.out.trans (Upd.of_below hb3)
  obtain⟨hE3,z,hZ3⟩:=HGG.out w3 hU3.size (fun k hk hs=>hU3.block k hk hs)
  obtain⟨fn,caps,mp,mc,hcv,hFv,hent,hch⟩:=echoose_any ad z hP3 HST'.out HFL.out hE3 hZ3
  subst hcv
  obtain⟨hPF,hFc,hFn,hTc,hTn⟩:=hP3.plc.pl1 HST'.out
  have HP3:Hid (PEr X w3 B h S1 S01 a' P F T asks (.func (.func fn) #[] caps) aw (some b) D' row'):=hP3
  have HU3:Hid (Upd S S1 w w3):=hU3
  obtain⟨LL,hLL⟩:∃ LL,LL=toldP a' a'.c.L:=⟨_,rfl⟩
  obtain⟨cn,ck,cl,hcfg⟩:∃ cn ck cl,cn=a'.c.n/\ck=a'.c.k/\cl=a'.c.L.length:=⟨_,_,_,rfl,rfl,rfl⟩
  rw [<- hLL,<- hcfg.1,<- hcfg.2.1,<- hcfg.2.2] at hch
  obtain⟨f1,f2,f3,f4,hff⟩:∃ f1 f2 f3 f4,f1=a'.found_.tag.1/\f2=a'.found_.tag.2/\f3=a'.found_.text/\f4=a'.found_.found:=⟨_,_,_,_,rfl,rfl,rfl,rfl⟩
  rw [<- hff.1,<- hff.2.1,<- hff.2.2.1,<- hff.2.2.2] at hch
  have HFF:Hid (f1=a'.found_.tag.1/\f2=a'.found_.tag.2/\f3=a'.found_.text/\f4=a'.found_.found):=hff
  have HS:Hid (∀ W:World,Below w3.heap.size w3 W->(W.cell? ⟨h,19,none⟩=some (.func (.func fn) #[] caps)/\W.cell? ⟨h,10,none⟩=some (.int .i64 cn)/\W.cell? ⟨h,11,none⟩=some (.int .i64 ck)/\W.cell? ⟨h,12,none⟩=some (.slice mp cl mc)/\Below w3.heap.size w3 W)):=fun W hW=>⟨(HP3.out.below hW).cell 19,by rw [hcfg.1,<- hFc];exact(HP3.out.below hW).cell 10,by rw [hcfg.2.1,<- hFc];exact(HP3.out.below hW).cell 11,by rw [hcfg.2.2,<- hFv];exact(HP3.out.below hW).cell 12,hW⟩
  have HS0:=HS.out w3.drew (Below.refl _ _).drew
  have HSA:=HS.out (w3.alloc (.cells #[.int .i64 0,.int .i64 0,.string ⟨#[]⟩,.bool false] 80)).drew (((Below.refl _ _).alloc (Nat.le_refl _) _).drew)
  have HTD:∀ W,Below w3.heap.size w3 W->Calls Tryz.prog 96 #[.pointer (some ⟨h,0,none⟩)] W fun e w'=>(∃ p c,e=.returned (.slice p LL.length c)/\Vss w' p LL)/\Below W.heap.size W w':=fun W hW=>by rw [hLL];exact ptold_any (HP3.out.below hW) HST'.out
  have HTA:Hid (Calls Tryz.prog 96 #[.pointer (some ⟨h,0,none⟩)] w3.drew fun e w'=>∃ p c,e=.returned (.slice p LL.length c)/\Hid (Vss w' p LL)/\(w'.cell? ⟨h,19,none⟩=some (.func (.func fn) #[] caps)/\w'.cell? ⟨h,10,none⟩=some (.int .i64 cn)/\w'.cell? ⟨h,11,none⟩=some (.int .i64 ck)/\w'.cell? ⟨h,12,none⟩=some (.slice mp cl mc)/\Below w3.heap.size w3 w')):=(HTD _ (Below.refl _ _).drew).mono fun e w' hq=>by
   obtain⟨⟨p,c,h1,h2⟩,h3⟩:=hq
   exact⟨p,c,h1,h2,HS.out w' ((Below.refl _ w3).drew.trans h3)⟩
  have hOlt:w3.heap.size < (w3.alloc (.cells #[.int .i64 0,.int .i64 0,.string ⟨#[]⟩,.bool false] 80)).drew.heap.size:=by show w3.heap.size < (w3.alloc _).heap.size;simp
  have hObl:(w3.alloc (.cells #[.int .i64 0,.int .i64 0,.string ⟨#[]⟩,.bool false] 80)).drew.heap[w3.heap.size]?=some (.cells #[.int .i64 0,.int .i64 0,.string ⟨#[]⟩,.bool false] 80 (0,0)):=by
   show(w3.heap.push _)[w3.heap.size]?=_
   simp
  have HTB:Hid (Calls Tryz.prog 96 #[.pointer (some ⟨h,0,none⟩)] (w3.alloc (.cells #[.int .i64 0,.int .i64 0,.string ⟨#[]⟩,.bool false] 80)).drew fun e w'=>∃ p c,e=.returned (.slice p LL.length c)/\Hid (Vss w' p LL/\w'.heap[w3.heap.size]?=some (.cells #[.int .i64 0,.int .i64 0,.string ⟨#[]⟩,.bool false] 80 (0,0)))/\(w'.cell? ⟨h,19,none⟩=some (.func (.func fn) #[] caps)/\w'.cell? ⟨h,10,none⟩=some (.int .i64 cn)/\w'.cell? ⟨h,11,none⟩=some (.int .i64 ck)/\w'.cell? ⟨h,12,none⟩=some (.slice mp cl mc)/\Below w3.heap.size w3 w')):=(HTD _ (((Below.refl _ _).alloc (Nat.le_refl _) _).drew)).mono fun e w' hq=>by
   obtain⟨⟨p,c,h1,h2⟩,h3⟩:=hq
   exact⟨p,c,h1,⟨h2,(h3.block _ hOlt).trans hObl⟩,HS.out w' ((((Below.refl _ w3).alloc (Nat.le_refl _) _).drew).trans (h3.mono (Nat.le_of_lt hOlt)))⟩
  have HCA:Hid (∀ W p c,Hid (Vss W p LL)->(W.cell? ⟨h,19,none⟩=some (.func (.func fn) #[] caps)/\W.cell? ⟨h,10,none⟩=some (.int .i64 cn)/\W.cell? ⟨h,11,none⟩=some (.int .i64 ck)/\W.cell? ⟨h,12,none⟩=some (.slice mp cl mc)/\Below w3.heap.size w3 W)->Calls Tryz.prog fn (#[.agg #[.int .i64 cn,.int .i64 ck,.slice mp cl mc],.slice p LL.length c] ++ caps) W fun e w'=>e=.returned (.agg #[.int .i64 f1,.int .i64 f2,.string f3,.bool f4])/\(w'.cell? ⟨h,19,none⟩=some (.func (.func fn) #[] caps)/\w'.cell? ⟨h,10,none⟩=some (.int .i64 cn)/\w'.cell? ⟨h,11,none⟩=some (.int .i64 ck)/\w'.cell? ⟨h,12,none⟩=some (.slice mp cl mc)/\Below w3.heap.size w3 w')):=fun W p c hV hS=>(hch W hS.2.2.2.2 p c hV.out).mono fun e w' hq=>⟨hq.1,HS.out w' (hS.2.2.2.2.trans (hq.2.mono hS.2.2.2.2.size))⟩
  have HCB:Hid (∀ W p c,Hid (Vss W p LL)->(W.cell? ⟨h,19,none⟩=some (.func (.func fn) #[] caps)/\W.cell? ⟨h,10,none⟩=some (.int .i64 cn)/\W.cell? ⟨h,11,none⟩=some (.int .i64 ck)/\W.cell? ⟨h,12,none⟩=some (.slice mp cl mc)/\Below w3.heap.size w3 W)->Calls Tryz.prog fn (#[.agg #[.int .i64 cn,.int .i64 ck,.slice mp cl mc],.slice p LL.length c] ++ caps) (W.alloc (.cells #[.int .i64 0,.int .i64 0,.string ⟨#[]⟩,.bool false] 80)) fun e w'=>e=.returned (.agg #[.int .i64 f1,.int .i64 f2,.string f3,.bool f4])/\(w'.cell? ⟨h,19,none⟩=some (.func (.func fn) #[] caps)/\w'.cell? ⟨h,10,none⟩=some (.int .i64 cn)/\w'.cell? ⟨h,11,none⟩=some (.int .i64 ck)/\w'.cell? ⟨h,12,none⟩=some (.slice mp cl mc)/\Below w3.heap.size w3 w')/\(w'.cell? ⟨W.heap.size,0,none⟩=some (.int .i64 0)/\w'.cell? ⟨W.heap.size,1,none⟩=some (.int .i64 0)/\w'.cell? ⟨W.heap.size,2,none⟩=some (.string ⟨#[]⟩)/\w'.cell? ⟨W.heap.size,3,none⟩=some (.bool false))/\(w'.frozen? ⟨W.heap.size,0,none⟩=false/\w'.frozen? ⟨W.heap.size,1,none⟩=false/\w'.frozen? ⟨W.heap.size,2,none⟩=false/\w'.frozen? ⟨W.heap.size,3,none⟩=false)/\Hid (w3.heap.size<=W.heap.size)):=fun W p c hV hS=>by
   have hba:Below W.heap.size W (W.alloc (.cells #[.int .i64 0,.int .i64 0,.string ⟨#[]⟩,.bool false] 80)):=(Below.refl _ _).alloc (Nat.le_refl _) _
   have hb3a:=hS.2.2.2.2.trans (hba.mono hS.2.2.2.2.size)
   refine(hch _ hb3a p c (hV.out.below hba)).mono fun e w' hq=>?_
   have hbl:w'.heap[W.heap.size]?=some (.cells #[.int .i64 0,.int .i64 0,.string ⟨#[]⟩,.bool false] 80 (0,0)):=(hq.2.block _ (by simp)).trans (by show(W.heap.push _)[W.heap.size]?=_;simp)
   exact⟨hq.1,HS.out w' (hb3a.trans (hq.2.mono hb3a.size)),⟨(blk_cell hbl 0).1,(blk_cell hbl 1).1,(blk_cell hbl 2).1,(blk_cell hbl 3).1⟩,⟨(blk_cell hbl 0).2,(blk_cell hbl 1).2,(blk_cell hbl 2).2,(blk_cell hbl 3).2⟩,hS.2.2.2.2.size⟩
  have HCC:Hid (∀ W p c,Hid (Vss W p LL/\W.heap[w3.heap.size]?=some (.cells #[.int .i64 0,.int .i64 0,.string ⟨#[]⟩,.bool false] 80 (0,0)))->(W.cell? ⟨h,19,none⟩=some (.func (.func fn) #[] caps)/\W.cell? ⟨h,10,none⟩=some (.int .i64 cn)/\W.cell? ⟨h,11,none⟩=some (.int .i64 ck)/\W.cell? ⟨h,12,none⟩=some (.slice mp cl mc)/\Below w3.heap.size w3 W)->Calls Tryz.prog fn (#[.agg #[.int .i64 cn,.int .i64 ck,.slice mp cl mc],.slice p LL.length c] ++ caps) W fun e w'=>e=.returned (.agg #[.int .i64 f1,.int .i64 f2,.string f3,.bool f4])/\(w'.cell? ⟨h,19,none⟩=some (.func (.func fn) #[] caps)/\w'.cell? ⟨h,10,none⟩=some (.int .i64 cn)/\w'.cell? ⟨h,11,none⟩=some (.int .i64 ck)/\w'.cell? ⟨h,12,none⟩=some (.slice mp cl mc)/\Below w3.heap.size w3 w')/\(w'.cell? ⟨w3.heap.size,0,none⟩=some (.int .i64 0)/\w'.cell? ⟨w3.heap.size,1,none⟩=some (.int .i64 0)/\w'.cell? ⟨w3.heap.size,2,none⟩=some (.string ⟨#[]⟩)/\w'.cell? ⟨w3.heap.size,3,none⟩=some (.bool false))/\(w'.frozen? ⟨w3.heap.size,0,none⟩=false/\w'.frozen? ⟨w3.heap.size,1,none⟩=false/\w'.frozen? ⟨w3.heap.size,2,none⟩=false/\w'.frozen? ⟨w3.heap.size,3,none⟩=false)):=fun W p c hV hS=>by
   refine(hch W hS.2.2.2.2 p c hV.out.1).mono fun e w' hq=>?_
   have hlt:w3.heap.size < W.heap.size:=by
    rcases Nat.lt_or_ge w3.heap.size W.heap.size with h' | h'
    ·exact h'
    ·have:=hV.out.2;rw [Array.getElem?_eq_none h'] at this;cases this
   have hbl:=(hq.2.block _ hlt).trans hV.out.2
   exact⟨hq.1,HS.out w' (hS.2.2.2.2.trans (hq.2.mono hS.2.2.2.2.size)),⟨(blk_cell hbl 0).1,(blk_cell hbl 1).1,(blk_cell hbl 2).1,(blk_cell hbl 3).1⟩,(blk_cell hbl 0).2,(blk_cell hbl 1).2,(blk_cell hbl 2).2,(blk_cell hbl 3).2⟩
  clear hb3 HFU hP3 hU3 hE3 hZ3 hch hLL hff HTD hOlt hObl hcfg hFv
  go_wp2
  go_cut [7] from 19 to 32 (fun v W=>∃ ob,v=.pointer (some ⟨ob,0,none⟩)/\(W.cell? ⟨ob,0,none⟩=some (.int .i64 f1)/\W.cell? ⟨ob,1,none⟩=some (.int .i64 f2)/\W.cell? ⟨ob,2,none⟩=some (.string f3)/\W.cell? ⟨ob,3,none⟩=some (.bool f4))/\Below w3.heap.size w3 W/\w3.heap.size<=ob)
  case first =>
   go_region_held3 (fun W=>(W.cell? ⟨h,19,none⟩=some (.func (.func fn) #[] caps)/\W.cell? ⟨h,10,none⟩=some (.int .i64 cn)/\W.cell? ⟨h,11,none⟩=some (.int .i64 ck)/\W.cell? ⟨h,12,none⟩=some (.slice mp cl mc)/\Below w3.heap.size w3 W)) (first | with_reducible assumption | with_reducible exact HS0 | with_reducible exact HSA | (with_reducible exact HS.out _ (hS4.2.2.2.2.alloc hS4.2.2.2.2.size _)) | (with_reducible exact HS.out _ (hS5.2.2.2.2.alloc hS5.2.2.2.2.size _)) | exact HS.out _ ((((hS5.2.2.2.2.setCell (by first | exact Nat.le_refl _ | exact hle5.out) _).setCell (by first | exact Nat.le_refl _ | exact hle5.out) _).setCell (by first | exact Nat.le_refl _ | exact hle5.out) _).setCell (by first | exact Nat.le_refl _ | exact hle5.out) _)) (first | (go_at_call 96;with_reducible refine HTA.out.mono ?_;rintro e w4 ⟨p4,c4,rfl,hV4,hS4⟩) | (go_at_call 96;with_reducible refine HTB.out.mono ?_;rintro e w4 ⟨p4,c4,rfl,hV4,hS4⟩) | (with_reducible refine(HCC.out w4 p4 c4 (by with_reducible assumption) (by with_reducible assumption)).mono ?_;rintro e w5 ⟨rfl,hS5,⟨k0,k1,k2,k3⟩,y0,y1,y2,y3⟩) | (with_reducible refine(HCA.out w4 p4 c4 (by with_reducible assumption) (by with_reducible assumption)).mono ?_;rintro e w5 ⟨rfl,hS5⟩) | (with_reducible refine(HCB.out w4 p4 c4 (by with_reducible assumption) (by with_reducible assumption)).mono ?_;rintro e w5 ⟨rfl,hS5,⟨k0,k1,k2,k3⟩,⟨y0,y1,y2,y3⟩,hle5⟩))
   all_goals (go_wp2_with fail;go_meet)
   all_goals first
    | exact⟨_,rfl,⟨by rw [World.cell?_alloc_at _ _ _ _ rfl];rfl,by rw [World.cell?_alloc_at _ _ _ _ rfl];rfl,by rw [World.cell?_alloc_at _ _ _ _ rfl];rfl,by rw [World.cell?_alloc_at _ _ _ _ rfl];rfl⟩,hS5.2.2.2.2.alloc hS5.2.2.2.2.size _,hS5.2.2.2.2.size⟩
    | exact⟨_,rfl,four_set k0 k1 k2 k3,(((hS5.2.2.2.2.setCell (Nat.le_refl _) _).setCell (Nat.le_refl _) _).setCell (Nat.le_refl _) _).setCell (Nat.le_refl _) _,Nat.le_refl _⟩
    | exact⟨_,rfl,four_set k0 k1 k2 k3,(((hS5.2.2.2.2.setCell hle5.out _).setCell hle5.out _).setCell hle5.out _).setCell hle5.out _,hle5.out⟩
  case rest =>
   obtain⟨ob,rfl,⟨o0,o1,o2,o3⟩,hbc,hob⟩:=hcut
   have hPc:=HP3.out.below hbc
   have hUc:=HU3.out.trans (Upd.of_below hbc)
   obtain⟨e1,e2,e3,e4,e5,e6,e7,e8,e9,e10,_⟩:=found_same a'
   clear HTA HTB HCA HCB HCC HS0 HSA
   cases f4 with
   | false =>
    have hfd:a'.found_.found=false:=HFF.out.2.2.2.symm
    have HR:Hid (tolR a'=({ a'.found_ with st:=.done },[])):=by show _=_;unfold tolR;rw [if_neg hfl,if_pos hfd]
    have hob2:({ a'.found_ with st:=.done }:MAsk).obj=(0,0,⟨#[]⟩,false):=if_neg (fun e=>by have:=e.2;rw [show({ a'.found_ with st:=.done }:MAsk).found=a'.found_.found from rfl,hfd] at this;cases this)
    have HEND:=pend_any ⟨#[100,111,110,101]⟩ 0 0 ⟨#[]⟩ false hPc.blk rfl
    have HENE:Hid (Calls Tryz.prog 67 #[.pointer (some ⟨h,0,none⟩),.string ⟨#[100,111,110,101]⟩,.agg #[.int .i64 0,.int .i64 0,.string ⟨#[]⟩,.bool false]] wc fun e w'=>e=.returned (.tuple #[])/\PErOf X w' B h S1 { a'.found_ with st:=.done }/\Upd S S1 w w'):=HEND.mono fun e w' hq=>by
     obtain⟨h1,h2⟩:=hq
     have hcs:=end_cells (a:=a') (a':={ a'.found_ with st:=.done }) P aw (enoughN P.c) (.map (some b)) F T asks (.func (.func fn) #[] caps) e3 e2 e6
     rw [hob2] at hcs
     exact⟨h1,hPc.ended (cv':=.nilFunc) (a':={ a'.found_ with st:=.done }) (hcs ▸ h2) e1 e7 e4 ((hPc.fine.found HST'.out).ended (Or.inl rfl)) (Or.inl rfl),hUc.trans (h2.upd hPc.self (fun k hk=>Or.inl hk))⟩
    clear hPc hUc hbc hob HEND hob2 hfd e1 e2 e3 e4 e5 e6 e7 e8 e9 e10 HP3 HU3 hPF hFc hFn hTc hTn
    go_wp2_with fail
    refine HENE.out.mono ?_
    rintro e w7 ⟨rfl,hP7,hU7⟩
    have HP7:Hid (PErOf X w7 B h S1 { a'.found_ with st:=.done }):=hP7
    have HU7:Hid (Upd S S1 w w7):=hU7
    clear hP7 hU7 HENE
    go_wp2
    go_ret
    rw [HR.out]
    exact⟨⟨none,0,rfl,MsgsN.nil _ _⟩,S1,HP7.out,HU7.out⟩
   | true =>
    have hfd:a'.found_.found=true:=HFF.out.2.2.2.symm
    have HR:Hid (tolR a'=(a'.found_.keeps,a'.found_.keeps.send wKeep true)):=by show _=_;unfold tolR;rw [if_neg hfl,if_neg (by rw [hfd];decide)]
    obtain⟨s1,s2,s3,s4,s5,hsk,s7,s8,s9,s10⟩:=keeps_same a'.found_
    obtain⟨t1,t2⟩:=found_keeps a'
    have hfk:a'.found_.keeps.found=true:=s9.trans hfd
    have hob2:a'.found_.keeps.obj=(f1,f2,f3,true):=by
     have:a'.found_.keeps.obj=(a'.found_.keeps.tag.1,a'.found_.keeps.tag.2,a'.found_.keeps.text,true):=if_pos ⟨Or.inl hsk,hfk⟩
     rw [this,HFF.out.1,HFF.out.2.1,HFF.out.2.2.1,s10,s4]
    have hW0:ErWr X h _ wc wc:=ErWr.refl hPc.blk
    have hcell:∀ i,i < 25->∃ v,wc.cell? ⟨h,i,none⟩=some v:=fun i hi=>⟨(erCells a' P aw (enoughN P.c) (.map (some b)) F T asks (.func (.func fn) #[] caps))[i]'hi,by rw [(blk_cell hPc.blk i).1];exact Array.getElem?_eq_getElem hi⟩
    obtain⟨v10,c10⟩:=hcell 20 (by decide)
    obtain⟨v12,c12⟩:=hcell 21 (by decide)
    obtain⟨v13,c13⟩:=hcell 22 (by decide)
    obtain⟨v14,c14⟩:=hcell 23 (by decide)
    obtain⟨v15,c15⟩:=hcell 24 (by decide)
    have y10:=(blk_cell hPc.blk 20).2
    have y12:=(blk_cell hPc.blk 21).2
    have y13:=(blk_cell hPc.blk 22).2
    have y14:=(blk_cell hPc.blk 23).2
    have y15:=(blk_cell hPc.blk 24).2
    have hneo:h≠ob:=by have:=HP3.out.lt;omega
    have hneo':ob≠h:=fun e=>hneo e.symm
    obtain⟨tp,tc,hTv,_⟩:=hPc.stat.to_.mem
    obtain⟨w8,hw8⟩:∃ w8,w8=(((((wc.setCell ⟨h,20,none⟩ (.string ⟨#[107,101,101,112,105,110,103]⟩)).setCell ⟨h,21,none⟩ (.int .i64 f1)).setCell ⟨h,22,none⟩ (.int .i64 f2)).setCell ⟨h,23,none⟩ (.string f3)).setCell ⟨h,24,none⟩ (.bool true)).drew:=⟨_,rfl⟩
    have hW8:ErWr X h ((((((erCells a' P aw (enoughN P.c) (.map (some b)) F T asks (.func (.func fn) #[] caps)).setIfInBounds 20 (.string ⟨#[107,101,101,112,105,110,103]⟩)).setIfInBounds 21 (.int .i64 f1)).setIfInBounds 22 (.int .i64 f2)).setIfInBounds 23 (.string f3)).setIfInBounds 24 (.bool true)) wc w8:=by rw [hw8];exact(((((hW0.set 20 _).set 21 _).set 22 _).set 23 _).set 24 _).below (Below.refl _ _).drew
    have x14:w8.cell? ⟨h,14,none⟩=some (.int .i64 T.c.n):=by rw [(blk_cell hW8.blk 14).1];rfl
    have x15:w8.cell? ⟨h,15,none⟩=some (.int .i64 T.c.k):=by rw [(blk_cell hW8.blk 15).1];rfl
    have x16:w8.cell? ⟨h,16,none⟩=some (.slice tp T.c.L.length tc):=by rw [(blk_cell hW8.blk 16).1,<- hTv];rfl
    have x17:w8.cell? ⟨h,17,none⟩=some (.int .i64 T.num):=by rw [(blk_cell hW8.blk 17).1];rfl
    have hb9:Below w8.heap.size w8 w8.drew:=(Below.refl _ _).drew
    have hW9:=hW8.below hb9
    have hUS:∀ W:World,w8.drew.heap.size<=W.heap.size->(∀ k,k < w8.drew.heap.size->k≠h->W.heap[k]?=w8.drew.heap[k]?)->CfgAt W T.c tp tc/\ErrsQ W ad:=fun W hs hk=>by
     have hk':∀ k,k < wc.heap.size->k≠h->W.heap[k]?=wc.heap[k]?:=fun k h1 h2=>(hk k (Nat.lt_of_lt_of_le h1 hW9.size) h2).trans (hW9.oth k h1 h2)
     have hst:=hPc.stat.to_.keep (w':=W) (Nat.le_trans hW9.size hs) (fun k hk0=>hk' k (hPc.stat.lt k hk0) (hPc.s0 k hk0).2.1)
     refine⟨hst.cfgAt hTv,(HGG.out W (Nat.le_trans hUc.size (Nat.le_trans hW9.size hs)) (fun k h1 h2=>?_)).1⟩
     have hkw:W.heap[k]?=wc.heap[k]?:=by
      by_cases e:k=h
      ·have hS1:S1 h:=hPc.self
       subst e
       rcases hUc.new k hS1 with e | e
       ·exact absurd e h2
       ·omega
      ·exact hk' k (Nat.lt_of_lt_of_le h1 hUc.size) e
     exact hkw.trans (hUc.block k h1 h2)
    have HAW:=pawait_any ad T tp tc wKept hW9.blk rfl hPc.stat.to_.fine hTv hUS
    rw [hTv] at HAW
    have HAX:Hid (Calls Tryz.prog 76 #[.pointer (some ⟨h,0,none⟩),.agg #[.int .i64 T.c.n,.int .i64 T.c.k,.slice tp T.c.L.length tc,.int .i64 T.num],.string ⟨#[107,101,112,116]⟩] w8.drew fun e w'=>e=.returned (.tuple #[])/\∃ S2 mb row' D',PEr X w' B h S2 S01 a'.found_.keeps T F T asks (.func (.func fn) #[] caps) wKept (some mb) D' row'/\Upd S S2 w w'):=HAW.mono fun e w' hq=>by
     obtain⟨h1,mb,h5,h2,h3⟩:=hq
     have h4:=hW9.trans h2
     have hcs:=keep_cells (a:=a') (a':=a'.found_.keeps) P aw (enoughN P.c) (.map (some b)) F T asks (.func (.func fn) #[] caps) mb (s1.trans e3) (s2.trans e2) (s3.trans e6)
     rw [hob2,hsk] at hcs
     have hTT:T.c=a'.found_.keeps.c/\T.num=a'.found_.keeps.config:=⟨hTc.trans t1.symm,hTn.trans t2.symm⟩
     have hmv:a'.found_.keeps.moves=a'.moves:=s5.trans e4
     obtain⟨row',D',hK⟩:=hPc.kept (a':=a'.found_.keeps) (cv':=.func (.func fn) #[] caps) (mb:=mb) (hcs ▸ h4) hTT (fun hm0=>by
      rw [hmv] at hm0
      have k1:=(keeps_place a').1
      have k2:=(keeps_place a').2
      rw [hm0,if_neg (by decide)] at k1 k2
      rw [t1,t2,k1,k2]
      exact hPc.plc.beg hm0) hmv ((hPc.fine.found HST'.out).keeps hfd (by rw [<- hTT.1];exact hPc.stat.to_.fine)) hsk s7 (Nat.le_trans hW9.size h5) h3
     exact⟨h1,_,mb,row',D',hK,hUc.trans (h4.upd hPc.self (fun k hk=>by rcases hk with hk | rfl;exact Or.inl hk;exact Or.inr (Nat.le_trans hW9.size h5)))⟩
    have HW8:Hid (w8=(((((wc.setCell ⟨h,20,none⟩ (.string ⟨#[107,101,101,112,105,110,103]⟩)).setCell ⟨h,21,none⟩ (.int .i64 f1)).setCell ⟨h,22,none⟩ (.int .i64 f2)).setCell ⟨h,23,none⟩ (.string f3)).setCell ⟨h,24,none⟩ (.bool true)).drew):=hw8
    have HSK:Hid (a'.found_.keeps.st=.keeping):=hsk
    clear hPc hUc hbc hob HAW hob2 hfd e1 e2 e3 e4 e5 e6 e7 e8 e9 e10 HP3 HU3 hfk hsk hW0 hcell hw8 hW8 hW9 hb9 hUS hTv hPF hFc hFn hTc hTn s1 s2 s3 s4 s5 s7 s8 s9 s10 t1 t2
    go_wp2
    go_region
    rw [<- HW8.out]
    clear c10 c12 c13 c14 c15 y10 y12 y13 y14 y15 o0 o1 o2 o3
    go_wp2
    refine wp_region_still_tail 7 (by kernel_rfl) (by kernel_rfl) ?_
    simp only [List.take_succ_cons,List.take_zero,List.drop_succ_cons,List.drop_zero]
    still_step
    still_step
    still_step
    still_step
    still_step
    still_step
    still_step
    refine wpStill_nil ?_
    go_wp2_with fail
    refine HAX.out.mono ?_
    rintro e w9 ⟨rfl,S2,mb,row9,D9,hP9,hU9⟩
    obtain⟨hE9,z9,hZ9⟩:=HGG.out w9 hU9.size (fun k hk hs=>hU9.block k hk hs)
    have HKP:=pkeep_any hP9 HSK.out z9 hZ9
    have HP9:Hid (PEr X w9 B h S2 S01 a'.found_.keeps T F T asks (.func (.func fn) #[] caps) wKept (some mb) D9 row9):=hP9
    have HU9:Hid (Upd S S2 w w9):=hU9
    clear hP9 hU9 hE9 hZ9 HAX x14 x15 x16 x17
    go_wp2_with fail
    refine HKP.mono ?_
    rintro e w10 ⟨⟨p10,c10,rfl,hm10⟩,hb10⟩
    have HM10:Hid (MsgsN w.heap.size w10 p10 (a'.found_.keeps.send wKeep true)):=hm10.mono HU9.out.size
    have HB10:Hid (Below w9.heap.size w9 w10):=hb10
    clear hm10 hb10 HKP
    go_wp2
    go_ret
    rw [HR.out]
    exact⟨⟨p10,c10,rfl,HM10.out⟩,S2,⟨_,_,_,_,_,_,_,_,_,_,HP9.out.below HB10.out⟩,HU9.out.trans (Upd.of_below HB10.out)⟩
end Go.Proofs.YtmhoiodfppdlnaaGreatDoor
