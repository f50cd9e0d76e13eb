import Derived.Test.YtmhoiodfppdlnaaGreatDoorAq19
import Derived.Test.YtmhoiodfppdlnaaGreatDoorAq3
import Derived.Test.YtmhoiodfppdlnaaGreatDoorAq0
import Derived.Test.YtmhoiodfppdlnaaGreatDoorAq18
import Derived.BigQuiet
import Derived.Deep.RegionWith
set_option maxRecDepth 10000
set_option maxHeartbeats 4000000
namespace Go.Proofs.YtmhoiodfppdlnaaGreatDoor
open Go.RowKit
theorem setCell_self {w:World}{b o:Nat}{v:Value}(hc:w.cell? ⟨b,o,none⟩=some v):w.setCell ⟨b,o,none⟩ v=w:=by
 have hh:(w.setCell ⟨b,o,none⟩ v).heap=w.heap:=by
  refine Array.ext (by simp [World.setCell]) fun i h1 h2=>?_
  have hg:(w.setCell ⟨b,o,none⟩ v).heap[i]?=w.heap[i]?:=by
   by_cases e:i=b
   ·subst e
    have hb:w.heap[i]?=some w.heap[i]:=Array.getElem?_eq_getElem h2
    have hf:∀ o',w.heap[i]=o'->(match o' with | .cells c elem frozen=>Obj.cells (c.setIfInBounds o v) elem frozen | o''=>o'')=o':=fun o' ho=>by
     cases o' with
     | cells c t f =>
      have hc':c[o]?=some v:=by
       unfold World.cell? at hc
       simpa [hb,ho] using hc
      have hs:c.setIfInBounds o v=c:=by
       obtain⟨h3,h4⟩:=Array.getElem?_eq_some_iff.1 hc'
       refine Array.ext_getElem? fun j=>?_
       rw [Array.getElem?_setIfInBounds]
       by_cases ej:o=j
       ·subst ej
        rw [if_pos rfl,if_pos h3,hc']
       ·rw [if_neg ej]
      show Obj.cells (c.setIfInBounds o v) t f=_
      rw [hs]
     | _=>rfl
    have:=hf _ rfl
    simp only [World.setCell,Array.getElem?_modify,hb,if_true,Option.map_some]
    exact congrArg some this
   ·exact Below.heap_setCell w _ v i e
  have a1:=Array.getElem?_eq_getElem h1
  have a2:=Array.getElem?_eq_getElem h2
  rw [a1,a2] at hg
  exact Option.some.inj hg
 cases w
 unfold World.setCell at hh ⊢
 simp only at hh ⊢
 rw [hh]
variable {X:TypeId} {w w':World} {B h:Nat} {S S0:Nat->Prop} {a:MAsk} {P F T:Plc} {asks:ByteArray} {cv:Value} {aw:ByteArray} {m:Option Nat} {D:DataW Value} {row:ByteArray->Value}
theorem pfull_any {b:Nat}{F:List ByteArray}(en:Nat)(hd:HeardAt w b F D row)(c9:w.cell? ⟨h,9,none⟩=some (.map (some b)))(c8:w.cell? ⟨h,8,none⟩=some (.int .i64 (en:Int))):Calls Tryz.prog 95 #[.pointer (some ⟨h,0,none⟩)] w fun e w'=>e=.returned (.bool (decide (en<=F.length)))/\Below w.heap.size w w':=by
 have hlen:∀ n ty,(Builtin.len_ #[89] ty #[.map (some b)]).run Tryz.prog (w.drewN n)=.ok (.int .i64 (F.length:Nat)) (w.drewN n):=fun n ty=>(hd.same (w':=w.drewN n) rfl).len ty
 clear hd
 go_enter Tryz.func95,Tryz.ntmps95
 go_wp2
 go_quiet (fail)
 go_wp2
 go_ret
 exact⟨rfl,below_drewN (Below.refl _ _) _⟩
theorem vclone_nil (w:World):Calls Tryz.prog 123 #[.slice none 0 0] w fun e w'=>e=.returned (.slice none 0 0)/\w'=w:=by
 have hn:∀ W,Sem.run Tryz.prog (binOp .eql 55 (.slice none 0 0) (.slice none 0 0)) W=.ok (.bool true) W:=fun W=>by kernel_rfl
 go_enter Tryz.func123,Tryz.ntmps123
 go_wp2
 go_ret
 exact⟨rfl,rfl⟩
theorem vclone_none (ad:Addr)(c:Nat)(w:World):Calls Tryz.prog 123 #[.slice (some ad) 0 c] w fun e w'=>(∃ v',e=.returned v'/\OwnR verE 76 w' w.heap.size v' [])/\Below w.heap.size w w':=by
 have hn:∀ W,Sem.run Tryz.prog (binOp .eql 55 (.slice (some ad) 0 c) (.slice none 0 0)) W=.ok (.bool false) W:=fun W=>by kernel_rfl
 go_enter Tryz.func123,Tryz.ntmps123
 go_wp2
 go_ret
 refine⟨⟨_,rfl,rfl,Or.inr ⟨w.heap.size,0,#[],rfl,Nat.le_refl _,?_,Nat.le_refl _,by unfold maxLen;omega,rfl,rfl⟩⟩,(Below.refl _ _).alloc (Nat.le_refl _) _⟩
 show(w.heap.push _)[w.heap.size]?=_
 simp
theorem vclone_any (q:Option Addr)(l:List Ver)(c:Nat)(w:World)(hr:Rec verE w q l)(hq:q=none->l=[]/\c=0)(hl:l.length<=1000):Calls Tryz.prog 123 #[.slice q l.length c] w fun e w'=>(∃ v',e=.returned v'/\OwnR verE 76 w' w.heap.size v' l)/\Below w.heap.size w w':=by
 cases q with
 | none =>
  obtain⟨h1,h2⟩:=hq rfl
  subst h1 h2
  exact(vclone_nil w).mono fun e w' hp=>⟨⟨_,hp.1,OwnR.nil _ _ _⟩,by rw [hp.2];exact Below.refl _ _⟩
 | some ad =>
  by_cases h0:l=[]
  ·subst h0
   exact(vclone_none ad c w).mono fun e w' hp=>⟨hp.1,hp.2⟩
  ·rcases hr with h1 | ⟨b,o,hp,hlt,hc⟩
   ·exact absurd h1 h0
   obtain rfl:ad=⟨b,o,none⟩:=Option.some.inj hp
   obtain⟨i0,hi0,hz0,hz1,hzb⟩:=info_parts verinfo
   have hcell:∀ j u,(recVals verE l)[j]?=some u->w.cell? ⟨b,o+j,none⟩=some u:=fun j u hj=>by
    have:=Rec.cells (E:=verE) hc j u hj
    by_cases e0:j=0
    ·subst e0;simpa [Addr.add] using this
    ·simpa [Addr.add,e0] using this
   exact(Tryz.slices_Clone i0 _ 5 48 hi0 hz0 hz1 hzb rfl (by decide) (fun W=>by kernel_rfl) b o l.length c (recVals verE l) w (recVals_length verE l) (by unfold maxLen;omega) (by omega) hcell (recVals_one' verE l)).mono fun e w' ⟨v',h1,h2,_,h4⟩=>⟨⟨v',h1,h2⟩,h4⟩
theorem pnote_any {b n:Nat}(frm:ByteArray)(q:Option Addr)(l:List Ver)(c:Nat)(hlt:h < w.heap.size)(c9:w.cell? ⟨h,9,none⟩=some (.map (some b)))(hown:OwnM w b n D)(hn:n < maxLen)(hf:frm.size<=1000000)(hr:Rec verE w q l)(hq:q=none->l=[]/\c=0)(hl:l.length<=1000)(hts:∀ v ∈ l,v.text.size<=1000000) :
 Calls Tryz.prog 94 #[.pointer (some ⟨h,0,none⟩),.string frm,.slice q l.length c] w fun e w'=>e=.returned (.tuple #[])/\∃ v' w1,OwnR verE 76 w1 w.heap.size v' l/\Below w.heap.size w w1/\SetOk w1 w' b D frm v':=by
 have HCL:=vclone_any q l c w hr hq hl
 have HQ:Hid (∀ W,Below w.heap.size w W->W.cell? ⟨h,9,none⟩=some (.map (some b))):=fun W hW=>(hW.cell (p:=⟨h,9,none⟩) hlt).trans c9
 have hblt:b < w.heap.size:=World.ownsMap.lt hown
 have HUP:Hid (∀ W1,Below w.heap.size w W1->∀ v W,Below W1.heap.size W1 W->∃ w',(Instr.mapUpdate 89 (.map (some b)) (.string frm) v).run Tryz.prog W=.ok () w'/\SetOk W1 w' b D frm v):=fun W1 hW1 v W hW=>set_step (hown.same (hW1.block b hblt)) hn (by unfold maxLen;omega) hW
 have HSC:Hid (∀ s:ByteArray,s.size<=1000000->∀ W,Calls Tryz.prog 33 #[.string s] W fun e w'=>e=.returned (.string s)/\Below W.heap.size W w'):=fun s hs W=>sclone_any s W (by omega)
 have HTS:Hid (∀ v ∈ l,v.text.size<=1000000):=hts
 clear hown hr hq hts c9
 go_enter Tryz.func94,Tryz.ntmps94
 go_wp2_with fail
 refine HCL.mono ?_
 rintro e w1 ⟨⟨v1,rfl,hO1⟩,hb1⟩
 obtain⟨p1,c1,hv1,hr1,_,_,_⟩:=hO1.form
 subst hv1
 have HO1:Hid (OwnR verE 76 w1 w.heap.size (.slice p1 l.length c1) l):=hO1
 have HR1:Hid (Rec verE w1 p1 l):=hr1
 have HB1:Hid (Below w.heap.size w w1):=hb1
 clear hO1 hr1 hb1 HCL
 go_wp2
 go_loopw [12] (fun x wr=>∃ i:Nat,i<=l.length/\x=.int .i64 i/\Below w1.heap.size w1 wr) (fun x _=>l.length - (intOf x).toNat)
 case atStart=>exact⟨0,Nat.zero_le _,rfl,Below.refl _ _⟩
 case round =>
  obtain⟨i,hi,rfl,hB⟩:=hrel
  obtain⟨w2,rfl⟩:∃ w2,w2=wr:=⟨_,rfl⟩
  have HB:Hid (Below w1.heap.size w1 w2):=hB
  by_cases hil:i < l.length
  ·obtain⟨vb,vo,hvp,hvlt,v0,v1,v2,v3,v4⟩:=ver_cells (HR1.out.below hB) hil
   have hsz:(verAt l i).text.size<=1000000:=HTS.out _ (List.mem_of_getElem? (verAt_get hil))
   have HSX:=HSC.out _ hsz w2
   obtain⟨g,cap,cur,hgv,hgb,hgh⟩:∃ g cap cur,Value.slice p1 l.length c1=.slice (some ⟨g,0,none⟩) l.length cap/\g < w1.heap.size/\w1.heap[g]?=some (.cells cur 76 (0,0)):=by
    rcases HO1.out.2 with ⟨h1,h2⟩ | ⟨g,cap,cur,h1,h2,h3,_⟩
    ·omega
    ·refine⟨g,cap,cur,h1,?_,h3⟩
     rcases Nat.lt_or_ge g w1.heap.size with h' | h'
     ·exact h'
     ·rw [Array.getElem?_eq_none h'] at h3;cases h3
   have hpe:p1=some ⟨g,0,none⟩:=by injection hgv
   rw [hpe] at hvp
   obtain⟨rfl,rfl⟩:g=vb/\0=vo:=by injection hvp with h1;injection h1 with h2 h3;exact⟨h2,h3⟩
   rw [Nat.zero_add] at v4
   have hfz:∀ W,Below w1.heap.size w1 W->∀ o,W.frozen? ⟨g,o,none⟩=false:=fun W hW o=>by simp [World.frozen?,(hW.block g hgb).trans hgh]
   have HFZ:Hid (∀ W,Below w1.heap.size w1 W->∀ o,W.frozen? ⟨g,o,none⟩=false):=hfz
   subst hpe
   clear hgv hgh v0 v1 v2 v3 hB hvp hfz
   generalize (verAt l i).text=tx at *
   go_wp2_with fail
   refine HSX.mono ?_
   rintro e w3 ⟨rfl,hb3⟩
   have hB3:Below w1.heap.size w1 w3:=HB.out.trans (hb3.mono HB.out.size)
   have HB3:Hid (Below w1.heap.size w1 w3):=hB3
   have k4:w3.cell? ⟨g,i*5+4,none⟩=some (.string tx):=(hb3.cell (p:=⟨g,i*5+4,none⟩) hvlt).trans v4
   have f4:=HFZ.out w3 hB3 (i*5+4)
   have HSF:Hid (w3.setCell ⟨g,i*5+4,none⟩ (.string tx)=w3):=setCell_self k4
   clear hb3 hB3 HSX v4
   go_wp2_with (first | rw [HSF.out] | fail)
   go_roundw
   case rel=>exact⟨i+1,by omega,by go_num,HB3.out⟩
   case measure=>simp [intOf];omega
  ·have hq2:=HQ.out w2 (HB1.out.trans (hB.mono HB1.out.size))
   have HQ2:Hid (∀ W,Below w2.heap.size w2 W->W.cell? ⟨h,9,none⟩=some (.map (some b))):=fun W hW=>(hW.cell (p:=⟨h,9,none⟩) (by have:=HB.out.size;have:=HB1.out.size;show h < w2.heap.size;omega)).trans hq2
   have HUP2:Hid (∀ W,Below w2.heap.size w2 W->∃ w',(Instr.mapUpdate 89 (.map (some b)) (.string frm) (.slice p1 l.length c1)).run Tryz.prog W=.ok () w'/\SetOk w1 w' b D frm (.slice p1 l.length c1)):=fun W hW=>HUP.out w1 HB1.out _ W (HB.out.trans (hW.mono HB.out.size))
   have HSX:=HSC.out _ hf
   have HSY:Hid (∀ W,Calls Tryz.prog 33 #[.string frm] W fun e w'=>e=.returned (.string frm)/\Below W.heap.size W w'):=HSX
   clear hB HUP HSX HSC HQ
   go_wp2
   go_region_with (go_at_call 33;refine(HSY.out _).mono ?_;rintro e w5 ⟨rfl,hb5⟩;have hb6:=below_drew' hb5;have q5:=HQ2.out w5 hb6;obtain⟨w9,hrun9,hset9⟩:=HUP2.out w5 hb6;clear hb5 hb6)
   all_goals
    go_wp2
    go_end0
    exact⟨rfl,_,w1,HO1.out,HB1.out,hset9⟩
theorem ptold_any (hp:PEr X w B h S S0 a P F T asks cv aw m D row)(hst:a.first):Calls Tryz.prog 96 #[.pointer (some ⟨h,0,none⟩)] w fun e w'=>(∃ p c,e=.returned (.slice p (toldP a a.c.L).length c)/\Vss w' p (toldP a a.c.L))/\Below w.heap.size w w':=by
 obtain⟨i0,hi0,hy0,hy1,hyb⟩:=info_parts versinfo
 obtain⟨b,hmb,_,_,hH⟩:=hp.open_ (Or.inl hst)
 subst hmb
 obtain⟨hpl,hpc,_⟩:=hp.here (Or.inl hst)
 obtain⟨mp,mc,hmv,hms,_,_,_⟩:=hpl.mem
 rw [hpc] at hmv hms
 obtain⟨⟨_,_,hn12⟩,hln,_,hnm,_⟩:=cfgF_fine hp.fine.cfg
 have hLl:a.c.L.length<=12:=by omega
 have HSM:Hid (∀ W,Below w.heap.size w W->Strs W mp a.c.L):=fun W hW=>hms.below hW
 have HCE:Hid (∀ W,Below w.heap.size w W->W.cell? ⟨h,9,none⟩=some (.map (some b))):=fun W hW=>(hp.below hW).cell 9
 have c5:w.cell? ⟨h,5,none⟩=some (.slice mp a.c.L.length mc):=by rw [<- hmv];exact hp.cell 5
 have HLK:Hid (∀ i,i < a.c.L.length->∃ q c,(∀ W,Below w.heap.size w W->(Instr.lookup 89 (.map (some b)) (.string (txt a.c.L i)) false).run Tryz.prog W=.ok (.slice q (if inL a.from_ (txt a.c.L i) then rowL a (txt a.c.L i) else []).length c) W)/\Rec verE w q (if inL a.from_ (txt a.c.L i) then rowL a (txt a.c.L i) else [])/\(if inL a.from_ (txt a.c.L i) then rowL a (txt a.c.L i) else []).length<=c/\(q=none->(if inL a.from_ (txt a.c.L i) then rowL a (txt a.c.L i) else [])=[]/\c=0)):=fun i hi=>by
  have hsz:(txt a.c.L i).size<=maxLen:=by
   rw [txt_getElem _ _ hi]
   have:=isN_size (hnm _ (List.getElem_mem hi))
   unfold maxLen
   omega
  have hlk:∀ W,Below w.heap.size w W->_:=fun W hW=>(hH.same (hW.block b (by obtain⟨n,hn⟩:=hH.own;exact World.ownsMap.lt hn))).look hsz
  by_cases hin:inL a.from_ (txt a.c.L i)=true
  ·obtain⟨q,c,h1,h2,h3,h4,_⟩:=hp.stat.rows hst _ (inL_iff.1 hin)
   refine⟨q,c,fun W hW=>?_,?_,?_,?_⟩
   ·rw [hlk W hW,if_pos hin,if_pos hin,h1]
   ·rw [if_pos hin];exact h2
   ·rw [if_pos hin];exact h3
   ·rw [if_pos hin];exact h4
  ·refine⟨none,0,fun W hW=>?_,?_,?_,?_⟩
   ·rw [hlk W hW,if_neg hin,if_neg hin];rfl
   ·rw [if_neg hin];exact Rec.nil _ _
   ·rw [if_neg hin];exact Nat.le_refl _
   ·rw [if_neg hin];exact fun _=>⟨rfl,rfl⟩
 have HTS:Hid (∀ i,i < a.c.L.length->toldP a (a.c.L.take (i+1))=toldP a (a.c.L.take i) ++ [if inL a.from_ (txt a.c.L i) then rowL a (txt a.c.L i) else []]):=fun i hi=>toldP_succ hi
 have HTL:Hid (∀ i,(toldP a (a.c.L.take i)).length<=12):=fun i=>by unfold toldP;rw [List.length_map,List.length_take];omega
 clear hp hms hH hnm hpl hpc hmv
 go_enter Tryz.func96,Tryz.ntmps96
 go_wp2
 go_loopw [3,13] (fun v x wr=>∃ i:Nat,i<=a.c.L.length/\x=.int .i64 i/\(∃ vals,OwnV wr w.heap.size 55 v vals/\VsVals w vals (toldP a (a.c.L.take i)))/\Below w.heap.size w wr) (fun _ x _=>a.c.L.length - (intOf x).toNat)
 case atStart=>exact⟨0,Nat.zero_le _,rfl,⟨[],OwnV.nil _ _ _,rfl,fun i hi=>absurd hi (Nat.not_lt_zero _)⟩,Below.refl _ _⟩
 case round =>
  obtain⟨i,hi,rfl,⟨vals,hO,hvv⟩,hB⟩:=hrel
  obtain⟨w1,rfl⟩:∃ w1,w1=wr:=⟨_,rfl⟩
  obtain⟨v,rfl⟩:∃ v,v=u3:=⟨_,rfl⟩
  have HO:Hid (OwnV w1 w.heap.size 55 v vals):=hO
  have HVV:Hid (VsVals w vals (toldP a (a.c.L.take i))):=hvv
  have HB:Hid (Below w.heap.size w w1):=hB
  have hvl:vals.length<=12:=by rw [hvv.1];exact HTL.out i
  have hz1:w.heap.size<=w1.heap.size:=hB.size
  by_cases hil:i < a.c.L.length
  ·rcases HSM.out w1 hB with h0 | ⟨bs,os,hpp,hblt,hcs⟩
   ·rw [h0] at hil;exact absurd hil (Nat.not_lt_zero _)
   have q1:=hcs i hil
   obtain⟨rq,rc,hlk,hrr,hrl,hrn⟩:=HLK.out i hil
   have HTI:Hid (toldP a (a.c.L.take (i+1))=toldP a (a.c.L.take i) ++ [if inL a.from_ (txt a.c.L i) then rowL a (txt a.c.L i) else []]):=HTS.out i hil
   have d9:=HCE.out w1 hB
   have hlk1:=hlk w1 hB
   have HNV:Hid (VsVals w (vals ++ [.slice rq (if inL a.from_ (txt a.c.L i) then rowL a (txt a.c.L i) else []).length rc]) (toldP a (a.c.L.take i) ++ [if inL a.from_ (txt a.c.L i) then rowL a (txt a.c.L i) else []])):=hvv.snoc hrr hrl hrn
   subst hpp
   clear hcs hlk hrr hrl hrn hO hvv hB HLK HTS
   generalize (if inL a.from_ (txt a.c.L i) then rowL a (txt a.c.L i) else [])=rw_ at *
   generalize txt a.c.L i=t at *
   go_wp2_with (at_builtin;refine wpList_append_val rfl (.tmp 17) (.tmp 24) 44 rfl w.heap.size 55 i0 (.slice none 0 0) 24 Tryz.underlying44 hi0 hy0 rfl hy1 hyb (by decide) v vals rfl (OwnV.kept (row:=none) HO.out ⟨rfl,rfl,rfl,by simp,fun k hk _=>Below.heap_alloc _ _ k hk⟩ (by cases v.ownBlock <;> simp)) ⟨w1.heap.size,0,none⟩ 1 (.slice rq rw_.length rc) rfl rfl (by rw [World.cell?_alloc_at _ _ _ _ rfl];rfl) (by omega) (by simp;omega) ?_;intro v4 w4 hO4 hg4 _)
   have HO4:Hid (OwnV w4 w.heap.size 55 v4 (vals ++ [.slice rq rw_.length rc])):=hO4
   have HB4:Hid (Below w.heap.size w w4):=(HB.out.alloc hz1 _).grown hg4 (by simp;omega) (fun k hk=>(HO.out.block hk).1)
   clear hO4 hg4
   go_wp2
   go_roundw
   case rel=>exact⟨i+1,by omega,by go_num,⟨_,HO4.out,by rw [HTI.out];exact HNV.out⟩,HB4.out⟩
   case measure=>simp [intOf];omega
  ·have hie:a.c.L.take i=a.c.L:=List.take_of_length_le (by omega)
   have HVW:VsVals w vals (toldP a a.c.L):=by rw [hie] at hvv;exact hvv
   obtain⟨pw,cw,hvw,hvss⟩:=HVW.vss hB hO
   subst hvw
   have HVS:Hid (Vss w1 pw (toldP a a.c.L)):=hvss
   clear hie hvss HO HVV HVW hO hvv hB
   go_wp2
   go_ret
   exact⟨⟨pw,cw,rfl,HVS.out⟩,HB.out⟩
end Go.Proofs.YtmhoiodfppdlnaaGreatDoor
