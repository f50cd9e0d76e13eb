import Derived.Test.YtghpdhegfnhmkaaGreatDoorS48
import Derived.Test.YtghpdhegfnhmkaaGreatDoorS4
namespace Go.Proofs.YtghpdhegfnhmkaaGreatDoor
open Go.RowKit
theorem ptL_held {key x:ByteArray} {k n:Nat} {lost:List Int} (hp:Nat->Nat):ptL hp (heldL key k x lost n)=(List.range n).map fun i=>some (hp i):=by
 unfold ptL
 rw [heldL_length]
 refine List.map_congr_left fun i hi=>?_
 rw [List.getD_eq_getElem?_getD,heldL_at (List.mem_range.1 hi)]
 rfl
theorem HaAt.look {ad:Nat->Addr} {B:Nat} {wB W:World} {key x:ByteArray} {k n:Nat} {lost:List Int} {q:Option Addr} {m d:Nat} {c:Cfg} {pc:Option Addr} {dc:Nat} (h:HaAt B wB W (heldL key k x lost n) n (.slice q m d)) (hc:CfgAt W c pc dc) (hS:Sent W ad):∃ hp,LookIn W ad (ad 11) c pc dc (heldL key k x lost n) hp q:=by
 obtain ⟨⟨hp,O,hs⟩,_⟩:=h
 exact ⟨hp,hc,hs.ra.atBlock.1,fun i L hi=>⟨_,hs.sh.own i L hi⟩,hS.errsQ,hS.c11⟩
theorem HaAt.len {B:Nat} {wB W:World} {key x:ByteArray} {k n:Nat} {lost:List Int} {q:Option Addr} {m d:Nat} (h:HaAt B wB W (heldL key k x lost n) n (.slice q m d)):m=n:=by
 obtain ⟨⟨hp,O,hs⟩,_⟩:=h
 obtain ⟨p,c,hv,_⟩:=hs.ra.form
 obtain ⟨_,h2,_⟩:=Value.slice.inj hv
 rw [ptL_length,heldL_length] at h2
 exact h2
theorem ha_stand {ad:Nat->Addr} {B:Nat} {wB W:World} {key x:ByteArray} {k n:Nat} {lost:List Int} {q:Option Addr} {m d:Nat} {c:Cfg} {pc:Option Addr} {dc:Nat} (hk:key.size<=maxLen) (h:HaAt B wB W (heldL key k x lost n) n (.slice q m d)) (hc:CfgAt W c pc dc) (hS:Sent W ad) (he:¬ 0 < (lookE c n).1) :
 Calls Tryz.prog 11 #[cfgA c (.slice pc c.L.length dc),.string key,.slice q n d] W fun e w'=>(∃ ev,e=.returned (.tuple #[.int .i64 (standT c n (lookW c (tellL key (heldL key k x lost n))) (missF (lookW c (tellL key (heldL key k x lost n))) (tellL key (heldL key k x lost n)))),ev])/\BareIs ad ev (standE c n (lookW c (tellL key (heldL key k x lost n)))).1)/\Below W.heap.size W w':=by
 obtain ⟨hp,hI⟩:=h.look hc hS
 have h1:=stand_any ad (ad 11) c pc dc key (heldL key k x lost n) hp q d W hk hI
 rw [heldL_length] at h1
 exact h1.mono fun e w' hq=>by
  obtain ⟨⟨ev,g1,_,g3⟩,g4⟩:=hq
  exact ⟨⟨ev,g1,g3 he⟩,g4⟩
theorem ha_mend {ad:Nat->Addr} {B:Nat} {wB W:World} {key x:ByteArray} {k n:Nat} {lost:List Int} {q:Option Addr} {m d:Nat} {c:Cfg} {pc:Option Addr} {dc:Nat} (hk:key.size<=maxLen) (h:HaAt B wB W (heldL key k x lost n) n (.slice q m d)) (hc:CfgAt W c pc dc) (hS:∀ W,Below B wB W->Sent W ad) (he:¬ 0 < (lookE c n).1) (hM:mendOf key c (heldL key k x lost n)=(0,(lostL lost n).length,heldL key k x [] n)) :
 Calls Tryz.prog 14 #[cfgA c (.slice pc c.L.length dc),.string key,.slice q n d] W fun e w'=>e=.returned (.tuple #[.int .i64 (((lostL lost n).length:Nat):Int),.nilIface])/\HaAt B wB w' (heldL key k x [] n) n (.slice q m d):=by
 obtain ⟨⟨hp,O,hs⟩,hlow⟩:=h
 have hSW:=hS W hlow
 have h1:=mend_any ad (ad 11) c pc dc key (heldL key k x lost n) (nones n) hp (fun _=>0) O B q d W hk ⟨hc,hs.ra.atBlock.1,fun i L hi=>⟨_,hs.sh.own i L hi⟩,hSW.errsQ,hSW.c11⟩ hs.sh hs.base (fun b o e=>hs.oa b (hs.ra.atBlock.2 b o e)) (fun O' W2 hU=>(hS W2 (hlow.trans (hU.low hs.base (fun k j e=>(hs.sh.dom k j e).1)))).herrsR) (by rw [heldL_length];exact he)
 rw [heldL_length,hM] at h1
 refine h1.mono fun e w' hq=>?_
 obtain ⟨ev,O',g1,g2,g3,g4⟩:=hq
 have hev:ev=.nilIface:=by
  rcases g2 with ⟨h,_⟩ | ⟨i,_,_,h⟩
  ·exact h
  ·exfalso;dsimp only at h;omega
 subst hev
 refine ⟨g1,⟨hp,O',?_⟩,hlow.trans (g4.low hs.base (fun k j e=>(hs.sh.dom k j e).1))⟩
 have s2:=hs.turn g3 g4
 rw [ptL_held] at s2 ⊢
 exact s2
set_option maxRecDepth 10000 in
set_option maxHeartbeats 16000000 in
theorem repairAll_any (ad:Nat->Addr) (c:Cfg) (p:Option Addr) (cap:Nat) (key text:ByteArray) (lost:List Int) (pl:Option Addr) (cl:Nat) (w:World) (hC:TxsIn w c.L p cap) (hin:CfgIn c) (hkey:key.size<=maxLen) (hS:Ints w pl lost) (hE:∀ W,Below w.heap.size w W->Sent W ad) :
 Calls Tryz.prog 3 #[cfgA c (.slice p c.L.length cap),.string key,.string text,.slice pl lost.length cl] w fun e w'=>e=.returned (.bool true)/\Below w.heap.size w w':=by
 obtain ⟨w1,hw1⟩:∃ w1,w1=w.alloc (.cells #[.int .i64 c.n,.int .i64 c.k,.slice p c.L.length cap] 24):=⟨_,rfl⟩
 have hb1:Below w.heap.size w w1:=by rw [hw1];exact (Below.refl _ _).alloc (Nat.le_refl _) _
 have hx1:CfgBox w1 w.heap.size c (.slice p c.L.length cap):=by rw [hw1];exact cfgBox_made w c _ _
 have HW1:Hid (w1=w.alloc (.cells #[.int .i64 c.n,.int .i64 c.k,.slice p c.L.length cap] 24)):=hw1
 have hlt1:w.heap.size < w1.heap.size:=lt_of_cellE hx1.f0
 have HBOX:Hid (∀ W,Below w1.heap.size w1 W->W.cell? ⟨w.heap.size,0,none⟩=some (.int .i64 c.n)/\W.cell? ⟨w.heap.size,1,none⟩=some (.int .i64 c.k)/\W.cell? ⟨w.heap.size,2,none⟩=some (.slice p c.L.length cap)):=fun W hW=>by
  have h:=hx1.below hW
  exact ⟨h.f0,h.f1,h.f2⟩
 have HLO:Hid (∀ W,Below w1.heap.size w1 W->Below w.heap.size w W):=fun W hW=>hb1.trans (hW.mono hb1.size)
 have HMED:Hid (Calls Tryz.prog 5 #[] w1 fun e w'=>e=.returned (.bool true)/\Below w1.heap.size w1 w'):=mended_any ad (ad 11) w1 (hE w1 hb1).errsQ (hE w1 hb1).c11
 have HLT:Hid (∀ W,Below w1.heap.size w1 W->Calls Tryz.prog 6 #[.slice p c.L.length cap] W fun e w'=>e=.returned (.bool (lngT c.L))/\w'=W):=fun W hW=>wlongTexts_any c.L p cap W hC.len hC.size (hC.strs.below (HLO.out W hW))
 have HNM:Hid (∀ W,key.size<=100->Calls Tryz.prog 7 #[.string key] W fun e w'=>e=.returned (.bool (isN key))/\w'=W):=fun W h=>isName_any key W (by omega)
 have HEB:Hid (∀ W,Below w1.heap.size w1 W->Sent W ad):=fun W hW=>hE W (HLO.out W hW)
 have HCB:Hid (∀ W,Below w1.heap.size w1 W->TxsIn W c.L p cap):=fun W hW=>⟨hC.strs.below (HLO.out W hW),hC.room,hC.empty,hC.len,hC.size⟩
 have HCI:Hid (CfgIn c):=hin
 have HKY:Hid (key.size<=maxLen):=hkey
 have HIN:Hid (∀ W j,Below w1.heap.size w1 W->j < lost.length->∃ b o,pl=some ⟨b,o,none⟩/\W.cell? ⟨b,o+j,none⟩=some (.int .i64 (lost.getD j 0))):=fun W j hW hj=>by
  rcases hS with h | ⟨b,o,hp,hlt,hc⟩
  ·rw [h] at hj;exact absurd hj (Nat.not_lt_zero _)
  ·exact ⟨b,o,hp,((HLO.out W hW).cell (p:=⟨b,o+j,none⟩) hlt).trans (hc j hj)⟩
 have HCF:Hid (∀ W,Below w1.heap.size w1 W->lngT c.L=false->Calls Tryz.prog 8 #[cfgA c (.slice p c.L.length cap)] W fun e w'=>e=.returned (.agg #[.int .i64 (cfgF c).1,.int .i64 (cfgF c).2])/\Below W.heap.size W w'):=fun W hW hlt=>by
  have h:=HCB.out W hW
  have h30:=(lngT_fine hlt).1
  exact rcfg_any c p cap W ⟨h.strs,h.room,h.empty,by omega,fun x hx=>by have:=(lngT_fine hlt).2 x hx;omega,HCI.out⟩
 have HOC:Hid (∀ W,Below w1.heap.size w1 W->lngT c.L=false->Calls Tryz.prog 12 #[cfgA c (.slice p c.L.length cap)] W fun e w'=>(∃ q d,e=.returned (cfgA c (.slice q c.L.length d))/\CfgAt w' c q d)/\Below W.heap.size W w'):=fun W hW hlt=>by
  have h:=HCB.out W hW
  have h30:=(lngT_fine hlt).1
  refine (ownConfig_any c p cap W (by omega) h.strs h.empty).mono fun e w' hq=>?_
  obtain ⟨⟨q,d,h1,h2,h3,h4⟩,h5⟩:=hq
  exact ⟨⟨q,d,h1,h2,h3,h4,by omega,fun x hxx=>by have:=(lngT_fine hlt).2 x hxx;omega,HCI.out⟩,h5⟩
 have HCO:Hid (∀ W ev x,Below w1.heap.size w1 W->BareIs ad ev x->Calls Tryz.prog 13 #[ev,.int .i64 x] W fun e w'=>e=.returned (.bool true)/\Below W.heap.size W w'):=fun W ev x hW he=>coded3_any he W (HEB.out W hW)
 have hcn:=hin.1
 have hck:=hin.2
 by_cases hp0:0 < (cfgF c).1
 ·have HP:Hid (0 < (cfgF c).1):=hp0
  clear hw1 hb1 hx1 hE hS hC hin hkey hp0 HEB HCB HCI HIN HOC HCO
  generalize cfgF c=CF at *
  obtain ⟨cn,ck,CL⟩:=c
  unfold cfgA at *
  dsimp only at *
  go_enter Tryz.func3,Tryz.ntmps3
  go_wp2_with fail
  rw [<- HW1.out]
  refine HMED.out.mono ?_
  rintro e w2 ⟨rfl,hb2⟩
  have HB2:Hid (Below w1.heap.size w1 w2):=hb2
  have HBW2:Hid (Below w.heap.size w w2):=HLO.out w2 hb2
  obtain ⟨f0,f1,f2⟩:=HBOX.out w2 hb2
  have HL2:=HLT.out w2 hb2
  clear hb2 HMED HW1 HLT
  go_wp2_with fail
  refine HL2.mono ?_
  rintro e w2' ⟨rfl,hww⟩
  rw [hww]
  clear hww w2' HL2
  cases hlt:lngT CL with
  | true =>
   go_wp2
   go_ret
   exact ⟨rfl,HBW2.out⟩
  | false =>
   have HLG:Hid (lngT CL=false):=hlt
   clear hlt
   by_cases hk100:100 < key.size
   ·go_wp2
    go_ret
    exact ⟨rfl,HBW2.out⟩
   ·by_cases ht100:100 < text.size
    ·go_wp2
     go_ret
     exact ⟨rfl,HBW2.out⟩
    ·by_cases hl30:30 < lost.length
     ·go_wp2
      go_ret
      exact ⟨rfl,HBW2.out⟩
     ·have HN2:=HNM.out w2 (by omega)
      have HCF2:=HCF.out w2 HB2.out HLG.out
      cases hnm:isN key with
      | false =>
       rw [hnm] at HN2
       go_wp2_with fail
       refine HN2.mono ?_
       rintro e w2' ⟨rfl,hww⟩
       rw [hww]
       clear hww w2' HN2
       go_wp2
       go_ret
       exact ⟨rfl,HBW2.out⟩
      | true =>
       rw [hnm] at HN2
       go_wp2_with fail
       refine HN2.mono ?_
       rintro e w2' ⟨rfl,hww⟩
       rw [hww]
       clear hww w2' HN2 hnm
       go_wp2_with fail
       refine HCF2.mono ?_
       rintro e w3 ⟨rfl,hb3⟩
       have HBW3:Hid (Below w.heap.size w w3):=HLO.out w3 (HB2.out.trans (hb3.mono HB2.out.size))
       have hpos:=HP.out
       have hfd:∀ W,Sem.run Tryz.prog (Instr.field 30 (.agg #[.int .i64 CF.1,.int .i64 CF.2]) 0) W=.ok (.int .i64 CF.1) W:=fun W=>by kernel_rfl
       clear hb3 HCF2 f0 f1 f2
       go_wp2
       go_ret
       exact ⟨rfl,HBW3.out⟩
 ·obtain ⟨hfit,hcL,hf0,_,_⟩:=cfgF_fine hp0
  obtain ⟨n,hn⟩:∃ n:Nat,c.n=(n:Int):=⟨c.n.toNat,by omega⟩
  obtain ⟨k,hk⟩:∃ k:Nat,c.k=(k:Int):=⟨c.k.toNat,by omega⟩
  have hk1:1<=k:=by omega
  have hkn:k<=n:=by omega
  have hn12:n<=12:=by omega
  have hlk:lookE c n=(0,-1):=lookE_fine hp0 hn.symm
  have hlw:∀ lost',lookW c (tellL key (heldL key k text lost' n))=wholeF n k (tellL key (heldL key k text lost' n)):=fun lost'=>by
   have h:=lookW_fine (c:=c) (LL:=tellL key (heldL key k text lost' n)) (by rw [tellL_length,heldL_length,hlk];exact Int.lt_irrefl 0)
   rw [show c.n.toNat=n by omega,show c.k.toNat=k by omega] at h
   exact h
  have hne:¬ 0 < (lookE c n).1:=by rw [hlk];exact Int.lt_irrefl 0
  have HENC:Hid (∀ W,text.size<=100->Calls Tryz.prog 9 #[.int .i64 (n:Int),.int .i64 (k:Int),.string text] W fun e w'=>(∃ p c,e=.returned (.slice p n c)/\∀ j,j < n->∃ b o,p=some ⟨b,o,none⟩/\∀ W,Below w'.heap.size w' W->W.cell? ⟨b,o+j*2,none⟩=some (.int .i64 (j:Int))/\W.cell? ⟨b,o+j*2+1,none⟩=some (.string (encT k text j)))/\Below W.heap.size W w'):=fun W ht=>(rencode_shs n k text W hk1 hkn hn12 (by omega)).mono fun e w' hq=>by
   obtain ⟨⟨q,d,h1,hsh⟩,h2⟩:=hq
   refine ⟨⟨q,d,h1,fun j hj=>?_⟩,h2⟩
   have hl:(encL n k text).length=n:=encL_length _ _ _
   have he:shAt (encL n k text) j=((j:Int),encT k text j):=by
    unfold shAt encL
    rw [List.getD_eq_getElem?_getD,List.getElem?_map,List.getElem?_range hj]
    rfl
   rcases hsh with h0 | ⟨b,o,hp,hlt,hc⟩
   ·rw [h0] at hl;simp at hl;omega
   ·obtain ⟨c1,c2⟩:=hc j (by rw [hl];exact hj)
    rw [he] at c1 c2
    exact ⟨b,o,hp,fun W hW=>⟨(hW.cell (p:=⟨b,o+j*2,none⟩) hlt).trans c1,(hW.cell (p:=⟨b,o+j*2+1,none⟩) hlt).trans c2⟩⟩
  have HST1:Hid (∀ wB W q m d pc dc,text.size<=100->(leftL lost n).length < k->Below w1.heap.size w1 wB->HaAt wB.heap.size wB W (heldL key k text lost n) n (.slice q m d)->CfgAt W c pc dc->Calls Tryz.prog 11 #[cfgA c (.slice pc c.L.length dc),.string key,.slice q n d] W fun e w'=>(∃ ev z,e=.returned (.tuple #[.int .i64 z,ev])/\BareIs ad ev 5)/\Below W.heap.size W w'):=fun wB W q m d pc dc ht hl hB h hc=>(ha_stand HKY.out h hc (HEB.out W (hB.trans (h.2.mono hB.size))) hne).mono fun e w' hq=>by
   obtain ⟨⟨ev,h1,h2⟩,h3⟩:=hq
   rw [hlw,held_none hk1 (by omega) hl] at h2
   have hs:standE c n []=(5,-1):=by unfold standE;rw [if_neg hne,if_pos rfl]
   rw [hs] at h2
   exact ⟨⟨ev,_,h1,h2⟩,h3⟩
  have HMN:Hid (∀ wB W q m d pc dc,text.size<=100->isN key=true->k<=(leftL lost n).length->Below w1.heap.size w1 wB->HaAt wB.heap.size wB W (heldL key k text lost n) n (.slice q m d)->CfgAt W c pc dc->Calls Tryz.prog 14 #[cfgA c (.slice pc c.L.length dc),.string key,.slice q n d] W fun e w'=>e=.returned (.tuple #[.int .i64 (((lostL lost n).length:Nat):Int),.nilIface])/\HaAt wB.heap.size wB w' (heldL key k text [] n) n (.slice q m d)):=fun wB W q m d pc dc ht hnm hl hB h hc=>ha_mend HKY.out h hc (fun W2 hW2=>HEB.out W2 (hB.trans (hW2.mono hB.size))) hne (by
   unfold mendOf
   rw [hlw,held_best hk1 hkn hn12 (by omega) hl,held_miss,held_mended hk1 hn12 (by omega) hnm])
  have HST2:Hid (∀ wB W q m d pc dc,text.size<=100->Below w1.heap.size w1 wB->HaAt wB.heap.size wB W (heldL key k text [] n) n (.slice q m d)->CfgAt W c pc dc->Calls Tryz.prog 11 #[cfgA c (.slice pc c.L.length dc),.string key,.slice q n d] W fun e w'=>e=.returned (.tuple #[.int .i64 ((n:Int) - (k:Int)),.nilIface])/\Below W.heap.size W w'):=fun wB W q m d pc dc ht hB h hc=>(ha_stand HKY.out h hc (HEB.out W (hB.trans (h.2.mono hB.size))) hne).mono fun e w' hq=>by
   obtain ⟨⟨ev,h1,h2⟩,h3⟩:=hq
   have hb:=held_best (key:=key) (lost:=[]) hk1 hkn hn12 (show text.size<=1000 by omega) (by rw [leftL_none];exact hkn)
   have hnn:wholeL n k (1,0) text≠[]:=fun e=>by have:=congrArg List.length e;rw [wholeL_length] at this;simp only [List.length_nil] at this;omega
   have hs:standE c n (wholeL n k (1,0) text)=(0,-1):=by unfold standE;rw [if_neg hne,if_neg hnn]
   rw [hlw,hb,hs] at h2
   have hev:ev=.nilIface:=by
    rcases h2 with ⟨h,_⟩ | ⟨i,_,_,h⟩
    ·exact h
    ·exfalso;dsimp only at h;omega
   subst hev
   rw [hlw,hb,held_miss,lostL_none] at h1
   have ht:standT c n (wholeL n k (1,0) text) []=(n:Int) - (k:Int):=by
    unfold standT
    rw [hs,if_neg (by decide)]
    unfold standN
    rw [hn,hk]
    simp only [List.length_nil]
    omega
   rw [ht] at h1
   exact ⟨h1,h3⟩
  have HNX:Hid (∀ wB W W1 i va,text.size<=100->key.size<=100->isN key=true->i < n->Below w1.heap.size w1 wB->HaAt wB.heap.size wB W (heldL key k text lost i) i va->W1=W.alloc (.cells #[.map none, .bool false] 38) ->
   (lostB lost i=true->∃ q m c W4,(∀ ty,(Builtin.append_ #[34,34] ty #[va,.slice (some ⟨W1.heap.size,0,none⟩) 1 1]).run Tryz.prog (W1.alloc (.cells #[.pointer (some ⟨W.heap.size,0,none⟩)] 35))=.ok (.slice q m c) W4)/\HaAt wB.heap.size wB W4 (heldL key k text lost (i+1)) (i+1) (.slice q m c)) /\
   (lostB lost i=false->Calls Tryz.prog 10 #[.pointer (some ⟨W.heap.size,0,none⟩),.string key,.agg #[.int .i64 1,.int .i64 0,.int .i64 (text.size:Int),.int .i64 (i:Int),.string (encT k text i)]] W1 fun e W3=>e=.returned .nilIface/\Below wB.heap.size wB W3/\∃ q m c W4,(∀ ty,(Builtin.append_ #[34,34] ty #[va,.slice (some ⟨W3.heap.size,0,none⟩) 1 1]).run Tryz.prog (W3.alloc (.cells #[.pointer (some ⟨W.heap.size,0,none⟩)] 35))=.ok (.slice q m c) W4)/\HaAt wB.heap.size wB W4 (heldL key k text lost (i+1)) (i+1) (.slice q m c))):=fun wB W W1 i va ht hk100 hnm hi hB h hW1=>h.next (ad:=ad) (by omega) hnm (by omega) hk1 (by omega) (by omega) (fun W2 hW2=>(HEB.out W2 (hB.trans (hW2.mono hB.size))).herrsR) hW1 W1 (Below.refl _ _)
  have HLL:Hid (∀ i,(lostL lost (i+1)).length=(lostL lost i).length+if lostB lost i then 1 else 0):=fun i=>by
   unfold lostL
   rw [List.range_succ,List.filter_append,List.length_append]
   cases h:lostB lost i with
   | true=>rw [List.filter_cons_of_pos h];rfl
   | false=>rw [List.filter_cons_of_neg (by rw [h];exact Bool.false_ne_true)];rfl
  have HLE:Hid (∀ i,(lostL lost i).length<=i):=fun i=>by have:=left_lost lost i;omega
  have HLF:Hid ((leftL lost n).length+(lostL lost n).length=n):=left_lost lost n
  have HHS:Hid (∀ wB W,HaAt wB.heap.size wB W (heldL key k text lost 0) 0 (.slice none 0 0)=HaAt wB.heap.size wB W [] 0 (.slice none 0 0)):=fun wB W=>rfl
  have HH0:Hid (∀ wB,HaAt wB.heap.size wB wB (heldL key k text lost 0) 0 (.slice none 0 0)):=fun wB=>⟨⟨fun _=>0,fun _=>none,⟨⟨fun i L h=>by simp [heldL] at h,fun i L h=>by simp [nones] at h,fun k j h=>by cases h⟩,OwnR.nil _ _ _,OwnR.nil _ _ _,(fun g h=>by cases h),(fun g h=>by cases h),(fun g h=>by cases h),Nat.le_refl _⟩⟩,Below.refl _ _⟩
  have HF0:Hid (cfgF c=(0,-1)):=hf0
  rw [hn,hk] at HBOX
  clear hw1 hb1 hx1 hE hS hC hin hkey hp0 HEB HCB HCI hlk hlw hne hfit hcL HHS
  generalize cfgF c=CF at *
  obtain ⟨cn,ck,CL⟩:=c
  unfold cfgA at *
  dsimp only at *
  subst hn hk
  have hcf0:=HF0.out
  subst hcf0
  go_enter Tryz.func3,Tryz.ntmps3
  go_wp2_with fail
  rw [<- HW1.out]
  refine HMED.out.mono ?_
  rintro e w2 ⟨rfl,hb2⟩
  have HB2:Hid (Below w1.heap.size w1 w2):=hb2
  have HBW2:Hid (Below w.heap.size w w2):=HLO.out w2 hb2
  obtain ⟨f0,f1,f2⟩:=HBOX.out w2 hb2
  have HL2:=HLT.out w2 hb2
  clear hb2 HMED HW1 HLT
  go_wp2_with fail
  refine HL2.mono ?_
  rintro e w2' ⟨rfl,hww⟩
  rw [hww]
  clear hww w2' HL2
  cases hlt:lngT CL with
  | true =>
   go_wp2
   go_ret
   exact ⟨rfl,HBW2.out⟩
  | false =>
   have HLG:Hid (lngT CL=false):=hlt
   clear hlt
   by_cases hk100:100 < key.size
   ·go_wp2
    go_ret
    exact ⟨rfl,HBW2.out⟩
   ·by_cases ht100:100 < text.size
    ·go_wp2
     go_ret
     exact ⟨rfl,HBW2.out⟩
    ·by_cases hl30:30 < lost.length
     ·go_wp2
      go_ret
      exact ⟨rfl,HBW2.out⟩
     ·have HN2:=HNM.out w2 (by omega)
      have HCF2:=HCF.out w2 HB2.out HLG.out
      have HKS:Hid (key.size<=100):=by show _<=_;omega
      have HTS:Hid (text.size<=100):=by show _<=_;omega
      cases hnm:isN key with
      | false =>
       rw [hnm] at HN2
       go_wp2_with fail
       refine HN2.mono ?_
       rintro e w2' ⟨rfl,hww⟩
       rw [hww]
       clear hww w2' HN2
       go_wp2
       go_ret
       exact ⟨rfl,HBW2.out⟩
      | true =>
       have HNK:Hid (isN key=true):=hnm
       rw [hnm] at HN2
       go_wp2_with fail
       refine HN2.mono ?_
       rintro e w2' ⟨rfl,hww⟩
       rw [hww]
       clear hww w2' HN2 hnm HNM
       go_wp2_with fail
       refine HCF2.mono ?_
       rintro e w3 ⟨rfl,hb3⟩
       have HB3:Hid (Below w1.heap.size w1 w3):=HB2.out.trans (hb3.mono HB2.out.size)
       have hfd:∀ W,Sem.run Tryz.prog (Instr.field 30 (.agg #[.int .i64 0,.int .i64 (-1)]) 0) W=.ok (.int .i64 0) W:=fun W=>by kernel_rfl
       clear hb3 HCF2 f0 f1 f2 HBW2 HB2
       obtain ⟨f0,f1,f2⟩:=HBOX.out w3 HB3.out
       have HEN3:=HENC.out w3 HTS.out
       go_wp2_with fail
       refine HEN3.mono ?_
       rintro e w4 ⟨⟨ps,cs,rfl,hsh⟩,hb4⟩
       have HB4:Hid (Below w1.heap.size w1 w4):=HB3.out.trans (hb4.mono HB3.out.size)
       have HSH:Hid (∀ j,j < n->∃ b o,ps=some ⟨b,o,none⟩/\∀ W,Below w4.heap.size w4 W->W.cell? ⟨b,o+j*2,none⟩=some (.int .i64 (j:Int))/\W.cell? ⟨b,o+j*2+1,none⟩=some (.string (encT k text j))):=hsh
       have hz14:w1.heap.size<=w4.heap.size:=HB4.out.size
       clear hb4 hsh HEN3 f0 f1 f2 hfd HB3
       obtain ⟨D,hD⟩:∃ D:Nat->Value->World->Prop,D=fun i va W=>HaAt w4.heap.size w4 W (heldL key k text lost i) i va:=⟨_,rfl⟩
       have HD0:Hid (D 0 (.slice none 0 0) w4):=by rw [hD];exact HH0.out w4
       have HDB:Hid (∀ i va W,D i va W->Below w1.heap.size w1 W):=fun i va W h=>by rw [hD] at h;exact HB4.out.trans (h.2.mono hz14)
       have HD4:Hid (∀ i va W,D i va W->Below w4.heap.size w4 W):=fun i va W h=>by rw [hD] at h;exact h.2
       have HDA:Hid (∀ i va W W',D i va W->Below W.heap.size W W'->D i va W'):=fun i va W W' h hb=>by rw [hD] at h ⊢;exact h.below hb
       have HDN:Hid (∀ i va W W1,i < n->D i va W->W1=W.alloc (.cells #[.map none, .bool false] 38) ->
        (lostB lost i=true->∃ q m c W4,(∀ ty,(Builtin.append_ #[34,34] ty #[va,.slice (some ⟨W1.heap.size,0,none⟩) 1 1]).run Tryz.prog (W1.alloc (.cells #[.pointer (some ⟨W.heap.size,0,none⟩)] 35))=.ok (.slice q m c) W4)/\D (i+1) (.slice q m c) W4) /\
        (lostB lost i=false->Calls Tryz.prog 10 #[.pointer (some ⟨W.heap.size,0,none⟩),.string key,.agg #[.int .i64 1,.int .i64 0,.int .i64 (text.size:Int),.int .i64 (i:Int),.string (encT k text i)]] W1 fun e W3=>e=.returned .nilIface/\Below w4.heap.size w4 W3/\∃ q m c W4,(∀ ty,(Builtin.append_ #[34,34] ty #[va,.slice (some ⟨W3.heap.size,0,none⟩) 1 1]).run Tryz.prog (W3.alloc (.cells #[.pointer (some ⟨W.heap.size,0,none⟩)] 35))=.ok (.slice q m c) W4)/\D (i+1) (.slice q m c) W4)):=fun i va W W1 hi h hW1=>by
        rw [hD] at h ⊢
        exact HNX.out w4 W W1 i va HTS.out HKS.out HNK.out hi HB4.out h hW1
       have HDE:Hid (∀ q m d W,D n (.slice q m d) W->HaAt w4.heap.size w4 W (heldL key k text lost n) n (.slice q m d)):=fun q m d W h=>by rw [hD] at h;exact h
       have hl00:(lostL lost 0).length=0:=by have:=HLE.out 0;omega
       have hlb:∀ i,lostB lost i=decide ((i:Int) ∈ lost):=fun i=>rfl
       have HLB:Hid (∀ i,lostB lost i=decide ((i:Int) ∈ lost)):=hlb
       clear hD HH0 HNX hlb hk100 ht100
       have hb44:=HD4.out _ _ _ HD0.out
       obtain ⟨f0,f1,f2⟩:=HBOX.out w4 HB4.out
       go_wp2
       clear f0 f1 f2 hb44
       go_loopw [11,12,13] (fun va lf x wr=>∃ i:Nat,i<=n/\x=.int .i64 i/\lf=.int .i64 ((n:Int) - ((lostL lost i).length:Int))/\∃ q m d,va=.slice q m d/\D i va wr) (fun _ _ x _=>n - (intOf x).toNat)
       case atStart=>exact ⟨0,Nat.zero_le _,rfl,by rw [hl00];simp,none,0,0,rfl,HD0.out⟩
       case round =>
        obtain ⟨i,hi,rfl,rfl,q0,m0,d0,rfl,hDi⟩:=hrel
        obtain ⟨w5,rfl⟩:∃ w5,w5=wr:=⟨_,rfl⟩
        have HDI:Hid (D i (.slice q0 m0 d0) w5):=hDi
        obtain ⟨f0,f1,f2⟩:=HBOX.out w5 (HDB.out _ _ _ hDi)
        have hli:=HLE.out i
        clear hDi HD0 hl00
        by_cases hil:i < n
        ·obtain ⟨w6,hw6⟩:∃ w6,w6=w5.alloc (.cells #[.map none, .bool false] 38):=⟨_,rfl⟩
         have HW6:Hid (w6=w5.alloc (.cells #[.map none, .bool false] 38)):=hw6
         have hb6:Below w5.heap.size w5 w6:=by rw [hw6];exact (Below.refl _ _).alloc (Nat.le_refl _) _
         obtain ⟨HY,HN⟩:=HDN.out i _ w5 w6 hil HDI.out hw6
         have HYES:Hid (lostB lost i=true->∃ q m c W4,(∀ ty,(Builtin.append_ #[34,34] ty #[.slice q0 m0 d0,.slice (some ⟨w6.heap.size,0,none⟩) 1 1]).run Tryz.prog (w6.alloc (.cells #[.pointer (some ⟨w5.heap.size,0,none⟩)] 35))=.ok (.slice q m c) W4)/\D (i+1) (.slice q m c) W4):=HY
         have HNO:Hid (lostB lost i=false->Calls Tryz.prog 10 #[.pointer (some ⟨w5.heap.size,0,none⟩),.string key,.agg #[.int .i64 1,.int .i64 0,.int .i64 (text.size:Int),.int .i64 (i:Int),.string (encT k text i)]] w6 fun e W3=>e=.returned .nilIface/\Below w4.heap.size w4 W3/\∃ q m c W4,(∀ ty,(Builtin.append_ #[34,34] ty #[.slice q0 m0 d0,.slice (some ⟨W3.heap.size,0,none⟩) 1 1]).run Tryz.prog (W3.alloc (.cells #[.pointer (some ⟨w5.heap.size,0,none⟩)] 35))=.ok (.slice q m c) W4)/\D (i+1) (.slice q m c) W4):=HN
         have hbw:Below w1.heap.size w1 w5:=HDB.out _ _ _ HDI.out
         have HBW6:Hid (Below w1.heap.size w1 w6):=hbw.trans (hb6.mono hbw.size)
         have hb46:Below w4.heap.size w4 w6:=by have h:=HD4.out _ _ _ HDI.out;exact h.trans (hb6.mono h.size)
         have HB46:Hid (Below w4.heap.size w4 w6):=hb46
         have HTK:Hid (∀ q,q < lost.length->decide ((i:Int) ∈ lost.take (q+1))=(decide ((i:Int) ∈ lost.take q) || decide (lost.getD q 0=(i:Int)))):=fun q hq=>by
          have e:lost.take (q+1)=lost.take q ++ [lost.getD q 0]:=by rw [List.take_succ_eq_append_getElem hq,List.getD_eq_getElem?_getD,List.getElem?_eq_getElem hq];rfl
          rw [e]
          by_cases h1:(i:Int) ∈ lost.take q
          ·rw [decide_eq_true h1,decide_eq_true (List.mem_append_left _ h1)];rfl
          ·rw [decide_eq_false h1]
           by_cases h2:lost.getD q 0=(i:Int)
           ·rw [decide_eq_true h2,decide_eq_true (by rw [<- h2];simp)];rfl
           ·rw [decide_eq_false h2, decide_eq_false (fun h => by
             rcases List.mem_append.1 h with h | h
             ·exact h1 h
             ·simp only [List.mem_singleton] at h;exact h2 h.symm)];rfl
         have HTE:Hid (decide ((i:Int) ∈ lost.take lost.length)=lostB lost i):=by show _=_;rw [List.take_length];exact (HLB.out i).symm
         clear hw6 hb6 HY HN hbw hb46 HDI
         go_wp2
         rw [<- HW6.out]
         clear HW6 f0 f1 f2
         go_loopw [15,16] (fun b x wr=>∃ q:Nat,q<=lost.length/\x=.int .i64 q/\b=.bool (decide ((i:Int) ∈ lost.take q))/\wr=w6) (fun _ x _=>lost.length - (intOf x).toNat)
         case atStart=>exact ⟨0,Nat.zero_le _,rfl,by simp,rfl⟩
         case round =>
          obtain ⟨q,hq,rfl,rfl,hwr⟩:=hrel
          obtain rfl:w6=wr:=hwr.symm
          by_cases hql:q < lost.length
          ·obtain ⟨b,o,rfl,hcl⟩:=HIN.out w6 q HBW6.out hql
           have HT:=HTK.out q hql
           have HT':Hid (decide ((i:Int) ∈ lost.take (q+1))=(decide ((i:Int) ∈ lost.take q) || decide (lost.getD q 0=(i:Int)))):=HT
           clear HT HTK HTE HYES HNO
           generalize decide ((i:Int) ∈ lost.take q)=bb at *
           generalize lost.getD q 0=v at *
           by_cases hv:v=(i:Int)
           ·have HR:Hid (decide ((i:Int) ∈ lost.take (q+1))=true):=by show _=_;rw [HT'.out,decide_eq_true hv,Bool.or_true]
            have hvb:(v==(i:Int))=true:=by rw [hv];simp
            clear HT'
            go_wp2
            go_roundw
            case rel=>exact ⟨q+1,by omega,by go_num,by rw [HR.out],by trivial⟩
            case measure=>simp [intOf];omega
           ·have HR:Hid (decide ((i:Int) ∈ lost.take (q+1))=bb):=by show _=_;rw [HT'.out,decide_eq_false hv,Bool.or_false]
            have hvb:(v==(i:Int))=false:=by rw [beq_eq_false_iff_ne];exact hv
            clear HT'
            go_wp2
            go_roundw
            case rel=>exact ⟨q+1,by omega,by go_num,by rw [HR.out],by trivial⟩
            case measure=>simp [intOf];omega
          ·have hqe:q=lost.length:=by omega
           subst hqe
           rw [HTE.out]
           have HLI:=HLL.out i
           have HLI':Hid ((lostL lost (i+1)).length=(lostL lost i).length+if lostB lost i then 1 else 0):=HLI
           clear HTK HTE HLI
           cases hlb:lostB lost i with
           | true =>
            obtain ⟨q1,m1,d1,w7,a1,hD7⟩:=HYES.out hlb
            have HA1:Hid (∀ ty,(Builtin.append_ #[34,34] ty #[.slice q0 m0 d0,.slice (some ⟨w6.heap.size,0,none⟩) 1 1]).run Tryz.prog (w6.alloc (.cells #[.pointer (some ⟨w5.heap.size,0,none⟩)] 35))=.ok (.slice q1 m1 d1) w7):=a1
            have HD7:Hid (D (i+1) (.slice q1 m1 d1) w7):=hD7
            have HLI2:Hid ((lostL lost (i+1)).length=(lostL lost i).length+1):=by show _=_;rw [HLI'.out,hlb];rfl
            clear HYES HNO a1 hD7 hlb HLI'
            go_wp2_with (at_builtin;refine wpList_append_run rfl (.tmp 100) (.tmp 102) 34 rfl rfl rfl HA1.out ?_)
            go_roundw
            case rel=>exact ⟨i+1,by omega,by go_num,by rw [HLI2.out];congr 1;omega,q1,m1,d1,rfl,HD7.out⟩
            case measure=>simp [intOf];omega
           | false =>
            have HP:=HNO.out hlb
            obtain ⟨bs,os,rfl,hsc⟩:=HSH.out i hil
            obtain ⟨s0,s1⟩:=hsc w6 HB46.out
            have HLI2:Hid ((lostL lost (i+1)).length=(lostL lost i).length):=by show _=_;rw [HLI'.out,hlb];rfl
            clear HYES HNO hlb HLI' hsc
            generalize encT k text i=et at *
            go_wp2_with fail
            refine HP.mono ?_
            rintro e w7 ⟨rfl,hb7,q1,m1,d1,w8,a1,hD8⟩
            have HA1:Hid (∀ ty,(Builtin.append_ #[34,34] ty #[.slice q0 m0 d0,.slice (some ⟨w7.heap.size,0,none⟩) 1 1]).run Tryz.prog (w7.alloc (.cells #[.pointer (some ⟨w5.heap.size,0,none⟩)] 35))=.ok (.slice q1 m1 d1) w8):=a1
            have HD8:Hid (D (i+1) (.slice q1 m1 d1) w8):=hD8
            clear HP a1 hD8 hb7 s0 s1
            go_wp2_with (at_builtin;refine wpList_append_run rfl (.tmp 100) (.tmp 102) 34 rfl rfl rfl HA1.out ?_)
            go_roundw
            case rel=>exact ⟨i+1,by omega,by go_num,by rw [HLI2.out],q1,m1,d1,rfl,HD8.out⟩
            case measure=>simp [intOf];omega
        ·obtain rfl:i=n:=by omega
         have hha:=HDE.out q0 m0 d0 w5 HDI.out
         obtain rfl:=hha.len
         have HHA:Hid (HaAt w4.heap.size w4 w5 (heldL key k text lost m0) m0 (.slice q0 m0 d0)):=hha
         have hbw5:=HDB.out _ _ _ HDI.out
         have HOC5:=HOC.out w5 hbw5 HLG.out
         have hlf:=HLF.out
         have HBW5:Hid (Below w1.heap.size w1 w5):=hbw5
         clear hha hbw5 HDI HDE HDN HDA HDB HD4 HIN HSH HLL HLE HLB hi
         by_cases hlk2:(m0:Int) - ((lostL lost m0).length:Int) < (k:Int)
         ·go_wp2_with fail
          refine HOC5.mono ?_
          rintro e w6 ⟨⟨q6,d6,rfl,hcf⟩,hb6⟩
          have HS6:=HST1.out w4 w6 q0 m0 d0 q6 d6 HTS.out (by omega) HB4.out (HHA.out.below hb6) hcf
          have HBW6:Hid (Below w1.heap.size w1 w6):=HBW5.out.trans (hb6.mono HBW5.out.size)
          clear hb6 hcf HOC5 f0 f1 f2 HHA
          go_wp2_with fail
          refine HS6.mono ?_
          rintro e w7 ⟨⟨ev,z,rfl,hbare⟩,hb7⟩
          have HBW7:Hid (Below w1.heap.size w1 w7):=HBW6.out.trans (hb7.mono HBW6.out.size)
          have HC7:=HCO.out w7 ev 5 HBW7.out hbare
          clear hb7 hbare HS6
          go_wp2_with fail
          refine HC7.mono ?_
          rintro e w8 ⟨rfl,hb8⟩
          have HBW8:Hid (Below w.heap.size w w8):=HLO.out w8 (HBW7.out.trans (hb8.mono HBW7.out.size))
          clear hb8 HC7
          go_wp2
          go_ret
          exact ⟨rfl,HBW8.out⟩
         ·have hv1:IntKind.i64.wrap ((m0:Int) - ((m0:Int) - ((lostL lost m0).length:Int)))=((lostL lost m0).length:Int):=by rw [IntKind.wrap_i64];omega
          have hv2:IntKind.i64.wrap ((m0:Int) - (k:Int))=(m0:Int) - (k:Int):=by rw [IntKind.wrap_i64];omega
          go_wp2_with fail
          refine HOC5.mono ?_
          rintro e w6 ⟨⟨q6,d6,rfl,hcf⟩,hb6⟩
          have HM6:=HMN.out w4 w6 q0 m0 d0 q6 d6 HTS.out HNK.out (by omega) HB4.out (HHA.out.below hb6) hcf
          clear hb6 hcf HOC5 f0 f1 f2 HHA HBW5
          go_wp2_with fail
          refine HM6.mono ?_
          rintro e w7 ⟨rfl,hha7⟩
          have HBW7:Hid (Below w1.heap.size w1 w7):=HB4.out.trans (hha7.2.mono hz14)
          have HHA7:Hid (HaAt w4.heap.size w4 w7 (heldL key k text [] m0) m0 (.slice q0 m0 d0)):=hha7
          have HOC7:=HOC.out w7 HBW7.out HLG.out
          obtain ⟨f0,f1,f2⟩:=HBOX.out w7 HBW7.out
          clear hha7 HM6
          go_wp2_with fail
          refine HOC7.mono ?_
          rintro e w8 ⟨⟨q8,d8,rfl,hcf⟩,hb8⟩
          have HS8:=HST2.out w4 w8 q0 m0 d0 q8 d8 HTS.out HB4.out (HHA7.out.below hb8) hcf
          have HBW8:Hid (Below w1.heap.size w1 w8):=HBW7.out.trans (hb8.mono HBW7.out.size)
          clear hb8 hcf HOC7 f0 f1 f2 HHA7 HBW7
          go_wp2_with fail
          refine HS8.mono ?_
          rintro e w9 ⟨rfl,hb9⟩
          have hbw9:=HBW8.out.trans (hb9.mono HBW8.out.size)
          have HBW9:Hid (Below w.heap.size w w9):=HLO.out w9 hbw9
          obtain ⟨f0,f1,f2⟩:=HBOX.out w9 hbw9
          clear hb9 hbw9 HS8
          go_wp2
          go_ret
          exact ⟨rfl,HBW9.out⟩
end Go.Proofs.YtghpdhegfnhmkaaGreatDoor
