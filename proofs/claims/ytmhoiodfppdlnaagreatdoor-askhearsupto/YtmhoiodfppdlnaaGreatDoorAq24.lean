import Derived.Test.YtmhoiodfppdlnaaGreatDoorAq18
import Derived.Test.YtmhoiodfppdlnaaGreatDoorAq10
import Derived.Test.YtmhoiodfppdlnaaGreatDoorAq0
import Derived.BigRegion
import Derived.Deep.CutRange
import Derived.StillTailTactics
set_option maxRecDepth 10000
set_option maxHeartbeats 16000000
namespace Go.Proofs.YtmhoiodfppdlnaaGreatDoor
open Go.RowKit
variable {w w':World} {B:Nat} {S:Nat->Prop} {ab:Nat} {a:MAsk} {mv nv fv lv:Value} {vs:List Value}
theorem send_with (h:RAk w B S ab a mv nv fv lv vs)(kind:ByteArray)(n k:Nat)(hcn:a.c.n=(n:Int))(hck:a.c.k=(k:Int))(hk1:1<=k)(hkn:k<=n)(hn:n<=12)(hl0:a.c.L.length=n)(htx:a.text.size<=3000):Calls Tryz.prog 43 #[.pointer (some ⟨ab,0,none⟩),.string kind,.bool true] w fun e w'=>(∃ p c,e=.returned (.slice p (a.send kind true).length c)/\MsgsAt w' p (a.send kind true))/\Below w.heap.size w w':=by
 obtain⟨i1,hi1,hy0,hy1,hyb⟩:=info_parts minfoA
 have HRA:Hid (RAk w B S ab a mv nv fv lv vs):=h
 obtain⟨mp,mc,hmv,hms,hmc,hmn,hmb⟩:=h.mem.at_
 subst hmv
 have hab:ab < w.heap.size:=(h.inB ab h.self).2
 have HALL:Hid (∀ W,Below w.heap.size w W->(W.cell? ⟨ab,0,none⟩=some (.string a.name)/\W.cell? ⟨ab,1,none⟩=some (.string a.key)/\W.cell? ⟨ab,3,none⟩=some (.int .i64 a.op)/\W.cell? ⟨ab,4,none⟩=some (.int .i64 a.config)/\W.cell? ⟨ab,7,none⟩=some (.slice mp a.c.L.length mc))/\(W.cell? ⟨ab,16,none⟩=some (.int .i64 a.tag.1)/\W.cell? ⟨ab,17,none⟩=some (.int .i64 a.tag.2)/\W.cell? ⟨ab,18,none⟩=some (.string a.text))/\Strs W mp a.c.L):=fun W hW=>by
  have hh:=HRA.out.below hW
  exact⟨⟨hh.cell 0,hh.cell 1,hh.cell 3,hh.cell 4,hh.cell 7⟩,⟨hh.cell 16,hh.cell 17,hh.cell 18⟩,hms.below hW⟩
 have c5:w.cell? ⟨ab,5,none⟩=some (.int .i64 (n:Int)):=by rw [<- hcn];exact h.cell 5
 have c6:w.cell? ⟨ab,6,none⟩=some (.int .i64 (k:Int)):=by rw [<- hck];exact h.cell 6
 have c18:w.cell? ⟨ab,18,none⟩=some (.string a.text):=h.cell 18
 have HL0:Hid (a.c.L.length=n):=hl0
 have hl:a.c.L.length<=12:=by omega
 have HSL:Hid ((a.send kind true).length=a.c.L.length):=by show _=_;rw [send_eq,List.length_map,List.length_range]
 have HMS:Hid (∀ i,a.msg kind true i=⟨a.name,txt a.c.L i,kind,a.key,a.op,a.config,false,[⟨a.tag.1,a.tag.2,(a.text.size:Int),(i:Int),encT k a.text i⟩]⟩):=fun i=>by
  have hk:a.c.k.toNat=k:=by rw [hck];rfl
  unfold MAsk.msg MAsk.ver
  rw [hk]
  rfl
 have HSE:Hid (a.send kind true=(List.range a.c.L.length).map (a.msg kind true)):=send_eq a kind true
 have HEC:Hid (∀ W,Below w.heap.size w W->Calls Tryz.prog 65 #[.int .i64 (n:Int),.int .i64 (k:Int),.string a.text] W fun e w'=>(∃ p c,e=.returned (.slice p n c)/\Shs w' p (encL n k a.text))/\Below w.heap.size w w'):=fun W hW=>(rencode_shs n k a.text W hk1 hkn hn htx).mono fun e w' ⟨h1,h2⟩=>⟨h1,hW.trans (h2.mono hW.size)⟩
 rw [HSL.out]
 clear h hms hmb hcn hck hl0
 go_enter Tryz.func43,Tryz.ntmps43
 go_wp2
 refine wp_region_still_tail 14 (by kernel_rfl) (by kernel_rfl) ?_
 simp only [List.take_succ_cons,List.take_zero,List.drop_succ_cons,List.drop_zero]
 still_step
 still_step
 still_step
 still_step
 still_step
 still_step
 still_step
 still_step
 still_step
 still_step
 still_step
 still_step
 still_step
 still_step
 refine wpStill_nil ?_
 have HEC2:=HEC.out w.drew (Below.refl _ _).drew
 clear HEC
 go_wp2_with (go_at_call 65;refine HEC2.mono ?_;rintro e w2 ⟨⟨sp,sc,rfl,hsh⟩,hb2⟩;have c7:=(HALL.out w2 hb2).1.2.2.2.2)
 have HSH:Hid (Shs w2 sp (encL n k a.text)):=hsh
 have HB2:Hid (Below w.heap.size w w2):=hb2
 clear hsh hb2 HEC2 c5 c6 c18
 go_loopw [8,9] (fun v x wr=>∃ i:Nat,i<=a.c.L.length/\x=.int .i64 i/\(∃ ml,ml.map Prod.fst=(List.range i).map (a.msg kind true)/\MsOwn 59 w2.heap.size wr v ml)/\Below w2.heap.size w2 wr) (fun _ x _=>a.c.L.length - (intOf x).toNat)
 case atStart=>exact⟨0,Nat.zero_le _,rfl,⟨[],rfl,OwnR.nil _ _ _,fun x hx=>by cases hx⟩,Below.refl _ _⟩
 case round =>
  obtain⟨i,hi,rfl,⟨ml,hml,hO⟩,hB⟩:=hrel
  obtain⟨w3,rfl⟩:∃ w3,w3=wr:=⟨_,rfl⟩
  obtain⟨pv,cv,rfl,hrc,hcv,hpn,_⟩:=hO.1.form
  have hmll:ml.length=i:=by have:=congrArg List.length hml;simpa using this
  have htl:ml.length<=12:=by omega
  have HML:Hid (ml.map Prod.fst=(List.range i).map (a.msg kind true)):=hml
  have HO:Hid (MsOwn 59 w2.heap.size w3 (.slice pv ml.length cv) ml):=hO
  have HB:Hid (Below w2.heap.size w2 w3):=hB
  have HBW:Hid (Below w.heap.size w w3):=HB2.out.trans (hB.mono HB2.out.size)
  have HRC:Hid (Rec mE w3 pv ml):=hrc
  have HMLL:Hid (ml.length=i):=hmll
  obtain⟨⟨d0,d1,d3,d4,d7⟩,⟨d16,d17,d18⟩,hst⟩:=HALL.out w3 HBW.out
  have hz3:w.heap.size<=w3.heap.size:=HBW.out.size
  clear hO hrc hpn c7 hml hmll
  by_cases hil:i < a.c.L.length
  ·rcases hst with h0 | ⟨b,o,hpp,hblt,hcs⟩
   ·rw [h0] at hil;exact absurd hil (Nat.not_lt_zero _)
   have q1:=hcs i hil
   have hin:i < n:=by rw [<- HL0.out];exact hil
   rcases(HSH.out.below hB) with h0 | ⟨sb,so,hsp,hslt,hss⟩
   ·have:(encL n k a.text).length=0:=by rw [h0];rfl
    rw [encL_length] at this
    omega
   obtain⟨s0,s1⟩:=hss i (by rw [encL_length];exact hin)
   rw [encL_at hin] at s0 s1
   dsimp only at s0 s1
   have HT:Hid ((List.range (i+1)).map (a.msg kind true)=(List.range i).map (a.msg kind true) ++ [a.msg kind true i]):=range_succ_map _ i
   have HMI:Hid (a.msg kind true i=⟨a.name,txt a.c.L i,kind,a.key,a.op,a.config,false,[⟨a.tag.1,a.tag.2,(a.text.size:Int),(i:Int),encT k a.text i⟩]⟩):=HMS.out i
   have hab3:ab < w3.heap.size:=by omega
   subst hpp hsp
   have HST:Hid (a.text.size<=3000):=htx
   clear hcs hB hss HSH HALL HMS HRC HRA HSL
   generalize txt a.c.L i=t at *
   generalize encT k a.text i=et at *
   generalize a.name=nm at *
   generalize a.key=ky at *
   generalize a.op=aop at *
   generalize a.config=acf at *
   generalize a.tag.1=t1 at *
   generalize a.tag.2=t2 at *
   generalize a.text=tx at *
   go_wp2
   go_cut [10] from 27 to 83 (fun v W=>v=.pointer (some ⟨w3.heap.size,0,none⟩)/\W=(w3.alloc (.cells #[.string nm,.string t,.string kind,.string ky,.int .i64 aop,.int .i64 acf,.bool false,.slice none 0 0] 59)).drew)
   case first =>
    go_region
    all_goals (go_wp2_with fail;go_meet)
    all_goals exact⟨rfl,rfl⟩
   case rest =>
    obtain⟨rfl,hwc⟩:=hcut
    obtain⟨w4,rfl⟩:∃ w4,w4=wc:=⟨_,rfl⟩
    have hw4:w4=(w3.alloc (.cells #[.string nm,.string t,.string kind,.string ky,.int .i64 aop,.int .i64 acf,.bool false,.slice none 0 0] 59)).drew:=hwc
    clear hwc
    have hb34:Below w3.heap.size w3 w4:=by rw [hw4];exact((Below.refl _ _).alloc (Nat.le_refl _) _).drew
    have hm4:∀ j u,(#[Value.string nm,.string t,.string kind,.string ky,.int .i64 aop,.int .i64 acf,.bool false,.slice none 0 0])[j]?=some u->w4.cell? ⟨w3.heap.size,j,none⟩=some u:=fun j u hj=>by
     rw [hw4]
     show(w3.alloc _).cell? ⟨w3.heap.size,j,none⟩=some u
     rw [World.cell?_alloc_at _ _ _ _ rfl]
     exact hj
    have hblk4:w4.heap[w3.heap.size]?=some (.cells #[.string nm,.string t,.string kind,.string ky,.int .i64 aop,.int .i64 acf,.bool false,.slice none 0 0] 59 (0,0)):=by
     rw [hw4]
     show(w3.heap.push _)[w3.heap.size]?=_
     simp
    have hf4:∀ j,w4.frozen? ⟨w3.heap.size,j,none⟩=false:=fun j=>by
     rw [hw4]
     show(w3.alloc _).frozen? ⟨w3.heap.size,j,none⟩=false
     exact World.frozen?_alloc_at _ _ _ _ rfl
    have hz34:w4.heap.size=w3.heap.size+1:=by rw [hw4];show(w3.alloc _).heap.size=_;simp
    have m7:=hm4 7 _ rfl
    have mf7:=hf4 7
    have e16:w4.cell? ⟨ab,16,none⟩=some (.int .i64 t1):=(hb34.cell (p:=⟨ab,16,none⟩) hab3).trans d16
    have e17:w4.cell? ⟨ab,17,none⟩=some (.int .i64 t2):=(hb34.cell (p:=⟨ab,17,none⟩) hab3).trans d17
    have e18:w4.cell? ⟨ab,18,none⟩=some (.string tx):=(hb34.cell (p:=⟨ab,18,none⟩) hab3).trans d18
    have z0:w4.cell? ⟨sb,so+i*2,none⟩=some (.int .i64 (i:Int)):=(hb34.cell (p:=⟨sb,so+i*2,none⟩) hslt).trans s0
    have z1:w4.cell? ⟨sb,so+i*2+1,none⟩=some (.string et):=(hb34.cell (p:=⟨sb,so+i*2+1,none⟩) hslt).trans s1
    obtain⟨w5,hw5⟩:∃ w5,w5=((w4.setCell ⟨w3.heap.size,7,none⟩ (.slice (some ⟨w4.heap.size,0,none⟩) 1 1)).alloc (.cells #[.int .i64 t1,.int .i64 t2,.int .i64 (tx.size:Int),.int .i64 (i:Int),.string et] 76)).drew:=⟨_,rfl⟩
    have HZ34:Hid (w4.heap.size=w3.heap.size+1):=hz34
    have HB34:Hid (Below w3.heap.size w3 w4):=hb34
    have HBL4:Hid (w4.heap[w3.heap.size]?=some (.cells #[.string nm,.string t,.string kind,.string ky,.int .i64 aop,.int .i64 acf,.bool false,.slice none 0 0] 59 (0,0))):=hblk4
    have HW5:Hid (w5=((w4.setCell ⟨w3.heap.size,7,none⟩ (.slice (some ⟨w4.heap.size,0,none⟩) 1 1)).alloc (.cells #[.int .i64 t1,.int .i64 t2,.int .i64 (tx.size:Int),.int .i64 (i:Int),.string et] 76)).drew):=hw5
    have hlt34:w3.heap.size < w4.heap.size:=by omega
    have m7':(w4.alloc (.cells #[.int .i64 t1,.int .i64 t2,.int .i64 (tx.size:Int),.int .i64 (i:Int),.string et] 76)).cell? ⟨w3.heap.size,7,none⟩=some (.slice none 0 0):=(Below.cell ((Below.refl w4.heap.size w4).alloc (Nat.le_refl _) _) (p:=⟨w3.heap.size,7,none⟩) hlt34).trans m7
    have mf7':(w4.alloc (.cells #[.int .i64 t1,.int .i64 t2,.int .i64 (tx.size:Int),.int .i64 (i:Int),.string et] 76)).frozen? ⟨w3.heap.size,7,none⟩=false:=(Below.frozen ((Below.refl w4.heap.size w4).alloc (Nat.le_refl _) _) (p:=⟨w3.heap.size,7,none⟩) hlt34).trans mf7
    clear hw4 hw5 hb34 hm4 hf4 hblk4 hz34 d0 d1 d3 d4 d7 d16 d17 d18 s0 s1 q1
    go_wp2
    go_cut [] from 27 to 83 (fun W=>W=w5)
    case first =>
     go_region
     all_goals (go_wp2_with fail;go_meet)
     all_goals (rw [HW5.out])
    case rest =>
     have hwc:=hcut
     obtain⟨w5',rfl⟩:∃ w5',w5'=wc:=⟨_,rfl⟩
     subst hwc
     have hz5:w5'.heap.size=w4.heap.size+1:=by rw [HW5.out];show((w4.setCell _ _).alloc _).heap.size=_;simp [World.setCell]
     have hb35:Below w3.heap.size w3 w5':=by
      rw [HW5.out]
      exact((HB34.out.setCell (Nat.le_refl _) _).alloc (by have:=HB34.out.size;simpa [World.setCell] using this) _).drew
     have hblk5:w5'.heap[w3.heap.size]?=some (.cells #[.string nm,.string t,.string kind,.string ky,.int .i64 aop,.int .i64 acf,.bool false,.slice (some ⟨w4.heap.size,0,none⟩) 1 1] 59 (0,0)):=by
      rw [HW5.out]
      show((w4.setCell _ _).alloc _).heap[w3.heap.size]?=_
      rw [Below.heap_alloc _ _ _ (by simp [World.setCell];have:=HZ34.out;omega)]
      exact(blk_set HBL4.out 7 _).trans rfl
     have hvc5:∀ j u,(verE.enc ⟨t1,t2,(tx.size:Int),(i:Int),et⟩)[j]?=some u->w5'.cell? ⟨w4.heap.size,j,none⟩=some u:=fun j u hj=>by
      rw [HW5.out]
      show((w4.setCell _ _).alloc _).cell? ⟨w4.heap.size,j,none⟩=some u
      rw [World.cell?_alloc_at _ _ _ _ (by simp [World.setCell])]
      simpa [verE,verC] using hj
     have hx5:HasL w5' (⟨nm,t,kind,ky,aop,acf,false,[⟨t1,t2,(tx.size:Int),(i:Int),et⟩]⟩,(some ⟨w4.heap.size,0,none⟩,1,1)):=⟨rfl,Or.inr ⟨w4.heap.size,0,rfl,by omega,fun j x hx jj u hu=>by
      match j,hx with
      | 0,hx =>
       obtain rfl:(⟨t1,t2,(tx.size:Int),(i:Int),et⟩:Ver)=x:=by simpa using hx
       simpa using hvc5 jj u hu⟩,Nat.le_refl _,fun e=>by cases e⟩
     have hc5:∀ j u,(#[.string nm,.string t,.string kind,.string ky,.int .i64 aop,.int .i64 acf,.bool false,.slice (some ⟨w4.heap.size,0,none⟩) 1 1]:Array Value)[j]?=some u->w5'.cell? ⟨w3.heap.size,j,none⟩=some u:=fun j u hj=>by simpa [World.cell?,hblk5] using hj
     have g0:=hc5 0 _ rfl
     have g1:=hc5 1 _ rfl
     have g2:=hc5 2 _ rfl
     have g3:=hc5 3 _ rfl
     have g4:=hc5 4 _ rfl
     have g5:=hc5 5 _ rfl
     have g6:=hc5 6 _ rfl
     have g7:=hc5 7 _ rfl
     obtain⟨w6,hw6⟩:∃ w6,w6=w5'.alloc (.cells #[.string nm,.string t,.string kind,.string ky,.int .i64 aop,.int .i64 acf,.bool false,.slice (some ⟨w4.heap.size,0,none⟩) 1 1] 59):=⟨_,rfl⟩
     have hb56:Below w5'.heap.size w5' w6:=zBe hw6
     have hb36:Below w3.heap.size w3 w6:=hb35.trans (hb56.mono hb35.size)
     have HW6:Hid (w6=w5'.alloc (.cells #[.string nm,.string t,.string kind,.string ky,.int .i64 aop,.int .i64 acf,.bool false,.slice (some ⟨w4.heap.size,0,none⟩) 1 1] 59)):=hw6
     have HO6:Hid (w6.ownsRow w2.heap.size 59 8 (.slice pv ml.length cv) ml.length (recVals mE ml)):=(HO.out.kept hb36).1
     have HC6:Hid (∀ j u,(mE.enc (⟨nm,t,kind,ky,aop,acf,false,[⟨t1,t2,(tx.size:Int),(i:Int),et⟩]⟩,(some ⟨w4.heap.size,0,none⟩,1,1)))[j]?=some u->w6.cell? ((⟨w5'.heap.size,0,none⟩:Addr).add j)=some u):=fun j u hj=>by
      have e:w6.cell? ⟨w5'.heap.size,j,none⟩=some u:=by
       rw [hw6,World.cell?_alloc_at _ _ _ _ rfl]
       simpa [mE,msgC] using hj
      by_cases e0:j=0
      ·subst e0;simpa [Addr.add] using e
      ·simpa [Addr.add,e0] using e
     have HX6:Hid (HasL w6 (⟨nm,t,kind,ky,aop,acf,false,[⟨t1,t2,(tx.size:Int),(i:Int),et⟩]⟩,(some ⟨w4.heap.size,0,none⟩,1,1))):=hx5.below hb56
     have HB36:Hid (Below w3.heap.size w3 w6):=hb36
     have HZ5:Hid (w5'.heap.size=w4.heap.size+1):=hz5
     have HZ6:Hid (w2.heap.size<=w6.heap.size/\w6.heap.size=w5'.heap.size+1):=⟨Nat.le_trans HB.out.size hb36.size,by rw [hw6];simp⟩
     clear hz5 hb35 hblk5 hvc5 hx5 hc5 hw6 hb56 hb36 HW5 HB34 HBL4 m7 mf7 m7' mf7' e16 e17 e18 z0 z1
     go_wp2_with (first | rw [<- HW6.out] | (at_builtin;refine wpList_append_at rfl (.tmp 80) (.tmp 82) 27 rfl w2.heap.size 59 i1 (.agg #[.string ⟨#[]⟩,.string ⟨#[]⟩,.string ⟨#[]⟩,.string ⟨#[]⟩,.int .i64 0,.int .i64 0,.bool false,.slice none 0 0]) 8 112 Tryz.underlying27 hi1 hy0 hy1 hyb rfl (by decide) (.slice pv ml.length cv) ml.length (recVals mE ml) rfl HO6.out ⟨w5'.heap.size,0,none⟩ 1 1 (mE.enc (⟨nm,t,kind,ky,aop,acf,false,[⟨t1,t2,(tx.size:Int),(i:Int),et⟩]⟩,(some ⟨w4.heap.size,0,none⟩,1,1))) rfl rfl HC6.out (mE.one _) (by unfold maxLen;omega) (by omega) HZ6.out.1 (by decide) ?_;intro v7 w7 hO7 hg7 hl7))
     have hO7':OwnR mE 59 w7 w2.heap.size v7 (ml ++ [(⟨nm,t,kind,ky,aop,acf,false,[⟨t1,t2,(tx.size:Int),(i:Int),et⟩]⟩,(some ⟨w4.heap.size,0,none⟩,1,1))]):=by
      unfold OwnR
      rw [recVals_append,recVals_one,List.length_append]
      exact hO7
     have HO7:Hid (MsOwn 59 w2.heap.size w7 v7 (ml ++ [(⟨nm,t,kind,ky,aop,acf,false,[⟨t1,t2,(tx.size:Int),(i:Int),et⟩]⟩,(some ⟨w4.heap.size,0,none⟩,1,1))])):=HO.out.snoc HB.out.size HB36.out HX6.out (fun b' o' e=>by
      have e1:=congrArg Addr.block (Option.some.inj e)
      have:=HZ6.out.2;have:=HZ5.out;have:=HZ34.out
      exact⟨by simp at e1;omega,by simp at e1;omega⟩) hO7' hg7 hl7
     have HB7:Hid (Below w2.heap.size w2 w7):=(HB.out.trans (HB36.out.mono HB.out.size)).grown hg7 (by have:=HB.out.size;have:=HB36.out.size;omega) (fun k' hk'=>(HO.out.1.block hk').1)
     have HME:Hid ((ml ++ [((⟨nm,t,kind,ky,aop,acf,false,[⟨t1,t2,(tx.size:Int),(i:Int),et⟩]⟩:Msg),((some ⟨w4.heap.size,0,none⟩,1,1):Lv))]).map Prod.fst=(List.range (i+1)).map (a.msg kind true)):=by
      show _=_
      rw [List.map_append,HML.out,HT.out,HMI.out]
      rfl
     clear hO7 hO7' hg7 hl7 HO6 HC6 HX6 HW6 g0 g1 g2 g3 g4 g5 g6 g7
     go_wp2
     go_roundw
     case rel=>exact⟨i+1,by omega,by go_num,⟨_,HME.out,HO7.out⟩,HB7.out⟩
     case measure=>simp [intOf];omega
  ·have hie:i=a.c.L.length:=by omega
   obtain⟨p6,c6,hv6,hm6⟩:=HO.out.at_
   have HM6:Hid (MsgsAt w3 p6 (ml.map Prod.fst)):=hm6.at_
   have HV6:Hid (Value.slice pv ml.length cv=.slice p6 ml.length c6):=hv6
   clear hv6 hm6
   go_wp2
   go_ret
   refine⟨⟨p6,c6,?_,?_⟩,HBW.out⟩
   ·rw [HV6.out,HMLL.out,hie]
    rfl
   ·have:=HM6.out
    rw [HML.out,hie,<- HSE.out] at this
    exact this
end Go.Proofs.YtmhoiodfppdlnaaGreatDoor
