import Derived.Test.YtghpdhegfnhmkaaGreatDoorS34
import Derived.Test.YtghpdhegfnhmkaaGreatDoorS31
import Derived.Deep.QuietTactic
namespace Go.Proofs.YtghpdhegfnhmkaaGreatDoor
open Go.RowKit
theorem tagOk_eq (a b:Int):tagOk a b=tagB a b:=by
 unfold tagOk tagB
 by_cases h1:0<=a <;> by_cases h2:a<=1099511627776 <;> by_cases h3:0<=b <;> by_cases h4:b<=1099511627776 <;> simp [h1,h2,h3,h4]
theorem can_eq (n k:Nat) (v:Ver):canB n k v=(tagOk v.n v.who && fitB n k v.size v.at_ v.text):=by
 rw [tagOk_eq]
 rfl
theorem getD_take_succ {L:List Ver} {j:Nat} (h:j < L.length):L.take (j+1)=L.take j ++ [verAt L j]:=by rw [List.take_add_one,verAt_get h];rfl
def TbOf (w:World) (B b n k:Nat) (L:List Ver):Prop:=∃ D row blk,TbAt w B b n k L D row blk
theorem TbOf.below {w w':World} {B b n k:Nat} {L:List Ver} (h:TbOf w B b n k L) (hb:Below w.heap.size w w'):TbOf w' B b n k L:=by
 obtain ⟨D,row,blk,h⟩:=h
 exact ⟨D,row,blk,h.below hb⟩
theorem TbOf.pass {w:World} {B b n k:Nat} {L:List Ver} {v:Ver} (h:TbOf w B b n k L) (hv:canB n k v=false):TbOf w B b n k (L ++ [v]):=by
 obtain ⟨D,row,blk,h⟩:=h
 exact ⟨D,row,blk,h.pass hv⟩
set_option maxRecDepth 100000 in
theorem TbOf.step {w:World} {B b n k:Nat} {L:List Ver} {v:Ver} (h:TbOf w B b n k L) (hc:canB n k v=true) (ht:TagIn (v.n,v.who)) (hl:L.length<=1000) :
 ∃ (rt:Value) (sz:Int),(∀ W,Below w.heap.size w W->(Instr.lookup 163 (.map (some b)) (.agg #[.int .i64 v.n,.int .i64 v.who]) false).run Tryz.prog W=.ok (.agg #[.int .i64 sz,rt]) W)/\(∀ g,rt.ownBlock=some g->g < w.heap.size) /\
  ∀ W,Below w.heap.size w W->Calls Tryz.prog 103 #[.agg #[.int .i64 sz,rt],.agg #[.int .i64 v.n,.int .i64 v.who,.int .i64 v.size,.int .i64 v.at_,.string v.text]] W fun e w7=>∃ rv w8,e=.returned rv/\W.grownBy w7 rt.ownBlock/\(Instr.mapUpdate 163 (.map (some b)) (.agg #[.int .i64 v.n,.int .i64 v.who]) rv).run Tryz.prog w7=.ok () w8/\Below B W w8/\TbOf w8 B b n k (L ++ [v]):=by
 obtain ⟨D,row,blk,h⟩:=h
 have hle:=shOf_le (n:=n) (k:=k) (t:=(v.n,v.who)) L L.length
 rw [List.take_length] at hle
 have hstep:=with_step (shOf_size (n:=n) (k:=k) (t:=(v.n,v.who)) L) (v:=v) (⟨rfl,rfl,hc⟩:v.n=((v.n,v.who):Int×Int).1/\v.who=((v.n,v.who):Int×Int).2/\canB n k v=true)
 refine ⟨row (v.n,v.who),sizeT (shOf n k (v.n,v.who) L),fun W hW=>(h.below hW).look ht,fun g hg=>(World.ownsRow.lt (h.own _ ht) g hg).2,fun W hW=>?_⟩
 have hW':=h.below hW
 have hB:B<=W.heap.size:=Nat.le_trans h.inB (Nat.le_of_lt hW'.lt)
 refine (with_any (sizeT (shOf n k (v.n,v.who) L)) (shOf n k (v.n,v.who) L).2 (row (v.n,v.who)) v B W (by omega) (hW'.own _ ht) hB).mono ?_
 rintro e w7 ⟨row',rfl,hO,hg,hloc,hf⟩
 obtain ⟨w8,hrun,hb8,D',r',b',hT⟩:=hW'.put hc ht hB hstep.symm hg hO hloc hf (by omega)
 exact ⟨_,w8,rfl,hg,hrun,hb8,D',r',b',hT⟩
set_option maxRecDepth 10000 in
set_option maxHeartbeats 8000000 in
theorem byTag_any (n k:Nat) (p0:Option Addr) (l0 c0:Nat) (p:Option Addr) (LL:List (List Ver)) (cap:Nat) (w:World) (hk1:1<=k) (hkn:k<=n) (hn:n<=12) (hl:LL.length<=1000) (hl2:LL.flatten.length<=1000) (hL:Vss w p LL) (hin:∀ v ∈ LL.flatten,TagIn (v.n,v.who)) :
 Calls Tryz.prog 92 #[.agg #[.int .i64 (n:Int),.int .i64 (k:Int),.slice p0 l0 c0],.slice p LL.length cap] w fun e w'=>(∃ b,e=.returned (.map (some b))/\TbOf w' (w.heap.size+1) b n k LL.flatten)/\Below w.heap.size w w':=by
 obtain ⟨w0,hw0⟩:∃ w0,w0=w.alloc (.cells #[.int .i64 (n:Int),.int .i64 (k:Int),.slice p0 l0 c0] 24):=⟨_,rfl⟩
 have e0:w0.heap.size=w.heap.size+1:=by rw [hw0];simp
 have hb0:Below w.heap.size w w0:=by rw [hw0];exact (Below.refl _ _).alloc (Nat.le_refl _) _
 have f0:w0.cell? ⟨w.heap.size,0,none⟩=some (.int .i64 (n:Int)):=by rw [hw0,World.cell?_alloc_at _ _ _ _ rfl];rfl
 have f1:w0.cell? ⟨w.heap.size,1,none⟩=some (.int .i64 (k:Int)):=by rw [hw0,World.cell?_alloc_at _ _ _ _ rfl];rfl
 obtain ⟨w1,hw1⟩:∃ w1,w1=w0.alloc (.map #[] 0):=⟨_,rfl⟩
 have HT1:Hid (TbOf w1 w0.heap.size w0.heap.size n k []):=by show TbOf _ _ _ _ _ _;rw [hw1];exact ⟨_,_,_,tb_made w0 n k⟩
 have hb1:Below w0.heap.size w0 w1:=by rw [hw1];exact (Below.refl _ _).alloc (Nat.le_refl _) _
 have HB1:Hid (Below w0.heap.size w0 w1):=hb1
 have HW0:Hid (w0=w.alloc (.cells #[.int .i64 (n:Int),.int .i64 (k:Int),.slice p0 l0 c0] 24)):=hw0
 have HALL:Hid (∀ W,Below w0.heap.size w0 W->W.cell? ⟨w.heap.size,0,none⟩=some (.int .i64 (n:Int))/\W.cell? ⟨w.heap.size,1,none⟩=some (.int .i64 (k:Int))/\Vss W p LL/\Below w.heap.size w W):=fun W hW=>by
  have hlt:w.heap.size < w0.heap.size:=by omega
  exact ⟨(hW.cell (p:=⟨w.heap.size,0,none⟩) hlt).trans f0,(hW.cell (p:=⟨w.heap.size,1,none⟩) hlt).trans f1,(hL.below hb0).below hW,hb0.trans (hW.mono hb0.size)⟩
 have HE0:Hid (w0.heap.size=w.heap.size+1):=e0
 have HIN:Hid (∀ v ∈ LL.flatten,TagIn (v.n,v.who)):=hin
 have HFS:Hid (∀ i,i < LL.length->(LL.take (i+1)).flatten=(LL.take i).flatten ++ LL.getD i []):=fun i hi=>flatten_take_succ hi
 have HFL:Hid (∀ i,(LL.take i).flatten.length<=LL.flatten.length):=fun i=>flatten_take_le LL i
 have HFA:Hid (LL.take LL.length=LL):=List.take_length
 rw [<- e0]
 obtain ⟨b,hb⟩:∃ b,b=w0.heap.size:=⟨_,rfl⟩
 have HBB:Hid (b=w0.heap.size):=hb
 have hmk:(Instr.makeMap 163 none).run Tryz.prog w0=.ok (.map (some b)) w1:=by rw [hb,hw1];kernel_rfl
 rw [<- hb] at HT1
 have HBB2:Hid (w.heap.size+1=b):=by show _=_;rw [hb,e0]
 clear hw0 hw1 hb0 hb1 f0 f1 e0 hL hin hb
 go_enter Tryz.func92,Tryz.ntmps92
 go_wp2_with (rw [<- HW0.out])
 clear hmk
 go_loopw [13] (fun x wr=>∃ i:Nat,i<=LL.length/\x=.int .i64 i/\TbOf wr b b n k (LL.take i).flatten/\Below w0.heap.size w0 wr) (fun x _=>LL.length - (intOf x).toNat)
 case atStart=>exact ⟨0,Nat.zero_le _,rfl,HT1.out,HB1.out⟩
 case round =>
  obtain ⟨i,hi,rfl,hT,hB⟩:=hrel
  obtain ⟨w2,rfl⟩:∃ w2,w2=wr:=⟨_,rfl⟩
  have HT2:Hid (TbOf w2 b b n k (LL.take i).flatten):=hT
  have HB2:Hid (Below w0.heap.size w0 w2):=hB
  clear hT hB HT1 HB1
  by_cases hil:i < LL.length
  ·have HFSI:Hid ((LL.take (i+1)).flatten=(LL.take i).flatten ++ LL.getD i []):=HFS.out i hil
   have hfl:(LL.take i).flatten.length+(LL.getD i []).length<=1000:=by
    have h1:=HFL.out (i+1)
    rw [HFSI.out,List.length_append] at h1
    omega
   have HINI:Hid (∀ v ∈ LL.getD i [],TagIn (v.n,v.who)):=fun v hv=>HIN.out v (by
    rw [<- HFA.out]
    rw [List.getD_eq_getElem?_getD,List.getElem?_eq_getElem hil] at hv
    rw [List.take_length]
    exact List.mem_flatten.2 ⟨_,List.getElem_mem hil,hv⟩)
   rcases (HALL.out w0 (Below.refl _ _)).2.2.1 with h0 | ⟨bl,ol,hpp,hblt,hcs⟩
   ·rw [h0] at hil;simp at hil
   obtain ⟨q,cq,hcell0,hrec,hlc,hqn⟩:=hcs i hil
   have HREC:Hid (∀ W,Below w0.heap.size w0 W->Rec verE W q (LL.getD i [])):=fun W hW=>hrec.below hW
   have hcell:w2.cell? ⟨bl,ol+i,none⟩=some (.slice q (LL.getD i []).length cq):=(HB2.out.cell (p:=⟨bl,ol+i,none⟩) hblt).trans hcell0
   subst hpp
   clear hcs hrec hqn hcell0 HFS HFL HIN
   generalize LL.getD i []=rw_ at *
   generalize (LL.take i).flatten=pre at *
   go_wp2
   go_loopw [19] (fun x wr=>∃ j:Nat,j<=rw_.length/\x=.int .i64 j/\TbOf wr b b n k (pre ++ rw_.take j)/\Below w0.heap.size w0 wr) (fun x _=>rw_.length - (intOf x).toNat)
   case atStart=>exact ⟨0,Nat.zero_le _,rfl,by rw [List.take_zero,List.append_nil];exact HT2.out,HB2.out⟩
   case round =>
    obtain ⟨j,hj,rfl,hT,hB⟩:=hrel
    have hR:=HREC.out wr hB
    obtain ⟨w3,rfl⟩:∃ w3,w3=wr:=⟨_,rfl⟩
    have HT3:Hid (TbOf w3 b b n k (pre ++ rw_.take j)):=hT
    have HB3:Hid (Below w0.heap.size w0 w3):=hB
    have HR3:Hid (Rec verE w3 q rw_):=hR
    clear hT hB hR HT2 hcell
    by_cases hjl:j < rw_.length
    ·have HTS:Hid (rw_.take (j+1)=rw_.take j ++ [verAt rw_ j]):=getD_take_succ hjl
     have hti:TagIn ((verAt rw_ j).n,(verAt rw_ j).who):=HINI.out _ (by have:=verAt_get hjl;exact List.mem_of_getElem? this)
     obtain ⟨b',o',hpp,hblt',d0,d1,d2,d3,d4⟩:=ver_cells HR3.out hjl
     subst hpp
     have hpl:(pre ++ rw_.take j).length<=1000:=by rw [List.length_append,List.length_take];omega
     have HCE:Hid (canB n k (verAt rw_ j)=(tagOk (verAt rw_ j).n (verAt rw_ j).who && fitB n k (verAt rw_ j).size (verAt rw_ j).at_ (verAt rw_ j).text)):=can_eq n k _
     have HTI:Hid (TagIn ((verAt rw_ j).n,(verAt rw_ j).who)):=hti
     have HNX:Hid (∀ W,TbOf W b b n k ((pre ++ rw_.take j) ++ [verAt rw_ j])->TbOf W b b n k (pre ++ rw_.take (j+1))):=fun W h=>by rw [HTS.out,<- List.append_assoc];exact h
     clear hti HTS
     generalize verAt rw_ j=x at *
     generalize pre ++ rw_.take j=done at *
     obtain ⟨xn,xw,xs,xa,xt⟩:=x
     dsimp only at d0 d1 d2 d3 d4 HCE HTI
     obtain ⟨w4,hw4⟩:∃ w4,w4=w3.alloc (.cells #[.int .i64 xn,.int .i64 xw,.int .i64 xs,.int .i64 xa,.string xt] 47):=⟨_,rfl⟩
     have hb4:Below w3.heap.size w3 w4:=by rw [hw4];exact (Below.refl _ _).alloc (Nat.le_refl _) _
     have HV4:Hid (w4.cell? ⟨w3.heap.size,0,none⟩=some (.int .i64 xn)/\w4.cell? ⟨w3.heap.size,1,none⟩=some (.int .i64 xw)/\w4.cell? ⟨w3.heap.size,2,none⟩=some (.int .i64 xs)/\w4.cell? ⟨w3.heap.size,3,none⟩=some (.int .i64 xa)/\w4.cell? ⟨w3.heap.size,4,none⟩=some (.string xt)):=by
      rw [hw4]
      exact ⟨by rw [World.cell?_alloc_at _ _ _ _ rfl];rfl,by rw [World.cell?_alloc_at _ _ _ _ rfl];rfl,by rw [World.cell?_alloc_at _ _ _ _ rfl];rfl,by rw [World.cell?_alloc_at _ _ _ _ rfl];rfl,by rw [World.cell?_alloc_at _ _ _ _ rfl];rfl⟩
     have HW4:Hid (w4=w3.alloc (.cells #[.int .i64 xn,.int .i64 xw,.int .i64 xs,.int .i64 xa,.string xt] 47)):=hw4
     have HB4:Hid (Below w0.heap.size w0 w4):=HB3.out.trans (hb4.mono HB3.out.size)
     have HT4:Hid (TbOf w4 b b n k done):=HT3.out.below hb4
     have HST:Hid (canB n k ⟨xn,xw,xs,xa,xt⟩=true->∃ (rt:Value) (sz:Int),(∀ W,Below w4.heap.size w4 W->(Instr.lookup 163 (.map (some b)) (.agg #[.int .i64 xn,.int .i64 xw]) false).run Tryz.prog W=.ok (.agg #[.int .i64 sz,rt]) W)/\(∀ g,rt.ownBlock=some g->g < w3.heap.size)/\∀ W,Below w4.heap.size w4 W->Calls Tryz.prog 103 #[.agg #[.int .i64 sz,rt],.agg #[.int .i64 xn,.int .i64 xw,.int .i64 xs,.int .i64 xa,.string xt]] W fun e w7=>∃ rv w8,e=.returned rv/\W.grownBy w7 rt.ownBlock/\(Instr.mapUpdate 163 (.map (some b)) (.agg #[.int .i64 xn,.int .i64 xw]) rv).run Tryz.prog w7=.ok () w8/\Below b W w8/\TbOf w8 b b n k (done ++ [⟨xn,xw,xs,xa,xt⟩])):=fun hc=>by
      obtain ⟨rt,sz,h1,h2,h3⟩:=HT3.out.step hc HTI.out hpl
      exact ⟨rt,sz,fun W hW=>h1 W (hb4.trans (hW.mono hb4.size)),h2,fun W hW=>h3 W (hb4.trans (hW.mono hb4.size))⟩
     have HIS:Hid (∀ W,Calls Tryz.prog 51 #[.agg #[.int .i64 xn,.int .i64 xw]] W fun e w'=>e=.returned (.bool (tagOk xn xw))/\Below W.heap.size W w'):=fun W=>istag_any xn xw W
     have HFI:Hid (∀ W,Calls Tryz.prog 102 #[.int .i64 (n:Int),.int .i64 (k:Int),.int .i64 xs,.agg #[.int .i64 xa,.string xt]] W fun e w'=>e=.returned (.bool (fitB n k xs xa xt))/\Below W.heap.size W w'):=fun W=>cfits_any n k xs xa xt W hk1 hkn hn
     have HALL4:Hid (∀ W,Below w4.heap.size w4 W->((W.cell? ⟨w.heap.size,0,none⟩=some (.int .i64 (n:Int))/\W.cell? ⟨w.heap.size,1,none⟩=some (.int .i64 (k:Int)))/\(W.cell? ⟨w3.heap.size,0,none⟩=some (.int .i64 xn)/\W.cell? ⟨w3.heap.size,1,none⟩=some (.int .i64 xw)/\W.cell? ⟨w3.heap.size,2,none⟩=some (.int .i64 xs)/\W.cell? ⟨w3.heap.size,3,none⟩=some (.int .i64 xa)/\W.cell? ⟨w3.heap.size,4,none⟩=some (.string xt)))/\TbOf W b b n k done/\Below w0.heap.size w0 W):=fun W hW=>by
      have hlt:=lt_of_cell HV4.out.1
      have h0:Below w0.heap.size w0 W:=HB4.out.trans (hW.mono HB4.out.size)
      exact ⟨⟨⟨(HALL.out W h0).1,(HALL.out W h0).2.1⟩,(hW.cell (p:=⟨w3.heap.size,0,none⟩) hlt).trans HV4.out.1,(hW.cell (p:=⟨w3.heap.size,1,none⟩) hlt).trans HV4.out.2.1,(hW.cell (p:=⟨w3.heap.size,2,none⟩) hlt).trans HV4.out.2.2.1,(hW.cell (p:=⟨w3.heap.size,3,none⟩) hlt).trans HV4.out.2.2.2.1,(hW.cell (p:=⟨w3.heap.size,4,none⟩) hlt).trans HV4.out.2.2.2.2⟩,HT4.out.below hW,h0⟩
     obtain ⟨⟨⟨g0,g1⟩,k0,k1,k2,k3,k4⟩,_⟩:=HALL4.out w4 (Below.refl _ _)
     clear hw4 hb4 HB3 HT3 HR3 HV4 HT4 HTI
     generalize tagOk xn xw=tg at *
     generalize fitB n k xs xa xt=ft at *
     cases tg with
     | false =>
      have HC:Hid (canB n k ⟨xn,xw,xs,xa,xt⟩=false):=HCE.out
      clear HCE HFI HST
      go_wp2_with (first | rw [<- HW4.out] | fail)
      refine (HIS.out _).mono ?_
      rintro e w5 ⟨rfl,hb5⟩
      obtain ⟨_,hT5,hB5⟩:=HALL4.out w5 hb5
      have HT5:Hid (TbOf w5 b b n k (pre ++ rw_.take (j+1))):=HNX.out w5 (hT5.pass HC.out)
      have HB5:Hid (Below w0.heap.size w0 w5):=hB5
      clear hT5 hB5 hb5 HIS HALL4
      go_wp2
      go_roundw
      case rel=>exact ⟨j+1,by omega,by go_num,HT5.out,HB5.out⟩
      case measure=>simp [intOf];omega
     | true =>
      go_wp2_with (first | rw [<- HW4.out] | fail)
      refine (HIS.out _).mono ?_
      rintro e w5 ⟨rfl,hb5⟩
      have HB45:Hid (Below w4.heap.size w4 w5):=hb5
      clear g0 g1 k0 k1 k2 k3 k4
      obtain ⟨⟨⟨g0,g1⟩,k0,k1,k2,k3,k4⟩,_⟩:=HALL4.out w5 hb5
      clear hb5 HIS d0 d1 d2 d3 d4
      cases ft with
      | false =>
       have HC:Hid (canB n k ⟨xn,xw,xs,xa,xt⟩=false):=HCE.out
       clear HCE HST
       go_wp2_with fail
       refine (HFI.out _).mono ?_
       rintro e w6 ⟨rfl,hb6⟩
       obtain ⟨_,hT6,hB6⟩:=HALL4.out w6 (HB45.out.trans (hb6.mono HB45.out.size))
       have HT6:Hid (TbOf w6 b b n k (pre ++ rw_.take (j+1))):=HNX.out w6 (hT6.pass HC.out)
       have HB6:Hid (Below w0.heap.size w0 w6):=hB6
       clear hT6 hB6 hb6 HFI HALL4
       go_wp2
       go_roundw
       case rel=>exact ⟨j+1,by omega,by go_num,HT6.out,HB6.out⟩
       case measure=>simp [intOf];omega
      | true =>
       have HC:Hid (canB n k ⟨xn,xw,xs,xa,xt⟩=true):=HCE.out
       clear HCE
       go_wp2_with fail
       refine (HFI.out _).mono ?_
       rintro e w6 ⟨rfl,hb6⟩
       have hb46:Below w4.heap.size w4 w6:=HB45.out.trans (hb6.mono HB45.out.size)
       clear g0 g1 k0 k1 k2 k3 k4
       obtain ⟨⟨⟨g0,g1⟩,k0,k1,k2,k3,k4⟩,hT6,hB6⟩:=HALL4.out w6 hb46
       obtain ⟨rt,sz,hlook,hrb,hwith⟩:=HST.out HC.out
       have HWC:Hid (∀ W,Below w6.heap.size w6 W->Calls Tryz.prog 103 #[.agg #[.int .i64 sz,rt],.agg #[.int .i64 xn,.int .i64 xw,.int .i64 xs,.int .i64 xa,.string xt]] W fun e w7=>∃ rv w8,e=.returned rv/\(w7.cell? ⟨w3.heap.size,0,none⟩=some (.int .i64 xn)/\w7.cell? ⟨w3.heap.size,1,none⟩=some (.int .i64 xw))/\(Instr.mapUpdate 163 (.map (some b)) (.agg #[.int .i64 xn,.int .i64 xw]) rv).run Tryz.prog w7=.ok () w8/\Below w0.heap.size w0 w8/\TbOf w8 b b n k (pre ++ rw_.take (j+1))):=fun W hW=>by
        have h4:Below w4.heap.size w4 W:=hb46.trans (hW.mono hb46.size)
        refine (hwith W h4).mono ?_
        rintro e w7 ⟨rv,w8,rfl,hg,hrun,hb8,hT8⟩
        obtain ⟨⟨_,q0,q1,_⟩,_,hB0⟩:=HALL4.out W h4
        have hne:some w3.heap.size≠rt.ownBlock:=fun e=>by have:=hrb _ e.symm;omega
        have hbk:=hg.block w3.heap.size (lt_of_cell q0) hne
        refine ⟨rv,w8,rfl,⟨(World.cell?_of_block (a:=⟨w3.heap.size,0,none⟩) hbk).trans q0,(World.cell?_of_block (a:=⟨w3.heap.size,1,none⟩) hbk).trans q1⟩,hrun,?_,HNX.out w8 hT8⟩
        rw [HBB.out] at hb8
        exact hB0.trans hb8
       have l1:=hlook w6 hb46
       have l2:=hlook w6.drew hb46.drew
       clear hT6 hB6 hb6 hb46 HFI HALL4 hlook hwith hrb HST HB45
       go_wp2
       go_region_with (go_at_call 103;refine (HWC.out _ (by first | exact (Below.refl _ _).drew | exact Below.refl _ _)).mono ?_;rintro e w7 ⟨rv,w8,rfl,⟨n0,n1⟩,hrun,HB8,HT8⟩)
       all_goals (go_wp2;go_roundw)
       all_goals (first | exact ⟨j+1,by omega,by go_num,HT8,HB8⟩ | (simp [intOf];omega))
    ·have hje:rw_.take j=rw_:=List.take_of_length_le (by omega)
     have HE3:Hid ((LL.take (i+1)).flatten=pre ++ rw_.take j):=by show _=_;rw [HFSI.out,hje]
     clear hje
     go_wp2
     go_roundw
     case rel=>exact ⟨i+1,by omega,by go_num,by rw [HE3.out];exact HT3.out,HB3.out⟩
     case measure=>simp [intOf];omega
  ·have hie:i=LL.length:=by omega
   have HF:Hid ((LL.take i).flatten=LL.flatten):=by show _=_;rw [hie,HFA.out]
   rw [HF.out] at HT2
   clear hie
   go_wp2
   go_ret
   exact ⟨⟨_,rfl,by rw [<- HBB.out];exact HT2.out⟩,(HALL.out w2 HB2.out).2.2.2⟩
end Go.Proofs.YtghpdhegfnhmkaaGreatDoor
