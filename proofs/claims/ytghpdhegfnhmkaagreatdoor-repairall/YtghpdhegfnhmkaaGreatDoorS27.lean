import Derived.Test.YtghpdhegfnhmkaaGreatDoorS26
import Derived.Maps.RangeWalk
import Derived.Laws.IdiomRangeMap
import Derived.Deep.RegionWith
namespace Go.Proofs.YtghpdhegfnhmkaaGreatDoor
open Go.RowKit
variable {h:Nat} {S:Nat->Prop} {L:List Kep} {s:Bool} {m:Option Nat} {D:DataW Value} {row:ByteArray->Value} {blk:ByteArray->Nat}
theorem take_succ_ver {l:List Ver} {i:Nat} (hi:i < l.length):l.take (i+1)=l.take i ++ [verAt l i]:=by
 rw [List.take_add_one,verAt_get hi]
 rfl
theorem getL_fits {L:List Kep} (hf:∀ x ∈ L,isN x.1=true/\verOk x.2=true) {key:ByteArray} {i:Nat} (hi:i < (getL L key).length):verOk (verAt (getL L key) i)=true:=by
 have:=List.mem_of_getElem? (verAt_get hi)
 exact (hf _ (mem_getL.1 this)).2
theorem verOk_text {v:Ver} (h:verOk v=true):v.text.size<=1000:=by
 unfold verOk at h
 simp only [Bool.and_eq_true,decide_eq_true_eq] at h
 exact h.2.2.2.2.2
set_option maxRecDepth 10000 in
set_option maxHeartbeats 1600000 in
theorem getO_any {w:World} (hd:HdAt w h S L s m D row blk) (key:ByteArray) (hk:key.size<=maxLen) :
 Calls Tryz.prog 24 #[.pointer (some ⟨h,0,none⟩),.string key] w fun e w'=>(∃ v,e=.returned v/\OwnR verE 47 w' w.heap.size v (getL L key))/\Below w.heap.size w w':=by
 have HOF:Hid (Calls Tryz.prog 34 #[.pointer (some ⟨h,0,none⟩),.string key] w fun e w'=>e=.returned (row key)/\w'=w):=of_any hd key hk
 obtain ⟨p,c,hrow,hrec,hlc,hpn,hpb⟩:=hd.form key
 have HREC:Hid (Rec verE w p (getL L key)):=hrec
 have HTX:Hid (∀ i,i < (getL L key).length->(verAt (getL L key) i).text.size<=1000000):=fun i hi=>by have:=verOk_text (getL_fits hd.fits hi);omega
 have hl:(getL L key).length<=60:=Nat.le_trans (getL_le _ _) hd.few
 rw [hrow] at HOF
 clear hd hrow hrec hpn hpb
 generalize getL L key=l at *
 go_enter Tryz.func24,Tryz.ntmps24
 go_wp2_with fail
 refine HOF.out.mono ?_
 rintro e w1 ⟨rfl,hw1⟩
 rw [hw1]
 clear hw1 w1 HOF
 go_wp2
 go_loopw [5,12] (fun v x wq=>∃ i:Nat,i<=l.length/\x=.int .i64 i/\OwnR verE 47 wq w.heap.size v (l.take i)/\Below w.heap.size w wq) (fun _ x _=>l.length - (intOf x).toNat)
 case atStart=>exact ⟨0,Nat.zero_le _,rfl,OwnR.nil _ _ _,Below.refl _ _⟩
 case round =>
  obtain ⟨i,hi,rfl,hO,hB⟩:=hrel
  obtain ⟨w1,rfl⟩:∃ w1,w1=wr:=⟨_,rfl⟩
  obtain ⟨v,rfl⟩:∃ v,v=u5:=⟨_,rfl⟩
  have HO:Hid (OwnR verE 47 w1 w.heap.size v (l.take i)):=hO
  have HB:Hid (Below w.heap.size w w1):=hB
  have hz1:w.heap.size<=w1.heap.size:=hB.size
  clear hO hB
  by_cases hil:i < l.length
  ·obtain ⟨b,o,hpp,hblt,c0,c1,c2,c3,c4⟩:=ver_cells (HREC.out.below HB.out) hil
   subst hpp
   have HNX:Hid (l.take (i+1)=l.take i ++ [verAt l i]):=take_succ_ver hil
   have HCP:Hid (∀ W,Calls Tryz.prog 39 #[.agg #[.int .i64 (verAt l i).n,.int .i64 (verAt l i).who,.int .i64 (verAt l i).size,.int .i64 (verAt l i).at_,.string (verAt l i).text]] W fun e w'=>e=.returned (.agg #[.int .i64 (verAt l i).n,.int .i64 (verAt l i).who,.int .i64 (verAt l i).size,.int .i64 (verAt l i).at_,.string (verAt l i).text])/\Below W.heap.size W w'):=fun W=>copied_any (verAt l i) W (HTX.out i hil)
   have hgl:(l.take i).length<=60:=by rw [List.length_take];omega
   clear HTX
   generalize verAt l i=x at *
   obtain ⟨xn,xw,xs,xa,xt⟩:=x
   generalize l.take i=gs at *
   have HBW:Hid (Below w1.heap.size w1 (w1.alloc (.cells #[.int .i64 xn,.int .i64 xw,.int .i64 xs,.int .i64 xa,.string xt] 47))):=(Below.refl _ _).alloc (Nat.le_refl _) _
   go_wp2_with fail
   refine (HCP.out _).mono ?_
   rintro e w3 ⟨rfl,hb3⟩
   have hb13:Below w1.heap.size w1 w3:=HBW.out.trans (hb3.mono HBW.out.size)
   have HO2:Hid (OwnR verE 47 (w3.alloc (.cells #[.int .i64 xn,.int .i64 xw,.int .i64 xs,.int .i64 xa,.string xt] 47)) w.heap.size v gs):=(HO.out.kept hb13).kept ((Below.refl _ _).alloc (Nat.le_refl _) _)
   have HB3:Hid (Below w.heap.size w w3):=HB.out.trans (hb13.mono HB.out.size)
   have HNW:Hid (∀ j u,(verE.enc ⟨xn,xw,xs,xa,xt⟩)[j]?=some u->(w3.alloc (.cells #[.int .i64 xn,.int .i64 xw,.int .i64 xs,.int .i64 xa,.string xt] 47)).cell? ⟨w3.heap.size,0+j,none⟩=some u):=fun j u hj=>by
    rw [Nat.zero_add,World.cell?_alloc_at _ _ _ _ rfl]
    match j,hj with
    | 0,hj=>exact hj
    | 1,hj=>exact hj
    | 2,hj=>exact hj
    | 3,hj=>exact hj
    | 4,hj=>exact hj
   have HB2:Hid (Below w.heap.size w (w3.alloc (.cells #[.int .i64 xn,.int .i64 xw,.int .i64 xs,.int .i64 xa,.string xt] 47))):=HB3.out.alloc HB3.out.size _
   clear hb3 hb13 HBW HCP c0 c1 c2 c3 c4
   go_wp2_with (first | (at_builtin;refine wpList_append_rec rfl (.tmp 16) (.tmp 19) 62 47 rfl (.agg #[.int .i64 0,.int .i64 0,.int .i64 0,.int .i64 0,.string ⟨#[]⟩]) 48 Tryz.underlying62 verinfo rfl w.heap.size v gs rfl HO2.out w3.heap.size 0 1 ⟨xn,xw,xs,xa,xt⟩ rfl HNW.out (by unfold maxLen;omega) (by omega) HB2.out.size (by simp) ?_;intro v4 w4 hO4 hb4))
   have HO4:Hid (OwnR verE 47 w4 w.heap.size v4 (gs ++ [⟨xn,xw,xs,xa,xt⟩])):=hO4
   have HB4:Hid (Below w.heap.size w w4):=HB2.out.trans hb4
   clear hO4 hb4
   go_wp2
   go_roundw
   case rel=>exact ⟨i+1,by omega,by go_num,by rw [HNX.out];exact HO4.out,HB4.out⟩
   case measure=>simp [intOf];omega
  ·have hie:i=l.length:=by omega
   subst hie
   have HE:Hid (l.take l.length=l):=List.take_length
   go_wp2
   go_ret
   have hO:=HO.out
   rw [HE.out] at hO
   exact ⟨⟨v,rfl,hO⟩,HB.out⟩
end Go.Proofs.YtghpdhegfnhmkaaGreatDoor
namespace Go.Proofs.YtghpdhegfnhmkaaGreatDoor
open Go.RowKit
set_option maxRecDepth 10000 in
set_option maxHeartbeats 1600000 in
theorem set_some (h b n:Nat) (D:DataW Value) (key:ByteArray) (p:Option Addr) (k c:Nat) (w:World) (hk:key.size<=1000000) (hk0:0 < k) (hk1:k<=1000) (q0:w.cell? ⟨h,0,none⟩=some (.map (some b))) (hown:OwnM w b n D) (hn:n < maxLen) :
 Calls Tryz.prog 37 #[.pointer (some ⟨h,0,none⟩),.string key,.slice p k c] w fun e w'=>e=.returned (.tuple #[])/\SetOk w w' b D key (.slice p k c):=by
 have hlt:h < w.heap.size:=lt_of_cellH q0
 have HUP:Hid (∀ W,Below w.heap.size w W->∃ w',(Instr.mapUpdate 36 (.map (some b)) (.string key) (.slice p k c)).run Tryz.prog W=.ok () w'/\SetOk w w' b D key (.slice p k c)):=fun W hW=>set_step hown hn (by unfold maxLen;omega) hW
 have HCL:Hid (∀ W,Calls Tryz.prog 57 #[.string key] W fun e w'=>e=.returned (.string key)/\Below W.heap.size W w'):=fun W=>sclone_any key W (by omega)
 have HQ:Hid (∀ W,Below w.heap.size w W->W.cell? ⟨h,0,none⟩=some (.map (some b))):=fun W hW=>(hW.cell (p:=⟨h,0,none⟩) hlt).trans q0
 have hz:¬ ((k:Int)=0):=by omega
 have hmn:=map_not_nil b
 clear hown hn hk
 go_enter Tryz.func37,Tryz.ntmps37
 go_wp2
 go_region_with (go_at_call 57;refine (HCL.out _).mono ?_;rintro e w5 ⟨rfl,hb5⟩;have hb6:=below_drew' hb5;have q5:=HQ.out w5 hb6;obtain ⟨w9,hrun9,hset9⟩:=HUP.out w5 hb6;clear hb5 hb6)
 all_goals
  go_wp2
  go_end0
  first | exact ⟨rfl,hset9⟩ | exact ⟨rfl,by assumption⟩
set_option maxRecDepth 10000 in
set_option maxHeartbeats 1600000 in
theorem set_none (h:Nat) (key:ByteArray) (p:Option Addr) (k c:Nat) (w:World) (hk:key.size<=1000000) (hk0:0 < k) (hk1:k<=1000) (q0:w.cell? ⟨h,0,none⟩=some (.map none)) (f0:w.frozen? ⟨h,0,none⟩=false) :
 Calls Tryz.prog 37 #[.pointer (some ⟨h,0,none⟩),.string key,.slice p k c] w fun e w'=>e=.returned (.tuple #[])/\SetOk ((w.setCell ⟨h,0,none⟩ (.map (some w.heap.size))).alloc (.map #[] 0)) w' w.heap.size (.map []) key (.slice p k c):=by
 have hlt:h < w.heap.size:=lt_of_cellH q0
 obtain ⟨W0,hW0⟩:∃ W0,W0=(w.setCell ⟨h,0,none⟩ (.map (some w.heap.size))).alloc (.map #[] 0):=⟨_,rfl⟩
 have HW0:Hid (W0=(w.setCell ⟨h,0,none⟩ (.map (some w.heap.size))).alloc (.map #[] 0)):=hW0
 have hsz:(w.setCell ⟨h,0,none⟩ (.map (some w.heap.size))).heap.size=w.heap.size:=by simp
 have hown:OwnM W0 w.heap.size 0 (.map []):=by
  have:=World.ownsMap_made (w.setCell ⟨h,0,none⟩ (.map (some w.heap.size))) Tryz.prog 9 anyR
  rw [hsz] at this
  rw [hW0]
  exact this
 have hq:W0.cell? ⟨h,0,none⟩=some (.map (some w.heap.size)):=by
  rw [hW0,((Below.refl _ (w.setCell ⟨h,0,none⟩ (.map (some w.heap.size)))).alloc (Nat.le_refl _) _).cell (p:=⟨h,0,none⟩) (by rw [hsz];exact hlt)]
  exact World.cell?_setCell_same _ _ _ q0
 have hlt0:h < W0.heap.size:=lt_of_cellH hq
 have HUP:Hid (∀ W,Below W0.heap.size W0 W->∃ w',(Instr.mapUpdate 36 (.map (some w.heap.size)) (.string key) (.slice p k c)).run Tryz.prog W=.ok () w'/\SetOk W0 w' w.heap.size (.map []) key (.slice p k c)):=fun W hW=>set_step hown (by unfold maxLen;omega) (by unfold maxLen;omega) hW
 have HCL:Hid (∀ W,Calls Tryz.prog 57 #[.string key] W fun e w'=>e=.returned (.string key)/\Below W.heap.size W w'):=fun W=>sclone_any key W (by omega)
 have HQ:Hid (∀ W,Below W0.heap.size W0 W->W.cell? ⟨h,0,none⟩=some (.map (some w.heap.size))):=fun W hW=>(hW.cell (p:=⟨h,0,none⟩) hlt0).trans hq
 have hz:¬ ((k:Int)=0):=by omega
 have hmn:=map_is_nil
 have hf1:(w.alloc (.map #[] 0)).frozen? ⟨h,0,none⟩=false:=by rw [((Below.refl _ w).alloc (Nat.le_refl _) _).frozen (p:=⟨h,0,none⟩) hlt];exact f0
 have hc1:(w.alloc (.map #[] 0)).cell? ⟨h,0,none⟩=some (.map none):=by rw [((Below.refl _ w).alloc (Nat.le_refl _) _).cell (p:=⟨h,0,none⟩) hlt];exact q0
 have hmk:(Instr.makeMap 36 none).run Tryz.prog w=.ok (.map (some w.heap.size)) (w.alloc (.map #[] 0)):=by kernel_rfl
 rw [<- hW0]
 clear hown hk hW0 hsz
 go_enter Tryz.func37,Tryz.ntmps37
 go_wp2
 rw [<- HW0.out]
 clear HW0
 go_region_with (go_at_call 57;refine (HCL.out _).mono ?_;rintro e w5 ⟨rfl,hb5⟩;have hb6:=below_drew' hb5;have q5:=HQ.out w5 hb6;obtain ⟨w9,hrun9,hset9⟩:=HUP.out w5 hb6;clear hb5 hb6)
 all_goals
  go_wp2
  go_end0
  first | exact ⟨rfl,hset9⟩ | exact ⟨rfl,by assumption⟩
end Go.Proofs.YtghpdhegfnhmkaaGreatDoor
