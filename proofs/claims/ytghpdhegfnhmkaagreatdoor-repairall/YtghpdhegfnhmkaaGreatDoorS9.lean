import Derived.Test.YtghpdhegfnhmkaaGreatDoorS5
namespace Go.Proofs.YtghpdhegfnhmkaaGreatDoor
open Go.RowKit
set_option maxRecDepth 10000 in
theorem bare_any (c:Int) (w:World):Calls Tryz.prog 18 #[.int .i64 c] w fun e w'=>e=.returned (.agg #[.int .i64 c,.int .i64 (-1)])/\Below w.heap.size w w':=by
 go_enter Tryz.func18,Tryz.ntmps18
 go_wp2
 refine bodyPost_ret (v:=.agg #[.int .i64 c,.int .i64 (-1)]) (by simp [results,Tryz.results18,go_sem]) rfl ⟨rfl,?_⟩
 exact (Below.refl _ _).alloc (Nat.le_refl _) _
set_option maxRecDepth 10000 in
theorem fine_any (w:World):Calls Tryz.prog 46 #[] w fun e w'=>e=.returned (.agg #[.int .i64 0,.int .i64 (-1)])/\Below w.heap.size w w':=by
 go_enter Tryz.func46,Tryz.ntmps46
 go_wp2
 refine bodyPost_ret (v:=.agg #[.int .i64 0,.int .i64 (-1)]) (by simp [results,Tryz.results46,go_sem]) rfl ⟨rfl,?_⟩
 exact (Below.refl _ _).alloc (Nat.le_refl _) _
theorem pair_kept (w:World) (t:TypeId) (wq:World) (hb:Below (w.alloc (.cells #[.int .i64 0,.int .i64 0] t)).heap.size (w.alloc (.cells #[.int .i64 0,.int .i64 0] t)) wq) :
 wq.cell? ⟨w.heap.size,0,none⟩=some (.int .i64 0)/\wq.cell? ⟨w.heap.size,1,none⟩=some (.int .i64 0)/\wq.frozen? ⟨w.heap.size,0,none⟩=false/\wq.frozen? ⟨w.heap.size,1,none⟩=false:=by
 have hlt:w.heap.size < (w.alloc (.cells #[.int .i64 0,.int .i64 0] t)).heap.size:=by simp
 refine ⟨(hb.cell (p:=⟨w.heap.size,0,none⟩) hlt).trans ?_,(hb.cell (p:=⟨w.heap.size,1,none⟩) hlt).trans ?_,(hb.frozen (p:=⟨w.heap.size,0,none⟩) hlt).trans ?_,(hb.frozen (p:=⟨w.heap.size,1,none⟩) hlt).trans ?_⟩
 ·rw [World.cell?_alloc_at _ _ _ _ rfl];rfl
 ·rw [World.cell?_alloc_at _ _ _ _ rfl];rfl
 ·unfold World.frozen?;rw [heap_alloc_new];rfl
 ·unfold World.frozen?;rw [heap_alloc_new];rfl
theorem pair_below {w wq:World} {t:TypeId} (hb:Below (w.alloc (.cells #[.int .i64 0,.int .i64 0] t)).heap.size (w.alloc (.cells #[.int .i64 0,.int .i64 0] t)) wq):Below w.heap.size w wq :=
 ((Below.refl _ w).alloc (Nat.le_refl _) _).trans (hb.mono (by simp))
theorem pair_set {w wq:World} (hb:Below w.heap.size w wq) (a b:Value):Below w.heap.size w ((wq.setCell ⟨w.heap.size,0,none⟩ a).setCell ⟨w.heap.size,1,none⟩ b):=by
 refine (hb.setCell ?_ _).setCell ?_ _ <;> exact Nat.le_refl _
set_option maxRecDepth 10000 in
set_option maxHeartbeats 4000000 in
theorem nodesFault_bound (p:Option Addr) (l:List ByteArray) (c:Nat) (w:World) (hl:l.length<=1000000) (h:l.length < 1∨16 < l.length) :
 Calls Tryz.prog 27 #[.slice p l.length c] w fun e w'=>e=.returned (.agg #[.int .i64 2,.int .i64 (-1)])/\Below w.heap.size w w':=by
 rcases h with h | h
 ·go_enter Tryz.func27,Tryz.ntmps27
  go_wp2_with fail
  refine (bare_any 2 _).mono ?_
  rintro e w1 ⟨rfl,hb1⟩
  obtain ⟨q1,q2,f1,f2⟩:=pair_kept w _ w1 hb1
  have HB:Hid (Below w.heap.size w w1):=pair_below hb1
  clear hb1
  go_wp2
  refine bodyPost_ret (v:=.agg #[.int .i64 2,.int .i64 (-1)]) (by simp [results,Tryz.results27,go_sem,q1,q2]) rfl ⟨rfl,pair_set HB.out _ _⟩
 ·go_enter Tryz.func27,Tryz.ntmps27
  go_wp2_with fail
  refine (bare_any 2 _).mono ?_
  rintro e w1 ⟨rfl,hb1⟩
  obtain ⟨q1,q2,f1,f2⟩:=pair_kept w _ w1 hb1
  have HB:Hid (Below w.heap.size w w1):=pair_below hb1
  clear hb1
  go_wp2
  refine bodyPost_ret (v:=.agg #[.int .i64 2,.int .i64 (-1)]) (by simp [results,Tryz.results27,go_sem,q1,q2]) rfl ⟨rfl,pair_set HB.out _ _⟩
set_option maxRecDepth 10000 in
set_option maxHeartbeats 4000000 in
theorem nodesFault_scan (p:Option Addr) (l:List ByteArray) (c:Nat) (w:World) (h1:¬ l.length < 1) (h2:¬ 16 < l.length) (hc:l.length<=c) (ht:∀ x ∈ l,x.size<=1000000) (hs:Strs w p l) :
 Calls Tryz.prog 27 #[.slice p l.length c] w fun e w'=>e=.returned (.agg #[.int .i64 (scanF l 0 l.length).1,.int .i64 (scanF l 0 l.length).2])/\Below w.heap.size w w':=by
 have HT:Hid (∀ i,i < l.length->(txt l i).size<=1000000):=fun i hi=>ht _ (txt_mem hi)
 have HS:Hid (Strs w p l):=hs
 have g1:decide ((l.length:Int) < 1)=false:=decide_eq_false (by omega)
 have g2:decide (16 < (l.length:Int))=false:=decide_eq_false (by omega)
 obtain ⟨b,o,rfl⟩:∃ b o,p=some ⟨b,o,none⟩:=by
  rcases hs with h0 | ⟨b,o,hp,_⟩
  ·rw [h0] at h1;exact absurd (by decide) h1
  ·exact ⟨b,o,hp⟩
 clear hs ht
 obtain ⟨R,hR⟩:∃ R,R=scanF l 0 l.length:=⟨_,rfl⟩
 rw [<- hR]
 have HR:Hid (R=scanF l 0 l.length):=hR
 clear hR
 go_enter Tryz.func27,Tryz.ntmps27
 go_wp2
 have HB0:Hid (Below (w.alloc (.cells #[.int .i64 0,.int .i64 0] 30)).heap.size (w.alloc (.cells #[.int .i64 0,.int .i64 0] 30)) (w.alloc (.cells #[.int .i64 0,.int .i64 0] 30))):=Below.refl _ _
 have HK:Hid (∀ wq,Below (w.alloc (.cells #[.int .i64 0,.int .i64 0] 30)).heap.size (w.alloc (.cells #[.int .i64 0,.int .i64 0] 30)) wq->(wq.cell? ⟨w.heap.size,0,none⟩=some (.int .i64 0)/\wq.cell? ⟨w.heap.size,1,none⟩=some (.int .i64 0)/\wq.frozen? ⟨w.heap.size,0,none⟩=false/\wq.frozen? ⟨w.heap.size,1,none⟩=false)/\Below w.heap.size w wq):=fun wq h=>⟨pair_kept w _ wq h,pair_below h⟩
 generalize w.alloc (.cells #[.int .i64 0,.int .i64 0] 30)=w0 at HB0 HK ⊢
 go_loopw [3] (fun x wq=>∃ i:Nat,i<=l.length/\x=.int .i64 i/\scanF l i (l.length - i)=R/\Below w0.heap.size w0 wq) (fun x _=>l.length - (intOf x).toNat)
 case atStart=>exact ⟨0,Nat.zero_le _,rfl,HR.out.symm,HB0.out⟩
 case round =>
  obtain ⟨i,hi,rfl,hsc,hbq⟩:=hrel
  obtain ⟨w1,rfl⟩:∃ w1,w1=wr:=⟨_,rfl⟩
  have HSC:Hid (scanF l i (l.length - i)=R):=hsc
  have HBQ:Hid (Below w0.heap.size w0 w1):=hbq
  obtain ⟨⟨q1,q2,f1,f2⟩,hbw⟩:=HK.out w1 hbq
  have HBW:Hid (Below w.heap.size w w1):=hbw
  have HS1:Hid (Strs w1 (some ⟨b,o,none⟩) l):=HS.out.below hbw
  clear hsc hbq hbw HR
  by_cases hil:i < l.length
  ·have q3 : w1.cell? ⟨b, o + i, none⟩ = some (.string (txt l i)) := by
    rcases HS1.out with h0 | ⟨b',o',hp,_,hcell⟩
    ·rw [h0] at hil;exact absurd hil (Nat.not_lt_zero _)
    ·obtain ⟨rfl,rfl⟩:b=b'/\o=o':=by simpa using hp
     exact hcell i hil
   have HNAME:Hid (∀ W,Calls Tryz.prog 7 #[.string (txt l i)] W fun e w'=>e=.returned (.bool (isN (txt l i)))/\w'=W):=fun W=>isName_any _ W (HT.out i hil)
   have HTAKE:Hid ((l.take i).length=i):=by show _=_;rw [List.length_take];omega
   have HSUC:Hid (scanF l i (l.length - i)=if faultAt l i=0 then scanF l (i+1) (l.length - (i+1)) else (((faultAt l i:Nat):Int),(i:Int))):=by
    show _=_
    rw [show l.length - i=(l.length - (i+1))+1 by omega]
    rfl
   by_cases hN:isN (txt l i)=true
   ·by_cases hM:txt l i ∈ l.take i
    ·have HA : Hid (R = (6, (i : Int))) := by
      show _=_
      rw [<- HSC.out,HSUC.out,faultAt_twice hN hM,if_neg (by decide)]
      rfl
     have HIX:Hid (∀ W,Strs W (some ⟨b,o,none⟩) (l.take i)->Calls Tryz.prog 45 #[.slice (some ⟨b,o,none⟩) (l.take i).length c,.string (txt l i)] W fun e w'=>e=.returned (.int .i64 ((idxN (l.take i) (txt l i):Nat):Int))/\w'=W):=fun W hW=>index_hit _ _ c _ W (by rw [List.length_take];omega) hW hM
     rw [hN] at HNAME
     rw [HTAKE.out] at HIX
     have HST:Hid (Strs w1 (some ⟨b,o,none⟩) (l.take i)):=HS1.out.take i
     clear HSC HSUC HT HTAKE hN hM
     generalize idxN (l.take i) (txt l i)=k at *
     generalize txt l i=t at *
     go_wp2_with fail
     refine (HNAME.out _).mono ?_
     rintro e w2 ⟨rfl,hw2⟩
     rw [hw2]
     clear hw2 w2 HNAME
     go_wp2
     go_quiet ((go_at_call 45;exact Calls.quiet_of_same (HIX.out _ (HST.out.drewN _))))
     go_wp2
     refine bodyPost_ret (v:=.agg #[.int .i64 R.1,.int .i64 R.2]) (by rw [HA.out];simp [results,Tryz.results27,go_sem,q1,q2]) rfl ⟨rfl,?_⟩
     exact pair_set (below_drewN HBW.out _) _ _
    ·have HA : Hid (scanF l (i + 1) (l.length - (i + 1)) = R) := by
      show _=_
      rw [<- HSC.out,HSUC.out,faultAt_fine hN hM,if_pos rfl]
     have HIX:Hid (∀ W,Strs W (some ⟨b,o,none⟩) (l.take i)->Calls Tryz.prog 45 #[.slice (some ⟨b,o,none⟩) (l.take i).length c,.string (txt l i)] W fun e w'=>e=.returned (.int .i64 (-1))/\w'=W):=fun W hW=>index_miss _ _ c _ W (by rw [List.length_take];omega) hW hM
     rw [hN] at HNAME
     rw [HTAKE.out] at HIX
     have HST:Hid (Strs w1 (some ⟨b,o,none⟩) (l.take i)):=HS1.out.take i
     clear HSC HSUC HT HTAKE hN hM
     generalize txt l i=t at *
     go_wp2_with fail
     refine (HNAME.out _).mono ?_
     rintro e w2 ⟨rfl,hw2⟩
     rw [hw2]
     clear hw2 w2 HNAME
     go_wp2
     go_quiet ((go_at_call 45;exact Calls.quiet_of_same (HIX.out _ (HST.out.drewN _))))
     go_wp2
     go_roundw
     case rel=>exact ⟨i+1,by omega,by go_num,HA.out,below_drewN HBQ.out _⟩
     case measure=>simp [intOf];omega
   ·have hN':isN (txt l i)=false:=Bool.eq_false_iff.2 hN
    have HA:Hid (R=(4,(i:Int))):=by
     show _=_
     rw [<- HSC.out,HSUC.out,faultAt_name hN',if_neg (by decide)]
     rfl
    rw [hN'] at HNAME
    clear HSC HSUC HT HTAKE hN hN'
    generalize txt l i=t at *
    go_wp2_with fail
    refine (HNAME.out _).mono ?_
    rintro e w2 ⟨rfl,hw2⟩
    rw [hw2]
    clear hw2 w2 HNAME
    go_wp2
    refine bodyPost_ret (v:=.agg #[.int .i64 R.1,.int .i64 R.2]) (by rw [HA.out];simp [results,Tryz.results27,go_sem,q1,q2]) rfl ⟨rfl,?_⟩
    exact pair_set HBW.out _ _
  ·have hie:i=l.length:=by omega
   subst hie
   have HA:Hid (R=(0,-1)):=by
    show _=_
    rw [<- HSC.out,Nat.sub_self]
    rfl
   clear HSC
   go_wp2_with fail
   refine (fine_any _).mono ?_
   rintro e w2 ⟨rfl,hb2⟩
   obtain ⟨⟨r1,r2,e1,e2⟩,hbw⟩:=HK.out w2 (HBQ.out.trans (hb2.mono HBQ.out.size))
   clear q1 q2 f1 f2 hb2
   go_wp2
   refine bodyPost_ret (v:=.agg #[.int .i64 R.1,.int .i64 R.2]) (by rw [HA.out];simp [results,Tryz.results27,go_sem,r1,r2]) rfl ⟨rfl,?_⟩
   exact pair_set hbw _ _
theorem nodesFault_any (p:Option Addr) (l:List ByteArray) (c:Nat) (w:World) (hl:l.length<=1000000) (hc:l.length<=c) (ht:∀ x ∈ l,x.size<=1000000) (hs:Strs w p l) :
 Calls Tryz.prog 27 #[.slice p l.length c] w fun e w'=>e=.returned (.agg #[.int .i64 (nodesF l).1,.int .i64 (nodesF l).2])/\Below w.heap.size w w':=by
 by_cases h:l.length < 1∨16 < l.length
 ·rw [nodesF_bound h]
  exact nodesFault_bound p l c w hl h
 ·rw [nodesF_scan (by omega) (by omega)]
  exact nodesFault_scan p l c w (by omega) (by omega) hc ht hs
end Go.Proofs.YtghpdhegfnhmkaaGreatDoor
