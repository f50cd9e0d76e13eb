import Derived.Test.YtmhoiodfppdlnaaGreatDoorCy22
import Derived.Test.YtmhoiodfppdlnaaGreatDoorCy37
namespace Go.Proofs.YtmhoiodfppdlnaaGreatDoor
open Go.RowKit
set_option maxRecDepth 10000 in
set_option maxHeartbeats 4000000 in
theorem ebest_any (ad:Nat->Addr) (z:Addr) (c:Cfg) (mp:Option Addr) (mc:Nat) (p:Option Addr) (LL:List (List Ver)) (cl:Nat) (w:World) (ht:TldOk w ad z c mp mc p LL) :
 Calls Tryz.prog 37 (#[.agg #[.int .i64 c.n,.int .i64 c.k,.slice mp c.L.length mc],.slice p LL.length cl] ++ #[]) w fun e w'=>e=.returned (chosen false 0 ⟨#[]⟩ c LL)/\Below w.heap.size w w':=by
 show Calls Tryz.prog 37 #[.agg #[.int .i64 c.n,.int .i64 c.k,.slice mp c.L.length mc],.slice p LL.length cl] w _
 obtain ⟨hc,hf,hL,hn,hm1,hm2,_,hin,hE,hZ⟩:=ht
 have hch:chosen false 0 ⟨#[]⟩ c LL=.agg #[.int .i64 (bestF c.n.toNat c.k.toNat LL.flatten LL.flatten).1.1,.int .i64 (bestF c.n.toNat c.k.toNat LL.flatten LL.flatten).1.2,.string (bestF c.n.toNat c.k.toNat LL.flatten LL.flatten).2.1,.bool (bestF c.n.toNat c.k.toNat LL.flatten LL.flatten).2.2]:=rfl
 rw [hch]
 obtain ⟨wa,hwa⟩:∃ wa,wa=w.alloc (.cells #[.int .i64 c.n,.int .i64 c.k,.slice mp c.L.length mc] 24):=⟨_,rfl⟩
 have hba:Below w.heap.size w wa:=by rw [hwa];exact (Below.refl _ _).alloc (Nat.le_refl _) _
 have hza:wa.heap.size=w.heap.size+1:=by rw [hwa];simp
 obtain ⟨w0,hw0⟩:∃ w0,w0=wa.alloc (.cells #[.int .i64 0,.int .i64 0,.string ⟨#[]⟩,.bool false] 80):=⟨_,rfl⟩
 have hba0:Below wa.heap.size wa w0:=by rw [hw0];exact (Below.refl _ _).alloc (Nat.le_refl _) _
 have hb0:Below w.heap.size w w0:=hba.trans (hba0.mono hba.size)
 have hlt0:w.heap.size+1 < w0.heap.size:=by rw [hw0];simp [hza]
 have hbl0:w0.heap[w.heap.size+1]?=some (.cells #[.int .i64 0,.int .i64 0,.string ⟨#[]⟩,.bool false] 80 (0,0)):=by
  rw [hw0,<- hza]
  show (wa.heap.push _)[wa.heap.size]?=_
  simp
 have hcb:w0.heap[w.heap.size]?=some (.cells #[.int .i64 c.n,.int .i64 c.k,.slice mp c.L.length mc] 24 (0,0)):=by
  rw [hba0.block _ (by omega),hwa]
  show (w.heap.push _)[w.heap.size]?=_
  simp
 have g0:w0.cell? ⟨w.heap.size,0,none⟩=some (.int .i64 c.n):=by simp [World.cell?,hcb]
 have g1:w0.cell? ⟨w.heap.size,1,none⟩=some (.int .i64 c.k):=by simp [World.cell?,hcb]
 have g2:w0.cell? ⟨w.heap.size,2,none⟩=some (.slice mp c.L.length mc):=by simp [World.cell?,hcb]
 have hZ0:w0.cell? ⟨11,0,none⟩=some (.iface 252 (.pointer (some z))):=(hb0.cell (p:=⟨11,0,none⟩) (lt_cellE hZ)).trans hZ
 obtain ⟨e1,e2⟩:=bestE_fine hf hn
 have HBS:=best_any ad c mp mc LL p cl w0 (hc.below hb0) (hL.below hb0) hm1 hm2 hin (hE.below hb0) z hZ0
 rw [e1,e2] at HBS
 unfold cfgA at HBS
 generalize bestF c.n.toNat c.k.toNat LL.flatten LL.flatten=R at *
 obtain ⟨⟨t1,t2⟩,tx,fd⟩:=R
 dsimp only at *
 have HBT:Hid (Calls Tryz.prog 58 #[.agg #[.int .i64 c.n,.int .i64 c.k,.slice mp c.L.length mc],.slice p LL.length cl] w0 fun e w'=>e=.returned (.tuple #[.agg #[.int .i64 t1,.int .i64 t2],.string tx,.bool fd,.nilIface])/\Below w.heap.size w w'/\w'.heap[w.heap.size+1]?=some (.cells #[.int .i64 0,.int .i64 0,.string ⟨#[]⟩,.bool false] 80 (0,0))):=HBS.mono fun e w' hp=>by
  obtain ⟨⟨ev,h1,h2⟩,h3⟩:=hp
  obtain rfl:=ErrIs.isNil h2
  exact ⟨h1,hb0.trans (h3.mono hb0.size),(h3.block _ hlt0).trans hbl0⟩
 have HWA:Hid (wa=w.alloc (.cells #[.int .i64 c.n,.int .i64 c.k,.slice mp c.L.length mc] 24)):=hwa
 have HW0:Hid (w0=wa.alloc (.cells #[.int .i64 0,.int .i64 0,.string ⟨#[]⟩,.bool false] 80)):=hw0
 have HZA:Hid (wa.heap.size=w.heap.size+1):=hza
 clear HBS hc hL hin hE hZ hZ0 hw0 hb0 hbl0 hlt0 e1 e2 hf hn hwa hba hza hba0 hcb hch
 go_enter Tryz.func37,Tryz.ntmps37
 go_wp2_with (first | rw [<- HWA.out] | rw [<- HW0.out,HZA.out] | fail)
 refine HBT.out.mono ?_
 rintro e w1 ⟨rfl,hb1,hbl1⟩
 obtain ⟨w2,hw2⟩:∃ w2,w2=w1.alloc (.cells #[.int .i64 t1,.int .i64 t2] 46):=⟨_,rfl⟩
 have hz1:w.heap.size+1 < w1.heap.size:=by
  rcases Nat.lt_or_ge (w.heap.size+1) w1.heap.size with h | h
  ·exact h
  ·rw [Array.getElem?_eq_none h] at hbl1;cases hbl1
 have hb2:Below w1.heap.size w1 w2:=by rw [hw2];exact (Below.refl _ _).alloc (Nat.le_refl _) _
 have hbl2:=(hb2.block _ hz1).trans hbl1
 have c0:w2.cell? ⟨w1.heap.size,0,none⟩=some (.int .i64 t1):=by rw [hw2,World.cell?_alloc_at _ _ _ _ rfl];rfl
 have c1:w2.cell? ⟨w1.heap.size,1,none⟩=some (.int .i64 t2):=by rw [hw2,World.cell?_alloc_at _ _ _ _ rfl];rfl
 have k0:w2.cell? ⟨w.heap.size+1,0,none⟩=some (.int .i64 0):=by simp [World.cell?,hbl2]
 have k1:w2.cell? ⟨w.heap.size+1,1,none⟩=some (.int .i64 0):=by simp [World.cell?,hbl2]
 have k2:w2.cell? ⟨w.heap.size+1,2,none⟩=some (.string ⟨#[]⟩):=by simp [World.cell?,hbl2]
 have k3:w2.cell? ⟨w.heap.size+1,3,none⟩=some (.bool false):=by simp [World.cell?,hbl2]
 have f0:w2.frozen? ⟨w.heap.size+1,0,none⟩=false:=by simp [World.frozen?,hbl2]
 have f1:w2.frozen? ⟨w.heap.size+1,1,none⟩=false:=by simp [World.frozen?,hbl2]
 have f2:w2.frozen? ⟨w.heap.size+1,2,none⟩=false:=by simp [World.frozen?,hbl2]
 have f3:w2.frozen? ⟨w.heap.size+1,3,none⟩=false:=by simp [World.frozen?,hbl2]
 have HB9:Hid (Below w.heap.size w ((((w2.setCell ⟨w.heap.size+1,0,none⟩ (.int .i64 t1)).setCell ⟨w.heap.size+1,1,none⟩ (.int .i64 t2)).setCell ⟨w.heap.size+1,2,none⟩ (.string tx)).setCell ⟨w.heap.size+1,3,none⟩ (.bool fd))):=((((hb1.trans (hb2.mono hb1.size)).setCell (by show w.heap.size<=w.heap.size+1;omega) _).setCell (by show w.heap.size<=w.heap.size+1;omega) _).setCell (by show w.heap.size<=w.heap.size+1;omega) _).setCell (by show w.heap.size<=w.heap.size+1;omega) _
 have HW2:Hid (w2=w1.alloc (.cells #[.int .i64 t1,.int .i64 t2] 46)):=hw2
 clear hw2 hb2 hbl1 hbl2 hb1 HBT g0 g1 g2
 go_wp2_with (first | rw [<- HW2.out] | fail)
 exact bodyPost_ret (v:=.agg #[.int .i64 t1,.int .i64 t2,.string tx,.bool fd]) (by simp [results,Tryz.results37,go_sem,k0,k1,k2,k3]) rfl ⟨rfl,HB9.out⟩
theorem best_do (w:World) (S0:Nat->Prop) (who:Int) (text:ByteArray):ChDo w S0 false who text (.func (.func 37) #[] #[]) :=
 ⟨_,_,rfl,fun args W=>by kernel_rfl,fun W _ ad z c mp mc p LL cl ht=>ebest_any ad z c mp mc p LL cl W ht⟩
end Go.Proofs.YtmhoiodfppdlnaaGreatDoor
