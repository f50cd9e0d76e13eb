import Derived.Test.YtghpdhegfnhmkaaGreatDoorS12
import Derived.Test.YtghpdhegfnhmkaaGreatDoorS4
import Derived.Test.YtghpdhegfnhmkaaGreatDoorS3
namespace Go.Proofs.YtghpdhegfnhmkaaGreatDoor
open Go.RowKit
structure Frame (S:Nat->Prop) (w w':World):Prop where
 os:w'.os=w.os
 tape:w'.tape=w.tape
 output:w'.output=w.output
 size:w.heap.size<=w'.heap.size
 block:∀ k,k < w.heap.size->¬ S k->w'.heap[k]?=w.heap[k]?
theorem Frame.trans {S:Nat->Prop} {a b c:World} (h:Frame S a b) (k:Frame S b c):Frame S a c :=
 ⟨k.os.trans h.os,k.tape.trans h.tape,k.output.trans h.output,Nat.le_trans h.size k.size,fun i hi hne=>(k.block i (Nat.lt_of_lt_of_le hi h.size) hne).trans (h.block i hi hne)⟩
theorem frame_below {S:Nat->Prop} {w w':World} (h:Below w.heap.size w w'):Frame S w w':=⟨h.os,h.tape,h.output,h.size,fun i hi _=>h.block i hi⟩
theorem frame_grown {S:Nat->Prop} {w w':World} {row:Nat} (h:w.grownBy w' (some row)) (hr:S row):Frame S w w':=⟨h.os,h.tape,h.output,h.size,fun i hi hn=>h.block i hi (fun e=>hn (by rw [Option.some.inj e];exact hr))⟩
theorem Frame.cell {S:Nat->Prop} {w w':World} (h:Frame S w w') {b o:Nat} {v:Value} (hv:w.cell? ⟨b,o,none⟩=some v) (hn:¬ S b):w'.cell? ⟨b,o,none⟩=some v :=
 (World.cell?_of_block (a:=⟨b,o,none⟩) (h.block b (lt_of_cell hv) hn)).trans hv
theorem Frame.below {S:Nat->Prop} {w w':World} (h:Frame S w w') {B:Nat} (hB:∀ k,S k->B<=k) (hw:B<=w.heap.size):Below B w w':=⟨h.os,h.tape,h.output,h.size,fun k hk=>h.block k (by omega) (fun hs=>by have:=hB k hs;omega)⟩
def liftF (g:Nat->Nat->Nat) (d p k:Nat):Nat->Nat->Nat:=fun i j=>if i=d then Gf.mul (Gf.inv (g p k)) (g p j) else if i=p then g d j else g i j
def clearF (h:Nat->Nat->Nat) (d k:Nat):Nat->Nat->Nat:=fun i j=>if i=d then h i j else h i j ^^^ Gf.mul (h i k) (h d j)
theorem liftF_lt {g:Nat->Nat->Nat} (h:∀ i j,g i j < 256) (d p k i j:Nat):liftF g d p k i j < 256:=by
 unfold liftF
 split
 ·exact Gf.mul_lt (Gf.inv_lt _) _
 ·split <;> exact h _ _
theorem clearF_lt {g:Nat->Nat->Nat} (h:∀ i j,g i j < 256) (d k i j:Nat):clearF g d k i j < 256:=by
 unfold clearF
 split
 ·exact h _ _
 ·exact Gf.xlt (h _ _) (Gf.mul_lt (h _ _) _)
def swapF {α:Type} (g:Nat->α) (d p:Nat):Nat->α:=fun i=>if i=d then g p else if i=p then g d else g i
theorem swapF_eq {α:Type} (g:Nat->α) (d p i:Nat):swapF g d p i=g (if i=d then p else if i=p then d else i):=by
 unfold swapF
 by_cases a:i=d
 ·rw [if_pos a,if_pos a]
 ·by_cases b:i=p
  ·rw [if_neg a,if_neg a,if_pos b,if_pos b]
  ·rw [if_neg a,if_neg a,if_neg b,if_neg b]
theorem swap_lt {d p i r:Nat} (hd:d < r) (hp:p < r) (hi:i < r):(if i=d then p else if i=p then d else i) < r:=by
 by_cases a:i=d
 ·rw [if_pos a];exact hp
 ·by_cases b:i=p
  ·rw [if_neg a,if_pos b];exact hd
  ·rw [if_neg a,if_neg b];exact hi
theorem swap_inj {d p i j:Nat} (h:(if i=d then p else if i=p then d else i)=(if j=d then p else if j=p then d else j)):i=j:=by
 split at h <;> split at h <;> (try split at h) <;> (try split at h) <;> omega
theorem OwnK.swap {w w':World} {B gm:Nat} {gs:Nat->Nat} {r n d p:Nat} {f:Nat->Nat->Nat} (h:OwnK w B gm gs r n f) (hd:d < r) (hp:p < r) (hk:∀ i,i < r->OwnN w' B 5 (gs i) n (rowFn n (f i))):OwnK w' B gm (swapF gs d p) r n (swapF f d p) where
 row:=fun i hi=>by rw [swapF_eq,swapF_eq];exact hk _ (swap_lt hd hp hi)
 ne:=fun i hi=>by rw [swapF_eq];exact h.ne _ (swap_lt hd hp hi)
 inj:=fun i j hi hj e=>by rw [swapF_eq,swapF_eq] at e;exact swap_inj (h.inj _ _ (swap_lt hd hp hi) (swap_lt hd hp hj) e)
theorem OwnG.swap {w:World} {B gm:Nat} {gs:Nat->Nat} {r n d p:Nat} {f:Nat->Nat->Nat} (h:OwnG w B gm gs r n f) (hd:d < r) (hp:p < r):OwnG ((w.setCell ⟨gm,d,none⟩ (rowV n (gs p))).setCell ⟨gm,p,none⟩ (rowV n (gs d))).drew B gm (swapF gs d p) r n (swapF f d p):=by
 have hg:w.grownBy ((w.setCell ⟨gm,d,none⟩ (rowV n (gs p))).setCell ⟨gm,p,none⟩ (rowV n (gs d))).drew (some gm):=grown_trans (grown_set _ _ _ _) (grown_trans (grown_set _ _ _ _) (grownBy_drewN _ 1 _))
 refine ⟨?_,h.all.swap hd hp (fun i hi=>kept_of_grown (h.all.row i hi) hg (h.all.ne i hi))⟩
 refine OwnS.congr (OwnS.kept ((h.rows.set d (rowV n (gs p))).set p (rowV n (gs d))) (grownBy_drewN _ 1 none) (by simp)) (fun i _=>?_)
 unfold swapF
 by_cases e:i=p
 ·by_cases e':i=d
  ·rw [if_pos e,if_pos e',<- e,<- e']
  ·rw [if_pos e,if_neg e',if_pos e]
 ·by_cases e':i=d
  ·rw [if_neg e,if_pos e',if_pos e']
  ·rw [if_neg e,if_neg e',if_neg e',if_neg e]
theorem OwnG.change {w w':World} {B gm:Nat} {gs:Nat->Nat} {r n d:Nat} {f:Nat->Nat->Nat} {v:Nat->Nat} (h:OwnG w B gm gs r n f) (hd:d < r) (hg:w.grownBy w' (some (gs d))) (hn:OwnN w' B 5 (gs d) n (rowFn n v)):OwnG w' B gm gs r n (fun i=>if i=d then v else f i) where
 rows:=h.rows.kept hg (fun e=>h.all.ne d hd (Option.some.inj e))
 all:=⟨fun i hi=>by
  by_cases e:i=d
  ·simp only [e,if_true];exact hn
  ·simp only [e,if_false];exact kept_of_grown (h.all.row i hi) hg (fun e'=>e (h.all.inj i d hi hd e')),h.all.ne,h.all.inj⟩
theorem OwnG.congr {w:World} {B gm:Nat} {gs:Nat->Nat} {r n:Nat} {f f':Nat->Nat->Nat} (h:OwnG w B gm gs r n f) (he:∀ i j,f i j=f' i j):OwnG w B gm gs r n f':=by
 have:f=f':=funext fun i=>funext fun j=>he i j
 rw [<- this];exact h
set_option maxRecDepth 10000 in
theorem lift1_any (ps pr g n j s x:Nat) (w:World) (hs:w.cell? ⟨ps,0,none⟩=some (.int .u8 (s:Int))) (hr:w.cell? ⟨pr,0,none⟩=some (.slice (some ⟨g,0,none⟩) n n)) (hx:w.cell? ⟨g,j,none⟩=some (.int .u8 (x:Int))) (hj:j < n) (ls:s < 256) (lx:x < 256) :
 Calls Tryz.prog 142 #[.int .i64 (j:Int),.pointer (some ⟨ps,0,none⟩),.pointer (some ⟨pr,0,none⟩)] w fun e w2=>e=.returned (.int .u8 ((Gf.mul s x:Nat):Int))/\Below w.heap.size w w2:=by
 go_enter Tryz.func142,Tryz.ntmps142
 go_wp2
 go_quiet ((go_at_call 113;exact Calls.quiet_of_same (mul_any s x _ ls lx)))
 go_wp2
 go_ret
 exact ⟨rfl,below_drewN (Below.refl _ _) _⟩
set_option maxRecDepth 10000 in
set_option maxHeartbeats 4000000 in
theorem lift_any (S:Nat->Prop) (B gm:Nat) (gs:Nat->Nat) (r n d c:Nat) (f:Nat->Nat->Nat) (z:Addr) (w:World) (hr:r<=1000) (hn:n<=1000) (hd:d<=r) (hc:c < n) (hf:∀ i j,f i j < 256) (hG:OwnG w B gm gs r n f) (hSm:S gm) (hSg:∀ i,i < r->S (gs i)) (hgE:11 < B)
 (hz:w.cell? ⟨11,0,none⟩=some (.iface 218 (.pointer (some z)))) :
 Calls Tryz.prog 132 #[.slice (some ⟨gm,0,none⟩) r r,.int .i64 (d:Int),.int .i64 (c:Int)] w fun e w'=>Frame S w w' /\
  ((e=.returned (.bool false)/\(∀ i,d<=i->i < r->f i c=0)/\OwnG w' B gm gs r n f) ∨
   (e=.returned (.bool true)/\∃ p gs',d<=p/\p < r/\f p c≠0/\(∀ i,i < r->S (gs' i))/\OwnG w' B gm gs' r n (liftF f d p c))):=by
 have HG:Hid (OwnG w B gm gs r n f):=hG
 have HZ:Hid (w.cell? ⟨11,0,none⟩=some (.iface 218 (.pointer (some z)))):=hz
 clear hG hz
 go_enter Tryz.func132,Tryz.ntmps132
 go_wp2
 go_loopw [7] (fun x wr=>∃ i:Nat,d<=i/\i<=r/\x=.int .i64 i/\(∀ i',d<=i'->i' < i->f i' c=0)/\Below w.heap.size w wr) (fun x _=>r - (intOf x).toNat)
 case atStart=>exact ⟨d,Nat.le_refl _,hd,rfl,fun i' h1 h2=>by omega,Below.refl _ _⟩
 case round =>
  obtain ⟨i,hdi,hir,rfl,h0,hB⟩:=hrel
  obtain ⟨w3,rfl⟩:∃ w3,w3=wr:=⟨_,rfl⟩
  have H0:Hid (∀ i',d<=i'->i' < i->f i' c=0):=h0
  have HB:Hid (Below w.heap.size w w3):=hB
  have HG3:Hid (OwnG w3 B gm gs r n f):=HG.out.below hB
  clear h0 hB
  by_cases hlt:i < r
  ·have c1:w3.cell? ⟨gm,i,none⟩=some (.slice (some ⟨gs i,0,none⟩) n n):=HG3.out.rows.cell i hlt
   have c2:w3.cell? ⟨gs i,c,none⟩=some (.int .u8 ((f i c:Nat):Int)):=by rw [(HG3.out.all.row i hlt).cell c hc (rowFn_length _ _),nth_rowFn _ _ c hc]
   have lx:=hf i c
   by_cases hx:f i c=0
   ·have hz3:w3.cell? ⟨11,0,none⟩=some (.iface 218 (.pointer (some z))):=(HB.out.cell (p:=⟨11,0,none⟩) (by have:=HG.out.rows.lt;show 11 < _;omega)).trans HZ.out
    have HX:Hid (f i c=0):=hx
    rw [hx] at c2
    clear hx lx
    go_wp2_with (go_at_call 141;refine (inv_zero z _ hz3).mono ?_;rintro e w4 ⟨rfl,hb4⟩)
    go_roundw
    case rel =>
     refine ⟨i+1,by omega,by omega,by go_num,fun i' h1 h2=>?_,?_⟩
     ·by_cases e:i'=i
      ·rw [e];exact HX.out
      ·exact H0.out i' h1 (by omega)
     ·exact (HB.out.trans (hb4.mono HB.out.size)).alloc (by have:=hb4.size;have:=HB.out.size;omega) _
    case measure=>simp [intOf];omega
   ·have HX:Hid (f i c≠0):=hx
    have HI:=inv_any (f i c) w3 lx hx
    clear hx
    go_wp2_with (first | (go_at_call 141;refine HI.mono ?_;rintro e w4 ⟨rfl,rfl⟩))
    clear HI c1 c2
    have hdr:d < r:=by omega
    have lv:=Gf.inv_lt (f i c)
    obtain ⟨w5,hw5⟩:∃ w5,w5=w4.alloc (.cells #[.int .u8 ((Gf.inv (f i c):Nat):Int)] 5):=⟨_,rfl⟩
    rw [<- hw5]
    have hb5:Below w4.heap.size w4 w5:=by rw [hw5];exact (Below.refl _ _).alloc (Nat.le_refl _) _
    have hz5:w5.heap.size=w4.heap.size+1:=by rw [hw5];simp
    have hs5:w5.cell? ⟨w4.heap.size,0,none⟩=some (.int .u8 ((Gf.inv (f i c):Nat):Int)):=by rw [hw5,World.cell?_alloc_at _ _ _ _ rfl];rfl
    have HG5:Hid (OwnG w5 B gm gs r n f):=HG3.out.below hb5
    have HF5:Hid (Frame S w w5):=frame_below (HB.out.trans (hb5.mono HB.out.size))
    have hgm4:gm < w4.heap.size:=HG3.out.rows.lt.2
    have hgi4:gs i < w4.heap.size:=(HG3.out.all.row i hlt).lt.2
    clear hw5 hb5
    have d1:w5.cell? ⟨gm,i,none⟩=some (.slice (some ⟨gs i,0,none⟩) n n):=HG5.out.rows.cell i hlt
    have d2:w5.cell? ⟨gm,d,none⟩=some (.slice (some ⟨gs d,0,none⟩) n n):=HG5.out.rows.cell d hdr
    have f1:w5.frozen? ⟨gm,i,none⟩=false:=HG5.out.rows.free i
    have f2:w5.frozen? ⟨gm,d,none⟩=false:=HG5.out.rows.free d
    obtain ⟨v',hv'⟩:=cell?_setCell_some (w:=w5) (p:=⟨gm,d,none⟩) (x:=.slice (some ⟨gs i,0,none⟩) n n) (q:=⟨gm,i,none⟩) (v:=.slice (some ⟨gs i,0,none⟩) n n) d1
    go_region
    obtain ⟨w6,hw6⟩:∃ w6,w6=((w5.setCell ⟨gm,d,none⟩ (.slice (some ⟨gs i,0,none⟩) n n)).setCell ⟨gm,i,none⟩ (.slice (some ⟨gs d,0,none⟩) n n)).drew:=⟨_,rfl⟩
    rw [<- hw6]
    have HG6:Hid (OwnG w6 B gm (swapF gs d i) r n (swapF f d i)):=by
     show OwnG _ _ _ _ _ _ _
     rw [hw6]
     exact HG5.out.swap hdr hlt
    have hg6:w5.grownBy w6 (some gm):=by
     rw [hw6]
     exact grown_trans (grown_set _ _ _ _) (grown_trans (grown_set _ _ _ _) (grownBy_drewN _ 1 _))
    have hs6:w6.cell? ⟨w4.heap.size,0,none⟩=some (.int .u8 ((Gf.inv (f i c):Nat):Int)):=hg6.cell hs5 (by show some w4.heap.size≠_;intro e;have:=Option.some.inj e;omega)
    have HF6:Hid (Frame S w w6):=HF5.out.trans (frame_grown hg6 hSm)
    have hz6:w5.heap.size<=w6.heap.size:=hg6.size
    clear hw6 hg6 d1 d2 f1 f2 hv' hs5 HG5 HF5
    have sd:swapF gs d i d=gs i:=if_pos rfl
    have sf:swapF f d i d=f i:=if_pos rfl
    have c6:w6.cell? ⟨gm,d,none⟩=some (.slice (some ⟨gs i,0,none⟩) n n):=by have:=HG6.out.rows.cell d hdr;rw [sd] at this;exact this
    obtain ⟨w7,hw7⟩:∃ w7,w7=w6.alloc (.cells #[.slice (some ⟨gs i,0,none⟩) n n] 76):=⟨_,rfl⟩
    have hb7:Below w6.heap.size w6 w7:=by rw [hw7];exact (Below.refl _ _).alloc (Nat.le_refl _) _
    have hz7:w7.heap.size=w6.heap.size+1:=by rw [hw7];simp
    have hr7:w7.cell? ⟨w6.heap.size,0,none⟩=some (.slice (some ⟨gs i,0,none⟩) n n):=by rw [hw7,World.cell?_alloc_at _ _ _ _ rfl];rfl
    have hs7:w7.cell? ⟨w4.heap.size,0,none⟩=some (.int .u8 ((Gf.inv (f i c):Nat):Int)):=(hb7.cell (p:=⟨w4.heap.size,0,none⟩) (by show w4.heap.size < _;omega)).trans hs6
    have HG7:Hid (OwnG w7 B gm (swapF gs d i) r n (swapF f d i)):=HG6.out.below hb7
    have HF7:Hid (Frame S w w7):=HF6.out.trans (frame_below hb7)
    have HN7:Hid (OwnN w7 B 5 (gs i) n (rowFn n (f i))):=by have:=HG7.out.all.row d hdr;rw [sd,sf] at this;exact this
    have HCC:Hid (∀ j,j < n->∀ w1,w7.grownBy w1 (some (gs i))->OwnN w1 B 5 (gs i) n (rowFn n (fun l=>if l < j then Gf.mul (Gf.inv (f i c)) (f i l) else f i l)) ->
     Calls Tryz.prog 142 (#[.int .i64 (j:Int)] ++ #[.pointer (some ⟨w4.heap.size,0,none⟩),.pointer (some ⟨w6.heap.size,0,none⟩)]) w1 fun e w2=>e=.returned (.int .u8 ((Gf.mul (Gf.inv (f i c)) (f i j):Nat):Int))/\Below w1.heap.size w1 w2):=by
     intro j hj w1 hg1 hO1
     refine lift1_any w4.heap.size w6.heap.size (gs i) n j (Gf.inv (f i c)) (f i j) w1 (hg1.cell hs7 (by show some w4.heap.size≠_;intro e;have:=Option.some.inj e;omega)) (hg1.cell hr7 (by show some w6.heap.size≠_;intro e;have:=Option.some.inj e;omega)) ?_ hj lv (hf i j)
     rw [hO1.cell j hj (rowFn_length _ _),nth_rowFn _ _ j hj,if_neg (Nat.lt_irrefl _)]
    have HFR:Hid (w7=w6.alloc (.cells #[.slice (some ⟨gs i,0,none⟩) n n] 76)):=hw7
    clear hw7 hb7 hs6 hr7 hs7 HG6 HF6 sd sf hf
    go_wp2_with (go_at_call 130;rw [<- HFR.out];refine (change_any (gs i) n B (f i) (fun l=>Gf.mul (Gf.inv (f i c)) (f i l)) 142 #[.pointer (some ⟨w4.heap.size,0,none⟩),.pointer (some ⟨w6.heap.size,0,none⟩)] w7 hn (enters_of Tryz.func142 (by kernel_rfl) rfl) HN7.out HCC.out).mono ?_;rintro e w8 ⟨rfl,hN8,hg8⟩)
    go_ret
    have sd:swapF gs d i d=gs i:=if_pos rfl
    refine ⟨HF7.out.trans (frame_grown hg8 (hSg i hlt)),Or.inr ⟨rfl,i,swapF gs d i,hdi,hlt,HX.out,fun i' hi'=>by rw [swapF_eq];exact hSg _ (swap_lt hdr hlt hi'),?_⟩⟩
    refine OwnG.congr (HG7.out.change (v:=fun l=>Gf.mul (Gf.inv (f i c)) (f i l)) hdr (by rw [sd];exact hg8) (by rw [sd];exact hN8)) (fun i' j=>?_)
    unfold liftF swapF
    by_cases e:i'=d
    ·rw [if_pos e,if_pos e]
    ·by_cases e':i'=i
     ·rw [if_neg e,if_neg e,if_neg e,if_pos e',if_pos e']
     ·rw [if_neg e,if_neg e,if_neg e,if_neg e',if_neg e']
  ·have hke:i=r:=by omega
   subst hke
   go_wp2
   go_ret
   exact ⟨frame_below HB.out,Or.inl ⟨rfl,H0.out,HG3.out⟩⟩
end Go.Proofs.YtghpdhegfnhmkaaGreatDoor
