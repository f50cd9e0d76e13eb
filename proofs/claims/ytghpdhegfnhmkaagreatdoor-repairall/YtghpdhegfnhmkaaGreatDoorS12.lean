import Derived.Test.YtghpdhegfnhmkaaGreatDoorS6
import Derived.Test.YtghpdhegfnhmkaaGreatDoorS0
import Derived.RegionTactic
import Derived.BigRegion
import Derived.Shelf.Abstract
namespace Go.Proofs.YtghpdhegfnhmkaaGreatDoor
open Go.RowKit
theorem kept_of_grown {w w':World} {B:Nat} {E:TypeId} {g n:Nat} {l:List Nat} {row:Nat} (h:OwnN w B E g n l) (hg:w.grownBy w' (some row)) (hne:g≠row):OwnN w' B E g n l :=
 World.ownsRow.kept h hg (Or.inr (fun e=>hne (Option.some.inj e)))
def OwnS (w:World) (B gm r:Nat) (vf:Nat->Value):Prop:=w.ownsRow B 76 1 (.slice (some ⟨gm,0,none⟩) r r) r ((List.range r).map vf)
theorem OwnS.made (w:World) (B r:Nat) (hB:B<=w.heap.size) (hr:r<=1000000):OwnS (w.alloc (.cells (madeCells #[.slice none 0 0] r) 76)) B w.heap.size r (fun _=>.slice none 0 0):=by
 have h:=World.ownsRow_lit (base:=B) (e:=76) (size:=1) w (madeCells #[.slice none 0 0] r) r hB (by unfold maxLen;omega) (by have:=congrArg List.length (toList_madeCells_one (.slice none 0 0) r);simpa using this)
 rw [toList_madeCells_one] at h
 unfold OwnS
 rw [List.map_const',List.length_range]
 exact h
theorem OwnS.cell {w:World} {B gm r:Nat} {vf:Nat->Value} (h:OwnS w B gm r vf) (j:Nat) (hj:j < r):w.cell? ⟨gm,j,none⟩=some (vf j):=by
 rw [World.ownsRow.cellAt (w:=w) h j (by omega),List.getElem?_map,List.getElem?_range hj]
 rfl
theorem OwnS.free {w:World} {B gm r:Nat} {vf:Nat->Value} (h:OwnS w B gm r vf) (j:Nat):w.frozen? ⟨gm,j,none⟩=false:=World.ownsRow.frozenAt (w:=w) h j
theorem OwnS.set {w:World} {B gm r:Nat} {vf:Nat->Value} (h:OwnS w B gm r vf) (j:Nat) (v:Value):OwnS (w.setCell ⟨gm,j,none⟩ v) B gm r (fun i=>if i=j then v else vf i):=by
 have:=(World.ownsRow.stored (w:=w) h j v).1
 rw [map_range_set] at this
 exact this
theorem OwnS.kept {w w':World} {B gm r:Nat} {vf:Nat->Value} {row:Option Nat} (h:OwnS w B gm r vf) (hg:w.grownBy w' row) (hne:row≠some gm):OwnS w' B gm r vf :=
 World.ownsRow.kept h hg (Or.inr (fun e=>hne e.symm))
theorem OwnS.below {w w':World} {B gm r:Nat} {vf:Nat->Value} (h:OwnS w B gm r vf) (hb:Below w.heap.size w w'):OwnS w' B gm r vf:=h.kept (below_grown hb none) (by simp)
theorem OwnS.congr {w:World} {B gm r:Nat} {vf vg:Nat->Value} (h:OwnS w B gm r vf) (he:∀ i,i < r->vf i=vg i):OwnS w B gm r vg:=by
 unfold OwnS
 rw [List.map_congr_left (g:=vf) (fun i hi=>(he i (List.mem_range.1 hi)).symm)]
 exact h
theorem OwnS.lt {w:World} {B gm r:Nat} {vf:Nat->Value} (h:OwnS w B gm r vf):B<=gm/\gm < w.heap.size:=World.ownsRow.lt h gm rfl
def rowV (n g:Nat):Value:=.slice (some ⟨g,0,none⟩) n n
structure OwnK (w:World) (B gm:Nat) (gs:Nat->Nat) (k n:Nat) (f:Nat->Nat->Nat):Prop where
 row:∀ i,i < k->OwnN w B 5 (gs i) n (rowFn n (f i))
 ne:∀ i,i < k->gs i≠gm
 inj:∀ i j,i < k->j < k->gs i=gs j->i=j
structure OwnG (w:World) (B gm:Nat) (gs:Nat->Nat) (r n:Nat) (f:Nat->Nat->Nat):Prop where
 rows:OwnS w B gm r (fun i=>rowV n (gs i))
 all:OwnK w B gm gs r n f
theorem OwnK.below {w w':World} {B gm:Nat} {gs:Nat->Nat} {k n:Nat} {f:Nat->Nat->Nat} (h:OwnK w B gm gs k n f) (hb:Below w.heap.size w w'):OwnK w' B gm gs k n f:=⟨fun i hi=>(h.row i hi).below hb,h.ne,h.inj⟩
theorem OwnG.below {w w':World} {B gm:Nat} {gs:Nat->Nat} {r n:Nat} {f:Nat->Nat->Nat} (h:OwnG w B gm gs r n f) (hb:Below w.heap.size w w'):OwnG w' B gm gs r n f:=⟨h.rows.below hb,h.all.below hb⟩
def matFn (r n:Nat) (f:Nat->Nat->Nat):List (List Nat):=(List.range r).map fun i=>rowFn n (f i)
theorem matFn_length (r n:Nat) (f:Nat->Nat->Nat):(matFn r n f).length=r:=by simp [matFn]
theorem rowOf_matFn (r n:Nat) (f:Nat->Nat->Nat) (i:Nat) (hi:i < r):rowOf (matFn r n f) i=rowFn n (f i):=by
 unfold rowOf matFn
 rw [List.getD_eq_getElem?_getD,List.getElem?_map,List.getElem?_range hi]
 rfl
theorem OwnG.mat {w:World} {B gm:Nat} {gs:Nat->Nat} {r n:Nat} {f:Nat->Nat->Nat} (h:OwnG w B gm gs r n f) (hf:∀ i j,f i j < 256) (k:Nat) (hk:k<=r):Mat w (some ⟨gm,0,none⟩) (matFn k n f):=by
 refine Or.inr ⟨gm,0,rfl,h.rows.lt.2,fun i hi=>?_⟩
 rw [matFn_length] at hi
 have hc:=h.rows.cell i (by omega)
 have ho:=h.all.row i (by omega)
 rw [rowOf_matFn _ _ _ i hi,rowFn_length,Nat.zero_add]
 refine ⟨_,_,hc,⟨rowFn_bytes _ _ (hf i),?_⟩,fun e=>by cases e⟩
 refine Or.inr ⟨gs i,0,rfl,ho.lt.2,fun j hj=>?_⟩
 rw [rowFn_length] at hj
 rw [Nat.zero_add]
 exact ho.cell j hj (rowFn_length _ _)
theorem OwnK.snoc {w w':World} {B gm:Nat} {gs:Nat->Nat} {k n g:Nat} {f:Nat->Nat->Nat} (h:OwnK w B gm gs k n f) (hg:∀ i,i < k->gs i≠g) (hgm:g≠gm) (hold:∀ i,i < k->OwnN w' B 5 (gs i) n (rowFn n (f i))) (hnew:OwnN w' B 5 g n (rowFn n (f k))):OwnK w' B gm (fun i=>if i=k then g else gs i) (k+1) n f where
 row:=fun i hi=>by
  by_cases e:i=k
  ·simp only [e,if_true];exact hnew
  ·simp only [e,if_false];exact hold i (by omega)
 ne:=fun i hi=>by
  by_cases e:i=k
  ·simp only [e,if_true];exact hgm
  ·simp only [e,if_false];exact h.ne i (by omega)
 inj:=fun i j hi hj=>by
  by_cases e:i=k <;> by_cases e':j=k <;> simp only [e,e',if_true,if_false]
  ·intro _;trivial
  ·intro e2;exact absurd e2.symm (hg j (by omega))
  ·intro e2;exact absurd e2 (hg i (by omega))
  ·exact h.inj i j (by omega) (by omega)
set_option maxRecDepth 10000 in
theorem build1_any (pa pi k j v:Nat) (fn:FuncId) (caps:Array Value) (w:World) (hent:∀ args W,Sem.run Tryz.prog (callFunc fn args) W=.ok (.enter fn args) W)
 (hA:w.cell? ⟨pa,0,none⟩=some (.func (.func fn) #[] caps)) (hI:w.cell? ⟨pi,0,none⟩=some (.int .i64 (k:Int)))
 (hc:Calls Tryz.prog fn (#[.int .i64 (k:Int),.int .i64 (j:Int)] ++ caps) w fun e w2=>e=.returned (.int .u8 (v:Int))/\Below w.heap.size w w2) :
 Calls Tryz.prog 131 #[.int .i64 (j:Int),.pointer (some ⟨pa,0,none⟩),.pointer (some ⟨pi,0,none⟩)] w fun e w2=>e=.returned (.int .u8 (v:Int))/\Below w.heap.size w w2:=by
 go_enter Tryz.func131,Tryz.ntmps131
 go_wp2_with fail
 refine hc.mono ?_
 rintro e w2 ⟨rfl,hb2⟩
 clear hent hc hA hI
 go_wp2
 go_ret
 exact ⟨rfl,hb2⟩
set_option maxRecDepth 10000 in
set_option maxHeartbeats 4000000 in
theorem build_any (r n:Nat) (val:Nat->Nat->Nat) (fn:FuncId) (caps:Array Value) (w:World) (hr:r<=1000) (hn:n<=1000) (hent:∀ args W,Sem.run Tryz.prog (callFunc fn args) W=.ok (.enter fn args) W)
 (hc:∀ i j,i < r->j < n->∀ w1,Below w.heap.size w w1->Calls Tryz.prog fn (#[.int .i64 (i:Int),.int .i64 (j:Int)] ++ caps) w1 fun e w2=>e=.returned (.int .u8 ((val i j:Nat):Int))/\Below w1.heap.size w1 w2) :
 Calls Tryz.prog 118 #[.int .i64 (r:Int),.int .i64 (n:Int),.func (.func fn) #[] caps] w fun e w'=>(∃ gm gs,e=.returned (.slice (some ⟨gm,0,none⟩) r r)/\OwnG w' w.heap.size gm gs r n val)/\Below w.heap.size w w':=by
 obtain ⟨i1,hi1,hy0,hy1,hy2⟩:=info_parts rowinfo
 obtain ⟨i0,hi0,hz0,hz1,hzb⟩:=info_parts u8info
 have HC:Hid (∀ i j,i < r->j < n->∀ w1,Below w.heap.size w w1->Calls Tryz.prog fn (#[.int .i64 (i:Int),.int .i64 (j:Int)] ++ caps) w1 fun e w2=>e=.returned (.int .u8 ((val i j:Nat):Int))/\Below w1.heap.size w1 w2):=hc
 have HENT:Hid (∀ args W,Sem.run Tryz.prog (callFunc fn args) W=.ok (.enter fn args) W):=hent
 clear hc hent
 go_enter Tryz.func118,Tryz.ntmps118
 go_wp2_with (first | (at_make;refine wpList_make_row _ rfl (.tmp 9) (.tmp 9) 74 rfl 76 i1 (.slice none 0 0) Tryz.underlying74 hi1 hy0 hy1 rfl .i64 .i64 r rfl rfl (by rw [hy2];omega) (by omega) ?_))
 obtain ⟨w2,hw2⟩:∃ w2,w2=(w.alloc (.cells #[.func (.func fn) #[] caps] 172)).alloc (.cells (madeCells #[.slice none 0 0] r) 76):=⟨_,rfl⟩
 rw [<- hw2]
 have HS0:Hid (OwnS w2 w.heap.size (w.heap.size+1) r (fun _=>.slice none 0 0)):=by
  show OwnS _ _ _ _ _
  have:=OwnS.made (w.alloc (.cells #[.func (.func fn) #[] caps] 172)) w.heap.size r (by simp) (by omega)
  rw [hw2]
  simpa using this
 have HB0:Hid (Below w.heap.size w w2):=by
  show Below _ _ _
  rw [hw2]
  exact ((Below.refl _ _).alloc (Nat.le_refl _) _).alloc (by simp) _
 have HA0:Hid (w2.cell? ⟨w.heap.size,0,none⟩=some (.func (.func fn) #[] caps)):=by
  show _=_
  rw [hw2,World.cell?_alloc_past _ _ _ (by simp),World.cell?_alloc_at _ _ _ _ rfl]
  rfl
 clear hw2
 have hmk:∀ W:World,Sem.run Tryz.prog (Instr.makeSlice 76 (.int .i64 (n:Int)) (.int .i64 (n:Int))) W=.ok (.slice (some ⟨W.heap.size,0,none⟩) n n) (W.alloc (.cells (madeCells #[byteV 0] n) 5)):=fun W=>run_make_row (P:=Tryz.prog) 76 5 i0 (byteV 0) Tryz.underlying76 hi0 hz0 hz1 rfl .i64 .i64 n (by rw [hzb];omega) (by omega) W
 clear hi1 hy0 hy1 hy2 hi0 hz0 hz1 hzb
 go_loopw [13] (fun x wr=>∃ (k:Nat) (gs:Nat->Nat),k<=r/\x=.int .i64 k/\OwnS wr w.heap.size (w.heap.size+1) r (fun i=>if i < k then rowV n (gs i) else .slice none 0 0)/\OwnK wr w.heap.size (w.heap.size+1) gs k n val/\Below w.heap.size w wr/\wr.cell? ⟨w.heap.size,0,none⟩=some (.func (.func fn) #[] caps)) (fun x _=>r - (intOf x).toNat)
 case atStart=>exact ⟨0,fun _=>0,by omega,rfl,by simpa using HS0.out,⟨fun i hi=>absurd hi (Nat.not_lt_zero _),fun i hi=>absurd hi (Nat.not_lt_zero _),fun i j hi=>absurd hi (Nat.not_lt_zero _)⟩,HB0.out,HA0.out⟩
 case round =>
  obtain ⟨k,gs,hk,rfl,hS,hK,hB,hA⟩:=hrel
  obtain ⟨w3,rfl⟩:∃ w3,w3=wr:=⟨_,rfl⟩
  have HS:Hid (OwnS w3 w.heap.size (w.heap.size+1) r (fun i=>if i < k then rowV n (gs i) else .slice none 0 0)):=hS
  have HK:Hid (OwnK w3 w.heap.size (w.heap.size+1) gs k n val):=hK
  have HB:Hid (Below w.heap.size w w3):=hB
  have HA:Hid (w3.cell? ⟨w.heap.size,0,none⟩=some (.func (.func fn) #[] caps)):=hA
  have hgm:w.heap.size+1 < w3.heap.size:=hS.lt.2
  clear HS0 HB0 HA0 hS hK hB hA
  by_cases hlt:k < r
  ·go_wp2
   obtain ⟨w4,hw4⟩:∃ w4,w4=w3.alloc (.cells #[.int .i64 (k:Int)] 3):=⟨_,rfl⟩
   rw [<- hw4]
   have hb4:Below w3.heap.size w3 w4:=by rw [hw4];exact (Below.refl _ _).alloc (Nat.le_refl _) _
   have hz4:w4.heap.size=w3.heap.size+1:=by rw [hw4];simp
   have hI4:w4.cell? ⟨w3.heap.size,0,none⟩=some (.int .i64 (k:Int)):=by rw [hw4,World.cell?_alloc_at _ _ _ _ rfl];rfl
   have hS4:=HS.out.below hb4
   have hK4:=HK.out.below hb4
   have HB4:Hid (Below w.heap.size w w4):=HB.out.trans (hb4.mono (by omega))
   have HA4:Hid (w4.cell? ⟨w.heap.size,0,none⟩=some (.func (.func fn) #[] caps)):=(hb4.cell (p:=⟨w.heap.size,0,none⟩) (by show w.heap.size < _;omega)).trans HA.out
   have HS4:Hid (OwnS w4 w.heap.size (w.heap.size+1) r (fun i=>if i < k then rowV n (gs i) else .slice none 0 0)):=hS4
   have HK4:Hid (OwnK w4 w.heap.size (w.heap.size+1) gs k n val):=hK4
   clear hw4 hb4 hS4 hK4 HS HK HB HA
   have hS5:=HS4.out.below ((Below.refl _ w4).alloc (Nat.le_refl _) (.cells (madeCells #[byteV 0] n) 5))
   have hf:(w4.alloc (.cells (madeCells #[byteV 0] n) 5)).frozen? ⟨w.heap.size+1,k,none⟩=false:=hS5.free k
   have hcl:(w4.alloc (.cells (madeCells #[byteV 0] n) 5)).cell? ⟨w.heap.size+1,k,none⟩=some (.slice none 0 0):=by rw [hS5.cell k hlt,if_neg (Nat.lt_irrefl _)]
   have HS5:Hid (OwnS (w4.alloc (.cells (madeCells #[byteV 0] n) 5)) w.heap.size (w.heap.size+1) r (fun i=>if i < k then rowV n (gs i) else .slice none 0 0)):=hS5
   clear hS5
   go_region
   obtain ⟨w5,hw5⟩:∃ w5,w5=((w4.alloc (.cells (madeCells #[byteV 0] n) 5)).setCell ⟨w.heap.size+1,k,none⟩ (.slice (some ⟨w3.heap.size+1,0,none⟩) n n)).drew:=⟨_,rfl⟩
   rw [<- hw5]
   have hg5:w4.grownBy w5 (some (w.heap.size+1)):=by
    rw [hw5]
    exact grown_trans (World.grownBy_alloc w4 _ _) (grown_trans (grown_set _ _ _ _) (grownBy_drewN _ 1 _))
   have hS6:OwnS w5 w.heap.size (w.heap.size+1) r (fun i=>if i < k+1 then rowV n (if i=k then w3.heap.size+1 else gs i) else .slice none 0 0):=by
    have h1:=HS5.out.set k (.slice (some ⟨w3.heap.size+1,0,none⟩) n n)
    rw [hw5]
    refine OwnS.congr (OwnS.kept h1 (grownBy_drewN _ 1 none) (by simp)) (fun i _=>?_)
    by_cases e:i=k
    ·simp [e,rowV]
    ·by_cases e':i < k
     ·simp [e,e',show i < k+1 by omega]
     ·simp [e,e',show ¬ i < k+1 by omega]
   have hN5:OwnN w5 w.heap.size 5 (w3.heap.size+1) n (rowFn n fun _=>0):=by
    have h1:=OwnN.made w4 w.heap.size 5 n (by omega) (by omega)
    rw [hz4] at h1
    rw [hw5]
    exact kept_of_grown (row:=w.heap.size+1) h1 (grown_trans (grown_set _ _ _ _) (grownBy_drewN _ 1 _)) (by omega)
   have hA5:w5.cell? ⟨w.heap.size,0,none⟩=some (.func (.func fn) #[] caps):=hg5.cell HA4.out (by show some w.heap.size≠_;intro e;have:=Option.some.inj e;omega)
   have hI5:w5.cell? ⟨w3.heap.size,0,none⟩=some (.int .i64 (k:Int)):=hg5.cell hI4 (by show some w3.heap.size≠_;intro e;have:=Option.some.inj e;omega)
   have HB5:Hid (Below w.heap.size w w5):=HB4.out.grown hg5 (by omega) (fun k' hk'=>by have:=Option.some.inj hk';omega)
   have hK5:∀ i,i < k->OwnN w5 w.heap.size 5 (gs i) n (rowFn n (val i)):=fun i hi=>kept_of_grown (HK4.out.row i hi) hg5 (HK4.out.ne i hi)
   have hrow5:w5.cell? ⟨w.heap.size+1,k,none⟩=some (.slice (some ⟨w3.heap.size+1,0,none⟩) n n):=by rw [hS6.cell k hlt];simp [rowV]
   have hlt3:∀ i,i < k->gs i < w4.heap.size:=fun i hi=>(HK4.out.row i hi).lt.2
   have hne3:∀ i,i < k->gs i≠w3.heap.size+1:=fun i hi e=>by have:=hlt3 i hi;omega
   have hz5:w4.heap.size<=w5.heap.size:=hg5.size
   have HS6:Hid (OwnS w5 w.heap.size (w.heap.size+1) r (fun i=>if i < k+1 then rowV n (if i=k then w3.heap.size+1 else gs i) else .slice none 0 0)):=hS6
   have HN5:Hid (OwnN w5 w.heap.size 5 (w3.heap.size+1) n (rowFn n fun _=>0)):=hN5
   have HK5:Hid (∀ i,i < k->OwnN w5 w.heap.size 5 (gs i) n (rowFn n (val i))):=hK5
   have HNE:Hid (∀ i,i < k->gs i≠w3.heap.size+1):=hne3
   have HA5:Hid (w5.cell? ⟨w.heap.size,0,none⟩=some (.func (.func fn) #[] caps)):=hA5
   clear hw5 hg5 hS6 hN5 hK5 hlt3 hne3 HS5 HS4 HB4 HA4 hf hcl hI4 hmk hA5
   have hcc:Hid (∀ j,j < n->∀ w1,w5.grownBy w1 (some (w3.heap.size+1))->OwnN w1 w.heap.size 5 (w3.heap.size+1) n (rowFn n (fun i=>if i < j then val k i else 0)) ->
    Calls Tryz.prog 131 (#[.int .i64 (j:Int)] ++ #[.pointer (some ⟨w.heap.size,0,none⟩),.pointer (some ⟨w3.heap.size,0,none⟩)]) w1 fun e w2=>e=.returned (.int .u8 ((val k j:Nat):Int))/\Below w1.heap.size w1 w2):=by
    intro j hj w1 hg1 _
    exact build1_any w.heap.size w3.heap.size k j (val k j) fn caps w1 HENT.out (hg1.cell HA5.out (by show some w.heap.size≠_;intro e;have:=Option.some.inj e;omega)) (hg1.cell hI5 (by show some w3.heap.size≠_;intro e;have:=Option.some.inj e;omega)) (HC.out k j hlt hj w1 (HB5.out.grown hg1 (by omega) (fun k' hk'=>by have:=Option.some.inj hk';omega)))
   go_wp2_with (go_at_call 130;refine (change_any (w3.heap.size+1) n w.heap.size (fun _=>0) (val k) 131 #[.pointer (some ⟨w.heap.size,0,none⟩),.pointer (some ⟨w3.heap.size,0,none⟩)] w5 hn (enters_of Tryz.func131 (by kernel_rfl) rfl) HN5.out hcc.out).mono ?_;rintro e w6 ⟨rfl,hN6,hg6⟩)
   have hS7:=HS6.out.kept hg6 (by intro e;have:=Option.some.inj e;omega)
   have hK7:=HK4.out.snoc (w':=w6) HNE.out (by omega) (fun i hi=>kept_of_grown (HK5.out i hi) hg6 (HNE.out i hi)) hN6
   have hB7:Below w.heap.size w w6:=HB5.out.grown hg6 (by omega) (fun k' hk'=>by have:=Option.some.inj hk';omega)
   have hA7:=hg6.cell HA5.out (by show some w.heap.size≠_;intro e;have:=Option.some.inj e;omega)
   go_roundw
   case rel=>exact ⟨k+1,fun i=>if i=k then w3.heap.size+1 else gs i,by omega,by go_num,hS7,hK7,hB7,hA7⟩
   case measure=>simp [intOf];omega
  ·have hke:k=r:=by omega
   subst hke
   go_wp2
   go_ret
   exact ⟨⟨_,gs,rfl,⟨HS.out.congr (fun i hi=>by simp [hi]),HK.out⟩⟩,HB.out⟩
end Go.Proofs.YtghpdhegfnhmkaaGreatDoor
