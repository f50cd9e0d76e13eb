import Derived.Test.YtghpdhegfnhmkaaGreatDoorS17
import Derived.Test.YtghpdhegfnhmkaaGreatDoorS4
import Derived.Deep.OwnRows
import Derived.StillTailTactics
import Derived.Shelf.Abstract
namespace Go.Proofs.YtghpdhegfnhmkaaGreatDoor
open Go.RowKit
def rsumN (f val:Nat->Nat->Nat) (i c:Nat):Nat->Nat
 | 0=>0
 | j+1=>rsumN f val i c j ^^^ Gf.mul (f i j) (val j c)
def rowT (f val:Nat->Nat->Nat) (k wd i:Nat):List Nat:=rowFn wd fun c=>rsumN f val i c k
theorem rsumN_lt {f val:Nat->Nat->Nat} (hf:∀ i j,f i j < 256) (i c:Nat):∀ j,rsumN f val i c j < 256
 | 0=>by show 0 < 256;decide
 | j+1=>Gf.xlt (rsumN_lt hf i c j) (Gf.mul_lt (hf _ _) _)
theorem strinfo:(Tryz.prog.info? 9).map (fun i=>(i.zero,i.size,i.bytes))=some (some (.string ⟨#[]⟩),1,16):=by kernel_rfl
theorem rowIs_below {w w':World} {b:Nat} {t:TypeId} {n:Nat} {f:Nat->Value} (h:w.rowIs b t n f) (hb:Below w.heap.size w w'):w'.rowIs b t n f:=h.of_block (hb.block _ h.lt)
def Tells (w:World) (fn:FuncId) (caps:Array Value) (val:Nat->Nat->Nat) (k wd:Nat):Prop :=
 ∀ j c,j < k->c < wd->∀ w1,Below w.heap.size w w1->Calls Tryz.prog fn (#[.int .i64 (j:Int),.int .i64 (c:Int)] ++ caps) w1 fun e w2=>e=.returned (.int .u8 ((val j c:Nat):Int))/\w2=w1
set_option maxRecDepth 10000 in
set_option maxHeartbeats 4000000 in
theorem rows_any (p:Option Addr) (r k wd cap:Nat) (f val:Nat->Nat->Nat) (fn:FuncId) (caps:Array Value) (w:World) (hr1:1<=r) (hr:r<=1000) (hk1:1<=k) (hk:k<=1000) (hwd:wd<=100000)
 (hf:∀ i j,f i j < 256) (hv:∀ j c,val j c < 256) (hm:Mat w p (matFn r k f)) (hent:∀ args W,Sem.run Tryz.prog (callFunc fn args) W=.ok (.enter fn args) W) (hc:Tells w fn caps val k wd) :
 Calls Tryz.prog 97 #[.slice p r cap,.int .i64 (wd:Int),.func (.func fn) #[] caps] w fun e w'=>e=.returned (.slice (some ⟨w.heap.size,0,none⟩) r r)/\w'.rowIs w.heap.size 9 r (fun i=>.string (strOf (rowT f val k wd i)))/\Below w.heap.size w w':=by
 obtain ⟨b,o,rfl,hrows⟩:=mat_cells hm hr1 hk1
 have hbl:∀ i,i < r->∃ b1 o1 c,b < w.heap.size/\b1 < w.heap.size/\w.cell? ⟨b,o+i,none⟩=some (.slice (some ⟨b1,o1,none⟩) k c)/\∀ j,j < k->w.cell? ⟨b1,o1+j,none⟩=some (.int .u8 ((f i j:Nat):Int)):=fun i hi=>by
  obtain ⟨b1,o1,c,h1,h2⟩:=hrows i hi
  exact ⟨b1,o1,c,lt_of_cell h1,lt_of_cell (h2 0 (by omega)),h1,h2⟩
 have HR:Hid (∀ i,i < r->∃ b1 o1 c,b < w.heap.size/\b1 < w.heap.size/\w.cell? ⟨b,o+i,none⟩=some (.slice (some ⟨b1,o1,none⟩) k c)/\∀ j,j < k->w.cell? ⟨b1,o1+j,none⟩=some (.int .u8 ((f i j:Nat):Int))):=hbl
 have HC:Hid (Tells w fn caps val k wd):=hc
 have HF:Hid (∀ i j,f i j < 256):=hf
 have HV:Hid (∀ j c,val j c < 256):=hv
 obtain ⟨i0,hi0,hz0,hz1,hzb⟩:=info_parts u8info
 obtain ⟨i1,hi1,hy0,hy1,hyb⟩:=info_parts strinfo
 have hmk:∀ W:World,Sem.run Tryz.prog (Instr.makeSlice 22 (.int .i64 (r:Int)) (.int .i64 (r:Int))) W=.ok (.slice (some ⟨W.heap.size,0,none⟩) r r) (W.alloc (.cells (madeCells #[.string ⟨#[]⟩] r) 9)):=fun W=>run_make_row (P:=Tryz.prog) 22 9 i1 (.string ⟨#[]⟩) Tryz.underlying22 hi1 hy0 hy1 rfl .i64 .i64 r (by rw [hyb];omega) (by omega) W
 have hmk2:∀ W:World,Sem.run Tryz.prog (Instr.makeSlice 76 (.int .i64 (wd:Int)) (.int .i64 (wd:Int))) W=.ok (.slice (some ⟨W.heap.size,0,none⟩) wd wd) (W.alloc (.cells (madeCells #[byteV 0] wd) 5)):=fun W=>run_make_row (P:=Tryz.prog) 76 5 i0 (byteV 0) Tryz.underlying76 hi0 hz0 hz1 rfl .i64 .i64 wd (by rw [hzb];omega) (by omega) W
 clear hm hrows hbl hc hf hv hi0 hz0 hz1 hzb hi1 hy0 hy1 hyb
 go_enter Tryz.func97,Tryz.ntmps97
 go_wp2
 have hS0:(w.alloc (.cells (madeCells #[.string ⟨#[]⟩] r) 9)).rowIs w.heap.size 9 r (fun _=>.string ⟨#[]⟩):=World.rowIs_made w _ r _
 have hB0:Below w.heap.size w (w.alloc (.cells (madeCells #[.string ⟨#[]⟩] r) 9)):=(Below.refl _ _).alloc (Nat.le_refl _) _
 generalize w.alloc (.cells (madeCells #[.string ⟨#[]⟩] r) 9)=w0 at hS0 hB0 ⊢
 have HS0:Hid (w0.rowIs w.heap.size 9 r (fun _=>.string ⟨#[]⟩)):=hS0
 have HB0:Hid (Below w.heap.size w w0):=hB0
 clear hS0 hB0
 go_loopw [19] (fun x wr=>∃ i:Nat,i<=r/\x=.int .i64 i/\wr.rowIs w.heap.size 9 r (fun q=>if q < i then .string (strOf (rowT f val k wd q)) else .string ⟨#[]⟩)/\Below w.heap.size w wr) (fun x _=>r - (intOf x).toNat)
 case atStart=>exact ⟨0,by omega,rfl,HS0.out.congr (fun q _=>by simp),HB0.out⟩
 case round =>
  obtain ⟨i,hi,rfl,hS,hB⟩:=hrel
  obtain ⟨w3,rfl⟩:∃ w3,w3=wr:=⟨_,rfl⟩
  have HS:Hid (w3.rowIs w.heap.size 9 r (fun q=>if q < i then .string (strOf (rowT f val k wd q)) else .string ⟨#[]⟩)):=hS
  have HB:Hid (Below w.heap.size w w3):=hB
  have hgt:w.heap.size < w3.heap.size:=hS.lt
  clear hS hB HS0 HB0
  by_cases hil:i < r
  ·obtain ⟨b1,o1,c1,hb,hb1,hcM,hdM⟩:=HR.out i hil
   have HD:Hid (∀ j,j < k->w.cell? ⟨b1,o1+j,none⟩=some (.int .u8 ((f i j:Nat):Int))):=hdM
   have q0:w3.cell? ⟨b,o+i,none⟩=some (.slice (some ⟨b1,o1,none⟩) k c1):=(HB.out.cell (p:=⟨b,o+i,none⟩) hb).trans hcM
   clear hdM hcM
   go_wp2
   have hmkN:OwnN (w3.alloc (.cells (madeCells #[byteV 0] wd) 5)) w3.heap.size 5 w3.heap.size wd (rowFn wd (fun c=>if c < 0 then rsumN f val i c k else 0)):=by
    have:=OwnN.made w3 w3.heap.size 5 wd (Nat.le_refl _) (by omega)
    rw [rowFn_congr wd _ (fun c=>if c < 0 then rsumN f val i c k else 0) (fun c _=>by rw [if_neg (Nat.not_lt_zero _)])] at this
    exact this
   have hbk:Below w3.heap.size w3 (w3.alloc (.cells (madeCells #[byteV 0] wd) 5)):=(Below.refl _ _).alloc (Nat.le_refl _) _
   generalize w3.alloc (.cells (madeCells #[byteV 0] wd) 5)=w4 at hmkN hbk ⊢
   have HMK:Hid (OwnN w4 w3.heap.size 5 w3.heap.size wd (rowFn wd (fun c=>if c < 0 then rsumN f val i c k else 0))):=hmkN
   have HBK:Hid (Below w3.heap.size w3 w4):=hbk
   clear hmkN hbk q0
   go_loopw [28] (fun x wq=>∃ c:Nat,c<=wd/\x=.int .i64 c/\OwnN wq w3.heap.size 5 w3.heap.size wd (rowFn wd (fun d=>if d < c then rsumN f val i d k else 0))/\Below w3.heap.size w3 wq) (fun x _=>wd - (intOf x).toNat)
   case atStart=>exact ⟨0,by omega,rfl,HMK.out,HBK.out⟩
   case round =>
    obtain ⟨c,hc,rfl,hON,hBq⟩:=hrel
    obtain ⟨w5,rfl⟩:∃ w5,w5=wr:=⟨_,rfl⟩
    have HON:Hid (OwnN w5 w3.heap.size 5 w3.heap.size wd (rowFn wd (fun d=>if d < c then rsumN f val i d k else 0))):=hON
    have HBq:Hid (Below w3.heap.size w3 w5):=hBq
    clear hON hBq HMK HBK
    by_cases hcl:c < wd
    ·go_wp2
     go_loopw [33] (fun x wq=>∃ j:Nat,j<=k/\x=.int .i64 j/\OwnN wq w3.heap.size 5 w3.heap.size wd (rowFn wd (fun d=>if d < c then rsumN f val i d k else if d=c then rsumN f val i c j else 0))/\Below w3.heap.size w3 wq) (fun x _=>k - (intOf x).toNat)
     case atStart =>
      refine ⟨0,by omega,rfl,?_,HBq.out⟩
      rw [rowFn_congr wd _ (fun d=>if d < c then rsumN f val i d k else 0) (fun d _=>by by_cases e:d=c <;> simp [e,rsumN])]
      exact HON.out
     case round =>
      obtain ⟨j,hjk,rfl,hON2,hBq2⟩:=hrel
      obtain ⟨w6,rfl⟩:∃ w6,w6=wr:=⟨_,rfl⟩
      have HON2:Hid (OwnN w6 w3.heap.size 5 w3.heap.size wd (rowFn wd (fun d=>if d < c then rsumN f val i d k else if d=c then rsumN f val i c j else 0))):=hON2
      have HBq2:Hid (Below w3.heap.size w3 w6):=hBq2
      clear hON2 hBq2 HON HBq
      by_cases hjl:j < k
      ·have q2:w6.cell? ⟨b1,o1+j,none⟩=some (.int .u8 ((f i j:Nat):Int)):=(HBq2.out.cell (p:=⟨b1,o1+j,none⟩) (by show b1 < _;omega)).trans ((HB.out.cell (p:=⟨b1,o1+j,none⟩) hb1).trans (HD.out j hjl))
       have q5:w6.cell? ⟨w3.heap.size,c,none⟩=some (.int .u8 ((rsumN f val i c j:Nat):Int)):=by rw [HON2.out.cell c hcl (rowFn_length _ _),nth_rowFn _ _ c hcl,if_neg (Nat.lt_irrefl _),if_pos rfl]
       have q6:w6.frozen? ⟨w3.heap.size,c,none⟩=false:=HON2.out.free c
       have lx:=HF.out i j
       have ly:=HV.out j c
       have ls:rsumN f val i c j < 256:=rsumN_lt HF.out i c j
       have lm:=Gf.mul_lt lx (val j c)
       have HX:Hid (rsumN f val i c (j+1)=rsumN f val i c j ^^^ Gf.mul (f i j) (val j c)):=by show _=_;rfl
       have hcall:=HC.out j c hjl hcl (w6.drewN 1) (below_drewN (HB.out.trans (HBq2.out.mono (by omega))) 1)
       have n2:w3.heap.size≠b1:=by omega
       have HON2':Hid (OwnN w6 w3.heap.size 5 w3.heap.size wd (rowFn wd (fun d=>if d < c then rsumN f val i d k else if d=c then rsumN f val i c j else 0))):=HON2.out
       generalize rsumN f val i c j=sacc at q5 ls HX HON2'
       generalize f i j=x at q2 lx lm HX
       generalize val j c=y at ly lm HX hcall
       have HCALL:Hid (Calls Tryz.prog fn (#[.int .i64 (j:Int),.int .i64 (c:Int)] ++ caps) (w6.drewN 1) fun e w2=>e=.returned (.int .u8 ((y:Nat):Int))/\w2=w6.drewN 1):=hcall
       clear hcall
       go_wp2
       refine wp_region_still_tail 14 (by kernel_rfl) (by kernel_rfl) ?_
       simp only [List.take_succ_cons,List.take_zero,List.drop_succ_cons,List.drop_zero]
       repeat still_step
       still_call (HCALL.out)
       still_call (mul_any x y _ lx ly)
       still_call (add_any sacc (Gf.mul x y) _ ls lm)
       repeat still_step
       refine wpStill_nil ?_
       have HO7:Hid (OwnN (w6.drewN 1) w3.heap.size 5 w3.heap.size wd (rowFn wd (fun d=>if d < c then rsumN f val i d k else if d=c then sacc else 0))):=HON2'.out.drewN 1
       have HB7:Hid (Below w3.heap.size w3 (w6.drewN 1)):=below_drewN HBq2.out 1
       have q5':(w6.drewN 1).cell? ⟨w3.heap.size,c,none⟩=some (.int .u8 (sacc:Int)):=q5
       have q6':(w6.drewN 1).frozen? ⟨w3.heap.size,c,none⟩=false:=q6
       change wpList _ _ _ _ _ (w6.drewN 1)
       generalize w6.drewN 1=w7 at HO7 HB7 q5' q6' ⊢
       clear q2 q5 q6 HON2 HON2' HBq2 HCALL
       go_wp2
       go_roundw
       case rel =>
        refine ⟨j+1,by omega,by go_num,?_,HB7.out.setCell (Nat.le_refl _) _⟩
        have:=HO7.out.set c (sacc ^^^ Gf.mul x y)
        rw [rowFn_congr wd (fun d=>if d < c then rsumN f val i d k else if d=c then rsumN f val i c (j+1) else 0) (fun d=>if d=c then sacc ^^^ Gf.mul x y else if d < c then rsumN f val i d k else if d=c then sacc else 0) (fun d _=>by
         by_cases e:d=c
         ·subst e;rw [if_neg (Nat.lt_irrefl _),if_pos rfl,if_pos rfl,HX.out]
         ·rw [if_neg e,if_neg e,if_neg e])]
        exact this
       case measure=>simp [intOf];omega
      ·have hke:j=k:=by omega
       subst hke
       go_wp2
       go_roundw
       case rel =>
        refine ⟨c+1,by omega,by go_num,?_,HBq2.out⟩
        rw [rowFn_congr wd _ (fun d=>if d < c then rsumN f val i d j else if d=c then rsumN f val i c j else 0) (fun d _=>by
         by_cases e:d < c
         ·rw [if_pos (by omega),if_pos e]
         ·by_cases e':d=c
          ·subst e';rw [if_pos (by omega),if_neg e,if_pos rfl]
          ·rw [if_neg (by omega),if_neg e,if_neg e'])]
        exact HON2.out
       case measure=>simp [intOf];omega
    ·have hce:c=wd:=by omega
     subst hce
     have hN5:OwnN w5 w3.heap.size 5 w3.heap.size c (rowT f val k c i):=by
      unfold rowT
      rw [rowFn_congr c _ (fun d=>if d < c then rsumN f val i d k else 0) (fun d hd=>by rw [if_pos hd])]
      exact HON.out
     have hcv:Sem.run Tryz.prog (convert 76 9 (.slice (some ⟨w3.heap.size,0,none⟩) c c)) w5=.ok (.string (strOf (rowT f val k c i))) w5:=by
      have hsg:Seg w5 (some ⟨w3.heap.size,0,none⟩) (rowT f val k c i):=⟨rowFn_bytes _ _ (fun d=>rsumN_lt HF.out _ _ _),Or.inr ⟨w3.heap.size,0,rfl,hN5.lt.2,fun d hd=>by
       have hd':d < c:=by unfold rowT at hd;rw [rowFn_length] at hd;exact hd
       rw [Nat.zero_add]
       exact hN5.cell d hd' (rowFn_length _ _)⟩⟩
      have:=conv_seg hsg c
      rw [show (rowT f val k c i).length=c from rowFn_length _ _] at this
      exact this
     have hS5:=rowIs_below HS.out HBq.out
     have qs:w5.cell? ⟨w.heap.size,i,none⟩=some (.string ⟨#[]⟩):=by rw [hS5.cell hil,if_neg (Nat.lt_irrefl _)]
     have qf:w5.frozen? ⟨w.heap.size,i,none⟩=false:=hS5.frozen i
     have HS5:Hid (w5.rowIs w.heap.size 9 r (fun q=>if q < i then .string (strOf (rowT f val k c q)) else .string ⟨#[]⟩)):=hS5
     have HB5:Hid (Below w.heap.size w w5):=HB.out.trans (HBq.out.mono (by omega))
     clear hN5 HON hS5 hmk hmk2
     have HRT:Hid (strOf (rowT f val k c i)=strOf (rowT f val k c i)):=by show _=_;rfl
     generalize hst:strOf (rowT f val k c i)=st at hcv
     have HST:Hid (strOf (rowT f val k c i)=st):=hst
     clear hst HRT
     go_wp2
     go_roundw
     case rel =>
      refine ⟨i+1,by omega,by go_num,(HS5.out.set i _).congr (fun q _=>?_),HB5.out.setCell (Nat.le_refl _) _⟩
      by_cases e:q=i
      ·rw [if_pos e,if_pos (by omega),e,HST.out]
      ·rw [if_neg e]
       by_cases e':q < i
       ·rw [if_pos e',if_pos (by omega)]
       ·rw [if_neg e',if_neg (by omega)]
     case measure=>simp [intOf];omega
  ·have hie:i=r:=by omega
   subst hie
   go_wp2
   go_ret
   exact ⟨rfl,HS.out.congr (fun q hq=>by rw [if_pos hq]),HB.out⟩
end Go.Proofs.YtghpdhegfnhmkaaGreatDoor
