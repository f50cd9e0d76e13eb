import Derived.Test.YtghpdhegfnhmkaaGreatDoorS15
namespace Go.Proofs.YtghpdhegfnhmkaaGreatDoor
open Go.RowKit
set_option maxRecDepth 10000 in
set_option maxHeartbeats 1000000 in
theorem clear1_any (pr pt pm pf g gm gf n r j fr t x y:Nat) (w:World) (hr:w.cell? ⟨pr,0,none⟩=some (.slice (some ⟨g,0,none⟩) n n)) (ht:w.cell? ⟨pt,0,none⟩=some (.int .u8 (t:Int))) (hm:w.cell? ⟨pm,0,none⟩=some (.slice (some ⟨gm,0,none⟩) r r)) (hf:w.cell? ⟨pf,0,none⟩=some (.int .i64 (fr:Int)))
 (hg:w.cell? ⟨gm,fr,none⟩=some (.slice (some ⟨gf,0,none⟩) n n)) (hx:w.cell? ⟨g,j,none⟩=some (.int .u8 (x:Int))) (hy:w.cell? ⟨gf,j,none⟩=some (.int .u8 (y:Int))) (hj:j < n) (hfr:fr < r) (lt:t < 256) (lx:x < 256) (ly:y < 256) :
 Calls Tryz.prog 143 #[.int .i64 (j:Int),.pointer (some ⟨pr,0,none⟩),.pointer (some ⟨pt,0,none⟩),.pointer (some ⟨pm,0,none⟩),.pointer (some ⟨pf,0,none⟩)] w fun e w2=>e=.returned (.int .u8 ((x ^^^ Gf.mul t y:Nat):Int))/\Below w.heap.size w w2:=by
 have lm:=Gf.mul_lt lt y
 go_enter Tryz.func143,Tryz.ntmps143
 go_wp2
 go_quiet ((first | (go_at_call 113;exact Calls.quiet_of_same (mul_any t y _ lt ly)) | (go_at_call 112;exact Calls.quiet_of_same (add_any x (Gf.mul t y) _ lx lm))))
 go_wp2
 go_ret
 exact ⟨rfl,below_drewN (Below.refl _ _) _⟩
set_option maxRecDepth 10000 in
set_option maxHeartbeats 4000000 in
theorem clear_any (S:Nat->Prop) (B gm:Nat) (gs:Nat->Nat) (r n d c:Nat) (f:Nat->Nat->Nat) (w:World) (hr:r<=1000) (hn:n<=1000) (hd:d < r) (hc:c < n) (hf:∀ i j,f i j < 256) (hG:OwnG w B gm gs r n f) (hSg:∀ i,i < r->S (gs i)) (hSw:∀ k,S k->k < w.heap.size) (hSm:S gm) :
 Calls Tryz.prog 133 #[.slice (some ⟨gm,0,none⟩) r r,.int .i64 (d:Int),.int .i64 (c:Int)] w fun e w'=>e=.returned (.tuple #[])/\Frame S w w'/\OwnG w' B gm gs r n (clearF f d c):=by
 have HG:Hid (OwnG w B gm gs r n f):=hG
 have HSW:Hid (∀ k,S k->k < w.heap.size):=hSw
 clear hG hSw
 go_enter Tryz.func133,Tryz.ntmps133
 go_wp2
 obtain ⟨w2,hw2⟩:∃ w2,w2=(w.alloc (.cells #[.slice (some ⟨gm,0,none⟩) r r] 74)).alloc (.cells #[.int .i64 (d:Int)] 3):=⟨_,rfl⟩
 rw [<- hw2]
 have HB2:Hid (Below w.heap.size w w2):=by
  show Below _ _ _
  rw [hw2]
  exact ((Below.refl _ _).alloc (Nat.le_refl _) _).alloc (by simp) _
 have hz2:w2.heap.size=w.heap.size+2:=by rw [hw2];simp
 have HM2:Hid (w2.cell? ⟨w.heap.size,0,none⟩=some (.slice (some ⟨gm,0,none⟩) r r)):=by
  show _=_
  rw [hw2,World.cell?_alloc_past _ _ _ (by simp),World.cell?_alloc_at _ _ _ _ rfl]
  rfl
 have HD2:Hid (w2.cell? ⟨w.heap.size+1,0,none⟩=some (.int .i64 (d:Int))):=by
  show _=_
  rw [hw2,World.cell?_alloc_at _ _ _ _ (by simp)]
  rfl
 clear hw2
 go_loopw [11] (fun x wr=>∃ k:Nat,k<=r/\x=.int .i64 k/\OwnG wr B gm gs r n (fun i j=>if i < k then clearF f d c i j else f i j)/\Frame S w wr/\w.heap.size+2<=wr.heap.size/\wr.cell? ⟨w.heap.size,0,none⟩=some (.slice (some ⟨gm,0,none⟩) r r)/\wr.cell? ⟨w.heap.size+1,0,none⟩=some (.int .i64 (d:Int))) (fun x _=>r - (intOf x).toNat)
 case atStart=>exact ⟨0,by omega,rfl,by simpa using HG.out.below HB2.out,frame_below HB2.out,by omega,HM2.out,HD2.out⟩
 case round =>
  obtain ⟨k,hk,rfl,hGk,hFk,hzk,hMk,hDk⟩:=hrel
  obtain ⟨w3,rfl⟩:∃ w3,w3=wr:=⟨_,rfl⟩
  have HGk:Hid (OwnG w3 B gm gs r n (fun i j=>if i < k then clearF f d c i j else f i j)):=hGk
  have HFk:Hid (Frame S w w3):=hFk
  have HMk:Hid (w3.cell? ⟨w.heap.size,0,none⟩=some (.slice (some ⟨gm,0,none⟩) r r)):=hMk
  clear hGk hFk HB2 HM2 HD2 hMk
  by_cases hlt:k < r
  ·have c1:w3.cell? ⟨gm,k,none⟩=some (.slice (some ⟨gs k,0,none⟩) n n):=HGk.out.rows.cell k hlt
   have hDa:(w3.alloc (.cells #[.slice (some ⟨gs k,0,none⟩) n n] 76)).cell? ⟨w.heap.size+1,0,none⟩=some (.int .i64 (d:Int)):=(World.cell?_alloc_past _ _ _ (by show w.heap.size+1 < _;omega)).trans hDk
   by_cases hkd:k=d
   ·have ht:((k:Int) != (d:Int))=false:=by simp;omega
    have HE:Hid (∀ i j,(if i < k then clearF f d c i j else f i j)=if i < k+1 then clearF f d c i j else f i j):=fun i j=>by
     by_cases e:i < k
     ·rw [if_pos e,if_pos (by omega)]
     ·by_cases e':i=k
      ·rw [if_neg e,if_pos (by omega)]
       unfold clearF
       rw [if_pos (by omega)]
      ·rw [if_neg e,if_neg (by omega)]
    clear hkd
    go_wp2
    have hb:Below w3.heap.size w3 (w3.alloc (.cells #[.slice (some ⟨gs k,0,none⟩) n n] 76)):=(Below.refl _ _).alloc (Nat.le_refl _) _
    go_roundw
    case rel=>exact ⟨k+1,by omega,by go_num,OwnG.congr (HGk.out.below hb) HE.out,HFk.out.trans (frame_below hb),by simp;omega,(hb.cell (p:=⟨w.heap.size,0,none⟩) (by show w.heap.size < _;omega)).trans HMk.out,(hb.cell (p:=⟨w.heap.size+1,0,none⟩) (by show w.heap.size+1 < _;omega)).trans hDk⟩
    case measure=>simp [intOf];omega
   ·have ht:((k:Int) != (d:Int))=true:=by simp;omega
    have HKD:Hid (k≠d):=hkd
    have fk:(fun j=>if k < k then clearF f d c k j else f k j)=f k:=funext fun j=>if_neg (Nat.lt_irrefl _)
    have fd:∀ j,(if d < k then clearF f d c d j else f d j)=f d j:=fun j=>by
     by_cases e:d < k
     ·rw [if_pos e];unfold clearF;rw [if_pos rfl]
     ·rw [if_neg e]
    have c2:w3.cell? ⟨gs k,c,none⟩=some (.int .u8 ((f k c:Nat):Int)):=by
     have:=HGk.out.all.row k hlt
     rw [fk] at this
     rw [this.cell c hc (rowFn_length _ _),nth_rowFn _ _ c hc]
    have c3:(w3.alloc (.cells #[.slice (some ⟨gs k,0,none⟩) n n] 76)).cell? ⟨gs k,c,none⟩=some (.int .u8 ((f k c:Nat):Int)):=(World.cell?_alloc_past _ _ _ (lt_of_cell c2)).trans c2
    have lt:=hf k c
    have hgk:gs k < w.heap.size:=HSW.out _ (hSg k hlt)
    have hgm:gm < w.heap.size:=HSW.out _ hSm
    obtain ⟨w5,hw5⟩:∃ w5,w5=(w3.alloc (.cells #[.slice (some ⟨gs k,0,none⟩) n n] 76)).alloc (.cells #[.int .u8 ((f k c:Nat):Int)] 5):=⟨_,rfl⟩
    have hb5:Below w3.heap.size w3 w5:=by rw [hw5];exact ((Below.refl _ _).alloc (Nat.le_refl _) _).alloc (by simp) _
    have hz5:w5.heap.size=w3.heap.size+2:=by rw [hw5];simp
    have hr5:w5.cell? ⟨w3.heap.size,0,none⟩=some (.slice (some ⟨gs k,0,none⟩) n n):=by rw [hw5,World.cell?_alloc_past _ _ _ (by simp),World.cell?_alloc_at _ _ _ _ rfl];rfl
    have ht5:w5.cell? ⟨w3.heap.size+1,0,none⟩=some (.int .u8 ((f k c:Nat):Int)):=by rw [hw5,World.cell?_alloc_at _ _ _ _ (by simp)];rfl
    have hm5:w5.cell? ⟨w.heap.size,0,none⟩=some (.slice (some ⟨gm,0,none⟩) r r):=(hb5.cell (p:=⟨w.heap.size,0,none⟩) (by show w.heap.size < _;omega)).trans HMk.out
    have hd5:w5.cell? ⟨w.heap.size+1,0,none⟩=some (.int .i64 (d:Int)):=(hb5.cell (p:=⟨w.heap.size+1,0,none⟩) (by show w.heap.size+1 < _;omega)).trans hDk
    have HG5:Hid (OwnG w5 B gm gs r n (fun i j=>if i < k then clearF f d c i j else f i j)):=HGk.out.below hb5
    have HF5:Hid (Frame S w w5):=HFk.out.trans (frame_below hb5)
    have HN5:Hid (OwnN w5 B 5 (gs k) n (rowFn n (f k))):=by have:=HG5.out.all.row k hlt;rw [fk] at this;exact this
    have hne:gs k≠gm:=HG5.out.all.ne k hlt
    have hne2:gs d≠gs k:=fun e=>hkd (HG5.out.all.inj d k hd hlt e).symm
    have HCC:Hid (∀ j,j < n->∀ w1,w5.grownBy w1 (some (gs k))->OwnN w1 B 5 (gs k) n (rowFn n (fun l=>if l < j then f k l ^^^ Gf.mul (f k c) (f d l) else f k l)) ->
     Calls Tryz.prog 143 (#[.int .i64 (j:Int)] ++ #[.pointer (some ⟨w3.heap.size,0,none⟩),.pointer (some ⟨w3.heap.size+1,0,none⟩),.pointer (some ⟨w.heap.size,0,none⟩),.pointer (some ⟨w.heap.size+1,0,none⟩)]) w1 fun e w2=>e=.returned (.int .u8 ((f k j ^^^ Gf.mul (f k c) (f d j):Nat):Int))/\Below w1.heap.size w1 w2):=by
     intro j hj w1 hg1 hO1
     have keep:∀ {b o:Nat} {v:Value},w5.cell? ⟨b,o,none⟩=some v->b≠gs k->w1.cell? ⟨b,o,none⟩=some v:=fun {b o v} h hb=>hg1.cell h (by show some b≠_;intro e;exact hb (Option.some.inj e))
     refine clear1_any w3.heap.size (w3.heap.size+1) w.heap.size (w.heap.size+1) (gs k) gm (gs d) n r j d (f k c) (f k j) (f d j) w1 (keep hr5 (by omega)) (keep ht5 (by omega)) (keep hm5 (by omega)) (keep hd5 (by omega)) (keep (HG5.out.rows.cell d hd) (fun e=>hne e.symm)) ?_ (keep ?_ hne2) hj hd lt (hf k j) (hf d j)
     ·rw [hO1.cell j hj (rowFn_length _ _),nth_rowFn _ _ j hj,if_neg (Nat.lt_irrefl _)]
     ·rw [(HG5.out.all.row d hd).cell j hj (rowFn_length _ _),nth_rowFn _ _ j hj,fd j]
    have HFR:Hid (w5=(w3.alloc (.cells #[.slice (some ⟨gs k,0,none⟩) n n] 76)).alloc (.cells #[.int .u8 ((f k c:Nat):Int)] 5)):=hw5
    have HE:Hid (∀ i j,(if i=k then fun l=>f k l ^^^ Gf.mul (f k c) (f d l) else fun j=>if i < k then clearF f d c i j else f i j) j=if i < k+1 then clearF f d c i j else f i j):=fun i j=>by
     by_cases e:i=k
     ·rw [if_pos e,if_pos (by omega)]
      unfold clearF
      rw [if_neg (by omega),e]
     ·rw [if_neg e]
      by_cases e':i < k
      ·rw [if_pos (by omega:i < k+1)];exact if_pos e'
      ·rw [if_neg (by omega:¬ i < k+1)];exact if_neg e'
    have HM5:Hid (w5.cell? ⟨w.heap.size,0,none⟩=some (.slice (some ⟨gm,0,none⟩) r r)):=hm5
    have HD5:Hid (w5.cell? ⟨w.heap.size+1,0,none⟩=some (.int .i64 (d:Int))):=hd5
    clear hw5 hb5 hr5 ht5 hm5 hd5 fk fd hkd hf
    go_wp2_with (go_at_call 130;rw [<- HFR.out];refine (change_any (gs k) n B (f k) (fun l=>f k l ^^^ Gf.mul (f k c) (f d l)) 143 #[.pointer (some ⟨w3.heap.size,0,none⟩),.pointer (some ⟨w3.heap.size+1,0,none⟩),.pointer (some ⟨w.heap.size,0,none⟩),.pointer (some ⟨w.heap.size+1,0,none⟩)] w5 hn (enters_of Tryz.func143 (by kernel_rfl) rfl) HN5.out HCC.out).mono ?_;rintro e w8 ⟨rfl,hN8,hg8⟩)
    go_roundw
    case rel =>
     refine ⟨k+1,by omega,by go_num,OwnG.congr (HG5.out.change hlt hg8 hN8) HE.out,HF5.out.trans (frame_grown hg8 (hSg k hlt)),by have:=hg8.size;omega,hg8.cell HM5.out (by show some w.heap.size≠_;intro e;have:=Option.some.inj e;omega),hg8.cell HD5.out (by show some (w.heap.size+1)≠_;intro e;have:=Option.some.inj e;omega)⟩
    case measure=>simp [intOf];omega
  ·have hke:k=r:=by omega
   subst hke
   go_wp2
   go_end0
   refine ⟨rfl,HFk.out,⟨HGk.out.rows,fun i hi=>?_,HGk.out.all.ne,HGk.out.all.inj⟩⟩
   have:=HGk.out.all.row i hi
   rw [show (fun j=>if i < k then clearF f d c i j else f i j)=clearF f d c i from funext fun j=>if_pos hi] at this
   exact this
theorem toF_lift {g:Nat->Nat->Nat} (h:∀ i j,g i j < 256) (d p k i j:Nat):toF (liftF g d p k i j)=Lin.liftV (fun i j=>toF (g i j)) d p k i j:=by
 have hi:toF (Gf.inv (g p k))=Lin.iv (toF (g p k)):=Fin.ext (by
  show (toF (Gf.inv (g p k))).1=Gf.inv (toF (g p k)).1
  rw [toF_val (Gf.inv_lt _),toF_val (h p k)])
 unfold liftF Lin.liftV
 by_cases e:i=d
 ·rw [if_pos e,if_pos e,toF_mu (Gf.inv_lt _) (h _ _),hi]
 ·by_cases e':i=p
  ·rw [if_neg e,if_neg e,if_pos e',if_pos e']
  ·rw [if_neg e,if_neg e,if_neg e',if_neg e']
theorem toF_clear {g:Nat->Nat->Nat} (h:∀ i j,g i j < 256) (d k i j:Nat):toF (clearF g d k i j)=Lin.clearV (fun i j=>toF (g i j)) d k i j:=by
 unfold clearF Lin.clearV
 by_cases e:i=d
 ·rw [if_pos e,if_pos e]
 ·rw [if_neg e,if_neg e,toF_ad (h _ _) (Gf.mul_lt (h _ _) _),toF_mu (h _ _) (h _ _)]
def vecF (f:Nat->Nat->Nat):Nat->Nat->Lin.F:=fun i j=>toF (f i j)
theorem vecF_step {g:Nat->Nat->Nat} (h:∀ i j,g i j < 256) (d p k:Nat):vecF (clearF (liftF g d p k) d k)=Lin.clearV (Lin.liftV (vecF g) d p k) d k:=by
 have e1:vecF (liftF g d p k)=Lin.liftV (vecF g) d p k:=funext fun i=>funext fun j=>toF_lift h d p k i j
 rw [<- e1]
 exact funext fun i=>funext fun j=>toF_clear (fun i j=>liftF_lt h d p k i j) d k i j
set_option maxRecDepth 10000 in
set_option maxHeartbeats 4000000 in
theorem reduce_any (S:Nat->Prop) (B gm:Nat) (gs:Nat->Nat) (r n c:Nat) (f:Nat->Nat->Nat) (z:Addr) (w:World) (hr:r<=1000) (hn:n<=1000) (hc:c<=n) (hf:∀ i j,f i j < 256) (hG:OwnG w B gm gs r n f) (hSm:S gm) (hSg:∀ i,i < r->S (gs i)) (hSw:∀ k,S k->B<=k/\k < w.heap.size) (hgE:11 < B)
 (hz:w.cell? ⟨11,0,none⟩=some (.iface 218 (.pointer (some z)))) :
 Calls Tryz.prog 121 #[.slice (some ⟨gm,0,none⟩) r r,.int .i64 (c:Int)] w fun e w'=>Frame S w w'/\∃ (d:Nat) (gs':Nat->Nat) (g:Nat->Nat->Nat),e=.returned (.int .i64 (d:Int))/\OwnG w' B gm gs' r n g/\(∀ i j,g i j < 256)/\Lin.Red r n c (vecF f) (vecF g) d:=by
 have HG:Hid (OwnG w B gm gs r n f):=hG
 have HSW:Hid (∀ k,S k->B<=k/\k < w.heap.size):=hSw
 have HZ:Hid (w.cell? ⟨11,0,none⟩=some (.iface 218 (.pointer (some z)))):=hz
 clear hG hSw hz
 go_enter Tryz.func121,Tryz.ntmps121
 go_wp2
 go_loopw [5,8] (fun y x wr=>∃ (k d:Nat) (gs':Nat->Nat) (g:Nat->Nat->Nat),k<=c/\x=.int .i64 k/\y=.int .i64 d/\OwnG wr B gm gs' r n g/\(∀ i,i < r->S (gs' i))/\(∀ i j,g i j < 256)/\Lin.Red r n k (vecF f) (vecF g) d/\Frame S w wr) (fun _ x _=>c - (intOf x).toNat)
 case atStart=>exact ⟨0,0,gs,f,by omega,rfl,rfl,HG.out,hSg,hf,Lin.Red.start _ _ _,frame_below (Below.refl _ _)⟩
 case round =>
  obtain ⟨k,d,gs',g,hk,rfl,rfl,hG1,hS1,hl1,hR1,hF1⟩:=hrel
  obtain ⟨w3,rfl⟩:∃ w3,w3=wr:=⟨_,rfl⟩
  have HG1:Hid (OwnG w3 B gm gs' r n g):=hG1
  have HS1:Hid (∀ i,i < r->S (gs' i)):=hS1
  have HL1:Hid (∀ i j,g i j < 256):=hl1
  have HR1:Hid (Lin.Red r n k (vecF f) (vecF g) d):=hR1
  have HF1:Hid (Frame S w w3):=hF1
  have hdr:d<=r:=hR1.le
  clear hG1 hS1 hl1 hR1 hF1
  by_cases hlt:k < c
  ·have HZ3:Hid (w3.cell? ⟨11,0,none⟩=some (.iface 218 (.pointer (some z)))):=HF1.out.cell HZ.out (fun hs=>by have:=(HSW.out _ hs).1;omega)
   go_wp2_with (go_at_call 132;refine (lift_any S B gm gs' r n d k g z _ hr hn hdr (by omega) HL1.out HG1.out hSm HS1.out hgE HZ3.out).mono ?_;rintro e w4 ⟨hF4,⟨rfl,h0,hG4⟩ | ⟨rfl,p,gs4,hdp,hpr,hne,hS4,hG4⟩⟩)
   ·go_roundw
    case rel=>exact ⟨k+1,d,gs',g,by omega,by go_num,rfl,hG4,HS1.out,HL1.out,HR1.out.skip (fun i h1 h2=>by show toF (g i k)=0;rw [h0 i h1 h2];rfl),HF1.out.trans hF4⟩
    case measure=>simp [intOf];omega
   ·have HF4:Hid (Frame S w3 w4):=hF4
    have HS4:Hid (∀ i,i < r->S (gs4 i)):=hS4
    have HG4:Hid (OwnG w4 B gm gs4 r n (liftF g d p k)):=hG4
    have HNE:Hid (g p k≠0):=hne
    clear hF4 hS4 hG4 hne HZ3 HZ
    go_wp2_with (go_at_call 133;refine (clear_any S B gm gs4 r n d k (liftF g d p k) _ hr hn (by omega) (by omega) (fun i j=>liftF_lt HL1.out d p k i j) HG4.out HS4.out (fun q hq=>Nat.lt_of_lt_of_le (HSW.out q hq).2 (Nat.le_trans HF1.out.size HF4.out.size)) hSm).mono ?_;rintro e w5 ⟨rfl,hF5,hG5⟩)
    go_roundw
    case rel =>
     refine ⟨k+1,d+1,gs4,clearF (liftF g d p k) d k,by omega,by go_num,by go_num,hG5,HS4.out,fun i j=>clearF_lt (fun i j=>liftF_lt HL1.out d p k i j) d k i j,?_,HF1.out.trans (HF4.out.trans hF5)⟩
     rw [vecF_step HL1.out]
     exact HR1.out.step hdp hpr (fun h=>HNE.out ((toF_zero (HL1.out p k)).1 h))
    case measure=>simp [intOf];omega
  ·have hke:k=c:=by omega
   subst hke
   go_wp2
   go_ret
   exact ⟨HF1.out,d,gs',g,rfl,HG1.out,HL1.out,HR1.out⟩
end Go.Proofs.YtghpdhegfnhmkaaGreatDoor
