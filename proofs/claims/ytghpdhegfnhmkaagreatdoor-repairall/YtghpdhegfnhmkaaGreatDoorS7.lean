import Derived.Test.YtghpdhegfnhmkaaGreatDoorS6
import Derived.Test.YtghpdhegfnhmkaaGreatDoorS2
import Derived.Test.YtghpdhegfnhmkaaGreatDoorS4
import Derived.Deep.QuietTactic
import Derived.BigQuiet
import Derived.WalkSmall
import Derived.Shelf.Abstract
import Derived.Test.YtghpdhegfnhmkaaGreatDoorS3
import Derived.Deep.RegionWith
import Derived.Test.YtghpdhegfnhmkaaGreatDoorS5
import Derived.StillTailTactics
import Derived.Test.YtghpdhegfnhmkaaGreatDoorS0
import Derived.Laws.RangeAny
namespace Go.Proofs.YtghpdhegfnhmkaaGreatDoor
open Go.RowKit
theorem Mat.at {w:World} {p:Option Addr} {M:List (List Nat)} (h:Mat w p M) {i j:Nat} (hi:i < M.length) (hj:j < (rowOf M i).length) :
 ∃ b o b1 o1 c,p=some ⟨b,o,none⟩/\w.cell? ⟨b,o+i,none⟩=some (.slice (some ⟨b1,o1,none⟩) (rowOf M i).length c)/\w.cell? ⟨b1,o1+j,none⟩=some (.int .u8 ((Gf.nth (rowOf M i) j:Nat):Int)):=by
 obtain ⟨b,o,b1,o1,c,h1,_,_,h2,h3⟩:=h.row hi (by omega)
 exact ⟨b,o,b1,o1,c,h1,h2,h3 j hj⟩
theorem diag_any (i j:Nat) (w:World):Calls Tryz.prog 120 #[.int .i64 (i:Int),.int .i64 (j:Int)] w fun e w'=>e=.returned (.int .u8 ((if i=j then 1 else 0:Nat):Int))/\w'=w:=by
 by_cases e:i=j
 ·subst e
  rw [if_pos rfl]
  go_enter Tryz.func120,Tryz.ntmps120
  go_wp2
  go_ret
  exact ⟨rfl,rfl⟩
 ·have ht:((i:Int)==(j:Int))=false:=by simp;omega
  rw [if_neg e]
  clear e
  go_enter Tryz.func120,Tryz.ntmps120
  go_wp2
  go_ret
  exact ⟨rfl,rfl⟩
set_option maxRecDepth 10000 in
theorem invert1_any (ps pm i j side cap:Nat) (p:Option Addr) (M:List (List Nat)) (w:World) (hi:i < M.length) (hj:j < 2*side) (hs:(rowOf M i).length=side) (hn:side<=1000) (hps:w.cell? ⟨ps,0,none⟩=some (.int .i64 (side:Int))) (hp:w.cell? ⟨pm,0,none⟩=some (.slice p M.length cap)) (h:Mat w p M) :
 Calls Tryz.prog 119 #[.int .i64 (i:Int),.int .i64 (j:Int),.pointer (some ⟨ps,0,none⟩),.pointer (some ⟨pm,0,none⟩)] w fun e w'=>e=.returned (.int .u8 (((if j < side then Gf.nth (rowOf M i) j else if i=j - side then 1 else 0:Nat)):Int))/\Below w.heap.size w w':=by
 by_cases hlt:j < side
 ·obtain ⟨b,o,b1,o1,c,rfl,h1,h2⟩:=h.at hi (by rw [hs];exact hlt)
  rw [hs] at h1
  rw [if_pos hlt]
  clear hs h
  go_enter Tryz.func119,Tryz.ntmps119
  go_wp2
  go_ret
  exact ⟨rfl,Below.refl _ _⟩
 ·rw [if_neg hlt]
  have hsub:((j:Int) - (side:Int))=((j - side:Nat):Int):=by omega
  clear hs h
  go_enter Tryz.func119,Tryz.ntmps119
  go_wp2_with (go_at_call 120;first | (rw [hsub];refine (diag_any i (j - side) _).mono ?_;rintro e w' ⟨rfl,rfl⟩) | (refine (diag_any i (j - side) _).mono ?_;rintro e w' ⟨rfl,rfl⟩))
  all_goals (go_ret;exact ⟨rfl,Below.refl _ _⟩)
set_option maxRecDepth 10000 in
theorem invert2_any (pb ps i j side gm r n:Nat) (gs:Nat->Nat) (x:Nat) (w:World) (hi:i < r) (hj:side+j < n) (hn:n<=1000) (hb:w.cell? ⟨pb,0,none⟩=some (.slice (some ⟨gm,0,none⟩) r r)) (hs:w.cell? ⟨ps,0,none⟩=some (.int .i64 (side:Int))) (h1:w.cell? ⟨gm,i,none⟩=some (.slice (some ⟨gs i,0,none⟩) n n)) (h2:w.cell? ⟨gs i,side+j,none⟩=some (.int .u8 (x:Int))) :
 Calls Tryz.prog 122 #[.int .i64 (i:Int),.int .i64 (j:Int),.pointer (some ⟨pb,0,none⟩),.pointer (some ⟨ps,0,none⟩)] w fun e w'=>e=.returned (.int .u8 (x:Int))/\Below w.heap.size w w':=by
 go_enter Tryz.func122,Tryz.ntmps122
 go_wp2
 go_quiet (fail)
 go_wp2
 go_ret
 exact ⟨rfl,below_drewN (Below.refl _ _) _⟩
set_option maxRecDepth 10000 in
set_option maxHeartbeats 1000000 in
theorem times11_any (pa pi pb pj i j l ca cb:Nat) (a b:Option Addr) (A B:List (List Nat)) (w:World) (hi:i < A.length) (hl:l < (rowOf A i).length) (hlb:l < B.length) (hj:j < (rowOf B l).length) (hA:w.cell? ⟨pa,0,none⟩=some (.slice a A.length ca)) (hB:w.cell? ⟨pb,0,none⟩=some (.slice b B.length cb)) (hI:w.cell? ⟨pi,0,none⟩=some (.int .i64 (i:Int))) (hJ:w.cell? ⟨pj,0,none⟩=some (.int .i64 (j:Int))) (mA:Mat w a A) (mB:Mat w b B) (bA:BytesM A) (bB:BytesM B) :
 Calls Tryz.prog 140 #[.int .i64 (l:Int),.pointer (some ⟨pa,0,none⟩),.pointer (some ⟨pi,0,none⟩),.pointer (some ⟨pb,0,none⟩),.pointer (some ⟨pj,0,none⟩)] w fun e w'=>e=.returned (.int .u8 ((Gf.mul (Gf.nth (rowOf A i) l) (Gf.nth (rowOf B l) j):Nat):Int))/\Below w.heap.size w w':=by
 obtain ⟨a1,a2,a3,a4,a5,rfl,a6,a7⟩:=mA.at hi hl
 obtain ⟨b1,b2,b3,b4,b5,rfl,b6,b7⟩:=mB.at hlb hj
 have lx:=bA i l
 have ly:=bB l j
 clear mA mB
 generalize Gf.nth (rowOf A i) l=x at *
 generalize Gf.nth (rowOf B l) j=y at *
 go_enter Tryz.func140,Tryz.ntmps140
 go_wp2
 go_quiet ((go_at_call 113;exact Calls.quiet_of_same (mul_any x y _ lx ly)))
 go_wp2
 go_ret
 exact ⟨rfl,below_drewN (Below.refl _ _) _⟩
set_option maxRecDepth 10000 in
set_option maxHeartbeats 1000000 in
theorem rmul_any (a b:Nat) (w:World) (ha:a < 256) (_hb:b < 256) :
 Calls Tryz.prog 30 #[.int .u8 (a:Int),.int .u8 (b:Int)] w fun e w'=>e=.returned (.int .u8 ((Gf.mul a b:Nat):Int))/\w'=w:=by
 go_enter Tryz.func30,Tryz.ntmps30
 go_wp2
 go_loop [5,6] (fun p i=>∃ k:Nat,k<=8/\i=.int .i64 k/\p=.int .i64 (Gf.rprod a b k:Nat)) (fun _ i=>8 - (intOf i).toNat)
 case atStart=>exact ⟨0,by omega,rfl,rfl⟩
 case round =>
  obtain ⟨k,hk,rfl,rfl⟩:=hrel
  have hp:=Gf.rprod_lt ha b k hk
  by_cases hlt:k < 8
  ·have hbt:=tmod_test b k
   have hak:a*2 ^ k < 2 ^ 15:=by
    have h1:2 ^ k<=2 ^ 7:=Nat.pow_le_pow_right (by decide) (by omega)
    have h2:a*2 ^ k<=255*2 ^ 7:=Nat.mul_le_mul (by omega) h1
    omega
   have hw1:wrap64 ((a:Int)*2 ^ k)=((a*2 ^ k:Nat):Int):=by
    have:=wrap64_small (a*2 ^ k) (by omega)
    simpa using this
   have HX:Hid (bits .xor .i64 ((Gf.rprod a b k:Nat):Int) (wrap64 ((a:Int)*2 ^ k))=((Gf.rprod a b k ^^^ (a*2 ^ k):Nat):Int)):=by show _=_;rw [hw1];exact i64_xor_nat _ _ (by omega) (by omega)
   clear hw1
   by_cases hbit:Gf.bitOf b k=1
   ·have HP:Hid (Gf.rprod a b (k+1)=Gf.rprod a b k ^^^ (a*2 ^ k)):=by show _=_;simp [Gf.rprod,hbit]
    rw [decide_eq_true hbit] at hbt
    clear hbit
    go_wp2
    exact ⟨⟨k+1,by omega,by go_num,by rw [HP.out,HX.out]⟩,by simp [intOf];omega⟩
   ·have HP:Hid (Gf.rprod a b (k+1)=Gf.rprod a b k):=by show _=_;simp [Gf.rprod,hbit]
    rw [decide_eq_false hbit] at hbt
    clear hbit
    go_wp2
    exact ⟨⟨k+1,by omega,by go_num,by rw [HP.out]⟩,by simp [intOf];omega⟩
  ·have hk8:k=8:=by omega
   subst hk8
   go_wp2
   have hn:Hid (Gf.rprod a b 8 < 2 ^ 15):=hp
   have HR:Hid (Gf.rmod (Gf.rprod a b 8)=Gf.mul a b):=Gf.rmul_eq a b ha
   generalize Gf.rprod a b 8=n at hn HR hp ⊢
   go_loop [5,7] (fun p i=>∃ m:Nat,7<=m/\m<=14/\i=.int .i64 m/\p=.int .i64 (Gf.rr n (14 - m):Nat)) (fun _ i=>(intOf i).toNat)
   case atStart=>exact ⟨14,by omega,by omega,rfl,rfl⟩
   case round =>
    obtain ⟨m,hm7,hm,rfl,rfl⟩:=hrel
    have hp2:=Gf.rr_lt hn.out (14 - m)
    have HE:Hid (Gf.rr n (14 - (m - 1))=if 8<=m then Gf.rstep m (Gf.rr n (14 - m)) else Gf.rr n (14 - (m - 1))):=by
     show _=_
     by_cases h8:8<=m
     ·rw [if_pos h8,show 14 - (m - 1)=(14 - m)+1 from by omega]
      show Gf.rstep (14 - (14 - m)) _=_
      rw [show 14 - (14 - m)=m from by omega]
     ·rw [if_neg h8]
    by_cases h8:8<=m
    ·have hbt:=tmod_test (Gf.rr n (14 - m)) m
     have h285:285*2 ^ (m - 8) < 2 ^ 15:=by
      have h1:2 ^ (m - 8)<=2 ^ 6:=Nat.pow_le_pow_right (by decide) (by omega)
      have h2:285*2 ^ (m - 8)<=285*2 ^ 6:=Nat.mul_le_mul (Nat.le_refl _) h1
      omega
     have hw1:wrap64 ((285:Int)*2 ^ (m - 8))=((285*2 ^ (m - 8):Nat):Int):=by
      have:=wrap64_small (285*2 ^ (m - 8)) (by omega)
      simpa using this
     have HX:Hid (bits .xor .i64 ((Gf.rr n (14 - m):Nat):Int) (wrap64 ((285:Int)*2 ^ (m - 8)))=((Gf.rr n (14 - m) ^^^ (285*2 ^ (m - 8)):Nat):Int)):=by show _=_;rw [hw1];exact i64_xor_nat _ _ (by omega) (by omega)
     have HE':Hid (Gf.rr n (14 - (m - 1))=Gf.rstep m (Gf.rr n (14 - m))):=by have:=HE.out;rw [if_pos h8] at this;exact this
     clear hw1 HE
     by_cases hbit:Gf.bitOf (Gf.rr n (14 - m)) m=1
     ·have HP:Hid (Gf.rstep m (Gf.rr n (14 - m))=Gf.rr n (14 - m) ^^^ (285*2 ^ (m - 8))):=by show _=_;simp [Gf.rstep,hbit]
      rw [decide_eq_true hbit] at hbt
      clear hbit
      go_wp2
      exact ⟨⟨m - 1,by omega,by omega,by congr 1;omega,by rw [HE'.out,HP.out,HX.out]⟩,by simp [intOf];omega⟩
     ·have HP:Hid (Gf.rstep m (Gf.rr n (14 - m))=Gf.rr n (14 - m)):=by show _=_;simp [Gf.rstep,hbit]
      rw [decide_eq_false hbit] at hbt
      clear hbit
      go_wp2
      exact ⟨⟨m - 1,by omega,by omega,by congr 1;omega,by rw [HE'.out,HP.out]⟩,by simp [intOf];omega⟩
    ·have hm':m=7:=by omega
     subst hm'
     go_wp2
     go_ret
     refine ⟨ret_int ?_,rfl⟩
     have:=HR.out
     rw [<- this]
     simp [Gf.rmod]
theorem rmul_as (a b c:Nat) (w:World) (ha:a < 256) (hb:b < 256) (h:Gf.mul a b=c) :
 Calls Tryz.prog 30 #[.int .u8 (a:Int),.int .u8 (b:Int)] w fun e w'=>e=.returned (.int .u8 ((c:Nat):Int))/\w'=w:=h ▸ rmul_any a b w ha hb
set_option maxRecDepth 10000 in
set_option maxHeartbeats 1000000 in
theorem rinv_any (a:Nat) (w:World) (ha:a < 256) (h0:a≠0) :
 Calls Tryz.prog 69 #[.int .u8 (a:Int)] w fun e w'=>e=.returned (.int .u8 ((Gf.inv a:Nat):Int))/\w'=w:=by
 have hi:=Gf.inv_lt a
 have hip:=Gf.inv_pos a ha h0
 have HM:Hid (Gf.mul a (Gf.inv a)=1):=Gf.mul_inv a ha h0
 have HU:Hid (∀ b,b < 256->Gf.mul a b=1->b=Gf.inv a):=fun b hb h=>Gf.inv_unique a b ha hb h0 h
 clear h0
 go_enter Tryz.func69,Tryz.ntmps69
 go_wp2
 go_loop [3] (fun i=>∃ k:Nat,1<=k/\k<=Gf.inv a/\i=.int .i64 k) (fun i=>256 - (intOf i).toNat)
 case atStart=>exact ⟨1,by omega,by omega,rfl⟩
 case round =>
  obtain ⟨k,hk1,hk,rfl⟩:=hrel
  by_cases hki:k=Gf.inv a
  ·subst hki
   go_wp2_with fail
   refine (rmul_as a (Gf.inv a) 1 _ ha hi HM.out).mono ?_
   rintro e w' ⟨rfl,rfl⟩
   go_wp2
   go_ret
   exact ⟨rfl,rfl⟩
  ·have hn1 : (((Gf.mul a k : Nat) : Int) == 1) = false := by
    simp only [beq_eq_false_iff_ne,ne_eq]
    intro h
    exact hki (HU.out k (by omega) (by omega))
   go_wp2_with fail
   refine (rmul_any a k _ ha (by omega)).mono ?_
   rintro e w' ⟨rfl,rfl⟩
   go_wp2
   exact ⟨⟨k+1,by omega,by omega,by go_num⟩,by simp [intOf];omega⟩
set_option maxRecDepth 10000 in
set_option maxHeartbeats 2000000 in
theorem basis_any (p:Option Addr) (l:List Nat) (cap i x:Nat) (w:World) (hx:x < 256) (hl:l.length < 2 ^ 40) (hi:i < l.length) (hn:l.Nodup) (hs:Seg w p l) :
 Calls Tryz.prog 48 #[.slice p l.length cap,.int .i64 (i:Int),.int .u8 (x:Int)] w fun e w'=>e=.returned (.int .u8 ((Gf.shareOf l i x:Nat):Int))/\∃ n,w'=w.drewN n:=by
 obtain ⟨hlt,hs⟩:=hs
 rcases hs with hs | ⟨b,o,rfl,hb,hc⟩
 ·rw [hs] at hi;simp at hi
 have hxi:=hlt i
 have HE:Hid (Gf.bas l i x l.length=Gf.shareOf l i x):=Gf.bas_share l hlt hn i x hi hx
 have HI:Hid (∀ k,k < l.length->k≠i->Gf.nth l i ^^^ Gf.nth l k≠0):=fun k hk e=>Gf.xor_ne fun h'=>e (Gf.nth_inj l hn hk hi h'.symm)
 clear hn
 go_enter Tryz.func48,Tryz.ntmps48
 go_wp2
 go_loopw [7,8] (fun s j wr=>(∃ n,wr=w.drewN n)/\∃ k:Nat,k<=l.length/\j=.int .i64 k/\s=.int .u8 (Gf.bas l i x k:Nat)) (fun _ j _=>l.length - (intOf j).toNat)
 case atStart=>exact ⟨⟨0,rfl⟩,0,by omega,rfl,rfl⟩
 case round =>
  obtain ⟨hw0,k,hk,rfl,rfl⟩:=hrel
  have HW:Hid (∃ n,wr=w.drewN n):=hw0
  clear hw0
  have hpa:=Gf.bas_lt l i x k
  by_cases hlt2:k < l.length
  ·have hc1 : wr.cell? ⟨b, o + k, none⟩ = some (.int .u8 ((Gf.nth l k : Nat) : Int)) := by
    obtain ⟨n,hn⟩:=HW.out
    rw [hn]
    exact hc k hlt2
   have hc2:wr.cell? ⟨b,o+i,none⟩=some (.int .u8 ((Gf.nth l i:Nat):Int)):=by
    obtain ⟨n,hn⟩:=HW.out
    rw [hn]
    exact hc i hi
   have hkl:=hlt k
   have HA:Hid (Gf.bas l i x (k+1)=if k=i then Gf.bas l i x k else Gf.mul (Gf.bas l i x k) (Gf.mul (x ^^^ Gf.nth l k) (Gf.inv (Gf.nth l i ^^^ Gf.nth l k)))):=rfl
   clear hc
   by_cases hki:k=i
   ·have HA':=HA.out
    rw [if_pos hki] at HA'
    have HA2:Hid (Gf.bas l i x (k+1)=Gf.bas l i x k):=HA'
    have ht:((k:Int) != (i:Int))=false:=by simp;omega
    clear HA HA' hki
    go_wp2
    go_roundw
    case rel=>exact ⟨HW.out,k+1,by omega,by go_num,by rw [HA2.out]⟩
    case measure=>simp [intOf];omega
   ·have HA':=HA.out
    rw [if_neg hki] at HA'
    have HA2:Hid (Gf.bas l i x (k+1)=Gf.mul (Gf.bas l i x k) (Gf.mul (x ^^^ Gf.nth l k) (Gf.inv (Gf.nth l i ^^^ Gf.nth l k)))):=HA'
    have HZ:Hid (Gf.nth l i ^^^ Gf.nth l k≠0):=HI.out k hlt2 hki
    have ht:((k:Int) != (i:Int))=true:=by simp;omega
    clear HA HA' hki HI
    generalize Gf.bas l i x k=pa at hpa HA2 ⊢
    generalize Gf.nth l k=c at hc1 hkl HA2 HZ
    generalize Gf.nth l i=d at hc2 hxi HA2 HZ
    have hxc:=Gf.xlt hx hkl
    have hdc:=Gf.xlt hxi hkl
    have hb1:=u8_xor_nat x c hx hkl
    have hb2:=u8_xor_nat d c hxi hkl
    have hin:=Gf.inv_lt (d ^^^ c)
    have hm:=Gf.mul_lt hxc (Gf.inv (d ^^^ c))
    go_wp2
    go_quiet ((first | (go_at_call 69;exact Calls.quiet_of_same (rinv_any (d ^^^ c) _ hdc HZ.out)) | (go_at_call_of 30 (Value.int IntKind.u8 ((x ^^^ c:Nat):Int));exact Calls.quiet_of_same (rmul_any (x ^^^ c) (Gf.inv (d ^^^ c)) _ hxc hin)) | (go_at_call_of 30 (Value.int IntKind.u8 ((pa:Nat):Int));exact Calls.quiet_of_same (rmul_any pa (Gf.mul (x ^^^ c) (Gf.inv (d ^^^ c))) _ hpa hm))))
    go_wp2
    go_roundw
    case rel =>
     obtain ⟨n,hn⟩:=HW.out
     exact ⟨⟨n+nq,by rw [hn,World.drewN_drewN]⟩,k+1,by omega,by go_num,by rw [HA2.out]⟩
    case measure=>simp [intOf];omega
  ·have hke:k=l.length:=by omega
   subst hke
   go_wp2
   go_ret
   exact ⟨by simp [HE.out],HW.out⟩
def spreadM (k n:Nat):List (List Nat):=(List.range n).map fun i=>rowFn k fun j=>Gf.shareOf (upToL k) j i
theorem spreadM_succ (k n:Nat):spreadM k (n+1)=spreadM k n ++ [rowFn k fun j=>Gf.shareOf (upToL k) j n]:=by simp [spreadM,List.range_succ]
theorem spreadM_length (k n:Nat):(spreadM k n).length=n:=by simp [spreadM]
theorem upToL_nodup (k:Nat):(upToL k).Nodup:=List.nodup_range
theorem upToL_length (k:Nat):(upToL k).length=k:=by simp [upToL]
theorem upToL_bytes (k:Nat) (h:k<=256):Gf.Bytes (upToL k):=fun i=>by
 by_cases hi:i < k
 ·rw [Gf.nth_getElem _ _ (by rw [upToL_length];exact hi)];simp [upToL];omega
 ·unfold Gf.nth;rw [List.getD_eq_getElem?_getD,List.getElem?_eq_none (by rw [upToL_length];omega)];decide
theorem basis_told (p:Option Addr) (k cap j x:Nat) (w:World) (hx:x < 256) (hk:k<=100) (hj:j < k) (hs:Seg w p (upToL k)) :
 Calls Tryz.prog 48 #[.slice p k cap,.int .i64 (j:Int),.int .u8 (x:Int)] w fun e w'=>e=.returned (.int .u8 ((Gf.shareOf (upToL k) j x:Nat):Int))/\∃ n,w'=w.drewN n:=by
 have h:=basis_any p (upToL k) cap j x w hx (by rw [upToL_length];omega) (by rw [upToL_length];exact hj) (upToL_nodup k) hs
 rw [upToL_length] at h
 exact h
theorem spreadM_row (k n i:Nat) (hi:i < n):rowOf (spreadM k n) i=rowFn k fun j=>Gf.shareOf (upToL k) j i:=by
 unfold rowOf spreadM
 rw [List.getD_eq_getElem?_getD,List.getElem?_map,List.getElem?_range hi]
 rfl
def encN (s:List Nat) (k wd i c:Nat):Nat->Nat
 | 0=>0
 | j+1=>if j*wd+c < s.length then encN s k wd i c j ^^^ Gf.mul (Gf.shareOf (upToL k) j i) (Gf.nth s (j*wd+c)) else encN s k wd i c j
def encRow (s:List Nat) (k wd i:Nat):List Nat:=rowFn wd fun c=>encN s k wd i c k
theorem encN_lt (s:List Nat) (k wd i c:Nat):∀ j,encN s k wd i c j < 256
 | 0=>by show 0 < 256;decide
 | j+1=>by
  show (if j*wd+c < s.length then encN s k wd i c j ^^^ Gf.mul (Gf.shareOf (upToL k) j i) (Gf.nth s (j*wd+c)) else encN s k wd i c j) < 256
  split
  ·exact Gf.xlt (encN_lt s k wd i c j) (Gf.mul_lt (Gf.shareOf_lt _ _ _) _)
  ·exact encN_lt s k wd i c j
def shCells (l:List (Nat×List Nat)):List Value:=l.flatMap fun x=>[.int .i64 (x.1:Int),.string (strOf x.2)]
def OwnSh (w:World) (B:Nat) (v:Value) (l:List (Nat×List Nat)):Prop:=w.ownsRow B 45 2 v l.length (shCells l)
theorem shinfo:(Tryz.prog.info? 45).map (fun i=>(i.zero,i.size,i.bytes))=some (some (.agg #[.int .i64 0,.string ⟨#[]⟩]),2,24):=by kernel_rfl
theorem shCells_snoc (l:List (Nat×List Nat)) (x:Nat×List Nat):shCells (l ++ [x])=shCells l ++ [.int .i64 (x.1:Int),.string (strOf x.2)]:=by simp [shCells]
theorem OwnSh.snoc {w:World} {B:Nat} {v:Value} {l:List (Nat×List Nat)} {i:Nat} {row:List Nat} {n:Nat} (h:w.ownsRow B 45 2 v (n+1) (shCells l ++ [.int .i64 (i:Int),.string (strOf row)])) (hn:n=l.length):OwnSh w B v (l ++ [(i,row)]):=by
 unfold OwnSh
 rw [shCells_snoc,List.length_append,List.length_singleton,<- hn]
 exact h
set_option maxRecDepth 10000 in
set_option maxHeartbeats 4000000 in
theorem rspread_any (n k:Nat) (w:World) (hn:n<=100) (hk1:1<=k) (hk:k<=100) :
 Calls Tryz.prog 29 #[.int .i64 (n:Int),.int .i64 (k:Int)] w fun e w'=>(∃ p' c',e=.returned (.slice p' n c')/\Mat w' p' (spreadM k n))/\Below w.heap.size w w':=by
 obtain ⟨i1,hi1,hy0,hy1,hy2⟩:=info_parts rowinfo
 obtain ⟨i0,hi0,hz0,hz1,hzb⟩:=info_parts u8info
 go_enter Tryz.func29,Tryz.ntmps29
 go_wp2_with fail
 refine (upTo_any k _ hk).mono ?_
 rintro e w2 ⟨⟨vx,rfl,hox⟩,hb2⟩
 obtain ⟨px,cx,hvx,hsx⟩:=hox.seg (upToL_bytes k (by omega))
 rw [upToL_length] at hvx
 subst hvx
 have HSX:Hid (Seg w2 px (upToL k)):=hsx
 have HB2:Hid (Below w.heap.size w w2):=hb2
 have hzw:w.heap.size<=w2.heap.size:=hb2.size
 clear hox hsx hb2
 go_wp2
 go_loopw [6,7] (fun v x wr=>∃ i:Nat,i<=n/\x=.int .i64 i/\OwnMat w2.heap.size wr 76 v (spreadM k i)/\Below w2.heap.size w2 wr) (fun _ x _=>n - (intOf x).toNat)
 case atStart=>exact ⟨0,by omega,rfl,OwnMat.nil _ _ _,Below.refl _ _⟩
 case round =>
  obtain ⟨i,hi,rfl,hO,hBr⟩:=hrel
  have HO:Hid (OwnMat w2.heap.size wr 76 u6 (spreadM k i)):=hO
  have HBr:Hid (Below w2.heap.size w2 wr):=hBr
  have hz2:w2.heap.size<=wr.heap.size:=hBr.size
  clear hO hBr
  by_cases hil:i < n
  ·go_wp2_with (first | (at_make;refine wpList_make_row _ rfl (.tmp 17) (.tmp 17) 76 rfl 5 i0 (byteV 0) Tryz.underlying76 hi0 hz0 hz1 rfl .i64 .i64 k rfl rfl (by rw [hzb];omega) (by omega) ?_))
   obtain ⟨w3,rfl⟩:∃ w3,w3=wr:=⟨_,rfl⟩
   have hmk:OwnN (w3.alloc (.cells (madeCells #[byteV 0] k) 5)) w3.heap.size 5 w3.heap.size k (rowFn k (fun c=>if c < 0 then Gf.shareOf (upToL k) c i else 0)):=by
    have:=OwnN.made w3 w3.heap.size 5 k (Nat.le_refl _) (by omega)
    rw [rowFn_congr k _ (fun c=>if c < 0 then Gf.shareOf (upToL k) c i else 0) (fun c _=>by rw [if_neg (Nat.not_lt_zero _)])] at this
    exact this
   have hbk:Below w3.heap.size w3 (w3.alloc (.cells (madeCells #[byteV 0] k) 5)):=(Below.refl _ _).alloc (Nat.le_refl _) _
   generalize w3.alloc (.cells (madeCells #[byteV 0] k) 5)=w4 at hmk hbk ⊢
   have HMK:Hid (OwnN w4 w3.heap.size 5 w3.heap.size k (rowFn k (fun c=>if c < 0 then Gf.shareOf (upToL k) c i else 0))):=hmk
   have HBK:Hid (Below w3.heap.size w3 w4):=hbk
   clear hmk hbk
   go_loopw [9] (fun x wq=>∃ j:Nat,j<=k/\x=.int .i64 j/\OwnN wq w3.heap.size 5 w3.heap.size k (rowFn k (fun c=>if c < j then Gf.shareOf (upToL k) c i else 0))/\Below w3.heap.size w3 wq) (fun x _=>k - (intOf x).toNat)
   case atStart=>exact ⟨0,by omega,rfl,HMK.out,HBK.out⟩
   case round =>
    obtain ⟨j,hj,rfl,hON,hBq⟩:=hrel
    obtain ⟨w5,rfl⟩:∃ w5,w5=wr:=⟨_,rfl⟩
    have HON:Hid (OwnN w5 w3.heap.size 5 w3.heap.size k (rowFn k (fun c=>if c < j then Gf.shareOf (upToL k) c i else 0))):=hON
    have HBq:Hid (Below w3.heap.size w3 w5):=hBq
    have hz5:w3.heap.size<=w5.heap.size:=hBq.size
    clear hON hBq HMK HBK
    by_cases hjl:j < k
    ·have HS5:Hid (Seg w5 px (upToL k)):=(HSX.out.below HBr.out).below HBq.out
     go_wp2_with fail
     refine (basis_told px k cx j i _ (by omega) hk hjl HS5.out).mono ?_
     rintro e w6 ⟨rfl,m,hw6⟩
     have HO6:Hid (OwnN w6 w3.heap.size 5 w3.heap.size k (rowFn k (fun c=>if c < j then Gf.shareOf (upToL k) c i else 0))):=by rw [hw6];exact HON.out.drewN m
     have HB6:Hid (Below w3.heap.size w3 w6):=by rw [hw6];exact below_drewN HBq.out m
     have q5:w6.cell? ⟨w3.heap.size,j,none⟩=some (.int .u8 ((0:Nat):Int)):=by rw [HO6.out.cell j hjl (rowFn_length _ _),nth_rowFn _ _ j hjl,if_neg (Nat.lt_irrefl _)]
     have q6:w6.frozen? ⟨w3.heap.size,j,none⟩=false:=HO6.out.free j
     have HT:Hid (OwnN (w6.setCell ⟨w3.heap.size,j,none⟩ (.int .u8 ((Gf.shareOf (upToL k) j i:Nat):Int))) w3.heap.size 5 w3.heap.size k (rowFn k (fun c=>if c < j+1 then Gf.shareOf (upToL k) c i else 0))):=by
      have:=HO6.out.set j (Gf.shareOf (upToL k) j i)
      rw [rowFn_congr k (fun c=>if c < j+1 then Gf.shareOf (upToL k) c i else 0) (fun c=>if c=j then Gf.shareOf (upToL k) j i else if c < j then Gf.shareOf (upToL k) c i else 0) (fun c _=>by
       by_cases e:c=j
       ·subst e;rw [if_pos (by omega),if_pos rfl]
       ·rw [if_neg e]
        by_cases e':c < j
        ·rw [if_pos (by omega),if_pos e']
        ·rw [if_neg (by omega),if_neg e'])]
      exact this
     clear hw6 HON HBq HS5 HO6
     generalize Gf.shareOf (upToL k) j i=sh at HT ⊢
     go_wp2
     go_roundw
     case rel=>exact ⟨j+1,by omega,by go_num,HT.out,HB6.out.setCell (Nat.le_refl _) _⟩
     case measure=>simp [intOf];omega
    ·have hje:j=k:=by omega
     subst hje
     obtain ⟨vs,hmv⟩:=HO.out
     have HMV:Hid (OwnMatV w2.heap.size w3 76 u6 vs (spreadM j i)):=hmv
     have HV:Hid (OwnV w3 w2.heap.size 76 u6 vs):=hmv.1
     have HVL:Hid (vs.length=i):=hmv.2.1.trans (spreadM_length j i)
     have hr:Hid (Own w5 w3.heap.size 5 (.slice (some ⟨w3.heap.size,0,none⟩) j j) (rowFn j fun c=>Gf.shareOf (upToL j) c i)):=by
      refine OwnN.own ?_ (rowFn_length _ _)
      rw [rowFn_congr j _ (fun c=>if c < j then Gf.shareOf (upToL j) c i else 0) (fun c hc=>by rw [if_pos hc])]
      exact HON.out
     clear hmv HON
     go_wp2_with (first | (at_builtin;refine wpList_append_val rfl (.tmp 32) (.tmp 34) 74 rfl w2.heap.size 76 i1 (.slice none 0 0) 24 Tryz.underlying74 hi1 hy0 rfl hy1 hy2 (by decide) u6 vs rfl (((HV.out.kept (row:=none) ⟨HBq.out.os,HBq.out.tape,HBq.out.output,HBq.out.size,fun k hk _=>HBq.out.block k hk⟩ (by cases hv:u6.ownBlock <;> simp))).kept (World.grownBy_alloc w5 _ none) (by cases hv:u6.ownBlock <;> simp)) ⟨w5.heap.size,0,none⟩ 1 (.slice (some ⟨w3.heap.size,0,none⟩) j j) rfl rfl (by simp) (by have:=HVL.out;omega) (by simp;omega) ?_;intro v' w8 hV' hg' hw'))
     have hmv3:=HMV.out.snoc hz2 hr.out (rowFn_bytes _ _ fun c=>Gf.shareOf_lt _ c _) HBq.out hV' hg' hw'
     have hb8:Below w2.heap.size w2 w8:=((HBr.out.trans (HBq.out.mono hz2)).alloc (by omega) _).grown hg' (by simp;omega) (fun k' hk'=>(HV.out.block hk').1)
     go_roundw
     case rel=>exact ⟨i+1,by omega,by go_num,⟨_,by rw [spreadM_succ];exact hmv3⟩,hb8⟩
     case measure=>simp [intOf];omega
  ·have hie:i=n:=by omega
   subst hie
   obtain ⟨p',c',hv,hmat⟩:=HO.out.mat
   rw [spreadM_length] at hv
   subst hv
   clear HO
   go_wp2
   go_ret
   exact ⟨⟨p',c',rfl,hmat⟩,HB2.out.trans (HBr.out.mono hzw)⟩
set_option maxRecDepth 10000 in
set_option maxHeartbeats 1000000 in
theorem sign_any (r:Nat) (W:World):Calls Tryz.prog 50 #[.int .i32 (r:Int)] W fun e w'=>e=.returned (.bool (!letterB r))/\w'=W:=by
 have key:∀ b,letterB r=b->Hid ((!letterB r)=(!b)):=fun b h=>by show _=_;rw [h]
 rcases (show (97<=r/\r<=122)∨(48<=r/\r<=57)∨r=45∨122 < r∨(57 < r/\r < 97)∨(r < 48/\r≠45) by omega) with hc | hc | hc | hc | hc | hc
 ·have HL:=key true (by simp [letterB,hc])
  obtain ⟨hc1,hc2⟩:=hc
  have d1:decide ((r:Int) < 97)=false:=decide_eq_false (by omega)
  have d2:decide (122 < (r:Int))=false:=decide_eq_false (by omega)
  rw [HL.out]
  clear key
  go_enter Tryz.func50,Tryz.ntmps50
  go_wp2
  go_ret
  exact ⟨rfl,rfl⟩
 ·have HL:=key true (by simp [letterB,hc])
  obtain ⟨hc1,hc2⟩:=hc
  have d1:decide ((r:Int) < 97)=true:=decide_eq_true (by omega)
  have d3:decide ((r:Int) < 48)=false:=decide_eq_false (by omega)
  have d4:decide (57 < (r:Int))=false:=decide_eq_false (by omega)
  rw [HL.out]
  clear key
  go_enter Tryz.func50,Tryz.ntmps50
  go_wp2
  go_ret
  exact ⟨rfl,rfl⟩
 ·have HL:=key true (by simp [letterB,hc])
  subst hc
  rw [HL.out]
  clear key
  go_enter Tryz.func50,Tryz.ntmps50
  go_wp2
  go_ret
  exact ⟨rfl,rfl⟩
 ·have HL:=key false (by unfold letterB;rw [decide_eq_false (by omega),decide_eq_false (by omega),decide_eq_false (by omega)];rfl)
  have d1:decide ((r:Int) < 97)=false:=decide_eq_false (by omega)
  have d2:decide (122 < (r:Int))=true:=decide_eq_true (by omega)
  have d3:decide ((r:Int) < 48)=false:=decide_eq_false (by omega)
  have d4:decide (57 < (r:Int))=true:=decide_eq_true (by omega)
  have d5:((r:Int) != 45)=true:=by rw [bne_iff_ne];omega
  have d6:((r:Int)==45)=false:=by rw [beq_eq_false_iff_ne];omega
  rw [HL.out]
  clear key
  go_enter Tryz.func50,Tryz.ntmps50
  go_wp2
  go_ret
  exact ⟨rfl,rfl⟩
 ·have HL:=key false (by unfold letterB;rw [decide_eq_false (by omega),decide_eq_false (by omega),decide_eq_false (by omega)];rfl)
  obtain ⟨hc1,hc2⟩:=hc
  have d1:decide ((r:Int) < 97)=true:=decide_eq_true (by omega)
  have d3:decide ((r:Int) < 48)=false:=decide_eq_false (by omega)
  have d4:decide (57 < (r:Int))=true:=decide_eq_true (by omega)
  have d5:((r:Int) != 45)=true:=by rw [bne_iff_ne];omega
  have d6:((r:Int)==45)=false:=by rw [beq_eq_false_iff_ne];omega
  rw [HL.out]
  clear key
  go_enter Tryz.func50,Tryz.ntmps50
  go_wp2
  go_ret
  exact ⟨rfl,rfl⟩
 ·have HL:=key false (by unfold letterB;rw [decide_eq_false (by omega),decide_eq_false (by omega),decide_eq_false (by omega)];rfl)
  obtain ⟨hc1,hc2⟩:=hc
  have d1:decide ((r:Int) < 97)=true:=decide_eq_true (by omega)
  have d3:decide ((r:Int) < 48)=true:=decide_eq_true (by omega)
  have d5:((r:Int) != 45)=true:=by rw [bne_iff_ne];omega
  have d6:((r:Int)==45)=false:=by rw [beq_eq_false_iff_ne];omega
  rw [HL.out]
  clear key
  go_enter Tryz.func50,Tryz.ntmps50
  go_wp2
  go_ret
  exact ⟨rfl,rfl⟩
theorem idxFrom (s:ByteArray):∀ (f i:Nat),s.size<=i+f->(decide (0<=Lib.idxFuncFrom (fun r=>!letterB r) true s f i)=true↔∃ j,i<=j/\j < s.size/\letterB (Gf.nth (bytesOf s) j)=false)
 | 0,i,h=>by
  constructor
  ·intro h1
   have h2:decide ((0:Int)<=-1)=true:=h1
   cases h2
  ·rintro ⟨j,h1,h2,_⟩
   omega
 | f+1,i,h=>by
  show decide (0<=(if i < s.size then (if (!letterB (Utf8.decode s i).1)=true then (i:Int) else Lib.idxFuncFrom (fun r=>!letterB r) true s f (i+(Utf8.decode s i).2)) else -1))=true↔_
  by_cases hi:i < s.size
  ·rw [if_pos hi]
   by_cases ha:(s[i]'hi).toNat < 128
   ·rw [decode_ascii s i hi ha,<- bytesOf_nth s i hi]
    have ih:=idxFrom s f (i+1) (by omega)
    cases hl:letterB (Gf.nth (bytesOf s) i) with
    | false =>
     rw [if_pos (by rfl)]
     exact ⟨fun _=>⟨i,Nat.le_refl _,hi,hl⟩,fun _=>decide_eq_true (by omega)⟩
    | true =>
     rw [if_neg (by simp),ih]
     constructor
     ·rintro ⟨j,h1,h2,h3⟩
      exact ⟨j,by omega,h2,h3⟩
     ·rintro ⟨j,h1,h2,h3⟩
      refine ⟨j,?_,h2,h3⟩
      by_cases e:j=i
      ·rw [e,hl] at h3;cases h3
      ·omega
   ·have h1:=(decode_high s i hi (by omega)).1
    have hl:letterB (Utf8.decode s i).1=false:=by
     unfold letterB
     rw [decide_eq_false (by omega),decide_eq_false (by omega),decide_eq_false (by omega)]
     rfl
    have hl2:letterB (Gf.nth (bytesOf s) i)=false:=by
     rw [bytesOf_nth s i hi]
     unfold letterB
     rw [decide_eq_false (by omega),decide_eq_false (by omega),decide_eq_false (by omega)]
     rfl
    rw [hl,if_pos (by rfl)]
    exact ⟨fun _=>⟨i,Nat.le_refl _,hi,hl2⟩,fun _=>decide_eq_true (by omega)⟩
  ·rw [if_neg hi]
   constructor
   ·intro h1
    cases h1
   ·rintro ⟨j,h1,h2,_⟩
    omega
theorem idxOf (s:ByteArray):decide (0<=Lib.idxFunc (fun r=>!letterB r) true s)=!((bytesOf s).all letterB):=by
 have h:=idxFrom s s.size 0 (by omega)
 cases ha:(bytesOf s).all letterB with
 | true =>
  rw [show (!true)=false from rfl,Bool.eq_false_iff]
  intro h1
  obtain ⟨j,_,hj,h3⟩:=h.1 h1
  have hj':j < (bytesOf s).length:=by rw [bytesOf_length];exact hj
  rw [List.all_eq_true] at ha
  have:=ha (Gf.nth (bytesOf s) j) (by rw [Gf.nth_getElem _ j hj'];exact List.getElem_mem hj')
  rw [h3] at this
  cases this
 | false =>
  obtain ⟨x,hx,hne⟩:=List.all_eq_false.1 ha
  obtain ⟨j,hj,rfl⟩:=List.getElem_of_mem hx
  refine h.2 ⟨j,Nat.zero_le _,by rw [bytesOf_length] at hj;exact hj,?_⟩
  rw [Gf.nth_getElem _ j hj]
  exact Bool.eq_false_iff.2 hne
set_option maxRecDepth 10000 in
set_option maxHeartbeats 1000000 in
theorem pname_any (s:ByteArray) (w:World):Calls Tryz.prog 32 #[.string s] w fun e w'=>e=.returned (.bool (isN s))/\Below w.heap.size w w':=by
 by_cases h1:s.size < 1
 ·have HE:Hid (isN s=false):=isN_len (by omega)
  have d1:decide (1<=(s.size:Int))=false:=decide_eq_false (by omega)
  rw [HE.out]
  go_enter Tryz.func32,Tryz.ntmps32
  go_wp2
  go_ret
  exact ⟨rfl,Below.refl _ _⟩
 have d1:decide (1<=(s.size:Int))=true:=decide_eq_true (by omega)
 by_cases h2:16 < s.size
 ·have HE:Hid (isN s=false):=isN_len (by omega)
  have d2:decide ((s.size:Int)<=16)=false:=decide_eq_false (by omega)
  rw [HE.out]
  go_enter Tryz.func32,Tryz.ntmps32
  go_wp2
  go_ret
  exact ⟨rfl,Below.refl _ _⟩
 have d2:decide ((s.size:Int)<=16)=true:=decide_eq_true (by omega)
 have HC:=Tryz.strings_ContainsFunc 50 #[] (enters_of Tryz.func50 (by kernel_rfl) rfl) (fun r=>!letterB r) s w (fun W r _=>by
  unfold FnGives
  exact (sign_any r W).mono fun _ _ ⟨he,hw⟩=>⟨he,0,hw⟩)
 rw [idxOf] at HC
 have HE:Hid (isN s=(bytesOf s).all letterB):=by show _=_;unfold isN;rw [decide_eq_true ⟨by omega,by omega⟩,Bool.true_and]
 rw [HE.out]
 generalize (bytesOf s).all letterB=r at *
 clear HE
 go_enter Tryz.func32,Tryz.ntmps32
 go_wp2_with fail
 refine HC.mono ?_
 rintro e w1 ⟨rfl,hb1⟩
 clear HC
 cases r with
 | true =>
  go_wp2
  go_ret
  exact ⟨rfl,hb1⟩
 | false =>
  go_wp2
  go_ret
  exact ⟨rfl,hb1⟩
theorem errIs_fault {w w':World} {ad:Nat->Addr} {t:TypeId} (i:Nat) (hi:i < 12) (at_:Int) (hw:w'=w.alloc (.cells #[.int .i64 at_,.iface 218 (.pointer (some (ad i)))] t)):ErrIs w' ad (.iface 121 (.pointer (some ⟨w.heap.size,0,none⟩))) ((i+1:Nat):Int) at_:=by
 subst hw
 refine Or.inr (Or.inr ⟨i,w.heap.size,hi,rfl,rfl,?_,?_⟩)
 ·rw [World.cell?_alloc_at _ _ _ _ rfl];rfl
 ·rw [World.cell?_alloc_at _ _ _ _ rfl];rfl
set_option maxRecDepth 10000 in
set_option maxHeartbeats 1000000 in
theorem check_bound (ad:Nat->Addr) (p:Option Addr) (l:List ByteArray) (c:Nat) (w:World) (hl:l.length<=1000) (hE:ErrsQ w ad) (h:l.length < 1∨16 < l.length) :
 Calls Tryz.prog 76 #[.slice p l.length c] w fun e w'=>(∃ ev,e=.returned ev/\ErrIs w' ad ev 2 (-1))/\Below w.heap.size w w':=by
 have q1:=hE.c1
 have HI:Hid (∀ W,ErrIs W ad (.iface 218 (.pointer (some (ad 1)))) 2 (-1)):=fun W=>ErrIs.sent 1 (by decide)
 clear hE
 rcases h with h | h
 ·have d1:decide ((l.length:Int) < 1)=true:=decide_eq_true (by omega)
  go_enter Tryz.func76,Tryz.ntmps76
  go_wp2
  go_ret
  exact ⟨⟨_,rfl,HI.out _⟩,Below.refl _ _⟩
 ·have d1:decide ((l.length:Int) < 1)=false:=decide_eq_false (by omega)
  have d2:decide (16 < (l.length:Int))=true:=decide_eq_true (by omega)
  go_enter Tryz.func76,Tryz.ntmps76
  go_wp2
  go_ret
  exact ⟨⟨_,rfl,HI.out _⟩,Below.refl _ _⟩
set_option maxRecDepth 10000 in
set_option maxHeartbeats 4000000 in
theorem check_scan (ad:Nat->Addr) (p:Option Addr) (l:List ByteArray) (c:Nat) (w:World) (h1:¬ l.length < 1) (h2:¬ 16 < l.length) (hc:l.length<=c) (hs:Strs w p l) (hE:ErrsQ w ad) :
 Calls Tryz.prog 76 #[.slice p l.length c] w fun e w'=>(∃ ev,e=.returned ev/\ErrIs w' ad ev (scanF l 0 l.length).1 (scanF l 0 l.length).2)/\Below w.heap.size w w':=by
 have HS:Hid (Strs w p l):=hs
 have HE:Hid (ErrsQ w ad):=hE
 have g1:decide ((l.length:Int) < 1)=false:=decide_eq_false (by omega)
 have g2:decide (16 < (l.length:Int))=false:=decide_eq_false (by omega)
 obtain ⟨b,o,rfl⟩:∃ b o,p=some ⟨b,o,none⟩:=by
  rcases hs with h0 | ⟨b,o,hp,_⟩
  ·rw [h0] at h1;exact absurd (by decide) h1
  ·exact ⟨b,o,hp⟩
 clear hs hE
 obtain ⟨R,hR⟩:∃ R,R=scanF l 0 l.length:=⟨_,rfl⟩
 rw [<- hR]
 have HR:Hid (R=scanF l 0 l.length):=hR
 clear hR
 go_enter Tryz.func76,Tryz.ntmps76
 go_wp2
 go_loopw [16] (fun x wq=>∃ i:Nat,i<=l.length/\x=.int .i64 i/\scanF l i (l.length - i)=R/\Below w.heap.size w wq) (fun x _=>l.length - (intOf x).toNat)
 case atStart=>exact ⟨0,Nat.zero_le _,rfl,HR.out.symm,Below.refl _ _⟩
 case round =>
  obtain ⟨i,hi,rfl,hsc,hbq⟩:=hrel
  obtain ⟨w1,rfl⟩:∃ w1,w1=wr:=⟨_,rfl⟩
  have HSC:Hid (scanF l i (l.length - i)=R):=hsc
  have HBW:Hid (Below w.heap.size w w1):=hbq
  have HS1:Hid (Strs w1 (some ⟨b,o,none⟩) l):=HS.out.below hbq
  have HE1:Hid (ErrsQ w1 ad):=HE.out.below hbq
  clear hsc hbq HR HS HE
  by_cases hil:i < l.length
  ·have q3 : w1.cell? ⟨b, o + i, none⟩ = some (.string (txt l i)) := by
    rcases HS1.out with h0 | ⟨b',o',hp,_,hcell⟩
    ·rw [h0] at hil;exact absurd hil (Nat.not_lt_zero _)
    ·obtain ⟨rfl,rfl⟩:b=b'/\o=o':=by simpa using hp
     exact hcell i hil
   have HNAME:Hid (∀ W,Calls Tryz.prog 32 #[.string (txt l i)] W fun e w'=>e=.returned (.bool (isN (txt l i)))/\Below W.heap.size W w'):=fun W=>pname_any _ W
   have HSUC:Hid (scanF l i (l.length - i)=if faultAt l i=0 then scanF l (i+1) (l.length - (i+1)) else (((faultAt l i:Nat):Int),(i:Int))):=by
    show _=_
    rw [show l.length - i=(l.length - (i+1))+1 by omega]
    rfl
   by_cases hN:isN (txt l i)=true
   ·have HCON:Hid (∀ W,Strs W (some ⟨b,o,none⟩) (l.take i)->Calls Tryz.prog 91 #[.slice (some ⟨b,o,none⟩) (l.take i).length c,.string (txt l i)] W fun e w'=>e=.returned (.bool (inL (l.take i) (txt l i)))/\w'=W):=fun W hW=>scont_any _ _ c _ W (by rw [List.length_take];omega) hW
    rw [show (l.take i).length=i by rw [List.length_take];omega] at HCON
    rw [hN] at HNAME
    by_cases hM:txt l i ∈ l.take i
    ·have HA : Hid (R = (6, (i : Int))) := by
      show _=_
      rw [<- HSC.out,HSUC.out,faultAt_twice hN hM,if_neg (by decide)]
      rfl
     rw [inL_iff.2 hM] at HCON
     clear HSC HSUC hN hM
     generalize txt l i=t at *
     go_wp2_with fail
     refine (HNAME.out _).mono ?_
     rintro e w2 ⟨rfl,hb2⟩
     have HB2:Hid (Below w.heap.size w w2):=HBW.out.trans (hb2.mono HBW.out.size)
     have HS2:Hid (Strs w2 (some ⟨b,o,none⟩) (l.take i)):=(HS1.out.below hb2).take i
     have hE2:ErrsQ w2 ad:=HE1.out.below hb2
     have q4:=hE2.c5
     clear hE2 hb2 HNAME q3
     go_wp2_with fail
     refine (HCON.out _ HS2.out).mono ?_
     rintro e w3 ⟨rfl,hw3⟩
     rw [hw3]
     clear hw3 w3 HCON HS2
     go_wp2
     go_ret
     exact ⟨⟨_,rfl,by rw [HA.out];exact errIs_fault (w:=w2) 5 (by decide) (i:Int) rfl⟩,HB2.out.alloc HB2.out.size _⟩
    ·have HA : Hid (scanF l (i + 1) (l.length - (i + 1)) = R) := by
      show _=_
      rw [<- HSC.out,HSUC.out,faultAt_fine hN hM,if_pos rfl]
     rw [Bool.eq_false_iff.2 (fun h=>hM (inL_iff.1 h))] at HCON
     clear HSC HSUC hN hM
     generalize txt l i=t at *
     go_wp2_with fail
     refine (HNAME.out _).mono ?_
     rintro e w2 ⟨rfl,hb2⟩
     have HB2:Hid (Below w.heap.size w w2):=HBW.out.trans (hb2.mono HBW.out.size)
     have HS2:Hid (Strs w2 (some ⟨b,o,none⟩) (l.take i)):=(HS1.out.below hb2).take i
     clear hb2 HNAME q3
     go_wp2_with fail
     refine (HCON.out _ HS2.out).mono ?_
     rintro e w3 ⟨rfl,hw3⟩
     rw [hw3]
     clear hw3 w3 HCON HS2
     go_wp2
     go_roundw
     case rel=>exact ⟨i+1,by omega,by go_num,HA.out,HB2.out⟩
     case measure=>simp [intOf];omega
   ·have hN':isN (txt l i)=false:=Bool.eq_false_iff.2 hN
    have HA:Hid (R=(4,(i:Int))):=by
     show _=_
     rw [<- HSC.out,HSUC.out,faultAt_name hN',if_neg (by decide)]
     rfl
    rw [hN'] at HNAME
    clear HSC HSUC hN hN'
    generalize txt l i=t at *
    go_wp2_with fail
    refine (HNAME.out _).mono ?_
    rintro e w2 ⟨rfl,hb2⟩
    have HB2:Hid (Below w.heap.size w w2):=HBW.out.trans (hb2.mono HBW.out.size)
    have hE2:ErrsQ w2 ad:=HE1.out.below hb2
    have q4:=hE2.c3
    clear hE2 hb2 HNAME q3
    go_wp2
    go_ret
    exact ⟨⟨_,rfl,by rw [HA.out];exact errIs_fault (w:=w2) 3 (by decide) (i:Int) rfl⟩,HB2.out.alloc HB2.out.size _⟩
  ·have hie:i=l.length:=by omega
   subst hie
   have HA:Hid (R=(0,-1)):=by
    show _=_
    rw [<- HSC.out,Nat.sub_self]
    rfl
   clear HSC
   go_wp2
   go_ret
   exact ⟨⟨_,rfl,by rw [HA.out];exact ErrIs.nil _ _⟩,HBW.out⟩
theorem check_any (ad:Nat->Addr) (p:Option Addr) (l:List ByteArray) (c:Nat) (w:World) (hl:l.length<=1000) (hc:l.length<=c) (hs:Strs w p l) (hE:ErrsQ w ad) :
 Calls Tryz.prog 76 #[.slice p l.length c] w fun e w'=>(∃ ev,e=.returned ev/\ErrIs w' ad ev (nodesF l).1 (nodesF l).2)/\Below w.heap.size w w':=by
 by_cases h:l.length < 1∨16 < l.length
 ·rw [nodesF_bound h]
  exact check_bound ad p l c w hl hE h
 ·rw [nodesF_scan (by omega) (by omega)]
  exact check_scan ad p l c w (by omega) (by omega) hc hs hE
end Go.Proofs.YtghpdhegfnhmkaaGreatDoor
