import Derived.Test.YtghpdhegfnhmkaaGreatDoorS22
import Derived.Test.YtghpdhegfnhmkaaGreatDoorS4
import Derived.Deep.QuietTactic
import Derived.BigQuiet
import Derived.Test.YtghpdhegfnhmkaaGreatDoorS5
import Derived.Test.YtghpdhegfnhmkaaGreatDoorS21
import Derived.Test.YtghpdhegfnhmkaaGreatDoorS19
import Derived.Lib.Join
namespace Go.Proofs.YtghpdhegfnhmkaaGreatDoor
open Go.RowKit
def shStep (n k:Nat) (t:Int×Int) (S:Int×List (Int×ByteArray)) (v:Ver):Int×List (Int×ByteArray) :=
 if v.n=t.1/\v.who=t.2/\canB n k v=true then
  (if S.1 < 0 then v.size else S.1,if v.size=(if S.1 < 0 then v.size else S.1)/\S.2.any (fun y=>y.1==v.at_)=false then S.2 ++ [(v.at_,v.text)] else S.2)
 else S
def shOf (n k:Nat) (t:Int×Int) (L:List Ver):Int×List (Int×ByteArray):=L.foldl (shStep n k t) (-1,[])
theorem shOf_succ {n k:Nat} {t:Int×Int} {L:List Ver} {i:Nat} (hi:i < L.length):shOf n k t (L.take (i+1))=shStep n k t (shOf n k t (L.take i)) (verAt L i):=by
 unfold shOf
 rw [List.take_add_one,verAt_get hi,List.foldl_append]
 rfl
theorem shStep_no {n k:Nat} {t:Int×Int} {S:Int×List (Int×ByteArray)} {v:Ver} (h:¬ (v.n=t.1/\v.who=t.2/\canB n k v=true)):shStep n k t S v=S:=if_neg h
theorem shStep_yes {n k:Nat} {t:Int×Int} {S:Int×List (Int×ByteArray)} {v:Ver} {z:Int} (h:v.n=t.1/\v.who=t.2/\canB n k v=true) (hz:z=if S.1 < 0 then v.size else S.1):shStep n k t S v=(z,if v.size=z/\S.2.any (fun y=>y.1==v.at_)=false then S.2 ++ [(v.at_,v.text)] else S.2):=by
 subst hz
 exact if_pos h
theorem shOf_le {n k:Nat} {t:Int×Int} (L:List Ver):∀ i,(shOf n k t (L.take i)).2.length<=i
 | 0=>Nat.le_refl _
 | i+1=>by
  have ih:=shOf_le (n:=n) (k:=k) (t:=t) L i
  by_cases hi:i < L.length
  ·rw [shOf_succ hi]
   unfold shStep
   split
   ·show (ite _ _ _:List (Int×ByteArray)).length<=i+1
    generalize (if (shOf n k t (L.take i)).1 < 0 then (verAt L i).size else (shOf n k t (L.take i)).1)=z
    split
    ·rw [List.length_append,List.length_singleton];omega
    ·omega
   ·omega
  ·rw [List.take_of_length_le (by omega)]
   rw [List.take_of_length_le (by omega)] at ih
   omega
def fitB (n k:Nat) (size y:Int) (t:ByteArray):Bool:=decide (0<=size/\size<=1000/\0<=y/\y < n/\t.size=wideN k size.toNat)
set_option maxRecDepth 10000 in
set_option maxHeartbeats 4000000 in
theorem cfits_any (n k:Nat) (size y:Int) (t:ByteArray) (w:World) (hk1:1<=k) (hkn:k<=n) (hn:n<=12) :
 Calls Tryz.prog 102 #[.int .i64 (n:Int),.int .i64 (k:Int),.int .i64 size,.agg #[.int .i64 y,.string t]] w fun e w'=>e=.returned (.bool (fitB n k size y t))/\Below w.heap.size w w':=by
 obtain ⟨w1,hw1⟩:∃ w1,w1=w.alloc (.cells #[.int .i64 y,.string t] 45):=⟨_,rfl⟩
 have HB1:Hid (Below w.heap.size w w1):=by rw [hw1];exact (Below.refl _ _).alloc (Nat.le_refl _) _
 have f0:w1.cell? ⟨w.heap.size,0,none⟩=some (.int .i64 y):=by rw [hw1,World.cell?_alloc_at _ _ _ _ rfl];rfl
 have f1:w1.cell? ⟨w.heap.size,1,none⟩=some (.string t):=by rw [hw1,World.cell?_alloc_at _ _ _ _ rfl];rfl
 have HW1:Hid (w1=w.alloc (.cells #[.int .i64 y,.string t] 45)):=hw1
 have HM:Hid (∀ W,Calls Tryz.prog 75 #[.int .i64 (n:Int),.int .i64 (k:Int)] W fun e w'=>e=.returned (.bool true)/\w'=W):=fun W=>by
  have h:=mfits_any (n:Int) (k:Int) W
  rw [decide_eq_true (show (1:Int)<=(k:Int)/\(k:Int)<=(n:Int)/\(n:Int)<=12 by omega)] at h
  exact h
 clear hw1
 by_cases hs:0<=size/\size<=1000
 ·have HS:Hid (∀ W,Calls Tryz.prog 110 #[.int .i64 size] W fun e w'=>e=.returned (.bool true)/\w'=W):=fun W=>szfits_yes _ W hs
  by_cases h1:0<=y
  ·have d1:decide (0<=y)=true:=decide_eq_true h1
   by_cases h2:y < (n:Int)
   ·have d2:decide (y < (n:Int))=true:=decide_eq_true h2
    obtain ⟨s,rfl⟩:=Int.eq_ofNat_of_zero_le hs.1
    have HV:Hid (∀ W,Calls Tryz.prog 96 #[.int .i64 (s:Int),.int .i64 (k:Int)] W fun e w'=>e=.returned (.int .i64 ((wideN k s:Nat):Int))/\w'=W):=fun W=>width_any s k W hk1 (by omega) (by omega)
    have HR:Hid (fitB n k (s:Int) y t=((t.size:Int)==((wideN k s:Nat):Int))):=by
     show _=_
     unfold fitB
     rw [Int.toNat_natCast]
     by_cases h3:t.size=wideN k s
     ·rw [decide_eq_true ⟨hs.1,hs.2,h1,h2,h3⟩,h3];simp
     ·rw [decide_eq_false (fun h=>h3 h.2.2.2.2)]
      symm
      rw [beq_eq_false_iff_ne]
      omega
    rw [HR.out]
    clear hs
    generalize wideN k s=wd at *
    go_enter Tryz.func102,Tryz.ntmps102
    go_wp2_with (rw [<- HW1.out])
    go_quiet (first | (go_at_call 75;exact Calls.quiet_of_same (HM.out _)) | (go_at_call 110;exact Calls.quiet_of_same (HS.out _)) | (go_at_call 96;exact Calls.quiet_of_same (HV.out _)))
    go_wp2
    go_ret
    exact ⟨rfl,below_drewN HB1.out _⟩
   ·have d2:decide (y < (n:Int))=false:=decide_eq_false h2
    have HR:Hid (fitB n k size y t=false):=decide_eq_false fun h=>h2 h.2.2.2.1
    rw [HR.out]
    clear hs h2
    go_enter Tryz.func102,Tryz.ntmps102
    go_wp2_with (rw [<- HW1.out])
    go_quiet (first | (go_at_call 75;exact Calls.quiet_of_same (HM.out _)) | (go_at_call 110;exact Calls.quiet_of_same (HS.out _)))
    go_wp2
    go_ret
    exact ⟨rfl,below_drewN HB1.out _⟩
  ·have d1:decide (0<=y)=false:=decide_eq_false h1
   have HR:Hid (fitB n k size y t=false):=decide_eq_false fun h=>h1 h.2.2.1
   rw [HR.out]
   clear hs h1
   go_enter Tryz.func102,Tryz.ntmps102
   go_wp2_with (rw [<- HW1.out])
   go_quiet (first | (go_at_call 75;exact Calls.quiet_of_same (HM.out _)) | (go_at_call 110;exact Calls.quiet_of_same (HS.out _)))
   go_wp2
   go_ret
   exact ⟨rfl,below_drewN HB1.out _⟩
 ·have HS:Hid (∀ W,Calls Tryz.prog 110 #[.int .i64 size] W fun e w'=>e=.returned (.bool false)/\w'=W):=fun W=>szfits_no _ W hs
  have HR:Hid (fitB n k size y t=false):=decide_eq_false fun h=>hs ⟨h.1,h.2.1⟩
  rw [HR.out]
  clear hs
  go_enter Tryz.func102,Tryz.ntmps102
  go_wp2_with (rw [<- HW1.out])
  go_quiet (first | (go_at_call 75;exact Calls.quiet_of_same (HM.out _)) | (go_at_call 110;exact Calls.quiet_of_same (HS.out _)))
  go_wp2
  go_ret
  exact ⟨rfl,below_drewN HB1.out _⟩
theorem fit_bad {n k size:Nat} {y:Int} {t:ByteArray} (hs:size<=1000):(!fitB n k (size:Int) y t)=badB (n:Int) (wideN k size) (y,t):=by
 unfold fitB badB
 rw [Int.toNat_natCast]
 by_cases h1:y < 0
 ·rw [decide_eq_false (fun h=>by omega),decide_eq_true h1];rfl
 ·by_cases h2:(n:Int)<=y
  ·rw [decide_eq_false (fun h=>by omega),decide_eq_true h2];simp
  ·by_cases h3:t.size=wideN k size
   ·rw [decide_eq_true ⟨by omega,by omega,by omega,by omega,h3⟩,decide_eq_false h1,decide_eq_false h2,decide_eq_true h3];rfl
   ·rw [decide_eq_false (fun h=>h3 h.2.2.2.2),decide_eq_false h1,decide_eq_false h2,decide_eq_false h3];rfl
set_option maxRecDepth 10000 in
theorem decode1_any (pn pk ps n k size:Nat) (y:Int) (t:ByteArray) (w:World) (hk1:1<=k) (hkn:k<=n) (hn:n<=12) (hs:size<=1000) (h1:w.cell? ⟨pn,0,none⟩=some (.int .i64 (n:Int))) (h2:w.cell? ⟨pk,0,none⟩=some (.int .i64 (k:Int))) (h3:w.cell? ⟨ps,0,none⟩=some (.int .i64 (size:Int))) :
 Calls Tryz.prog 105 (#[.agg #[.int .i64 y,.string t]] ++ #[.pointer (some ⟨pn,0,none⟩),.pointer (some ⟨pk,0,none⟩),.pointer (some ⟨ps,0,none⟩)]) w fun e w2=>e=.returned (.bool (badB (n:Int) (wideN k size) (y,t)))/\Below w.heap.size w w2:=by
 have hl1:=lt_of_cell h1
 have hl2:=lt_of_cell h2
 have hl3:=lt_of_cell h3
 have HR:Hid ((!fitB n k (size:Int) y t)=badB (n:Int) (wideN k size) (y,t)):=fit_bad hs
 rw [<- HR.out]
 obtain ⟨w1,hw1⟩:∃ w1,w1=w.alloc (.cells #[.int .i64 y,.string t] 45):=⟨_,rfl⟩
 have hb1:Below w.heap.size w w1:=by rw [hw1];exact (Below.refl _ _).alloc (Nat.le_refl _) _
 have HB1:Hid (Below w.heap.size w w1):=hb1
 have f0:w1.cell? ⟨w.heap.size,0,none⟩=some (.int .i64 y):=by rw [hw1,World.cell?_alloc_at _ _ _ _ rfl];rfl
 have f1:w1.cell? ⟨w.heap.size,1,none⟩=some (.string t):=by rw [hw1,World.cell?_alloc_at _ _ _ _ rfl];rfl
 have g1:w1.cell? ⟨pn,0,none⟩=some (.int .i64 (n:Int)):=(hb1.cell (p:=⟨pn,0,none⟩) hl1).trans h1
 have g2:w1.cell? ⟨pk,0,none⟩=some (.int .i64 (k:Int)):=(hb1.cell (p:=⟨pk,0,none⟩) hl2).trans h2
 have g3:w1.cell? ⟨ps,0,none⟩=some (.int .i64 (size:Int)):=(hb1.cell (p:=⟨ps,0,none⟩) hl3).trans h3
 have HW1:Hid (w1=w.alloc (.cells #[.int .i64 y,.string t] 45)):=hw1
 have HC:=cfits_any n k (size:Int) y t w1 hk1 hkn hn
 clear hw1 hb1 h1 h2 h3 HR
 generalize fitB n k (size:Int) y t=fb at *
 go_enter Tryz.func105,Tryz.ntmps105
 go_wp2_with (rw [<- HW1.out])
 refine HC.mono ?_
 rintro e w2 ⟨rfl,hb2⟩
 have HB2:Hid (Below w.heap.size w w2):=HB1.out.trans (hb2.mono HB1.out.size)
 clear HC hb2
 go_wp2
 go_ret
 exact ⟨rfl,HB2.out⟩
def invN (X:List Nat):Nat->Nat->Nat:=fun i j=>Gf.shareOf X j i
theorem invN_lt (X:List Nat) (i j:Nat):invN X i j < 256:=Gf.shareOf_lt _ _ _
def sprX (k:Nat) (X:List Nat):Nat->Nat->Lin.F:=fun i j=>toF (facN k (Gf.nth X i) j)
theorem inv_left {X:List Nat} {k:Nat} (hX:Gf.Bytes X) (hn:X.Nodup) (hl:X.length=k) (hk:k<=256):∀ i j,i < k->j < k->Lin.mm k (vecF (invN X)) (sprX k X) i j=Lin.one i j:=by
 obtain ⟨y,hy⟩:=Lin.inverse_of_indep (vander_indep k hk)
 have hy':=Lin.right_of_left hy
 have e1:∀ i m,i < k->m < k->Lin.mm k (Lin.mm k (vecF (invN X)) (sprX k X)) (vecF Gf.rep) i m=vecF Gf.rep i m:=fun i m hi hm=>by
  rw [Lin.mm_assoc]
  have e2:Lin.mm k (vecF (invN X)) (Lin.mm k (sprX k X) (vecF Gf.rep)) i m=Lin.mm k (vecF (invN X)) (fun r m=>toF (Gf.rep (Gf.nth X r) m)) i m:=Lin.mm_congr k (fun _ _=>rfl) (fun r _=>by
   have:=shares_times_powers (upToL k) (upToL_bytes k hk) (upToL_nodup k) (Gf.nth X r) m (hX r) (by rw [upToL_length];exact hm)
   rw [upToL_length] at this
   rw [<- this]
   exact Lin.fsum_congr fun t ht=>by rw [nth_upTo k t ht];rfl)
  rw [e2]
  have:=shares_times_powers X hX hn i m (by omega) (by rw [hl];exact hm)
  rw [hl] at this
  exact this
 intro i j hi hj
 have e3:Lin.mm k (Lin.mm k (vecF (invN X)) (sprX k X)) Lin.one i j=Lin.mm k (Lin.mm k (vecF (invN X)) (sprX k X)) (Lin.mm k (vecF Gf.rep) y) i j:=Lin.mm_congr k (fun _ _=>rfl) (fun m hm=>(hy' m j hm hj).symm)
 rw [Lin.mm_one k _ i j hj] at e3
 rw [e3,<- Lin.mm_assoc]
 have e4:Lin.mm k (Lin.mm k (Lin.mm k (vecF (invN X)) (sprX k X)) (vecF Gf.rep)) y i j=Lin.mm k (vecF Gf.rep) y i j:=Lin.mm_congr k (fun m hm=>e1 i m hi hm) (fun _ _=>rfl)
 rw [e4]
 exact hy' i j hi hj
theorem inv_unique {X:List Nat} {k:Nat} (hX:Gf.Bytes X) (hn:X.Nodup) (hl:X.length=k) (hk:k<=256) {x:Nat->Nat->Nat} (hx:∀ i j,x i j < 256) (h:∀ i j,i < k->j < k->Lin.mm k (vecF x) (sprX k X) i j=Lin.one i j):∀ i j,i < k->j < k->x i j=invN X i j:=by
 have hr:=Lin.right_of_left (inv_left hX hn hl hk)
 intro i j hi hj
 refine toF_inj (hx i j) (invN_lt X i j) ?_
 have e1:Lin.mm k (vecF x) Lin.one i j=Lin.mm k (vecF x) (Lin.mm k (sprX k X) (vecF (invN X))) i j:=Lin.mm_congr k (fun _ _=>rfl) (fun m hm=>(hr m j hm hj).symm)
 rw [Lin.mm_one k _ i j hj,<- Lin.mm_assoc] at e1
 have e2:Lin.mm k (Lin.mm k (vecF x) (sprX k X)) (vecF (invN X)) i j=Lin.mm k Lin.one (vecF (invN X)) i j:=Lin.mm_congr k (fun m hm=>h i m hi hm) (fun _ _=>rfl)
 rw [e2,Lin.one_mm k _ i j hi] at e1
 exact e1
theorem toF_rsum {f val:Nat->Nat->Nat} (hf:∀ i j,f i j < 256) (hv:∀ j c,val j c < 256) (i c:Nat):∀ m,toF (rsumN f val i c m)=Lin.fsum m (fun j=>Lin.mu (toF (f i j)) (toF (val j c)))
 | 0=>rfl
 | m+1=>by
  show toF (rsumN f val i c m ^^^ Gf.mul (f i m) (val m c))=Lin.ad (Lin.fsum m _) _
  rw [toF_ad (rsumN_lt hf i c m) (Gf.mul_lt (hf i m) _),toF_rsum hf hv i c m,toF_mu (hf i m) (hv m c)]
theorem told {X:List Nat} {k:Nat} (hX:Gf.Bytes X) (hn:X.Nodup) (hl:X.length=k) (hk:k<=256) {u v:Nat->Nat->Nat} (hu:∀ j c,u j c < 256) (hvb:∀ j c,v j c < 256) (c:Nat) (hv:∀ i,i < k->v i c=rsumN (facN k) u (Gf.nth X i) c k) (m:Nat) (hm:m < k) :
 rsumN (invN X) v m c k=u m c:=by
 refine toF_inj (rsumN_lt (invN_lt X) _ _ _) (hu m c) ?_
 rw [toF_rsum (invN_lt X) hvb]
 have e1:Lin.fsum k (fun j=>Lin.mu (toF (invN X m j)) (toF (v j c)))=Lin.mm k (vecF (invN X)) (Lin.mm k (sprX k X) (fun j _=>toF (u j c))) m 0:=Lin.fsum_congr fun j hj=>by
  rw [hv j hj,toF_rsum (facN_lt k) hu]
  rfl
 rw [e1,<- Lin.mm_assoc]
 have e2:Lin.mm k (Lin.mm k (vecF (invN X)) (sprX k X)) (fun j _=>toF (u j c)) m 0=Lin.mm k Lin.one (fun j _=>toF (u j c)) m 0:=Lin.mm_congr k (fun t ht=>inv_left hX hn hl hk m t hm ht) (fun _ _=>rfl)
 rw [e2,Lin.one_mm k _ m 0 hm]
theorem rsumN_congr {f g val:Nat->Nat->Nat} {i c:Nat}:∀ k,(∀ j,j < k->f i j=g i j)->rsumN f val i c k=rsumN g val i c k
 | 0,_=>rfl
 | k+1,h=>by
  show rsumN f val i c k ^^^ _=rsumN g val i c k ^^^ _
  rw [rsumN_congr k (fun j hj=>h j (by omega)),h k (by omega)]
def catN (g:Nat->Nat->Nat) (wd m:Nat):List Nat:=(List.range m).flatMap fun i=>rowFn wd (g i)
theorem catN_succ (g:Nat->Nat->Nat) (wd m:Nat):catN g wd (m+1)=catN g wd m ++ rowFn wd (g m):=by simp [catN,List.range_succ]
theorem catN_length (g:Nat->Nat->Nat) (wd:Nat):∀ m,(catN g wd m).length=m*wd
 | 0=>by rw [Nat.zero_mul];rfl
 | m+1=>by rw [catN_succ,List.length_append,catN_length g wd m,rowFn_length,Nat.succ_mul]
theorem nth_append_lt {l r:List Nat} {p:Nat} (h:p < l.length):Gf.nth (l ++ r) p=Gf.nth l p:=by
 show (l ++ r).getD p 0=l.getD p 0
 rw [List.getD_eq_getElem?_getD,List.getD_eq_getElem?_getD,List.getElem?_append_left h]
theorem nth_append_ge {l r:List Nat} {p:Nat} (h:l.length<=p):Gf.nth (l ++ r) p=Gf.nth r (p - l.length):=by
 show (l ++ r).getD p 0=r.getD (p - l.length) 0
 rw [List.getD_eq_getElem?_getD,List.getD_eq_getElem?_getD,List.getElem?_append_right h]
theorem catN_nth (g:Nat->Nat->Nat) (wd:Nat):∀ m p,p < m*wd->Gf.nth (catN g wd m) p=g (p / wd) (p % wd)
 | 0,p,h=>by rw [Nat.zero_mul] at h;exact absurd h (Nat.not_lt_zero _)
 | m+1,p,h=>by
  rw [catN_succ]
  by_cases hp:p < m*wd
  ·rw [nth_append_lt (by rw [catN_length];exact hp)]
   exact catN_nth g wd m p hp
  ·have hw : 0 < wd := by
    rcases Nat.eq_zero_or_pos wd with e | e
    ·rw [e,Nat.mul_zero] at h;exact absurd h (Nat.not_lt_zero _)
    ·exact e
   have hlt:p - m*wd < wd:=by rw [Nat.succ_mul] at h;omega
   have hd:p=wd*m+(p - m*wd):=by rw [Nat.mul_comm wd m];omega
   have h1:p / wd=m:=by
    have h0:(wd*m+(p - m*wd)) / wd=m:=by rw [Nat.mul_add_div hw,Nat.div_eq_of_lt hlt,Nat.add_zero]
    rw [<- hd] at h0
    exact h0
   have h2:p % wd=p - m*wd:=by
    have:=Nat.mod_add_div p wd
    rw [h1,Nat.mul_comm wd m] at this
    omega
   rw [nth_append_ge (by rw [catN_length];omega),catN_length,nth_rowFn _ _ _ hlt,h1,h2]
theorem catN_take (g:Nat->Nat->Nat) (wd m size:Nat) (h:size<=m*wd):(catN g wd m).take size=rowFn size fun p=>g (p / wd) (p % wd):=by
 have hl:((catN g wd m).take size).length=size:=by rw [List.length_take,catN_length];omega
 refine nth_ext (by rw [hl,rowFn_length]) fun p hp=>?_
 rw [hl] at hp
 rw [nth_rowFn _ _ p hp,<- catN_nth g wd m p (by omega)]
 show ((catN g wd m).take size).getD p 0=(catN g wd m).getD p 0
 rw [List.getD_eq_getElem?_getD,List.getD_eq_getElem?_getD,List.getElem?_take_of_lt hp]
def byteL (l:List Nat):List UInt8:=l.map fun n=>UInt8.ofNat n
theorem strOf_data (l:List Nat):(strOf l).data.toList=byteL l:=by
 unfold strOf byteL
 rw [strOfNums_data,List.map_map]
 rfl
theorem strOf_mk (l:List Nat):strOf l=⟨(byteL l).toArray⟩:=by
 unfold strOf strOfNums byteL
 rw [List.map_map]
 rfl
theorem join_empty (xs:List (List UInt8)):Lib.join xs []=xs.flatten:=by
 cases xs with
 | nil=>rfl
 | cons x r =>
  rw [Lib.join_cons]
  unfold Lib.joinTail
  simp
theorem join_rows (g:Nat->Nat->Nat) (wd m:Nat):Lib.join (((List.range m).map fun i=>strOf (rowFn wd (g i))).map (·.data.toList)) []=byteL (catN g wd m):=by
 rw [join_empty,List.map_map]
 unfold catN byteL
 rw [List.map_flatMap,List.flatMap_def]
 congr 1
 exact List.map_congr_left fun i _=>strOf_data _
theorem strOf_take (l:List Nat) (size:Nat):(⟨(byteL l).toArray⟩:ByteArray).extract 0 size=strOf (l.take size):=by
 rw [ByteArray.extract_mk,strOf_mk]
 congr 2
 unfold byteL
 rw [List.drop_zero,Nat.sub_zero,List.map_take]
theorem wide_mul {k size:Nat} (hk:1<=k):size<=k*wideN k size:=by
 rcases Nat.lt_or_ge (wideN k size*k) size with h | h
 ·exact absurd (wideN_lt hk h) (Nat.lt_irrefl _)
 ·rw [Nat.mul_comm];exact h
def atsN (so:List (Int×ByteArray)):List Nat:=so.map fun x=>x.1.toNat
def txtN (so:List (Int×ByteArray)):Nat->Nat->Nat:=fun j c=>Gf.nth (bytesOf (shAt so j).2) c
theorem txtN_lt (so:List (Int×ByteArray)) (j c:Nat):txtN so j c < 256:=bytesOf_lt _ _
def decT (k size:Nat) (so:List (Int×ByteArray)):ByteArray:=strOf (rowFn size fun p=>rsumN (invN (atsN so)) (txtN so) (p / wideN k size) (p % wideN k size) k)
theorem decT_size (k size:Nat) (so:List (Int×ByteArray)):(decT k size so).size=size:=by
 unfold decT
 rw [strOf_size,rowFn_length]
theorem decT_bytes (k size:Nat) (so:List (Int×ByteArray)):bytesOf (decT k size so)=rowFn size fun p=>rsumN (invN (atsN so)) (txtN so) (p / wideN k size) (p % wideN k size) k:=bytesOf_strOf (rowFn_bytes _ _ fun _=>rsumN_lt (invN_lt _) _ _ _)
end Go.Proofs.YtghpdhegfnhmkaaGreatDoor
