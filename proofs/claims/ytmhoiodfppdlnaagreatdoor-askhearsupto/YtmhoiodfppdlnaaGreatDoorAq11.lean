import Derived.Test.YtmhoiodfppdlnaaGreatDoorAq10
import Derived.Lib.Join
import Derived.Test.YtmhoiodfppdlnaaGreatDoorAq3
import Derived.Deep.QuietTactic
import Derived.BigQuiet
set_option maxRecDepth 10000
set_option maxHeartbeats 8000000
namespace Go.Proofs.YtmhoiodfppdlnaaGreatDoor
open Go.RowKit
def invN (X:List Nat):Nat->Nat->Nat:=fun i j=>Gf.shareOf X j i
theorem invN_lt (X:List Nat)(i j:Nat):invN X i j < 256:=Gf.shareOf_lt _ _ _
def sprX (k:Nat)(X:List Nat):Nat->Nat->Lin.F:=fun i j=>toF (facN k (Gf.nth X i) j)
theorem inv_left {X:List Nat}{k:Nat}(hX:Gf.Bytes X)(hn:X.Nodup)(hl:X.length=k)(hk:k<=256):∀ i j,i < k->j < k->Lin.mm k (vecF (invN X)) (sprX k X) i j=Lin.one i j:=by
 obtain⟨y,hy⟩:=Lin.inverse_of_indep (vander_indep k hk)
 have hy':=Lin.right_of_left hy
 have e1:∀ i m,i < k->m < k->Lin.mm k (Lin.mm k (vecF (invN X)) (sprX k X)) (vecF Gf.rep) i m=vecF Gf.rep i m:=fun i m hi hm=>by
  rw [Lin.mm_assoc]
  have e2:Lin.mm k (vecF (invN X)) (Lin.mm k (sprX k X) (vecF Gf.rep)) i m=Lin.mm k (vecF (invN X)) (fun r m=>toF (Gf.rep (Gf.nth X r) m)) i m:=Lin.mm_congr k (fun _ _=>rfl) (fun r _=>by
   have:=shares_times_powers (upToL k) (upToL_bytes k hk) (upToL_nodup k) (Gf.nth X r) m (hX r) (by rw [upToL_length];exact hm)
   rw [upToL_length] at this
   rw [<- this]
   exact Lin.fsum_congr fun t ht=>by rw [nth_upTo k t ht];rfl)
  rw [e2]
  have:=shares_times_powers X hX hn i m (by omega) (by rw [hl];exact hm)
  rw [hl] at this
  exact this
 intro i j hi hj
 have e3:Lin.mm k (Lin.mm k (vecF (invN X)) (sprX k X)) Lin.one i j=Lin.mm k (Lin.mm k (vecF (invN X)) (sprX k X)) (Lin.mm k (vecF Gf.rep) y) i j:=Lin.mm_congr k (fun _ _=>rfl) (fun m hm=>(hy' m j hm hj).symm)
 rw [Lin.mm_one k _ i j hj] at e3
 rw [e3,<- Lin.mm_assoc]
 have e4:Lin.mm k (Lin.mm k (Lin.mm k (vecF (invN X)) (sprX k X)) (vecF Gf.rep)) y i j=Lin.mm k (vecF Gf.rep) y i j:=Lin.mm_congr k (fun m hm=>e1 i m hi hm) (fun _ _=>rfl)
 rw [e4]
 exact hy' i j hi hj
theorem inv_unique {X:List Nat}{k:Nat}(hX:Gf.Bytes X)(hn:X.Nodup)(hl:X.length=k)(hk:k<=256){x:Nat->Nat->Nat}(hx:∀ i j,x i j < 256)(h:∀ i j,i < k->j < k->Lin.mm k (vecF x) (sprX k X) i j=Lin.one i j):∀ i j,i < k->j < k->x i j=invN X i j:=by
 have hr:=Lin.right_of_left (inv_left hX hn hl hk)
 intro i j hi hj
 refine toF_inj (hx i j) (invN_lt X i j) ?_
 have e1:Lin.mm k (vecF x) Lin.one i j=Lin.mm k (vecF x) (Lin.mm k (sprX k X) (vecF (invN X))) i j:=Lin.mm_congr k (fun _ _=>rfl) (fun m hm=>(hr m j hm hj).symm)
 rw [Lin.mm_one k _ i j hj,<- Lin.mm_assoc] at e1
 have e2:Lin.mm k (Lin.mm k (vecF x) (sprX k X)) (vecF (invN X)) i j=Lin.mm k Lin.one (vecF (invN X)) i j:=Lin.mm_congr k (fun m hm=>h i m hi hm) (fun _ _=>rfl)
 rw [e2,Lin.one_mm k _ i j hi] at e1
 exact e1
theorem toF_rsum {f val:Nat->Nat->Nat}(hf:∀ i j,f i j < 256)(hv:∀ j c,val j c < 256)(i c:Nat):∀ m,toF (rsumN f val i c m)=Lin.fsum m (fun j=>Lin.mu (toF (f i j)) (toF (val j c)))
 | 0=>rfl
 | m+1=>by
  show toF (rsumN f val i c m ^^^ Gf.mul (f i m) (val m c))=Lin.ad (Lin.fsum m _) _
  rw [toF_ad (rsumN_lt hf i c m) (Gf.mul_lt (hf i m) _),toF_rsum hf hv i c m,toF_mu (hf i m) (hv m c)]
theorem told {X:List Nat}{k:Nat}(hX:Gf.Bytes X)(hn:X.Nodup)(hl:X.length=k)(hk:k<=256){u v:Nat->Nat->Nat}(hu:∀ j c,u j c < 256)(hvb:∀ j c,v j c < 256)(c:Nat)(hv:∀ i,i < k->v i c=rsumN (facN k) u (Gf.nth X i) c k)(m:Nat)(hm:m < k) :
 rsumN (invN X) v m c k=u m c:=by
 refine toF_inj (rsumN_lt (invN_lt X) _ _ _) (hu m c) ?_
 rw [toF_rsum (invN_lt X) hvb]
 have e1:Lin.fsum k (fun j=>Lin.mu (toF (invN X m j)) (toF (v j c)))=Lin.mm k (vecF (invN X)) (Lin.mm k (sprX k X) (fun j _=>toF (u j c))) m 0:=Lin.fsum_congr fun j hj=>by
  rw [hv j hj,toF_rsum (facN_lt k) hu]
  rfl
 rw [e1,<- Lin.mm_assoc]
 have e2:Lin.mm k (Lin.mm k (vecF (invN X)) (sprX k X)) (fun j _=>toF (u j c)) m 0=Lin.mm k Lin.one (fun j _=>toF (u j c)) m 0:=Lin.mm_congr k (fun t ht=>inv_left hX hn hl hk m t hm ht) (fun _ _=>rfl)
 rw [e2,Lin.one_mm k _ m 0 hm]
theorem rsumN_congr {f g val:Nat->Nat->Nat}{i c:Nat}:∀ k,(∀ j,j < k->f i j=g i j)->rsumN f val i c k=rsumN g val i c k
 | 0,_=>rfl
 | k+1,h=>by
  show rsumN f val i c k ^^^ _=rsumN g val i c k ^^^ _
  rw [rsumN_congr k (fun j hj=>h j (by omega)),h k (by omega)]
def catN (g:Nat->Nat->Nat)(wd m:Nat):List Nat:=(List.range m).flatMap fun i=>rowFn wd (g i)
theorem catN_succ (g:Nat->Nat->Nat)(wd m:Nat):catN g wd (m+1)=catN g wd m ++ rowFn wd (g m):=by simp [catN,List.range_succ]
theorem catN_length (g:Nat->Nat->Nat)(wd:Nat):∀ m,(catN g wd m).length=m*wd
 | 0=>by rw [Nat.zero_mul];rfl
 | m+1=>by rw [catN_succ,List.length_append,catN_length g wd m,rowFn_length,Nat.succ_mul]
theorem nth_append_lt {l r:List Nat}{p:Nat}(h:p < l.length):Gf.nth (l ++ r) p=Gf.nth l p:=by
 show(l ++ r).getD p 0=l.getD p 0
 rw [List.getD_eq_getElem?_getD,List.getD_eq_getElem?_getD,List.getElem?_append_left h]
theorem nth_append_ge {l r:List Nat}{p:Nat}(h:l.length<=p):Gf.nth (l ++ r) p=Gf.nth r (p - l.length):=by
 show(l ++ r).getD p 0=r.getD (p - l.length) 0
 rw [List.getD_eq_getElem?_getD,List.getD_eq_getElem?_getD,List.getElem?_append_right h]
theorem catN_nth (g:Nat->Nat->Nat)(wd:Nat):∀ m p,p < m*wd->Gf.nth (catN g wd m) p=g (p / wd) (p % wd)
 | 0,p,h=>by rw [Nat.zero_mul] at h;exact absurd h (Nat.not_lt_zero _)
 | m+1,p,h=>by
  rw [catN_succ]
  by_cases hp:p < m*wd
  ·rw [nth_append_lt (by rw [catN_length];exact hp)]
   exact catN_nth g wd m p hp
  ·have hw : 0 < wd := by
    rcases Nat.eq_zero_or_pos wd with e | e
    ·rw [e,Nat.mul_zero] at h;exact absurd h (Nat.not_lt_zero _)
    ·exact e
   have hlt:p - m*wd < wd:=by rw [Nat.succ_mul] at h;omega
   have hd:p=wd*m+(p - m*wd):=by rw [Nat.mul_comm wd m];omega
   have h1:p / wd=m:=by
    have h0:(wd*m+(p - m*wd)) / wd=m:=by rw [Nat.mul_add_div hw,Nat.div_eq_of_lt hlt,Nat.add_zero]
    rw [<- hd] at h0
    exact h0
   have h2:p % wd=p - m*wd:=by
    have:=Nat.mod_add_div p wd
    rw [h1,Nat.mul_comm wd m] at this
    omega
   rw [nth_append_ge (by rw [catN_length];omega),catN_length,nth_rowFn _ _ _ hlt,h1,h2]
theorem catN_take (g:Nat->Nat->Nat)(wd m size:Nat)(h:size<=m*wd):(catN g wd m).take size=rowFn size fun p=>g (p / wd) (p % wd):=by
 have hl:((catN g wd m).take size).length=size:=by rw [List.length_take,catN_length];omega
 refine nth_ext (by rw [hl,rowFn_length]) fun p hp=>?_
 rw [hl] at hp
 rw [nth_rowFn _ _ p hp,<- catN_nth g wd m p (by omega)]
 show((catN g wd m).take size).getD p 0=(catN g wd m).getD p 0
 rw [List.getD_eq_getElem?_getD,List.getD_eq_getElem?_getD,List.getElem?_take_of_lt hp]
def byteL (l:List Nat):List UInt8:=l.map fun n=>UInt8.ofNat n
theorem strOf_data (l:List Nat):(strOf l).data.toList=byteL l:=by
 unfold strOf byteL
 rw [strOfNums_data,List.map_map]
 rfl
theorem strOf_mk (l:List Nat):strOf l=⟨(byteL l).toArray⟩:=by
 unfold strOf strOfNums byteL
 rw [List.map_map]
 rfl
theorem join_empty (xs:List (List UInt8)):Lib.join xs []=xs.flatten:=by
 cases xs with
 | nil=>rfl
 | cons x r =>
  rw [Lib.join_cons]
  unfold Lib.joinTail
  simp
theorem join_rows (g:Nat->Nat->Nat)(wd m:Nat):Lib.join (((List.range m).map fun i=>strOf (rowFn wd (g i))).map (·.data.toList)) []=byteL (catN g wd m):=by
 rw [join_empty,List.map_map]
 unfold catN byteL
 rw [List.map_flatMap,List.flatMap_def]
 congr 1
 exact List.map_congr_left fun i _=>strOf_data _
theorem strOf_take (l:List Nat)(size:Nat):(⟨(byteL l).toArray⟩:ByteArray).extract 0 size=strOf (l.take size):=by
 rw [ByteArray.extract_mk,strOf_mk]
 congr 2
 unfold byteL
 rw [List.drop_zero,Nat.sub_zero,List.map_take]
theorem wide_mul {k size:Nat}(hk:1<=k):size<=k*wideN k size:=by
 rcases Nat.lt_or_ge (wideN k size*k) size with h | h
 ·exact absurd (wideN_lt hk h) (Nat.lt_irrefl _)
 ·rw [Nat.mul_comm];exact h
def atsN (so:List (Int×ByteArray)):List Nat:=so.map fun x=>x.1.toNat
def txtN (so:List (Int×ByteArray)):Nat->Nat->Nat:=fun j c=>Gf.nth (bytesOf (shAt so j).2) c
theorem txtN_lt (so:List (Int×ByteArray))(j c:Nat):txtN so j c < 256:=bytesOf_lt _ _
def decT (k size:Nat)(so:List (Int×ByteArray)):ByteArray:=strOf (rowFn size fun p=>rsumN (invN (atsN so)) (txtN so) (p / wideN k size) (p % wideN k size) k)
theorem decT_size (k size:Nat)(so:List (Int×ByteArray)):(decT k size so).size=size:=by
 unfold decT
 rw [strOf_size,rowFn_length]
def Somed (w':World)(n k wd:Nat)(l:List (Int×ByteArray))(v:Value)(c:Int):Prop :=
 (c=3/\v=.slice none 0 0/\l.any (badB (n:Int) wd)=true)∨(c=8/\v=.slice none 0 0/\l.any (badB (n:Int) wd)=false/\(pickN k l l.length).length < k) ∨
  (c=0/\l.any (badB (n:Int) wd)=false/\(pickN k l l.length).length=k/\∃ p c',v=.slice p k c'/\Shs w' p (pickN k l l.length))
theorem any_take_succ {l:List (Int×ByteArray)}{P:Int×ByteArray->Bool}{j:Nat}(h:j < l.length):(l.take (j+1)).any P=((l.take j).any P || P (shAt l j)):=by
 rw [List.take_succ_eq_append_getElem h,List.any_append]
 have:shAt l j=l[j]:=by
  unfold shAt
  rw [List.getD_eq_getElem?_getD,List.getElem?_eq_getElem h]
  rfl
 rw [this]
 simp
theorem rsome_any (n k size:Nat)(p:Option Addr)(l:List (Int×ByteArray))(cap:Nat)(w:World)(hk1:1<=k)(hkn:k<=n)(hn:n<=12)(hsz:size<=1000)(hl:l.length<=1000)(ht:∀ i,(shAt l i).2.size<=100000)(hs:Shs w p l) :
 Calls Tryz.prog 99 #[.int .i64 (n:Int),.int .i64 (k:Int),.int .i64 (size:Int),.slice p l.length cap] w fun e w'=>(∃ v c,e=.returned (.tuple #[v,.int .i64 c])/\Somed w' n k (wideN k size) l v c)/\Below w.heap.size w w':=by
 obtain⟨i1,hi1,hy0,hy1,hy2⟩:=info_parts shinfo
 have hwd:=wideN_le (size:=size) hk1
 have HWD:Hid (∀ W,Calls Tryz.prog 89 #[.int .i64 (k:Int),.int .i64 (size:Int)] W fun e w'=>e=.returned (.int .i64 ((wideN k size:Nat):Int))/\w'=W):=fun W=>rwide_any k size W hk1 (by omega) (by omega)
 have HS:Hid (Shs w p l):=hs
 clear hs
 generalize wideN k size=wd at *
 have g1:decide ((size:Int) < 0)=false:=decide_eq_false (by omega)
 have g2:decide (1000 < (size:Int))=false:=decide_eq_false (by omega)
 go_enter Tryz.func99,Tryz.ntmps99
 go_wp2_with fail
 refine(isSpread_yes n k _ (by omega) (by omega) (by omega)).mono ?_
 rintro e w' ⟨rfl,hww⟩
 rw [hww]
 clear hww w'
 go_wp2
 go_loopw [11,12] (fun v x wr=>∃ i:Nat,i<=l.length/\x=.int .i64 i/\wr.ownsRow w.heap.size 74 2 v (pickN k l i).length (shVals (pickN k l i))/\(∀ j,j < i->badB (n:Int) wd (shAt l j)=false)/\Below w.heap.size w wr) (fun _ x _=>l.length - (intOf x).toNat)
 case atStart=>exact⟨0,by omega,rfl,World.ownsRow_nil _ _ _ _,fun j hj=>absurd hj (Nat.not_lt_zero _),Below.refl _ _⟩
 case round =>
  obtain⟨i,hi,rfl,hO,hG,hB⟩:=hrel
  obtain⟨w3,rfl⟩:∃ w3,w3=wr:=⟨_,rfl⟩
  obtain⟨pv,cv,rfl,hsh⟩:=shs_of_own hO
  have HO:Hid (w3.ownsRow w.heap.size 74 2 (.slice pv (pickN k l i).length cv) (pickN k l i).length (shVals (pickN k l i))):=hO
  have HB:Hid (Below w.heap.size w w3):=hB
  have HSH:Hid (Shs w3 pv (pickN k l i)):=hsh
  have HG:Hid (∀ j,j < i->badB (n:Int) wd (shAt l j)=false):=hG
  have hz3:w.heap.size<=w3.heap.size:=hB.size
  have hle:=pickN_le k l i
  clear hO hB hsh hG
  by_cases hil:i < l.length
  ·rcases(HS.out.below HB.out) with h0 | ⟨b1,o1,rfl,hb1,hc1⟩
   ·rw [h0] at hil;simp at hil
   obtain⟨q1,q2⟩:=hc1 i hil
   have hti:=ht i
   have HNX:Hid (∀ y t,shAt l i=(y,t)->True):=fun _ _ _=>trivial
   clear hc1 HNX
   by_cases hbad:badB (n:Int) wd (shAt l i)=true
   ·have HANY:Hid (l.any (badB (n:Int) wd)=true):=any_of_at hil hbad
    have hcase:(shAt l i).1 < 0∨0<=(shAt l i).1/\n<=(shAt l i).1∨0<=(shAt l i).1/\(shAt l i).1 < n/\(shAt l i).2.size≠wd:=by
     unfold badB at hbad
     simp only [Bool.or_eq_true,decide_eq_true_eq,Bool.not_eq_true',decide_eq_false_iff_not] at hbad
     omega
    clear hbad
    generalize (shAt l i).1=x at *
    generalize (shAt l i).2=t at *
    generalize pickN k l i=so at *
    rcases hcase with h1 | ⟨h0,h1⟩ | ⟨h0,h1,h2⟩
    ·have hd:decide (x < 0)=true:=decide_eq_true h1
     go_wp2
     go_quiet (fail)
     go_wp2
     go_ret2
     exact⟨⟨_,3,rfl,Or.inl ⟨rfl,rfl,HANY.out⟩⟩,below_drewN HB.out _⟩
    ·have hd:decide (x < 0)=false:=decide_eq_false (by omega)
     have hd2:decide ((n:Int)<=x)=true:=decide_eq_true h1
     go_wp2
     go_quiet (fail)
     go_wp2
     go_ret2
     exact⟨⟨_,3,rfl,Or.inl ⟨rfl,rfl,HANY.out⟩⟩,below_drewN HB.out _⟩
    ·have hd:decide (x < 0)=false:=decide_eq_false (by omega)
     have hd2:decide ((n:Int)<=x)=false:=decide_eq_false (by omega)
     have hd3:((t.size:Int) != (wd:Int))=true:=by rw [bne_iff_ne];omega
     clear h2
     go_wp2
     go_quiet ((go_at_call 89;exact Calls.quiet_of_same (HWD.out _)))
     go_wp2
     go_ret2
     exact⟨⟨_,3,rfl,Or.inl ⟨rfl,rfl,HANY.out⟩⟩,below_drewN HB.out _⟩
   ·have hbf:badB (n:Int) wd (shAt l i)=false:=Bool.eq_false_iff.2 hbad
    have HBF:Hid (badB (n:Int) wd (shAt l i)=false):=hbf
    have hcase:0<=(shAt l i).1/\(shAt l i).1 < n/\(shAt l i).2.size=wd:=by
     unfold badB at hbf
     simp only [Bool.or_eq_false_iff,decide_eq_false_iff_not,Bool.not_eq_false',decide_eq_true_eq] at hbf
     omega
    obtain⟨h0,h1,h2⟩:=hcase
    have hd:decide ((shAt l i).1 < 0)=false:=decide_eq_false (by omega)
    have hd2:decide ((n:Int)<=(shAt l i).1)=false:=decide_eq_false (by omega)
    have hd3:(((shAt l i).2.size:Int) != (wd:Int))=false:=by rw [h2];simp
    have HPT:Hid ((pickN k l i).any (fun y=>y.1==(shAt l i).1)=true->pickN k l (i+1)=pickN k l i):=fun h=>pickN_twice h
    have HPF:Hid (¬ (pickN k l i).length < k->pickN k l (i+1)=pickN k l i):=fun h=>pickN_full h
    have HPY:Hid ((pickN k l i).length < k->(pickN k l i).any (fun y=>y.1==(shAt l i).1)=false->pickN k l (i+1)=pickN k l i ++ [shAt l i]):=fun h1 h2=>pickN_yes h1 h2
    have HGN:Hid (∀ j,j < i+1->badB (n:Int) wd (shAt l j)=false):=fun j hj=>by
     by_cases e:j=i
     ·rw [e];exact hbf
     ·exact HG.out j (by omega)
    clear hbad hbf h2 HG HBF
    generalize hxt:shAt l i=xt at *
    clear hxt
    obtain⟨x,t⟩:=xt
    dsimp only at q1 q2 hti h0 h1 hd hd2 hd3
    generalize pickN k l i=so at *
    go_wp2
    go_quiet ((go_at_call 89;exact Calls.quiet_of_same (HWD.out _)))
    have HB4:Hid (Below w.heap.size w (w3.drewN nq)):=below_drewN HB.out _
    have HO4:Hid ((w3.drewN nq).ownsRow w.heap.size 74 2 (.slice pv so.length cv) so.length (shVals so)):=World.ownsRow.kept HO.out (grownBy_drewN w3 nq none) (by cases hv:(Value.slice pv so.length cv).ownBlock <;> simp)
    have HSH4:Hid (Shs (w3.drewN nq) pv so):=HSH.out.below (below_drewN (Below.refl _ _) _)
    have r1:(w3.drewN nq).cell? ⟨b1,o1+i*2,none⟩=some (.int .i64 x):=q1
    have r2:(w3.drewN nq).cell? ⟨b1,o1+i*2+1,none⟩=some (.string t):=q2
    have hb14:b1 < (w3.drewN nq).heap.size:=hb1
    have hz4:w.heap.size<=(w3.drewN nq).heap.size:=hz3
    clear q1 q2 HO HB HSH hb1 hz3 hd3
    generalize w3.drewN nq=w4 at *
    go_wp2
    go_loopw [13,14] (fun b y wq=>∃ j:Nat,j<=so.length/\y=.int .i64 j/\b=.bool ((so.take j).any (fun y=>y.1==x))/\Below w4.heap.size w4 wq) (fun _ y _=>so.length - (intOf y).toNat)
    case atStart=>exact⟨0,by omega,rfl,by simp,Below.refl _ _⟩
    case round =>
     obtain⟨j,hj,rfl,rfl,hBq⟩:=hrel
     obtain⟨w5,rfl⟩:∃ w5,w5=wr:=⟨_,rfl⟩
     have HBq:Hid (Below w4.heap.size w4 w5):=hBq
     clear hBq
     have s1:w5.cell? ⟨b1,o1+i*2,none⟩=some (.int .i64 x):=(HBq.out.cell (p:=⟨b1,o1+i*2,none⟩) hb14).trans r1
     have s2:w5.cell? ⟨b1,o1+i*2+1,none⟩=some (.string t):=(HBq.out.cell (p:=⟨b1,o1+i*2+1,none⟩) hb14).trans r2
     by_cases hjl:j < so.length
     ·rcases(HSH4.out.below HBq.out) with h9 | ⟨b2,o2,rfl,hb2,hc2⟩
      ·rw [h9] at hjl;simp at hjl
      obtain⟨u1,_⟩:=hc2 j hjl
      have HST:Hid ((so.take (j+1)).any (fun y=>y.1==x)=((so.take j).any (fun y=>y.1==x) || ((shAt so j).1==x))):=any_take_succ hjl
      clear hc2
      generalize (so.take j).any (fun y=>y.1==x)=bb at *
      generalize (shAt so j).1=y at *
      by_cases hyx:y=x
      ·subst hyx
       go_wp2
       go_quiet (fail)
       go_wp2
       go_roundw
       case rel=>exact⟨j+1,by omega,by go_num,by rw [HST.out];simp,below_drewN HBq.out _⟩
       case measure=>simp [intOf];omega
      ·have hyb:(y==x)=false:=by simpa using hyx
       have HYB:Hid ((y==x)=false):=hyb
       clear hyx
       go_wp2
       go_quiet (fail)
       go_wp2
       go_roundw
       case rel=>exact⟨j+1,by omega,by go_num,by rw [HST.out,HYB.out,Bool.or_false],below_drewN HBq.out _⟩
       case measure=>simp [intOf];omega
     ·have hje:j=so.length:=by omega
      have htk:so.take j=so:=by rw [hje,List.take_length]
      rw [htk]
      clear htk
      have HB5:Hid (Below w.heap.size w w5):=HB4.out.trans (HBq.out.mono hz4)
      have HO5:Hid (w5.ownsRow w.heap.size 74 2 (.slice pv so.length cv) so.length (shVals so)):=World.ownsRow.kept HO4.out (below_grown HBq.out none) (by cases hv:(Value.slice pv so.length cv).ownBlock <;> simp)
      have hz5:w.heap.size<=w5.heap.size:=HB5.out.size
      by_cases hany:so.any (fun y=>y.1==x)=true
      ·have HP:=HPT.out hany
       have HPN:Hid (pickN k l (i+1)=so):=HP
       rw [hany]
       clear hany HP hje
       go_wp2
       go_roundw
       case rel=>exact⟨i+1,by omega,by go_num,by rw [HPN.out];exact HO5.out,HGN.out,HB5.out⟩
       case measure=>simp [intOf];omega
      ·have hany':so.any (fun y=>y.1==x)=false:=Bool.eq_false_iff.2 hany
       rw [hany']
       clear hany hje
       by_cases hlt:so.length < k
       ·have HPN:Hid (pickN k l (i+1)=so ++ [(x,t)]):=HPY.out hlt hany'
        clear hany' HPT HPF HPY
        go_wp2_with (first | (at_builtin;refine wpList_append_own _ rfl (.tmp 86) (.tmp 91) 123 rfl w.heap.size 74 i1 (.agg #[.int .i64 0,.string ⟨#[]⟩]) 2 24 Tryz.underlying123 hi1 hy0 hy1 hy2 rfl (by decide) (.slice pv so.length cv) so.length (shVals so) rfl (World.ownsRow.alloc HO5.out _) ⟨w5.heap.size,0,none⟩ 1 1 [.int .i64 x,.string t] rfl rfl (fun j u hj=>by match j,hj with | 0,hj=>(simp at hj;subst hj;simp [Addr.add]) | 1,hj=>(simp at hj;subst hj;simp [Addr.add])) (fun u hu=>by simp at hu;rcases hu with rfl | rfl <;> rfl) (by unfold maxLen;omega) (by omega) (by simp;omega) ?_;intro v' w8 hown' hg' _))
        have hb8:Below w.heap.size w w8:=(HB5.out.alloc (by omega) _).grown hg' (by simp;omega) (fun g hg=>(World.ownsRow.lt HO5.out g hg).1)
        go_roundw
        case rel=>exact⟨i+1,by omega,by go_num,by rw [HPN.out,shVals_snoc,List.length_append,List.length_singleton];exact hown',HGN.out,hb8⟩
        case measure=>simp [intOf];omega
       ·have HPN:Hid (pickN k l (i+1)=so):=HPF.out hlt
        clear hany' HPT HPF HPY
        go_wp2
        go_roundw
        case rel=>exact⟨i+1,by omega,by go_num,by rw [HPN.out];exact HO5.out,HGN.out,HB5.out⟩
        case measure=>simp [intOf];omega
  ·have hie:i=l.length:=by omega
   subst hie
   have HNB:Hid (l.any (badB (n:Int) wd)=false):=none_of_at fun j hj=>HG.out j hj
   by_cases hlt:(pickN k l l.length).length < k
   ·go_wp2
    go_ret2
    exact⟨⟨_,8,rfl,Or.inr (Or.inl ⟨rfl,rfl,HNB.out,hlt⟩)⟩,HB.out⟩
   ·have HEQ:Hid ((pickN k l l.length).length=k):=by show _=_;omega
    go_wp2
    go_ret2
    exact⟨⟨.slice pv (pickN k l l.length).length cv,0,rfl,Or.inr (Or.inr ⟨rfl,HNB.out,HEQ.out,pv,cv,by rw [HEQ.out],HSH.out⟩)⟩,HB.out⟩
end Go.Proofs.YtmhoiodfppdlnaaGreatDoor
