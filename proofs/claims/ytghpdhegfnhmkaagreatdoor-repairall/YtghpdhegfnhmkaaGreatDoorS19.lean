import Derived.Test.YtghpdhegfnhmkaaGreatDoorS13
import Derived.Test.YtghpdhegfnhmkaaGreatDoorS14
import Derived.Test.YtghpdhegfnhmkaaGreatDoorS17
import Derived.Test.YtghpdhegfnhmkaaGreatDoorS18
import Derived.Test.YtghpdhegfnhmkaaGreatDoorS7
import Derived.Test.YtghpdhegfnhmkaaGreatDoorS3
import Derived.Test.YtghpdhegfnhmkaaGreatDoorS0
namespace Go.Proofs.YtghpdhegfnhmkaaGreatDoor
open Go.RowKit
theorem nth_upTo (k r:Nat) (h:r < k):Gf.nth (upToL k) r=r:=by
 rw [Gf.nth_getElem _ r (by rw [upToL_length];exact h)]
 simp [upToL]
theorem vander_indep (k:Nat) (hk:k<=256):Lin.Indep k k (vecF Gf.rep):=by
 have h:=powers_indep (upToL k) (upToL_bytes k hk) (upToL_nodup k)
 rw [upToL_length] at h
 intro c hc
 refine h c (fun j hj=>?_)
 rw [<- hc j hj]
 exact Lin.fsum_congr fun r hr=>by
  show Lin.mu (c r) (toF (Gf.rep (Gf.nth (upToL k) r) j))=_
  rw [nth_upTo k r hr]
  rfl
theorem rank_of_indep {n:Nat} {v:Nat->Nat->Lin.F} (h:Lin.Indep n n v):Lin.IsRank n n v n:=⟨v,h,fun _ hi=>Lin.span_self v hi,fun _ hi=>Lin.span_self v hi⟩
theorem rep_bytes:∀ i j,Gf.rep i j < 256:=fun i j=>Gf.rep_lt i j
theorem spread_values (n k:Nat) (hn:n<=12) (hkn:k<=n) (x:Nat->Nat->Nat) (hx:∀ i j,x i j < 256) (hinv:∀ i j,i < k->j < k->Lin.mm k (vecF x) (vecF Gf.rep) i j=Lin.one i j) (i j:Nat) (hi:i < n) (hj:j < k) :
 dotN (matFn n k Gf.rep) (matFn k k x) i j k=Gf.shareOf (upToL k) j i:=by
 refine toF_inj (dotN_lt _ _ (matFn_bytes rep_bytes) i j k) (Gf.shareOf_lt _ _ _) ?_
 rw [dotN_fsum (matFn_bytes rep_bytes) (matFn_bytes hx)]
 have e1:Lin.fsum k (fun t=>Lin.mu (vec (matFn n k Gf.rep) i t) (vec (matFn k k x) t j))=Lin.mm k (fun i t=>toF (Gf.rep i t)) (vecF x) i j:=Lin.fsum_congr fun t ht=>by rw [vec_matFn hi ht,vec_matFn ht hj];rfl
 rw [e1]
 have hr:=Lin.right_of_left hinv
 have e2:∀ m,m < k->toF (Gf.rep i m)=Lin.mm k (fun i j=>toF (Gf.shareOf (upToL k) j i)) (vecF Gf.rep) i m:=fun m hm=>by
  have:=shares_times_powers (upToL k) (upToL_bytes k (by omega)) (upToL_nodup k) i m (by omega) (by rw [upToL_length];exact hm)
  rw [upToL_length] at this
  rw [<- this]
  exact Lin.fsum_congr fun t ht=>by rw [nth_upTo k t ht];rfl
 have e3:Lin.mm k (fun i t=>toF (Gf.rep i t)) (vecF x) i j=Lin.mm k (Lin.mm k (fun i j=>toF (Gf.shareOf (upToL k) j i)) (vecF Gf.rep)) (vecF x) i j:=Lin.mm_congr k (fun m hm=>e2 m hm) (fun _ _=>rfl)
 rw [e3,Lin.mm_assoc]
 have e4:Lin.mm k (fun i j=>toF (Gf.shareOf (upToL k) j i)) (Lin.mm k (vecF Gf.rep) (vecF x)) i j=Lin.mm k (fun i j=>toF (Gf.shareOf (upToL k) j i)) Lin.one i j:=Lin.mm_congr k (fun _ _=>rfl) (fun m hm=>hr m j hm hj)
 rw [e4,Lin.mm_one k _ i j hj]
theorem spread_prod (n k:Nat) (hk1:1<=k) (hn:n<=12) (hkn:k<=n) (x:Nat->Nat->Nat) (hx:∀ i j,x i j < 256) (hinv:∀ i j,i < k->j < k->Lin.mm k (vecF x) (vecF Gf.rep) i j=Lin.one i j) :
 prodM (matFn n k Gf.rep) (matFn k k x) n=spreadM k n:=by
 rw [prodM_fn,rowOf_matFn k k x 0 (by omega),rowFn_length,matFn_length]
 unfold matFn spreadM
 refine List.map_congr_left fun i hi=>?_
 exact rowFn_congr k _ _ (fun j hj=>spread_values n k hn hkn x hx hinv i j (List.mem_range.1 hi) hj)
set_option maxRecDepth 10000 in
set_option maxHeartbeats 2000000 in
theorem spread_ok (n k:Nat) (z:Addr) (w:World) (hk1:1<=k) (hkn:k<=n) (hn:n<=12) (hz:w.cell? ⟨11,0,none⟩=some (.iface 218 (.pointer (some z)))) :
 Calls Tryz.prog 111 #[.int .i64 (n:Int),.int .i64 (k:Int)] w fun e w'=>(∃ gm,e=.returned (.tuple #[.slice (some ⟨gm,0,none⟩) n n,.nilIface])/\Mat w' (some ⟨gm,0,none⟩) (spreadM k n))/\Below w.heap.size w w':=by
 have HP:=powers_ok n k w hk1 hkn hn
 have HZ:Hid (w.cell? ⟨11,0,none⟩=some (.iface 218 (.pointer (some z)))):=hz
 clear hz
 go_enter Tryz.func111,Tryz.ntmps111
 go_wp2_with fail
 refine HP.mono ?_
 rintro e w1 ⟨⟨gm,gs,rfl,hG⟩,hb1⟩
 have HA1:Hid (Mat w1 (some ⟨gm,0,none⟩) (matFn n k Gf.rep)):=hG.mat rep_bytes n (Nat.le_refl _)
 have HK1:Hid (Mat w1 (some ⟨gm,0,none⟩) (matFn k k Gf.rep)):=hG.mat rep_bytes k hkn
 have HZ1:Hid (w1.cell? ⟨11,0,none⟩=some (.iface 218 (.pointer (some z)))):=(hb1.cell (p:=⟨11,0,none⟩) (lt_of_cell HZ.out)).trans HZ.out
 have HB1:Hid (Below w.heap.size w w1):=hb1
 clear hG hb1 HP HZ
 have HI:=invert_ok (some ⟨gm,0,none⟩) (matFn k k Gf.rep) n z w1 (isMat_matFn hk1 (by omega) hk1 (by omega)) (by rw [rowOf_matFn k k Gf.rep 0 (by omega),rowFn_length,matFn_length]) (matFn_bytes rep_bytes) HK1.out HZ1.out
 unfold Inverted at HI
 rw [matFn_length] at HI
 go_wp2_with fail
 refine HI.mono ?_
 rintro e w2 ⟨⟨d,hd,hcase⟩,hb2⟩
 have hdk:d=k:=Lin.rank_unique hd (rank_congr (rank_of_indep (vander_indep k (by omega))) (fun i hi j hj=>(vec_matFn hi hj).symm))
 rcases hcase with ⟨hlt,_⟩ | ⟨_,g2,x,rfl,hm2,hx,hinv⟩
 ·omega
 ·have HB2:Hid (Below w.heap.size w w2):=HB1.out.trans (hb2.mono HB1.out.size)
  have hs2:w.heap.size<=w2.heap.size:=HB2.out.size
  have HT:=mtimes_ok (some ⟨gm,0,none⟩) (some ⟨g2,0,none⟩) (matFn n k Gf.rep) (matFn k k x) n k w2 (isMat_matFn (by omega) (by omega) hk1 (by omega)) (isMat_matFn hk1 (by omega) hk1 (by omega)) (by rw [rowOf_matFn n k Gf.rep 0 (by omega),rowFn_length,matFn_length]) (matFn_bytes rep_bytes) (matFn_bytes hx) (HA1.out.below hb2) hm2
  rw [matFn_length,matFn_length,spread_prod n k hk1 hn hkn x hx (fun i j hi hj=>by
   rw [<- hinv i j hi hj]
   exact Lin.mm_congr k (fun _ _=>rfl) (fun t ht=>(vec_matFn ht hj).symm))] at HT
  clear hd hdk hm2 hinv hb2 HI HK1 HA1 HZ1
  go_wp2_with fail
  refine HT.mono ?_
  rintro e w3 ⟨⟨g3,rfl,hm3⟩,hb3⟩
  clear HT
  go_wp2
  go_ret2
  exact ⟨⟨g3,rfl,hm3⟩,HB2.out.trans (hb3.mono hs2)⟩
def sprRow (k x:Nat):List Nat:=rowFn k fun j=>Gf.shareOf (upToL k) j x
theorem spread_rows {w:World} {gm n k:Nat} (h:Mat w (some ⟨gm,0,none⟩) (spreadM k n)) (hn:1<=n) (hk:1<=k):∃ rb ro rc:Nat->Nat,gm < w.heap.size/\∀ i,i < n->w.cell? ⟨gm,i,none⟩=some (.slice (some ⟨rb i,ro i,none⟩) k (rc i))/\Seg w (some ⟨rb i,ro i,none⟩) (sprRow k i):=by
 have hf:spreadM k n=matFn n k (fun i j=>Gf.shareOf (upToL k) j i):=rfl
 have h1:∀ i,i < n->∃ b1 o1 c,w.cell? ⟨gm,i,none⟩=some (.slice (some ⟨b1,o1,none⟩) k c)/\Seg w (some ⟨b1,o1,none⟩) (sprRow k i):=fun i hi=>by
  rw [hf] at h
  have hr:rowOf (matFn n k fun i j=>Gf.shareOf (upToL k) j i) i=sprRow k i:=rowOf_matFn n k _ i hi
  obtain ⟨b,o,b1,o1,c,hp,_,hb1,h2,h3⟩:=h.row (i:=i) (by rw [matFn_length];exact hi) (by rw [hr];unfold sprRow;rw [rowFn_length];omega)
  injection hp with hp
  injection hp with e1 e2 _
  subst e1 e2
  rw [hr] at h2 h3
  have hl:(sprRow k i).length=k:=rowFn_length _ _
  rw [hl,Nat.zero_add] at h2
  exact ⟨b1,o1,c,h2,⟨rowFn_bytes _ _ (fun j=>Gf.shareOf_lt _ _ _),Or.inr ⟨b1,o1,rfl,hb1,h3⟩⟩⟩
 have h2:∀ i,∃ t:Nat×Nat×Nat,i < n->w.cell? ⟨gm,i,none⟩=some (.slice (some ⟨t.1,t.2.1,none⟩) k t.2.2)/\Seg w (some ⟨t.1,t.2.1,none⟩) (sprRow k i):=fun i=>by
  by_cases hi:i < n
  ·obtain ⟨b1,o1,c,h3⟩:=h1 i hi
   exact ⟨(b1,o1,c),fun _=>h3⟩
  ·exact ⟨(0,0,0),fun h=>absurd h hi⟩
 refine ⟨fun i=>(Classical.choose (h2 i)).1,fun i=>(Classical.choose (h2 i)).2.1,fun i=>(Classical.choose (h2 i)).2.2,?_,fun i hi=>Classical.choose_spec (h2 i) hi⟩
 obtain ⟨_,_,_,h3,_⟩:=h1 0 (by omega)
 exact lt_of_cell h3
theorem picked_isMat {k:Nat} {X:List Nat} (hk1:1<=k) (hk:k<=12) (hX:X.length=k):IsMat (X.map (sprRow k)):=by
 have hl:∀ i,i < X.length->(rowOf (X.map (sprRow k)) i).length=k:=fun i hi=>by
  unfold rowOf
  rw [List.getD_eq_getElem?_getD,List.getElem?_map,List.getElem?_eq_getElem hi]
  exact rowFn_length _ _
 refine ⟨by rw [List.length_map];omega,by rw [List.length_map];omega,fun i hi=>?_⟩
 rw [List.length_map] at hi
 rw [hl i hi,hl 0 (by omega)]
 exact ⟨hk1,by omega,rfl⟩
theorem picked_bytes (k:Nat) (X:List Nat):BytesM (X.map (sprRow k)):=fun i=>by
 by_cases hi:i < X.length
 ·have:rowOf (X.map (sprRow k)) i=sprRow k X[i]:=by unfold rowOf;rw [List.getD_eq_getElem?_getD,List.getElem?_map,List.getElem?_eq_getElem hi];rfl
  rw [this]
  exact rowFn_bytes _ _ (fun j=>Gf.shareOf_lt _ _ _)
 ·intro j
  have:rowOf (X.map (sprRow k)) i=[]:=by unfold rowOf;rw [List.getD_eq_getElem?_getD,List.getElem?_eq_none (by rw [List.length_map];omega)];rfl
  rw [this]
  show ([]:List Nat).getD j 0 < 256
  simp
theorem picked_rank {n k:Nat} {X:List Nat} (hn:n<=12) (hX:X.length=k) (hnd:X.Nodup) (hlt:∀ x ∈ X,x < n) (hk:k<=n):Lin.IsRank k k (vec (X.map (sprRow k))) k:=by
 have hb:Gf.Bytes X:=fun i=>by
  by_cases hi:i < X.length
  ·rw [Gf.nth_getElem X i hi];have:=hlt _ (List.getElem_mem hi);omega
  ·show X.getD i 0 < 256
   rw [List.getD_eq_getElem?_getD,List.getElem?_eq_none (by omega)];decide
 have h:=shares_indep (upToL k) X (upToL_bytes k (by omega)) (upToL_nodup k) hb hnd (by rw [upToL_length];exact hX)
 rw [upToL_length,hX] at h
 refine rank_of_indep ?_
 intro c hc
 refine h c (fun j hj=>?_)
 rw [<- hc j hj]
 refine Lin.fsum_congr fun r hr=>?_
 have hr':r < X.length:=by omega
 have e1:rowOf (X.map (sprRow k)) r=sprRow k X[r]:=by unfold rowOf;rw [List.getD_eq_getElem?_getD,List.getElem?_map,List.getElem?_eq_getElem hr'];rfl
 show Lin.mu (c r) (toF (Gf.shareOf (upToL k) j (Gf.nth X r)))=Lin.mu (c r) (toF (Gf.nth (rowOf (X.map (sprRow k)) r) j))
 rw [e1,Gf.nth_getElem X r hr']
 unfold sprRow
 rw [nth_rowFn _ _ j hj]
end Go.Proofs.YtghpdhegfnhmkaaGreatDoor
