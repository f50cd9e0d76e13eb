import Derived.Test.YtghpdhegfnhmkaaGreatDoorS41
import Derived.Test.YtghpdhegfnhmkaaGreatDoorS45
import Derived.Test.YtghpdhegfnhmkaaGreatDoorS31
import Derived.Test.YtghpdhegfnhmkaaGreatDoorS0
namespace Go.Proofs.YtghpdhegfnhmkaaGreatDoor
open Go.RowKit
def lostB (lost:List Int) (i:Nat):Bool:=decide ((i:Int) ∈ lost)
def oneK (key:ByteArray) (k:Nat) (x:ByteArray) (i:Nat):List Kep:=[(key,genV k (1,0) x i)]
def heldK (key:ByteArray) (k:Nat) (x:ByteArray) (lost:List Int) (i:Nat):Option (List Kep):=some (if lostB lost i then [] else oneK key k x i)
def heldL (key:ByteArray) (k:Nat) (x:ByteArray) (lost:List Int) (n:Nat):List (Option (List Kep)):=(List.range n).map (heldK key k x lost)
def lostL (lost:List Int) (n:Nat):List Nat:=(List.range n).filter (lostB lost)
def leftL (lost:List Int) (n:Nat):List Nat:=(List.range n).filter fun i=>!lostB lost i
variable {key x:ByteArray} {n k:Nat} {lost:List Int}
theorem left_lost (lost:List Int):∀ n,(leftL lost n).length+(lostL lost n).length=n
 | 0=>rfl
 | n+1=>by
  have ih:=left_lost lost n
  unfold leftL lostL at ih ⊢
  rw [List.range_succ,List.filter_append,List.filter_append,List.length_append,List.length_append]
  cases h:lostB lost n with
  | true=>rw [List.filter_cons_of_neg (by simp [h]),List.filter_cons_of_pos (by simp [h])];simp;omega
  | false=>rw [List.filter_cons_of_pos (by simp [h]),List.filter_cons_of_neg (by simp [h])];simp;omega
theorem heldL_length:(heldL key k x lost n).length=n:=by simp [heldL]
theorem heldL_at {i:Nat} (hi:i < n):(heldL key k x lost n)[i]?=some (heldK key k x lost i):=by
 unfold heldL
 rw [List.getElem?_map,List.getElem?_range hi]
 rfl
theorem tell_held {i:Nat} (hi:i < n):(tellL key (heldL key k x lost n)).getD i []=if lostB lost i then [] else [genV k (1,0) x i]:=by
 rw [tellL_at (heldL_at hi)]
 unfold heldK tellK getL oneK
 cases lostB lost i with
 | true=>rfl
 | false=>simp
theorem held_mem {v:Ver}:v ∈ (tellL key (heldL key k x lost n)).flatten↔∃ i,i < n/\lostB lost i=false/\v=genV k (1,0) x i:=by
 rw [List.mem_flatten]
 constructor
 ·rintro ⟨l,hl,hv⟩
  obtain ⟨i,hi,rfl⟩:=List.getElem_of_mem hl
  rw [tellL_length,heldL_length] at hi
  have h:=tell_held (key:=key) (k:=k) (x:=x) (lost:=lost) hi
  rw [List.getD_eq_getElem?_getD,List.getElem?_eq_getElem (by rw [tellL_length,heldL_length];exact hi)] at h
  have h:(tellL key (heldL key k x lost n))[i]'_=_:=h
  rw [h] at hv
  cases hb:lostB lost i with
  | true=>rw [hb] at hv;simp at hv
  | false=>rw [hb] at hv;exact ⟨i,hi,hb,by simpa using hv⟩
 ·rintro ⟨i,hi,hb,rfl⟩
  have h:=tell_held (key:=key) (k:=k) (x:=x) (lost:=lost) hi
  have hl:i < (tellL key (heldL key k x lost n)).length:=by rw [tellL_length,heldL_length];exact hi
  rw [List.getD_eq_getElem?_getD,List.getElem?_eq_getElem hl,hb] at h
  have h:(tellL key (heldL key k x lost n))[i]'_=[genV k (1,0) x i]:=h
  exact ⟨_,List.getElem_mem hl,by rw [h];simp⟩
theorem held_gen (hx:x.size<=1000):Gen n k (fun _=>x) (tellL key (heldL key k x lost n)).flatten:=fun v hv=>by
 obtain ⟨i,hi,_,rfl⟩:=held_mem.1 hv
 exact ⟨(1,0),i,rfl,hi,by decide,hx⟩
theorem held_tag (hk:1<=k) {t:Int×Int} (h:GoodT n k (tellL key (heldL key k x lost n)).flatten t):t=(1,0):=by
 obtain ⟨v,hv,e⟩:=good_told hk h
 obtain ⟨i,_,_,rfl⟩:=held_mem.1 hv
 exact e.symm
theorem held_good (hx:x.size<=1000):GoodT n k (tellL key (heldL key k x lost n)).flatten (1,0)↔k<=(leftL lost n).length:=by
 obtain ⟨Y,y1,y2,y3,_⟩:=gen_shOf (1,0) (held_gen (key:=key) (n:=n) (k:=k) (lost:=lost) hx)
 have hmem:∀ i,i ∈ Y↔i ∈ leftL lost n:=fun i=>by
  rw [y2 i,held_mem]
  unfold leftL
  rw [List.mem_filter,List.mem_range]
  constructor
  ·rintro ⟨j,hj,hb,e⟩
   obtain ⟨_,rfl⟩:=genV_tag e
   exact ⟨hj,by rw [hb];rfl⟩
  ·rintro ⟨h1,h2⟩
   exact ⟨i,h1,by simpa using h2,rfl⟩
 have hnd:(leftL lost n).Nodup:=List.Nodup.sublist List.filter_sublist List.nodup_range
 have l1:Y.length<=(leftL lost n).length:=length_le_of_subset _ _ y1 fun i hi=>(hmem i).1 hi
 have l2:(leftL lost n).length<=Y.length:=length_le_of_subset _ _ hnd fun i hi=>(hmem i).2 hi
 unfold GoodT
 rw [y3,List.length_map]
 omega
theorem held_none (hk:1<=k) (hx:x.size<=1000) (hl:(leftL lost n).length < k):wholeF n k (tellL key (heldL key k x lost n))=[]:=by
 unfold wholeF
 rw [best_none (fun v hv hg=>by
  have ht:=held_tag hk hg
  rw [ht] at hg
  have:=(held_good hx).1 hg
  omega)]
 rfl
theorem held_best (hk:1<=k) (hkn:k<=n) (hn:n<=12) (hx:x.size<=1000) (hl:k<=(leftL lost n).length):wholeF n k (tellL key (heldL key k x lost n))=wholeL n k (1,0) x:=by
 have hg:=(held_good (key:=key) (k:=k) (lost:=lost) (n:=n) hx).2 hl
 have hb:=best_is hk hg (fun u hu=>by rw [held_tag hk hu];rfl)
 rw [gen_dec hk hn hkn (held_gen hx) hg] at hb
 unfold wholeF
 rw [hb]
 rfl
theorem held_miss:missF (wholeL n k (1,0) x) (tellL key (heldL key k x lost n))=lostL lost n:=by
 unfold missF missN lostL
 rw [wholeL_length]
 refine List.filter_congr fun i hi=>?_
 have hi':i < n:=List.mem_range.1 hi
 unfold lackB
 rw [tell_held hi',wholeL_at hi']
 cases lostB lost i with
 | true=>simp
 | false=>simp
theorem verOk_gen (hk:1<=k) (hx:x.size<=1000) {i:Nat} (hi:i < 12):verOk (genV k (1,0) x i)=true:=by
 have h1:=wideN_le (size:=x.size) hk
 unfold verOk genV
 dsimp only
 rw [show tagB 1 0=true from by decide,Bool.true_and,decide_eq_true_eq]
 refine ⟨by omega,by omega,by omega,by omega,?_⟩
 rw [encT_size]
 omega
theorem putR_one {v:Ver} (hk:isN key=true) (hv:verOk v=true):putR [] false key v=(0,[(key,v)]):=by
 have h:putErr [] false key v=0:=by
  unfold putErr
  rw [if_neg (by simp),if_pos hk,if_pos hv]
  rfl
 unfold putR
 rw [if_pos h]
 rfl
theorem lostL_get {m i:Nat} (h:(lostL lost n)[m]?=some i):i < n/\lostB lost i=true/\i ∉ (lostL lost n).take m:=by
 have hm:=List.mem_of_getElem? h
 obtain ⟨h1,h2⟩:=List.mem_filter.1 (show i ∈ (List.range n).filter (lostB lost) from hm)
 refine ⟨List.mem_range.1 h1,h2,fun hin=>?_⟩
 have hnd:(lostL lost n).Nodup:=List.Nodup.sublist List.filter_sublist List.nodup_range
 obtain ⟨j,hj,e⟩:=List.getElem_of_mem hin
 rw [List.length_take] at hj
 rw [List.getElem_take] at e
 obtain ⟨hml,e2⟩:=List.getElem?_eq_some_iff.1 h
 exact (List.pairwise_iff_getElem.1 hnd) j m (by omega) hml (by omega) (by rw [e,e2])
def midK (key:ByteArray) (k:Nat) (x:ByteArray) (lost:List Int) (n m:Nat) (i:Nat):Option (List Kep):=some (if lostB lost i && !decide (i ∈ (lostL lost n).take m) then [] else oneK key k x i)
theorem held_mend (hk:1<=k) (hn:n<=12) (hx:x.size<=1000) (hkey:isN key=true):∀ m,m<=(lostL lost n).length->mendN key (wholeL n k (1,0) x) (heldL key k x lost n) (lostL lost n) m=(0,m,(List.range n).map (midK key k x lost n m))
 | 0,_=>by
  show (0,0,heldL key k x lost n)=_
  refine congrArg (fun l=>((0:Int),(0:Nat),l)) (List.map_congr_left fun i _=>?_)
  unfold heldK midK
  simp
 | m+1,hm=>by
  have ih:=held_mend hk hn hx hkey m (by omega)
  obtain ⟨i,hi⟩:∃ i,(lostL lost n)[m]?=some i:=⟨_,List.getElem?_eq_getElem (by omega)⟩
  obtain ⟨h1,h2,h3⟩:=lostL_get hi
  have hat:((List.range n).map (midK key k x lost n m))[i]?=some (some []):=by
   rw [List.getElem?_map,List.getElem?_range h1]
   show some (midK key k x lost n m i)=_
   unfold midK
   rw [h2,decide_eq_false h3]
   rfl
  rw [mendN_succ hi,ih,mStep_some rfl hat,wholeL_at h1,putR_one hkey (verOk_gen hk hx (by omega))]
  refine congrArg (fun l=>((0:Int),m+1,l)) (List.ext_getElem? fun j=>?_)
  have htk:(lostL lost n).take (m+1)=(lostL lost n).take m ++ [i]:=by rw [List.take_add_one,hi];rfl
  by_cases e:j=i
  ·subst e
   rw [List.getElem?_set_self (by simpa using h1),List.getElem?_map,List.getElem?_range h1]
   show _=some (midK key k x lost n (m+1) j)
   unfold midK
   rw [htk,decide_eq_true (by simp)]
   simp [oneK]
  ·rw [List.getElem?_set_ne (Ne.symm e),List.getElem?_map,List.getElem?_map]
   by_cases hj:j < n
   ·rw [List.getElem?_range hj]
    show some (midK key k x lost n m j)=some (midK key k x lost n (m+1) j)
    unfold midK
    rw [htk]
    simp [e]
   ·rw [List.getElem?_eq_none (by simp;omega)]
    rfl
theorem held_mended (hk:1<=k) (hn:n<=12) (hx:x.size<=1000) (hkey:isN key=true):mendF key (wholeL n k (1,0) x) (heldL key k x lost n) (lostL lost n)=(0,(lostL lost n).length,heldL key k x [] n):=by
 rw [<- mendN_all,held_mend hk hn hx hkey _ (Nat.le_refl _)]
 refine congrArg (fun l=>((0:Int),(lostL lost n).length,l)) (List.map_congr_left fun i hi=>?_)
 have h0:heldK key k x [] i=some (oneK key k x i):=by unfold heldK;simp [lostB]
 show midK key k x lost n (lostL lost n).length i=heldK key k x [] i
 rw [h0]
 unfold midK
 rw [List.take_length]
 cases hb:lostB lost i with
 | false=>rfl
 | true =>
  have hm:i ∈ lostL lost n:=List.mem_filter.2 ⟨hi,hb⟩
  rw [decide_eq_true hm]
  rfl
theorem lostL_none:lostL [] n=[]:=List.filter_eq_nil_iff.2 fun i _=>by simp [lostB]
theorem leftL_none:(leftL [] n).length=n:=by
 have:=left_lost [] n
 rw [lostL_none] at this
 simpa using this
end Go.Proofs.YtghpdhegfnhmkaaGreatDoor
