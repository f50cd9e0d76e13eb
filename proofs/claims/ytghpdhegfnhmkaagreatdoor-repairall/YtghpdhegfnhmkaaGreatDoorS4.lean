import Derived.Test.YtghpdhegfnhmkaaGreatDoorProg
import Derived.Test.YtghpdhegfnhmkaaGreatDoorS3
import Derived.WalkKit
import Derived.Laws.BitsAllLaws
import Derived.Laws.BitsLemmas
import Derived.Laws.BytesArg
import Derived.WalkSmall
import Derived.Test.YtghpdhegfnhmkaaGreatDoorS0
import Derived.Below
import Derived.BigQuiet
import Derived.Test.YtghpdhegfnhmkaaGreatDoorS2
import Derived.Deep.QuietTactic
import Derived.Shelf.Abstract
namespace Go.Proofs.YtghpdhegfnhmkaaGreatDoor
open Go.RowKit
theorem ret_int {k:IntKind} {a b:Int} (h:a=b):Ending.returned (.int k a)=.returned (.int k b):=by rw [h]
theorem ret_bool {a b:Bool} (h:a=b):Ending.returned (.bool a)=.returned (.bool b):=by rw [h]
theorem bit_test (b k:Nat) (hb:b < 256):(bits BinOp.and IntKind.u8 ((b:Int) / 2 ^ k) 1==1)=decide (Gf.bitOf b k=1):=by
 have h1:((b:Int) / 2 ^ k)=((b / 2 ^ k:Nat):Int):=by simp
 have h2:b / 2 ^ k < 256:=Nat.lt_of_le_of_lt (Nat.div_le_self _ _) hb
 have h3:bits BinOp.and IntKind.u8 ((b / 2 ^ k:Nat):Int) 1=((b / 2 ^ k % 2:Nat):Int):=by
  have:=u8_and_nat (b / 2 ^ k) 1 h2 (by decide)
  rw [Nat.and_one_is_mod] at this
  exact this
 rw [h1,h3]
 unfold Gf.bitOf
 rcases Nat.mod_two_eq_zero_or_one (b / 2 ^ k) with h | h <;> rw [h] <;> rfl
theorem bit_test64 (b k:Nat) (hb:b < 256):(bits BinOp.and IntKind.i64 ((b:Int) / 2 ^ k) 1==1)=decide (Gf.bitOf b k=1):=by
 have h1:((b:Int) / 2 ^ k)=((b / 2 ^ k:Nat):Int):=by simp
 have h2:b / 2 ^ k < 256:=Nat.lt_of_le_of_lt (Nat.div_le_self _ _) hb
 have h3:bits BinOp.and IntKind.i64 ((b / 2 ^ k:Nat):Int) 1=((b / 2 ^ k % 2:Nat):Int):=by
  have:=bits_mask IntKind.i64 8 (by decide) (fun n h0 h1=>by rw [IntKind.wrap_i64];omega) 1 (by decide) ((b / 2 ^ k:Nat):Int) (Int.natCast_nonneg _) (by exact_mod_cast h2)
  rw [show ((2:Int) ^ 1 - 1)=1 from rfl] at this
  rw [this]
  rfl
 rw [h1,h3]
 unfold Gf.bitOf
 rcases Nat.mod_two_eq_zero_or_one (b / 2 ^ k) with h | h <;> rw [h] <;> rfl
def red (n:Int):Nat:=(n % 255).toNat
theorem red_cast (n:Int):((red n:Nat):Int)=n % 255:=by unfold red;omega
theorem red_lt (n:Int):red n < 255:=by unfold red;omega
theorem tmod_neg (n:Int):n.tmod 255=-((-n).tmod 255):=by rw [Int.neg_tmod,Int.neg_neg]
theorem i64_xor_nat (a b:Nat) (ha:a < 2 ^ 62) (hb:b < 2 ^ 62):bits .xor .i64 (a:Int) (b:Int)=((a ^^^ b:Nat):Int):=by
 have hx:a ^^^ b < 2 ^ 62:=Nat.xor_lt_two_pow ha hb
 show IntKind.i64.wrap ((BitVec.ofInt 64 (a:Int) ^^^ BitVec.ofInt 64 (b:Int)).toNat:Int)=_
 rw [BitVec.toNat_xor,BitVec.ofInt_natCast,BitVec.ofInt_natCast,BitVec.toNat_ofNat,BitVec.toNat_ofNat,Nat.mod_eq_of_lt (by omega),Nat.mod_eq_of_lt (by omega),IntKind.wrap_i64]
 omega
theorem wrap64_small (n:Nat) (h:n < 2 ^ 62):wrap64 (n:Int)=(n:Int):=by
 unfold wrap64;omega
theorem tmod_test (b k:Nat):(((b:Int) / 2 ^ k).tmod 2==1)=decide (Gf.bitOf b k=1):=by
 have h1:((b:Int) / 2 ^ k)=((b / 2 ^ k:Nat):Int):=by simp
 rw [h1,Int.tmod_eq_emod_of_nonneg (Int.natCast_nonneg _)]
 unfold Gf.bitOf
 have h3:(((b / 2 ^ k:Nat):Int) % 2)=((b / 2 ^ k % 2:Nat):Int):=by simp
 rw [h3]
 rcases Nat.mod_two_eq_zero_or_one (b / 2 ^ k) with h | h <;> rw [h] <;> rfl
def strOf (l:List Nat):ByteArray:=strOfNums (l.map Int.ofNat)
structure Seg (w:World) (p:Option Addr) (l:List Nat):Prop where
 lt:Gf.Bytes l
 cells:l=[]∨∃ b o,p=some ⟨b,o,none⟩/\b < w.heap.size/\∀ i,i < l.length->w.cell? ⟨b,o+i,none⟩=some (.int .u8 ((Gf.nth l i:Nat):Int))
theorem Seg.below {w w':World} {p:Option Addr} {l:List Nat} (h:Seg w p l) (hb:Below w.heap.size w w'):Seg w' p l:=by
 refine ⟨h.lt,?_⟩
 rcases h.cells with h | ⟨b,o,hp,hlt,hc⟩
 ·exact Or.inl h
 ·exact Or.inr ⟨b,o,hp,Nat.lt_of_lt_of_le hlt hb.size,fun i hi=>(hb.cell (p:=⟨b,o+i,none⟩) hlt).trans (hc i hi)⟩
set_option maxRecDepth 10000 in
theorem sclone_any (t:ByteArray) (w:World) (ht:t.size<=140737488351232):Calls Tryz.prog 57 #[.string t] w fun e w'=>e=.returned (.string t)/\Below w.heap.size w w':=by
 have HC:Hid (∀ W,Calls Tryz.prog 73 #[.string t] W fun e w'=>e=.returned (.string t)/\Below W.heap.size W w'):=fun W=>Tryz.stringslite_Clone t W (by omega)
 go_enter Tryz.func57,Tryz.ntmps57
 go_wp2_with fail
 refine (HC.out _).mono ?_
 rintro e w1 ⟨rfl,hb1⟩
 have HB1:Hid (Below w.heap.size w w1):=hb1
 clear hb1
 go_wp2
 go_ret
 exact ⟨rfl,HB1.out⟩
def shAt (l:List (Int×ByteArray)) (i:Nat):Int×ByteArray:=l.getD i (0,⟨#[]⟩)
def Shs (w:World) (p:Option Addr) (l:List (Int×ByteArray)):Prop :=
 l=[]∨∃ b o,p=some ⟨b,o,none⟩/\b < w.heap.size/\∀ i,i < l.length->w.cell? ⟨b,o+i*2,none⟩=some (.int .i64 (shAt l i).1)/\w.cell? ⟨b,o+i*2+1,none⟩=some (.string (shAt l i).2)
theorem Shs.below {w w':World} {p:Option Addr} {l:List (Int×ByteArray)} (h:Shs w p l) (hb:Below w.heap.size w w'):Shs w' p l:=by
 rcases h with h | ⟨b,o,hp,hlt,hc⟩
 ·exact Or.inl h
 ·exact Or.inr ⟨b,o,hp,Nat.lt_of_lt_of_le hlt hb.size,fun i hi=>⟨(hb.cell (p:=⟨b,o+i*2,none⟩) hlt).trans (hc i hi).1,(hb.cell (p:=⟨b,o+i*2+1,none⟩) hlt).trans (hc i hi).2⟩⟩
def Mat (w:World) (p:Option Addr) (M:List (List Nat)):Prop :=
 M=[]∨∃ b o,p=some ⟨b,o,none⟩/\b < w.heap.size/\∀ i,i < M.length->∃ q c,w.cell? ⟨b,o+i,none⟩=some (.slice q (rowOf M i).length c)/\Seg w q (rowOf M i)/\(q=none->c=0)
theorem Mat.below {w w':World} {p:Option Addr} {M:List (List Nat)} (h:Mat w p M) (hb:Below w.heap.size w w'):Mat w' p M:=by
 rcases h with h | ⟨b,o,hp,hlt,hc⟩
 ·exact Or.inl h
 ·refine Or.inr ⟨b,o,hp,Nat.lt_of_lt_of_le hlt hb.size,fun i hi=>?_⟩
  obtain ⟨q,c,h1,h2⟩:=hc i hi
  exact ⟨q,c,(hb.cell (p:=⟨b,o+i,none⟩) hlt).trans h1,h2.1.below hb,h2.2⟩
theorem Mat.drewN {w:World} {p:Option Addr} {M:List (List Nat)} (h:Mat w p M) (n:Nat):Mat (w.drewN n) p M:=h.below (below_drewN (Below.refl _ _) n)
def IsMat (M:List (List Nat)):Prop:=1<=M.length/\M.length<=16/\∀ i,i < M.length->1<=(rowOf M i).length/\(rowOf M i).length<=16/\(rowOf M i).length=(rowOf M 0).length
theorem isSpread_yes (n k:Int) (w:World) (h1:1<=k) (h2:k<=n) (h3:n<=12):Calls Tryz.prog 26 #[.int .i64 n,.int .i64 k] w fun e w'=>e=.returned (.bool true)/\w'=w:=by
 go_enter Tryz.func26,Tryz.ntmps26
 go_wp2
 go_ret
 exact ⟨ret_bool (by simp),rfl⟩
theorem isSpread_no (n k:Int) (w:World) (h:¬ (1<=k/\k<=n/\n<=12)):Calls Tryz.prog 26 #[.int .i64 n,.int .i64 k] w fun e w'=>e=.returned (.bool false)/\w'=w:=by
 by_cases h1:1<=k
 ·by_cases h2:k<=n
  ·have h3:¬ n<=12:=fun h3=>h ⟨h1,h2,h3⟩
   clear h
   go_enter Tryz.func26,Tryz.ntmps26
   go_wp2
   go_ret
   exact ⟨ret_bool (by simp),rfl⟩
  ·clear h
   go_enter Tryz.func26,Tryz.ntmps26
   go_wp2
   go_ret
   exact ⟨rfl,rfl⟩
 ·clear h
  go_enter Tryz.func26,Tryz.ntmps26
  go_wp2
  go_ret
  exact ⟨rfl,rfl⟩
theorem conv_seg {w:World} {q:Option Addr} {l:List Nat} (h:Seg w q l) (c:Nat):(convert 76 9 (.slice q l.length c)).run Tryz.prog w=.ok (.string (strOf l)) w:=by
 rcases h.cells with hl | ⟨b,o,rfl,hb,hc⟩
 ·subst hl
  cases q with
  | none=>exact run_convert_bytes_nil w 76 5 Tryz.underlying76 Tryz.underlying5 0 c 9 Tryz.underlying9
  | some ad =>
   have hl:(loadCells ad 0).run Tryz.prog w=.ok (([]:List Int).map (Value.int .u8)).toArray w:=by simp [loadCells,loadCellsFrom]
   rw [List.length_nil,run_convert_bytes_string w 76 9 5 _ 0 c Tryz.underlying76 Tryz.underlying5 Tryz.underlying9,run_bytesToString w ad 0 c [] hl]
   rfl
 ·refine run_convert_bytes_arg w 76 5 Tryz.underlying76 Tryz.underlying5 b o l.length c (l.map Int.ofNat) (by simp) (fun i hi=>?_) 9 Tryz.underlying9
  rw [hc i hi,Gf.nth_getElem l i hi,List.getD_eq_getElem?_getD,List.getElem?_map,List.getElem?_eq_getElem hi]
  rfl
def wideN (k size:Nat):Nat:=(size+(k - 1)) / k
theorem wideN_lt {k size i:Nat} (hk:1<=k) (h:i*k < size):i < wideN k size:=by
 unfold wideN
 rw [Nat.lt_iff_add_one_le,Nat.le_div_iff_mul_le (by omega),Nat.add_mul]
 omega
theorem wideN_ge {k size i:Nat} (hk:1<=k) (h:¬ i*k < size):wideN k size<=i:=by
 unfold wideN
 rw [<- Nat.lt_add_one_iff,Nat.div_lt_iff_lt_mul (by omega),Nat.add_mul]
 omega
theorem wideN_le {k size:Nat} (hk:1<=k):wideN k size<=size:=wideN_ge hk (by
 have:size*1<=size*k:=Nat.mul_le_mul_left size hk
 omega)
set_option maxRecDepth 10000 in
theorem rwide_any (k size:Nat) (w:World) (hk:1<=k) (hk2:k<=1000) (hs:size<=1000000) :
 Calls Tryz.prog 28 #[.int .i64 (k:Int),.int .i64 (size:Int)] w fun e w'=>e=.returned (.int .i64 ((wideN k size:Nat):Int))/\w'=w:=by
 have hle:=wideN_le (size:=size) hk
 go_enter Tryz.func28,Tryz.ntmps28
 go_wp2
 go_loop [5] (fun x=>∃ i:Nat,i<=wideN k size/\x=.int .i64 i) (fun x=>wideN k size - (intOf x).toNat)
 case atStart=>exact ⟨0,Nat.zero_le _,rfl⟩
 case round =>
  obtain ⟨i,hi,rfl⟩:=hrel
  have hb:i*k<=1000000*1000:=Nat.mul_le_mul (by omega) hk2
  have hp0:(0:Int)<=(i:Int)*(k:Int):=by rw [<- Int.natCast_mul];omega
  have hp1:(i:Int)*(k:Int)<=1000000000:=by rw [<- Int.natCast_mul];omega
  by_cases hlt:i*k < size
  ·have h1:=wideN_lt hk hlt
   have h2:(i:Int)*(k:Int) < (size:Int):=by rw [<- Int.natCast_mul];omega
   clear hlt hb
   go_wp2
   go_round
   case rel=>exact ⟨i+1,by omega,by go_num⟩
   case measure=>simp [intOf];omega
  ·have h1:=wideN_ge hk hlt
   have h2:¬ (i:Int)*(k:Int) < (size:Int):=by rw [<- Int.natCast_mul];omega
   obtain rfl:i=wideN k size:=by omega
   clear hlt hb
   go_wp2
   go_ret
   exact ⟨rfl,rfl⟩
def bytesOf (s:ByteArray):List Nat:=s.data.toList.map UInt8.toNat
theorem bytesOf_lt (s:ByteArray):Gf.Bytes (bytesOf s):=fun i=>by
 by_cases hi:i < (bytesOf s).length
 ·rw [Gf.nth_getElem _ i hi]
  simp only [bytesOf,List.getElem_map]
  exact UInt8.toNat_lt _
 ·show (bytesOf s).getD i 0 < 256
  rw [List.getD_eq_getElem?_getD,List.getElem?_eq_none (by omega)]
  decide
theorem bytesOf_nth (s:ByteArray) (i:Nat) (h:i < s.size):Gf.nth (bytesOf s) i=(s[i]'h).toNat:=by
 rw [Gf.nth_getElem _ i (by simpa [bytesOf] using h)]
 simp only [bytesOf,List.getElem_map]
 rfl
theorem bytesOf_length (s:ByteArray):(bytesOf s).length=s.size:=by simp [bytesOf]
theorem mem_bytes {l:List Nat} (h:Gf.Bytes l) {x:Nat} (hx:x ∈ l):x < 256:=by
 obtain ⟨i,hi,rfl⟩:=List.getElem_of_mem hx
 have:=h i
 rwa [Gf.nth_getElem l i hi] at this
theorem bytesOf_strOf {l:List Nat} (h:Gf.Bytes l):bytesOf (strOf l)=l:=by
 unfold bytesOf strOf
 rw [strOfNums_data,List.map_map,List.map_map]
 conv=>rhs;rw [<- List.map_id l]
 refine List.map_congr_left fun x hx=>?_
 have:=mem_bytes h hx
 simp only [Function.comp]
 show (UInt8.ofNat x).toNat=x
 simp only [UInt8.toNat_ofNat']
 omega
theorem strOf_bytesOf (s:ByteArray):strOf (bytesOf s)=s:=by
 unfold bytesOf strOf strOfNums
 rw [List.map_map,List.map_map]
 have:(List.map (((fun n:Int=>UInt8.ofNat n.toNat) ∘ Int.ofNat) ∘ UInt8.toNat) s.data.toList)=s.data.toList:=by
  conv=>rhs;rw [<- List.map_id s.data.toList]
  refine List.map_congr_left fun x _=>?_
  show UInt8.ofNat x.toNat=x
  exact UInt8.ofNat_toNat
 rw [this]
theorem strOf_size (l:List Nat):(strOf l).size=l.length:=by
 unfold strOf
 rw [strOfNums_size,List.length_map]
theorem run_idx (s:ByteArray) (i:Nat) (h:i < s.size) (W:World):Sem.run Tryz.prog (Instr.index 9 (.string s) (.int .i64 (i:Int))) W=.ok (.int .u8 ((Gf.nth (bytesOf s) i:Nat):Int)) W:=by
 rw [run_index_string W 9 s .i64 _ Tryz.underlying9,dif_pos ⟨by omega,by omega⟩,bytesOf_nth s i h]
 congr 3
theorem nth_ext {l m:List Nat} (hl:l.length=m.length) (h:∀ i,i < l.length->Gf.nth l i=Gf.nth m i):l=m:=by
 refine List.ext_getElem hl fun i h1 h2=>?_
 rw [<- Gf.nth_getElem l i h1,<- Gf.nth_getElem m i h2]
 exact h i h1
theorem nth_past {l:List Nat} {i:Nat} (h:l.length<=i):Gf.nth l i=0:=by
 show l.getD i 0=0
 rw [List.getD_eq_getElem?_getD,List.getElem?_eq_none h]
 rfl
def txt (l:List ByteArray) (i:Nat):ByteArray:=l.getD i ⟨#[]⟩
theorem txt_getElem (l:List ByteArray) (i:Nat) (h:i < l.length):txt l i=l[i]:=by
 unfold txt
 rw [List.getD_eq_getElem?_getD,List.getElem?_eq_getElem h]
 rfl
theorem txt_mem {l:List ByteArray} {i:Nat} (h:i < l.length):txt l i ∈ l:=by
 rw [txt_getElem l i h]
 exact List.getElem_mem h
theorem txt_of_mem {l:List ByteArray} {x:ByteArray} (h:x ∈ l):∃ i,i < l.length/\txt l i=x:=by
 obtain ⟨i,hi,e⟩:=List.getElem_of_mem h
 exact ⟨i,hi,by rw [txt_getElem l i hi,e]⟩
theorem txt_take {l:List ByteArray} {i j:Nat} (h:j < i):txt (l.take i) j=txt l j:=by
 unfold txt
 rw [List.getD_eq_getElem?_getD,List.getD_eq_getElem?_getD,List.getElem?_take_of_lt h]
def Strs (w:World) (p:Option Addr) (l:List ByteArray):Prop :=
 l=[]∨∃ b o,p=some ⟨b,o,none⟩/\b < w.heap.size/\∀ i,i < l.length->w.cell? ⟨b,o+i,none⟩=some (.string (txt l i))
theorem Strs.drewN {w:World} {p:Option Addr} {l:List ByteArray} (h:Strs w p l) (n:Nat):Strs (w.drewN n) p l:=h
theorem Strs.below {w w':World} {p:Option Addr} {l:List ByteArray} (h:Strs w p l) (hb:Below w.heap.size w w'):Strs w' p l:=by
 rcases h with h | ⟨b,o,hp,hlt,hc⟩
 ·exact Or.inl h
 ·exact Or.inr ⟨b,o,hp,Nat.lt_of_lt_of_le hlt hb.size,fun i hi=>(hb.cell (p:=⟨b,o+i,none⟩) hlt).trans (hc i hi)⟩
theorem Strs.take {w:World} {p:Option Addr} {l:List ByteArray} (h:Strs w p l) (i:Nat):Strs w p (l.take i):=by
 rcases h with h | ⟨b,o,hp,hlt,hc⟩
 ·exact Or.inl (by rw [h,List.take_nil])
 ·refine Or.inr ⟨b,o,hp,hlt,fun j hj=>?_⟩
  rw [List.length_take] at hj
  rw [hc j (by omega),txt_take (by omega)]
theorem toList_ne {a b:ByteArray} (h:a≠b):¬ a.toList=b.toList:=fun e=>h (by
 rw [ByteArray.toList_eq,ByteArray.toList_eq] at e
 exact ByteArray.ext (Array.toList_inj.1 e))
theorem toList_beq {a b:ByteArray} (h:a≠b):(a.toList==b.toList)=false:=by simpa using toList_ne h
theorem bytes_beq {a b:ByteArray} (h:a≠b):(a==b)=false:=by rw [beq_toListBytes];exact toList_beq h
structure Ver where
 n:Int
 who:Int
 size:Int
 at_:Int
 text:ByteArray
deriving DecidableEq
def verC (v:Ver):List Value:=[.int .i64 v.n,.int .i64 v.who,.int .i64 v.size,.int .i64 v.at_,.string v.text]
def verE:Enc Ver:=⟨5,by decide,verC,fun _=>rfl,fun x u hu=>by simp [verC] at hu;rcases hu with rfl | rfl | rfl | rfl | rfl <;> rfl⟩
abbrev Kep:=ByteArray×Ver
def kepE:Enc Kep:=⟨6,by decide,fun x=>.string x.1 :: verC x.2,fun _=>rfl,fun x u hu=>by simp [verC] at hu;rcases hu with rfl | rfl | rfl | rfl | rfl | rfl <;> rfl⟩
structure MHold (w:World) (h:Nat) (L:List Kep) (s:Bool):Prop where
 row:∃ p c,w.cell? ⟨h,0,none⟩=some (.slice p L.length c)/\Rec kepE w p L/\L.length<=c/\(p=none->L=[]/\c=0)/\∀ b o,p=some ⟨b,o,none⟩->b≠h
 sealed_:w.cell? ⟨h,1,none⟩=some (.bool s)
 free0:w.frozen? ⟨h,0,none⟩=false
 free1:w.frozen? ⟨h,1,none⟩=false
theorem lt_of_cellH {w:World} {b o:Nat} {v:Value} (h:w.cell? ⟨b,o,none⟩=some v):b < w.heap.size:=by
 rcases Nat.lt_or_ge b w.heap.size with h' | h'
 ·exact h'
 ·simp [World.cell?,Array.getElem?_eq_none h'] at h
theorem MHold.below {w w':World} {h:Nat} {L:List Kep} {s:Bool} (hm:MHold w h L s) (hb:Below w.heap.size w w'):MHold w' h L s:=by
 obtain ⟨p,c,h1,h2,h3,h4,h5⟩:=hm.row
 have hlt:=lt_of_cellH h1
 exact ⟨⟨p,c,(hb.cell (p:=⟨h,0,none⟩) hlt).trans h1,h2.below hb,h3,h4,h5⟩,(hb.cell (p:=⟨h,1,none⟩) hlt).trans hm.sealed_,(hb.frozen (p:=⟨h,0,none⟩) hlt).trans hm.free0,(hb.frozen (p:=⟨h,1,none⟩) hlt).trans hm.free1⟩
def getL (L:List Kep) (key:ByteArray):List Ver:=(L.filter fun x=>decide (x.1=key)).map Prod.snd
def kepAt (L:List Kep) (i:Nat):Kep:=L.getD i (⟨#[]⟩,⟨0,0,0,0,⟨#[]⟩⟩)
theorem kepAt_get {L:List Kep} {i:Nat} (hi:i < L.length):L[i]?=some (kepAt L i):=by
 unfold kepAt
 rw [List.getD_eq_getElem?_getD,List.getElem?_eq_getElem hi]
 rfl
theorem getL_le (L:List Kep) (key:ByteArray):(getL L key).length<=L.length:=by
 unfold getL
 rw [List.length_map]
 exact List.length_filter_le _ _
structure Msg where
 from_:ByteArray
 to_:ByteArray
 kind:ByteArray
 key:ByteArray
 op:Int
 config:Int
 shut:Bool
 L:List Ver
def lngT (l:List ByteArray):Bool:=decide (30 < l.length) || l.any fun x=>decide (100 < x.size)
theorem lngT_fine {l:List ByteArray} (h:lngT l=false):l.length<=30/\∀ x ∈ l,x.size<=100:=by
 unfold lngT at h
 rw [Bool.or_eq_false_iff] at h
 refine ⟨by have:=of_decide_eq_false h.1;omega,fun x hx=>?_⟩
 have:=List.any_eq_false.1 h.2 x hx
 simpa using this
set_option maxRecDepth 10000 in
set_option maxHeartbeats 1000000 in
theorem wlongTexts_any (l:List ByteArray) (p:Option Addr) (cap:Nat) (w:World) (hl:l.length<=9223372036854775807) (hx:∀ x ∈ l,x.size<=9223372036854775807) (hs:Strs w p l) :
 Calls Tryz.prog 6 #[.slice p l.length cap] w fun e w'=>e=.returned (.bool (lngT l))/\w'=w:=by
 by_cases h1:30 < l.length
 ·have HR:Hid (lngT l=true):=by show _=_;unfold lngT;rw [decide_eq_true h1,Bool.true_or]
  rw [HR.out]
  clear hs hx
  go_enter Tryz.func6,Tryz.ntmps6
  go_wp2
  go_ret
  exact ⟨rfl,rfl⟩
 have HX:Hid (∀ i,i < l.length->(txt l i).size<=9223372036854775807):=fun i hi=>hx _ (txt_mem hi)
 have HT:Hid (∀ i,i < l.length->100 < (txt l i).size->lngT l=true):=fun i hi h=>by
  unfold lngT
  rw [decide_eq_false h1,Bool.false_or,List.any_eq_true]
  exact ⟨txt l i,txt_mem hi,decide_eq_true h⟩
 have HF:Hid ((∀ i,i < l.length->¬ 100 < (txt l i).size)->lngT l=false):=fun h=>by
  unfold lngT
  rw [decide_eq_false h1,Bool.false_or,List.any_eq_false]
  intro x hx h2
  obtain ⟨i,hi,rfl⟩:=txt_of_mem hx
  exact h i hi (of_decide_eq_true h2)
 generalize lngT l=r at *
 have HS:Hid (Strs w p l):=hs
 clear hs hx
 go_enter Tryz.func6,Tryz.ntmps6
 go_wp2
 go_loopw [3] (fun x wr=>∃ i:Nat,i<=l.length/\x=.int .i64 i/\(∀ j,j < i->¬ 100 < (txt l j).size)/\wr=w) (fun x _=>l.length - (intOf x).toNat)
 case atStart=>exact ⟨0,Nat.zero_le _,rfl,(fun j hj=>absurd hj (Nat.not_lt_zero _)),rfl⟩
 case round =>
  obtain ⟨i,hi,rfl,hall,hwr⟩:=hrel
  subst hwr
  have HALL:Hid (∀ j,j < i->¬ 100 < (txt l j).size):=hall
  clear hall
  by_cases hil:i < l.length
  ·rcases HS.out with h0 | ⟨b,o,rfl,hlt,hc⟩
   ·rw [h0] at hil;exact absurd hil (Nat.not_lt_zero _)
   have q1:=hc i hil
   have hsz:=HX.out i hil
   clear hc
   by_cases hbig:100 < (txt l i).size
   ·have HR:Hid (r=true):=HT.out i hil hbig
    clear HT HF HALL HX
    generalize txt l i=t at *
    go_wp2
    go_ret
    exact ⟨by rw [HR.out];rfl,rfl⟩
   ·have HBG:Hid (¬ 100 < (txt l i).size):=hbig
    clear HT HF HX
    generalize hti:txt l i=t at *
    have HTI:Hid (txt l i=t):=hti
    clear hti
    go_wp2
    go_roundw
    case rel=>exact ⟨i+1,by omega,by go_num,(fun j hj=>by
     rcases Nat.lt_or_ge j i with h | h
     ·exact HALL.out j h
     ·obtain rfl:j=i:=by omega
      rw [HTI.out];exact HBG.out),trivial⟩
    case measure=>simp [intOf];omega
  ·have HR:Hid (r=false):=HF.out (fun j hj=>HALL.out j (by omega))
   go_wp2
   go_ret
   exact ⟨by rw [HR.out];rfl,rfl⟩
theorem add_any (a b:Nat) (w:World) (ha:a < 256) (hb:b < 256) :
 Calls Tryz.prog 112 #[.int .u8 (a:Int),.int .u8 (b:Int)] w fun e w'=>e=.returned (.int .u8 ((a ^^^ b:Nat):Int))/\w'=w:=by
 go_enter Tryz.func112,Tryz.ntmps112
 go_wp2
 go_ret
 exact ⟨ret_int (u8_xor_nat a b ha hb),rfl⟩
set_option maxRecDepth 10000 in
theorem tx_any (a:Nat) (w:World) (ha:a < 256)  :
 Calls Tryz.prog 128 #[.int .u8 (a:Int)] w fun e w'=>e=.returned (.int .u8 ((Gf.tx a:Nat):Int))/\w'=w:=by
 by_cases h:a < 128
 ·go_enter Tryz.func128,Tryz.ntmps128
  go_wp2
  go_ret
  exact ⟨ret_int (by simp [Gf.tx,h]),rfl⟩
 ·go_enter Tryz.func128,Tryz.ntmps128
  go_wp2_with fail
  have e:((a:Int)*2 % 256)=((a*2 - 256:Nat):Int):=by omega
  rw [e]
  refine (add_any (a*2 - 256) 29 _ (by omega) (by decide)).mono ?_
  rintro e w' ⟨rfl,rfl⟩
  go_wp2
  go_ret
  exact ⟨ret_int (by simp [Gf.tx,h]),rfl⟩
set_option maxRecDepth 10000 in
set_option maxHeartbeats 400000 in
theorem mul_any (a b:Nat) (w:World) (ha:a < 256) (hb:b < 256) :
 Calls Tryz.prog 113 #[.int .u8 (a:Int),.int .u8 (b:Int)] w fun e w'=>e=.returned (.int .u8 ((Gf.mul a b:Nat):Int))/\w'=w:=by
 go_enter Tryz.func113,Tryz.ntmps113
 go_wp2
 go_loop [0,5,7] (fun x p i=>∃ k:Nat,k<=8/\i=.int .i64 k/\x=.int .u8 (Gf.txn a k:Nat)/\p=.int .u8 (Gf.part a b k:Nat)) (fun _ _ i=>8 - (intOf i).toNat)
 case atStart=>exact ⟨0,by omega,rfl,rfl,rfl⟩
 case round =>
  obtain ⟨k,hk,rfl,rfl,rfl⟩:=hrel
  have htx:=Gf.txn_lt ha k
  have hpt:=Gf.part_lt ha b k
  have hbt:=bit_test b k hb
  by_cases hlt:k < 8
  ·by_cases hbit:Gf.bitOf b k=1
   ·have HP:Hid (Gf.part a b (k+1)=Gf.part a b k ^^^ Gf.txn a k):=by show _=_;simp [Gf.part,hbit]
    rw [decide_eq_true hbit] at hbt
    clear hbit
    go_wp2_with (first | (go_at_call 112;refine (add_any _ _ _ hpt htx).mono ?_;rintro e w' ⟨rfl,rfl⟩) | (go_at_call 128;refine (tx_any _ _ htx).mono ?_;rintro e w' ⟨rfl,rfl⟩))
    go_round
    case rel=>exact ⟨k+1,by omega,by go_num,rfl,by rw [HP.out]⟩
    case measure=>simp [intOf];omega
   ·have HP:Hid (Gf.part a b (k+1)=Gf.part a b k):=by show _=_;simp [Gf.part,hbit]
    rw [decide_eq_false hbit] at hbt
    clear hbit
    go_wp2_with (first | (go_at_call 112;refine (add_any _ _ _ hpt htx).mono ?_;rintro e w' ⟨rfl,rfl⟩) | (go_at_call 128;refine (tx_any _ _ htx).mono ?_;rintro e w' ⟨rfl,rfl⟩))
    go_round
    case rel=>exact ⟨k+1,by omega,by go_num,rfl,by rw [HP.out]⟩
    case measure=>simp [intOf];omega
  ·go_wp2
   go_ret
   have hk8:k=8:=by omega
   subst hk8
   exact ⟨rfl,rfl⟩
set_option maxRecDepth 10000 in
set_option maxHeartbeats 400000 in
theorem power_any (a n:Nat) (w:World) (ha:a < 256) (hn:n < 256) :
 Calls Tryz.prog 146 #[.int .u8 (a:Int),.int .i64 (n:Int)] w fun e w'=>e=.returned (.int .u8 ((Gf.power a n:Nat):Int))/\w'=w:=by
 go_enter Tryz.func146,Tryz.ntmps146
 go_wp2
 go_loop [0,5,7] (fun x p i=>∃ k:Nat,k<=8/\i=.int .i64 k/\x=.int .u8 (Gf.sq a k:Nat)/\p=.int .u8 (Gf.pw a n k:Nat)) (fun _ _ i=>8 - (intOf i).toNat)
 case atStart=>exact ⟨0,by omega,rfl,rfl,rfl⟩
 case round =>
  obtain ⟨k,hk,rfl,rfl,rfl⟩:=hrel
  have htx:=Gf.sq_lt ha k
  have hpt:=Gf.pw_lt (a:=a) n k
  have hbt:=bit_test64 n k hn
  by_cases hlt:k < 8
  ·by_cases hbit:Gf.bitOf n k=1
   ·have HP:Hid (Gf.pw a n (k+1)=Gf.mul (Gf.pw a n k) (Gf.sq a k)):=by show _=_;simp [Gf.pw,hbit]
    rw [decide_eq_true hbit] at hbt
    clear hbit
    go_wp2_with fail
    refine (mul_any _ _ _ hpt htx).mono ?_
    rintro e w' ⟨rfl,rfl⟩
    go_wp2_with fail
    refine (mul_any _ _ _ htx htx).mono ?_
    rintro e w' ⟨rfl,rfl⟩
    go_wp2
    go_round
    case rel=>exact ⟨k+1,by omega,by go_num,rfl,by rw [HP.out]⟩
    case measure=>simp [intOf];omega
   ·have HP:Hid (Gf.pw a n (k+1)=Gf.pw a n k):=by show _=_;simp [Gf.pw,hbit]
    rw [decide_eq_false hbit] at hbt
    clear hbit
    go_wp2_with fail
    refine (mul_any _ _ _ htx htx).mono ?_
    rintro e w' ⟨rfl,rfl⟩
    go_wp2
    go_round
    case rel=>exact ⟨k+1,by omega,by go_num,rfl,by rw [HP.out]⟩
    case measure=>simp [intOf];omega
  ·go_wp2
   go_ret
   have hk8:k=8:=by omega
   subst hk8
   exact ⟨rfl,rfl⟩
theorem inverse_any (a:Nat) (w:World) (ha:a < 256) :
 Calls Tryz.prog 148 #[.int .u8 (a:Int)] w fun e w'=>e=.returned (.int .u8 ((Gf.inv a:Nat):Int))/\w'=w:=by
 go_enter Tryz.func148,Tryz.ntmps148
 go_wp2_with fail
 refine (power_any a 254 _ ha (by decide)).mono ?_
 rintro e w' ⟨rfl,rfl⟩
 go_wp2
 go_ret
 exact ⟨rfl,rfl⟩
theorem within_any (n:Int) (w:World) :
 Calls Tryz.prog 147 #[.int .i64 n] w fun e w'=>e=.returned (.int .i64 ((red n:Nat):Int))/\w'=w:=by
 have HR:Hid (((red n:Nat):Int)=n % 255):=red_cast n
 by_cases h0:0<=n
 ·go_enter Tryz.func147,Tryz.ntmps147
  go_wp2
  go_ret
  exact ⟨ret_int HR.out.symm,rfl⟩
 ·have HT:Hid (n.tmod 255=-((-n) % 255)):=by show _=_;rw [tmod_neg,Int.tmod_eq_emod_of_nonneg (by omega)]
  have hb1:-255 < n.tmod 255:=by rw [HT.out];omega
  have hb2:n.tmod 255<=0:=by rw [HT.out];omega
  go_enter Tryz.func147,Tryz.ntmps147
  go_wp2
  ·go_ret
   exact ⟨ret_int (by have:=HT.out;have:=HR.out;omega),rfl⟩
  ·go_ret
   exact ⟨ret_int (by have:=HT.out;have:=HR.out;omega),rfl⟩
theorem pow_zero_pos (n:Int) (w:World) (hn:0 < n) :
 Calls Tryz.prog 137 #[.int .u8 0,.int .i64 n] w fun e w'=>e=.returned (.tuple #[.int .u8 0,.nilIface])/\w'=w:=by
 go_enter Tryz.func137,Tryz.ntmps137
 go_wp2
 go_ret2
 exact ⟨rfl,rfl⟩
theorem pow_reg (a:Nat) (n:Int) (w:World) (ha:a < 256) (h:a=0->n=0) :
 Calls Tryz.prog 137 #[.int .u8 (a:Int),.int .i64 n] w fun e w'=>e=.returned (.tuple #[.int .u8 (Gf.power a (red n):Nat),.nilIface])/\w'=w:=by
 have hr:=red_lt n
 by_cases h0:a=0
 ·obtain rfl:=h h0
  subst h0
  clear h
  go_enter Tryz.func137,Tryz.ntmps137
  go_wp2_with (first | (go_at_call 147;refine (within_any 0 _).mono ?_;rintro e w' ⟨rfl,rfl⟩) | (go_at_call 146;refine (power_any 0 (red 0) _ (by decide) (by omega)).mono ?_;rintro e w' ⟨rfl,rfl⟩))
  go_ret2
  exact ⟨rfl,rfl⟩
 ·have h1:((a:Int)==0)=false:=by simpa using h0
  clear h h0
  go_enter Tryz.func137,Tryz.ntmps137
  go_wp2_with (first | (go_at_call 147;refine (within_any n _).mono ?_;rintro e w' ⟨rfl,rfl⟩) | (go_at_call 146;refine (power_any a (red n) _ ha (by omega)).mono ?_;rintro e w' ⟨rfl,rfl⟩))
  go_ret2
  exact ⟨rfl,rfl⟩
theorem inv_zero (z:Addr) (w:World) (hz:w.cell? ⟨11,0,none⟩=some (.iface 218 (.pointer (some z)))) :
 Calls Tryz.prog 141 #[.int .u8 0] w fun e w'=>e=.returned (.tuple #[.int .u8 0,.iface 218 (.pointer (some z))])/\Below w.heap.size w w':=by
 go_enter Tryz.func141,Tryz.ntmps141
 go_wp2
 go_quiet (fail)
 go_wp2
 go_ret2
 exact ⟨rfl,below_drewN (Below.refl _ _) _⟩
theorem inv_any (a:Nat) (w:World) (ha:a < 256) (h0:a≠0) :
 Calls Tryz.prog 141 #[.int .u8 (a:Int)] w fun e w'=>e=.returned (.tuple #[.int .u8 (Gf.inv a:Nat),.nilIface])/\w'=w:=by
 have h1:((a:Int)==0)=false:=by simpa using h0
 clear h0
 go_enter Tryz.func141,Tryz.ntmps141
 go_wp2_with (go_at_call 148;refine (inverse_any a _ ha).mono ?_;rintro e w' ⟨rfl,rfl⟩)
 go_ret2
 exact ⟨rfl,rfl⟩
def Asks (w:World) (fn:FuncId) (caps:Array Value) (l:List (Int×ByteArray)) (P:Int×ByteArray->Bool):Prop :=
 ∀ i,i < l.length->∀ w1,Below w.heap.size w w1->Calls Tryz.prog fn (#[.agg #[.int .i64 (shAt l i).1,.string (shAt l i).2]] ++ caps) w1 fun e w2=>e=.returned (.bool (P (shAt l i)))/\Below w1.heap.size w1 w2
theorem shAt_mem {l:List (Int×ByteArray)} {i:Nat} (h:i < l.length):shAt l i ∈ l:=by
 unfold shAt
 rw [List.getD_eq_getElem?_getD,List.getElem?_eq_getElem h]
 exact List.getElem_mem h
theorem mem_shAt {l:List (Int×ByteArray)} {x:Int×ByteArray} (h:x ∈ l):∃ i,i < l.length/\shAt l i=x:=by
 obtain ⟨i,hi,rfl⟩:=List.getElem_of_mem h
 refine ⟨i,hi,?_⟩
 unfold shAt
 rw [List.getD_eq_getElem?_getD,List.getElem?_eq_getElem hi]
 rfl
theorem any_of_at {l:List (Int×ByteArray)} {P:Int×ByteArray->Bool} {i:Nat} (h:i < l.length) (hp:P (shAt l i)=true):l.any P=true:=List.any_eq_true.2 ⟨_,shAt_mem h,hp⟩
theorem none_of_at {l:List (Int×ByteArray)} {P:Int×ByteArray->Bool} (h:∀ i,i < l.length->P (shAt l i)=false):l.any P=false:=by
 rw [List.any_eq_false]
 intro x hx
 obtain ⟨i,hi,rfl⟩:=mem_shAt hx
 rw [h i hi]
 decide
set_option maxRecDepth 10000 in
set_option maxHeartbeats 1000000 in
theorem index_any (p:Option Addr) (l:List (Int×ByteArray)) (cap:Nat) (fn:FuncId) (caps:Array Value) (P:Int×ByteArray->Bool) (w:World) (hl:l.length<=100000) (hs:Shs w p l)
 (hent:∀ args W,Sem.run Tryz.prog (callFunc fn args) W=.ok (.enter fn args) W) (hc:Asks w fn caps l P) :
 Calls Tryz.prog 115 #[.slice p l.length cap,.func (.func fn) #[] caps] w fun e w'=>(∃ r:Int,e=.returned (.int .i64 r)/\(0<=r/\l.any P=true∨r=-1/\l.any P=false))/\Below w.heap.size w w':=by
 have HS:Hid (Shs w p l):=hs
 have HC:Hid (Asks w fn caps l P):=hc
 clear hs hc
 go_enter Tryz.func115,Tryz.ntmps115
 go_wp2
 go_loopw [8] (fun x wr=>∃ i:Nat,i<=l.length/\x=.int .i64 i/\(∀ j,j < i->P (shAt l j)=false)/\Below w.heap.size w wr) (fun x _=>l.length - (intOf x).toNat)
 case atStart=>exact ⟨0,by omega,rfl,fun j hj=>absurd hj (Nat.not_lt_zero _),Below.refl _ _⟩
 case round =>
  obtain ⟨i,hi,rfl,hall,hB⟩:=hrel
  have HALL:Hid (∀ j,j < i->P (shAt l j)=false):=hall
  have HB:Hid (Below w.heap.size w wr):=hB
  clear hall hB
  by_cases hil:i < l.length
  ·rcases (HS.out.below HB.out) with h0 | ⟨b1,o1,rfl,_,hc1⟩
   ·rw [h0] at hil;simp at hil
   obtain ⟨q1,q2⟩:=hc1 i hil
   have HX:=HC.out i hil wr HB.out
   clear hc1
   have HPX:Hid (∀ v,P (shAt l i)=v->v=P (shAt l i)):=fun v h=>h.symm
   by_cases hp:P (shAt l i)=true
   ·have HA:Hid (l.any P=true):=any_of_at hil hp
    rw [hp] at HX
    clear hp HPX
    generalize (shAt l i).1=x at q1 HX
    generalize (shAt l i).2=t at q2 HX
    go_wp2_with fail
    refine HX.mono ?_
    rintro e w2 ⟨rfl,hb2⟩
    clear HX
    go_wp2
    go_ret
    exact ⟨⟨(i:Int),rfl,Or.inl ⟨by omega,HA.out⟩⟩,HB.out.trans (hb2.mono HB.out.size)⟩
   ·have hpf:P (shAt l i)=false:=by simpa using hp
    have HPF:Hid (P (shAt l i)=false):=hpf
    rw [hpf] at HX
    clear hp hpf HPX
    generalize (shAt l i).1=x at q1 HX
    generalize (shAt l i).2=t at q2 HX
    go_wp2_with fail
    refine HX.mono ?_
    rintro e w2 ⟨rfl,hb2⟩
    have HB2:Hid (Below w.heap.size w w2):=HB.out.trans (hb2.mono HB.out.size)
    clear HX hb2 q1 q2
    go_wp2
    go_roundw
    case rel =>
     refine ⟨i+1,by omega,by go_num,fun j hj=>?_,HB2.out⟩
     by_cases e:j=i
     ·rw [e];exact HPF.out
     ·exact HALL.out j (by omega)
    case measure=>simp [intOf];omega
  ·have HN:Hid (l.any P=false):=none_of_at fun j hj=>HALL.out j (by omega)
   go_wp2
   go_ret
   exact ⟨⟨-1,rfl,Or.inr ⟨rfl,HN.out⟩⟩,HB.out⟩
set_option maxRecDepth 10000 in
theorem contains_any (p:Option Addr) (l:List (Int×ByteArray)) (cap:Nat) (fn:FuncId) (caps:Array Value) (P:Int×ByteArray->Bool) (w:World) (hl:l.length<=100000) (hs:Shs w p l)
 (hent:∀ args W,Sem.run Tryz.prog (callFunc fn args) W=.ok (.enter fn args) W) (hc:Asks w fn caps l P) :
 Calls Tryz.prog 104 #[.slice p l.length cap,.func (.func fn) #[] caps] w fun e w'=>e=.returned (.bool (l.any P))/\Below w.heap.size w w':=by
 have HI:=index_any p l cap fn caps P w hl hs hent hc
 clear hs hc hent
 go_enter Tryz.func104,Tryz.ntmps104
 go_wp2_with fail
 refine HI.mono ?_
 rintro e w1 ⟨⟨r,rfl,hr⟩,hb⟩
 clear HI
 rcases hr with ⟨hr,ha⟩ | ⟨hr,ha⟩
 ·have HA:Hid (l.any P=true):=ha
  clear ha
  go_wp2
  go_ret
  exact ⟨ret_bool (by rw [HA.out]),hb⟩
 ·have HA:Hid (l.any P=false):=ha
  subst hr
  clear ha
  go_wp2
  go_ret
  exact ⟨ret_bool (by rw [HA.out]),hb⟩
def idxN (l:List ByteArray) (s:ByteArray):Nat:=l.findIdx fun x=>decide (x=s)
theorem idxN_eq {l:List ByteArray} {s:ByteArray} {i:Nat} (hi:i < l.length) (h:txt l i=s) (hall:∀ j,j < i->txt l j≠s):idxN l s=i:=by
 unfold idxN
 rw [List.findIdx_eq hi]
 refine ⟨decide_eq_true (by rw [<- txt_getElem l i hi];exact h),fun j hj=>decide_eq_false ?_⟩
 rw [<- txt_getElem l j (by omega)]
 exact hall j hj
def letterB (c:Nat):Bool:=decide (97<=c/\c<=122) || decide (48<=c/\c<=57) || decide (c=45)
def isN (s:ByteArray):Bool:=decide (1<=s.size/\s.size<=16) && (bytesOf s).all letterB
theorem isN_size {s:ByteArray} (h:isN s=true):1<=s.size/\s.size<=16:=by
 unfold isN at h
 rw [Bool.and_eq_true] at h
 exact of_decide_eq_true h.1
theorem isN_all {s:ByteArray} (h1:1<=s.size) (h2:s.size<=16) (h:∀ j,j < s.size->letterB (Gf.nth (bytesOf s) j)=true):isN s=true:=by
 unfold isN
 rw [decide_eq_true ⟨h1,h2⟩,Bool.true_and,List.all_eq_true]
 intro x hx
 obtain ⟨j,hj,rfl⟩:=List.getElem_of_mem hx
 rw [<- Gf.nth_getElem _ j hj]
 exact h j (by rw [bytesOf_length] at hj;exact hj)
theorem isN_one {s:ByteArray} {j:Nat} (hj:j < s.size) (h:letterB (Gf.nth (bytesOf s) j)=false):isN s=false:=by
 unfold isN
 rw [Bool.and_eq_false_iff]
 refine Or.inr (List.all_eq_false.2 ⟨Gf.nth (bytesOf s) j,?_,by rw [h];decide⟩)
 have hj':j < (bytesOf s).length:=by rw [bytesOf_length];exact hj
 rw [Gf.nth_getElem _ j hj']
 exact List.getElem_mem hj'
theorem isN_len {s:ByteArray} (h:¬ (1<=s.size/\s.size<=16)):isN s=false:=by
 unfold isN
 rw [decide_eq_false h,Bool.false_and]
def inL (l:List ByteArray) (x:ByteArray):Bool:=l.any fun y=>decide (y=x)
theorem inL_iff {l:List ByteArray} {x:ByteArray}:inL l x=true↔x ∈ l:=by
 unfold inL
 rw [List.any_eq_true]
 exact ⟨fun ⟨y,hy,e⟩=>by rw [<- of_decide_eq_true e];exact hy,fun h=>⟨x,h,decide_eq_true rfl⟩⟩
def faultAt (l:List ByteArray) (i:Nat):Nat:=if isN (txt l i) then (if inL (l.take i) (txt l i) then 6 else 0) else 4
theorem faultAt_name {l:List ByteArray} {i:Nat} (h:isN (txt l i)=false):faultAt l i=4:=by
 unfold faultAt
 rw [h,if_neg (by decide)]
theorem faultAt_twice {l:List ByteArray} {i:Nat} (h:isN (txt l i)=true) (h2:txt l i ∈ l.take i):faultAt l i=6:=by
 unfold faultAt
 rw [if_pos h,if_pos (inL_iff.2 h2)]
theorem faultAt_fine {l:List ByteArray} {i:Nat} (h:isN (txt l i)=true) (h2:txt l i ∉ l.take i):faultAt l i=0:=by
 unfold faultAt
 rw [if_pos h,if_neg (fun h3=>h2 (inL_iff.1 h3))]
def scanF (l:List ByteArray):Nat->Nat->Int×Int
 | _,0=>(0,-1)
 | i,m+1=>if faultAt l i=0 then scanF l (i+1) m else ((faultAt l i:Nat),(i:Nat))
def nodesF (l:List ByteArray):Int×Int:=if l.length < 1∨16 < l.length then (2,-1) else scanF l 0 l.length
theorem nodesF_bound {l:List ByteArray} (h:l.length < 1∨16 < l.length):nodesF l=(2,-1):=if_pos h
theorem nodesF_scan {l:List ByteArray} (h1:¬ l.length < 1) (h2:¬ 16 < l.length):nodesF l=scanF l 0 l.length:=if_neg (by omega)
theorem scanF_fine {l:List ByteArray}:∀ (m i:Nat),scanF l i m=(0,-1)->∀ j,i<=j->j < i+m->faultAt l j=0
 | 0,i,_,j,h1,h2=>by omega
 | m+1,i,h,j,h1,h2=>by
  have h':(if faultAt l i=0 then scanF l (i+1) m else (((faultAt l i:Nat):Int),(i:Int)))=(0,-1):=h
  by_cases e:faultAt l i=0
  ·rw [if_pos e] at h'
   by_cases e2:j=i
   ·rw [e2];exact e
   ·exact scanF_fine m (i+1) h' j (by omega) (by omega)
  ·rw [if_neg e] at h'
   have h3:=congrArg Prod.fst h'
   have h4:((faultAt l i:Nat):Int)=0:=h3
   omega
theorem scanF_zero {l:List ByteArray}:∀ (m i:Nat),(scanF l i m).1<=0->scanF l i m=(0,-1)
 | 0,_,_=>rfl
 | m+1,i,h=>by
  show (if faultAt l i=0 then scanF l (i+1) m else (((faultAt l i:Nat):Int),(i:Int)))=(0,-1)
  have h':(if faultAt l i=0 then scanF l (i+1) m else (((faultAt l i:Nat):Int),(i:Int))).1<=0:=h
  by_cases e:faultAt l i=0
  ·rw [if_pos e] at h' ⊢
   exact scanF_zero m (i+1) h'
  ·rw [if_neg e] at h'
   have h4:((faultAt l i:Nat):Int)<=0:=h'
   omega
theorem nodesF_zero {l:List ByteArray} (h:(nodesF l).1<=0):nodesF l=(0,-1)/\1<=l.length/\l.length<=16:=by
 by_cases hb:l.length < 1∨16 < l.length
 ·rw [nodesF_bound hb] at h
  exact absurd h (by decide)
 ·have h1:nodesF l=scanF l 0 l.length:=if_neg hb
  rw [h1] at h ⊢
  exact ⟨scanF_zero _ _ h,by omega,by omega⟩
theorem nodesF_fine {l:List ByteArray} (h:(nodesF l).1<=0):(∀ x ∈ l,isN x=true)/\l.Nodup:=by
 obtain ⟨h0,h1,h2⟩:=nodesF_zero h
 rw [nodesF_scan (by omega) (by omega)] at h0
 have hf:=scanF_fine l.length 0 h0
 have key:∀ j,j < l.length->isN (txt l j)=true/\txt l j ∉ l.take j:=fun j hj=>by
  have:=hf j (Nat.zero_le _) (by omega)
  unfold faultAt at this
  by_cases e:isN (txt l j)=true
  ·rw [if_pos e] at this
   refine ⟨e,fun h3=>?_⟩
   rw [if_pos (inL_iff.2 h3)] at this
   omega
  ·rw [if_neg e] at this
   omega
 refine ⟨fun x hx=>?_,?_⟩
 ·obtain ⟨j,hj,rfl⟩:=txt_of_mem hx
  exact (key j hj).1
 ·rw [List.nodup_iff_pairwise_ne,List.pairwise_iff_getElem]
  intro i j hi hj hij e
  refine (key j hj).2 ?_
  rw [txt_getElem l j hj,<- e,List.mem_take_iff_getElem]
  exact ⟨i,by omega,rfl⟩
end Go.Proofs.YtghpdhegfnhmkaaGreatDoor
