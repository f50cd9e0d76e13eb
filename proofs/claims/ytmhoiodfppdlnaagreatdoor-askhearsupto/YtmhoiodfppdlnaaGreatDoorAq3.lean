import Derived.Test.YtmhoiodfppdlnaaGreatDoorProg
import Derived.Test.YtmhoiodfppdlnaaGreatDoorAq2
import Derived.WalkKit
import Derived.Laws.BitsAllLaws
import Derived.Laws.BitsLemmas
import Derived.Laws.BytesArg
import Derived.WalkSmall
import Derived.Test.YtmhoiodfppdlnaaGreatDoorAq0
import Derived.Below
import Derived.Sort.Grow
import Derived.Lib.LaidTab
import Derived.Deep.QuietTactic
import Derived.BigQuiet
import Derived.Shelf.Abstract
import Derived.Deep.Heap
import Derived.Maps.RangeWalk
import Derived.Maps.OwnOps
import Derived.Maps.OwnSet
set_option maxRecDepth 10000
set_option maxHeartbeats 4000000
namespace Go.Proofs.YtmhoiodfppdlnaaGreatDoor
open Go.RowKit
theorem ret_int {k:IntKind}{a b:Int}(h:a=b):Ending.returned (.int k a)=.returned (.int k b):=by rw [h]
theorem ret_bool {a b:Bool}(h:a=b):Ending.returned (.bool a)=.returned (.bool b):=by rw [h]
theorem bit_test (b k:Nat)(hb:b < 256):(bits BinOp.and IntKind.u8 ((b:Int) / 2 ^ k) 1==1)=decide (Gf.bitOf b k=1):=by
 have h1:((b:Int) / 2 ^ k)=((b / 2 ^ k:Nat):Int):=by simp
 have h2:b / 2 ^ k < 256:=Nat.lt_of_le_of_lt (Nat.div_le_self _ _) hb
 have h3:bits BinOp.and IntKind.u8 ((b / 2 ^ k:Nat):Int) 1=((b / 2 ^ k % 2:Nat):Int):=by
  have:=u8_and_nat (b / 2 ^ k) 1 h2 (by decide)
  rw [Nat.and_one_is_mod] at this
  exact this
 rw [h1,h3]
 unfold Gf.bitOf
 rcases Nat.mod_two_eq_zero_or_one (b / 2 ^ k) with h | h <;> rw [h] <;> rfl
theorem bit_test64 (b k:Nat)(hb:b < 256):(bits BinOp.and IntKind.i64 ((b:Int) / 2 ^ k) 1==1)=decide (Gf.bitOf b k=1):=by
 have h1:((b:Int) / 2 ^ k)=((b / 2 ^ k:Nat):Int):=by simp
 have h2:b / 2 ^ k < 256:=Nat.lt_of_le_of_lt (Nat.div_le_self _ _) hb
 have h3:bits BinOp.and IntKind.i64 ((b / 2 ^ k:Nat):Int) 1=((b / 2 ^ k % 2:Nat):Int):=by
  have:=bits_mask IntKind.i64 8 (by decide) (fun n h0 h1=>by rw [IntKind.wrap_i64];omega) 1 (by decide) ((b / 2 ^ k:Nat):Int) (Int.natCast_nonneg _) (by exact_mod_cast h2)
  rw [show((2:Int) ^ 1 - 1)=1 from rfl] at this
  rw [this]
  rfl
 rw [h1,h3]
 unfold Gf.bitOf
 rcases Nat.mod_two_eq_zero_or_one (b / 2 ^ k) with h | h <;> rw [h] <;> rfl
def red (n:Int):Nat:=(n % 255).toNat
theorem red_cast (n:Int):((red n:Nat):Int)=n % 255:=by unfold red;omega
theorem red_lt (n:Int):red n < 255:=by unfold red;omega
theorem tmod_neg (n:Int):n.tmod 255=-((-n).tmod 255):=by rw [Int.neg_tmod,Int.neg_neg]
theorem i64_xor_nat (a b:Nat)(ha:a < 2 ^ 62)(hb:b < 2 ^ 62):bits .xor .i64 (a:Int) (b:Int)=((a ^^^ b:Nat):Int):=by
 have hx:a ^^^ b < 2 ^ 62:=Nat.xor_lt_two_pow ha hb
 show IntKind.i64.wrap ((BitVec.ofInt 64 (a:Int) ^^^ BitVec.ofInt 64 (b:Int)).toNat:Int)=_
 rw [BitVec.toNat_xor,BitVec.ofInt_natCast,BitVec.ofInt_natCast,BitVec.toNat_ofNat,BitVec.toNat_ofNat,Nat.mod_eq_of_lt (by omega),Nat.mod_eq_of_lt (by omega),IntKind.wrap_i64]
 omega
theorem wrap64_small (n:Nat)(h:n < 2 ^ 62):wrap64 (n:Int)=(n:Int):=by
 unfold wrap64;omega
theorem tmod_test (b k:Nat):(((b:Int) / 2 ^ k).tmod 2==1)=decide (Gf.bitOf b k=1):=by
 have h1:((b:Int) / 2 ^ k)=((b / 2 ^ k:Nat):Int):=by simp
 rw [h1,Int.tmod_eq_emod_of_nonneg (Int.natCast_nonneg _)]
 unfold Gf.bitOf
 have h3:(((b / 2 ^ k:Nat):Int) % 2)=((b / 2 ^ k % 2:Nat):Int):=by simp
 rw [h3]
 rcases Nat.mod_two_eq_zero_or_one (b / 2 ^ k) with h | h <;> rw [h] <;> rfl
def strOf (l:List Nat):ByteArray:=strOfNums (l.map Int.ofNat)
structure Seg (w:World) (p:Option Addr) (l:List Nat):Prop where
 lt:Gf.Bytes l
 cells:l=[]∨∃ b o,p=some ⟨b,o,none⟩/\b < w.heap.size/\∀ i,i < l.length->w.cell? ⟨b,o+i,none⟩=some (.int .u8 ((Gf.nth l i:Nat):Int))
theorem Seg.below {w w':World}{p:Option Addr}{l:List Nat}(h:Seg w p l)(hb:Below w.heap.size w w'):Seg w' p l:=by
 refine⟨h.lt,?_⟩
 rcases h.cells with h | ⟨b,o,hp,hlt,hc⟩
 ·exact Or.inl h
 ·exact Or.inr ⟨b,o,hp,Nat.lt_of_lt_of_le hlt hb.size,fun i hi=>(hb.cell (p:=⟨b,o+i,none⟩) hlt).trans (hc i hi)⟩
theorem sclone_any (t:ByteArray)(w:World)(ht:t.size<=140737488351232):Calls Tryz.prog 33 #[.string t] w fun e w'=>e=.returned (.string t)/\Below w.heap.size w w':=by
 have HC:Hid (∀ W,Calls Tryz.prog 55 #[.string t] W fun e w'=>e=.returned (.string t)/\Below W.heap.size W w'):=fun W=>Tryz.stringslite_Clone t W (by omega)
 go_enter Tryz.func33,Tryz.ntmps33
 go_wp2_with fail
 refine(HC.out _).mono ?_
 rintro e w1 ⟨rfl,hb1⟩
 have HB1:Hid (Below w.heap.size w w1):=hb1
 clear hb1
 go_wp2
 go_ret
 exact⟨rfl,HB1.out⟩
def shAt (l:List (Int×ByteArray))(i:Nat):Int×ByteArray:=l.getD i (0,⟨#[]⟩)
def Shs (w:World)(p:Option Addr)(l:List (Int×ByteArray)):Prop :=
 l=[]∨∃ b o,p=some ⟨b,o,none⟩/\b < w.heap.size/\∀ i,i < l.length->w.cell? ⟨b,o+i*2,none⟩=some (.int .i64 (shAt l i).1)/\w.cell? ⟨b,o+i*2+1,none⟩=some (.string (shAt l i).2)
theorem Shs.below {w w':World}{p:Option Addr}{l:List (Int×ByteArray)}(h:Shs w p l)(hb:Below w.heap.size w w'):Shs w' p l:=by
 rcases h with h | ⟨b,o,hp,hlt,hc⟩
 ·exact Or.inl h
 ·exact Or.inr ⟨b,o,hp,Nat.lt_of_lt_of_le hlt hb.size,fun i hi=>⟨(hb.cell (p:=⟨b,o+i*2,none⟩) hlt).trans (hc i hi).1,(hb.cell (p:=⟨b,o+i*2+1,none⟩) hlt).trans (hc i hi).2⟩⟩
def Mat (w:World)(p:Option Addr)(M:List (List Nat)):Prop :=
 M=[]∨∃ b o,p=some ⟨b,o,none⟩/\b < w.heap.size/\∀ i,i < M.length->∃ q c,w.cell? ⟨b,o+i,none⟩=some (.slice q (rowOf M i).length c)/\Seg w q (rowOf M i)/\(q=none->c=0)
theorem Mat.below {w w':World}{p:Option Addr}{M:List (List Nat)}(h:Mat w p M)(hb:Below w.heap.size w w'):Mat w' p M:=by
 rcases h with h | ⟨b,o,hp,hlt,hc⟩
 ·exact Or.inl h
 ·refine Or.inr ⟨b,o,hp,Nat.lt_of_lt_of_le hlt hb.size,fun i hi=>?_⟩
  obtain⟨q,c,h1,h2⟩:=hc i hi
  exact⟨q,c,(hb.cell (p:=⟨b,o+i,none⟩) hlt).trans h1,h2.1.below hb,h2.2⟩
theorem Mat.drewN {w:World}{p:Option Addr}{M:List (List Nat)}(h:Mat w p M)(n:Nat):Mat (w.drewN n) p M:=h.below (below_drewN (Below.refl _ _) n)
def IsMat (M:List (List Nat)):Prop:=1<=M.length/\M.length<=16/\∀ i,i < M.length->1<=(rowOf M i).length/\(rowOf M i).length<=16/\(rowOf M i).length=(rowOf M 0).length
theorem isSpread_yes (n k:Int)(w:World)(h1:1<=k)(h2:k<=n)(h3:n<=12):Calls Tryz.prog 53 #[.int .i64 n,.int .i64 k] w fun e w'=>e=.returned (.bool true)/\w'=w:=by
 go_enter Tryz.func53,Tryz.ntmps53
 go_wp2
 go_ret
 exact⟨ret_bool (by simp),rfl⟩
theorem isSpread_no (n k:Int)(w:World)(h:¬ (1<=k/\k<=n/\n<=12)):Calls Tryz.prog 53 #[.int .i64 n,.int .i64 k] w fun e w'=>e=.returned (.bool false)/\w'=w:=by
 by_cases h1:1<=k
 ·by_cases h2:k<=n
  ·have h3:¬ n<=12:=fun h3=>h ⟨h1,h2,h3⟩
   clear h
   go_enter Tryz.func53,Tryz.ntmps53
   go_wp2
   go_ret
   exact⟨ret_bool (by simp),rfl⟩
  ·clear h
   go_enter Tryz.func53,Tryz.ntmps53
   go_wp2
   go_ret
   exact⟨rfl,rfl⟩
 ·clear h
  go_enter Tryz.func53,Tryz.ntmps53
  go_wp2
  go_ret
  exact⟨rfl,rfl⟩
theorem conv_seg {w:World}{q:Option Addr}{l:List Nat}(h:Seg w q l)(c:Nat):(convert 138 9 (.slice q l.length c)).run Tryz.prog w=.ok (.string (strOf l)) w:=by
 rcases h.cells with hl | ⟨b,o,rfl,hb,hc⟩
 ·subst hl
  cases q with
  | none=>exact run_convert_bytes_nil w 138 5 Tryz.underlying138 Tryz.underlying5 0 c 9 Tryz.underlying9
  | some ad =>
   have hl:(loadCells ad 0).run Tryz.prog w=.ok (([]:List Int).map (Value.int .u8)).toArray w:=by simp [loadCells,loadCellsFrom]
   rw [List.length_nil,run_convert_bytes_string w 138 9 5 _ 0 c Tryz.underlying138 Tryz.underlying5 Tryz.underlying9,run_bytesToString w ad 0 c [] hl]
   rfl
 ·refine run_convert_bytes_arg w 138 5 Tryz.underlying138 Tryz.underlying5 b o l.length c (l.map Int.ofNat) (by simp) (fun i hi=>?_) 9 Tryz.underlying9
  rw [hc i hi,Gf.nth_getElem l i hi,List.getD_eq_getElem?_getD,List.getElem?_map,List.getElem?_eq_getElem hi]
  rfl
def bytesOf (s:ByteArray):List Nat:=s.data.toList.map UInt8.toNat
theorem bytesOf_lt (s:ByteArray):Gf.Bytes (bytesOf s):=fun i=>by
 by_cases hi:i < (bytesOf s).length
 ·rw [Gf.nth_getElem _ i hi]
  simp only [bytesOf,List.getElem_map]
  exact UInt8.toNat_lt _
 ·show(bytesOf s).getD i 0 < 256
  rw [List.getD_eq_getElem?_getD,List.getElem?_eq_none (by omega)]
  decide
theorem bytesOf_nth (s:ByteArray)(i:Nat)(h:i < s.size):Gf.nth (bytesOf s) i=(s[i]'h).toNat:=by
 rw [Gf.nth_getElem _ i (by simpa [bytesOf] using h)]
 simp only [bytesOf,List.getElem_map]
 rfl
theorem bytesOf_length (s:ByteArray):(bytesOf s).length=s.size:=by simp [bytesOf]
theorem strOf_size (l:List Nat):(strOf l).size=l.length:=by
 unfold strOf
 rw [strOfNums_size,List.length_map]
theorem run_idx (s:ByteArray)(i:Nat)(h:i < s.size)(W:World):Sem.run Tryz.prog (Instr.index 9 (.string s) (.int .i64 (i:Int))) W=.ok (.int .u8 ((Gf.nth (bytesOf s) i:Nat):Int)) W:=by
 rw [run_index_string W 9 s .i64 _ Tryz.underlying9,dif_pos ⟨by omega,by omega⟩,bytesOf_nth s i h]
 congr 3
theorem nth_ext {l m:List Nat}(hl:l.length=m.length)(h:∀ i,i < l.length->Gf.nth l i=Gf.nth m i):l=m:=by
 refine List.ext_getElem hl fun i h1 h2=>?_
 rw [<- Gf.nth_getElem l i h1,<- Gf.nth_getElem m i h2]
 exact h i h1
theorem nth_past {l:List Nat}{i:Nat}(h:l.length<=i):Gf.nth l i=0:=by
 show l.getD i 0=0
 rw [List.getD_eq_getElem?_getD,List.getElem?_eq_none h]
 rfl
theorem rbyte_any (n:Nat)(w:World) :
 Calls Tryz.prog 61 #[.int .i64 (n:Int)] w fun e w'=>e=.returned (.string (strOf [n % 256]))/\Below w.heap.size w w':=by
 have hcv:Sem.run Tryz.prog (convert 138 9 (.slice (some ⟨w.heap.size,0,none⟩) 1 1)) (w.alloc (.cells #[.int .u8 ((n:Int) % 256)] 5))=.ok (.string (strOf [n % 256])) (w.alloc (.cells #[.int .u8 ((n:Int) % 256)] 5)):=by
  have hsg:Seg (w.alloc (.cells #[.int .u8 ((n:Int) % 256)] 5)) (some ⟨w.heap.size,0,none⟩) [n % 256]:=⟨fun i=>by
   match i with
   | 0=>show n % 256 < 256;omega
   | i+1=>show(([n % 256]:List Nat).getD (i+1) 0) < 256;simp,Or.inr ⟨w.heap.size,0,rfl,by simp,fun i hi=>by
   obtain rfl:i=0:=by simpa using hi
   rw [World.cell?_alloc_at _ _ _ _ rfl]
   show some (Value.int .u8 ((n:Int) % 256))=some (.int .u8 ((n % 256:Nat):Int))
   rw [Int.natCast_emod]
   rfl⟩⟩
  exact conv_seg hsg 1
 go_enter Tryz.func61,Tryz.ntmps61
 go_wp2
 go_ret
 exact⟨rfl,(Below.refl _ _).alloc (Nat.le_refl _) _⟩
theorem below_digit (k:Nat)(hk:k < 10)(w:World):Calls Tryz.prog 39 #[.int .i64 (-(k:Int))] w fun e w'=>e=.returned (.string (strOf [48+k]))/\Below w.heap.size w w':=by
 have HB:Hid (∀ W,Calls Tryz.prog 61 #[.int .i64 (48+(k:Int))] W fun e w'=>e=.returned (.string (strOf [48+k]))/\Below W.heap.size W w'):=fun W=>by
  have h:=rbyte_any (48+k) W
  rw [Nat.mod_eq_of_lt (by omega)] at h
  exact h
 go_enter Tryz.func39,Tryz.ntmps39
 go_wp2_with fail
 refine(HB.out _).mono ?_
 rintro e w1 ⟨rfl,hb1⟩
 clear HB
 go_wp2
 go_ret
 exact⟨rfl,hb1⟩
theorem decimal_digit (k:Nat)(hk:k < 10)(w:World):Calls Tryz.prog 13 #[.int .i64 (k:Int)] w fun e w'=>e=.returned (.string (strOf [48+k]))/\Below w.heap.size w w':=by
 have HB:=below_digit k hk w
 go_enter Tryz.func13,Tryz.ntmps13
 go_wp2_with fail
 refine HB.mono ?_
 rintro e w1 ⟨rfl,hb1⟩
 clear HB
 go_wp2
 go_ret
 exact⟨rfl,hb1⟩
def wideN (k size:Nat):Nat:=(size+(k - 1)) / k
theorem wideN_lt {k size i:Nat}(hk:1<=k)(h:i*k < size):i < wideN k size:=by
 unfold wideN
 rw [Nat.lt_iff_add_one_le,Nat.le_div_iff_mul_le (by omega),Nat.add_mul]
 omega
theorem wideN_ge {k size i:Nat}(hk:1<=k)(h:¬ i*k < size):wideN k size<=i:=by
 unfold wideN
 rw [<- Nat.lt_add_one_iff,Nat.div_lt_iff_lt_mul (by omega),Nat.add_mul]
 omega
theorem wideN_le {k size:Nat}(hk:1<=k):wideN k size<=size:=wideN_ge hk (by
 have:size*1<=size*k:=Nat.mul_le_mul_left size hk
 omega)
theorem rwide_any (k size:Nat)(w:World)(hk:1<=k)(hk2:k<=1000)(hs:size<=1000000) :
 Calls Tryz.prog 89 #[.int .i64 (k:Int),.int .i64 (size:Int)] w fun e w'=>e=.returned (.int .i64 ((wideN k size:Nat):Int))/\w'=w:=by
 have hle:=wideN_le (size:=size) hk
 go_enter Tryz.func89,Tryz.ntmps89
 go_wp2
 go_loop [5] (fun x=>∃ i:Nat,i<=wideN k size/\x=.int .i64 i) (fun x=>wideN k size - (intOf x).toNat)
 case atStart=>exact⟨0,Nat.zero_le _,rfl⟩
 case round =>
  obtain⟨i,hi,rfl⟩:=hrel
  have hb:i*k<=1000000*1000:=Nat.mul_le_mul (by omega) hk2
  have hp0:(0:Int)<=(i:Int)*(k:Int):=by rw [<- Int.natCast_mul];omega
  have hp1:(i:Int)*(k:Int)<=1000000000:=by rw [<- Int.natCast_mul];omega
  by_cases hlt:i*k < size
  ·have h1:=wideN_lt hk hlt
   have h2:(i:Int)*(k:Int) < (size:Int):=by rw [<- Int.natCast_mul];omega
   clear hlt hb
   go_wp2
   go_round
   case rel=>exact⟨i+1,by omega,by go_num⟩
   case measure=>simp [intOf];omega
  ·have h1:=wideN_ge hk hlt
   have h2:¬ (i:Int)*(k:Int) < (size:Int):=by rw [<- Int.natCast_mul];omega
   obtain rfl:i=wideN k size:=by omega
   clear hlt hb
   go_wp2
   go_ret
   exact⟨rfl,rfl⟩
end Go.Proofs.YtmhoiodfppdlnaaGreatDoor
namespace Go.Proofs.YtmhoiodfppdlnaaGreatDoor
open Go.RowKit Go.Shelf
theorem itoa_any (n:Int) (h0:-9223372036854775808<=n) (h1:n<=9223372036854775807) (w:World) (htab:Lib.TabIs Tryz.prog w "internal/strconv.uint64pow10" .u64 Lib.pow10Tab) :
 Calls Tryz.prog 56 #[.int .i64 n] w fun e w'=>e=.returned (.string ⟨(Lib.itoa n).toArray⟩)/\Below w.heap.size w w':=(Any.strconv_Itoa Tryz.laysM171 n h0 h1 w htab).mono fun e w' hq=>by
 obtain⟨h1,k,os,h2⟩:=hq
 refine⟨h1,?_⟩
 subst h2
 exact⟨rfl,rfl,rfl,by show w.heap.size<=(w.heap ++ os).size;rw [Array.size_append];omega,fun j hj=>by show(w.heap ++ os)[j]?=_;rw [Array.getElem?_append_left hj]⟩
theorem decDigits_le:∀ (k u:Nat),u < 10 ^ (k+1)->(Lib.decDigits u).length<=k+1
 | 0,u,h=>by
  rw [Lib.decDigits,dif_pos (by simpa using h)]
  simp
 | k+1,u,h=>by
  rw [Lib.decDigits]
  split
  ·simp
  ·have:=decDigits_le k (u / 10) (by rw [Nat.pow_succ] at h;omega)
   rw [List.length_append,List.length_singleton]
   omega
theorem itoa_le (n:Int)(h0:-9223372036854775808<=n)(h1:n<=9223372036854775807):(⟨(Lib.itoa n).toArray⟩:ByteArray).size<=30:=by
 show(Lib.itoa n).length<=30
 unfold Lib.itoa
 split
 ·have:=decDigits_le 19 n.natAbs (by omega)
  rw [List.length_cons]
  omega
 ·have:=decDigits_le 19 n.toNat (by omega)
  omega
theorem TabIs.old {w w':World} (h:Lib.TabIs Tryz.prog w "internal/strconv.uint64pow10" .u64 Lib.pow10Tab) (hb:∀ k,k < w.heap.size->w'.heap[k]?=w.heap[k]?):Lib.TabIs Tryz.prog w' "internal/strconv.uint64pow10" .u64 Lib.pow10Tab:=by
 unfold Lib.TabIs World.var? at *
 cases hg:Tryz.prog.globalNamed "internal/strconv.uint64pow10" with
 | none=>rw [hg] at h;cases h
 | some g =>
  rw [hg] at h
  simp only [Option.bind_some] at h ⊢
  have hlt:g < w.heap.size:=by
   rcases Nat.lt_or_ge g w.heap.size with h' | h'
   ·exact h'
   ·rw [Array.getElem?_eq_none h'] at h;cases h
  rw [hb g hlt]
  exact h
end Go.Proofs.YtmhoiodfppdlnaaGreatDoor
namespace Go.Proofs.YtmhoiodfppdlnaaGreatDoor
open Go.ChangeShapes Go.WideShapes Go.RowKit
theorem tab_split:Rows.askHearsRow.laid.take 3=Rows.askHearsRow.laid.take 2 ++ [("internal/strconv.uint64pow10",Lib.tabData .u64 Lib.pow10Tab)]:=by kernel_rfl
theorem pow10_of_laid {W:World} (h:laidMetH Tryz.prog Rows.askHearsRow.laid W):Lib.TabIs Tryz.prog W "internal/strconv.uint64pow10" .u64 Lib.pow10Tab:=by
 rw [laid_split] at h
 obtain⟨h1,_⟩:=h
 rw [tab_split] at h1
 have e:∃ x0 x1,Rows.askHearsRow.laid.take 2=[x0,x1]:=⟨_,_,rfl⟩
 obtain⟨x0,x1,e⟩:=e
 rw [e] at h1
 simp only [List.cons_append,List.nil_append] at h1
 exact Lib.tabIs_of_head (g:=13) (t:=233) (e:=213) (n:=20) (by kernel_rfl) (by kernel_rfl) Tryz.underlying233 Tryz.underlying213 (by kernel_rfl) (by kernel_rfl) h1.tail.tail
end Go.Proofs.YtmhoiodfppdlnaaGreatDoor
namespace Go.Proofs.YtmhoiodfppdlnaaGreatDoor
open Go.RowKit
def txt (l:List ByteArray)(i:Nat):ByteArray:=l.getD i ⟨#[]⟩
theorem txt_getElem (l:List ByteArray)(i:Nat)(h:i < l.length):txt l i=l[i]:=by
 unfold txt
 rw [List.getD_eq_getElem?_getD,List.getElem?_eq_getElem h]
 rfl
theorem txt_mem {l:List ByteArray}{i:Nat}(h:i < l.length):txt l i ∈ l:=by
 rw [txt_getElem l i h]
 exact List.getElem_mem h
theorem txt_of_mem {l:List ByteArray}{x:ByteArray}(h:x ∈ l):∃ i,i < l.length/\txt l i=x:=by
 obtain⟨i,hi,e⟩:=List.getElem_of_mem h
 exact⟨i,hi,by rw [txt_getElem l i hi,e]⟩
theorem txt_take {l:List ByteArray}{i j:Nat}(h:j < i):txt (l.take i) j=txt l j:=by
 unfold txt
 rw [List.getD_eq_getElem?_getD,List.getD_eq_getElem?_getD,List.getElem?_take_of_lt h]
def Strs (w:World)(p:Option Addr)(l:List ByteArray):Prop :=
 l=[]∨∃ b o,p=some ⟨b,o,none⟩/\b < w.heap.size/\∀ i,i < l.length->w.cell? ⟨b,o+i,none⟩=some (.string (txt l i))
theorem Strs.drewN {w:World}{p:Option Addr}{l:List ByteArray}(h:Strs w p l)(n:Nat):Strs (w.drewN n) p l:=h
theorem Strs.below {w w':World}{p:Option Addr}{l:List ByteArray}(h:Strs w p l)(hb:Below w.heap.size w w'):Strs w' p l:=by
 rcases h with h | ⟨b,o,hp,hlt,hc⟩
 ·exact Or.inl h
 ·exact Or.inr ⟨b,o,hp,Nat.lt_of_lt_of_le hlt hb.size,fun i hi=>(hb.cell (p:=⟨b,o+i,none⟩) hlt).trans (hc i hi)⟩
theorem Strs.belowAt {w w':World}{p:Option Addr}{l:List ByteArray}{B:Nat}(h:Strs w p l)(hb:Below B w w')(hB:∀ b o,p=some ⟨b,o,none⟩->b < B):Strs w' p l:=by
 rcases h with h | ⟨b,o,hp,hlt,hc⟩
 ·exact Or.inl h
 ·exact Or.inr ⟨b,o,hp,Nat.lt_of_lt_of_le hlt hb.size,fun i hi=>(hb.cell (p:=⟨b,o+i,none⟩) (hB b o hp)).trans (hc i hi)⟩
theorem Strs.take {w:World}{p:Option Addr}{l:List ByteArray}(h:Strs w p l)(i:Nat):Strs w p (l.take i):=by
 rcases h with h | ⟨b,o,hp,hlt,hc⟩
 ·exact Or.inl (by rw [h,List.take_nil])
 ·refine Or.inr ⟨b,o,hp,hlt,fun j hj=>?_⟩
  rw [List.length_take] at hj
  rw [hc j (by omega),txt_take (by omega)]
theorem toList_ne {a b:ByteArray}(h:a≠b):¬ a.toList=b.toList:=fun e=>h (by
 rw [ByteArray.toList_eq,ByteArray.toList_eq] at e
 exact ByteArray.ext (Array.toList_inj.1 e))
theorem toList_beq {a b:ByteArray}(h:a≠b):(a.toList==b.toList)=false:=by simpa using toList_ne h
theorem bytes_beq {a b:ByteArray}(h:a≠b):(a==b)=false:=by rw [beq_toListBytes];exact toList_beq h
structure Ver where
 n:Int
 who:Int
 size:Int
 at_:Int
 text:ByteArray
deriving DecidableEq
def verC (v:Ver):List Value:=[.int .i64 v.n,.int .i64 v.who,.int .i64 v.size,.int .i64 v.at_,.string v.text]
def verE:Enc Ver:=⟨5,by decide,verC,fun _=>rfl,fun x u hu=>by simp [verC] at hu;rcases hu with rfl | rfl | rfl | rfl | rfl <;> rfl⟩
theorem lt_of_cellH {w:World}{b o:Nat}{v:Value}(h:w.cell? ⟨b,o,none⟩=some v):b < w.heap.size:=by
 rcases Nat.lt_or_ge b w.heap.size with h' | h'
 ·exact h'
 ·simp [World.cell?,Array.getElem?_eq_none h'] at h
structure Msg where
 from_:ByteArray
 to_:ByteArray
 kind:ByteArray
 key:ByteArray
 op:Int
 config:Int
 shut:Bool
 L:List Ver
def msgA (m:Msg)(lv:Value):Value:=.agg #[.string m.from_,.string m.to_,.string m.kind,.string m.key,.int .i64 m.op,.int .i64 m.config,.bool m.shut,lv]
theorem add_any (a b:Nat)(w:World)(ha:a < 256)(hb:b < 256) :
 Calls Tryz.prog 146 #[.int .u8 (a:Int),.int .u8 (b:Int)] w fun e w'=>e=.returned (.int .u8 ((a ^^^ b:Nat):Int))/\w'=w:=by
 go_enter Tryz.func146,Tryz.ntmps146
 go_wp2
 go_ret
 exact⟨ret_int (u8_xor_nat a b ha hb),rfl⟩
theorem tx_any (a:Nat)(w:World)(ha:a < 256)  :
 Calls Tryz.prog 166 #[.int .u8 (a:Int)] w fun e w'=>e=.returned (.int .u8 ((Gf.tx a:Nat):Int))/\w'=w:=by
 by_cases h:a < 128
 ·go_enter Tryz.func166,Tryz.ntmps166
  go_wp2
  go_ret
  exact⟨ret_int (by simp [Gf.tx,h]),rfl⟩
 ·go_enter Tryz.func166,Tryz.ntmps166
  go_wp2_with fail
  have e:((a:Int)*2 % 256)=((a*2 - 256:Nat):Int):=by omega
  rw [e]
  refine(add_any (a*2 - 256) 29 _ (by omega) (by decide)).mono ?_
  rintro e w' ⟨rfl,rfl⟩
  go_wp2
  go_ret
  exact⟨ret_int (by simp [Gf.tx,h]),rfl⟩
theorem mul_any (a b:Nat)(w:World)(ha:a < 256)(hb:b < 256) :
 Calls Tryz.prog 147 #[.int .u8 (a:Int),.int .u8 (b:Int)] w fun e w'=>e=.returned (.int .u8 ((Gf.mul a b:Nat):Int))/\w'=w:=by
 go_enter Tryz.func147,Tryz.ntmps147
 go_wp2
 go_loop [0,5,7] (fun x p i=>∃ k:Nat,k<=8/\i=.int .i64 k/\x=.int .u8 (Gf.txn a k:Nat)/\p=.int .u8 (Gf.part a b k:Nat)) (fun _ _ i=>8 - (intOf i).toNat)
 case atStart=>exact⟨0,by omega,rfl,rfl,rfl⟩
 case round =>
  obtain⟨k,hk,rfl,rfl,rfl⟩:=hrel
  have htx:=Gf.txn_lt ha k
  have hpt:=Gf.part_lt ha b k
  have hbt:=bit_test b k hb
  by_cases hlt:k < 8
  ·by_cases hbit:Gf.bitOf b k=1
   ·have HP:Hid (Gf.part a b (k+1)=Gf.part a b k ^^^ Gf.txn a k):=by show _=_;simp [Gf.part,hbit]
    rw [decide_eq_true hbit] at hbt
    clear hbit
    go_wp2_with (first | (go_at_call 146;refine(add_any _ _ _ hpt htx).mono ?_;rintro e w' ⟨rfl,rfl⟩) | (go_at_call 166;refine(tx_any _ _ htx).mono ?_;rintro e w' ⟨rfl,rfl⟩))
    go_round
    case rel=>exact⟨k+1,by omega,by go_num,rfl,by rw [HP.out]⟩
    case measure=>simp [intOf];omega
   ·have HP:Hid (Gf.part a b (k+1)=Gf.part a b k):=by show _=_;simp [Gf.part,hbit]
    rw [decide_eq_false hbit] at hbt
    clear hbit
    go_wp2_with (first | (go_at_call 146;refine(add_any _ _ _ hpt htx).mono ?_;rintro e w' ⟨rfl,rfl⟩) | (go_at_call 166;refine(tx_any _ _ htx).mono ?_;rintro e w' ⟨rfl,rfl⟩))
    go_round
    case rel=>exact⟨k+1,by omega,by go_num,rfl,by rw [HP.out]⟩
    case measure=>simp [intOf];omega
  ·go_wp2
   go_ret
   have hk8:k=8:=by omega
   subst hk8
   exact⟨rfl,rfl⟩
theorem power_any (a n:Nat)(w:World)(ha:a < 256)(hn:n < 256) :
 Calls Tryz.prog 181 #[.int .u8 (a:Int),.int .i64 (n:Int)] w fun e w'=>e=.returned (.int .u8 ((Gf.power a n:Nat):Int))/\w'=w:=by
 go_enter Tryz.func181,Tryz.ntmps181
 go_wp2
 go_loop [0,5,7] (fun x p i=>∃ k:Nat,k<=8/\i=.int .i64 k/\x=.int .u8 (Gf.sq a k:Nat)/\p=.int .u8 (Gf.pw a n k:Nat)) (fun _ _ i=>8 - (intOf i).toNat)
 case atStart=>exact⟨0,by omega,rfl,rfl,rfl⟩
 case round =>
  obtain⟨k,hk,rfl,rfl,rfl⟩:=hrel
  have htx:=Gf.sq_lt ha k
  have hpt:=Gf.pw_lt (a:=a) n k
  have hbt:=bit_test64 n k hn
  by_cases hlt:k < 8
  ·by_cases hbit:Gf.bitOf n k=1
   ·have HP:Hid (Gf.pw a n (k+1)=Gf.mul (Gf.pw a n k) (Gf.sq a k)):=by show _=_;simp [Gf.pw,hbit]
    rw [decide_eq_true hbit] at hbt
    clear hbit
    go_wp2_with fail
    refine(mul_any _ _ _ hpt htx).mono ?_
    rintro e w' ⟨rfl,rfl⟩
    go_wp2_with fail
    refine(mul_any _ _ _ htx htx).mono ?_
    rintro e w' ⟨rfl,rfl⟩
    go_wp2
    go_round
    case rel=>exact⟨k+1,by omega,by go_num,rfl,by rw [HP.out]⟩
    case measure=>simp [intOf];omega
   ·have HP:Hid (Gf.pw a n (k+1)=Gf.pw a n k):=by show _=_;simp [Gf.pw,hbit]
    rw [decide_eq_false hbit] at hbt
    clear hbit
    go_wp2_with fail
    refine(mul_any _ _ _ htx htx).mono ?_
    rintro e w' ⟨rfl,rfl⟩
    go_wp2
    go_round
    case rel=>exact⟨k+1,by omega,by go_num,rfl,by rw [HP.out]⟩
    case measure=>simp [intOf];omega
  ·go_wp2
   go_ret
   have hk8:k=8:=by omega
   subst hk8
   exact⟨rfl,rfl⟩
theorem inverse_any (a:Nat)(w:World)(ha:a < 256) :
 Calls Tryz.prog 183 #[.int .u8 (a:Int)] w fun e w'=>e=.returned (.int .u8 ((Gf.inv a:Nat):Int))/\w'=w:=by
 go_enter Tryz.func183,Tryz.ntmps183
 go_wp2_with fail
 refine(power_any a 254 _ ha (by decide)).mono ?_
 rintro e w' ⟨rfl,rfl⟩
 go_wp2
 go_ret
 exact⟨rfl,rfl⟩
theorem within_any (n:Int)(w:World) :
 Calls Tryz.prog 182 #[.int .i64 n] w fun e w'=>e=.returned (.int .i64 ((red n:Nat):Int))/\w'=w:=by
 have HR:Hid (((red n:Nat):Int)=n % 255):=red_cast n
 by_cases h0:0<=n
 ·go_enter Tryz.func182,Tryz.ntmps182
  go_wp2
  go_ret
  exact⟨ret_int HR.out.symm,rfl⟩
 ·have HT:Hid (n.tmod 255=-((-n) % 255)):=by show _=_;rw [tmod_neg,Int.tmod_eq_emod_of_nonneg (by omega)]
  have hb1:-255 < n.tmod 255:=by rw [HT.out];omega
  have hb2:n.tmod 255<=0:=by rw [HT.out];omega
  go_enter Tryz.func182,Tryz.ntmps182
  go_wp2
  ·go_ret
   exact⟨ret_int (by have:=HT.out;have:=HR.out;omega),rfl⟩
  ·go_ret
   exact⟨ret_int (by have:=HT.out;have:=HR.out;omega),rfl⟩
theorem pow_zero_pos (n:Int)(w:World)(hn:0 < n) :
 Calls Tryz.prog 172 #[.int .u8 0,.int .i64 n] w fun e w'=>e=.returned (.tuple #[.int .u8 0,.nilIface])/\w'=w:=by
 go_enter Tryz.func172,Tryz.ntmps172
 go_wp2
 go_ret2
 exact⟨rfl,rfl⟩
theorem pow_reg (a:Nat)(n:Int)(w:World)(ha:a < 256)(h:a=0->n=0) :
 Calls Tryz.prog 172 #[.int .u8 (a:Int),.int .i64 n] w fun e w'=>e=.returned (.tuple #[.int .u8 (Gf.power a (red n):Nat),.nilIface])/\w'=w:=by
 have hr:=red_lt n
 by_cases h0:a=0
 ·obtain rfl:=h h0
  subst h0
  clear h
  go_enter Tryz.func172,Tryz.ntmps172
  go_wp2_with (first | (go_at_call 182;refine(within_any 0 _).mono ?_;rintro e w' ⟨rfl,rfl⟩) | (go_at_call 181;refine(power_any 0 (red 0) _ (by decide) (by omega)).mono ?_;rintro e w' ⟨rfl,rfl⟩))
  go_ret2
  exact⟨rfl,rfl⟩
 ·have h1:((a:Int)==0)=false:=by simpa using h0
  clear h h0
  go_enter Tryz.func172,Tryz.ntmps172
  go_wp2_with (first | (go_at_call 182;refine(within_any n _).mono ?_;rintro e w' ⟨rfl,rfl⟩) | (go_at_call 181;refine(power_any a (red n) _ ha (by omega)).mono ?_;rintro e w' ⟨rfl,rfl⟩))
  go_ret2
  exact⟨rfl,rfl⟩
theorem inv_zero (z:Addr)(w:World)(hz:w.cell? ⟨11,0,none⟩=some (.iface 252 (.pointer (some z)))) :
 Calls Tryz.prog 176 #[.int .u8 0] w fun e w'=>e=.returned (.tuple #[.int .u8 0,.iface 252 (.pointer (some z))])/\Below w.heap.size w w':=by
 go_enter Tryz.func176,Tryz.ntmps176
 go_wp2
 go_quiet (fail)
 go_wp2
 go_ret2
 exact⟨rfl,below_drewN (Below.refl _ _) _⟩
theorem inv_any (a:Nat)(w:World)(ha:a < 256)(h0:a≠0) :
 Calls Tryz.prog 176 #[.int .u8 (a:Int)] w fun e w'=>e=.returned (.tuple #[.int .u8 (Gf.inv a:Nat),.nilIface])/\w'=w:=by
 have h1:((a:Int)==0)=false:=by simpa using h0
 clear h0
 go_enter Tryz.func176,Tryz.ntmps176
 go_wp2_with (go_at_call 183;refine(inverse_any a _ ha).mono ?_;rintro e w' ⟨rfl,rfl⟩)
 go_ret2
 exact⟨rfl,rfl⟩
def Asks (w:World)(fn:FuncId)(caps:Array Value)(l:List (Int×ByteArray))(P:Int×ByteArray->Bool):Prop :=
 ∀ i,i < l.length->∀ w1,Below w.heap.size w w1->Calls Tryz.prog fn (#[.agg #[.int .i64 (shAt l i).1,.string (shAt l i).2]] ++ caps) w1 fun e w2=>e=.returned (.bool (P (shAt l i)))/\Below w1.heap.size w1 w2
theorem shAt_mem {l:List (Int×ByteArray)}{i:Nat}(h:i < l.length):shAt l i ∈ l:=by
 unfold shAt
 rw [List.getD_eq_getElem?_getD,List.getElem?_eq_getElem h]
 exact List.getElem_mem h
theorem mem_shAt {l:List (Int×ByteArray)}{x:Int×ByteArray}(h:x ∈ l):∃ i,i < l.length/\shAt l i=x:=by
 obtain⟨i,hi,rfl⟩:=List.getElem_of_mem h
 refine⟨i,hi,?_⟩
 unfold shAt
 rw [List.getD_eq_getElem?_getD,List.getElem?_eq_getElem hi]
 rfl
theorem any_of_at {l:List (Int×ByteArray)}{P:Int×ByteArray->Bool}{i:Nat}(h:i < l.length)(hp:P (shAt l i)=true):l.any P=true:=List.any_eq_true.2 ⟨_,shAt_mem h,hp⟩
theorem none_of_at {l:List (Int×ByteArray)}{P:Int×ByteArray->Bool}(h:∀ i,i < l.length->P (shAt l i)=false):l.any P=false:=by
 rw [List.any_eq_false]
 intro x hx
 obtain⟨i,hi,rfl⟩:=mem_shAt hx
 rw [h i hi]
 decide
theorem index_any (p:Option Addr)(l:List (Int×ByteArray))(cap:Nat)(fn:FuncId)(caps:Array Value)(P:Int×ByteArray->Bool)(w:World)(hl:l.length<=100000)(hs:Shs w p l)
 (hent:∀ args W,Sem.run Tryz.prog (callFunc fn args) W=.ok (.enter fn args) W) (hc:Asks w fn caps l P) :
 Calls Tryz.prog 138 #[.slice p l.length cap,.func (.func fn) #[] caps] w fun e w'=>(∃ r:Int,e=.returned (.int .i64 r)/\(0<=r/\l.any P=true∨r=-1/\l.any P=false))/\Below w.heap.size w w':=by
 have HS:Hid (Shs w p l):=hs
 have HC:Hid (Asks w fn caps l P):=hc
 clear hs hc
 go_enter Tryz.func138,Tryz.ntmps138
 go_wp2
 go_loopw [8] (fun x wr=>∃ i:Nat,i<=l.length/\x=.int .i64 i/\(∀ j,j < i->P (shAt l j)=false)/\Below w.heap.size w wr) (fun x _=>l.length - (intOf x).toNat)
 case atStart=>exact⟨0,by omega,rfl,fun j hj=>absurd hj (Nat.not_lt_zero _),Below.refl _ _⟩
 case round =>
  obtain⟨i,hi,rfl,hall,hB⟩:=hrel
  have HALL:Hid (∀ j,j < i->P (shAt l j)=false):=hall
  have HB:Hid (Below w.heap.size w wr):=hB
  clear hall hB
  by_cases hil:i < l.length
  ·rcases(HS.out.below HB.out) with h0 | ⟨b1,o1,rfl,_,hc1⟩
   ·rw [h0] at hil;simp at hil
   obtain⟨q1,q2⟩:=hc1 i hil
   have HX:=HC.out i hil wr HB.out
   clear hc1
   have HPX:Hid (∀ v,P (shAt l i)=v->v=P (shAt l i)):=fun v h=>h.symm
   by_cases hp:P (shAt l i)=true
   ·have HA:Hid (l.any P=true):=any_of_at hil hp
    rw [hp] at HX
    clear hp HPX
    generalize (shAt l i).1=x at q1 HX
    generalize (shAt l i).2=t at q2 HX
    go_wp2_with fail
    refine HX.mono ?_
    rintro e w2 ⟨rfl,hb2⟩
    clear HX
    go_wp2
    go_ret
    exact⟨⟨(i:Int),rfl,Or.inl ⟨by omega,HA.out⟩⟩,HB.out.trans (hb2.mono HB.out.size)⟩
   ·have hpf:P (shAt l i)=false:=by simpa using hp
    have HPF:Hid (P (shAt l i)=false):=hpf
    rw [hpf] at HX
    clear hp hpf HPX
    generalize (shAt l i).1=x at q1 HX
    generalize (shAt l i).2=t at q2 HX
    go_wp2_with fail
    refine HX.mono ?_
    rintro e w2 ⟨rfl,hb2⟩
    have HB2:Hid (Below w.heap.size w w2):=HB.out.trans (hb2.mono HB.out.size)
    clear HX hb2 q1 q2
    go_wp2
    go_roundw
    case rel =>
     refine⟨i+1,by omega,by go_num,fun j hj=>?_,HB2.out⟩
     by_cases e:j=i
     ·rw [e];exact HPF.out
     ·exact HALL.out j (by omega)
    case measure=>simp [intOf];omega
  ·have HN:Hid (l.any P=false):=none_of_at fun j hj=>HALL.out j (by omega)
   go_wp2
   go_ret
   exact⟨⟨-1,rfl,Or.inr ⟨rfl,HN.out⟩⟩,HB.out⟩
theorem contains_any (p:Option Addr)(l:List (Int×ByteArray))(cap:Nat)(fn:FuncId)(caps:Array Value)(P:Int×ByteArray->Bool)(w:World)(hl:l.length<=100000)(hs:Shs w p l)
 (hent:∀ args W,Sem.run Tryz.prog (callFunc fn args) W=.ok (.enter fn args) W) (hc:Asks w fn caps l P) :
 Calls Tryz.prog 111 #[.slice p l.length cap,.func (.func fn) #[] caps] w fun e w'=>e=.returned (.bool (l.any P))/\Below w.heap.size w w':=by
 have HI:=index_any p l cap fn caps P w hl hs hent hc
 clear hs hc hent
 go_enter Tryz.func111,Tryz.ntmps111
 go_wp2_with fail
 refine HI.mono ?_
 rintro e w1 ⟨⟨r,rfl,hr⟩,hb⟩
 clear HI
 rcases hr with ⟨hr,ha⟩ | ⟨hr,ha⟩
 ·have HA:Hid (l.any P=true):=ha
  clear ha
  go_wp2
  go_ret
  exact⟨ret_bool (by rw [HA.out]),hb⟩
 ·have HA:Hid (l.any P=false):=ha
  subst hr
  clear ha
  go_wp2
  go_ret
  exact⟨ret_bool (by rw [HA.out]),hb⟩
def idxN (l:List ByteArray)(s:ByteArray):Nat:=l.findIdx fun x=>decide (x=s)
theorem idxN_eq {l:List ByteArray}{s:ByteArray}{i:Nat}(hi:i < l.length)(h:txt l i=s)(hall:∀ j,j < i->txt l j≠s):idxN l s=i:=by
 unfold idxN
 rw [List.findIdx_eq hi]
 refine⟨decide_eq_true (by rw [<- txt_getElem l i hi];exact h),fun j hj=>decide_eq_false ?_⟩
 rw [<- txt_getElem l j (by omega)]
 exact hall j hj
def letterB (c:Nat):Bool:=decide (97<=c/\c<=122) || decide (48<=c/\c<=57) || decide (c=45)
def isN (s:ByteArray):Bool:=decide (1<=s.size/\s.size<=16) && (bytesOf s).all letterB
theorem isN_size {s:ByteArray}(h:isN s=true):1<=s.size/\s.size<=16:=by
 unfold isN at h
 rw [Bool.and_eq_true] at h
 exact of_decide_eq_true h.1
theorem isN_all {s:ByteArray}(h1:1<=s.size)(h2:s.size<=16)(h:∀ j,j < s.size->letterB (Gf.nth (bytesOf s) j)=true):isN s=true:=by
 unfold isN
 rw [decide_eq_true ⟨h1,h2⟩,Bool.true_and,List.all_eq_true]
 intro x hx
 obtain⟨j,hj,rfl⟩:=List.getElem_of_mem hx
 rw [<- Gf.nth_getElem _ j hj]
 exact h j (by rw [bytesOf_length] at hj;exact hj)
theorem isN_one {s:ByteArray}{j:Nat}(hj:j < s.size)(h:letterB (Gf.nth (bytesOf s) j)=false):isN s=false:=by
 unfold isN
 rw [Bool.and_eq_false_iff]
 refine Or.inr (List.all_eq_false.2 ⟨Gf.nth (bytesOf s) j,?_,by rw [h];decide⟩)
 have hj':j < (bytesOf s).length:=by rw [bytesOf_length];exact hj
 rw [Gf.nth_getElem _ j hj']
 exact List.getElem_mem hj'
theorem isN_len {s:ByteArray}(h:¬ (1<=s.size/\s.size<=16)):isN s=false:=by
 unfold isN
 rw [decide_eq_false h,Bool.false_and]
def inL (l:List ByteArray)(x:ByteArray):Bool:=l.any fun y=>decide (y=x)
theorem inL_iff {l:List ByteArray}{x:ByteArray}:inL l x=true↔x ∈ l:=by
 unfold inL
 rw [List.any_eq_true]
 exact⟨fun⟨y,hy,e⟩=>by rw [<- of_decide_eq_true e];exact hy,fun h=>⟨x,h,decide_eq_true rfl⟩⟩
def faultAt (l:List ByteArray)(i:Nat):Nat:=if isN (txt l i) then (if inL (l.take i) (txt l i) then 6 else 0) else 4
theorem faultAt_name {l:List ByteArray}{i:Nat}(h:isN (txt l i)=false):faultAt l i=4:=by
 unfold faultAt
 rw [h,if_neg (by decide)]
theorem faultAt_twice {l:List ByteArray}{i:Nat}(h:isN (txt l i)=true)(h2:txt l i ∈ l.take i):faultAt l i=6:=by
 unfold faultAt
 rw [if_pos h,if_pos (inL_iff.2 h2)]
theorem faultAt_fine {l:List ByteArray}{i:Nat}(h:isN (txt l i)=true)(h2:txt l i ∉ l.take i):faultAt l i=0:=by
 unfold faultAt
 rw [if_pos h,if_neg (fun h3=>h2 (inL_iff.1 h3))]
def scanF (l:List ByteArray):Nat->Nat->Int×Int
 | _,0=>(0,-1)
 | i,m+1=>if faultAt l i=0 then scanF l (i+1) m else ((faultAt l i:Nat),(i:Nat))
def nodesF (l:List ByteArray):Int×Int:=if l.length < 1∨16 < l.length then (2,-1) else scanF l 0 l.length
theorem nodesF_bound {l:List ByteArray}(h:l.length < 1∨16 < l.length):nodesF l=(2,-1):=if_pos h
theorem nodesF_scan {l:List ByteArray}(h1:¬ l.length < 1)(h2:¬ 16 < l.length):nodesF l=scanF l 0 l.length:=if_neg (by omega)
theorem scanF_fine {l:List ByteArray}:∀ (m i:Nat),scanF l i m=(0,-1)->∀ j,i<=j->j < i+m->faultAt l j=0
 | 0,i,_,j,h1,h2=>by omega
 | m+1,i,h,j,h1,h2=>by
  have h':(if faultAt l i=0 then scanF l (i+1) m else (((faultAt l i:Nat):Int),(i:Int)))=(0,-1):=h
  by_cases e:faultAt l i=0
  ·rw [if_pos e] at h'
   by_cases e2:j=i
   ·rw [e2];exact e
   ·exact scanF_fine m (i+1) h' j (by omega) (by omega)
  ·rw [if_neg e] at h'
   have h3:=congrArg Prod.fst h'
   have h4:((faultAt l i:Nat):Int)=0:=h3
   omega
theorem scanF_zero {l:List ByteArray}:∀ (m i:Nat),(scanF l i m).1<=0->scanF l i m=(0,-1)
 | 0,_,_=>rfl
 | m+1,i,h=>by
  show(if faultAt l i=0 then scanF l (i+1) m else (((faultAt l i:Nat):Int),(i:Int)))=(0,-1)
  have h':(if faultAt l i=0 then scanF l (i+1) m else (((faultAt l i:Nat):Int),(i:Int))).1<=0:=h
  by_cases e:faultAt l i=0
  ·rw [if_pos e] at h' ⊢
   exact scanF_zero m (i+1) h'
  ·rw [if_neg e] at h'
   have h4:((faultAt l i:Nat):Int)<=0:=h'
   omega
theorem nodesF_zero {l:List ByteArray}(h:(nodesF l).1<=0):nodesF l=(0,-1)/\1<=l.length/\l.length<=16:=by
 by_cases hb:l.length < 1∨16 < l.length
 ·rw [nodesF_bound hb] at h
  exact absurd h (by decide)
 ·have h1:nodesF l=scanF l 0 l.length:=if_neg hb
  rw [h1] at h ⊢
  exact⟨scanF_zero _ _ h,by omega,by omega⟩
theorem nodesF_fine {l:List ByteArray}(h:(nodesF l).1<=0):(∀ x ∈ l,isN x=true)/\l.Nodup:=by
 obtain⟨h0,h1,h2⟩:=nodesF_zero h
 rw [nodesF_scan (by omega) (by omega)] at h0
 have hf:=scanF_fine l.length 0 h0
 have key:∀ j,j < l.length->isN (txt l j)=true/\txt l j ∉ l.take j:=fun j hj=>by
  have:=hf j (Nat.zero_le _) (by omega)
  unfold faultAt at this
  by_cases e:isN (txt l j)=true
  ·rw [if_pos e] at this
   refine⟨e,fun h3=>?_⟩
   rw [if_pos (inL_iff.2 h3)] at this
   omega
  ·rw [if_neg e] at this
   omega
 refine⟨fun x hx=>?_,?_⟩
 ·obtain⟨j,hj,rfl⟩:=txt_of_mem hx
  exact(key j hj).1
 ·rw [List.nodup_iff_pairwise_ne,List.pairwise_iff_getElem]
  intro i j hi hj hij e
  refine(key j hj).2 ?_
  rw [txt_getElem l j hj,<- e,List.mem_take_iff_getElem]
  exact⟨i,by omega,rfl⟩
end Go.Proofs.YtmhoiodfppdlnaaGreatDoor
namespace Go.Proofs.YtmhoiodfppdlnaaGreatDoor
structure Cfg where
 n:Int
 k:Int
 L:List ByteArray
def cfgF (c:Cfg):Int×Int:=if 1<=c.k/\c.k<=c.n/\c.n<=12 then (if (c.L.length:Int)=c.n then nodesF c.L else (3,-1)) else (2,-1)
theorem cfgF_bound {c:Cfg}(h:¬ (1<=c.k/\c.k<=c.n/\c.n<=12)):cfgF c=(2,-1):=if_neg h
theorem cfgF_shape {c:Cfg}(h:1<=c.k/\c.k<=c.n/\c.n<=12)(h2:¬ (c.L.length:Int)=c.n):cfgF c=(3,-1):=by unfold cfgF;rw [if_pos h,if_neg h2]
theorem cfgF_nodes {c:Cfg}(h:1<=c.k/\c.k<=c.n/\c.n<=12)(h2:(c.L.length:Int)=c.n):cfgF c=nodesF c.L:=by unfold cfgF;rw [if_pos h,if_pos h2]
theorem cfgF_fine {c:Cfg}(h:¬ 0 < (cfgF c).1):(1<=c.k/\c.k<=c.n/\c.n<=12)/\(c.L.length:Int)=c.n/\cfgF c=(0,-1)/\(∀ x ∈ c.L,isN x=true)/\c.L.Nodup:=by
 by_cases h1:1<=c.k/\c.k<=c.n/\c.n<=12
 ·by_cases h2:(c.L.length:Int)=c.n
  ·rw [cfgF_nodes h1 h2] at h ⊢
   have h3:(nodesF c.L).1<=0:=by omega
   exact⟨h1,h2,(nodesF_zero h3).1,(nodesF_fine h3).1,(nodesF_fine h3).2⟩
  ·rw [cfgF_shape h1 h2] at h
   exact absurd (by decide) h
 ·rw [cfgF_bound h1] at h
  exact absurd (by decide) h
def enoughN (c:Cfg):Nat:=(c.n.toNat+c.k.toNat+1) / 2
end Go.Proofs.YtmhoiodfppdlnaaGreatDoor
namespace Go.Proofs.YtmhoiodfppdlnaaGreatDoor
open Go.RowKit
def lessB (a b:Int×Int):Bool:=decide (a.1 < b.1) || (decide (a.1=b.1) && decide (a.2 < b.2))
theorem verinfo:(Tryz.prog.info? 76).map (fun i=>(i.zero,i.size,i.bytes))=some (some (.agg #[.int .i64 0,.int .i64 0,.int .i64 0,.int .i64 0,.string ⟨#[]⟩]),5,48):=by kernel_rfl
def verAt (L:List Ver)(i:Nat):Ver:=L.getD i ⟨0,0,0,0,⟨#[]⟩⟩
theorem verAt_get {L:List Ver}{i:Nat}(hi:i < L.length):L[i]?=some (verAt L i):=by
 unfold verAt
 rw [List.getD_eq_getElem?_getD,List.getElem?_eq_getElem hi]
 rfl
theorem ver_ext {l m:List Ver}(hl:l.length=m.length)(h:∀ i,i < l.length->verAt l i=verAt m i):l=m:=by
 refine List.ext_getElem? fun i=>?_
 by_cases hi:i < l.length
 ·rw [verAt_get hi,verAt_get (show i < m.length by omega),h i hi]
 ·rw [List.getElem?_eq_none (by omega),List.getElem?_eq_none (by omega)]
theorem ver_cells {w:World}{p:Option Addr}{L:List Ver}(h:Rec verE w p L){i:Nat}(hi:i < L.length):∃ b o,p=some ⟨b,o,none⟩/\b < w.heap.size/\w.cell? ⟨b,o+i*5,none⟩=some (.int .i64 (verAt L i).n)/\w.cell? ⟨b,o+i*5+1,none⟩=some (.int .i64 (verAt L i).who)/\w.cell? ⟨b,o+i*5+2,none⟩=some (.int .i64 (verAt L i).size)/\w.cell? ⟨b,o+i*5+3,none⟩=some (.int .i64 (verAt L i).at_)/\w.cell? ⟨b,o+i*5+4,none⟩=some (.string (verAt L i).text):=by
 rcases h with h | ⟨b,o,hp,hlt,hc⟩
 ·rw [h] at hi;exact absurd hi (Nat.not_lt_zero _)
 ·have hx:=verAt_get hi
  exact⟨b,o,hp,hlt,hc i _ hx 0 _ rfl,hc i _ hx 1 _ rfl,hc i _ hx 2 _ rfl,hc i _ hx 3 _ rfl,hc i _ hx 4 _ rfl⟩
def tagB (n who:Int):Bool:=decide (0<=n) && decide (n<=1099511627776) && decide (0<=who) && decide (who<=1099511627776)
structure Upd (S S':Nat->Prop) (w w':World):Prop where
 os:w'.os=w.os
 tape:w'.tape=w.tape
 output:w'.output=w.output
 size:w.heap.size<=w'.heap.size
 block:∀ k,k < w.heap.size->¬ S k->w'.heap[k]?=w.heap[k]?
 new:∀ k,S' k->S k∨w.heap.size<=k
theorem Upd.of_below {S:Nat->Prop}{w w':World}(hb:Below w.heap.size w w'):Upd S S w w':=⟨hb.os,hb.tape,hb.output,hb.size,fun k hk _=>hb.block k hk,fun _ h=>Or.inl h⟩
theorem Upd.trans {S S1 S2:Nat->Prop}{w w1 w2:World}(h1:Upd S S1 w w1)(h2:Upd S1 S2 w1 w2):Upd S S2 w w2 :=
 ⟨h2.os.trans h1.os,h2.tape.trans h1.tape,h2.output.trans h1.output,Nat.le_trans h1.size h2.size,fun k hk hs=>(h2.block k (Nat.lt_of_lt_of_le hk h1.size) (fun h=>(h1.new k h).elim hs (by omega))).trans (h1.block k hk hs),fun k hk=>(h2.new k hk).elim (h1.new k) (fun h=>Or.inr (Nat.le_trans h1.size h))⟩
theorem OwnR.same' {T:TypeId}{w w':World}{B:Nat}{v:Value}{l:List Ver}(h:OwnR verE T w B v l)(hb:∀ k,v.ownBlock=some k->w'.heap[k]?=w.heap[k]?):OwnR verE T w' B v l:=by
 obtain⟨h1,h2⟩:=h
 refine⟨h1,?_⟩
 rcases h2 with h2 | ⟨g,cap,cur,hv,hbg,hg,hrest⟩
 ·exact Or.inl h2
 ·refine Or.inr ⟨g,cap,cur,hv,hbg,?_,hrest⟩
  rw [hb g (by rw [hv];rfl)]
  exact hg
theorem OwnR.setC {T:TypeId}{w:World}{B:Nat}{v:Value}{l:List Ver}(h:OwnR verE T w B v l){b:Nat}(hb:b < B)(i:Nat)(x:Value):OwnR verE T (w.setCell ⟨b,i,none⟩ x) B v l:=h.same' (fun k hk=>Deep.blk_setCell_other _ _ _ _ (by have:=(h.block hk).1;show k≠b;omega))
def VerI64 (v:Ver):Prop:=(-9223372036854775808<=v.n/\v.n<=9223372036854775807)/\(-9223372036854775808<=v.who/\v.who<=9223372036854775807)/\(-9223372036854775808<=v.size/\v.size<=9223372036854775807)/\-9223372036854775808<=v.at_/\v.at_<=9223372036854775807
def bigV (v:Ver):Bool:=decide (200 < v.size/\v.size<=1000)
def tolN (L:List Ver):Nat:=(L.map fun v=>1+v.text.size / 20).sum
theorem big_succ {L:List Ver}{j:Nat}(hj:j < L.length):(L.take (j+1)).any bigV=((L.take j).any bigV || bigV (verAt L j)):=by
 rw [List.take_add_one,verAt_get hj,List.any_append]
 simp
theorem big_of_at {L:List Ver}{j:Nat}(hj:j < L.length)(h:bigV (verAt L j)=true):L.any bigV=true:=by
 refine List.any_eq_true.2 ⟨_,?_,h⟩
 have:=verAt_get hj
 exact List.mem_of_getElem? this
theorem rless_any (a b:Int×Int)(w:World) :
 Calls Tryz.prog 70 #[.agg #[.int .i64 a.1,.int .i64 a.2],.agg #[.int .i64 b.1,.int .i64 b.2]] w fun e w'=>e=.returned (.bool (lessB a b))/\Below w.heap.size w w':=by
 obtain⟨a1,a2⟩:=a
 obtain⟨b1,b2⟩:=b
 have HB:Hid (Below w.heap.size w ((w.alloc (.cells #[.int .i64 a1,.int .i64 a2] 46)).alloc (.cells #[.int .i64 b1,.int .i64 b2] 46))):=((Below.refl _ _).alloc (Nat.le_refl _) _).alloc (by simp) _
 by_cases h1:a1 < b1
 ·have HE:Hid (lessB (a1,a2) (b1,b2)=true):=by show _=_;unfold lessB;simp [h1]
  rw [HE.out]
  go_enter Tryz.func70,Tryz.ntmps70
  go_wp2
  go_ret
  exact⟨rfl,HB.out⟩
 have d1:decide (a1 < b1)=false:=decide_eq_false h1
 by_cases h2:a1=b1
 ·subst h2
  have HE:Hid (lessB (a1,a2) (a1,b2)=decide (a2 < b2)):=by show _=_;unfold lessB;simp
  rw [HE.out]
  go_enter Tryz.func70,Tryz.ntmps70
  go_wp2
  go_ret
  exact⟨rfl,HB.out⟩
 ·have HE:Hid (lessB (a1,a2) (b1,b2)=false):=by show _=_;unfold lessB;simp [h1,h2]
  rw [HE.out]
  have d2:(a1==b1)=false:=by
   rw [beq_eq_false_iff_ne]
   exact h2
  go_enter Tryz.func70,Tryz.ntmps70
  go_wp2
  go_ret
  exact⟨rfl,HB.out⟩
theorem isTag_any (n who:Int)(w:World) :
 Calls Tryz.prog 126 #[.agg #[.int .i64 n,.int .i64 who]] w fun e w'=>e=.returned (.bool (tagB n who))/\Below w.heap.size w w':=by
 have HB:Hid (Below w.heap.size w (w.alloc (.cells #[.int .i64 n,.int .i64 who] 46))):=(Below.refl _ _).alloc (Nat.le_refl _) _
 have walk:(decide (0<=n)=false)∨(0<=n)/\((decide (n<=1099511627776)=false)∨n<=1099511627776/\((decide (0<=who)=false)∨0<=who/\((decide (who<=1099511627776)=false)∨who<=1099511627776))):=by
  by_cases h1:0<=n
  ·by_cases h2:n<=1099511627776
   ·by_cases h3:0<=who
    ·by_cases h4:who<=1099511627776
     ·exact Or.inr ⟨h1,Or.inr ⟨h2,Or.inr ⟨h3,Or.inr h4⟩⟩⟩
     ·exact Or.inr ⟨h1,Or.inr ⟨h2,Or.inr ⟨h3,Or.inl (decide_eq_false h4)⟩⟩⟩
    ·exact Or.inr ⟨h1,Or.inr ⟨h2,Or.inl (decide_eq_false h3)⟩⟩
   ·exact Or.inr ⟨h1,Or.inl (decide_eq_false h2)⟩
  ·exact Or.inl (decide_eq_false h1)
 have HR:Hid (tagB n who=(decide (0<=n) && decide (n<=1099511627776) && decide (0<=who) && decide (who<=1099511627776))):=by show _=_;rfl
 generalize tagB n who=r at *
 rcases walk with g | ⟨g1,g | ⟨g2,g | ⟨g3,g | g4⟩⟩⟩
 all_goals
  go_enter Tryz.func126,Tryz.ntmps126
  go_wp2
  go_ret
  exact⟨by rw [HR.out];simp [*],HB.out⟩
theorem hwithin_any (x m:Int)(w:World):Calls Tryz.prog 79 #[.int .i64 x,.int .i64 m] w fun e w'=>e=.returned (.bool (decide (0<=x/\x<=m)))/\w'=w:=by
 by_cases h1:0<=x
 ·by_cases h2:x<=m
  ·have HE:Hid (decide (0<=x/\x<=m)=true):=decide_eq_true ⟨h1,h2⟩
   rw [HE.out]
   go_enter Tryz.func79,Tryz.ntmps79
   go_wp2
   go_ret
   exact⟨rfl,rfl⟩
  ·have HE:Hid (decide (0<=x/\x<=m)=false):=decide_eq_false fun h=>h2 h.2
   rw [HE.out]
   go_enter Tryz.func79,Tryz.ntmps79
   go_wp2
   go_ret
   exact⟨rfl,rfl⟩
 ·have HE:Hid (decide (0<=x/\x<=m)=false):=decide_eq_false fun h=>h1 h.1
  rw [HE.out]
  go_enter Tryz.func79,Tryz.ntmps79
  go_wp2
  go_ret
  exact⟨rfl,rfl⟩
def tagOk (a b:Int):Bool:=decide (0<=a/\a<=1099511627776) && decide (0<=b/\b<=1099511627776)
theorem istag_any (a b:Int)(w:World):Calls Tryz.prog 57 #[.agg #[.int .i64 a,.int .i64 b]] w fun e w'=>e=.returned (.bool (tagOk a b))/\Below w.heap.size w w':=by
 obtain⟨w1,hw1⟩:∃ w1,w1=w.alloc (.cells #[.int .i64 a,.int .i64 b] 46):=⟨_,rfl⟩
 have HB1:Hid (Below w.heap.size w w1):=zBe hw1
 have f0:w1.cell? ⟨w.heap.size,0,none⟩=some (.int .i64 a):=zAc hw1 rfl
 have f1:w1.cell? ⟨w.heap.size,1,none⟩=some (.int .i64 b):=zAc hw1 rfl
 have HW1:Hid (w1=w.alloc (.cells #[.int .i64 a,.int .i64 b] 46)):=hw1
 have HA:Hid (Calls Tryz.prog 79 #[.int .i64 a,.int .i64 1099511627776] w1 fun e w'=>e=.returned (.bool (decide (0<=a/\a<=1099511627776)))/\w'=w1):=hwithin_any _ _ w1
 have HC:Hid (Calls Tryz.prog 79 #[.int .i64 b,.int .i64 1099511627776] w1 fun e w'=>e=.returned (.bool (decide (0<=b/\b<=1099511627776)))/\w'=w1):=hwithin_any _ _ w1
 have HT:Hid (tagOk a b=(decide (0<=a/\a<=1099511627776) && decide (0<=b/\b<=1099511627776))):=by show _=_;rfl
 rw [HT.out]
 clear hw1 HT
 generalize decide (0<=a/\a<=1099511627776)=x at *
 generalize decide (0<=b/\b<=1099511627776)=y at *
 cases x with
 | false =>
  go_enter Tryz.func57,Tryz.ntmps57
  go_wp2_with fail
  rw [<- HW1.out]
  refine HA.out.mono ?_
  rintro e w2 ⟨rfl,hw2⟩
  rw [hw2]
  clear hw2 w2 HA
  go_wp2
  go_ret
  exact⟨rfl,HB1.out⟩
 | true =>
  go_enter Tryz.func57,Tryz.ntmps57
  go_wp2_with fail
  rw [<- HW1.out]
  refine HA.out.mono ?_
  rintro e w2 ⟨rfl,hw2⟩
  rw [hw2]
  clear hw2 w2 HA
  go_wp2_with fail
  refine HC.out.mono ?_
  rintro e w2 ⟨rfl,hw2⟩
  rw [hw2]
  clear hw2 w2 HC
  go_wp2
  go_ret
  exact⟨rfl,HB1.out⟩
theorem index_miss (p:Option Addr)(l:List ByteArray)(c:Nat)(s:ByteArray)(w:World)(hl:l.length<=1000000)(hs:Strs w p l)(h:s ∉ l) :
 Calls Tryz.prog 46 #[.slice p l.length c,.string s] w fun e w'=>e=.returned (.int .i64 (-1))/\w'=w:=by
 have HH:Hid (s ∉ l):=h
 clear h
 go_enter Tryz.func46,Tryz.ntmps46
 go_wp2
 go_loop [5] (fun x=>∃ i:Nat,i<=l.length/\x=.int .i64 i) (fun x=>l.length - (intOf x).toNat)
 case atStart=>exact⟨0,Nat.zero_le _,rfl⟩
 case round =>
  obtain⟨i,hi,rfl⟩:=hrel
  by_cases hil:i < l.length
  ·rcases hs with h0 | ⟨b,o,rfl,hlt,hc⟩
   ·rw [h0] at hil;exact absurd hil (Nat.not_lt_zero _)
   have q1:=hc i hil
   have hne:txt l i≠s:=fun e=>HH.out (e ▸ txt_mem hil)
   have h1:=toList_ne hne
   have h2:=toList_beq hne
   have h3:=bytes_beq hne
   clear hne hc
   generalize txt l i=t at *
   go_wp2
   go_round
   case rel=>exact⟨i+1,by omega,by go_num⟩
   case measure=>simp [intOf];omega
  ·go_wp2
   go_ret
   exact⟨rfl,rfl⟩
theorem index_hit (p:Option Addr)(l:List ByteArray)(c:Nat)(s:ByteArray)(w:World)(hl:l.length<=1000000)(hs:Strs w p l)(h:s ∈ l) :
 Calls Tryz.prog 46 #[.slice p l.length c,.string s] w fun e w'=>e=.returned (.int .i64 ((idxN l s:Nat):Int))/\w'=w:=by
 have HH:Hid (s ∈ l):=h
 clear h
 go_enter Tryz.func46,Tryz.ntmps46
 go_wp2
 go_loop [5] (fun x=>∃ i:Nat,i<=l.length/\x=.int .i64 i/\∀ j,j < i->txt l j≠s) (fun x=>l.length - (intOf x).toNat)
 case atStart=>exact⟨0,Nat.zero_le _,rfl,fun j hj=>absurd hj (Nat.not_lt_zero _)⟩
 case round =>
  obtain⟨i,hi,rfl,hall⟩:=hrel
  have HALL:Hid (∀ j,j < i->txt l j≠s):=hall
  clear hall
  have hil:i < l.length:=by
   rcases Nat.lt_or_ge i l.length with h | h
   ·exact h
   ·obtain⟨j,hj,e⟩:=txt_of_mem HH.out
    exact absurd e (HALL.out j (by omega))
  rcases hs with h0 | ⟨b,o,rfl,hlt,hc⟩
  ·rw [h0] at hil;exact absurd hil (Nat.not_lt_zero _)
  have q1:=hc i hil
  have HE:Hid (txt l i=txt l i):=by show _=_;rfl
  clear hc
  by_cases hne:txt l i=s
  ·have HI:Hid (idxN l s=i):=idxN_eq hil hne HALL.out
   rw [hne] at q1
   clear hne HE
   go_wp2
   go_ret
   exact⟨by rw [HI.out];rfl,rfl⟩
  ·have HN:Hid (txt l i≠s):=hne
   have h1:=toList_ne hne
   have h2:=toList_beq hne
   have h3:=bytes_beq hne
   clear hne HE
   generalize htt:txt l i=t at *
   have HT:Hid (txt l i=t):=htt
   clear htt
   go_wp2
   go_round
   case rel=>exact⟨i+1,by omega,by go_num,fun j hj=>by
    rcases Nat.lt_or_ge j i with h | h
    ·exact HALL.out j h
    ·obtain rfl:j=i:=by omega
     rw [HT.out];exact HN.out⟩
   case measure=>simp [intOf];omega
def litK (x:ByteArray):Lit:=.string x.data.toList
theorem litK_inj {x y:ByteArray}(h:litK x=litK y):x=y:=by
 unfold litK at h
 injection h with h
 exact ByteArray.ext (Array.toList_inj.1 h)
theorem litK_key (x:ByteArray):WideAt.IsKeyLit (litK x):=trivial
def anyR (v:Value):Option (DataW Value×List MemPlace):=some (.held v,[])
theorem keyedK:Maps.Keyed Tryz.prog 9:=Maps.string_keyed Tryz.underlying9
theorem keyOfK {x:ByteArray}(hx:x.size<=maxLen):keyOf Tryz.prog 9 (.string x)=some (litK x):=WideMaps.keyOf_string_mk Tryz.underlying9 hx
abbrev OwnM (w:World)(b n:Nat)(D:DataW Value):Prop:=w.ownsMap Tryz.prog 9 anyR b n D
theorem OwnM.tight {w:World}{b n:Nat}{D:DataW Value}(h:OwnM w b n D):OwnM w b (Maps.size D) D:=by
 obtain⟨es,clock,hb,F,hs,rfl⟩:=h
 refine⟨es,clock,hb,F,?_,rfl⟩
 rw [Maps.size_eq,length_sorted]
 simp
theorem length_le_sub {α:Type}:∀ {l m:List α},l.Nodup->(∀ x ∈ l,x ∈ m)->l.length<=m.length
 | [],_,_,_=>Nat.zero_le _
 | a :: l,m,hn,hs=>by
  classical
  obtain⟨h1,h2⟩:=List.nodup_cons.1 hn
  have ha:=hs a (by simp)
  have:=length_le_sub (l:=l) (m:=m.erase a) h2 (fun x hx=>(List.mem_erase_of_ne (show x≠a from fun e=>h1 (e ▸ hx))).2 (hs x (by simp [hx])))
  rw [List.length_erase_of_mem ha] at this
  have:=List.length_pos_of_mem ha
  simp only [List.length_cons]
  omega
theorem OwnM.same {w w':World}{b n:Nat}{D:DataW Value}(h:OwnM w b n D)(hb:w'.heap[b]?=w.heap[b]?):OwnM w' b n D:=by
 obtain⟨es,clock,h1,h2⟩:=h
 exact⟨es,clock,hb.trans h1,h2⟩
structure SetOk (w w':World) (b:Nat) (D:DataW Value) (key:ByteArray) (v:Value):Prop where
 own:∃ n,OwnM w' b n (D.put (litK key) (.held v))
 grown:w.grownBy w' (some b)
theorem set_step {w W:World}{b n:Nat}{D:DataW Value}{key:ByteArray}{v:Value}(hown:OwnM w b n D)(hn:n < maxLen)(hk:key.size<=maxLen)(hb:Below w.heap.size w W) :
 ∃ w',(Instr.mapUpdate 89 (.map (some b)) (.string key) v).run Tryz.prog W=.ok () w'/\SetOk w w' b D key v:=by
 have hlt:b < w.heap.size:=World.ownsMap.lt hown
 have hown2:OwnM W b n D:=hown.same (hb.block b hlt)
 obtain⟨w',hrun,h1,h2⟩:=World.ownsMap.update hown2 keyedK Tryz.underlying89 hn (val:=v) (d:=.held v) (ps:=[]) (keyOfK hk) rfl
 refine⟨w',hrun,⟨_,h1⟩,⟨h2.os.trans hb.os,h2.tape.trans hb.tape,h2.output.trans hb.output,Nat.le_trans hb.size h2.size,fun k hk hne=>?_⟩⟩
 rw [h2.block k (Nat.lt_of_lt_of_le hk hb.size) hne]
 exact hb.block k hk
theorem map_not_nil (b:Nat)(W:World):Sem.run Tryz.prog (binOp .eql 89 (.map (some b)) (.map none)) W=.ok (.bool false) W:=by kernel_rfl
theorem map_is_nil (W:World):Sem.run Tryz.prog (binOp .eql 89 (.map none) (.map none)) W=.ok (.bool true) W:=by kernel_rfl
theorem below_drew' {B:Nat}{w W:World}(h:Below B w.drew W):Below B w W:=⟨h.os,h.tape,h.output,h.size,h.block⟩
abbrev Lv:=Option Addr×Nat×Nat
def lvV (h:Lv):Value:=.slice h.1 h.2.1 h.2.2
def msgC (x:Msg×Lv):List Value:=[.string x.1.from_,.string x.1.to_,.string x.1.kind,.string x.1.key,.int .i64 x.1.op,.int .i64 x.1.config,.bool x.1.shut,.slice x.2.1 x.2.2.1 x.2.2.2]
def mE:Enc (Msg×Lv):=⟨8,by decide,msgC,fun _=>rfl,fun x u hu=>by simp [msgC] at hu;rcases hu with rfl | rfl | rfl | rfl | rfl | rfl | rfl | rfl <;> rfl⟩
structure HasL (w:World) (x:Msg×Lv):Prop where
 len:x.2.2.1=x.1.L.length
 recs:Rec verE w x.2.1 x.1.L
 room:x.1.L.length<=x.2.2.2
 empty:x.2.1=none->x.1.L=[]/\x.2.2.2=0
theorem HasL.below {w w':World}{x:Msg×Lv}(h:HasL w x)(hb:Below w.heap.size w w'):HasL w' x:=⟨h.len,h.recs.below hb,h.room,h.empty⟩
def MsgsAt (w:World)(p:Option Addr)(l:List Msg):Prop:=∃ ml:List (Msg×Lv),ml.map Prod.fst=l/\Rec mE w p ml/\∀ x ∈ ml,HasL w x
theorem MsgsAt.below {w w':World}{p:Option Addr}{l:List Msg}(h:MsgsAt w p l)(hb:Below w.heap.size w w'):MsgsAt w' p l:=by
 obtain⟨ml,h1,h2,h3⟩:=h
 exact⟨ml,h1,h2.below hb,fun x hx=>(h3 x hx).below hb⟩
theorem MsgsAt.nil (w:World)(p:Option Addr):MsgsAt w p []:=⟨[],rfl,Rec.nil _ _,fun x hx=>by cases hx⟩
theorem msginfo (T:TypeId)(hT:(Tryz.prog.info? T).map (fun i=>(i.zero,i.size,i.bytes))=some (some (.agg #[.string ⟨#[]⟩,.string ⟨#[]⟩,.string ⟨#[]⟩,.string ⟨#[]⟩,.int .i64 0,.int .i64 0,.bool false,.slice none 0 0]),8,112)):(Tryz.prog.info? T).map (fun i=>(i.zero,i.size,i.bytes))=some (some (.agg #[.string ⟨#[]⟩,.string ⟨#[]⟩,.string ⟨#[]⟩,.string ⟨#[]⟩,.int .i64 0,.int .i64 0,.bool false,.slice none 0 0]),mE.k,112):=hT
theorem minfoR:(Tryz.prog.info? 59).map (fun i=>(i.zero,i.size,i.bytes))=some (some (.agg #[.string ⟨#[]⟩,.string ⟨#[]⟩,.string ⟨#[]⟩,.string ⟨#[]⟩,.int .i64 0,.int .i64 0,.bool false,.slice none 0 0]),mE.k,112):=msginfo _ (by kernel_rfl)
theorem msg_cells {w:World}{p:Option Addr}{ml:List (Msg×Lv)}(h:Rec mE w p ml){i:Nat}(hi:i < ml.length):∃ b o,p=some ⟨b,o,none⟩/\b < w.heap.size/\w.cell? ⟨b,o+i*8,none⟩=some (.string ml[i].1.from_)/\w.cell? ⟨b,o+i*8+1,none⟩=some (.string ml[i].1.to_)/\w.cell? ⟨b,o+i*8+2,none⟩=some (.string ml[i].1.kind)/\w.cell? ⟨b,o+i*8+3,none⟩=some (.string ml[i].1.key)/\w.cell? ⟨b,o+i*8+4,none⟩=some (.int .i64 ml[i].1.op)/\w.cell? ⟨b,o+i*8+5,none⟩=some (.int .i64 ml[i].1.config)/\w.cell? ⟨b,o+i*8+6,none⟩=some (.bool ml[i].1.shut)/\w.cell? ⟨b,o+i*8+7,none⟩=some (.slice ml[i].2.1 ml[i].2.2.1 ml[i].2.2.2):=by
 rcases h with h0 | ⟨b,o,hp,hlt,hc⟩
 ·rw [h0] at hi;exact absurd hi (Nat.not_lt_zero _)
 ·have hx:ml[i]?=some ml[i]:=List.getElem?_eq_getElem hi
  have g:=hc i _ hx
  exact⟨b,o,hp,hlt,g 0 _ rfl,g 1 _ rfl,g 2 _ rfl,g 3 _ rfl,g 4 _ rfl,g 5 _ rfl,g 6 _ rfl,g 7 _ rfl⟩
def msgAt (ml:List (Msg×Lv))(i:Nat):Msg×Lv:=ml.getD i (⟨⟨#[]⟩,⟨#[]⟩,⟨#[]⟩,⟨#[]⟩,0,0,false,[]⟩,(none,0,0))
theorem msgAt_get {ml:List (Msg×Lv)}{i:Nat}(h:i < ml.length):ml[i]=msgAt ml i:=by
 unfold msgAt
 rw [List.getD_eq_getElem?_getD,List.getElem?_eq_getElem h]
 rfl
theorem msgAt_mem {ml:List (Msg×Lv)}{i:Nat}(h:i < ml.length):msgAt ml i ∈ ml:=by
 rw [<- msgAt_get h]
 exact List.getElem_mem h
theorem msg_take {ml:List (Msg×Lv)}{i:Nat}(h:i < ml.length):ml.take (i+1)=ml.take i ++ [msgAt ml i]:=by
 rw [List.take_succ_eq_append_getElem h,msgAt_get h]
def MsgsN (B:Nat)(w:World)(p:Option Addr)(l:List Msg):Prop:=∃ ml:List (Msg×Lv),ml.map Prod.fst=l/\Rec mE w p ml/\(∀ x ∈ ml,HasL w x/\∀ b o,x.2.1=some ⟨b,o,none⟩->B<=b)/\∀ b o,p=some ⟨b,o,none⟩->B<=b
theorem MsgsN.at_ {B:Nat}{w:World}{p:Option Addr}{l:List Msg}(h:MsgsN B w p l):MsgsAt w p l:=by
 obtain⟨ml,h1,h2,h3,_⟩:=h
 exact⟨ml,h1,h2,fun x hx=>(h3 x hx).1⟩
theorem MsgsN.nil (B:Nat)(w:World):MsgsN B w none []:=⟨[],rfl,Rec.nil _ _,(fun x hx=>by cases hx),(fun b o e=>by cases e)⟩
theorem MsgsN.mono {B B':Nat}{w:World}{p:Option Addr}{l:List Msg}(h:MsgsN B w p l)(hb:B'<=B):MsgsN B' w p l:=by
 obtain⟨ml,h1,h2,h3,h4⟩:=h
 exact⟨ml,h1,h2,fun x hx=>⟨(h3 x hx).1,fun b o e=>Nat.le_trans hb ((h3 x hx).2 b o e)⟩,fun b o e=>Nat.le_trans hb (h4 b o e)⟩
theorem MsgsN.below {B:Nat}{w w':World}{p:Option Addr}{l:List Msg}(h:MsgsN B w p l)(hb:Below w.heap.size w w'):MsgsN B w' p l:=by
 obtain⟨ml,h1,h2,h3,h4⟩:=h
 exact⟨ml,h1,h2.below hb,fun x hx=>⟨(h3 x hx).1.below hb,(h3 x hx).2⟩,h4⟩
theorem MsgsN.upd {B:Nat}{w w':World}{p:Option Addr}{l:List Msg}(h:MsgsN B w p l)(hs:w.heap.size<=w'.heap.size)(hk:∀ k,B<=k->k < w.heap.size->w'.heap[k]?=w.heap[k]?):MsgsAt w' p l:=by
 obtain⟨ml,h1,h2,h3,h4⟩:=h
 refine⟨ml,h1,?_,fun x hx=>?_⟩
 ·rcases h2 with h0 | ⟨b,o,hp,hlt,hc⟩
  ·exact Or.inl h0
  ·exact Or.inr ⟨b,o,hp,Nat.lt_of_lt_of_le hlt hs,fun j x hx jj u hu=>(World.cell?_of_block (a:=⟨b,o+j*mE.k+jj,none⟩) (hk b (h4 b o hp) hlt)).trans (hc j x hx jj u hu)⟩
 ·obtain⟨g1,g2⟩:=h3 x hx
  refine⟨g1.len,?_,g1.room,g1.empty⟩
  rcases g1.recs with h0 | ⟨b,o,hp,hlt,hc⟩
  ·exact Or.inl h0
  ·exact Or.inr ⟨b,o,hp,Nat.lt_of_lt_of_le hlt hs,fun j y hy jj u hu=>(World.cell?_of_block (a:=⟨b,o+j*verE.k+jj,none⟩) (hk b (g2 b o hp) hlt)).trans (hc j y hy jj u hu)⟩
def bulkV (l:List Ver):Nat:=(l.map fun v=>40+v.text.size).sum
def bulkN (m:Msg):Nat:=m.from_.size+m.to_.size+m.kind.size+m.key.size+bulkV m.L
theorem bulkV_take {l:List Ver}{i:Nat}(h:i < l.length):bulkV (l.take (i+1))=bulkV (l.take i)+40+(verAt l i).text.size:=by
 unfold bulkV
 rw [List.take_add_one,verAt_get h]
 simp
 omega
theorem bulkV_le (l:List Ver)(i:Nat):bulkV (l.take i)<=bulkV l:=by
 have e:bulkV l=bulkV (l.take i)+bulkV (l.drop i):=by
  unfold bulkV
  rw [<- List.sum_append,<- List.map_append,List.take_append_drop]
 omega
theorem bulkV_len (l:List Ver):40*l.length<=bulkV l:=by
 induction l with
 | nil=>simp [bulkV]
 | cons v l ih =>
  unfold bulkV at ih ⊢
  rw [List.map_cons,List.sum_cons,List.length_cons]
  omega
theorem bulk_any (m:Msg)(p:Option Addr)(c:Nat)(w:World)(hr:Rec verE w p m.L)(hl:bulkN m<=9223372036854775807) :
 Calls Tryz.prog 32 #[msgA m (.slice p m.L.length c)] w fun e w'=>e=.returned (.int .i64 ((bulkN m:Nat):Int))/\Below w.heap.size w w':=by
 obtain⟨m1,m2,m3,m4,m5,m6,m7,mL⟩:=m
 unfold msgA
 unfold bulkN at hl ⊢
 simp only [] at *
 obtain⟨w1,hw1⟩:∃ w1,w1=w.alloc (.cells #[.string m1,.string m2,.string m3,.string m4,.int .i64 m5,.int .i64 m6,.bool m7,.slice p mL.length c] 59):=⟨_,rfl⟩
 have HW1:Hid (w1=w.alloc (.cells #[.string m1,.string m2,.string m3,.string m4,.int .i64 m5,.int .i64 m6,.bool m7,.slice p mL.length c] 59)):=hw1
 have hb1:Below w.heap.size w w1:=zBe hw1
 have q7:w1.cell? ⟨w.heap.size,7,none⟩=some (.slice p mL.length c):=zAc hw1 rfl
 have HR:Hid (Rec verE w1 p mL):=hr.below hb1
 have HB1:Hid (Below w.heap.size w w1):=hb1
 have hlen:=bulkV_len mL
 have HLE:Hid (∀ i,bulkV (mL.take i)<=bulkV mL):=bulkV_le mL
 have HNX:Hid (∀ i,i < mL.length->bulkV (mL.take (i+1))=bulkV (mL.take i)+40+(verAt mL i).text.size):=fun i hi=>bulkV_take hi
 have HEN:Hid (bulkV (mL.take mL.length)=bulkV mL):=by show _=_;rw [List.take_length]
 have hz0:bulkV (mL.take 0)=0:=by simp [bulkV]
 have HZ0:Hid (bulkV (mL.take 0)=0):=hz0
 clear hw1 hb1 hr hz0
 go_enter Tryz.func32,Tryz.ntmps32
 go_wp2
 rw [show w.alloc (.cells #[.string m1,.string m2,.string m3,.string m4,.int .i64 m5,.int .i64 m6,.bool m7,.slice p mL.length c] 59)=w1 from HW1.out.symm]
 clear HW1
 go_loopw [3,4] (fun x i wr=>∃ k:Nat,k<=mL.length/\i=.int .i64 k/\x=.int .i64 ((m1.size+m2.size+m3.size+m4.size+bulkV (mL.take k):Nat):Int)/\wr=w1) (fun _ i _=>mL.length - (intOf i).toNat)
 case atStart=>exact⟨0,Nat.zero_le _,rfl,by rw [HZ0.out];congr 1,rfl⟩
 case round =>
  obtain⟨k,hk,rfl,rfl,hwr⟩:=hrel
  subst hwr
  by_cases hkl:k < mL.length
  ·obtain⟨b,o,hpp,hblt,c0,c1,c2,c3,c4⟩:=ver_cells HR.out hkl
   subst hpp
   have hnx:=HNX.out k hkl
   have hle:=HLE.out (k+1)
   rw [hnx] at hle
   have HNXT:Hid (bulkV (mL.take (k+1))=bulkV (mL.take k)+40+(verAt mL k).text.size):=hnx
   clear hnx
   generalize verAt mL k=x at *
   obtain⟨xn,xw,xs,xa,xt⟩:=x
   simp only [] at *
   generalize bulkV (mL.take k)=q at *
   have hq:((m1.size+m2.size+m3.size+m4.size+q:Nat):Int)=(m1.size:Int)+m2.size+m3.size+m4.size+q:=by omega
   generalize hN:m1.size+m2.size+m3.size+m4.size+q=N at *
   clear hq
   go_wp2
   go_roundw
   case rel=>exact⟨k+1,by omega,by go_num,by rw [HNXT.out];congr 1;omega,trivial⟩
   case measure=>simp [intOf];omega
  ·obtain rfl:k=mL.length:=by omega
   rw [HEN.out]
   go_wp2
   go_ret
   exact⟨rfl,HB1.out⟩
theorem isName_any (s:ByteArray)(w:World)(hs:s.size<=1000000) :
 Calls Tryz.prog 26 #[.string s] w fun e w'=>e=.returned (.bool (isN s))/\w'=w:=by
 by_cases h1:s.size < 1
 ·have HE:Hid (isN s=false):=isN_len (by omega)
  rw [HE.out]
  go_enter Tryz.func26,Tryz.ntmps26
  go_wp2
  go_ret
  exact⟨rfl,rfl⟩
 by_cases h2:16 < s.size
 ·have HE:Hid (isN s=false):=isN_len (by omega)
  rw [HE.out]
  go_enter Tryz.func26,Tryz.ntmps26
  go_wp2
  go_ret
  exact⟨rfl,rfl⟩
 have g1:decide ((s.size:Int) < 1)=false:=decide_eq_false (by omega)
 have g2:decide (16 < (s.size:Int))=false:=decide_eq_false (by omega)
 have HF:Hid (∀ j,j < s.size->letterB (Gf.nth (bytesOf s) j)=false->isN s=false):=fun j hj h=>isN_one hj h
 have HT:Hid ((∀ j,j < s.size->letterB (Gf.nth (bytesOf s) j)=true)->isN s=true):=fun h=>isN_all (by omega) (by omega) h
 generalize isN s=r at *
 go_enter Tryz.func26,Tryz.ntmps26
 go_wp2
 go_loop [3] (fun x=>∃ i:Nat,i<=s.size/\x=.int .i64 i/\∀ j,j < i->letterB (Gf.nth (bytesOf s) j)=true) (fun x=>s.size - (intOf x).toNat)
 case atStart=>exact⟨0,Nat.zero_le _,rfl,fun j hj=>absurd hj (Nat.not_lt_zero _)⟩
 case round =>
  obtain⟨i,hi,rfl,hall⟩:=hrel
  have HALL:Hid (∀ j,j < i->letterB (Gf.nth (bytesOf s) j)=true):=hall
  clear hall
  by_cases hil:i < s.size
  ·have hix:=run_idx s i hil
   have hy:=bytesOf_lt s i
   have HB:Hid (letterB (Gf.nth (bytesOf s) i)=false->r=false):=fun h=>HF.out i hil h
   have HN:Hid (letterB (Gf.nth (bytesOf s) i)=true->∀ j,j < i+1->letterB (Gf.nth (bytesOf s) j)=true):=fun h j hj=>by
    rcases Nat.lt_or_ge j i with h' | h'
    ·exact HALL.out j h'
    ·obtain rfl:j=i:=by omega
     exact h
   clear HF HALL
   generalize Gf.nth (bytesOf s) i=y at *
   rcases(show(97<=y/\y<=122)∨(48<=y/\y<=57)∨y=45∨122 < y∨(57 < y/\y < 97)∨(y < 48/\y≠45) by omega) with hc | hc | hc | hc | hc | hc
   ·have HL:Hid (letterB y=true):=by show _=_;simp [letterB,hc]
    obtain⟨hc1,hc2⟩:=hc
    go_wp2
    go_round
    case rel=>exact⟨i+1,by omega,by go_num,HN.out HL.out⟩
    case measure=>simp [intOf];omega
   ·have HL:Hid (letterB y=true):=by show _=_;simp [letterB,hc]
    obtain⟨hc1,hc2⟩:=hc
    go_wp2
    go_round
    case rel=>exact⟨i+1,by omega,by go_num,HN.out HL.out⟩
    case measure=>simp [intOf];omega
   ·have HL:Hid (letterB y=true):=by show _=_;simp [letterB,hc]
    subst hc
    go_wp2
    go_round
    case rel=>exact⟨i+1,by omega,by go_num,HN.out HL.out⟩
    case measure=>simp [intOf];omega
   ·have HL : Hid (r = false) := HB.out (by
     unfold letterB
     rw [decide_eq_false (by omega),decide_eq_false (by omega),decide_eq_false (by omega)]
     rfl)
    have d1:decide ((y:Int)<=122)=false:=decide_eq_false (by omega)
    have d2:decide ((y:Int)<=57)=false:=decide_eq_false (by omega)
    have hc3:((y:Int)==45)=false:=by
     rw [beq_eq_false_iff_ne]
     omega
    go_wp2
    go_ret
    exact⟨by rw [HL.out];rfl,rfl⟩
   ·have HL : Hid (r = false) := HB.out (by
     unfold letterB
     rw [decide_eq_false (by omega),decide_eq_false (by omega),decide_eq_false (by omega)]
     rfl)
    obtain⟨hc1,hc2⟩:=hc
    have d2:decide ((y:Int)<=57)=false:=decide_eq_false (by omega)
    have hc3:((y:Int)==45)=false:=by
     rw [beq_eq_false_iff_ne]
     omega
    go_wp2
    go_ret
    exact⟨by rw [HL.out];rfl,rfl⟩
   ·have HL : Hid (r = false) := HB.out (by
     unfold letterB
     rw [decide_eq_false (by omega),decide_eq_false (by omega),decide_eq_false (by omega)]
     rfl)
    obtain⟨hc1,hc2⟩:=hc
    have hc3:((y:Int)==45)=false:=by
     rw [beq_eq_false_iff_ne]
     omega
    go_wp2
    go_ret
    exact⟨by rw [HL.out];rfl,rfl⟩
  ·have hie:i=s.size:=by omega
   subst hie
   have HR:Hid (r=true):=HT.out HALL.out
   go_wp2
   go_ret
   exact⟨by rw [HR.out];rfl,rfl⟩
theorem sindex_miss (p:Option Addr)(l:List ByteArray)(c:Nat)(s:ByteArray)(w:World)(hl:l.length<=1000000)(hs:Strs w p l)(h:s ∉ l) :
 Calls Tryz.prog 122 #[.slice p l.length c,.string s] w fun e w'=>e=.returned (.int .i64 (-1))/\w'=w:=by
 have HH:Hid (s ∉ l):=h
 clear h
 go_enter Tryz.func122,Tryz.ntmps122
 go_wp2
 go_loop [8] (fun x=>∃ i:Nat,i<=l.length/\x=.int .i64 i) (fun x=>l.length - (intOf x).toNat)
 case atStart=>exact⟨0,Nat.zero_le _,rfl⟩
 case round =>
  obtain⟨i,hi,rfl⟩:=hrel
  by_cases hil:i < l.length
  ·rcases hs with h0 | ⟨b,o,rfl,hlt,hc⟩
   ·rw [h0] at hil;exact absurd hil (Nat.not_lt_zero _)
   have q1:=hc i hil
   have hne:txt l i≠s:=fun e=>HH.out (e ▸ txt_mem hil)
   have h1:=toList_ne (Ne.symm hne)
   have h2:=toList_beq (Ne.symm hne)
   have h3:=bytes_beq (Ne.symm hne)
   clear hne hc
   generalize txt l i=t at *
   go_wp2
   go_round
   case rel=>exact⟨i+1,by omega,by go_num⟩
   case measure=>simp [intOf];omega
  ·go_wp2
   go_ret
   exact⟨rfl,rfl⟩
theorem sindex_hit (p:Option Addr)(l:List ByteArray)(c:Nat)(s:ByteArray)(w:World)(hl:l.length<=1000000)(hs:Strs w p l)(h:s ∈ l) :
 Calls Tryz.prog 122 #[.slice p l.length c,.string s] w fun e w'=>e=.returned (.int .i64 ((idxN l s:Nat):Int))/\w'=w:=by
 have HH:Hid (s ∈ l):=h
 clear h
 go_enter Tryz.func122,Tryz.ntmps122
 go_wp2
 go_loop [8] (fun x=>∃ i:Nat,i<=l.length/\x=.int .i64 i/\∀ j,j < i->txt l j≠s) (fun x=>l.length - (intOf x).toNat)
 case atStart=>exact⟨0,Nat.zero_le _,rfl,fun j hj=>absurd hj (Nat.not_lt_zero _)⟩
 case round =>
  obtain⟨i,hi,rfl,hall⟩:=hrel
  have HALL:Hid (∀ j,j < i->txt l j≠s):=hall
  clear hall
  have hil:i < l.length:=by
   rcases Nat.lt_or_ge i l.length with h | h
   ·exact h
   ·obtain⟨j,hj,e⟩:=txt_of_mem HH.out
    exact absurd e (HALL.out j (by omega))
  rcases hs with h0 | ⟨b,o,rfl,hlt,hc⟩
  ·rw [h0] at hil;exact absurd hil (Nat.not_lt_zero _)
  have q1:=hc i hil
  have HE:Hid (txt l i=txt l i):=by show _=_;rfl
  clear hc
  by_cases hne:txt l i=s
  ·have HI:Hid (idxN l s=i):=idxN_eq hil hne HALL.out
   rw [hne] at q1
   clear hne HE
   go_wp2
   go_ret
   exact⟨by rw [HI.out];rfl,rfl⟩
  ·have HN:Hid (txt l i≠s):=hne
   have h1:=toList_ne (Ne.symm hne)
   have h2:=toList_beq (Ne.symm hne)
   have h3:=bytes_beq (Ne.symm hne)
   clear hne HE
   generalize htt:txt l i=t at *
   have HT:Hid (txt l i=t):=htt
   clear htt
   go_wp2
   go_round
   case rel=>exact⟨i+1,by omega,by go_num,fun j hj=>by
    rcases Nat.lt_or_ge j i with h | h
    ·exact HALL.out j h
    ·obtain rfl:j=i:=by omega
     rw [HT.out];exact HN.out⟩
   case measure=>simp [intOf];omega
theorem scont_any (p:Option Addr)(l:List ByteArray)(c:Nat)(s:ByteArray)(w:World)(hl:l.length<=1000000)(hs:Strs w p l) :
 Calls Tryz.prog 92 #[.slice p l.length c,.string s] w fun e w'=>e=.returned (.bool (inL l s))/\w'=w:=by
 by_cases h:s ∈ l
 ·have HE:Hid (inL l s=true):=inL_iff.2 h
  have HI:=sindex_hit p l c s w hl hs h
  rw [HE.out]
  clear h hs
  generalize idxN l s=k at *
  go_enter Tryz.func92,Tryz.ntmps92
  go_wp2_with fail
  refine HI.mono ?_
  rintro e w1 ⟨rfl,hw1⟩
  rw [hw1]
  clear hw1 w1 HI
  go_wp2
  go_ret
  exact⟨rfl,rfl⟩
 ·have HE:Hid (inL l s=false):=Bool.eq_false_iff.2 fun h2=>h (inL_iff.1 h2)
  have HI:=sindex_miss p l c s w hl hs h
  rw [HE.out]
  clear h hs
  go_enter Tryz.func92,Tryz.ntmps92
  go_wp2_with fail
  refine HI.mono ?_
  rintro e w1 ⟨rfl,hw1⟩
  rw [hw1]
  clear hw1 w1 HI
  go_wp2
  go_ret
  exact⟨rfl,rfl⟩
end Go.Proofs.YtmhoiodfppdlnaaGreatDoor
