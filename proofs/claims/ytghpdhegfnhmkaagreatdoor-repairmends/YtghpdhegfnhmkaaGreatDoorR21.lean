import Derived.Test.YtghpdhegfnhmkaaGreatDoorR20
import Derived.Test.YtghpdhegfnhmkaaGreatDoorR19
import Derived.Test.YtghpdhegfnhmkaaGreatDoorR8
import Derived.Test.YtghpdhegfnhmkaaGreatDoorR7
import Derived.Deep.QuietTactic
import Derived.BigQuiet
import Derived.Test.YtghpdhegfnhmkaaGreatDoorR10
import Derived.Test.YtghpdhegfnhmkaaGreatDoorR6
import Derived.Lib.Join
namespace Go.Proofs.YtghpdhegfnhmkaaGreatDoor
open Go.RowKit
set_option maxRecDepth 10000 in
theorem width_any (size k:Nat) (w:World) (hk1:1<=k) (hk:k<=1000) (hs:size<=100000) :
 Calls Tryz.prog 96 #[.int .i64 (size:Int),.int .i64 (k:Int)] w fun e w'=>e=.returned (.int .i64 ((wideN k size:Nat):Int))/\w'=w:=by
 have h1:(1:Int)<=(k:Int):=by omega
 have HE:Hid (((size:Int)+(k:Int) - 1) / (k:Int)=((wideN k size:Nat):Int)):=by
  show _=_
  unfold wideN
  rw [Int.natCast_ediv]
  congr 1
  omega
 go_enter Tryz.func96,Tryz.ntmps96
 go_wp2
 go_ret
 exact ⟨ret_int HE.out,rfl⟩
set_option maxRecDepth 10000 in
theorem szfits_any (size:Int) (w:World):Calls Tryz.prog 110 #[.int .i64 size] w fun e w'=>e=.returned (.bool (decide (0<=size/\size<=1000)))/\w'=w:=by
 by_cases h1:0<=size
 ·by_cases h2:size<=1000
  ·have HE:Hid (decide (0<=size/\size<=1000)=true):=decide_eq_true ⟨h1,h2⟩
   rw [HE.out]
   go_enter Tryz.func110,Tryz.ntmps110
   go_wp2
   go_ret
   exact ⟨rfl,rfl⟩
  ·have HE:Hid (decide (0<=size/\size<=1000)=false):=decide_eq_false fun h=>h2 h.2
   rw [HE.out]
   go_enter Tryz.func110,Tryz.ntmps110
   go_wp2
   go_ret
   exact ⟨rfl,rfl⟩
 ·have HE:Hid (decide (0<=size/\size<=1000)=false):=decide_eq_false fun h=>h1 h.1
  rw [HE.out]
  go_enter Tryz.func110,Tryz.ntmps110
  go_wp2
  go_ret
  exact ⟨rfl,rfl⟩
theorem szfits_yes (size:Int) (w:World) (h:0<=size/\size<=1000):Calls Tryz.prog 110 #[.int .i64 size] w fun e w'=>e=.returned (.bool true)/\w'=w:=by
 have h1:=szfits_any size w
 rw [decide_eq_true h] at h1
 exact h1
theorem szfits_no (size:Int) (w:World) (h:¬ (0<=size/\size<=1000)):Calls Tryz.prog 110 #[.int .i64 size] w fun e w'=>e=.returned (.bool false)/\w'=w:=by
 have h1:=szfits_any size w
 rw [decide_eq_false h] at h1
 exact h1
set_option maxRecDepth 10000 in
theorem spreadOf_ok (n k size:Nat) (z:Addr) (w:World) (hk1:1<=k) (hkn:k<=n) (hn:n<=12) (hs:size<=1000) (hz:w.cell? ⟨11,0,none⟩=some (.iface 218 (.pointer (some z)))) :
 Calls Tryz.prog 95 #[.int .i64 (n:Int),.int .i64 (k:Int),.int .i64 (size:Int)] w fun e w'=>(∃ gm,e=.returned (.tuple #[.slice (some ⟨gm,0,none⟩) n n,.nilIface])/\Mat w' (some ⟨gm,0,none⟩) (spreadM k n))/\Below w.heap.size w w':=by
 have HS:=spread_ok n k z w hk1 hkn hn hz
 have HF:Hid (Calls Tryz.prog 110 #[.int .i64 (size:Int)] w fun e w'=>e=.returned (.bool true)/\w'=w):=szfits_yes _ w (by omega)
 clear hz
 go_enter Tryz.func95,Tryz.ntmps95
 go_wp2_with fail
 refine HF.out.mono ?_
 rintro e w0 ⟨rfl,hw0⟩
 rw [hw0]
 clear hw0 w0 HF
 go_wp2_with fail
 refine HS.mono ?_
 rintro e w1 ⟨⟨gm,rfl,hm⟩,hb⟩
 clear HS
 go_wp2
 go_ret2
 exact ⟨⟨gm,rfl,hm⟩,hb⟩
def objN (s:ByteArray) (wd:Nat):Nat->Nat->Nat:=fun j c=>Gf.nth (bytesOf s) (j*wd+c)
theorem objN_lt (s:ByteArray) (wd j c:Nat):objN s wd j c < 256:=bytesOf_lt s _
theorem objN_past {s:ByteArray} {wd j c:Nat} (h:¬ j*wd+c < s.size):objN s wd j c=0:=by
 show (bytesOf s).getD _ 0=0
 rw [List.getD_eq_getElem?_getD,List.getElem?_eq_none (by simp [bytesOf];omega)]
 rfl
def encT (k:Nat) (s:ByteArray) (i:Nat):ByteArray:=strOf (rowT (fun i j=>Gf.shareOf (upToL k) j i) (objN s (wideN k s.size)) k (wideN k s.size) i)
def encS (k:Nat) (s:ByteArray) (i:Nat):Int×ByteArray:=((i:Int),encT k s i)
def encL (n k:Nat) (s:ByteArray):List (Int×ByteArray):=(List.range n).map (encS k s)
def shF (f:Nat->Int×ByteArray):Nat->Value:=fun q=>if q % 2=0 then .int .i64 (f (q / 2)).1 else .string (f (q / 2)).2
def ShRow (w:World) (g n:Nat) (f:Nat->Int×ByteArray):Prop:=w.rowIs g 45 (n*2) (shF f)
theorem shF_even (f:Nat->Int×ByteArray) (i:Nat):shF f (i*2)=.int .i64 (f i).1:=by unfold shF;rw [if_pos (by omega),Nat.mul_div_cancel _ (by decide)]
theorem shF_odd (f:Nat->Int×ByteArray) (i:Nat):shF f (i*2+1)=.string (f i).2:=by unfold shF;rw [if_neg (by omega),show (i*2+1) / 2=i by omega]
theorem ShRow.at_ {w:World} {g n:Nat} {f:Nat->Int×ByteArray} (h:ShRow w g n f) {i:Nat} (hi:i < n):w.cell? ⟨g,i*2,none⟩=some (.int .i64 (f i).1):=by rw [World.rowIs.cell h (by omega),shF_even]
theorem ShRow.text {w:World} {g n:Nat} {f:Nat->Int×ByteArray} (h:ShRow w g n f) {i:Nat} (hi:i < n):w.cell? ⟨g,i*2+1,none⟩=some (.string (f i).2):=by rw [World.rowIs.cell h (by omega),shF_odd]
theorem ShRow.congr {w:World} {g n:Nat} {f f':Nat->Int×ByteArray} (h:ShRow w g n f) (he:∀ i,i < n->f i=f' i):ShRow w g n f':=World.rowIs.congr h (fun q hq=>by unfold shF;rw [he (q / 2) (by omega)])
theorem ShRow.set {w:World} {g n:Nat} {f:Nat->Int×ByteArray} (h:ShRow w g n f) (i:Nat) (x:Int) (t:ByteArray):ShRow ((w.setCell ⟨g,i*2,none⟩ (.int .i64 x)).setCell ⟨g,i*2+1,none⟩ (.string t)) g n (fun j=>if j=i then (x,t) else f j):=by
 refine World.rowIs.congr ((World.rowIs.set h (i*2) (.int .i64 x)).set (i*2+1) (.string t)) (fun q _=>?_)
 rcases Nat.mod_two_eq_zero_or_one q with e | e
 ·rw [if_neg (by omega)]
  by_cases e2:q=i*2
  ·rw [if_pos e2]
   unfold shF
   dsimp only
   rw [if_pos e,if_pos (show q / 2=i by omega)]
  ·rw [if_neg e2]
   unfold shF
   dsimp only
   rw [if_pos e,if_pos e,if_neg (show ¬ q / 2=i by omega)]
 ·by_cases e2:q=i*2+1
  ·rw [if_pos e2]
   unfold shF
   dsimp only
   rw [if_neg (show ¬ q % 2=0 by omega),if_pos (show q / 2=i by omega)]
  ·rw [if_neg e2,if_neg (by omega)]
   unfold shF
   dsimp only
   rw [if_neg (show ¬ q % 2=0 by omega),if_neg (show ¬ q % 2=0 by omega),if_neg (show ¬ q / 2=i by omega)]
theorem ShRow.made (w:World) (n:Nat):ShRow (w.alloc (.cells (madeCells #[.int .i64 0,.string ⟨#[]⟩] (n*2)) 45)) w.heap.size n (fun _=>(0,⟨#[]⟩)):=by
 have:=World.rowIs_alloc w (madeCells #[.int .i64 0,.string ⟨#[]⟩] (n*2)) 45 (shF fun _=>(0,⟨#[]⟩)) (fun i hi=>by
  rw [size_madeCells] at hi
  simp only [madeCells]
  rw [Array.getElem?_map,Array.getElem?_eq_getElem (by simpa using hi)]
  simp only [Array.getElem_range,Option.map_some]
  unfold shF
  rcases Nat.mod_two_eq_zero_or_one i with e | e
  ·rw [if_pos e];simp [e]
  ·rw [if_neg (by omega)];simp [e])
 rw [size_madeCells] at this
 exact this
theorem run_make_shards (n:Nat) (hn:n<=1000000) (W:World):Sem.run Tryz.prog (Instr.makeSlice 32 (.int .i64 (n:Int)) (.int .i64 (n:Int))) W=.ok (.slice (some ⟨W.heap.size,0,none⟩) n n) (W.alloc (.cells (madeCells #[.int .i64 0,.string ⟨#[]⟩] (n*2)) 45)):=by
 obtain ⟨i1,hi1,hy0,hy1,hy2⟩:=info_parts shinfo
 have hr:=run_make (P:=Tryz.prog) W 32 45 i1 _ Tryz.underlying32 hi1 hy0 .i64 .i64 n n (by omega) (Int.le_refl _) (by rw [hy2];omega) (by omega)
 simp only [Int.toNat_natCast,hy1] at hr
 exact hr
def facN (k:Nat):Nat->Nat->Nat:=fun i j=>Gf.shareOf (upToL k) j i
theorem facN_lt (k i j:Nat):facN k i j < 256:=Gf.shareOf_lt _ _ _
theorem encT_bytes (k:Nat) (s:ByteArray) (i:Nat):bytesOf (encT k s i)=rowT (facN k) (objN s (wideN k s.size)) k (wideN k s.size) i :=
 bytesOf_strOf (rowFn_bytes _ _ fun _=>rsumN_lt (fun _ _=>Gf.shareOf_lt _ _ _) _ _ _)
theorem encT_size (k:Nat) (s:ByteArray) (i:Nat):(encT k s i).size=wideN k s.size:=by
 rw [<- bytesOf_length,encT_bytes]
 exact rowFn_length _ _
theorem encN_rsum (s:ByteArray) (k wd i c:Nat):∀ j,encN (bytesOf s) k wd i c j=rsumN (fun i j=>Gf.shareOf (upToL k) j i) (objN s wd) i c j
 | 0=>rfl
 | j+1=>by
  show (if j*wd+c < (bytesOf s).length then encN (bytesOf s) k wd i c j ^^^ _ else encN (bytesOf s) k wd i c j)=rsumN _ _ i c j ^^^ Gf.mul _ (objN s wd j c)
  rw [encN_rsum s k wd i c j]
  have hl:(bytesOf s).length=s.size:=by simp [bytesOf]
  by_cases h:j*wd+c < s.size
  ·rw [if_pos (by omega)]
   rfl
  ·rw [if_neg (by omega),objN_past h,Gf.mul_zero,Nat.xor_zero]
theorem encT_eq (k:Nat) (s:ByteArray) (i:Nat):strOf (encRow (bytesOf s) k (wideN k s.size) i)=encT k s i:=by
 unfold encT encRow rowT
 rw [rowFn_congr _ _ _ (fun c _=>encN_rsum s k (wideN k s.size) i c k)]
theorem shCells_vals (l:List (Nat×List Nat)):shCells l=shVals (l.map fun x=>((x.1:Int),strOf x.2)):=by
 unfold shCells shVals
 rw [List.flatMap_map]
theorem encL_length (n k:Nat) (s:ByteArray):(encL n k s).length=n:=by simp [encL]
theorem rencode_shs (n k:Nat) (s:ByteArray) (w:World) (hk1:1<=k) (hkn:k<=n) (hn:n<=12) (hs:s.size<=3000) :
 Calls Tryz.prog 9 #[.int .i64 (n:Int),.int .i64 (k:Int),.string s] w fun e w'=>(∃ p c,e=.returned (.slice p n c)/\Shs w' p (encL n k s))/\Below w.heap.size w w':=by
 refine (rencode_any n k s w hk1 hkn hn hs).mono ?_
 rintro e w' ⟨⟨v,rfl,hv⟩,hb⟩
 refine ⟨?_,hb⟩
 unfold OwnSh at hv
 rw [shCells_vals,List.map_map,List.length_map,List.length_range] at hv
 have hl:(List.range n).map ((fun x:Nat×List Nat=>((x.1:Int),strOf x.2)) ∘ fun i=>(i,encRow (bytesOf s) k (wideN k s.size) i))=encL n k s:=by
  unfold encL
  refine List.map_congr_left fun i _=>?_
  show ((i:Int),strOf (encRow (bytesOf s) k (wideN k s.size) i))=encS k s i
  rw [encT_eq]
  rfl
 rw [hl] at hv
 have hv':w'.ownsRow w.heap.size 45 2 v (encL n k s).length (shVals (encL n k s)):=by rw [encL_length];exact hv
 obtain ⟨p,c,rfl,h⟩:=shs_of_own hv'
 exact ⟨p,c,by rw [encL_length],h⟩
set_option maxRecDepth 10000 in
theorem encode1_any (pw ps wd j c:Nat) (s:ByteArray) (w:World) (hj:j<=1000) (hc:c<=100000) (hwd:wd<=100000) (hw:w.cell? ⟨pw,0,none⟩=some (.int .i64 (wd:Int))) (hs:w.cell? ⟨ps,0,none⟩=some (.string s)) :
 Calls Tryz.prog 98 (#[.int .i64 (j:Int),.int .i64 (c:Int)] ++ #[.pointer (some ⟨pw,0,none⟩),.pointer (some ⟨ps,0,none⟩)]) w fun e w2=>e=.returned (.int .u8 ((objN s wd j c:Nat):Int))/\w2=w:=by
 have hb:j*wd<=1000*100000:=Nat.mul_le_mul hj hwd
 have hp0:(0:Int)<=(j:Int)*(wd:Int):=by rw [<- Int.natCast_mul];omega
 have hp1:(j:Int)*(wd:Int)<=100000000:=by rw [<- Int.natCast_mul];omega
 have hw1:IntKind.i64.wrap ((j:Int)*(wd:Int))=(j:Int)*(wd:Int):=by rw [IntKind.wrap_i64];omega
 have hw2:IntKind.i64.wrap ((j:Int)*(wd:Int)+(c:Int))=(j:Int)*(wd:Int)+(c:Int):=by rw [IntKind.wrap_i64];omega
 by_cases hin:j*wd+c < s.size
 ·have h2:(j:Int)*(wd:Int)+(c:Int) < (s.size:Int):=by rw [<- Int.natCast_mul];omega
  have h0:(0:Int)<=(j:Int)*(wd:Int)+(c:Int):=by omega
  have hidx:∀ W,Sem.run Tryz.prog (Instr.index 9 (.string s) (.int .i64 ((j:Int)*(wd:Int)+(c:Int)))) W=.ok (.int .u8 ((objN s wd j c:Nat):Int)) W:=fun W=>by
   rw [run_index_string W 9 s .i64 _ Tryz.underlying9,dif_pos ⟨h0,h2⟩]
   unfold objN
   rw [bytesOf_nth s (j*wd+c) hin]
   congr 3
  clear hin hb
  generalize objN s wd j c=y at hidx ⊢
  go_enter Tryz.func98,Tryz.ntmps98
  go_wp2
  go_ret
  exact ⟨rfl,rfl⟩
 ·have h2:¬ (j:Int)*(wd:Int)+(c:Int) < (s.size:Int):=by rw [<- Int.natCast_mul];omega
  rw [objN_past hin]
  clear hin hb
  go_enter Tryz.func98,Tryz.ntmps98
  go_wp2
  go_ret
  exact ⟨rfl,rfl⟩
set_option maxRecDepth 10000 in
set_option maxHeartbeats 2000000 in
theorem encode_ok (n k:Nat) (s:ByteArray) (z:Addr) (w:World) (hk1:1<=k) (hkn:k<=n) (hn:n<=12) (hs:s.size<=1000) (hz:w.cell? ⟨11,0,none⟩=some (.iface 218 (.pointer (some z)))) :
 Calls Tryz.prog 78 #[.int .i64 (n:Int),.int .i64 (k:Int),.string s] w fun e w'=>(∃ g,w.heap.size<=g/\e=.returned (.tuple #[.slice (some ⟨g,0,none⟩) n n,.nilIface])/\ShRow w' g n (encS k s))/\Below w.heap.size w w':=by
 have hwd:=wideN_le (size:=s.size) hk1
 obtain ⟨w1,hw1⟩:∃ w1,w1=w.alloc (.cells #[.string s] 9):=⟨_,rfl⟩
 have hb1:Below w.heap.size w w1:=by rw [hw1];exact (Below.refl _ _).alloc (Nat.le_refl _) _
 have hs1:w1.heap.size=w.heap.size+1:=by rw [hw1];simp
 have hp1:w1.cell? ⟨w.heap.size,0,none⟩=some (.string s):=by rw [hw1,World.cell?_alloc_at _ _ _ _ rfl];rfl
 have HS:=spreadOf_ok n k s.size z w1 hk1 hkn hn hs ((hb1.cell (p:=⟨11,0,none⟩) (lt_of_cell hz)).trans hz)
 have HW1:Hid (w1=w.alloc (.cells #[.string s] 9)):=hw1
 have HB1:Hid (Below w.heap.size w w1):=hb1
 have hmk:=run_make_shards n (by omega)
 clear hw1 hb1 hz
 go_enter Tryz.func78,Tryz.ntmps78
 go_wp2_with fail
 rw [<- HW1.out]
 refine HS.mono ?_
 rintro e w2 ⟨⟨gm,rfl,hm2⟩,hb2⟩
 have hs2:w1.heap.size<=w2.heap.size:=hb2.size
 have hp2:w2.cell? ⟨w.heap.size,0,none⟩=some (.string s):=(hb2.cell (p:=⟨w.heap.size,0,none⟩) (by show w.heap.size < _;omega)).trans hp1
 have HM2:Hid (Mat w2 (some ⟨gm,0,none⟩) (spreadM k n)):=hm2
 have HB2:Hid (Below w.heap.size w w2):=HB1.out.trans (hb2.mono (by omega))
 clear HS hm2 hb2 HB1 HW1 hp1
 have HWD:=fun W=>width_any s.size k W hk1 (by omega) (by omega)
 have HES:Hid (∀ i,encS k s i=((i:Int),strOf (rowT (fun i j=>Gf.shareOf (upToL k) j i) (objN s (wideN k s.size)) k (wideN k s.size) i))):=fun i=>rfl
 generalize wideN k s.size=wd at *
 go_wp2_with fail
 refine (HWD _).mono ?_
 rintro e w2' ⟨rfl,hww⟩
 rw [hww]
 clear hww w2' HWD
 obtain ⟨w3,hw3⟩:∃ w3,w3=w2.alloc (.cells #[.int .i64 (wd:Int)] 3):=⟨_,rfl⟩
 have hb3:Below w2.heap.size w2 w3:=by rw [hw3];exact (Below.refl _ _).alloc (Nat.le_refl _) _
 have hs3:w3.heap.size=w2.heap.size+1:=by rw [hw3];simp
 have hp3:w3.cell? ⟨w.heap.size,0,none⟩=some (.string s):=(hb3.cell (p:=⟨w.heap.size,0,none⟩) (by show w.heap.size < _;omega)).trans hp2
 have hv3:w3.cell? ⟨w2.heap.size,0,none⟩=some (.int .i64 (wd:Int)):=by rw [hw3,World.cell?_alloc_at _ _ _ _ rfl];rfl
 have HB3:Hid (Below w.heap.size w w3):=HB2.out.trans (hb3.mono (by omega))
 have HT:Tells w3 98 #[.pointer (some ⟨w2.heap.size,0,none⟩),.pointer (some ⟨w.heap.size,0,none⟩)] (objN s wd) k wd:=fun j c hj hc w4 h4 =>
  encode1_any w2.heap.size w.heap.size wd j c s w4 (by omega) (by omega) (by omega) ((h4.cell (p:=⟨w2.heap.size,0,none⟩) (by show w2.heap.size < _;omega)).trans hv3) ((h4.cell (p:=⟨w.heap.size,0,none⟩) (by show w.heap.size < _;omega)).trans hp3)
 have HR:=rows_any (some ⟨gm,0,none⟩) n k wd n (fun i j=>Gf.shareOf (upToL k) j i) (objN s wd) 98 #[.pointer (some ⟨w2.heap.size,0,none⟩),.pointer (some ⟨w.heap.size,0,none⟩)] w3 (by omega) (by omega) hk1 (by omega) (by omega) (fun i j=>Gf.shareOf_lt _ _ _) (fun j c=>objN_lt s wd j c) (HM2.out.below hb3) (enters_of Tryz.func98 (by kernel_rfl) rfl) HT
 have HW3:Hid (w3=w2.alloc (.cells #[.int .i64 (wd:Int)] 3)):=hw3
 have hs3':w2.heap.size < w3.heap.size:=by omega
 have hs1':w.heap.size < w1.heap.size:=by omega
 clear hw3 hb3 HT HM2 HB2 hp2 hs3 hs1
 go_wp2_with fail
 rw [<- HW3.out]
 refine HR.mono ?_
 rintro e w4 ⟨rfl,hr4,hb4⟩
 have HR4:Hid (w4.rowIs w3.heap.size 9 n (fun i=>.string (strOf (rowT (fun i j=>Gf.shareOf (upToL k) j i) (objN s wd) k wd i)))):=hr4
 have HB4:Hid (Below w.heap.size w w4):=HB3.out.trans (hb4.mono (by omega))
 have hz4:w3.heap.size < w4.heap.size:=hr4.lt
 clear HR hr4 hb4 HB3 HW3 hp3 hv3
 go_wp2
 have hS0:=ShRow.made w4 n
 have hB0:Below w4.heap.size w4 (w4.alloc (.cells (madeCells #[.int .i64 0,.string ⟨#[]⟩] (n*2)) 45)):=(Below.refl _ _).alloc (Nat.le_refl _) _
 generalize w4.alloc (.cells (madeCells #[.int .i64 0,.string ⟨#[]⟩] (n*2)) 45)=w5 at hS0 hB0 ⊢
 have HS0:Hid (ShRow w5 w4.heap.size n (fun _=>(0,⟨#[]⟩))):=hS0
 have HB0:Hid (Below w4.heap.size w4 w5):=hB0
 clear hS0 hB0 hmk
 go_loopw [38] (fun x wr=>∃ i:Nat,i<=n/\x=.int .i64 i/\ShRow wr w4.heap.size n (fun q=>if q < i then encS k s q else (0,⟨#[]⟩))/\Below w4.heap.size w4 wr) (fun x _=>n - (intOf x).toNat)
 case atStart=>exact ⟨0,by omega,rfl,HS0.out.congr (fun q _=>by simp),HB0.out⟩
 case round =>
  obtain ⟨i,hi,rfl,hS,hB⟩:=hrel
  obtain ⟨w6,rfl⟩:∃ w6,w6=wr:=⟨_,rfl⟩
  have HSR:Hid (ShRow w6 w4.heap.size n (fun q=>if q < i then encS k s q else (0,⟨#[]⟩))):=hS
  have HB:Hid (Below w4.heap.size w4 w6):=hB
  have hgt:w4.heap.size < w6.heap.size:=World.rowIs.lt hS
  clear hS hB HS0 HB0
  by_cases hil:i < n
  ·have q0 : w6.cell? ⟨w3.heap.size, i, none⟩ = some (.string (encT k s i)) := by
    rw [HB.out.cell (p:=⟨w3.heap.size,i,none⟩) hz4,HR4.out.cell hil]
    exact congrArg (fun x:Int×ByteArray=>some (Value.string x.2)) (HES.out i).symm
   have q1:w6.cell? ⟨w4.heap.size,i*2,none⟩=some (.int .i64 0):=by rw [HSR.out.at_ hil,if_neg (Nat.lt_irrefl _)]
   have q2:w6.cell? ⟨w4.heap.size,i*2+1,none⟩=some (.string ⟨#[]⟩):=by rw [HSR.out.text hil,if_neg (Nat.lt_irrefl _)]
   have f1:w6.frozen? ⟨w4.heap.size,i*2,none⟩=false:=World.rowIs.frozen HSR.out _
   have f2:w6.frozen? ⟨w4.heap.size,i*2+1,none⟩=false:=World.rowIs.frozen HSR.out _
   go_wp2
   go_roundw
   case rel =>
    refine ⟨i+1,by omega,by go_num,?_,?_⟩
    ·refine (HSR.out.set i (i:Int) (encT k s i)).congr (fun q _=>?_)
     by_cases e:q=i
     ·rw [if_pos e,if_pos (by omega),e]
      rfl
     ·rw [if_neg e]
      by_cases e':q < i
      ·rw [if_pos e',if_pos (by omega)]
      ·rw [if_neg e',if_neg (by omega)]
    ·exact (HB.out.setCell (Nat.le_refl _) _).setCell (Nat.le_refl _) _
   case measure=>simp [intOf];omega
  ·have hie:i=n:=by omega
   subst hie
   go_wp2
   go_ret2
   exact ⟨⟨w4.heap.size,by have:=HB4.out.size;omega,rfl,HSR.out.congr (fun q hq=>by rw [if_pos hq])⟩,HB4.out.trans (HB.out.mono (HB4.out.size))⟩
def pickN (k:Nat) (l:List (Int×ByteArray)):Nat->List (Int×ByteArray)
 | 0=>[]
 | i+1=>if decide ((pickN k l i).length < k) && !(pickN k l i).any (fun y=>y.1==(shAt l i).1) then pickN k l i ++ [shAt l i] else pickN k l i
theorem pickN_yes {k:Nat} {l:List (Int×ByteArray)} {i:Nat} (h1:(pickN k l i).length < k) (h2:(pickN k l i).any (fun y=>y.1==(shAt l i).1)=false):pickN k l (i+1)=pickN k l i ++ [shAt l i]:=by
 show (if _ then _ else _)=_
 rw [if_pos (by rw [decide_eq_true h1,h2];rfl)]
theorem pickN_full {k:Nat} {l:List (Int×ByteArray)} {i:Nat} (h1:¬ (pickN k l i).length < k):pickN k l (i+1)=pickN k l i:=by
 show (if _ then _ else _)=_
 rw [if_neg (by rw [decide_eq_false h1];simp)]
theorem pickN_twice {k:Nat} {l:List (Int×ByteArray)} {i:Nat} (h2:(pickN k l i).any (fun y=>y.1==(shAt l i).1)=true):pickN k l (i+1)=pickN k l i:=by
 show (if _ then _ else _)=_
 rw [if_neg (by rw [h2];simp)]
theorem pickN_le (k:Nat) (l:List (Int×ByteArray)):∀ i,(pickN k l i).length<=k
 | 0=>Nat.zero_le _
 | i+1=>by
  by_cases h1:(pickN k l i).length < k
  ·by_cases h2:(pickN k l i).any (fun y=>y.1==(shAt l i).1)=true
   ·rw [pickN_twice h2];omega
   ·rw [pickN_yes h1 (Bool.eq_false_iff.2 h2),List.length_append,List.length_singleton];omega
  ·rw [pickN_full h1];exact pickN_le k l i
theorem pickN_sub (k:Nat) (l:List (Int×ByteArray)):∀ i,i<=l.length->∀ x ∈ pickN k l i,x ∈ l
 | 0,_,x,h=>by cases h
 | i+1,hi,x,h=>by
  by_cases h1:(pickN k l i).length < k
  ·by_cases h2:(pickN k l i).any (fun y=>y.1==(shAt l i).1)=true
   ·rw [pickN_twice h2] at h;exact pickN_sub k l i (by omega) x h
   ·rw [pickN_yes h1 (Bool.eq_false_iff.2 h2)] at h
    rcases List.mem_append.1 h with h | h
    ·exact pickN_sub k l i (by omega) x h
    ·rw [List.mem_singleton.1 h];exact shAt_mem (by omega)
  ·rw [pickN_full h1] at h;exact pickN_sub k l i (by omega) x h
theorem pickN_nodup (k:Nat) (l:List (Int×ByteArray)):∀ i,((pickN k l i).map Prod.fst).Nodup
 | 0=>List.nodup_nil
 | i+1=>by
  by_cases h1:(pickN k l i).length < k
  ·by_cases h2:(pickN k l i).any (fun y=>y.1==(shAt l i).1)=true
   ·rw [pickN_twice h2];exact pickN_nodup k l i
   ·have h2':(pickN k l i).any (fun y=>y.1==(shAt l i).1)=false:=Bool.eq_false_iff.2 h2
    rw [pickN_yes h1 h2',List.map_append,List.nodup_append]
    refine ⟨pickN_nodup k l i,by simp,fun a ha b hb e=>?_⟩
    obtain ⟨y,hy,rfl⟩:=List.mem_map.1 ha
    have hb':b=(shAt l i).1:=by simpa using hb
    have:=List.any_eq_false.1 h2' y hy
    exact this (by simp [e,hb'])
  ·rw [pickN_full h1];exact pickN_nodup k l i
theorem shVals_snoc (l:List (Int×ByteArray)) (x:Int×ByteArray):shVals (l ++ [x])=shVals l ++ [.int .i64 x.1,.string x.2]:=by simp [shVals]
set_option maxRecDepth 10000 in
theorem unlike1_any (px:Nat) (x y:Int) (t:ByteArray) (w:World) (hx:w.cell? ⟨px,0,none⟩=some (.int .i64 x)) :
 Calls Tryz.prog 116 (#[.agg #[.int .i64 y,.string t]] ++ #[.pointer (some ⟨px,0,none⟩)]) w fun e w2=>e=.returned (.bool (y==x))/\Below w.heap.size w w2:=by
 have hlt:=lt_of_cell hx
 go_enter Tryz.func116,Tryz.ntmps116
 go_wp2
 go_ret
 exact ⟨rfl,(Below.refl _ _).alloc (Nat.le_refl _) _⟩
def badB (n:Int) (wd:Nat) (x:Int×ByteArray):Bool:=decide (x.1 < 0) || decide (n<=x.1) || !decide (x.2.size=wd)
set_option maxRecDepth 10000 in
set_option maxHeartbeats 4000000 in
theorem first_any (k:Nat) (p:Option Addr) (l:List (Int×ByteArray)) (cap:Nat) (w:World) (hk:k<=1000) (hl:l.length<=1000) (hs:Shs w p l) :
 Calls Tryz.prog 106 #[.int .i64 (k:Int),.slice p l.length cap] w fun e w'=>(∃ p' c',e=.returned (.slice p' (pickN k l l.length).length c')/\Shs w' p' (pickN k l l.length))/\Below w.heap.size w w':=by
 have HS:Hid (Shs w p l):=hs
 obtain ⟨i1,hi1,hy0,hy1,hy2⟩:=info_parts shinfo
 have hmk:∀ W:World,Sem.run Tryz.prog (Instr.makeSlice 32 (.int .i64 0) (.int .i64 (k:Int))) W=.ok (.slice (some ⟨W.heap.size,0,none⟩) 0 k) (W.alloc (.cells (madeCells #[.int .i64 0,.string ⟨#[]⟩] (k*2)) 45)):=fun W=>by
  have hr:=run_make (P:=Tryz.prog) W 32 45 i1 _ Tryz.underlying32 hi1 hy0 .i64 .i64 0 k (by omega) (by omega) (by rw [hy2];omega) (by omega)
  simp only [Int.toNat_natCast,hy1] at hr
  exact hr
 clear hs
 go_enter Tryz.func106,Tryz.ntmps106
 go_wp2
 have hO0:(w.alloc (.cells (madeCells #[.int .i64 0,.string ⟨#[]⟩] (k*2)) 45)).ownsRow w.heap.size 45 2 (.slice (some ⟨w.heap.size,0,none⟩) 0 k) 0 []:=World.ownsRow_made w _ k (Nat.le_refl _) (by unfold maxLen;omega) (size_madeCells _ _)
 have hB0:Below w.heap.size w (w.alloc (.cells (madeCells #[.int .i64 0,.string ⟨#[]⟩] (k*2)) 45)):=(Below.refl _ _).alloc (Nat.le_refl _) _
 generalize w.alloc (.cells (madeCells #[.int .i64 0,.string ⟨#[]⟩] (k*2)) 45)=w0 at hO0 hB0 ⊢
 have HO0:Hid (w0.ownsRow w.heap.size 45 2 (.slice (some ⟨w.heap.size,0,none⟩) 0 k) 0 []):=hO0
 have HB0:Hid (Below w.heap.size w w0):=hB0
 clear hO0 hB0 hmk
 go_loopw [5,12] (fun v x wr=>∃ i:Nat,i<=l.length/\x=.int .i64 i/\wr.ownsRow w.heap.size 45 2 v (pickN k l i).length (shVals (pickN k l i))/\Below w.heap.size w wr) (fun _ x _=>l.length - (intOf x).toNat)
 case atStart=>exact ⟨0,by omega,rfl,HO0.out,HB0.out⟩
 case round =>
  obtain ⟨i,hi,rfl,hO,hB⟩:=hrel
  obtain ⟨w3,rfl⟩:∃ w3,w3=wr:=⟨_,rfl⟩
  obtain ⟨pv,cv,rfl,hsh⟩:=shs_of_own hO
  have HO:Hid (w3.ownsRow w.heap.size 45 2 (.slice pv (pickN k l i).length cv) (pickN k l i).length (shVals (pickN k l i))):=hO
  have HB:Hid (Below w.heap.size w w3):=hB
  have HSH:Hid (Shs w3 pv (pickN k l i)):=hsh
  have hz3:w.heap.size<=w3.heap.size:=hB.size
  clear hO hB hsh HO0 HB0
  by_cases hil:i < l.length
  ·rcases (HS.out.below HB.out) with h0 | ⟨b1,o1,rfl,hb1,hc1⟩
   ·rw [h0] at hil;simp at hil
   obtain ⟨q1,q2⟩:=hc1 i hil
   clear hc1
   have HF:Hid (pickN k l (i+1)=pickN k l (i+1)):=by show _=_;rfl
   have hle:=pickN_le k l i
   by_cases hlt:(pickN k l i).length < k
   ·obtain ⟨w4,hw4⟩:∃ w4,w4=w3.alloc (.cells #[.int .i64 (shAt l i).1,.string (shAt l i).2] 45):=⟨_,rfl⟩
    have hb4:Below w3.heap.size w3 w4:=by rw [hw4];exact (Below.refl _ _).alloc (Nat.le_refl _) _
    have hs4:w4.heap.size=w3.heap.size+1:=by rw [hw4];simp
    have hx4:w4.cell? ⟨w3.heap.size,0,none⟩=some (.int .i64 (shAt l i).1):=by rw [hw4,World.cell?_alloc_at _ _ _ _ rfl];rfl
    have ht4:w4.cell? ⟨w3.heap.size,1,none⟩=some (.string (shAt l i).2):=by rw [hw4,World.cell?_alloc_at _ _ _ _ rfl];rfl
    have HASK:Asks w4 116 #[.pointer (some ⟨w3.heap.size,0,none⟩)] (pickN k l i) (fun y=>y.1==(shAt l i).1):=fun j hj w5 h5 =>
     unlike1_any w3.heap.size (shAt l i).1 (shAt (pickN k l i) j).1 (shAt (pickN k l i) j).2 w5 ((h5.cell (p:=⟨w3.heap.size,0,none⟩) (by show w3.heap.size < _;omega)).trans hx4)
    have HC:=contains_any pv (pickN k l i) cv 116 #[.pointer (some ⟨w3.heap.size,0,none⟩)] (fun y=>y.1==(shAt l i).1) w4 (by omega) (HSH.out.below hb4) (enters_of Tryz.func116 (by kernel_rfl) rfl) HASK
    have HW4:Hid (w4=w3.alloc (.cells #[.int .i64 (shAt l i).1,.string (shAt l i).2] 45)):=hw4
    have HB4:Hid (Below w.heap.size w w4):=HB.out.trans (hb4.mono hz3)
    have HO4:Hid (w4.ownsRow w.heap.size 45 2 (.slice pv (pickN k l i).length cv) (pickN k l i).length (shVals (pickN k l i))):=World.ownsRow.kept HO.out (below_grown hb4 none) (by cases hv:(Value.slice pv (pickN k l i).length cv).ownBlock <;> simp)
    have hs4':w3.heap.size < w4.heap.size:=by omega
    by_cases hany:(pickN k l i).any (fun y=>y.1==(shAt l i).1)=true
    ·have HP:Hid (pickN k l (i+1)=pickN k l i):=pickN_twice hany
     rw [hany] at HC
     clear hany hw4 hb4 hs4 hx4 ht4 HASK HF
     generalize pickN k l i=so at *
     go_wp2_with fail
     rw [<- HW4.out]
     refine HC.mono ?_
     rintro e w6 ⟨rfl,hb6⟩
     have HB6:Hid (Below w.heap.size w w6):=HB4.out.trans (hb6.mono HB4.out.size)
     have HO6:Hid (w6.ownsRow w.heap.size 45 2 (.slice pv so.length cv) so.length (shVals so)):=World.ownsRow.kept HO4.out (below_grown hb6 none) (by cases hv:(Value.slice pv so.length cv).ownBlock <;> simp)
     clear HC hb6
     go_wp2
     go_roundw
     case rel=>exact ⟨i+1,by omega,by go_num,by rw [HP.out];exact HO6.out,HB6.out⟩
     case measure=>simp [intOf];omega
    ·have hany':(pickN k l i).any (fun y=>y.1==(shAt l i).1)=false:=Bool.eq_false_iff.2 hany
     have HP:Hid (pickN k l (i+1)=pickN k l i ++ [shAt l i]):=pickN_yes hlt hany'
     rw [hany'] at HC
     have HX4:Hid (∀ W,Below w4.heap.size w4 W->W.cell? ⟨w3.heap.size,0,none⟩=some (.int .i64 (shAt l i).1)/\W.cell? ⟨w3.heap.size,1,none⟩=some (.string (shAt l i).2)):=fun W hW=>⟨(hW.cell (p:=⟨w3.heap.size,0,none⟩) (by show w3.heap.size < _;omega)).trans hx4,(hW.cell (p:=⟨w3.heap.size,1,none⟩) (by show w3.heap.size < _;omega)).trans ht4⟩
     clear hany hany' hw4 hb4 hs4 hx4 ht4 HASK HF
     generalize pickN k l i=so at *
     go_wp2_with fail
     rw [<- HW4.out]
     refine HC.mono ?_
     rintro e w6 ⟨rfl,hb6⟩
     have HB6:Hid (Below w.heap.size w w6):=HB4.out.trans (hb6.mono HB4.out.size)
     have HO6:Hid (w6.ownsRow w.heap.size 45 2 (.slice pv so.length cv) so.length (shVals so)):=World.ownsRow.kept HO4.out (below_grown hb6 none) (by cases hv:(Value.slice pv so.length cv).ownBlock <;> simp)
     obtain ⟨r1,r2⟩:=HX4.out w6 hb6
     have hz6:w.heap.size<=w6.heap.size:=HB6.out.size
     clear HC hb6 q1 q2 HX4 HW4 HO4 HB4
     generalize shAt l i=xs at *
     obtain ⟨x,t⟩:=xs
     go_wp2_with (first | (at_builtin;refine wpList_append_own _ rfl (.tmp 26) (.tmp 28) 32 rfl w.heap.size 45 i1 (.agg #[.int .i64 0,.string ⟨#[]⟩]) 2 24 Tryz.underlying32 hi1 hy0 hy1 hy2 rfl (by decide) (.slice pv so.length cv) so.length (shVals so) rfl (World.ownsRow.alloc HO6.out _) ⟨w6.heap.size,0,none⟩ 1 1 [.int .i64 x,.string t] rfl rfl (fun j u hj=>by match j,hj with | 0,hj=>(simp at hj;subst hj;simp [Addr.add]) | 1,hj=>(simp at hj;subst hj;simp [Addr.add])) (fun u hu=>by simp at hu;rcases hu with rfl | rfl <;> rfl) (by unfold maxLen;omega) (by omega) (by simp;omega) ?_;intro v' w8 hown' hg' _))
     have hb8:Below w.heap.size w w8:=(HB6.out.alloc (by omega) _).grown hg' (by simp;omega) (fun g hg=>(World.ownsRow.lt HO6.out g hg).1)
     go_roundw
     case rel=>exact ⟨i+1,by omega,by go_num,by rw [HP.out,shVals_snoc,List.length_append,List.length_singleton];exact hown',hb8⟩
     case measure=>simp [intOf];omega
   ·have HP:Hid (pickN k l (i+1)=pickN k l i):=pickN_full hlt
    have HB4:Hid (Below w.heap.size w (w3.alloc (.cells #[.int .i64 (shAt l i).1,.string (shAt l i).2] 45))):=HB.out.alloc hz3 _
    have HO4:Hid ((w3.alloc (.cells #[.int .i64 (shAt l i).1,.string (shAt l i).2] 45)).ownsRow w.heap.size 45 2 (.slice pv (pickN k l i).length cv) (pickN k l i).length (shVals (pickN k l i))):=World.ownsRow.alloc HO.out _
    clear HF
    generalize pickN k l i=so at *
    go_wp2
    go_roundw
    case rel=>exact ⟨i+1,by omega,by go_num,by rw [HP.out];exact HO4.out,HB4.out⟩
    case measure=>simp [intOf];omega
  ·have hie:i=l.length:=by omega
   subst hie
   go_wp2
   go_ret
   exact ⟨⟨pv,cv,rfl,HSH.out⟩,HB.out⟩
def fitB (n k:Nat) (size y:Int) (t:ByteArray):Bool:=decide (0<=size/\size<=1000/\0<=y/\y < n/\t.size=wideN k size.toNat)
set_option maxRecDepth 10000 in
set_option maxHeartbeats 4000000 in
theorem cfits_any (n k:Nat) (size y:Int) (t:ByteArray) (w:World) (hk1:1<=k) (hkn:k<=n) (hn:n<=12) :
 Calls Tryz.prog 102 #[.int .i64 (n:Int),.int .i64 (k:Int),.int .i64 size,.agg #[.int .i64 y,.string t]] w fun e w'=>e=.returned (.bool (fitB n k size y t))/\Below w.heap.size w w':=by
 obtain ⟨w1,hw1⟩:∃ w1,w1=w.alloc (.cells #[.int .i64 y,.string t] 45):=⟨_,rfl⟩
 have HB1:Hid (Below w.heap.size w w1):=by rw [hw1];exact (Below.refl _ _).alloc (Nat.le_refl _) _
 have f0:w1.cell? ⟨w.heap.size,0,none⟩=some (.int .i64 y):=by rw [hw1,World.cell?_alloc_at _ _ _ _ rfl];rfl
 have f1:w1.cell? ⟨w.heap.size,1,none⟩=some (.string t):=by rw [hw1,World.cell?_alloc_at _ _ _ _ rfl];rfl
 have HW1:Hid (w1=w.alloc (.cells #[.int .i64 y,.string t] 45)):=hw1
 have HM:Hid (∀ W,Calls Tryz.prog 75 #[.int .i64 (n:Int),.int .i64 (k:Int)] W fun e w'=>e=.returned (.bool true)/\w'=W):=fun W=>by
  have h:=mfits_any (n:Int) (k:Int) W
  rw [decide_eq_true (show (1:Int)<=(k:Int)/\(k:Int)<=(n:Int)/\(n:Int)<=12 by omega)] at h
  exact h
 clear hw1
 by_cases hs:0<=size/\size<=1000
 ·have HS:Hid (∀ W,Calls Tryz.prog 110 #[.int .i64 size] W fun e w'=>e=.returned (.bool true)/\w'=W):=fun W=>szfits_yes _ W hs
  by_cases h1:0<=y
  ·have d1:decide (0<=y)=true:=decide_eq_true h1
   by_cases h2:y < (n:Int)
   ·have d2:decide (y < (n:Int))=true:=decide_eq_true h2
    obtain ⟨s,rfl⟩:=Int.eq_ofNat_of_zero_le hs.1
    have HV:Hid (∀ W,Calls Tryz.prog 96 #[.int .i64 (s:Int),.int .i64 (k:Int)] W fun e w'=>e=.returned (.int .i64 ((wideN k s:Nat):Int))/\w'=W):=fun W=>width_any s k W hk1 (by omega) (by omega)
    have HR:Hid (fitB n k (s:Int) y t=((t.size:Int)==((wideN k s:Nat):Int))):=by
     show _=_
     unfold fitB
     rw [Int.toNat_natCast]
     by_cases h3:t.size=wideN k s
     ·rw [decide_eq_true ⟨hs.1,hs.2,h1,h2,h3⟩,h3];simp
     ·rw [decide_eq_false (fun h=>h3 h.2.2.2.2)]
      symm
      rw [beq_eq_false_iff_ne]
      omega
    rw [HR.out]
    clear hs
    generalize wideN k s=wd at *
    go_enter Tryz.func102,Tryz.ntmps102
    go_wp2_with (rw [<- HW1.out])
    go_quiet (first | (go_at_call 75;exact Calls.quiet_of_same (HM.out _)) | (go_at_call 110;exact Calls.quiet_of_same (HS.out _)) | (go_at_call 96;exact Calls.quiet_of_same (HV.out _)))
    go_wp2
    go_ret
    exact ⟨rfl,below_drewN HB1.out _⟩
   ·have d2:decide (y < (n:Int))=false:=decide_eq_false h2
    have HR:Hid (fitB n k size y t=false):=decide_eq_false fun h=>h2 h.2.2.2.1
    rw [HR.out]
    clear hs h2
    go_enter Tryz.func102,Tryz.ntmps102
    go_wp2_with (rw [<- HW1.out])
    go_quiet (first | (go_at_call 75;exact Calls.quiet_of_same (HM.out _)) | (go_at_call 110;exact Calls.quiet_of_same (HS.out _)))
    go_wp2
    go_ret
    exact ⟨rfl,below_drewN HB1.out _⟩
  ·have d1:decide (0<=y)=false:=decide_eq_false h1
   have HR:Hid (fitB n k size y t=false):=decide_eq_false fun h=>h1 h.2.2.1
   rw [HR.out]
   clear hs h1
   go_enter Tryz.func102,Tryz.ntmps102
   go_wp2_with (rw [<- HW1.out])
   go_quiet (first | (go_at_call 75;exact Calls.quiet_of_same (HM.out _)) | (go_at_call 110;exact Calls.quiet_of_same (HS.out _)))
   go_wp2
   go_ret
   exact ⟨rfl,below_drewN HB1.out _⟩
 ·have HS:Hid (∀ W,Calls Tryz.prog 110 #[.int .i64 size] W fun e w'=>e=.returned (.bool false)/\w'=W):=fun W=>szfits_no _ W hs
  have HR:Hid (fitB n k size y t=false):=decide_eq_false fun h=>hs ⟨h.1,h.2.1⟩
  rw [HR.out]
  clear hs
  go_enter Tryz.func102,Tryz.ntmps102
  go_wp2_with (rw [<- HW1.out])
  go_quiet (first | (go_at_call 75;exact Calls.quiet_of_same (HM.out _)) | (go_at_call 110;exact Calls.quiet_of_same (HS.out _)))
  go_wp2
  go_ret
  exact ⟨rfl,below_drewN HB1.out _⟩
theorem fit_bad {n k size:Nat} {y:Int} {t:ByteArray} (hs:size<=1000):(!fitB n k (size:Int) y t)=badB (n:Int) (wideN k size) (y,t):=by
 unfold fitB badB
 rw [Int.toNat_natCast]
 by_cases h1:y < 0
 ·rw [decide_eq_false (fun h=>by omega),decide_eq_true h1];rfl
 ·by_cases h2:(n:Int)<=y
  ·rw [decide_eq_false (fun h=>by omega),decide_eq_true h2];simp
  ·by_cases h3:t.size=wideN k size
   ·rw [decide_eq_true ⟨by omega,by omega,by omega,by omega,h3⟩,decide_eq_false h1,decide_eq_false h2,decide_eq_true h3];rfl
   ·rw [decide_eq_false (fun h=>h3 h.2.2.2.2),decide_eq_false h1,decide_eq_false h2,decide_eq_false h3];rfl
set_option maxRecDepth 10000 in
theorem decode1_any (pn pk ps n k size:Nat) (y:Int) (t:ByteArray) (w:World) (hk1:1<=k) (hkn:k<=n) (hn:n<=12) (hs:size<=1000) (h1:w.cell? ⟨pn,0,none⟩=some (.int .i64 (n:Int))) (h2:w.cell? ⟨pk,0,none⟩=some (.int .i64 (k:Int))) (h3:w.cell? ⟨ps,0,none⟩=some (.int .i64 (size:Int))) :
 Calls Tryz.prog 105 (#[.agg #[.int .i64 y,.string t]] ++ #[.pointer (some ⟨pn,0,none⟩),.pointer (some ⟨pk,0,none⟩),.pointer (some ⟨ps,0,none⟩)]) w fun e w2=>e=.returned (.bool (badB (n:Int) (wideN k size) (y,t)))/\Below w.heap.size w w2:=by
 have hl1:=lt_of_cell h1
 have hl2:=lt_of_cell h2
 have hl3:=lt_of_cell h3
 have HR:Hid ((!fitB n k (size:Int) y t)=badB (n:Int) (wideN k size) (y,t)):=fit_bad hs
 rw [<- HR.out]
 obtain ⟨w1,hw1⟩:∃ w1,w1=w.alloc (.cells #[.int .i64 y,.string t] 45):=⟨_,rfl⟩
 have hb1:Below w.heap.size w w1:=by rw [hw1];exact (Below.refl _ _).alloc (Nat.le_refl _) _
 have HB1:Hid (Below w.heap.size w w1):=hb1
 have f0:w1.cell? ⟨w.heap.size,0,none⟩=some (.int .i64 y):=by rw [hw1,World.cell?_alloc_at _ _ _ _ rfl];rfl
 have f1:w1.cell? ⟨w.heap.size,1,none⟩=some (.string t):=by rw [hw1,World.cell?_alloc_at _ _ _ _ rfl];rfl
 have g1:w1.cell? ⟨pn,0,none⟩=some (.int .i64 (n:Int)):=(hb1.cell (p:=⟨pn,0,none⟩) hl1).trans h1
 have g2:w1.cell? ⟨pk,0,none⟩=some (.int .i64 (k:Int)):=(hb1.cell (p:=⟨pk,0,none⟩) hl2).trans h2
 have g3:w1.cell? ⟨ps,0,none⟩=some (.int .i64 (size:Int)):=(hb1.cell (p:=⟨ps,0,none⟩) hl3).trans h3
 have HW1:Hid (w1=w.alloc (.cells #[.int .i64 y,.string t] 45)):=hw1
 have HC:=cfits_any n k (size:Int) y t w1 hk1 hkn hn
 clear hw1 hb1 h1 h2 h3 HR
 generalize fitB n k (size:Int) y t=fb at *
 go_enter Tryz.func105,Tryz.ntmps105
 go_wp2_with (rw [<- HW1.out])
 refine HC.mono ?_
 rintro e w2 ⟨rfl,hb2⟩
 have HB2:Hid (Below w.heap.size w w2):=HB1.out.trans (hb2.mono HB1.out.size)
 clear HC hb2
 go_wp2
 go_ret
 exact ⟨rfl,HB2.out⟩
def invN (X:List Nat):Nat->Nat->Nat:=fun i j=>Gf.shareOf X j i
theorem invN_lt (X:List Nat) (i j:Nat):invN X i j < 256:=Gf.shareOf_lt _ _ _
def sprX (k:Nat) (X:List Nat):Nat->Nat->Lin.F:=fun i j=>toF (facN k (Gf.nth X i) j)
theorem inv_left {X:List Nat} {k:Nat} (hX:Gf.Bytes X) (hn:X.Nodup) (hl:X.length=k) (hk:k<=256):∀ i j,i < k->j < k->Lin.mm k (vecF (invN X)) (sprX k X) i j=Lin.one i j:=by
 obtain ⟨y,hy⟩:=Lin.inverse_of_indep (vander_indep k hk)
 have hy':=Lin.right_of_left hy
 have e1:∀ i m,i < k->m < k->Lin.mm k (Lin.mm k (vecF (invN X)) (sprX k X)) (vecF Gf.rep) i m=vecF Gf.rep i m:=fun i m hi hm=>by
  rw [Lin.mm_assoc]
  have e2:Lin.mm k (vecF (invN X)) (Lin.mm k (sprX k X) (vecF Gf.rep)) i m=Lin.mm k (vecF (invN X)) (fun r m=>toF (Gf.rep (Gf.nth X r) m)) i m:=Lin.mm_congr k (fun _ _=>rfl) (fun r _=>by
   have:=shares_times_powers (upToL k) (upToL_bytes k hk) (upToL_nodup k) (Gf.nth X r) m (hX r) (by rw [upToL_length];exact hm)
   rw [upToL_length] at this
   rw [<- this]
   exact Lin.fsum_congr fun t ht=>by rw [nth_upTo k t ht];rfl)
  rw [e2]
  have:=shares_times_powers X hX hn i m (by omega) (by rw [hl];exact hm)
  rw [hl] at this
  exact this
 intro i j hi hj
 have e3:Lin.mm k (Lin.mm k (vecF (invN X)) (sprX k X)) Lin.one i j=Lin.mm k (Lin.mm k (vecF (invN X)) (sprX k X)) (Lin.mm k (vecF Gf.rep) y) i j:=Lin.mm_congr k (fun _ _=>rfl) (fun m hm=>(hy' m j hm hj).symm)
 rw [Lin.mm_one k _ i j hj] at e3
 rw [e3,<- Lin.mm_assoc]
 have e4:Lin.mm k (Lin.mm k (Lin.mm k (vecF (invN X)) (sprX k X)) (vecF Gf.rep)) y i j=Lin.mm k (vecF Gf.rep) y i j:=Lin.mm_congr k (fun m hm=>e1 i m hi hm) (fun _ _=>rfl)
 rw [e4]
 exact hy' i j hi hj
theorem inv_unique {X:List Nat} {k:Nat} (hX:Gf.Bytes X) (hn:X.Nodup) (hl:X.length=k) (hk:k<=256) {x:Nat->Nat->Nat} (hx:∀ i j,x i j < 256) (h:∀ i j,i < k->j < k->Lin.mm k (vecF x) (sprX k X) i j=Lin.one i j):∀ i j,i < k->j < k->x i j=invN X i j:=by
 have hr:=Lin.right_of_left (inv_left hX hn hl hk)
 intro i j hi hj
 refine toF_inj (hx i j) (invN_lt X i j) ?_
 have e1:Lin.mm k (vecF x) Lin.one i j=Lin.mm k (vecF x) (Lin.mm k (sprX k X) (vecF (invN X))) i j:=Lin.mm_congr k (fun _ _=>rfl) (fun m hm=>(hr m j hm hj).symm)
 rw [Lin.mm_one k _ i j hj,<- Lin.mm_assoc] at e1
 have e2:Lin.mm k (Lin.mm k (vecF x) (sprX k X)) (vecF (invN X)) i j=Lin.mm k Lin.one (vecF (invN X)) i j:=Lin.mm_congr k (fun m hm=>h i m hi hm) (fun _ _=>rfl)
 rw [e2,Lin.one_mm k _ i j hi] at e1
 exact e1
theorem toF_rsum {f val:Nat->Nat->Nat} (hf:∀ i j,f i j < 256) (hv:∀ j c,val j c < 256) (i c:Nat):∀ m,toF (rsumN f val i c m)=Lin.fsum m (fun j=>Lin.mu (toF (f i j)) (toF (val j c)))
 | 0=>rfl
 | m+1=>by
  show toF (rsumN f val i c m ^^^ Gf.mul (f i m) (val m c))=Lin.ad (Lin.fsum m _) _
  rw [toF_ad (rsumN_lt hf i c m) (Gf.mul_lt (hf i m) _),toF_rsum hf hv i c m,toF_mu (hf i m) (hv m c)]
theorem told {X:List Nat} {k:Nat} (hX:Gf.Bytes X) (hn:X.Nodup) (hl:X.length=k) (hk:k<=256) {u v:Nat->Nat->Nat} (hu:∀ j c,u j c < 256) (hvb:∀ j c,v j c < 256) (c:Nat) (hv:∀ i,i < k->v i c=rsumN (facN k) u (Gf.nth X i) c k) (m:Nat) (hm:m < k) :
 rsumN (invN X) v m c k=u m c:=by
 refine toF_inj (rsumN_lt (invN_lt X) _ _ _) (hu m c) ?_
 rw [toF_rsum (invN_lt X) hvb]
 have e1:Lin.fsum k (fun j=>Lin.mu (toF (invN X m j)) (toF (v j c)))=Lin.mm k (vecF (invN X)) (Lin.mm k (sprX k X) (fun j _=>toF (u j c))) m 0:=Lin.fsum_congr fun j hj=>by
  rw [hv j hj,toF_rsum (facN_lt k) hu]
  rfl
 rw [e1,<- Lin.mm_assoc]
 have e2:Lin.mm k (Lin.mm k (vecF (invN X)) (sprX k X)) (fun j _=>toF (u j c)) m 0=Lin.mm k Lin.one (fun j _=>toF (u j c)) m 0:=Lin.mm_congr k (fun t ht=>inv_left hX hn hl hk m t hm ht) (fun _ _=>rfl)
 rw [e2,Lin.one_mm k _ m 0 hm]
theorem rsumN_congr {f g val:Nat->Nat->Nat} {i c:Nat}:∀ k,(∀ j,j < k->f i j=g i j)->rsumN f val i c k=rsumN g val i c k
 | 0,_=>rfl
 | k+1,h=>by
  show rsumN f val i c k ^^^ _=rsumN g val i c k ^^^ _
  rw [rsumN_congr k (fun j hj=>h j (by omega)),h k (by omega)]
def catN (g:Nat->Nat->Nat) (wd m:Nat):List Nat:=(List.range m).flatMap fun i=>rowFn wd (g i)
theorem catN_succ (g:Nat->Nat->Nat) (wd m:Nat):catN g wd (m+1)=catN g wd m ++ rowFn wd (g m):=by simp [catN,List.range_succ]
theorem catN_length (g:Nat->Nat->Nat) (wd:Nat):∀ m,(catN g wd m).length=m*wd
 | 0=>by rw [Nat.zero_mul];rfl
 | m+1=>by rw [catN_succ,List.length_append,catN_length g wd m,rowFn_length,Nat.succ_mul]
theorem nth_append_lt {l r:List Nat} {p:Nat} (h:p < l.length):Gf.nth (l ++ r) p=Gf.nth l p:=by
 show (l ++ r).getD p 0=l.getD p 0
 rw [List.getD_eq_getElem?_getD,List.getD_eq_getElem?_getD,List.getElem?_append_left h]
theorem nth_append_ge {l r:List Nat} {p:Nat} (h:l.length<=p):Gf.nth (l ++ r) p=Gf.nth r (p - l.length):=by
 show (l ++ r).getD p 0=r.getD (p - l.length) 0
 rw [List.getD_eq_getElem?_getD,List.getD_eq_getElem?_getD,List.getElem?_append_right h]
theorem catN_nth (g:Nat->Nat->Nat) (wd:Nat):∀ m p,p < m*wd->Gf.nth (catN g wd m) p=g (p / wd) (p % wd)
 | 0,p,h=>by rw [Nat.zero_mul] at h;exact absurd h (Nat.not_lt_zero _)
 | m+1,p,h=>by
  rw [catN_succ]
  by_cases hp:p < m*wd
  ·rw [nth_append_lt (by rw [catN_length];exact hp)]
   exact catN_nth g wd m p hp
  ·have hw : 0 < wd := by
    rcases Nat.eq_zero_or_pos wd with e | e
    ·rw [e,Nat.mul_zero] at h;exact absurd h (Nat.not_lt_zero _)
    ·exact e
   have hlt:p - m*wd < wd:=by rw [Nat.succ_mul] at h;omega
   have hd:p=wd*m+(p - m*wd):=by rw [Nat.mul_comm wd m];omega
   have h1:p / wd=m:=by
    have h0:(wd*m+(p - m*wd)) / wd=m:=by rw [Nat.mul_add_div hw,Nat.div_eq_of_lt hlt,Nat.add_zero]
    rw [<- hd] at h0
    exact h0
   have h2:p % wd=p - m*wd:=by
    have:=Nat.mod_add_div p wd
    rw [h1,Nat.mul_comm wd m] at this
    omega
   rw [nth_append_ge (by rw [catN_length];omega),catN_length,nth_rowFn _ _ _ hlt,h1,h2]
theorem catN_take (g:Nat->Nat->Nat) (wd m size:Nat) (h:size<=m*wd):(catN g wd m).take size=rowFn size fun p=>g (p / wd) (p % wd):=by
 have hl:((catN g wd m).take size).length=size:=by rw [List.length_take,catN_length];omega
 refine nth_ext (by rw [hl,rowFn_length]) fun p hp=>?_
 rw [hl] at hp
 rw [nth_rowFn _ _ p hp,<- catN_nth g wd m p (by omega)]
 show ((catN g wd m).take size).getD p 0=(catN g wd m).getD p 0
 rw [List.getD_eq_getElem?_getD,List.getD_eq_getElem?_getD,List.getElem?_take_of_lt hp]
def byteL (l:List Nat):List UInt8:=l.map fun n=>UInt8.ofNat n
theorem strOf_data (l:List Nat):(strOf l).data.toList=byteL l:=by
 unfold strOf byteL
 rw [strOfNums_data,List.map_map]
 rfl
theorem strOf_mk (l:List Nat):strOf l=⟨(byteL l).toArray⟩:=by
 unfold strOf strOfNums byteL
 rw [List.map_map]
 rfl
theorem join_empty (xs:List (List UInt8)):Lib.join xs []=xs.flatten:=by
 cases xs with
 | nil=>rfl
 | cons x r =>
  rw [Lib.join_cons]
  unfold Lib.joinTail
  simp
theorem join_rows (g:Nat->Nat->Nat) (wd m:Nat):Lib.join (((List.range m).map fun i=>strOf (rowFn wd (g i))).map (·.data.toList)) []=byteL (catN g wd m):=by
 rw [join_empty,List.map_map]
 unfold catN byteL
 rw [List.map_flatMap,List.flatMap_def]
 congr 1
 exact List.map_congr_left fun i _=>strOf_data _
theorem strOf_take (l:List Nat) (size:Nat):(⟨(byteL l).toArray⟩:ByteArray).extract 0 size=strOf (l.take size):=by
 rw [ByteArray.extract_mk,strOf_mk]
 congr 2
 unfold byteL
 rw [List.drop_zero,Nat.sub_zero,List.map_take]
theorem wide_mul {k size:Nat} (hk:1<=k):size<=k*wideN k size:=by
 rcases Nat.lt_or_ge (wideN k size*k) size with h | h
 ·exact absurd (wideN_lt hk h) (Nat.lt_irrefl _)
 ·rw [Nat.mul_comm];exact h
def atsN (so:List (Int×ByteArray)):List Nat:=so.map fun x=>x.1.toNat
def txtN (so:List (Int×ByteArray)):Nat->Nat->Nat:=fun j c=>Gf.nth (bytesOf (shAt so j).2) c
theorem txtN_lt (so:List (Int×ByteArray)) (j c:Nat):txtN so j c < 256:=bytesOf_lt _ _
def decT (k size:Nat) (so:List (Int×ByteArray)):ByteArray:=strOf (rowFn size fun p=>rsumN (invN (atsN so)) (txtN so) (p / wideN k size) (p % wideN k size) k)
theorem decT_size (k size:Nat) (so:List (Int×ByteArray)):(decT k size so).size=size:=by
 unfold decT
 rw [strOf_size,rowFn_length]
def Somed (w':World) (n k wd:Nat) (l:List (Int×ByteArray)) (v:Value) (c:Int):Prop :=
 (c=3/\v=.slice none 0 0/\l.any (badB (n:Int) wd)=true)∨(c=8/\v=.slice none 0 0/\l.any (badB (n:Int) wd)=false/\(pickN k l l.length).length < k) ∨
  (c=0/\l.any (badB (n:Int) wd)=false/\(pickN k l l.length).length=k/\∃ p c',v=.slice p k c'/\Shs w' p (pickN k l l.length))
theorem any_take_succ {l:List (Int×ByteArray)} {P:Int×ByteArray->Bool} {j:Nat} (h:j < l.length):(l.take (j+1)).any P=((l.take j).any P || P (shAt l j)):=by
 rw [List.take_succ_eq_append_getElem h,List.any_append]
 have:shAt l j=l[j]:=by
  unfold shAt
  rw [List.getD_eq_getElem?_getD,List.getElem?_eq_getElem h]
  rfl
 rw [this]
 simp
set_option maxRecDepth 10000 in
set_option maxHeartbeats 8000000 in
theorem rsome_any (n k size:Nat) (p:Option Addr) (l:List (Int×ByteArray)) (cap:Nat) (w:World) (hk1:1<=k) (hkn:k<=n) (hn:n<=12) (hsz:size<=1000) (hl:l.length<=1000) (ht:∀ i,(shAt l i).2.size<=100000) (hs:Shs w p l) :
 Calls Tryz.prog 87 #[.int .i64 (n:Int),.int .i64 (k:Int),.int .i64 (size:Int),.slice p l.length cap] w fun e w'=>(∃ v c,e=.returned (.tuple #[v,.int .i64 c])/\Somed w' n k (wideN k size) l v c)/\Below w.heap.size w w':=by
 obtain ⟨i1,hi1,hy0,hy1,hy2⟩:=info_parts shinfo
 have hwd:=wideN_le (size:=size) hk1
 have HWD:Hid (∀ W,Calls Tryz.prog 28 #[.int .i64 (k:Int),.int .i64 (size:Int)] W fun e w'=>e=.returned (.int .i64 ((wideN k size:Nat):Int))/\w'=W):=fun W=>rwide_any k size W hk1 (by omega) (by omega)
 have HS:Hid (Shs w p l):=hs
 clear hs
 generalize wideN k size=wd at *
 have g1:decide ((size:Int) < 0)=false:=decide_eq_false (by omega)
 have g2:decide (1000 < (size:Int))=false:=decide_eq_false (by omega)
 go_enter Tryz.func87,Tryz.ntmps87
 go_wp2_with fail
 refine (isSpread_yes n k _ (by omega) (by omega) (by omega)).mono ?_
 rintro e w' ⟨rfl,hww⟩
 rw [hww]
 clear hww w'
 go_wp2
 go_loopw [11,12] (fun v x wr=>∃ i:Nat,i<=l.length/\x=.int .i64 i/\wr.ownsRow w.heap.size 45 2 v (pickN k l i).length (shVals (pickN k l i))/\(∀ j,j < i->badB (n:Int) wd (shAt l j)=false)/\Below w.heap.size w wr) (fun _ x _=>l.length - (intOf x).toNat)
 case atStart=>exact ⟨0,by omega,rfl,World.ownsRow_nil _ _ _ _,fun j hj=>absurd hj (Nat.not_lt_zero _),Below.refl _ _⟩
 case round =>
  obtain ⟨i,hi,rfl,hO,hG,hB⟩:=hrel
  obtain ⟨w3,rfl⟩:∃ w3,w3=wr:=⟨_,rfl⟩
  obtain ⟨pv,cv,rfl,hsh⟩:=shs_of_own hO
  have HO:Hid (w3.ownsRow w.heap.size 45 2 (.slice pv (pickN k l i).length cv) (pickN k l i).length (shVals (pickN k l i))):=hO
  have HB:Hid (Below w.heap.size w w3):=hB
  have HSH:Hid (Shs w3 pv (pickN k l i)):=hsh
  have HG:Hid (∀ j,j < i->badB (n:Int) wd (shAt l j)=false):=hG
  have hz3:w.heap.size<=w3.heap.size:=hB.size
  have hle:=pickN_le k l i
  clear hO hB hsh hG
  by_cases hil:i < l.length
  ·rcases (HS.out.below HB.out) with h0 | ⟨b1,o1,rfl,hb1,hc1⟩
   ·rw [h0] at hil;simp at hil
   obtain ⟨q1,q2⟩:=hc1 i hil
   have hti:=ht i
   have HNX:Hid (∀ y t,shAt l i=(y,t)->True):=fun _ _ _=>trivial
   clear hc1 HNX
   by_cases hbad:badB (n:Int) wd (shAt l i)=true
   ·have HANY:Hid (l.any (badB (n:Int) wd)=true):=any_of_at hil hbad
    have hcase:(shAt l i).1 < 0∨0<=(shAt l i).1/\n<=(shAt l i).1∨0<=(shAt l i).1/\(shAt l i).1 < n/\(shAt l i).2.size≠wd:=by
     unfold badB at hbad
     simp only [Bool.or_eq_true,decide_eq_true_eq,Bool.not_eq_true',decide_eq_false_iff_not] at hbad
     omega
    clear hbad
    generalize (shAt l i).1=x at *
    generalize (shAt l i).2=t at *
    generalize pickN k l i=so at *
    rcases hcase with h1 | ⟨h0,h1⟩ | ⟨h0,h1,h2⟩
    ·have hd:decide (x < 0)=true:=decide_eq_true h1
     go_wp2
     go_quiet (fail)
     go_wp2
     go_ret2
     exact ⟨⟨_,3,rfl,Or.inl ⟨rfl,rfl,HANY.out⟩⟩,below_drewN HB.out _⟩
    ·have hd:decide (x < 0)=false:=decide_eq_false (by omega)
     have hd2:decide ((n:Int)<=x)=true:=decide_eq_true h1
     go_wp2
     go_quiet (fail)
     go_wp2
     go_ret2
     exact ⟨⟨_,3,rfl,Or.inl ⟨rfl,rfl,HANY.out⟩⟩,below_drewN HB.out _⟩
    ·have hd:decide (x < 0)=false:=decide_eq_false (by omega)
     have hd2:decide ((n:Int)<=x)=false:=decide_eq_false (by omega)
     have hd3:((t.size:Int) != (wd:Int))=true:=by rw [bne_iff_ne];omega
     clear h2
     go_wp2
     go_quiet ((go_at_call 28;exact Calls.quiet_of_same (HWD.out _)))
     go_wp2
     go_ret2
     exact ⟨⟨_,3,rfl,Or.inl ⟨rfl,rfl,HANY.out⟩⟩,below_drewN HB.out _⟩
   ·have hbf:badB (n:Int) wd (shAt l i)=false:=Bool.eq_false_iff.2 hbad
    have HBF:Hid (badB (n:Int) wd (shAt l i)=false):=hbf
    have hcase:0<=(shAt l i).1/\(shAt l i).1 < n/\(shAt l i).2.size=wd:=by
     unfold badB at hbf
     simp only [Bool.or_eq_false_iff,decide_eq_false_iff_not,Bool.not_eq_false',decide_eq_true_eq] at hbf
     omega
    obtain ⟨h0,h1,h2⟩:=hcase
    have hd:decide ((shAt l i).1 < 0)=false:=decide_eq_false (by omega)
    have hd2:decide ((n:Int)<=(shAt l i).1)=false:=decide_eq_false (by omega)
    have hd3:(((shAt l i).2.size:Int) != (wd:Int))=false:=by rw [h2];simp
    have HPT:Hid ((pickN k l i).any (fun y=>y.1==(shAt l i).1)=true->pickN k l (i+1)=pickN k l i):=fun h=>pickN_twice h
    have HPF:Hid (¬ (pickN k l i).length < k->pickN k l (i+1)=pickN k l i):=fun h=>pickN_full h
    have HPY:Hid ((pickN k l i).length < k->(pickN k l i).any (fun y=>y.1==(shAt l i).1)=false->pickN k l (i+1)=pickN k l i ++ [shAt l i]):=fun h1 h2=>pickN_yes h1 h2
    have HGN:Hid (∀ j,j < i+1->badB (n:Int) wd (shAt l j)=false):=fun j hj=>by
     by_cases e:j=i
     ·rw [e];exact hbf
     ·exact HG.out j (by omega)
    clear hbad hbf h2 HG HBF
    generalize hxt:shAt l i=xt at *
    clear hxt
    obtain ⟨x,t⟩:=xt
    dsimp only at q1 q2 hti h0 h1 hd hd2 hd3
    generalize pickN k l i=so at *
    go_wp2
    go_quiet ((go_at_call 28;exact Calls.quiet_of_same (HWD.out _)))
    have HB4:Hid (Below w.heap.size w (w3.drewN nq)):=below_drewN HB.out _
    have HO4:Hid ((w3.drewN nq).ownsRow w.heap.size 45 2 (.slice pv so.length cv) so.length (shVals so)):=World.ownsRow.kept HO.out (grownBy_drewN w3 nq none) (by cases hv:(Value.slice pv so.length cv).ownBlock <;> simp)
    have HSH4:Hid (Shs (w3.drewN nq) pv so):=HSH.out.below (below_drewN (Below.refl _ _) _)
    have r1:(w3.drewN nq).cell? ⟨b1,o1+i*2,none⟩=some (.int .i64 x):=q1
    have r2:(w3.drewN nq).cell? ⟨b1,o1+i*2+1,none⟩=some (.string t):=q2
    have hb14:b1 < (w3.drewN nq).heap.size:=hb1
    have hz4:w.heap.size<=(w3.drewN nq).heap.size:=hz3
    clear q1 q2 HO HB HSH hb1 hz3 hd3
    generalize w3.drewN nq=w4 at *
    go_wp2
    go_loopw [13,14] (fun b y wq=>∃ j:Nat,j<=so.length/\y=.int .i64 j/\b=.bool ((so.take j).any (fun y=>y.1==x))/\Below w4.heap.size w4 wq) (fun _ y _=>so.length - (intOf y).toNat)
    case atStart=>exact ⟨0,by omega,rfl,by simp,Below.refl _ _⟩
    case round =>
     obtain ⟨j,hj,rfl,rfl,hBq⟩:=hrel
     obtain ⟨w5,rfl⟩:∃ w5,w5=wr:=⟨_,rfl⟩
     have HBq:Hid (Below w4.heap.size w4 w5):=hBq
     clear hBq
     have s1:w5.cell? ⟨b1,o1+i*2,none⟩=some (.int .i64 x):=(HBq.out.cell (p:=⟨b1,o1+i*2,none⟩) hb14).trans r1
     have s2:w5.cell? ⟨b1,o1+i*2+1,none⟩=some (.string t):=(HBq.out.cell (p:=⟨b1,o1+i*2+1,none⟩) hb14).trans r2
     by_cases hjl:j < so.length
     ·rcases (HSH4.out.below HBq.out) with h9 | ⟨b2,o2,rfl,hb2,hc2⟩
      ·rw [h9] at hjl;simp at hjl
      obtain ⟨u1,_⟩:=hc2 j hjl
      have HST:Hid ((so.take (j+1)).any (fun y=>y.1==x)=((so.take j).any (fun y=>y.1==x) || ((shAt so j).1==x))):=any_take_succ hjl
      clear hc2
      generalize (so.take j).any (fun y=>y.1==x)=bb at *
      generalize (shAt so j).1=y at *
      by_cases hyx:y=x
      ·subst hyx
       go_wp2
       go_quiet (fail)
       go_wp2
       go_roundw
       case rel=>exact ⟨j+1,by omega,by go_num,by rw [HST.out];simp,below_drewN HBq.out _⟩
       case measure=>simp [intOf];omega
      ·have hyb:(y==x)=false:=by simpa using hyx
       have HYB:Hid ((y==x)=false):=hyb
       clear hyx
       go_wp2
       go_quiet (fail)
       go_wp2
       go_roundw
       case rel=>exact ⟨j+1,by omega,by go_num,by rw [HST.out,HYB.out,Bool.or_false],below_drewN HBq.out _⟩
       case measure=>simp [intOf];omega
     ·have hje:j=so.length:=by omega
      have htk:so.take j=so:=by rw [hje,List.take_length]
      rw [htk]
      clear htk
      have HB5:Hid (Below w.heap.size w w5):=HB4.out.trans (HBq.out.mono hz4)
      have HO5:Hid (w5.ownsRow w.heap.size 45 2 (.slice pv so.length cv) so.length (shVals so)):=World.ownsRow.kept HO4.out (below_grown HBq.out none) (by cases hv:(Value.slice pv so.length cv).ownBlock <;> simp)
      have hz5:w.heap.size<=w5.heap.size:=HB5.out.size
      by_cases hany:so.any (fun y=>y.1==x)=true
      ·have HP:=HPT.out hany
       have HPN:Hid (pickN k l (i+1)=so):=HP
       rw [hany]
       clear hany HP hje
       go_wp2
       go_roundw
       case rel=>exact ⟨i+1,by omega,by go_num,by rw [HPN.out];exact HO5.out,HGN.out,HB5.out⟩
       case measure=>simp [intOf];omega
      ·have hany':so.any (fun y=>y.1==x)=false:=Bool.eq_false_iff.2 hany
       rw [hany']
       clear hany hje
       by_cases hlt:so.length < k
       ·have HPN:Hid (pickN k l (i+1)=so ++ [(x,t)]):=HPY.out hlt hany'
        clear hany' HPT HPF HPY
        go_wp2_with (first | (at_builtin;refine wpList_append_own _ rfl (.tmp 86) (.tmp 91) 32 rfl w.heap.size 45 i1 (.agg #[.int .i64 0,.string ⟨#[]⟩]) 2 24 Tryz.underlying32 hi1 hy0 hy1 hy2 rfl (by decide) (.slice pv so.length cv) so.length (shVals so) rfl (World.ownsRow.alloc HO5.out _) ⟨w5.heap.size,0,none⟩ 1 1 [.int .i64 x,.string t] rfl rfl (fun j u hj=>by match j,hj with | 0,hj=>(simp at hj;subst hj;simp [Addr.add]) | 1,hj=>(simp at hj;subst hj;simp [Addr.add])) (fun u hu=>by simp at hu;rcases hu with rfl | rfl <;> rfl) (by unfold maxLen;omega) (by omega) (by simp;omega) ?_;intro v' w8 hown' hg' _))
        have hb8:Below w.heap.size w w8:=(HB5.out.alloc (by omega) _).grown hg' (by simp;omega) (fun g hg=>(World.ownsRow.lt HO5.out g hg).1)
        go_roundw
        case rel=>exact ⟨i+1,by omega,by go_num,by rw [HPN.out,shVals_snoc,List.length_append,List.length_singleton];exact hown',HGN.out,hb8⟩
        case measure=>simp [intOf];omega
       ·have HPN:Hid (pickN k l (i+1)=so):=HPF.out hlt
        clear hany' HPT HPF HPY
        go_wp2
        go_roundw
        case rel=>exact ⟨i+1,by omega,by go_num,by rw [HPN.out];exact HO5.out,HGN.out,HB5.out⟩
        case measure=>simp [intOf];omega
  ·have hie:i=l.length:=by omega
   subst hie
   have HNB:Hid (l.any (badB (n:Int) wd)=false):=none_of_at fun j hj=>HG.out j hj
   by_cases hlt:(pickN k l l.length).length < k
   ·go_wp2
    go_ret2
    exact ⟨⟨_,8,rfl,Or.inr (Or.inl ⟨rfl,rfl,HNB.out,hlt⟩)⟩,HB.out⟩
   ·have HEQ:Hid ((pickN k l l.length).length=k):=by show _=_;omega
    go_wp2
    go_ret2
    exact ⟨⟨.slice pv (pickN k l l.length).length cv,0,rfl,Or.inr (Or.inr ⟨rfl,HNB.out,HEQ.out,pv,cv,by rw [HEQ.out],HSH.out⟩)⟩,HB.out⟩
end Go.Proofs.YtghpdhegfnhmkaaGreatDoor
