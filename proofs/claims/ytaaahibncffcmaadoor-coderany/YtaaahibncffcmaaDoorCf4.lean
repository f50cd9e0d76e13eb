/- Texts laid together. -/
import Derived.Test.YtaaahibncffcmaaDoorCf3
import Derived.Shelf.Strings.OnBuilder
set_option maxRecDepth 10000
set_option maxHeartbeats 4000000
open Option renaming none->aa,some->ab
open List renaming getD_eq_getElem?_getD->ac,getElem?_eq_getElem->af,getElem?_map->ah,range->aj,length_map->ao,getElem?_eq_none->ap,length_cons->aw,getElem_mem->ax,length_singleton->aB,getElem?_range->aF,mem_singleton->aI,length_append->aJ,range_succ->aW
open Go.RowKit renaming Below->ae
open Nat renaming le_refl->ag,mod_two_eq_zero_or_one->am,lt_irrefl->an,not_lt_zero->au,zero_add->az,mul_le_mul->aY,add_assoc->bf
open Int renaming natCast_mul->ai
open Go.RowKit.Below renaming refl->ak
open Go renaming madeCells->al,Calls->aq,info_parts->av,run_index_string->aP,below_drewN->aS,Value->zb,wpList_make_row->zd,size_madeCells->ze,run_underlying->ba,Addr->bl
open Go.IntKind renaming wrap_i64->ar,i64->aE
open Bool renaming false->F,true->zc
open Classical renaming choose->ay
open Or renaming inr->aC,inl->bi
namespace Go.Proofs
open Go.Shelf
def Tryd.lays156_ren : Go.Shelf.Ren := ⟨fun | 156 => 53 | 165 => 72 | 166 => 73 | 169 => 74 | 240 => 85 | 241 => 86 | 276 => 90 | 277 => 91 | n => n, fun | 31 => 72 | 9 => 9 | 3 => 3 | 4 => 4 | 0 => 0 | 20 => 20 | 72 => 100 | 76 => 37 | 70 => 98 | 37 => 32 | 75 => 25 | 127 => 119 | 164 => 104 | 5 => 5 | 80 => 103 | n => n, fun | n => n⟩
theorem Tryd.lays156 : Go.Proofs.Lays.n156 Tryd.prog Tryd.lays156_ren := {
  mixed := by kernel_rfl
  f156 := Tryd.func53.trans (congrArg ab (by kernel_rfl))
  f165 := Tryd.func72.trans (congrArg ab (by kernel_rfl))
  f166 := Tryd.func73.trans (congrArg ab (by kernel_rfl))
  f169 := Tryd.func74.trans (congrArg ab (by kernel_rfl))
  f240 := Tryd.func85.trans (congrArg ab (by kernel_rfl))
  f241 := Tryd.func86.trans (congrArg ab (by kernel_rfl))
  f276 := Tryd.func90.trans (congrArg ab (by kernel_rfl))
  f277 := Tryd.func91.trans (congrArg ab (by kernel_rfl))
  t0 := Tryd.underlying0
  a0 := Tryd.isAgg0
  z0 := Tryd.sizeOf0
  v0 := Tryd.zeroValue0
  t3 := Tryd.underlying3
  a3 := Tryd.isAgg3
  z3 := Tryd.sizeOf3
  v3 := Tryd.zeroValue3
  t4 := Tryd.underlying4
  a4 := Tryd.isAgg4
  z4 := Tryd.sizeOf4
  v4 := Tryd.zeroValue4
  t9 := Tryd.underlying9
  a9 := Tryd.isAgg9
  z9 := Tryd.sizeOf9
  v9 := Tryd.zeroValue9
  t20 := Tryd.underlying20
  a20 := Tryd.isAgg20
  z20 := Tryd.sizeOf20
  v20 := Tryd.zeroValue20
  t31 := Tryd.underlying72
  a31 := Tryd.isAgg72
  z31 := Tryd.sizeOf72
  v31 := Tryd.zeroValue72
  t37 := Tryd.underlying32
  a37 := Tryd.isAgg32
  z37 := Tryd.sizeOf32
  v37 := Tryd.zeroValue32
  t70 := Tryd.underlying98
  a70 := Tryd.isAgg98
  z70 := Tryd.sizeOf98
  v70 := Tryd.zeroValue98
  t72 := Tryd.underlying100
  a72 := Tryd.isAgg100
  z72 := Tryd.sizeOf100
  v72 := Tryd.zeroValue100
  t75 := Tryd.underlying25
  a75 := Tryd.isAgg25
  z75 := Tryd.sizeOf25
  v75 := Tryd.zeroValue25
  t76 := Tryd.underlying37
  a76 := Tryd.isAgg37
  z76 := Tryd.sizeOf37
  v76 := Tryd.zeroValue37
  t127 := Tryd.underlying119
  a127 := Tryd.isAgg119
  z127 := Tryd.sizeOf119
  v127 := Tryd.zeroValue119
  t164 := Tryd.underlying104
  a164 := Tryd.isAgg104
  z164 := Tryd.sizeOf104
  v164 := Tryd.zeroValue104 }
theorem Tryd.Builder_Extra_156 : Builder.Extra Tryd.prog Tryd.lays156_ren := {
  sizeBuilder := by kernel_rfl
  liesBuilder := by kernel_rfl
  t5 := Tryd.underlying5
  a5 := Tryd.isAgg5
  z5 := Tryd.sizeOf5
  v5 := Tryd.zeroValue5
  infoByte := by kernel_rfl
  cellsByte := by kernel_rfl
  sizeByte := by kernel_rfl
  neB5 := by decide }
open Go.RowKit in
/-- strings.Join, however many elements. -/
theorem Tryd.strings_Join (bk o c : Nat) (xs : List ByteArray) (sep : ByteArray) (w : World) (hcells : ∀ (j : Nat) x, xs[j]? = ab x → w.cell? ⟨bk, o + j, aa⟩ = ab (.string x)) (hbk : bk < w.heap.size) (hN : xs.length ≤ 140737488355328) (hcap : xs.length ≤ c) (hlen : (Lib.join (xs.map (·.data.toList)) sep.data.toList).length ≤ 140737488355328) :
    aq Tryd.prog 53 #[.slice (ab ⟨bk, o, aa⟩) xs.length c, .string sep] w fun e w' => e = .returned (.string ⟨(Lib.join (xs.map (·.data.toList)) sep.data.toList).toArray⟩) ∧ ae w.heap.size w w' := Any.strings_Join Tryd.lays156 Tryd.Builder_Extra_156 bk o c xs sep w hcells hbk hN hcap hlen
end Go.Proofs
namespace Go.Proofs.YtaaahibncffcmaaDoor
open Go.RowKit
variable {w w':World}{B i n g k:Nat}{v:zb}{l:List (Int×ByteArray)}{P:Int×ByteArray->Bool}{d:Nat->zb}{f:Nat->Int×ByteArray}{X:List Nat}
theorem y5 (k n i:Nat) (d:i < n):Qh (kK k n) i=Qi k fun j=>Gf.aQ (JB k) j i:=by
 unfold Qh kK
 rw [ac,ah,aF d]
 rfl
def Xh (s:List Nat) (k d i c:Nat):Nat->Nat
 | 0=>0
 | j+1=>if j*d+c < s.length then Xh s k d i c j ^^^ Gf.mul (Gf.aQ (JB k) j i) (Gf.nth s (j*d+c)) else Xh s k d i c j
def Yr (s:List Nat) (k d i:Nat):List Nat:=Qi d fun c=>Xh s k d i c k
theorem o6 (s:List Nat) (k d i c:Nat):∀ j,Xh s k d i c j < 256
 | 0=>by show 0 < 256;decide
 | j+1=>by
  show (if j*d+c < s.length then Xh s k d i c j ^^^ Gf.mul (Gf.aQ (JB k) j i) (Gf.nth s (j*d+c)) else Xh s k d i c j) < 256
  split
  ·exact Gf.iK (o6 s k d i c j) (Gf.aV (Gf.bL _ _ _) _)
  ·exact o6 s k d i c j
def k4 (l:List (Nat×List Nat)):List Value:=l.flatMap fun x=>[.int .i64 (x.1:Int),.string (Jp x.2)]
def hD (w:World) (B:Nat) (v:zb) (l:List (Nat×List Nat)):Prop:=w.ownsRow B 48 2 v l.length (k4 l)
theorem vH:(Tryd.prog.info? 48).map (fun i=>(i.zero,i.size,i.bytes))=ab (ab (.agg #[.int .i64 0,.string ⟨#[]⟩]),2,24):=by kernel_rfl
theorem W1 (l:List (Nat×List Nat)) (x:Nat×List Nat):k4 (l ++ [x])=k4 l ++ [.int .i64 (x.1:Int),.string (Jp x.2)]:=by simp [k4]
theorem hD.snoc  {l:List (Nat×List Nat)} {row:List Nat} (h:w.ownsRow B 48 2 v (n+1) (k4 l ++ [.int .i64 (i:Int),.string (Jp row)])) (d:n=l.length):hD w B v (l ++ [(i,row)]):=by
 unfold hD
 rw [W1,aJ,aB,<- d]
 exact h
def Ji (l:List (Int×ByteArray)) (i:Nat):Int×ByteArray:=l.getD i (0,⟨#[]⟩)
def fE (w:World) (p:Option bl) (l:List (Int×ByteArray)):Prop :=
 l=[]∨∃ b o,p=ab ⟨b,o,aa⟩/\b < w.heap.size/\∀ i,i < l.length->w.cell? ⟨b,o+i*2,aa⟩=ab (.int .i64 (Ji l i).1)/\w.cell? ⟨b,o+i*2+1,aa⟩=ab (.string (Ji l i).2)
theorem fE.below {p:Option bl} (h:fE w p l) (f:ae w.heap.size w w'):fE w' p l:=by
 rcases h with h | ⟨b,o,t,d,j⟩
 ·exact bi h
 ·exact aC ⟨b,o,t,Nat.lt_of_lt_of_le d f.size,fun i s=>⟨(f.cell (p:=⟨b,o+i*2,aa⟩) d).trans (j i s).1,(f.cell (p:=⟨b,o+i*2+1,aa⟩) d).trans (j i s).2⟩⟩
def Js (l:List (Int×ByteArray)):List Value:=l.flatMap fun x=>[.int .i64 x.1,.string x.2]
theorem Jbg (l:List (Int×ByteArray)):(Js l).length=l.length*2:=by
 induction l with
 | nil=>rfl
 | cons x t ih =>
  have:Js (x :: t)=.int .i64 x.1 :: .string x.2 :: Js t:=rfl
  rw [this,aw,aw,ih,aw]
  omega
theorem DP:∀ (l:List (Int×ByteArray)) (i:Nat),i < l.length->(Js l)[i*2]?=ab (.int .i64 (Ji l i).1)/\(Js l)[i*2+1]?=ab (.string (Ji l i).2)
 | [],i,h=>absurd h (au _)
 | x :: t,0,_=>⟨rfl,rfl⟩
 | x :: t,i+1,h=>by
  have d:=DP t i (by simpa using h)
  have e:Js (x :: t)=.int .i64 x.1 :: .string x.2 :: Js t:=rfl
  have f:Ji (x :: t) (i+1)=Ji t i:=rfl
  rw [e,f,show (i+1)*2=i*2+1+1 by omega,show i*2+1+1+1=i*2+1+1+1 from rfl]
  exact ⟨by simpa using d.1,by simpa using d.2⟩
theorem fE.cells {b o:Nat} (z:∀ i,i < l.length->w.cell? ⟨b,o+i*2,aa⟩=ab (.int .i64 (Ji l i).1)/\w.cell? ⟨b,o+i*2+1,aa⟩=ab (.string (Ji l i).2)):∀ j u,(Js l)[j]?=ab u->w.cell? ((⟨b,o,aa⟩:bl).add j)=ab u:=by
 intro j u d
 have y:j < (Js l).length:=(List.getElem?_eq_some_iff.1 d).1
 rw [Jbg] at y
 have h:j / 2 < l.length:=by omega
 have s:=DP l (j / 2) h
 have t:=z (j / 2) h
 rw [Addr.add_lit]
 rcases am j with e | e
 ·have f:j=j / 2*2:=by omega
  rw [f] at d ⊢
  rw [s.1] at d
  rw [t.1,<- d]
 ·have f:j=j / 2*2+1:=by omega
  rw [f] at d ⊢
  rw [s.2] at d
  rw [<- bf,t.2,<- d]
theorem nL   {E:TypeId} (h:w.ownsRow B E 2 v l.length (Js l)):∃ p c,v=.slice p l.length c/\fE w p l:=by
 rcases h.2 with ⟨rfl,s⟩ | ⟨g,t,A,rfl,D,y,G,H,I,J⟩
 ·have:l=[]:=List.length_eq_zero_iff.1 s
  subst this
  exact ⟨aa,0,rfl,bi rfl⟩
 ·refine ⟨ab ⟨g,0,aa⟩,t,rfl,aC ⟨g,0,rfl,(Array.getElem?_eq_some_iff.1 y).1,fun i z=>?_⟩⟩
  have d:=World.ownsRow.cells (g:=g) h rfl
  have f:=DP l i z
  have j:=d (i*2) _ f.1
  have o:=d (i*2+1) _ f.2
  rw [Addr.add_lit] at j o
  exact ⟨j,by rw [bf];exact o⟩
theorem JbW {P:Program} {d:Array Oper} {f:List Oper} {o:Oper} {a:Act} {Q:Exit->Act->World->Prop} (B:o.guard=aa) (s x:Operand) (t:TypeId)
 (D:o.op=.call { callee:=.builtin .append,args:=#[s,x],argTypes:=#[t,t] })
 (e:TypeId) (i:TypeInfo) (j:P.underlying t=ab (.slice e)) (y:P.info? e=ab i)
 (E:a.eval s=.slice aa 0 0) (q:Option bl) (c:Nat) (G:a.eval x=.slice q 0 c) (H:q=aa->c=0)
 (h:wpList P d Q f (a.put o.dst (.slice aa 0 0)) w):wpList P d Q (o :: f) a w:=by
 refine wpList_plain B fun K z=>?_
 have A:(Builtin.append_ #[t,t] o.type #[.slice aa 0 0,.slice q 0 c]).run P w=.ok (.slice aa 0 0) w:=by
  cases q with
  | none=>obtain rfl:=H rfl;simp [Builtin.append_,ba j,sizeOf,typeInfo,y,Builtin.lenOf,Builtin.firstCells]
  | some ad=>simp [Builtin.append_,ba j,sizeOf,typeInfo,y,Builtin.lenOf,Builtin.firstCells,loadCells,loadCellsFrom]
 unfold Oper.wp execOp
 simp only [D,resolve,invoke,builtin,Sem.run_bind,Sem.run_pure,Result.andThen_ok,List.map_toArray,List.map_cons,List.map_nil,E,G,A]
 exact z _ _ h
theorem Jc0:(Tryd.prog.info? 48).map (fun i=>(i.zero,i.size,i.bytes))=ab (ab (.agg #[.int .i64 0,.string ⟨#[]⟩]),2,24):=by kernel_rfl
theorem zM (size k:Nat) (w:World) (h:1<=k) (j:k<=1000) (o:size<=100000) :
 aq Tryd.prog 42 #[.int .i64 (size:Int),.int .i64 (k:Int)] w fun e w'=>e=.returned (.int .i64 ((Jk k size:Nat):Int))/\w'=w:=by
 have f:(1:Int)<=(k:Int):=by omega
 have d:Hid (((size:Int)+(k:Int) - 1) / (k:Int)=((Jk k size:Nat):Int)):=by
  show _=_
  unfold Jk
  rw [Int.natCast_ediv]
  congr 1
  omega
 go_enter Tryd.func42,Tryd.ntmps42
 go_wp2
 go_ret
 exact ⟨l4 d.out,rfl⟩
theorem KJ (size:Int) (w:World):aq Tryd.prog 68 #[.int .i64 size] w fun e w'=>e=.returned (.bool (decide (0<=size/\size<=1000)))/\w'=w:=by
 by_cases f:0<=size
 ·by_cases j:size<=1000
  ·have d:Hid (decide (0<=size/\size<=1000)=zc):=decide_eq_true ⟨f,j⟩
   rw [d.out]
   go_enter Tryd.func68,Tryd.ntmps68
   go_wp2
   go_ret
   exact ⟨rfl,rfl⟩
  ·have d:Hid (decide (0<=size/\size<=1000)=F):=decide_eq_false fun h=>j h.2
   rw [d.out]
   go_enter Tryd.func68,Tryd.ntmps68
   go_wp2
   go_ret
   exact ⟨rfl,rfl⟩
 ·have d:Hid (decide (0<=size/\size<=1000)=F):=decide_eq_false fun h=>f h.1
  rw [d.out]
  go_enter Tryd.func68,Tryd.ntmps68
  go_wp2
  go_ret
  exact ⟨rfl,rfl⟩
theorem GN (size:Int) (w:World) (h:0<=size/\size<=1000):aq Tryd.prog 68 #[.int .i64 size] w fun e w'=>e=.returned (.bool zc)/\w'=w:=by
 have d:=KJ size w
 rw [decide_eq_true h] at d
 exact d
theorem s9 (size:Int) (w:World) (h:¬ (0<=size/\size<=1000)):aq Tryd.prog 68 #[.int .i64 size] w fun e w'=>e=.returned (.bool F)/\w'=w:=by
 have d:=KJ size w
 rw [decide_eq_false h] at d
 exact d
theorem BZ (n k size:Nat) (z:bl) (w:World) (A:1<=k) (B:k<=n) (D:n<=12) (G:size<=1000) (o:w.cell? ⟨2,0,aa⟩=ab (.iface 136 (.pointer (ab z)))) :
 aq Tryd.prog 41 #[.int .i64 (n:Int),.int .i64 (k:Int),.int .i64 (size:Int)] w fun e w'=>(∃ d,e=.returned (.tuple #[.slice (ab ⟨d,0,aa⟩) n n,.nilIface])/\QJ w' (ab ⟨d,0,aa⟩) (kK k n))/\ae w.heap.size w w':=by
 have f:=Jo4 n k z w A B D o
 have h:Hid (aq Tryd.prog 68 #[.int .i64 (size:Int)] w fun e w'=>e=.returned (.bool zc)/\w'=w):=GN _ w (by omega)
 clear o
 go_enter Tryd.func41,Tryd.ntmps41
 go_wp2_with fail
 refine h.out.mono ?_
 rintro e s ⟨rfl,j⟩
 rw [j]
 clear j s h
 go_wp2_with fail
 refine f.mono ?_
 rintro e E ⟨⟨d,rfl,t⟩,y⟩
 clear f
 go_wp2
 go_ret2
 exact ⟨⟨d,rfl,t⟩,y⟩
theorem y0 (n k size:Int) (z:bl) (w:World) (h:¬ (1<=k/\k<=n/\n<=12/\0<=size/\size<=1000)) (t:w.cell? ⟨0,0,aa⟩=ab (.iface 136 (.pointer (ab z)))) :
 aq Tryd.prog 41 #[.int .i64 n,.int .i64 k,.int .i64 size] w fun e w'=>e=.returned (.tuple #[.slice aa 0 0,.iface 136 (.pointer (ab z))])/\ae w.heap.size w w':=by
 by_cases j:0<=size/\size<=1000
 ·have s:=U1 n k z w (by omega) t
  have d:Hid (aq Tryd.prog 68 #[.int .i64 size] w fun e w'=>e=.returned (.bool zc)/\w'=w):=GN _ w j
  clear t h j
  go_enter Tryd.func41,Tryd.ntmps41
  go_wp2_with fail
  refine d.out.mono ?_
  rintro e o ⟨rfl,f⟩
  rw [f]
  clear f o d
  go_wp2_with fail
  refine s.mono ?_
  rintro e A ⟨rfl,y⟩
  clear s
  go_wp2
  go_ret2
  exact ⟨rfl,y⟩
 ·have d:Hid (aq Tryd.prog 68 #[.int .i64 size] w fun e w'=>e=.returned (.bool F)/\w'=w):=s9 _ w j
  clear h j
  go_enter Tryd.func41,Tryd.ntmps41
  go_wp2_with fail
  refine d.out.mono ?_
  rintro e o ⟨rfl,f⟩
  rw [f]
  clear f o d
  go_wp2
  go_quiet (fail)
  go_wp2
  go_ret2
  exact ⟨rfl,aS (ak _ _) _⟩
def gN (s:ByteArray) (d:Nat):Nat->Nat->Nat:=fun j c=>Gf.nth (Zj s) (j*d+c)
theorem DM (s:ByteArray) (d j c:Nat):gN s d j c < 256:=xK s _
theorem VE {s:ByteArray} {d j c:Nat} (h:¬ j*d+c < s.size):gN s d j c=0:=by
 show (Zj s).getD _ 0=0
 rw [ac,ap (by simp [Zj];omega)]
 rfl
def JW (k:Nat) (s:ByteArray) (i:Nat):ByteArray:=Jp (J7 (fun i j=>Gf.aQ (JB k) j i) (gN s (Jk k s.size)) k (Jk k s.size) i)
def fR (k:Nat) (s:ByteArray) (i:Nat):Int×ByteArray:=((i:Int),JW k s i)
def j1 (n k:Nat) (s:ByteArray):List (Int×ByteArray):=(aj n).map (fR k s)
def i6 (f:Nat->Int×ByteArray):Nat->Value:=fun q=>if q % 2=0 then .int .i64 (f (q / 2)).1 else .string (f (q / 2)).2
def ZE (w:World) (g n:Nat) (f:Nat->Int×ByteArray):Prop:=w.rowIs g 48 (n*2) (i6 f)
theorem PO (f:Nat->Int×ByteArray) (i:Nat):i6 f (i*2)=.int .i64 (f i).1:=by unfold i6;rw [if_pos (by omega),Nat.mul_div_cancel _ (by decide)]
theorem PK (f:Nat->Int×ByteArray) (i:Nat):i6 f (i*2+1)=.string (f i).2:=by unfold i6;rw [if_neg (by omega),show (i*2+1) / 2=i by omega]
theorem ZE.at_  (h:ZE w g n f) (d:i < n):w.cell? ⟨g,i*2,aa⟩=ab (.int .i64 (f i).1):=by rw [World.rowIs.cell h (by omega),PO]
theorem ZE.text  (h:ZE w g n f) (d:i < n):w.cell? ⟨g,i*2+1,aa⟩=ab (.string (f i).2):=by rw [World.rowIs.cell h (by omega),PK]
theorem ZE.below  (h:ZE w g n f) (d:ae w.heap.size w w'):ZE w' g n f:=yN h d
theorem ZE.congr  {d:Nat->Int×ByteArray} (h:ZE w g n f) (j:∀ i,i < n->f i=d i):ZE w g n d:=World.rowIs.congr h (fun q o=>by unfold i6;rw [j (q / 2) (by omega)])
theorem ZE.set  (h:ZE w g n f) (i:Nat) (x:Int) (t:ByteArray):ZE ((w.setCell ⟨g,i*2,aa⟩ (.int .i64 x)).setCell ⟨g,i*2+1,aa⟩ (.string t)) g n (fun j=>if j=i then (x,t) else f j):=by
 refine World.rowIs.congr ((World.rowIs.set h (i*2) (.int .i64 x)).set (i*2+1) (.string t)) (fun q _=>?_)
 rcases am q with e | e
 ·rw [if_neg (by omega)]
  by_cases d:q=i*2
  ·rw [if_pos d]
   unfold i6
   dsimp only
   rw [if_pos e,if_pos (show q / 2=i by omega)]
  ·rw [if_neg d]
   unfold i6
   dsimp only
   rw [if_pos e,if_pos e,if_neg (show ¬ q / 2=i by omega)]
 ·by_cases d:q=i*2+1
  ·rw [if_pos d]
   unfold i6
   dsimp only
   rw [if_neg (show ¬ q % 2=0 by omega),if_pos (show q / 2=i by omega)]
  ·rw [if_neg d,if_neg (by omega)]
   unfold i6
   dsimp only
   rw [if_neg (show ¬ q % 2=0 by omega),if_neg (show ¬ q % 2=0 by omega),if_neg (show ¬ q / 2=i by omega)]
theorem ZE.e9  (h:ZE w g n f):fE w (ab ⟨g,0,aa⟩) ((aj n).map f):=by
 refine aC ⟨g,0,rfl,World.rowIs.lt h,fun i j=>?_⟩
 have d:i < n:=by simpa using j
 have e:Ji ((aj n).map f) i=f i:=by
  unfold Ji
  rw [ac,ah,aF d]
  rfl
 rw [e,az]
 exact ⟨h.at_ d,h.text d⟩
theorem ZE.made (w:World) (n:Nat):ZE (w.alloc (.cells (al #[.int .i64 0,.string ⟨#[]⟩] (n*2)) 48)) w.heap.size n (fun _=>(0,⟨#[]⟩)):=by
 have:=World.rowIs_alloc w (al #[.int .i64 0,.string ⟨#[]⟩] (n*2)) 48 (i6 fun _=>(0,⟨#[]⟩)) (fun i d=>by
  rw [ze] at d
  simp only [al]
  rw [Array.getElem?_map,Array.getElem?_eq_getElem (by simpa using d)]
  simp only [Array.getElem_range,Option.map_some]
  unfold i6
  rcases am i with e | e
  ·rw [if_pos e];simp [e]
  ·rw [if_neg (by omega)];simp [e])
 rw [ze] at this
 exact this
theorem Jhx (n:Nat) (t:n<=1000000) (W:World):Sem.run Tryd.prog (Instr.makeSlice 41 (.int .i64 (n:Int)) (.int .i64 (n:Int))) W=.ok (.slice (ab ⟨W.heap.size,0,aa⟩) n n) (W.alloc (.cells (al #[.int .i64 0,.string ⟨#[]⟩] (n*2)) 48)):=by
 obtain ⟨f,h,j,o,s⟩:=av vH
 have d:=run_make (P:=Tryd.prog) W 41 48 f _ Tryd.underlying41 h j .i64 .i64 n n (by omega) (Int.le_refl _) (by rw [s];omega) (by omega)
 simp only [Int.toNat_natCast,o] at d
 exact d
theorem ML (k:Nat) (w:World) (U:k<=100) :
 aq Tryd.prog 32 #[.int .i64 (k:Int)] w fun e w'=>(∃ v,e=.returned v/\Qu w' w.heap.size 5 v (JB k))/\ae w.heap.size w w':=by
 obtain ⟨s,t,y,z,A⟩:=av KF
 go_enter Tryd.func32,Tryd.ntmps32
 go_wp2
 go_loopw [3,4] (fun v j wr=>∃ n:Nat,n<=k/\j=.int .i64 n/\Qu wr w.heap.size 5 v (JB n)/\ae w.heap.size w wr) (fun _ j _=>k - (intOf j).toNat)
 case atStart=>exact ⟨0,by omega,rfl,Qu.nil _ _ _,ak _ _⟩
 case round =>
  obtain ⟨n,L,rfl,h,d⟩:=hrel
  have f:Hid (Qu wr w.heap.size 5 u3 (JB n)):=h
  have o:Hid (ae w.heap.size w wr):=d
  have B:w.heap.size<=wr.heap.size:=d.size
  have M:(JB n).length=n:=by simp [JB]
  clear h d
  by_cases N:n < k
  ·have D:Hid (JB (n+1)=JB n ++ [n]):=by show _=_;simp [JB,aW]
   go_wp2_with (first | (at_builtin;refine O6 rfl (.tmp 10) (.tmp 13) 32 rfl w.heap.size 5 s Tryd.underlying32 t y z A u3 (JB n) rfl (f.out.kept (World.grownBy_alloc wr _ aa) (by cases O:u3.ownBlock <;> simp)) ⟨wr.heap.size,0,aa⟩ 1 n rfl (by simp [ZM]) (by omega) (by simp;omega) ?_;intro Q E G H S))
   have I:ae w.heap.size w E:=(o.out.alloc B _).grown H (by simp;omega) (fun T J=>(f.out.block J).1)
   go_roundw
   case rel=>exact ⟨n+1,by omega,by go_num,by rw [D.out];exact G,I⟩
   case measure=>simp [intOf];omega
  ·have K:n=k:=by omega
   subst K
   go_wp2
   go_ret
   exact ⟨⟨u3,rfl,f.out⟩,o.out⟩
theorem Jbw (n k:Nat) (w:World) (hn:n<=100) (e1:1<=k) (D:k<=100) :
 aq Tryd.prog 15 #[.int .i64 (n:Int),.int .i64 (k:Int)] w fun e w'=>(∃ t G,e=.returned (.slice t n G)/\QJ w' t (kK k n))/\ae w.heap.size w w':=by
 obtain ⟨i1,a4,a5,a6,a7⟩:=av s4
 obtain ⟨i0,a8,a9,b1,b2⟩:=av KF
 go_enter Tryd.func15,Tryd.ntmps15
 go_wp2_with fail
 refine (ML k _ D).mono ?_
 rintro e f ⟨⟨vx,rfl,T⟩,H⟩
 obtain ⟨I,cx,U,V⟩:=T.s8 (tA k (by omega))
 rw [JE] at U
 subst U
 have b3:Hid (jU f I (JB k)):=V
 have b4:Hid (ae w.heap.size w f):=H
 have b5:w.heap.size<=f.heap.size:=H.size
 clear T V H
 go_wp2
 go_loopw [6,7] (fun v x wr=>∃ i:Nat,i<=n/\x=.int .i64 i/\k0 f.heap.size wr 32 v (kK k i)/\ae f.heap.size f wr) (fun _ x _=>n - (intOf x).toNat)
 case atStart=>exact ⟨0,by omega,rfl,k0.nil _ _ _,ak _ _⟩
 case round =>
  obtain ⟨i,hi,rfl,W,J⟩:=hrel
  have K:Hid (k0 f.heap.size wr 32 u6 (kK k i)):=W
  have L:Hid (ae f.heap.size f wr):=J
  have Y:f.heap.size<=wr.heap.size:=J.size
  clear W J
  by_cases d8:i < n
  ·go_wp2_with (first | (at_make;refine zd _ rfl (.tmp 17) (.tmp 17) 32 rfl 5 i0 (ZM 0) Tryd.underlying32 a8 a9 b1 rfl .i64 .i64 k rfl rfl (by rw [b2];omega) (by omega) ?_))
   obtain ⟨d,rfl⟩:∃ d,d=wr:=⟨_,rfl⟩
   have M:Zo (d.alloc (.cells (al #[ZM 0] k) 5)) d.heap.size 5 d.heap.size k (Qi k (fun c=>if c < 0 then Gf.aQ (JB k) c i else 0)):=by
    have:=Zo.made d d.heap.size 5 k (ag _) (by omega)
    rw [YL k _ (fun c=>if c < 0 then Gf.aQ (JB k) c i else 0) (fun c _=>by rw [if_neg (au _)])] at this
    exact this
   have N:ae d.heap.size d (d.alloc (.cells (al #[ZM 0] k) 5)):=(ak _ _).alloc (ag _) _
   generalize d.alloc (.cells (al #[ZM 0] k) 5)=w4 at M N ⊢
   have Z:Hid (Zo w4 d.heap.size 5 d.heap.size k (Qi k (fun c=>if c < 0 then Gf.aQ (JB k) c i else 0))):=M
   have a0:Hid (ae d.heap.size d w4):=N
   clear M N
   go_loopw [9] (fun x wq=>∃ j:Nat,j<=k/\x=.int .i64 j/\Zo wq d.heap.size 5 d.heap.size k (Qi k (fun c=>if c < j then Gf.aQ (JB k) c i else 0))/\ae d.heap.size d wq) (fun x _=>k - (intOf x).toNat)
   case atStart=>exact ⟨0,by omega,rfl,Z.out,a0.out⟩
   case round =>
    obtain ⟨j,hj,rfl,a1,O⟩:=hrel
    obtain ⟨o,rfl⟩:∃ o,o=wr:=⟨_,rfl⟩
    have y:Hid (Zo o d.heap.size 5 d.heap.size k (Qi k (fun c=>if c < j then Gf.aQ (JB k) c i else 0))):=a1
    have h:Hid (ae d.heap.size d o):=O
    have d9:d.heap.size<=o.heap.size:=O.size
    clear a1 O Z a0
    by_cases Q:j < k
    ·have a2:Hid (jU o I (JB k)):=(b3.out.below L.out).below h.out
     go_wp2_with fail
     refine (JbT I k cx j i _ (by omega) D Q a2.out).mono ?_
     rintro e s ⟨rfl,m,S⟩
     have z:Hid (Zo s d.heap.size 5 d.heap.size k (Qi k (fun c=>if c < j then Gf.aQ (JB k) c i else 0))):=by rw [S];exact y.out.drewN m
     have b6:Hid (ae d.heap.size d s):=by rw [S];exact aS h.out m
     have q5:s.cell? ⟨d.heap.size,j,aa⟩=ab (.int .u8 ((0:Nat):Int)):=by rw [z.out.cell j Q (Jf _ _),Yq _ _ j Q,if_neg (an _)]
     have q6:s.frozen? ⟨d.heap.size,j,aa⟩=false:=z.out.free j
     have HT:Hid (Zo (s.setCell ⟨d.heap.size,j,aa⟩ (.int .u8 ((Gf.aQ (JB k) j i:Nat):Int))) d.heap.size 5 d.heap.size k (Qi k (fun c=>if c < j+1 then Gf.aQ (JB k) c i else 0))):=by
      have:=z.out.set j (Gf.aQ (JB k) j i)
      rw [YL k (fun c=>if c < j+1 then Gf.aQ (JB k) c i else 0) (fun c=>if c=j then Gf.aQ (JB k) j i else if c < j then Gf.aQ (JB k) c i else 0) (fun c _=>by
       by_cases e:c=j
       ·subst e;rw [if_pos (by omega),if_pos rfl]
       ·rw [if_neg e]
        by_cases e':c < j
        ·rw [if_pos (by omega),if_pos e']
        ·rw [if_neg (by omega),if_neg e'])]
      exact this
     clear S y h a2 z
     generalize Gf.aQ (JB k) j i=sh at HT ⊢
     go_wp2
     go_roundw
     case rel=>exact ⟨j+1,by omega,by go_num,HT.out,b6.out.setCell (ag _) _⟩
     case measure=>simp [intOf];omega
    ·have b7:j=k:=by omega
     subst b7
     obtain ⟨A,B⟩:=K.out
     have b8:Hid (nP f.heap.size d 32 u6 A (kK j i)):=B
     have HV:Hid (JM d f.heap.size 32 u6 A):=B.1
     have d0:Hid (A.length=i):=B.2.1.trans (r6 j i)
     have hr:Hid (Qu o d.heap.size 5 (.slice (ab ⟨d.heap.size,0,aa⟩) j j) (Qi j fun c=>Gf.aQ (JB j) c i)):=by
      refine Zo.own ?_ (Jf _ _)
      rw [YL j _ (fun c=>if c < j then Gf.aQ (JB j) c i else 0) (fun c hc=>by rw [if_pos hc])]
      exact y.out
     clear B y
     go_wp2_with (first | (at_builtin;refine yL rfl (.tmp 32) (.tmp 34) 23 rfl f.heap.size 32 i1 (.slice aa 0 0) 24 Tryd.underlying23 a4 a5 rfl a6 a7 (by decide) u6 A rfl (((HV.out.kept (row:=aa) ⟨h.out.os,h.out.tape,h.out.output,h.out.size,fun k D _=>h.out.block k D⟩ (by cases E:u6.ownBlock <;> simp))).kept (World.grownBy_alloc o _ aa) (by cases E:u6.ownBlock <;> simp)) ⟨o.heap.size,0,aa⟩ 1 (.slice (ab ⟨d.heap.size,0,aa⟩) j j) rfl rfl (by simp) (by have:=d0.out;omega) (by simp;omega) ?_;intro v' w8 d1 a3 d2))
     have d3:=b8.out.snoc Y hr.out (XL _ _ fun c=>Gf.bL _ c _) h.out d1 a3 d2
     have d4:ae f.heap.size f w8:=((L.out.trans (h.out.mono Y)).alloc (by omega) _).grown a3 (by simp;omega) (fun k' d5=>(HV.out.block d5).1)
     go_roundw
     case rel=>exact ⟨i+1,by omega,by go_num,⟨_,by rw [R1];exact d3⟩,d4⟩
     case measure=>simp [intOf];omega
  ·have d6:i=n:=by omega
   subst d6
   obtain ⟨t,G,E,d7⟩:=K.out.tU
   rw [r6] at E
   subst E
   clear K
   go_wp2
   go_ret
   exact ⟨⟨t,G,rfl,d7⟩,b4.out.trans (L.out.mono b5)⟩
theorem JcJ (n k:Nat) (s:ByteArray) (w:World) (a7:1<=k) (i9:k<=n) (hn:n<=12) (hs:s.size<=3000) :
 aq Tryd.prog 22 #[.int .i64 (n:Int),.int .i64 (k:Int),.string s] w fun e w'=>(∃ v,e=.returned v/\hD w' w.heap.size v ((aj n).map fun i=>(i,Yr (Zj s) k (Jk k s.size) i)))/\ae w.heap.size w w':=by
 obtain ⟨i1,d8,d9,e1,e2⟩:=av vH
 obtain ⟨i0,e3,e4,e5,e9⟩:=av KF
 have i2:=xR (size:=s.size) a7
 go_enter Tryd.func22,Tryd.ntmps22
 go_wp2_with fail
 refine (JbX k s.size _ a7 (by omega) (by omega)).mono ?_
 rintro e w' ⟨rfl,a8⟩
 rw [a8]
 clear a8 w'
 go_wp2_with fail
 refine (Jbw n k _ (by omega) a7 (by omega)).mono ?_
 rintro e t ⟨⟨p2,c2,rfl,a9⟩,O⟩
 have f0:Hid (QJ t p2 (kK k n)):=a9
 have f1:Hid (ae w.heap.size w t):=O
 have b2:w.heap.size<=t.heap.size:=O.size
 clear a9 O
 generalize b3:Jk k s.size=f at *
 have f2:Hid (Jk k s.size=f):=b3
 clear b3
 go_wp2
 have i3:(Zj s).length=s.size:=by simp [Zj]
 go_loopw [9,10] (fun v x wr=>∃ i:Nat,i<=n/\x=.int .i64 i/\hD wr t.heap.size v ((aj i).map fun i=>(i,Yr (Zj s) k f i))/\ae t.heap.size t wr) (fun _ x _=>n - (intOf x).toNat)
 case atStart=>exact ⟨0,by omega,rfl,World.ownsRow_nil _ _ _ _,ak _ _⟩
 case round =>
  obtain ⟨i,hi,rfl,hO,Q⟩:=hrel
  obtain ⟨h,rfl⟩:∃ h,h=wr:=⟨_,rfl⟩
  have S:Hid (hD h t.heap.size u9 ((aj i).map fun i=>(i,Yr (Zj s) k f i))):=hO
  have K:Hid (ae t.heap.size t h):=Q
  have f3:t.heap.size<=h.heap.size:=Q.size
  clear hO Q
  by_cases T:i < n
  ·go_wp2_with (first | (at_make;refine zd _ rfl (.tmp 26) (.tmp 26) 32 rfl 5 i0 (ZM 0) Tryd.underlying32 e3 e4 e5 rfl .i64 .i64 f rfl rfl (by rw [e9];omega) (by omega) ?_))
   have U:Zo (h.alloc (.cells (al #[ZM 0] f) 5)) h.heap.size 5 h.heap.size f (Qi f (fun c=>if c < 0 then Xh (Zj s) k f i c k else 0)):=by
    have:=Zo.made h h.heap.size 5 f (ag _) (by omega)
    rw [YL f _ (fun c=>if c < 0 then Xh (Zj s) k f i c k else 0) (fun c _=>by rw [if_neg (au _)])] at this
    exact this
   have V:ae h.heap.size h (h.alloc (.cells (al #[ZM 0] f) 5)):=(ak _ _).alloc (ag _) _
   generalize h.alloc (.cells (al #[ZM 0] f) 5)=w4 at U V ⊢
   have b4:Hid (Zo w4 h.heap.size 5 h.heap.size f (Qi f (fun c=>if c < 0 then Xh (Zj s) k f i c k else 0))):=U
   have b5:Hid (ae h.heap.size h w4):=V
   clear U V
   go_loopw [12] (fun x H=>∃ c:Nat,c<=f/\x=.int .i64 c/\Zo H h.heap.size 5 h.heap.size f (Qi f (fun d=>if d < c then Xh (Zj s) k f i d k else 0))/\ae h.heap.size h H) (fun x _=>f - (intOf x).toNat)
   case atStart=>exact ⟨0,by omega,rfl,b4.out,b5.out⟩
   case round =>
    obtain ⟨c,hc,rfl,b6,b7⟩:=hrel
    obtain ⟨A,rfl⟩:∃ A,A=wr:=⟨_,rfl⟩
    have L:Hid (Zo A h.heap.size 5 h.heap.size f (Qi f (fun d=>if d < c then Xh (Zj s) k f i d k else 0))):=b6
    have B:Hid (ae h.heap.size h A):=b7
    clear b6 b7 b4 b5
    by_cases b8:c < f
    ·go_wp2
     go_loopw [13] (fun x H=>∃ j:Nat,j<=k/\x=.int .i64 j/\Zo H h.heap.size 5 h.heap.size f (Qi f (fun d=>if d < c then Xh (Zj s) k f i d k else if d=c then Xh (Zj s) k f i c j else 0))/\ae h.heap.size h H) (fun x _=>k - (intOf x).toNat)
     case atStart =>
      refine ⟨0,by omega,rfl,?_,B.out⟩
      rw [YL f _ (fun d=>if d < c then Xh (Zj s) k f i d k else 0) (fun d _=>by by_cases e:d=c <;> simp [e,Xh])]
      exact L.out
     case round =>
      obtain ⟨j,i4,rfl,d0,d1⟩:=hrel
      obtain ⟨z,rfl⟩:∃ z,z=wr:=⟨_,rfl⟩
      have G:Hid (Zo z h.heap.size 5 h.heap.size f (Qi f (fun d=>if d < c then Xh (Zj s) k f i d k else if d=c then Xh (Zj s) k f i c j else 0))):=d0
      have I:Hid (ae h.heap.size h z):=d1
      clear d0 d1 L B
      by_cases d2:j < k
      ·have M:j*f<=12*3000:=aY (by omega) (by omega)
       have i5:(0:Int)<=(j:Int)*(f:Int):=by rw [<- ai];omega
       have i7:(j:Int)*(f:Int)<=36000:=by rw [<- ai];omega
       by_cases Y:j*f+c < s.size
       ·have D:(j:Int)*(f:Int)+(c:Int) < (s.size:Int):=by rw [<- ai];omega
        have d3:(Qh (kK k n) i).length=k:=by rw [y5 k n i T,Jf]
        obtain ⟨bm,om,Z,o1,c1,f4,f5,f6,a0,a1⟩:=f0.out.row (i:=i) (by rw [r6];exact T) (by rw [d3];omega)
        subst f4
        rw [d3] at a0 a1
        have a2:∀ b o,b < t.heap.size->z.cell? ⟨b,o,aa⟩=t.cell? ⟨b,o,aa⟩:=fun b o M=>(I.out.cell (p:=⟨b,o,aa⟩) (by show b < _;omega)).trans (K.out.cell (p:=⟨b,o,aa⟩) M)
        have q1:z.cell? ⟨bm,om+i,aa⟩=ab (.slice (ab ⟨Z,o1,aa⟩) k c1):=(a2 _ _ f5).trans a0
        have q2:z.cell? ⟨Z,o1+j,aa⟩=ab (.int .u8 ((Gf.aQ (JB k) j i:Nat):Int)):=by rw [a2 _ _ f6,a1 j d2,y5 k n i T,Yq _ _ j d2]
        have q5:z.cell? ⟨h.heap.size,c,aa⟩=ab (.int .u8 ((Xh (Zj s) k f i c j:Nat):Int)):=by rw [G.out.cell c b8 (Jf _ _),Yq _ _ c b8,if_neg (an _),if_pos rfl]
        have q6:z.frozen? ⟨h.heap.size,c,aa⟩=false:=G.out.free c
        have lx:=Gf.bL (JB k) j i
        have ly:=xK s (j*f+c)
        have ls:=o6 (Zj s) k f i c j
        have lm:=Gf.aV lx (Gf.nth (Zj s) (j*f+c))
        have h0:(0:Int)<=(j:Int)*(f:Int)+(c:Int):=by omega
        have d4:∀ W,Sem.run Tryd.prog (Instr.index 9 (.string s) (.int .i64 ((j:Int)*(f:Int)+(c:Int)))) W=.ok (.int .u8 ((Gf.nth (Zj s) (j*f+c):Nat):Int)) W:=fun W=>by
         rw [aP W 9 s .i64 _ Tryd.underlying9,dif_pos ⟨h0,D⟩]
         rw [uD s (j*f+c) Y]
         congr 3
        have N:Hid (bits .xor .u8 ((Xh (Zj s) k f i c j:Nat):Int) ((Gf.mul (Gf.aQ (JB k) j i) (Gf.nth (Zj s) (j*f+c)):Nat):Int)=((Xh (Zj s) k f i c (j+1):Nat):Int)):=by
         show _=_
         rw [u8_xor_nat _ _ ls lm]
         show _=(((if j*f+c < (Zj s).length then _ else _):Nat):Int)
         rw [if_pos (by omega)]
        have f7:aE.wrap ((j:Int)*(f:Int))=(j:Int)*(f:Int):=by rw [ar];omega
        have f8:aE.wrap ((j:Int)*(f:Int)+(c:Int))=(j:Int)*(f:Int)+(c:Int):=by rw [ar];omega
        have n1:h.heap.size≠bm:=by omega
        have n2:h.heap.size≠Z:=by omega
        clear a2 a0 a1 Y M
        generalize Gf.aQ (JB k) j i=x at q2 lx lm N
        generalize Gf.nth (Zj s) (j*f+c)=y at d4 ly lm N
        have a3:Hid (Zo z h.heap.size 5 h.heap.size f (Qi f (fun d=>if d < c then Xh (Zj s) k f i d k else if d=c then Xh (Zj s) k f i c j else 0))):=G.out
        generalize Xh (Zj s) k f i c j=a4 at q5 ls N a3
        go_wp2
        refine wp_region_still_tail 23 (by kernel_rfl) (by kernel_rfl) ?_
        simp only [List.take_succ_cons,List.take_zero,List.drop_succ_cons,List.drop_zero]
        repeat still_step
        still_call (nR x y _ lx ly)
        repeat still_step
        refine wpStill_nil ?_
        rw [N.out]
        have d5:Hid (Zo (z.drewN 1) h.heap.size 5 h.heap.size f (Qi f (fun d=>if d < c then Xh (Zj s) k f i d k else if d=c then a4 else 0))):=a3.out.drewN 1
        have d6:Hid (ae h.heap.size h (z.drewN 1)):=aS I.out 1
        have f9:(z.drewN 1).cell? ⟨h.heap.size,c,aa⟩=ab (.int .u8 (a4:Int)):=q5
        have g0:(z.drewN 1).frozen? ⟨h.heap.size,c,aa⟩=false:=q6
        change wpList _ _ _ _ _ (z.drewN 1)
        generalize z.drewN 1=w7 at d5 d6 f9 g0 ⊢
        clear q1 q2 q5 q6 G a3 I d4 f7 f8 h0 D
        go_wp2
        go_roundw
        case rel =>
         refine ⟨j+1,by omega,by go_num,?_,d6.out.setCell (ag _) _⟩
         have:=d5.out.set c (Xh (Zj s) k f i c (j+1))
         rw [YL f (fun d=>if d < c then Xh (Zj s) k f i d k else if d=c then Xh (Zj s) k f i c (j+1) else 0) (fun d=>if d=c then Xh (Zj s) k f i c (j+1) else if d < c then Xh (Zj s) k f i d k else if d=c then a4 else 0) (fun d _=>by
          by_cases e:d=c
          ·subst e;rw [if_neg (an _),if_pos rfl,if_pos rfl]
          ·rw [if_neg e,if_neg e,if_neg e])]
         exact this
        case measure=>simp [intOf];omega
       ·have D:¬ (j:Int)*(f:Int)+(c:Int) < (s.size:Int):=by rw [<- ai];omega
        have HE:Hid (Xh (Zj s) k f i c (j+1)=Xh (Zj s) k f i c j):=by
         show (if j*f+c < (Zj s).length then _ else _)=_
         rw [if_neg (by omega)]
        clear M Y
        go_wp2
        go_roundw
        case rel=>exact ⟨j+1,by omega,by go_num,by rw [HE.out];exact G.out,I.out⟩
        case measure=>simp [intOf];omega
      ·have g1:j=k:=by omega
       subst g1
       go_wp2
       go_roundw
       case rel =>
        refine ⟨c+1,by omega,by go_num,?_,I.out⟩
        rw [YL f _ (fun d=>if d < c then Xh (Zj s) j f i d j else if d=c then Xh (Zj s) j f i c j else 0) (fun d _=>by
         by_cases e:d < c
         ·rw [if_pos (by omega),if_pos e]
         ·by_cases e':d=c
          ·subst e';rw [if_pos (by omega),if_neg e,if_pos rfl]
          ·rw [if_neg (by omega),if_neg e,if_neg e'])]
        exact G.out
       case measure=>simp [intOf];omega
    ·have g2:c=f:=by omega
     subst g2
     have a5:Zo A h.heap.size 5 h.heap.size c (Yr (Zj s) k c i):=by
      unfold Yr
      rw [YL c _ (fun d=>if d < c then Xh (Zj s) k c i d k else 0) (fun d J=>by rw [if_pos J])]
      exact L.out
     have g3:Sem.run Tryd.prog (convert 32 9 (.slice (ab ⟨h.heap.size,0,aa⟩) c c)) A=.ok (.string (Jp (Yr (Zj s) k c i))) A:=by
      have g4:jU A (ab ⟨h.heap.size,0,aa⟩) (Yr (Zj s) k c i):=⟨XL _ _ (fun d=>o6 _ _ _ _ _ _),aC ⟨h.heap.size,0,rfl,a5.lt.2,fun d J=>by
       have g5:d < c:=by unfold Yr at J;rw [Jf] at J;exact J
       rw [az]
       exact a5.cell d g5 (Jf _ _)⟩⟩
      have:=WU g4 c
      rw [show (Yr (Zj s) k c i).length=c from Jf _ _] at this
      exact this
     have i8:h.heap.size<=A.heap.size:=B.out.size
     have a6:Hid (hD A t.heap.size u9 ((aj i).map fun i=>(i,Yr (Zj s) k c i))):=World.ownsRow.kept S.out (⟨B.out.os,B.out.tape,B.out.output,B.out.size,fun k hk _=>B.out.block k hk⟩:h.grownBy A aa) (by cases hv:u9.ownBlock <;> simp)
     have g6:Hid (ae t.heap.size t A):=K.out.trans (B.out.mono f3)
     have HL:Hid (((aj i).map fun i=>(i,Yr (Zj s) k c i)).length=i):=by show _=_;simp
     clear a5 L
     have HR:Hid ((aj (i+1)).map (fun i=>(i,Yr (Zj s) k c i))=((aj i).map fun i=>(i,Yr (Zj s) k c i)) ++ [(i,Yr (Zj s) k c i)]):=by show _=_;simp [aW]
     generalize Yr (Zj s) k c i=row at g3 HR
     generalize ((aj i).map fun i=>(i,Yr (Zj s) k c i))=d7 at a6 HL HR
     go_wp2_with (first | (at_builtin;refine wpList_append_own _ rfl (.tmp 69) (.tmp 74) 41 rfl t.heap.size 48 i1 (.agg #[.int .i64 0,.string ⟨#[]⟩]) 2 24 Tryd.underlying41 d8 d9 e1 e2 rfl (by decide) u9 d7.length (k4 d7) rfl (World.ownsRow.alloc a6.out _) ⟨A.heap.size,0,aa⟩ 1 1 [.int .i64 (i:Int),.string (Jp row)] rfl rfl (fun j u E=>by match j,E with | 0,E=>(simp at E;subst E;simp [Addr.add]) | 1,E=>(simp at E;subst E;simp [Addr.add])) (fun u hu=>by simp at hu;rcases hu with rfl | rfl <;> rfl) (by rw [HL.out];unfold maxLen;omega) (by rw [HL.out];omega) (by simp;omega) ?_;intro v' w8 g7 g8 _))
     have g9:ae t.heap.size t w8:=(g6.out.alloc (by omega) _).grown g8 (by simp;omega) (fun g hg=>(World.ownsRow.lt a6.out g hg).1)
     have h3:=hD.snoc g7 rfl
     go_roundw
     case rel=>exact ⟨i+1,by omega,by go_num,by rw [HR.out];exact h3,g9⟩
     case measure=>simp [intOf];omega
  ·have h4:i=n:=by omega
   subst h4
   have HF:Hid (hD h w.heap.size u9 ((aj i).map fun j=>(j,Yr (Zj s) k (Jk k s.size) j))):=by
    show hD _ _ _ _
    rw [f2.out]
    obtain ⟨h1,D⟩:=S.out
    refine ⟨h1,?_⟩
    rcases D with D | ⟨g',h5,h6,e,h7,h8⟩
    ·exact bi D
    ·exact aC ⟨g',h5,h6,e,Nat.le_trans b2 h7,h8⟩
   have h9:Hid (ae w.heap.size w h):=f1.out.trans (K.out.mono b2)
   clear S K
   go_wp2
   go_ret
   exact ⟨⟨_,rfl,HF.out⟩,h9.out⟩
theorem W8 (pw t d j c:Nat) (s:ByteArray) (w:World) (D:j<=1000) (K:c<=100000) (E:d<=100000) (L:w.cell? ⟨pw,0,aa⟩=ab (.int .i64 (d:Int))) (M:w.cell? ⟨t,0,aa⟩=ab (.string s)) :
 aq Tryd.prog 44 (#[.int .i64 (j:Int),.int .i64 (c:Int)] ++ #[.pointer (ab ⟨pw,0,aa⟩),.pointer (ab ⟨t,0,aa⟩)]) w fun e z=>e=.returned (.int .u8 ((gN s d j c:Nat):Int))/\z=w:=by
 have h:j*d<=1000*100000:=aY D E
 have G:(0:Int)<=(j:Int)*(d:Int):=by rw [<- ai];omega
 have H:(j:Int)*(d:Int)<=100000000:=by rw [<- ai];omega
 have I:aE.wrap ((j:Int)*(d:Int))=(j:Int)*(d:Int):=by rw [ar];omega
 have J:aE.wrap ((j:Int)*(d:Int)+(c:Int))=(j:Int)*(d:Int)+(c:Int):=by rw [ar];omega
 by_cases f:j*d+c < s.size
 ·have o:(j:Int)*(d:Int)+(c:Int) < (s.size:Int):=by rw [<- ai];omega
  have A:(0:Int)<=(j:Int)*(d:Int)+(c:Int):=by omega
  have B:∀ W,Sem.run Tryd.prog (Instr.index 9 (.string s) (.int .i64 ((j:Int)*(d:Int)+(c:Int)))) W=.ok (.int .u8 ((gN s d j c:Nat):Int)) W:=fun W=>by
   rw [aP W 9 s .i64 _ Tryd.underlying9,dif_pos ⟨A,o⟩]
   unfold gN
   rw [uD s (j*d+c) f]
   congr 3
  clear f h
  generalize gN s d j c=y at B ⊢
  go_enter Tryd.func44,Tryd.ntmps44
  go_wp2
  go_ret
  exact ⟨rfl,rfl⟩
 ·have o:¬ (j:Int)*(d:Int)+(c:Int) < (s.size:Int):=by rw [<- ai];omega
  rw [VE f]
  clear f h
  go_enter Tryd.func44,Tryd.ntmps44
  go_wp2
  go_ret
  exact ⟨rfl,rfl⟩
theorem RO (n k:Nat) (s:ByteArray) (z:bl) (w:World) (H:1<=k) (d3:k<=n) (hn:n<=12) (hs:s.size<=1000) (S:w.cell? ⟨2,0,aa⟩=ab (.iface 136 (.pointer (ab z)))) :
 aq Tryd.prog 20 #[.int .i64 (n:Int),.int .i64 (k:Int),.string s] w fun e w'=>(∃ g,w.heap.size<=g/\e=.returned (.tuple #[.slice (ab ⟨g,0,aa⟩) n n,.nilIface])/\ZE w' g n (fR k s))/\ae w.heap.size w w':=by
 have d4:=xR (size:=s.size) H
 obtain ⟨t,B⟩:∃ t,t=w.alloc (.cells #[.string s] 9):=⟨_,rfl⟩
 have I:ae w.heap.size w t:=by rw [B];exact (ak _ _).alloc (ag _) _
 have b4:t.heap.size=w.heap.size+1:=by rw [B];simp
 have T:t.cell? ⟨w.heap.size,0,aa⟩=ab (.string s):=by rw [B,World.cell?_alloc_at _ _ _ _ rfl];rfl
 have U:=BZ n k s.size z t H d3 hn hs ((I.cell (p:=⟨2,0,aa⟩) (Qf S)).trans S)
 have V:Hid (t=w.alloc (.cells #[.string s] 9)):=B
 have Y:Hid (ae w.heap.size w t):=I
 have b5:=Jhx n (by omega)
 clear B I S
 go_enter Tryd.func20,Tryd.ntmps20
 go_wp2_with fail
 rw [<- V.out]
 refine U.mono ?_
 rintro e f ⟨⟨Z,rfl,a0⟩,E⟩
 have d5:t.heap.size<=f.heap.size:=E.size
 have a1:f.cell? ⟨w.heap.size,0,aa⟩=ab (.string s):=(E.cell (p:=⟨w.heap.size,0,aa⟩) (by show w.heap.size < _;omega)).trans T
 have a2:Hid (QJ f (ab ⟨Z,0,aa⟩) (kK k n)):=a0
 have a3:Hid (ae w.heap.size w f):=Y.out.trans (E.mono (by omega))
 clear U a0 E Y V T
 have a4:=fun W=>zM s.size k W H (by omega) (by omega)
 have b6:Hid (∀ i,fR k s i=((i:Int),Jp (J7 (fun i j=>Gf.aQ (JB k) j i) (gN s (Jk k s.size)) k (Jk k s.size) i))):=fun i=>rfl
 generalize Jk k s.size=o at *
 go_wp2_with fail
 refine (a4 _).mono ?_
 rintro e b7 ⟨rfl,a5⟩
 rw [a5]
 clear a5 b7 a4
 obtain ⟨h,D⟩:∃ h,h=f.alloc (.cells #[.int .i64 (o:Int)] 3):=⟨_,rfl⟩
 have G:ae f.heap.size f h:=by rw [D];exact (ak _ _).alloc (ag _) _
 have b8:h.heap.size=f.heap.size+1:=by rw [D];simp
 have a6:h.cell? ⟨w.heap.size,0,aa⟩=ab (.string s):=(G.cell (p:=⟨w.heap.size,0,aa⟩) (by show w.heap.size < _;omega)).trans a1
 have a7:h.cell? ⟨f.heap.size,0,aa⟩=ab (.int .i64 (o:Int)):=by rw [D,World.cell?_alloc_at _ _ _ _ rfl];rfl
 have a8:Hid (ae w.heap.size w h):=a3.out.trans (G.mono (by omega))
 have HT:uI h 44 #[.pointer (ab ⟨f.heap.size,0,aa⟩),.pointer (ab ⟨w.heap.size,0,aa⟩)] (gN s o) k o:=fun j c hj hc d h4 =>
  W8 f.heap.size w.heap.size o j c s d (by omega) (by omega) (by omega) ((h4.cell (p:=⟨f.heap.size,0,aa⟩) (by show f.heap.size < _;omega)).trans a7) ((h4.cell (p:=⟨w.heap.size,0,aa⟩) (by show w.heap.size < _;omega)).trans a6)
 have HR:=F3 (ab ⟨Z,0,aa⟩) n k o n (fun i j=>Gf.aQ (JB k) j i) (gN s o) 44 #[.pointer (ab ⟨f.heap.size,0,aa⟩),.pointer (ab ⟨w.heap.size,0,aa⟩)] h (by omega) (by omega) H (by omega) (by omega) (fun i j=>Gf.bL _ _ _) (fun j c=>DM s o j c) (a2.out.below G) (enters_of Tryd.func44 (by kernel_rfl) rfl) HT
 have a9:Hid (h=f.alloc (.cells #[.int .i64 (o:Int)] 3)):=D
 have d6:f.heap.size < h.heap.size:=by omega
 have d7:w.heap.size < t.heap.size:=by omega
 clear D G HT a2 a3 a1 b8 b4
 go_wp2_with fail
 rw [<- a9.out]
 refine HR.mono ?_
 rintro e d ⟨rfl,J,b1⟩
 have d0:Hid (d.rowIs h.heap.size 9 n (fun i=>.string (Jp (J7 (fun i j=>Gf.aQ (JB k) j i) (gN s o) k o i)))):=J
 have K:Hid (ae w.heap.size w d):=a8.out.trans (b1.mono (by omega))
 have d1:h.heap.size < d.heap.size:=J.lt
 clear HR J b1 a8 a9 a6 a7
 go_wp2
 have L:=ZE.made d n
 have M:ae d.heap.size d (d.alloc (.cells (al #[.int .i64 0,.string ⟨#[]⟩] (n*2)) 48)):=(ak _ _).alloc (ag _) _
 generalize d.alloc (.cells (al #[.int .i64 0,.string ⟨#[]⟩] (n*2)) 48)=w5 at L M ⊢
 have b2:Hid (ZE w5 d.heap.size n (fun _=>(0,⟨#[]⟩))):=L
 have b3:Hid (ae d.heap.size d w5):=M
 clear L M b5
 go_loopw [38] (fun x wr=>∃ i:Nat,i<=n/\x=.int .i64 i/\ZE wr d.heap.size n (fun q=>if q < i then fR k s q else (0,⟨#[]⟩))/\ae d.heap.size d wr) (fun x _=>n - (intOf x).toNat)
 case atStart=>exact ⟨0,by omega,rfl,b2.out.congr (fun q _=>by simp),b3.out⟩
 case round =>
  obtain ⟨i,hi,rfl,N,hB⟩:=hrel
  obtain ⟨y,rfl⟩:∃ y,y=wr:=⟨_,rfl⟩
  have A:Hid (ZE y d.heap.size n (fun q=>if q < i then fR k s q else (0,⟨#[]⟩))):=N
  have O:Hid (ae d.heap.size d y):=hB
  have d8:d.heap.size < y.heap.size:=World.rowIs.lt N
  clear N hB b2 b3
  by_cases Q:i < n
  ·have q0 : y.cell? ⟨h.heap.size, i, aa⟩ = ab (.string (JW k s i)) := by
    rw [O.out.cell (p:=⟨h.heap.size,i,aa⟩) d1,d0.out.cell Q]
    exact congrArg (fun x:Int×ByteArray=>ab (Value.string x.2)) (b6.out i).symm
   have q1:y.cell? ⟨d.heap.size,i*2,aa⟩=ab (.int .i64 0):=by rw [A.out.at_ Q,if_neg (an _)]
   have q2:y.cell? ⟨d.heap.size,i*2+1,aa⟩=ab (.string ⟨#[]⟩):=by rw [A.out.text Q,if_neg (an _)]
   have f1:y.frozen? ⟨d.heap.size,i*2,aa⟩=false:=World.rowIs.frozen A.out _
   have f2:y.frozen? ⟨d.heap.size,i*2+1,aa⟩=false:=World.rowIs.frozen A.out _
   go_wp2
   go_roundw
   case rel =>
    refine ⟨i+1,by omega,by go_num,?_,?_⟩
    ·refine (A.out.set i (i:Int) (JW k s i)).congr (fun q _=>?_)
     by_cases e:q=i
     ·rw [if_pos e,if_pos (by omega),e]
      rfl
     ·rw [if_neg e]
      by_cases e':q < i
      ·rw [if_pos e',if_pos (by omega)]
      ·rw [if_neg e',if_neg (by omega)]
    ·exact (O.out.setCell (ag _) _).setCell (ag _) _
   case measure=>simp [intOf];omega
  ·have d2:i=n:=by omega
   subst d2
   go_wp2
   go_ret2
   exact ⟨⟨d.heap.size,by have:=K.out.size;omega,rfl,A.out.congr (fun q hq=>by rw [if_pos hq])⟩,K.out.trans (O.out.mono (K.out.size))⟩
theorem JcU (n k:Int) (s:ByteArray) (z:bl) (w:World) (E:s.size<=1000000) (h:¬ (1<=k/\k<=n/\n<=12/\s.size<=1000)) (o:w.cell? ⟨0,0,aa⟩=ab (.iface 136 (.pointer (ab z)))) :
 aq Tryd.prog 20 #[.int .i64 n,.int .i64 k,.string s] w fun e w'=>e=.returned (.tuple #[.slice aa 0 0,.iface 136 (.pointer (ab z))])/\ae w.heap.size w w':=by
 obtain ⟨d,f⟩:∃ d,d=w.alloc (.cells #[.string s] 9):=⟨_,rfl⟩
 have j:ae w.heap.size w d:=by rw [f];exact (ak _ _).alloc (ag _) _
 have t:=y0 n k (s.size:Int) z d (by omega) ((j.cell (p:=⟨0,0,aa⟩) (Qf o)).trans o)
 have A:Hid (d=w.alloc (.cells #[.string s] 9)):=f
 have y:Hid (ae w.heap.size w d):=j
 clear f j o h
 go_enter Tryd.func20,Tryd.ntmps20
 go_wp2_with fail
 rw [<- A.out]
 refine t.mono ?_
 rintro e D ⟨rfl,B⟩
 clear t
 go_wp2
 go_ret2
 exact ⟨rfl,y.out.trans (B.mono y.out.size)⟩
def rQ (k:Nat):Nat->Nat->Nat:=fun i j=>Gf.aQ (JB k) j i
theorem TF (k i j:Nat):rQ k i j < 256:=Gf.bL _ _ _
theorem I4 (k:Nat) (s:ByteArray) (i:Nat):Zj (JW k s i)=J7 (rQ k) (gN s (Jk k s.size)) k (Jk k s.size) i :=
 FK (XL _ _ fun _=>nD (fun _ _=>Gf.bL _ _ _) _ _ _)
theorem BM (k:Nat) (s:ByteArray) (i:Nat):(JW k s i).size=Jk k s.size:=by
 rw [<- tZ,I4]
 exact Jf _ _
theorem T9 (k:Nat) (s:ByteArray) (i c:Nat) (d:c < Jk k s.size):Gf.nth (Zj (JW k s i)) c=Jl (rQ k) (gN s (Jk k s.size)) i c k:=by
 rw [I4]
 exact Yq _ _ c d
theorem u5 (f u v x:Nat->Nat->Nat) (i c:Nat):∀ k,(∀ j,j < k->x j c=u j c ^^^ v j c)->Jl f x i c k=Jl f u i c k ^^^ Jl f v i c k
 | 0,_=>by show 0=0 ^^^ 0;rfl
 | k+1,h=>by
  show Jl f x i c k ^^^ _=(Jl f u i c k ^^^ _) ^^^ (Jl f v i c k ^^^ _)
  rw [u5 f u v x i c k (fun j d=>h j (by omega)),h k (by omega),Gf.mul_right,Gf.xor_left_comm]
def k5 (a b:ByteArray):List Nat:=Qi a.size fun i=>Gf.nth (Zj a) i ^^^ Gf.nth (Zj b) i
theorem JbG (a b:ByteArray):Gf.Bytes (k5 a b):=XL _ _ fun i=>Gf.iK (xK a i) (xK b i)
theorem x3 (a b:ByteArray):(Jp (k5 a b)).size=a.size:=by rw [xG];exact Jf _ _
theorem Jde (k:Nat) (a b:ByteArray) (f:b.size=a.size) (i c:Nat) (d:c < Jk k a.size) :
 Gf.nth (Zj (JW k (Jp (k5 a b)) i)) c=Gf.nth (Zj (JW k a i)) c ^^^ Gf.nth (Zj (JW k b i)) c:=by
 rw [T9 k _ i c (by rw [x3];exact d),T9 k a i c d,T9 k b i c (by rw [f];exact d),x3,f]
 refine u5 _ _ _ _ i c k (fun j _=>?_)
 unfold gN
 rw [FK (JbG a b)]
 by_cases h:j*Jk k a.size+c < a.size
 ·exact Yq _ _ _ h
 ·rw [F0 (l:=k5 a b) (by unfold k5;rw [Jf];omega),F0 (l:=Zj a) (by rw [tZ];omega),F0 (l:=Zj b) (by rw [tZ];omega)]
  rfl
def Xn (k x:Nat):List Nat:=Qi k fun j=>Gf.aQ (JB k) j x
theorem O3 {A:Nat} (h:QJ w (ab ⟨A,0,aa⟩) (kK k n)) (O:1<=n) (Q:1<=k):∃ D E I:Nat->Nat,A < w.heap.size/\∀ i,i < n->w.cell? ⟨A,i,aa⟩=ab (.slice (ab ⟨D i,E i,aa⟩) k (I i))/\jU w (ab ⟨D i,E i,aa⟩) (Xn k i):=by
 have J:kK k n=XB n k (fun i j=>Gf.aQ (JB k) j i):=rfl
 have G:∀ i,i < n->∃ f s c,w.cell? ⟨A,i,aa⟩=ab (.slice (ab ⟨f,s,aa⟩) k c)/\jU w (ab ⟨f,s,aa⟩) (Xn k i):=fun i y=>by
  rw [J] at h
  have H:Qh (XB n k fun i j=>Gf.aQ (JB k) j i) i=Xn k i:=XD n k _ i y
  obtain ⟨b,o,f,s,c,B,_,K,d,z⟩:=h.row (i:=i) (by rw [Zs];exact y) (by rw [H];unfold Xn;rw [Jf];omega)
  injection B with B
  injection B with L M _
  subst L M
  rw [H] at d z
  have N:(Xn k i).length=k:=Jf _ _
  rw [N,az] at d
  exact ⟨f,s,c,d,⟨XL _ _ (fun j=>Gf.bL _ _ _),aC ⟨f,s,rfl,K,z⟩⟩⟩
 have d:∀ i,∃ t:Nat×Nat×Nat,i < n->w.cell? ⟨A,i,aa⟩=ab (.slice (ab ⟨t.1,t.2.1,aa⟩) k t.2.2)/\jU w (ab ⟨t.1,t.2.1,aa⟩) (Xn k i):=fun i=>by
  by_cases y:i < n
  ·obtain ⟨f,s,c,z⟩:=G i y
   exact ⟨(f,s,c),fun _=>z⟩
  ·exact ⟨(0,0,0),fun h=>absurd h y⟩
 refine ⟨fun i=>(ay (d i)).1,fun i=>(ay (d i)).2.1,fun i=>(ay (d i)).2.2,?_,fun i y=>Classical.choose_spec (d i) y⟩
 obtain ⟨_,_,_,z,_⟩:=G 0 (by omega)
 exact Qf z
structure j2 (w:World) (B n k:Nat) (rv:Nat->zb) (v:zb) (X:List Nat):Prop where
 own:JM w B 32 v (X.map rv)
 form:∃ p c,v=.slice p X.length c
 nd:X.Nodup
 lt:∀ x ∈ X,x < n
 le:X.length<=k
theorem j2.kept   {row:Option Nat} (h:j2 w B n k d v X) (j:w.grownBy w' row) (o:∀ g,row=ab g->g < B):j2 w' B n k d v X:=by
 refine ⟨h.own.kept j ?_,h.form,h.nd,h.lt,h.le⟩
 cases f:v.ownBlock with
 | none=>exact bi rfl
 | some g =>
  refine aC (fun e=>?_)
  have:=h.own.block f
  have:=o g e.symm
  omega
theorem j2.snoc  {j:zb} {x:Nat} (h:j2 w B n k d v X) (G:x < n) (H:x ∉ X) (I:X.length < k) (o:JM w' B 32 j (X.map d ++ [d x])):j2 w' B n k d j (X ++ [x]):=by
 have s:(X ++ [x]).map d=X.map d ++ [d x]:=by simp
 refine ⟨by rw [s];exact o,?_,?_,?_,by rw [aJ,aB];omega⟩
 ·rcases o.cells with ⟨_,t⟩ | ⟨g,z,A,_⟩
  ·exact absurd t (by simp)
  ·exact ⟨ab ⟨g,0,aa⟩,z,by rw [A];simp⟩
 ·rw [List.nodup_append]
  refine ⟨h.nd,by simp,?_⟩
  intro a D b E e
  rw [aI.1 E] at e
  exact H (by rw [<- e];exact D)
 ·intro y f
  rcases List.mem_append.1 f with f | f
  ·exact h.lt y f
  ·rw [aI.1 f];exact G
theorem j2.tU  {j o H:Nat->Nat}  (h:j2 w B n k (fun x=>.slice (ab ⟨j x,o x,aa⟩) k (H x)) v X) (s:0 < X.length) (I:∀ x,x < n->jU w (ab ⟨j x,o x,aa⟩) (Xn k x)):∃ p c,v=.slice p X.length c/\QJ w p (X.map (Xn k)):=by
 rcases h.own.cells with ⟨_,t⟩ | ⟨g,y,z,_,A,D⟩
 ·have:=congrArg List.length t
  simp at this
  rw [this] at s
  exact absurd s (an _)
 ·refine ⟨ab ⟨g,0,aa⟩,y,by rw [z];simp,aC ⟨g,0,rfl,A,fun i d=>?_⟩⟩
  rw [ao] at d
  have f:X[i]?=ab X[i]:=af d
  have E:Qh (X.map (Xn k)) i=Xn k X[i]:=by unfold Qh;rw [ac,ah,f];rfl
  have G:(Xn k X[i]).length=k:=Jf _ _
  rw [E,G,az]
  exact ⟨_,_,D i _ (by rw [ah,f];rfl),I _ (h.lt _ (ax d)),fun e=>by cases e⟩
theorem NN  (h:1<=k) (j:k<=12) (o:X.length=k):jQ (X.map (Xn k)):=by
 have f:∀ i,i < X.length->(Qh (X.map (Xn k)) i).length=k:=fun i d=>by
  unfold Qh
  rw [ac,ah,af d]
  exact Jf _ _
 refine ⟨by rw [ao];omega,by rw [ao];omega,fun i d=>?_⟩
 rw [ao] at d
 rw [f i d,f 0 (by omega)]
 exact ⟨h,by omega,rfl⟩
theorem LB (k:Nat) (X:List Nat):QR (X.map (Xn k)):=fun i=>by
 by_cases d:i < X.length
 ·have:Qh (X.map (Xn k)) i=Xn k X[i]:=by unfold Qh;rw [ac,ah,af d];rfl
  rw [this]
  exact XL _ _ (fun j=>Gf.bL _ _ _)
 ·intro j
  have:Qh (X.map (Xn k)) i=[]:=by unfold Qh;rw [ac,ap (by rw [ao];omega)];rfl
  rw [this]
  show ([]:List Nat).getD j 0 < 256
  simp
theorem OX  (E:n<=12) (s:X.length=k) (A:X.Nodup) (B:∀ x ∈ X,x < n) (G:k<=n):Lin.cL k k (Qk (X.map (Xn k))) k:=by
 have t:Gf.Bytes X:=fun i=>by
  by_cases d:i < X.length
  ·rw [Gf.aK X i d];have:=B _ (ax d);omega
  ·show X.getD i 0 < 256
   rw [ac,ap (by omega)];decide
 have h:=PZ (JB k) X (tA k (by omega)) (sI k) t A (by rw [JE];exact s)
 rw [JE,s] at h
 refine BD ?_
 intro c y
 refine h c (fun j f=>?_)
 rw [<- y j f]
 refine Lin.aH fun r D=>?_
 have o:r < X.length:=by omega
 have z:Qh (X.map (Xn k)) r=Xn k X[r]:=by unfold Qh;rw [ac,ah,af o];rfl
 show Lin.mu (c r) (Qm (Gf.aQ (JB k) j (Gf.nth X r)))=Lin.mu (c r) (Qm (Gf.nth (Qh (X.map (Xn k)) r) j))
 rw [z,Gf.aK X r o]
 unfold Xn
 rw [Yq _ _ j f]
def tK (w:World) (h:FuncId) (j:Array zb) (l:List (Int×ByteArray)) (P:Int×ByteArray->Bool):Prop :=
 ∀ i,i < l.length->∀ d,ae w.heap.size w d->aq Tryd.prog h (#[.agg #[.int .i64 (Ji l i).1,.string (Ji l i).2]] ++ j) d fun e f=>e=.returned (.bool (P (Ji l i)))/\ae d.heap.size d f
theorem sE  (h:i < l.length):Ji l i ∈ l:=by
 unfold Ji
 rw [ac,af h]
 exact ax h
theorem XG {x:Int×ByteArray} (h:x ∈ l):∃ i,i < l.length/\Ji l i=x:=by
 obtain ⟨i,d,rfl⟩:=List.getElem_of_mem h
 refine ⟨i,d,?_⟩
 unfold Ji
 rw [ac,af d]
 rfl
theorem Jpm  (h:i < l.length) (d:P (Ji l i)=zc):l.any P=true:=List.any_eq_true.2 ⟨_,sE h,d⟩
theorem Jnt  (h:∀ i,i < l.length->P (Ji l i)=F):l.any P=false:=by
 rw [List.any_eq_false]
 intro x d
 obtain ⟨i,f,rfl⟩:=XG d
 rw [h i f]
 decide
theorem Jpn (p:Option bl) (l:List (Int×ByteArray)) (a0:Nat) (y:FuncId) (G:Array zb) (P:Int×ByteArray->Bool) (w:World) (hl:l.length<=100000) (N:fE w p l)
 (a1:∀ args W,Sem.run Tryd.prog (callFunc y args) W=.ok (.enter y args) W) (O:tK w y G l P) :
 aq Tryd.prog 70 #[.slice p l.length a0,.func (.func y) #[] G] w fun e w'=>(∃ r:Int,e=.returned (.int .i64 r)/\(0<=r/\l.any P=zc∨r=-1/\l.any P=F))/\ae w.heap.size w w':=by
 have Q:Hid (fE w p l):=N
 have S:Hid (tK w y G l P):=O
 clear N O
 go_enter Tryd.func70,Tryd.ntmps70
 go_wp2
 go_loopw [8] (fun x wr=>∃ i:Nat,i<=l.length/\x=.int .i64 i/\(∀ j,j < i->P (Ji l j)=F)/\ae w.heap.size w wr) (fun x _=>l.length - (intOf x).toNat)
 case atStart=>exact ⟨0,by omega,rfl,fun j A=>absurd A (au _),ak _ _⟩
 case round =>
  obtain ⟨i,hi,rfl,H,I⟩:=hrel
  have J:Hid (∀ j,j < i->P (Ji l j)=F):=H
  have f:Hid (ae w.heap.size w wr):=I
  clear H I
  by_cases o:i < l.length
  ·rcases (Q.out.below f.out) with T | ⟨b1,o1,rfl,_,K⟩
   ·rw [T] at o;simp at o
   obtain ⟨B,D⟩:=K i o
   have d:=S.out i o wr f.out
   clear K
   have L:Hid (∀ v,P (Ji l i)=v->v=P (Ji l i)):=fun v h=>h.symm
   by_cases s:P (Ji l i)=zc
   ·have U:Hid (l.any P=zc):=Jpm o s
    rw [s] at d
    clear s L
    generalize (Ji l i).1=x at B d
    generalize (Ji l i).2=t at D d
    go_wp2_with fail
    refine d.mono ?_
    rintro e M ⟨rfl,z⟩
    clear d
    go_wp2
    go_ret
    exact ⟨⟨(i:Int),rfl,bi ⟨by omega,U.out⟩⟩,f.out.trans (z.mono f.out.size)⟩
   ·have E:P (Ji l i)=false:=by simpa using s
    have V:Hid (P (Ji l i)=F):=E
    rw [E] at d
    clear s E L
    generalize (Ji l i).1=x at B d
    generalize (Ji l i).2=t at D d
    go_wp2_with fail
    refine d.mono ?_
    rintro e M ⟨rfl,z⟩
    have Y:Hid (ae w.heap.size w M):=f.out.trans (z.mono f.out.size)
    clear d z B D
    go_wp2
    go_roundw
    case rel =>
     refine ⟨i+1,by omega,by go_num,fun j A=>?_,Y.out⟩
     by_cases e:j=i
     ·rw [e];exact V.out
     ·exact J.out j (by omega)
    case measure=>simp [intOf];omega
  ·have Z:Hid (l.any P=F):=Jnt fun j A=>J.out j (by omega)
   go_wp2
   go_ret
   exact ⟨⟨-1,rfl,aC ⟨rfl,Z.out⟩⟩,f.out⟩
theorem n9 (p:Option bl) (l:List (Int×ByteArray)) (y:Nat) (f:FuncId) (o:Array zb) (P:Int×ByteArray->Bool) (w:World) (D:l.length<=100000) (z:fE w p l)
 (A:∀ args W,Sem.run Tryd.prog (callFunc f args) W=.ok (.enter f args) W) (B:tK w f o l P) :
 aq Tryd.prog 47 #[.slice p l.length y,.func (.func f) #[] o] w fun e w'=>e=.returned (.bool (l.any P))/\ae w.heap.size w w':=by
 have s:=Jpn p l y f o P w D z A B
 clear z B A
 go_enter Tryd.func47,Tryd.ntmps47
 go_wp2_with fail
 refine s.mono ?_
 rintro e E ⟨⟨r,rfl,h⟩,t⟩
 clear s
 rcases h with ⟨h,d⟩ | ⟨h,d⟩
 ·have j:Hid (l.any P=zc):=d
  clear d
  go_wp2
  go_ret
  exact ⟨sB (by rw [j.out]),t⟩
 ·have j:Hid (l.any P=F):=d
  subst h
  clear d
  go_wp2
  go_ret
  exact ⟨sB (by rw [j.out]),t⟩
end Go.Proofs.YtaaahibncffcmaaDoor
