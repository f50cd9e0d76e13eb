/- Texts laid together. -/
import Derived.Test.YtppcijpgalaohaaDoorRows
import Derived.ProofKit
import Derived.LaidLaws
import Derived.LaidHandle
import Derived.LaidMore
import Derived.Stop.LaidErr
import Derived.Test.YtppcijpgalaohaaDoorProg
import Derived.Below
import Derived.WalkKit
import Derived.Test.YtppcijpgalaohaaDoorGb0
import Derived.Laws.BitsAllLaws
import Derived.Laws.BitsLemmas
import Derived.Laws.BytesArg
import Derived.WalkSmall
import Derived.OpenShut
import Derived.ChangeOld
import Derived.Deep.Strs
import Derived.Laws.AppendOwn
import Derived.OwnWalk
import Derived.Laws.AppendOwnNone
import Derived.BigQuiet
namespace Go.Proofs.YtppcijpgalaohaaDoor
open Go.Proofs.Tryd
open Go.RowKit
variable {W f w d:World}{B k i j:Nat}{b x s:ByteArray}{o:Oper}{v I:Value}{ad:Nat->Addr}{c at_ n:Int}{a:Act}{l:List ByteArray}{p:Option Addr}{e:TypeId}{row:Option Nat}{Q:Exit->Act->World->Prop}{rest:List Oper}
section
open Go.ChangeShapes Go.WideShapes Go.RowKit
def GZ (d:List UInt8):DataW Unit:=.iface "*errors.errorString" (.ptr (.agg [.lit (.string d)]))
theorem UX {P:Program} {S B D G:TypeId} {ms:Array (String×TypeId)} {f:Field}
 (hi:P.underlying S=some (.interface ms)) (b1:∀ u,P.typeName? 3 u=some "*errors.errorString"->u=B)
 (hp:P.underlying B=some (.pointer D)) (he:P.underlying D=some (.struct #[f])) (b2:f.type=G) (b8:f.offset=0) (hs:P.underlying G=some .string) (hc:P.cellsOf D=1) (c2:P.cellsOf G=1) :
 ∀ (L:List (String×List UInt8)) (o:List MemPlace),DataW.LaidVars P W (L.map fun x=>(x.1,GZ x.2)) o ->
  (∀ x ∈ L,∃ g,P.globalNamed x.1=some g/\(P.globals[g]?).map (·.type)=some S) ->
  (∀ b A,MemPlace.cell b A ∈ o->(∃ c t,W.heap[b]?=some (.cells c t (0,0)))/\∀ u v,W.cell? ⟨b,A,none⟩=some (.iface u v)->Value.okWide P W .any 0 u v) ->
  ∃ ad:Nat->Addr,(∀ i x,L[i]?=some x->MemPlace.cell (ad i).block (ad i).off ∈ o/\W.var? P x.1=some #[.iface B (.pointer (some (ad i)))]) /\
   (o.Nodup->∀ i j,i < L.length->j < L.length->i≠j->ad i≠ad j):=by
 intro L
 induction L with
 | nil =>
  intro o _ _ _
  exact ⟨fun _=>⟨0,0,none⟩,fun i x h=>by simp at h,fun _ i j h=>by simp at h⟩
 | cons x r ih =>
  intro o T H I
  obtain ⟨g0,t0,U,f0,p0,J,K,V,M,Y,Z,rfl⟩:=T
  obtain ⟨g,hg,ht⟩:=H x (List.mem_cons_self ..)
  obtain rfl:=Option.some.inj (hg.symm.trans K)
  obtain rfl:=Option.some.inj (ht.symm.trans V)
  obtain ⟨ad,N,h2⟩:=ih J Z (fun y q=>H y (List.mem_cons_of_mem _ q)) (fun b A s=>I b A (List.mem_append_right _ s))
  obtain ⟨l0⟩:=U
  have a2:∀ u v,l0=[.iface u v]->Value.okWide P W .any 0 u v:=fun u v e=>by
   subst e
   exact (I g 0 (by simp [MemPlace.row])).2 u v (by simpa using World.var?_cell K M 0)
  obtain ⟨O,s0,rfl,c4,c9,d0,rfl⟩:=errorString_of_trod hi b1 hp he b2 b8 hs hc c2 Y a2
  refine ⟨fun i=>match i with | 0=>O | k+1=>ad k,?_,?_⟩
  ·intro i y q
   match i with
   | 0 =>
    obtain rfl:x=y:=by simpa using q
    exact ⟨by simp [MemPlace.row],M⟩
   | k+1 =>
    have:=N k y (by simpa using q)
    exact ⟨List.mem_append_right _ this.1,this.2⟩
  ·intro Q i j a3 a4 a5
   have a8:J.Nodup:=List.Nodup.sublist (List.sublist_append_right _ _) Q
   have R:∀ k,k < r.length->O≠ad k:=by
    intro k d e
    obtain ⟨y,q⟩:∃ y,r[k]?=some y:=⟨r[k],List.getElem?_eq_getElem d⟩
    have s:=(N k y q).1
    rw [<- e] at s
    have a9:=(List.nodup_append.1 Q).2.2
    exact a9 _ (List.mem_append_right _ (by simp [MemPlace.row])) _ s rfl
   match i,j,a3,a4,a5 with
   | 0,0,_,_,h=>exact absurd rfl h
   | 0,k+1,_,d,_=>exact R k (by simpa using d)
   | k+1,0,d,_,_=>exact (R k (by simpa using d)).symm
   | k+1,m+1,d,s,hne=>exact h2 a8 k m (by simpa using d) (by simpa using s) (fun e=>hne (by rw [e]))
theorem AY {P:Program} {W:World}:∀ (L M:List (String×DataW Unit)) (d:List MemPlace),DataW.LaidVars P W (L ++ M) d->∃ p q,d=p ++ q/\DataW.LaidVars P W M q
 | [],_,d,h=>⟨[],d,rfl,h⟩
 | x :: L,M,d,h=>by
  obtain ⟨s,t,A,B,D,f,G,H,I,J,j,rfl⟩:=h
  obtain ⟨p,q,rfl,o⟩:=AY L M f j
  exact ⟨_,q,(List.append_assoc _ _ _).symm,o⟩
theorem ID : "*" ++ "errors.errorString" = "*errors.errorString":=by kernel_rfl
theorem x4 (u:TypeId) (h:prog.typeName? 3 u=some "*errors.errorString"):u=200 :=
 typeName_ptr_named (nm := "errors.errorString") (by rw [ID];kernel_rfl) (by kernel_rfl) (by decide) u (by rw [ID];exact h)
end
theorem Yl {b o:Nat} (h:w.cell? ⟨b,o,none⟩=some v):b < w.heap.size:=by
 rcases Nat.lt_or_ge b w.heap.size with d | d
 ·exact d
 ·simp [World.cell?,Array.getElem?_eq_none d] at h
def Jd (w:World) (ad:Nat->Addr) (f:Value) (c at_:Int):Prop :=
 (f=.nilIface/\c=0/\at_=-1)∨(∃ i,i < 12/\f=.iface 200 (.pointer (some (ad i)))/\c=((i+1:Nat):Int)/\at_=-1) ∨
 ∃ i d,i < 12/\f=.iface 90 (.pointer (some ⟨d,0,none⟩))/\c=((i+1:Nat):Int)/\w.cell? ⟨d,0,none⟩=some (.int .i64 at_)/\w.cell? ⟨d,1,none⟩=some (.iface 200 (.pointer (some (ad i))))
theorem Jd.below {o:World} {q:Value} (h:Jd w ad q c at_) (s:Below w.heap.size w o):Jd o ad q c at_:=by
 rcases h with h | h | ⟨i,d,t,A,B,f,j⟩
 ·exact Or.inl h
 ·exact Or.inr (Or.inl h)
 ·exact Or.inr (Or.inr ⟨i,d,t,A,B,(s.cell (p:=⟨d,0,none⟩) (Yl f)).trans f,(s.cell (p:=⟨d,1,none⟩) (Yl j)).trans j⟩)
theorem Jd.nil (w:World) (ad:Nat->Addr):Jd w ad .nilIface 0 (-1):=Or.inl ⟨rfl,rfl,rfl⟩
theorem Jd.b8  (i:Nat) (d:i < 12):Jd w ad (.iface 200 (.pointer (some (ad i)))) ((i+1:Nat):Int) (-1):=Or.inr (Or.inl ⟨i,d,rfl,rfl,rfl⟩)
theorem Jd.some  {f:Value} (h:Jd w ad f c at_) (q:0 < c):∃ t v,f=.iface t v:=by
 rcases h with ⟨_,j,_⟩ | ⟨i,_,d,_⟩ | ⟨i,o,_,d,_⟩
 ·omega
 ·exact ⟨_,_,d⟩
 ·exact ⟨_,_,d⟩
structure i7 (w:World) (ad:Nat->Addr):Prop where
 c1:w.cell? ⟨2,0,none⟩=some (.iface 200 (.pointer (some (ad 1))))
 c3:w.cell? ⟨5,0,none⟩=some (.iface 200 (.pointer (some (ad 3))))
 c5:w.cell? ⟨7,0,none⟩=some (.iface 200 (.pointer (some (ad 5))))
 c7:w.cell? ⟨1,0,none⟩=some (.iface 200 (.pointer (some (ad 7))))
theorem i7.below  (h:i7 w ad) (d:Below w.heap.size w f):i7 f ad where
 c1:=(d.cell (Yl h.c1)).trans h.c1
 c3:=(d.cell (Yl h.c3)).trans h.c3
 c5:=(d.cell (Yl h.c5)).trans h.c5
 c7:=(d.cell (Yl h.c7)).trans h.c7
section
open Go.ChangeShapes Go.WideShapes Go.RowKit
def L4:List (String×List UInt8):=(Rows.ringComesRow.laid.drop 3).map fun x=>(x.1,match x.2 with | .iface _ (.ptr (.agg [.lit (.string t)]))=>t | _=>[])
theorem ML:(L4.map fun x=>(x.1,GZ x.2))=Rows.ringComesRow.laid.drop 3:=rfl
theorem z8 (W:World):laidMetH prog Rows.ringComesRow.laid W=laidMet prog (Rows.ringComesRow.laid.take 3 ++ L4.map fun x=>(x.1,GZ x.2)) W:=by kernel_rfl
theorem BL:(L4.all fun x=>match prog.globalNamed x.1 with | some g=>(prog.globals[g]?).map (·.type)==some 27 | none=>false)=true:=by kernel_rfl
theorem g4:L4.map (fun x=>prog.globalNamed x.1)=[some 2,some 5,some 7,some 1]:=by kernel_rfl
theorem qA (h:laidMetH prog Rows.ringComesRow.laid W):∃ ad,i7 W ad:=by
 rw [z8] at h
 obtain ⟨M,q,N,s⟩:=h
 obtain ⟨O,j,rfl,t⟩:=AY _ _ _ q
 have A:=fun b o (B:MemPlace.cell b o ∈ j)=>s b o (List.mem_append_right _ B)
 have D:∀ x ∈ L4,∃ g,prog.globalNamed x.1=some g/\(prog.globals[g]?).map (·.type)=some 27:=by
  intro x f
  have:=List.all_eq_true.1 BL x f
  split at this
  ·rename_i g G
   exact ⟨g,G,by simpa using this⟩
  ·cases this
 have H:prog.cellsOf 219=1:=by kernel_rfl
 have I:prog.cellsOf 9=1:=by kernel_rfl
 obtain ⟨ad,J,_⟩:=UX underlying27 x4 underlying200 underlying219 rfl rfl underlying9 H I L4 j t D A
 have d:∀ i g,(L4.map (fun x=>prog.globalNamed x.1))[i]?=some (some g)->W.cell? ⟨g,0,none⟩=some (.iface 200 (.pointer (some (ad i)))):=by
  intro i g f
  rw [List.getElem?_map] at f
  obtain ⟨x,K,L⟩:=Option.map_eq_some_iff.1 f
  simpa using World.var?_cell L (J i x K).2 0
 rw [g4] at d
 exact ⟨fun i=>match i with | 1=>ad 0 | 3=>ad 1 | 5=>ad 2 | _=>ad 3,d 0 _ rfl,d 1 _ rfl,d 2 _ rfl,d 3 _ rfl⟩
end
theorem l4 {k:IntKind} {a b:Int} (h:a=b):Ending.returned (.int k a)=.returned (.int k b):=by rw [h]
theorem sB {a b:Bool} (h:a=b):Ending.returned (.bool a)=.returned (.bool b):=by rw [h]
theorem R2 (b k:Nat) (o:b < 256):(bits BinOp.and IntKind.u8 ((b:Int) / 2 ^ k) 1==1)=decide (Gf.bT b k=1):=by
 have d:((b:Int) / 2 ^ k)=((b / 2 ^ k:Nat):Int):=by simp
 have f:b / 2 ^ k < 256:=Nat.lt_of_le_of_lt (Nat.div_le_self _ _) o
 have j:bits BinOp.and IntKind.u8 ((b / 2 ^ k:Nat):Int) 1=((b / 2 ^ k % 2:Nat):Int):=by
  have:=u8_and_nat (b / 2 ^ k) 1 f (by decide)
  rw [Nat.and_one_is_mod] at this
  exact this
 rw [d,j]
 unfold Gf.bT
 rcases Nat.mod_two_eq_zero_or_one (b / 2 ^ k) with h | h <;> rw [h] <;> rfl
theorem S1 (b k:Nat) (o:b < 256):(bits BinOp.and IntKind.i64 ((b:Int) / 2 ^ k) 1==1)=decide (Gf.bT b k=1):=by
 have d:((b:Int) / 2 ^ k)=((b / 2 ^ k:Nat):Int):=by simp
 have f:b / 2 ^ k < 256:=Nat.lt_of_le_of_lt (Nat.div_le_self _ _) o
 have j:bits BinOp.and IntKind.i64 ((b / 2 ^ k:Nat):Int) 1=((b / 2 ^ k % 2:Nat):Int):=by
  have:=bits_mask IntKind.i64 8 (by decide) (fun n q d=>by rw [IntKind.wrap_i64];omega) 1 (by decide) ((b / 2 ^ k:Nat):Int) (Int.natCast_nonneg _) (by exact_mod_cast f)
  rw [show ((2:Int) ^ 1 - 1)=1 from rfl] at this
  rw [this]
  rfl
 rw [d,j]
 unfold Gf.bT
 rcases Nat.mod_two_eq_zero_or_one (b / 2 ^ k) with h | h <;> rw [h] <;> rfl
def red (n:Int):Nat:=(n % 255).toNat
theorem M4 (n:Int):((red n:Nat):Int)=n % 255:=by unfold red;omega
theorem UP (n:Int):red n < 255:=by unfold red;omega
theorem O5 (n:Int):n.tmod 255=-((-n).tmod 255):=by rw [Int.neg_tmod,Int.neg_neg]
theorem O6 (a b:Nat) (d:a < 2 ^ 62) (f:b < 2 ^ 62):bits .xor .i64 (a:Int) (b:Int)=((a ^^^ b:Nat):Int):=by
 have h:a ^^^ b < 2 ^ 62:=Nat.xor_lt_two_pow d f
 show IntKind.i64.wrap ((BitVec.ofInt 64 (a:Int) ^^^ BitVec.ofInt 64 (b:Int)).toNat:Int)=_
 rw [BitVec.toNat_xor,BitVec.ofInt_natCast,BitVec.ofInt_natCast,BitVec.toNat_ofNat,BitVec.toNat_ofNat,Nat.mod_eq_of_lt (by omega),Nat.mod_eq_of_lt (by omega),IntKind.wrap_i64]
 omega
theorem RR (n:Nat) (h:n < 2 ^ 62):wrap64 (n:Int)=(n:Int):=by
 unfold wrap64;omega
theorem D9 (b k:Nat):(((b:Int) / 2 ^ k).tmod 2==1)=decide (Gf.bT b k=1):=by
 have d:((b:Int) / 2 ^ k)=((b / 2 ^ k:Nat):Int):=by simp
 rw [d,Int.tmod_eq_emod_of_nonneg (Int.natCast_nonneg _)]
 unfold Gf.bT
 have f:(((b / 2 ^ k:Nat):Int) % 2)=((b / 2 ^ k % 2:Nat):Int):=by simp
 rw [f]
 rcases Nat.mod_two_eq_zero_or_one (b / 2 ^ k) with h | h <;> rw [h] <;> rfl
def Jp (l:List Nat):ByteArray:=strOfNums (l.map Int.ofNat)
def bytesOf (s:ByteArray):List Nat:=s.data.toList.map UInt8.toNat
theorem xK (s:ByteArray):Gf.Bytes (bytesOf s):=fun i=>by
 by_cases d:i < (bytesOf s).length
 ·rw [Gf.aK _ i d]
  simp only [bytesOf,List.getElem_map]
  exact UInt8.toNat_lt _
 ·show (bytesOf s).getD i 0 < 256
  rw [List.getD_eq_getElem?_getD,List.getElem?_eq_none (by omega)]
  decide
theorem uD (s:ByteArray) (i:Nat) (h:i < s.size):Gf.nth (bytesOf s) i=(s[i]'h).toNat:=by
 rw [Gf.aK _ i (by simpa [bytesOf] using h)]
 simp only [bytesOf,List.getElem_map]
 rfl
theorem tZ (s:ByteArray):(bytesOf s).length=s.size:=by simp [bytesOf]
theorem mL {l:List Nat} (h:Gf.Bytes l) {x:Nat} (f:x ∈ l):x < 256:=by
 obtain ⟨i,d,rfl⟩:=List.getElem_of_mem f
 have:=h i
 rwa [Gf.aK l i d] at this
theorem FK {l:List Nat} (h:Gf.Bytes l):bytesOf (Jp l)=l:=by
 unfold bytesOf Jp
 rw [strOfNums_data,List.map_map,List.map_map]
 conv=>rhs;rw [<- List.map_id l]
 refine List.map_congr_left fun x d=>?_
 have:=mL h d
 simp only [Function.comp]
 show (UInt8.ofNat x).toNat=x
 simp only [UInt8.toNat_ofNat']
 omega
theorem CX (s:ByteArray):Jp (bytesOf s)=s:=by
 unfold bytesOf Jp strOfNums
 rw [List.map_map,List.map_map]
 have:(List.map (((fun n:Int=>UInt8.ofNat n.toNat) ∘ Int.ofNat) ∘ UInt8.toNat) s.data.toList)=s.data.toList:=by
  conv=>rhs;rw [<- List.map_id s.data.toList]
  refine List.map_congr_left fun x _=>?_
  show UInt8.ofNat x.toNat=x
  exact UInt8.ofNat_toNat
 rw [this]
theorem xG (l:List Nat):(Jp l).size=l.length:=by
 unfold Jp
 rw [strOfNums_size,List.length_map]
theorem EP (s:ByteArray) (i:Nat) (h:i < s.size) (W:World):Sem.run prog (Instr.index 9 (.string s) (.int .i64 (i:Int))) W=.ok (.int .u8 ((Gf.nth (bytesOf s) i:Nat):Int)) W:=by
 rw [run_index_string W 9 s .i64 _ underlying9,dif_pos ⟨by omega,by omega⟩,uD s i h]
 congr 3
theorem BO {l m:List Nat} (j:l.length=m.length) (h:∀ i,i < l.length->Gf.nth l i=Gf.nth m i):l=m:=by
 refine List.ext_getElem j fun i d f=>?_
 rw [<- Gf.aK l i d,<- Gf.aK m i f]
 exact h i d
theorem F0 {l:List Nat} (h:l.length<=i):Gf.nth l i=0:=by
 show l.getD i 0=0
 rw [List.getD_eq_getElem?_getD,List.getElem?_eq_none h]
 rfl
def Yc (l:List ByteArray) (i:Nat):ByteArray:=l.getD i ⟨#[]⟩
theorem Xk (l:List ByteArray) (i:Nat) (h:i < l.length):Yc l i=l[i]:=by
 unfold Yc
 rw [List.getD_eq_getElem?_getD,List.getElem?_eq_getElem h]
 rfl
theorem oQ  (h:i < l.length):Yc l i ∈ l:=by
 rw [Xk l i h]
 exact List.getElem_mem h
theorem tF  (h:x ∈ l):∃ i,i < l.length/\Yc l i=x:=by
 obtain ⟨i,d,e⟩:=List.getElem_of_mem h
 exact ⟨i,d,by rw [Xk l i d,e]⟩
theorem D0  (h:j < i):Yc (l.take i) j=Yc l j:=by
 unfold Yc
 rw [List.getD_eq_getElem?_getD,List.getD_eq_getElem?_getD,List.getElem?_take_of_lt h]
theorem mB {m:List ByteArray} (j:l.length=m.length) (h:∀ i,i < l.length->Yc l i=Yc m i):l=m:=by
 refine List.ext_getElem j fun i d f=>?_
 rw [<- Xk l i d,<- Xk m i f]
 exact h i d
def Strs (w:World) (p:Option Addr) (l:List ByteArray):Prop :=
 l=[]∨∃ b o,p=some ⟨b,o,none⟩/\b < w.heap.size/\∀ i,i < l.length->w.cell? ⟨b,o+i,none⟩=some (.string (Yc l i))
theorem Strs.nil (w:World) (p:Option Addr):Strs w p []:=Or.inl rfl
theorem Strs.drewN  (h:Strs w p l) (n:Nat):Strs (w.drewN n) p l:=h
theorem Strs.below  (h:Strs w p l) (j:Below w.heap.size w f):Strs f p l:=by
 rcases h with h | ⟨b,o,q,d,s⟩
 ·exact Or.inl h
 ·exact Or.inr ⟨b,o,q,Nat.lt_of_lt_of_le d j.size,fun i t=>(j.cell (p:=⟨b,o+i,none⟩) d).trans (s i t)⟩
theorem Strs.bB   (h:Strs w p l) (j:Below B w f) (A:∀ b o,p=some ⟨b,o,none⟩->b < B):Strs f p l:=by
 rcases h with h | ⟨b,o,d,q,s⟩
 ·exact Or.inl h
 ·exact Or.inr ⟨b,o,d,Nat.lt_of_lt_of_le q j.size,fun i t=>(j.cell (p:=⟨b,o+i,none⟩) (A b o d)).trans (s i t)⟩
theorem Strs.take  (h:Strs w p l) (i:Nat):Strs w p (l.take i):=by
 rcases h with h | ⟨b,o,d,f,q⟩
 ·exact Or.inl (by rw [h,List.take_nil])
 ·refine Or.inr ⟨b,o,d,f,fun j s=>?_⟩
  rw [List.length_take] at s
  rw [q j (by omega),D0 (by omega)]
theorem XT {a:ByteArray} (h:a≠b):¬ a.toList=b.toList:=fun e=>h (by
 rw [ByteArray.toList_eq,ByteArray.toList_eq] at e
 exact ByteArray.ext (Array.toList_inj.1 e))
theorem YT {a:ByteArray} (h:a≠b):(a.toList==b.toList)=false:=by simpa using XT h
theorem Y8 {a:ByteArray} (h:a≠b):(a==b)=false:=by rw [beq_toListBytes];exact YT h
section
open Go.ChangeShapes Go.WideShapes Go.ChangeAt Go.RowKit
theorem x5:laidOutB prog=true:=by kernel_rfl
theorem nR:prog.bytesOf 9=16:=by kernel_rfl
set_option maxRecDepth 100000 in
theorem v8 {H:Type} {enc:TypeId×Value->H} {a2:Nat} {d:DataW H} {ps:List MemPlace} (a3:Value.okWide prog W .any a2 41 v)
 (h:DataW.Trod enc prog W 0 (fun _=>true) true 41 v d ps):∃ p l G,v=.slice p l.length G/\Strs W p l/\l.length<=maxLen/\(∀ x ∈ l,x.size<=maxLen)/\l.length<=G/\(p=none->l=[]/\G=0)/\((d.weights prog 41).all (·<=reachBytes)=true->l.length<=8796093021952):=by
 obtain ⟨a0,f,L,rfl⟩:=okWide_slice underlying41 a3
 obtain ⟨fuel,M⟩:=h
 rcases Deep.open_strs underlying41 underlying9 (by kernel_rfl) M with ⟨A,_⟩ | ⟨a,len,cp,m,s,A,_,N,a4,O,Q,B⟩
 ·simp [Value.cells] at A
  obtain ⟨rfl,rfl,rfl⟩:=A
  exact ⟨none,[],0,rfl,Or.inl rfl,Nat.zero_le _,fun x B=>(by cases B),Nat.le_refl _,fun _=>⟨rfl,rfl⟩,fun _=>Nat.zero_le _⟩
 ·simp [Value.cells] at A
  obtain ⟨rfl,rfl,rfl⟩:=A
  have a5:f<=m:=by rw [O];split <;> omega
  have o:((List.range f).map s).length=f:=by simp
  have R:∀ i,i < f->Yc ((List.range f).map s) i=s i:=fun i t=>by
   rw [Xk _ i (by rw [o];exact t)]
   simp
  refine ⟨some a,(List.range f).map s,L,by rw [o],?_,by rw [o];omega,fun x S=>?_,by rw [o];exact N,(fun e=>by cases e),fun I=>?_⟩
  ·by_cases T:f=0
   ·exact Or.inl (List.length_eq_zero_iff.1 (by rw [o];exact T))
   ·have D:=(B 0 (by omega)).1
    obtain ⟨b,U,K⟩:=a
    have V:K=none:=by
     cases K with
     | none=>rfl
     | some q =>
      exfalso
      simp [Addr.add,World.cell?] at D
      revert D
      split <;> intro Y <;> cases Y
    subst V
    refine Or.inr ⟨b,U,rfl,?_,fun i t=>?_⟩
    ·rw [Addr.add_lit] at D
     rcases Nat.lt_or_ge b W.heap.size with J | J
     ·exact J
     ·simp [World.cell?,Array.getElem?_eq_none J] at D
    ·rw [o] at t
     have:=(B i (by omega)).1
     rw [Addr.add_lit] at this
     rw [R i t]
     exact this
  ·obtain ⟨i,t,rfl⟩:=List.mem_map.1 S
   exact (B i (by have:=List.mem_range.1 t;omega)).2
  ·have Z:d=.slice ((List.range f).map fun i=>.lit (.string (s i).data.toList)) ((List.range (m - f)).map fun j=>.lit (.string (s (f+j)).data.toList)):=congrArg Prod.fst Q
   rw [Z] at I
   simp only [DataW.weights,underlying41,List.all_cons,Bool.and_eq_true,List.length_map,List.length_range,nR,reachBytes] at I
   have h1:=of_decide_eq_true I.1
   rw [o]
   omega
end
def ZJ (l:List ByteArray) (s:ByteArray):Nat:=l.findIdx fun x=>decide (x=s)
theorem DQ  (d:i < l.length) (h:Yc l i=s) (o:∀ j,j < i->Yc l j≠s):ZJ l s=i:=by
 unfold ZJ
 rw [List.findIdx_eq d]
 refine ⟨decide_eq_true (by rw [<- Xk l i d];exact h),fun j f=>decide_eq_false ?_⟩
 rw [<- Xk l j (by omega)]
 exact o j f
def Xr (c:Nat):Bool:=decide (97<=c/\c<=122) || decide (48<=c/\c<=57) || decide (c=45)
def Jo (s:ByteArray):Bool:=decide (1<=s.size/\s.size<=16) && (bytesOf s).all Xr
theorem QF (h:Jo s=true):1<=s.size/\s.size<=16:=by
 unfold Jo at h
 rw [Bool.and_eq_true] at h
 exact of_decide_eq_true h.1
theorem H3 (o:1<=s.size) (q:s.size<=16) (h:∀ j,j < s.size->Xr (Gf.nth (bytesOf s) j)=true):Jo s=true:=by
 unfold Jo
 rw [decide_eq_true ⟨o,q⟩,Bool.true_and,List.all_eq_true]
 intro x f
 obtain ⟨j,d,rfl⟩:=List.getElem_of_mem f
 rw [<- Gf.aK _ j d]
 exact h j (by rw [tZ] at d;exact d)
theorem O1  (f:j < s.size) (h:Xr (Gf.nth (bytesOf s) j)=false):Jo s=false:=by
 unfold Jo
 rw [Bool.and_eq_false_iff]
 refine Or.inr (List.all_eq_false.2 ⟨Gf.nth (bytesOf s) j,?_,by rw [h];decide⟩)
 have d:j < (bytesOf s).length:=by rw [tZ];exact f
 rw [Gf.aK _ j d]
 exact List.getElem_mem d
theorem CT (h:¬ (1<=s.size/\s.size<=16)):Jo s=false:=by
 unfold Jo
 rw [decide_eq_false h,Bool.false_and]
def Xu (l:List ByteArray) (x:ByteArray):Bool:=l.any fun y=>decide (y=x)
theorem Zl :Xu l x=true↔x ∈ l:=by
 unfold Xu
 rw [List.any_eq_true]
 exact ⟨fun ⟨y,d,e⟩=>by rw [<- of_decide_eq_true e];exact d,fun h=>⟨x,h,decide_eq_true rfl⟩⟩
def Yu (l:List ByteArray) (i:Nat):Nat:=if Jo (Yc l i) then (if Xu (l.take i) (Yc l i) then 6 else 0) else 4
theorem s3  (h:Jo (Yc l i)=false):Yu l i=4:=by
 unfold Yu
 rw [h,if_neg (by decide)]
theorem TL  (h:Jo (Yc l i)=true) (d:Yc l i ∈ l.take i):Yu l i=6:=by
 unfold Yu
 rw [if_pos h,if_pos (Zl.2 d)]
theorem ET  (h:Jo (Yc l i)=true) (f:Yc l i ∉ l.take i):Yu l i=0:=by
 unfold Yu
 rw [if_pos h,if_neg (fun d=>f (Zl.1 d))]
def XO (l:List ByteArray):Nat->Nat->Int×Int
 | _,0=>(0,-1)
 | i,m+1=>if Yu l i=0 then XO l (i+1) m else ((Yu l i:Nat),(i:Nat))
def Xj (l:List ByteArray):Int×Int:=if l.length < 1∨16 < l.length then (2,-1) else XO l 0 l.length
theorem E7 (h:l.length < 1∨16 < l.length):Xj l=(2,-1):=if_pos h
theorem AB (d:¬ l.length < 1) (f:¬ 16 < l.length):Xj l=XO l 0 l.length:=if_neg (by omega)
theorem GC {l:List ByteArray}:∀ (m i:Nat),XO l i m=(0,-1)->∀ j,i<=j->j < i+m->Yu l j=0
 | 0,i,_,j,h1,h2=>by omega
 | m+1,i,h,j,h1,h2=>by
  have d:(if Yu l i=0 then XO l (i+1) m else (((Yu l i:Nat):Int),(i:Int)))=(0,-1):=h
  by_cases e:Yu l i=0
  ·rw [if_pos e] at d
   by_cases f:j=i
   ·rw [f];exact e
   ·exact GC m (i+1) d j (by omega) (by omega)
  ·rw [if_neg e] at d
   have o:=congrArg Prod.fst d
   have q:((Yu l i:Nat):Int)=0:=o
   omega
theorem EG {l:List ByteArray}:∀ (m i:Nat),(XO l i m).1<=0->XO l i m=(0,-1)
 | 0,_,_=>rfl
 | m+1,i,h=>by
  show (if Yu l i=0 then XO l (i+1) m else (((Yu l i:Nat):Int),(i:Int)))=(0,-1)
  have d:(if Yu l i=0 then XO l (i+1) m else (((Yu l i:Nat):Int),(i:Int))).1<=0:=h
  by_cases e:Yu l i=0
  ·rw [if_pos e] at d ⊢
   exact EG m (i+1) d
  ·rw [if_neg e] at d
   have f:((Yu l i:Nat):Int)<=0:=d
   omega
theorem QV (h:(Xj l).1<=0):Xj l=(0,-1)/\1<=l.length/\l.length<=16:=by
 by_cases d:l.length < 1∨16 < l.length
 ·rw [E7 d] at h
  exact absurd h (by decide)
 ·have f:Xj l=XO l 0 l.length:=if_neg d
  rw [f] at h ⊢
  exact ⟨EG _ _ h,by omega,by omega⟩
theorem YP (h:(Xj l).1<=0):(∀ x ∈ l,Jo x=true)/\l.Nodup:=by
 obtain ⟨f,A,B⟩:=QV h
 rw [AB (by omega) (by omega)] at f
 have q:=GC l.length 0 f
 have o:∀ j,j < l.length->Jo (Yc l j)=true/\Yc l j ∉ l.take j:=fun j d=>by
  have:=q j (Nat.zero_le _) (by omega)
  unfold Yu at this
  by_cases e:Jo (Yc l j)=true
  ·rw [if_pos e] at this
   refine ⟨e,fun s=>?_⟩
   rw [if_pos (Zl.2 s)] at this
   omega
  ·rw [if_neg e] at this
   omega
 refine ⟨fun x t=>?_,?_⟩
 ·obtain ⟨j,d,rfl⟩:=tF t
  exact (o j d).1
 ·rw [List.nodup_iff_pairwise_ne,List.pairwise_iff_getElem]
  intro i j D d G e
  refine (o j d).2 ?_
  rw [Xk l j d,<- e,List.mem_take_iff_getElem]
  exact ⟨i,by omega,rfl⟩
def Jm (l:List ByteArray) (n:Int):Int×Int:=if 0 < (Xj l).1 then Xj l else if (l.length:Int) < n then (8,-1) else if n < 0 then (2,-1) else Xj l
theorem sK  (h:¬ 0 < (Jm l n).1):(Xj l).1<=0/\0<=n/\n<=l.length/\Jm l n=(0,-1):=by
 unfold Jm at h ⊢
 by_cases d:0 < (Xj l).1
 ·rw [if_pos d] at h;exact absurd d h
 rw [if_neg d] at h ⊢
 by_cases f:(l.length:Int) < n
 ·rw [if_pos f] at h;exact absurd (by decide) h
 rw [if_neg f] at h ⊢
 by_cases j:n < 0
 ·rw [if_pos j] at h;exact absurd (by decide) h
 rw [if_neg j] at h ⊢
 exact ⟨by omega,by omega,by omega,(QV (by omega)).1⟩
def Qk (l:List ByteArray):Bool:=decide (40 < l.length) || l.any fun x=>decide (100 < x.size)
theorem z6 (h:Qk l=false):l.length<=40/\∀ x ∈ l,x.size<=100:=by
 unfold Qk at h
 rw [Bool.or_eq_false_iff] at h
 refine ⟨by have:=of_decide_eq_false h.1;omega,fun x d=>?_⟩
 have:=List.any_eq_false.1 h.2 x d
 have j:¬ 100 < x.size:=fun f=>this (decide_eq_true f)
 omega
theorem KR {l:List ByteArray}:∀ (m i:Nat),(∀ j,i<=j->j < i+m->Yu l j=0)->XO l i m=(0,-1)
 | 0,_,_=>rfl
 | m+1,i,h=>by
  show (if Yu l i=0 then XO l (i+1) m else (((Yu l i:Nat):Int),(i:Int)))=(0,-1)
  rw [if_pos (h i (Nat.le_refl _) (by omega))]
  exact KR m (i+1) (fun j d f=>h j (by omega) (by omega))
theorem UY (t:1<=l.length) (A:l.length<=16) (h:∀ x ∈ l,Jo x=true) (o:l.Nodup):Xj l=(0,-1):=by
 rw [AB (by omega) (by omega)]
 refine KR _ _ fun j _ q=>ET (h _ (oQ (by omega))) fun f=>?_
 obtain ⟨i,s,e⟩:=List.mem_take_iff_getElem.1 f
 have d:j < l.length:=by omega
 rw [Xk l j d] at e
 have:=(List.nodup_iff_pairwise_ne.1 o)
 rw [List.pairwise_iff_getElem] at this
 exact this i j (by omega) d (by omega) e
theorem u9  (h:Xj l=(0,-1)) (d:0<=n) (f:n<=l.length):Jm l n=(0,-1):=by
 unfold Jm
 rw [h,if_neg (by decide),if_neg (by omega),if_neg (by omega)]
structure jU (w:World) (p:Option Addr) (l:List Nat):Prop where
 lt:Gf.Bytes l
 cells:l=[]∨∃ b o,p=some ⟨b,o,none⟩/\b < w.heap.size/\∀ i,i < l.length->w.cell? ⟨b,o+i,none⟩=some (.int .u8 ((Gf.nth l i:Nat):Int))
theorem jU.drewN  {l:List Nat} (h:jU w p l) (n:Nat):jU (w.drewN n) p l:=⟨h.lt,h.cells⟩
theorem jU.below  {l:List Nat} (h:jU w p l) (j:Below w.heap.size w f):jU f p l:=by
 refine ⟨h.lt,?_⟩
 rcases h.cells with h | ⟨b,o,q,d,s⟩
 ·exact Or.inl h
 ·exact Or.inr ⟨b,o,q,Nat.lt_of_lt_of_le d j.size,fun i t=>(j.cell (p:=⟨b,o+i,none⟩) d).trans (s i t)⟩
section
def ZM (n:Nat):Value:=.int .u8 (n:Int)
def X3 (w:World) (B:Nat) (e:TypeId) (v:Value) (l:List Nat):Prop:=w.ownsRow B e 1 v l.length (l.map ZM)
theorem X3.nil (w:World) (B:Nat) (e:TypeId):X3 w B e (.slice none 0 0) []:=World.ownsRow_nil w B e 1
theorem X3.kept   {l:List Nat} (h:X3 w B e v l) (f:w.grownBy d row) (j:v.ownBlock=none∨v.ownBlock≠row):X3 d B e v l:=World.ownsRow.kept h f j
theorem X3.block   {l:List Nat} (h:X3 w B e v l) (d:v.ownBlock=some k):B<=k/\k < w.heap.size:=World.ownsRow.lt h k d
theorem JO (w:World) (n:Nat) (row:Option Nat):w.grownBy (w.drewN n) row:=⟨rfl,rfl,rfl,Nat.le_refl _,fun _ _ _=>rfl⟩
theorem X3.NS   {l:List Nat} (h:X3 w B e v l) (o:Gf.Bytes l):∃ p d,v=.slice p l.length d/\jU w p l:=by
 rcases h.2 with ⟨rfl,q⟩ | ⟨g,d,t,rfl,A,s,D,G,H,I⟩
 ·have:l=[]:=List.length_eq_zero_iff.1 q
  subst this
  exact ⟨none,0,rfl,o,Or.inl rfl⟩
 ·refine ⟨some ⟨g,0,none⟩,d,rfl,o,Or.inr ⟨g,0,rfl,(Array.getElem?_eq_some_iff.1 s).1,fun i f=>?_⟩⟩
  have j:=World.ownsRow.cells (g:=g) h rfl i (ZM (Gf.nth l i)) (by rw [List.getElem?_map,List.getElem?_eq_getElem f,Gf.aK l i f];rfl)
  rw [Addr.add_lit] at j
  exact j
section
variable {P:Program} {w:World}
theorem n9 (B:Nat) (t o e:TypeId) (i:TypeInfo) (z:Value) (D:P.underlying t=some (.slice e)) (G:P.info? e=some i) (L:i.zero=some z) (h:i.size=1) (M:i.bytes=1)
 (v:Value) (l:List Nat) (H:X3 w B e v l) (ad:Addr) (c b:Nat) (S:w.cell? ad=some (ZM b)) (hl:l.length+1<=1000000) {T:World}
 (d:(Builtin.append_ #[t,t] o #[v,.slice (some ad) 1 c]).run P w=.ok I T):I.ownBlock=v.ownBlock∨I.ownBlock=some w.heap.size:=by
 have q:∀ j u,[ZM b][j]?=some u->w.cell? (ad.add j)=some u:=by
  intro j u s
  match j,s with
  | 0,s =>
   obtain rfl:ZM b=u:=by simpa using s
   simpa [Addr.add] using S
 rcases H.2 with ⟨rfl,U⟩ | ⟨g,A,N,rfl,V,O,W,Y,Q,Z⟩
 ·have:=run_append_nil (P:=P) w t o e i z D G L ad 1 c [ZM b] (by rw [h];rfl) q (by decide) (by decide) (by rw [M];decide)
  rw [this] at d
  injection d with f J
  subst f
  exact Or.inr rfl
 ·by_cases K:l.length+1<=A
  ·have:=run_append_room (P:=P) w t o e i D G g l.length A N O ad 1 c [ZM b] (by rw [h];rfl) q (fun u R=>by rw [List.mem_singleton.1 R];rfl) K (by rw [h,Q];simpa using K)
   rw [this] at d
   injection d with f J
   subst f
   exact Or.inl rfl
  ·have:=run_append_grow (P:=P) w t o e i z D G L ⟨g,0,none⟩ l.length A (l.map ZM) (by rw [h];exact H.1) (World.ownsRow.cells (g:=g) H rfl) ad 1 c [ZM b] (by rw [h];rfl) q (by omega) (by omega) (growslice_fits (by omega) (by rw [M];omega))
   rw [this] at d
   injection d with f J
   subst f
   exact Or.inr rfl
theorem y0  {K:Act->World->Prop} (s x:Operand) (t:TypeId)
 (V:o.op=.call { callee:=.builtin .append,args:=#[s,x],argTypes:=#[t,t] })
 (B:Nat) (e:TypeId) (i:TypeInfo) (D:P.underlying t=some (.slice e)) (G:P.info? e=some i) (H:i.zero=some (ZM 0)) (I:i.size=1) (J:i.bytes=1)
 (v:Value) (l:List Nat) (W:a.eval s=v) (L:X3 w B e v l) (ad:Addr) (c b:Nat) (Y:a.eval x=.slice (some ad) 1 c) (M:w.cell? ad=some (ZM b)) (Z:l.length+1<=1000000) (a0:B<=w.heap.size)
 (h:∀ d f,X3 f B e d (l ++ [b])->w.grownBy f v.ownBlock->(d.ownBlock=v.ownBlock∨d.ownBlock=some w.heap.size)->K (a.put o.dst d) f):o.wp P a w K Q:=by
 have N:∀ j u,[ZM b][j]?=some u->w.cell? (ad.add j)=some u:=by
  intro j u q
  match j,q with
  | 0,q =>
   obtain rfl:ZM b=u:=by simpa using q
   simpa [Addr.add] using M
 obtain ⟨d,f,A,O,R,_⟩:=run_append_own (P:=P) w B t o.type e i (ZM 0) 1 1 D G H I J rfl (by decide) v l.length (l.map ZM) L ad 1 c [ZM b] rfl N (fun u S=>by rw [List.mem_singleton.1 S];rfl) (by unfold maxLen;omega) (by omega) a0
 have T:=n9 B t o.type e i (ZM 0) D G H I J v l L ad c b M Z A
 have U:X3 f B e d (l ++ [b]):=by
  unfold X3
  rw [List.length_append,List.map_append]
  exact O
 unfold Oper.wp execOp
 simp only [V,resolve,invoke,builtin,Sem.run_bind,Sem.run_pure,Result.andThen_ok,List.map_toArray,List.map_cons,List.map_nil,W,Y,A]
 exact h d f U R T
theorem H7 {j:Array Oper}   (H:o.guard=none) (s x:Operand) (t:TypeId)
 (I:o.op=.call { callee:=.builtin .append,args:=#[s,x],argTypes:=#[t,t] })
 (B:Nat) (e:TypeId) (i:TypeInfo) (J:P.underlying t=some (.slice e)) (K:P.info? e=some i) (L:i.zero=some (ZM 0)) (M:i.size=1) (N:i.bytes=1)
 (v:Value) (l:List Nat) (O:a.eval s=v) (R:X3 w B e v l) (ad:Addr) (c b:Nat) (S:a.eval x=.slice (some ad) 1 c) (T:w.cell? ad=some (ZM b)) (U:l.length+1<=1000000) (V:B<=w.heap.size)
 (h:∀ d f,X3 f B e d (l ++ [b])->w.grownBy f v.ownBlock->(d.ownBlock=v.ownBlock∨d.ownBlock=some w.heap.size)->wpList P j Q rest (a.put o.dst d) f):wpList P j Q (o :: rest) a w :=
 wpList_plain H fun _ q=>y0 s x t I B e i J K L M N v l O R ad c b S T U V fun d f A D G=>q _ _ (h d f A D G)
end
end
section
def JM (w:World) (B:Nat) (e:TypeId) (v:Value) (d:List Value):Prop:=w.ownsRow B e 1 v d.length d
theorem JM.nil (w:World) (B:Nat) (e:TypeId):JM w B e (.slice none 0 0) []:=World.ownsRow_nil w B e 1
theorem JM.kept   {l:List Value} (h:JM w B e v l) (f:w.grownBy d row) (j:v.ownBlock=none∨v.ownBlock≠row):JM d B e v l:=World.ownsRow.kept h f j
theorem JM.block   {l:List Value} (h:JM w B e v l) (d:v.ownBlock=some k):B<=k/\k < w.heap.size:=World.ownsRow.lt h k d
theorem JM.cells   {l:List Value} (h:JM w B e v l):v=.slice none 0 0/\l=[]∨∃ g d,v=.slice (some ⟨g,0,none⟩) l.length d/\B<=g/\g < w.heap.size/\∀ i u,l[i]?=some u->w.cell? ⟨g,i,none⟩=some u:=by
 rcases h.2 with ⟨rfl,j⟩ | ⟨g,d,t,rfl,o,q,A,D,G,H⟩
 ·exact Or.inl ⟨rfl,List.length_eq_zero_iff.1 j⟩
 ·refine Or.inr ⟨g,d,rfl,o,(Array.getElem?_eq_some_iff.1 q).1,fun i u s=>?_⟩
  have f:=World.ownsRow.cells (g:=g) h rfl i u s
  rw [Addr.add_lit,Nat.zero_add] at f
  exact f
section
variable {P:Program} {w:World}
theorem k6 (B:Nat) (t o e:TypeId) (i:TypeInfo) (z:Value) (bytes:Nat) (D:P.underlying t=some (.slice e)) (G:P.info? e=some i) (L:i.zero=some z) (h:i.size=1) (M:i.bytes=bytes) (S:bytes<=64)
 (v:Value) (l:List Value) (H:JM w B e v l) (ad:Addr) (c:Nat) (u:Value) (T:u.oneCell'=true) (U:w.cell? ad=some u) (V:l.length+1<=1000000) 
 (d:(Builtin.append_ #[t,t] o #[v,.slice (some ad) 1 c]).run P w=.ok I W):I.ownBlock=v.ownBlock∨I.ownBlock=some w.heap.size:=by
 have q:∀ j x,[u][j]?=some x->w.cell? (ad.add j)=some x:=by
  intro j x s
  match j,s with
  | 0,s =>
   obtain rfl:u=x:=by simpa using s
   simpa [Addr.add] using U
 rcases H.2 with ⟨rfl,Y⟩ | ⟨g,A,N,rfl,Z,O,a0,a2,Q,a3⟩
 ·have:=run_append_nil (P:=P) w t o e i z D G L ad 1 c [u] (by rw [h];rfl) q (by decide) (by decide) (by rw [M];omega)
  rw [this] at d
  injection d with f J
  subst f
  exact Or.inr rfl
 ·by_cases K:l.length+1<=A
  ·have:=run_append_room (P:=P) w t o e i D G g l.length A N O ad 1 c [u] (by rw [h];rfl) q (fun x R=>by rw [List.mem_singleton.1 R];exact T) K (by rw [h,Q];simpa using K)
   rw [this] at d
   injection d with f J
   subst f
   exact Or.inl rfl
  ·have a4:(l.length+1)*bytes<=1000000*64:=Nat.mul_le_mul V S
   have:=run_append_grow (P:=P) w t o e i z D G L ⟨g,0,none⟩ l.length A l (by rw [h];exact H.1) (World.ownsRow.cells (g:=g) H rfl) ad 1 c [u] (by rw [h];rfl) q (by omega) (by omega) (growslice_fits (by omega) (by rw [M];omega))
   rw [this] at d
   injection d with f J
   subst f
   exact Or.inr rfl
theorem yL {G:Array Oper}   (a0:o.guard=none) (s x:Operand) (t:TypeId)
 (ho:o.op=.call { callee:=.builtin .append,args:=#[s,x],argTypes:=#[t,t] })
 (B:Nat) (e:TypeId) (i:TypeInfo) (z:Value) (bytes:Nat) (H:P.underlying t=some (.slice e)) (I:P.info? e=some i) (J:i.zero=some z) (a2:z.cells.size=1) (L:i.size=1) (M:i.bytes=bytes) (N:bytes<=64)
 (v:Value) (l:List Value) (hs:a.eval s=v) (O:JM w B e v l) (ad:Addr) (c:Nat) (u:Value) (R:u.oneCell'=true) (A:a.eval x=.slice (some ad) 1 c) (S:w.cell? ad=some u) (T:l.length+1<=1000000) (a3:B<=w.heap.size)
 (h:∀ d f,JM f B e d (l ++ [u])->w.grownBy f v.ownBlock->(d.ownBlock=v.ownBlock∨d.ownBlock=some w.heap.size)->wpList P G Q rest (a.put o.dst d) f):wpList P G Q (o :: rest) a w:=by
 have U:∀ j x,[u][j]?=some x->w.cell? (ad.add j)=some x:=by
  intro j x q
  match j,q with
  | 0,q =>
   obtain rfl:u=x:=by simpa using q
   simpa [Addr.add] using S
 have a4:(l.length+1)*bytes<=1000000*64:=Nat.mul_le_mul T N
 refine wpList_plain a0 fun K V=>?_
 obtain ⟨d,f,D,W,Y,_⟩:=run_append_own (P:=P) w B t o.type e i z 1 bytes H I J L M a2 (by decide) v l.length l O ad 1 c [u] rfl U (fun x A=>by rw [List.mem_singleton.1 A];exact R) (by unfold maxLen;omega) (by omega) a3
 have Z:=k6 B t o.type e i z bytes H I J L M N v l O ad c u R S T D
 have h5:JM f B e d (l ++ [u]):=by
  unfold JM
  rw [List.length_append]
  exact W
 unfold Oper.wp execOp
 simp only [ho,resolve,invoke,builtin,Sem.run_bind,Sem.run_pure,Result.andThen_ok,List.map_toArray,List.map_cons,List.map_nil,hs,A,D]
 exact V _ _ (h d f h5 Y Z)
theorem S2 {L:Array Oper}   (M:o.guard=none) (s x:Operand) (t:TypeId)
 (N:o.op=.call { callee:=.builtin .append,args:=#[s,x],argTypes:=#[t,t] })
 (e:TypeId) (i:TypeInfo) (B:P.underlying t=some (.slice e)) (D:P.info? e=some i) (hz:i.zero=some (ZM 0)) (a0:i.size=1) (a2:i.bytes=1)
 (O:a.eval s=.slice none 0 0) (q:Option Addr) (r:List Nat) (c:Nat) (G:a.eval x=.slice q r.length c) (hq:jU w q r) (hl:r.length<=1000000) (a3:q=none->c=0)
 (h:∀ f d,X3 d w.heap.size e f r->Below w.heap.size w d->wpList P L Q rest (a.put o.dst f) d):wpList P L Q (o :: rest) a w:=by
 rcases hq.cells with A | ⟨b,R,rfl,hb,S⟩
 ·subst A
  refine wpList_plain M fun K T=>?_
  have A:(Builtin.append_ #[t,t] o.type #[.slice none 0 0,.slice q 0 c]).run P w=.ok (.slice none 0 0) w:=by
   cases q with
   | none=>obtain rfl:=a3 rfl;simp [Builtin.append_,run_underlying B,sizeOf,typeInfo,D,Builtin.lenOf,Builtin.firstCells]
   | some ad=>simp [Builtin.append_,run_underlying B,sizeOf,typeInfo,D,Builtin.lenOf,Builtin.firstCells,loadCells,loadCellsFrom]
  unfold Oper.wp execOp
  simp only [List.length_nil] at G
  simp only [N,resolve,invoke,builtin,Sem.run_bind,Sem.run_pure,Result.andThen_ok,List.map_toArray,List.map_cons,List.map_nil,O,G,A]
  exact T _ _ (h _ _ (X3.nil w _ e) (Below.refl _ _))
 ·refine wpList_append_own w M s x t N w.heap.size e i (ZM 0) 1 1 B D hz a0 a2 rfl (by decide) (.slice none 0 0) 0 [] O (World.ownsRow_nil w _ e 1) ⟨b,R,none⟩ r.length c (r.map ZM) G (by simp) ?_ ?_ (by unfold maxLen;omega) (by omega) (Nat.le_refl _) ?_
  ·intro j u H
   rw [List.getElem?_map] at H
   obtain ⟨y,I,U⟩:=Option.map_eq_some_iff.1 H
   have J:j < r.length:=(List.getElem?_eq_some_iff.1 I).1
   rw [Addr.add_lit,S j J,Gf.aK r j J,<- U]
   have:r[j]=y:=(List.getElem?_eq_some_iff.1 I).2
   rw [this]
   rfl
  ·intro u V
   obtain ⟨y,_,rfl⟩:=List.mem_map.1 V
   rfl
  ·intro f d W Y _
   refine h f d ?_ ((Below.refl _ _).grown Y (Nat.le_refl _) (fun k Z=>by simp [Value.ownBlock] at Z))
   simpa [X3] using W
end
end
section
def Zq (w:World) (B:Nat) (v:Value) (l:List ByteArray):Prop:=JM w B 9 v (l.map Value.string)
theorem Zq.nil (w:World) (B:Nat):Zq w B (.slice none 0 0) []:=JM.nil w B _
theorem Zq.block   (h:Zq w B v l) (d:v.ownBlock=some k):B<=k/\k < w.heap.size:=JM.block h d
theorem Zq.form   (h:Zq w B v l):∃ p c,v=.slice p l.length c/\Strs w p l/\l.length<=c/\(p=none->c=0)/\∀ b o,p=some ⟨b,o,none⟩->B<=b/\b < w.heap.size:=by
 have q:=JM.cells h
 have s:w.ownsRow B 9 1 v (l.map Value.string).length (l.map Value.string):=h
 rcases s.2 with ⟨rfl,t⟩ | ⟨g,A,M,rfl,D,G,d,N,O,Q⟩
 ·have e:l=[]:=by simpa using t
  subst e
  exact ⟨none,0,rfl,Or.inl rfl,Nat.le_refl _,fun _=>rfl,fun _ _ h=>by cases h⟩
 ·rw [List.length_map] at d ⊢
  have f:g < w.heap.size:=(Array.getElem?_eq_some_iff.1 G).1
  refine ⟨some ⟨g,0,none⟩,A,rfl,Or.inr ⟨g,0,rfl,f,fun i j=>?_⟩,d,fun h=>(by cases h),fun b o h=>?_⟩
  ·rcases q with ⟨H,_⟩ | ⟨I,R,J,_,_,K⟩
   ·cases H
   ·have L : g = I := by
     have:=congrArg Value.ownBlock J
     simpa [Value.ownBlock] using this
    subst L
    rw [Nat.zero_add,K i (.string (Yc l i)) (by rw [List.getElem?_map,List.getElem?_eq_getElem j,Xk l i j];rfl)]
  ·obtain ⟨rfl,rfl⟩:g=b/\0=o:=by simpa using h
   exact ⟨D,f⟩
theorem Zq.base {f:Nat}  (h:Zq w B v l) (D:f<=B):Zq w f v l:=by
 obtain ⟨j,d⟩:=h
 refine ⟨j,?_⟩
 rcases d with d | ⟨g,o,q,s,t,A⟩
 ·exact Or.inl d
 ·exact Or.inr ⟨g,o,q,s,Nat.le_trans D t,A⟩
theorem Zq.kept   (h:Zq w B v l) (d:Below w.heap.size w f):Zq f B v l :=
 JM.kept (row:=none) h ⟨d.os,d.tape,d.output,d.size,fun k j _=>d.block k j⟩ (by cases v.ownBlock <;> simp)
section
variable {w:World}
theorem R8 {H:Array Oper}   (M:o.guard=none) (s x:Operand)
 (N:o.op=.call { callee:=.builtin .append,args:=#[s,x],argTypes:=#[41,41] })
 (B:Nat) (v:Value) (l:List ByteArray) (O:a.eval s=v) (A:Zq w B v l) (q:Option Addr) (r:List ByteArray) (c:Nat) (R:a.eval x=.slice q r.length c) (hq:Strs w q r) (a3:q=none->r=[]/\c=0) (hl:l.length+r.length<=8796093022208) (S:B<=w.heap.size)
 (h:∀ f d,Zq d B f (l ++ r)->Below B w d->wpList prog H Q rest (a.put o.dst f) d):wpList prog H Q (o :: rest) a w:=by
 obtain ⟨I,J,T,U,V⟩:=info_parts (P:=prog) (e:=9) (z:=.string ⟨#[]⟩) (size:=1) (bytes:=16) (by kernel_rfl)
 have W:∀ f d,d.ownsRow B 9 1 f ((l.map Value.string).length+r.length) (l.map Value.string ++ r.map Value.string)->w.grownBy d v.ownBlock->wpList prog H Q rest (a.put o.dst f) d:=fun f d D G=>by
  refine h f d ?_ ((Below.refl _ _).grown G S (fun k Y=>(A.block Y).1))
  unfold Zq JM
  have e:(l.map Value.string ++ r.map Value.string).length=(l.map Value.string).length+r.length:=by simp
  rw [List.map_append,e]
  exact D
 cases q with
 | none =>
  obtain ⟨Z,hc⟩:=a3 rfl
  subst Z hc
  refine wpList_append_own_none M s x _ N B 9 I 1 underlying41 J v (l.map Value.string).length (l.map Value.string) O A R ?_
  have:=h v w (by rw [List.append_nil];exact A) (Below.refl _ _)
  exact this
 | some ad =>
  refine wpList_append_own w M s x _ N B 9 I (.string ⟨#[]⟩) 1 16 underlying41 J T U V rfl (by decide) v (l.map Value.string).length (l.map Value.string) O A ad r.length c (r.map Value.string) R (by simp) ?_ ?_ (by rw [List.length_map];unfold maxLen;omega) (by rw [List.length_map];omega) S (fun f d D G _=>W f d D G)
  ·intro j u K
   rw [List.getElem?_map] at K
   obtain ⟨y,L,a0⟩:=Option.map_eq_some_iff.1 K
   have t:j < r.length:=(List.getElem?_eq_some_iff.1 L).1
   rcases hq with h0 | ⟨b,o',hp,_,a2⟩
   ·rw [h0] at t;exact absurd t (Nat.not_lt_zero _)
   ·obtain rfl:ad=⟨b,o',none⟩:=by simpa using hp
    rw [Addr.add_lit,a2 j t,Xk r j t,<- a0,(List.getElem?_eq_some_iff.1 L).2]
  ·intro u hu
   obtain ⟨y,_,rfl⟩:=List.mem_map.1 hu
   rfl
theorem S5 {j:Array Oper}   (N:o.guard=none) (s x:Operand)
 (O:o.op=.call { callee:=.builtin .append,args:=#[s,x],argTypes:=#[41,41] })
 (B:Nat) (v:Value) (l:List ByteArray) (R:a.eval s=v) (q:Zq w B v l) (ad:Addr) (t:ByteArray) (c:Nat) (S:a.eval x=.slice (some ad) 1 c) (T:w.cell? ad=some (.string t)) (U:l.length+1<=1000000) (A:B<=w.heap.size)
 (h:∀ f d,Zq d B f (l ++ [t])->Below B w d->wpList prog j Q rest (a.put o.dst f) d):wpList prog j Q (o :: rest) a w:=by
 obtain ⟨D,G,H,I,J⟩:=info_parts (P:=prog) (e:=9) (z:=.string ⟨#[]⟩) (size:=1) (bytes:=16) (by kernel_rfl)
 refine yL N s x _ O B 9 D (.string ⟨#[]⟩) 16 underlying41 G H rfl I J (by decide) v (l.map Value.string) R q ad c (.string t) rfl S T (by rw [List.length_map];exact U) A fun f d K L _=>h f d ?_ ((Below.refl _ _).grown L A (fun k M=>(q.block M).1))
 unfold Zq
 rw [List.map_append]
 exact K
end
end
set_option maxRecDepth 10000 in
set_option maxHeartbeats 1000000 in
theorem hD (p:Option Addr) (l:List ByteArray) (c:Nat) (w:World) (V:l.length<=maxLen) (s:∀ x ∈ l,x.size<=maxLen) (N:Strs w p l) :
 Calls prog 16 #[.slice p l.length c] w fun e O=>e=.returned (.bool (Qk l))/\O=w:=by
 unfold maxLen at V
 by_cases A:40 < l.length
 ·have f:Hid (Qk l=true):=by show _=_;unfold Qk;rw [decide_eq_true A,Bool.true_or]
  rw [f.out]
  go_enter func16,ntmps16
  go_wp2
  go_ret
  exact ⟨rfl,rfl⟩
 have B:Hid (∀ i,i < l.length->(Yc l i).size<=9223372036854775807):=fun i d=>by have:=s _ (oQ d);unfold maxLen at this;omega
 have D:Hid (∀ i,i < l.length->100 < (Yc l i).size->Qk l=true):=fun i d h=>by
  unfold Qk
  rw [decide_eq_false A,Bool.false_or,List.any_eq_true]
  exact ⟨Yc l i,oQ d,decide_eq_true h⟩
 have G:Hid ((∀ i,i < l.length->¬ 100 < (Yc l i).size)->Qk l=false):=fun h=>by
  unfold Qk
  rw [decide_eq_false A,Bool.false_or,List.any_eq_false]
  intro x s Q
  obtain ⟨i,d,rfl⟩:=tF s
  exact h i d (of_decide_eq_true Q)
 generalize Qk l=r at *
 have R:Hid (Strs w p l):=N
 clear N s
 go_enter func16,ntmps16
 go_wp2
 go_loop [3] (fun x=>∃ i:Nat,i<=l.length/\x=.int .i64 i/\∀ j,j < i->¬ 100 < (Yc l j).size) (fun x=>l.length - (intOf x).toNat)
 case atStart=>exact ⟨0,Nat.zero_le _,rfl,fun j H=>absurd H (Nat.not_lt_zero _)⟩
 case round =>
  obtain ⟨i,d,rfl,J⟩:=hrel
  have I:Hid (∀ j,j < i->¬ 100 < (Yc l j).size):=J
  clear J
  by_cases q:i < l.length
  ·rcases R.out with S | ⟨b,o,rfl,W,K⟩
   ·rw [S] at q;exact absurd q (Nat.not_lt_zero _)
   have Y:=K i q
   have Z:=B.out i q
   clear K
   by_cases L:100 < (Yc l i).size
   ·have f:Hid (r=true):=D.out i q L
    clear D G I B
    generalize Yc l i=t at *
    go_wp2
    go_ret
    exact ⟨by rw [f.out];rfl,rfl⟩
   ·have T:Hid (¬ 100 < (Yc l i).size):=L
    clear D G B
    generalize M:Yc l i=t at *
    have U:Hid (Yc l i=t):=M
    clear M
    go_wp2
    go_round
    case rel=>exact ⟨i+1,by omega,by go_num,fun j H=>by
     rcases Nat.lt_or_ge j i with h | h
     ·exact I.out j h
     ·obtain rfl:j=i:=by omega
      rw [U.out];exact T.out⟩
    case measure=>simp [intOf];omega
  ·have f:Hid (r=false):=G.out (fun j H=>I.out j (by omega))
   go_wp2
   go_ret
   exact ⟨by rw [f.out];rfl,rfl⟩
set_option maxRecDepth 10000 in
theorem r6 (p:Option Addr) (l:List ByteArray) (c:Nat) (w:World) (A:l.length<=8796093021952) (h:Strs w p l) (s:p=none->l=[]/\c=0) :
 Calls prog 18 #[.slice p l.length c] w fun e d=>(∃ v,e=.returned v/\Zq d w.heap.size v l)/\Below w.heap.size w d:=by
 have j:Hid (Strs w p l):=h
 clear h
 go_enter func18,ntmps18
 go_wp2_with (first | (at_builtin;refine R8 rfl (.tmp 4) (.tmp 5) rfl w.heap.size (.slice none 0 0) [] rfl (Zq.nil _ _) p l c rfl j.out s (by show 0+l.length<=_;omega) (Nat.le_refl _) ?_;intro o t f q;rw [List.nil_append] at f))
 go_ret
 exact ⟨⟨o,rfl,f⟩,q⟩
def lV (s:ByteArray):Nat->Nat
 | 0=>2166136261
 | i+1=>(lV s i ^^^ Gf.nth (bytesOf s) i)*16777619 % 4294967296
theorem B2 (s:ByteArray):∀ i,lV s i < 4294967296
 | 0=>by show 2166136261 < 4294967296;decide
 | i+1=>Nat.mod_lt _ (by decide)
set_option maxRecDepth 10000 in
set_option maxHeartbeats 2000000 in
theorem oP (D G:Option Addr) (l m:List ByteArray) (ca cb:Nat) (w:World) (hl:l.length<=1000000) (_hm:m.length<=1000000) (ha:Strs w D l) (hb:Strs w G m) :
 Calls prog 19 #[.slice D l.length ca,.slice G m.length cb] w fun e V=>e=.returned (.bool (decide (l=m)))/\Below w.heap.size w V:=by
 by_cases o:l.length=m.length
 ·have L:Hid ((∀ i,i < l.length->Yc l i=Yc m i)->decide (l=m)=true):=fun h=>decide_eq_true (mB o h)
  have M:Hid (∀ i,i < l.length->Yc l i≠Yc m i->decide (l=m)=false):=fun i _ h=>decide_eq_false (fun e=>h (by rw [e]))
  generalize decide (l=m)=r at *
  have N:Hid (m.length=l.length):=o.symm
  rw [<- o]
  clear o
  go_enter func19,ntmps19
  go_wp2
  go_loopw [5] (fun x W=>∃ i:Nat,i<=l.length/\x=.int .i64 i/\(∀ j,j < i->Yc l j=Yc m j)/\∃ n,W=w.drewN n) (fun x _=>l.length - (intOf x).toNat)
  case atStart=>exact ⟨0,Nat.zero_le _,rfl,fun j H=>absurd H (Nat.not_lt_zero _),0,rfl⟩
  case round =>
   obtain ⟨i,hi,rfl,O,n,A⟩:=hrel
   obtain ⟨f,rfl⟩:∃ f,f=wr:=⟨_,rfl⟩
   have I:Hid (∀ j,j < i->Yc l j=Yc m j):=O
   have J:Hid (∃ n,f=w.drewN n):=⟨n,A⟩
   have Q:Hid (Strs f D l):=by show Strs f D l;rw [A];exact ha.drewN n
   have R:Hid (Strs f G m):=by show Strs f G m;rw [A];exact hb.drewN n
   clear A O
   by_cases B:i < l.length
   ·rcases Q.out with K | ⟨b1,o1,rfl,a2,S⟩
    ·rw [K] at B;exact absurd B (Nat.not_lt_zero _)
    rcases R.out with K | ⟨b2,o2,rfl,a3,T⟩
    ·have:=N.out;rw [K] at this;have h3:(0:Nat)=l.length:=this;omega
    have q1:=S i B
    have Y:=T i (by have:=N.out;omega)
    clear S T Q R
    by_cases d:Yc l i=Yc m i
    ·have Z:Hid (Yc l i=Yc m i):=d
     rw [<- d] at Y
     clear d
     generalize U:Yc l i=t at *
     have a0:Hid (Yc l i=t):=U
     clear U
     go_wp2
     go_quiet (fail)
     go_wp2
     go_roundw
     case rel=>exact ⟨i+1,by omega,by go_num,fun j H=>by
      rcases Nat.lt_or_ge j i with h | h
      ·exact I.out j h
      ·obtain rfl:j=i:=by omega
       rw [a0.out];exact Z.out,by obtain ⟨n,q⟩:=J.out;exact ⟨_,by rw [q,World.drewN_drewN]⟩⟩
     case measure=>simp [intOf];omega
    ·have s:Hid (r=false):=M.out i B d
     have d1:=XT d
     have d2:=YT d
     have d3:=Y8 d
     clear d M L I
     generalize Yc l i=t at *
     generalize Yc m i=u at *
     go_wp2
     go_quiet (fail)
     go_wp2
     go_ret
     exact ⟨by rw [s.out];rfl,by obtain ⟨n,q⟩:=J.out;rw [q];exact below_drewN (below_drewN (Below.refl _ _) n) _⟩
   ·have s:Hid (r=true):=L.out (fun j H=>I.out j (by omega))
    go_wp2
    go_ret
    exact ⟨by rw [s.out];rfl,by obtain ⟨n,q⟩:=J.out;rw [q];exact below_drewN (Below.refl _ _) n⟩
 ·have s:Hid (decide (l=m)=false):=decide_eq_false (fun e=>o (by rw [e]))
  rw [s.out]
  have h6:((l.length:Int) != (m.length:Int))=true:=by rw [bne_iff_ne];omega
  clear o
  go_enter func19,ntmps19
  go_wp2
  go_ret
  exact ⟨rfl,Below.refl _ _⟩
theorem qC  {c:Nat} (h:Strs w p l) (f:k<=l.length) (G:l.length<=c) (B:p=none->l=[]/\c=0) :
 Strs w (if c=k then p else p.map (·.add k)) (l.drop k)/\((if c=k then p else p.map (·.add k))=none->l.drop k=[]/\c - k=0):=by
 by_cases e:c=k
 ·rw [if_pos e]
  have d:l.drop k=[]:=List.drop_eq_nil_of_le (by omega)
  exact ⟨Or.inl d,fun _=>⟨d,by omega⟩⟩
 ·rw [if_neg e]
  cases p with
  | none =>
   obtain ⟨j,D⟩:=B rfl
   rw [j] at f
   simp at f
   omega
  | some a =>
   refine ⟨?_,fun d=>by cases d⟩
   rcases h with h | ⟨b,o,q,s,t⟩
   ·exact Or.inl (by rw [h,List.drop_nil])
   ·obtain rfl:a=⟨b,o,none⟩:=by simpa using q
    refine Or.inr ⟨b,o+k,by simp [Addr.add_lit],s,fun i A=>?_⟩
    rw [List.length_drop] at A
    rw [Nat.add_assoc,t (k+i) (by omega)]
    congr 2
    unfold Yc
    rw [List.getD_eq_getElem?_getD,List.getD_eq_getElem?_getD,List.getElem?_drop]
theorem sS (p:Option Addr) (l:List ByteArray) (c k:Nat) (j:k<=l.length) (W:World):Sem.run prog (Instr.slice 41 (.slice p l.length c) (some (.int .i64 (k:Int))) none none) W=.ok (.slice (if c=k then p else p.map (·.add k)) (l.drop k).length (c - k)) W:=by
 have d:(sizeOf (prog.elem 41)).run prog W=.ok 1 W:=by kernel_rfl
 have f:prog.elem 41=9:=by kernel_rfl
 have h:prog.underlying 41=some (.slice (prog.elem 41)):=by rw [f];exact underlying41
 rw [run_slice_l W 41 p l.length c h .i64 (k:Int) (by omega) (by omega),d]
 simp [Result.andThen,sliced]
theorem k2 (p:Option Addr) (l:List ByteArray) (c k:Nat) (o:k<=l.length) (q:l.length<=c) (W:World):Sem.run prog (Instr.slice 41 (.slice p l.length c) none (some (.int .i64 (k:Int))) none) W=.ok (.slice p (l.take k).length c) W:=by
 have d:(sizeOf (prog.elem 41)).run prog W=.ok 1 W:=by kernel_rfl
 have f:prog.elem 41=9:=by kernel_rfl
 have h:prog.underlying 41=some (.slice (prog.elem 41)):=by rw [f];exact underlying41
 have j:(l.take k).length=k:=by rw [List.length_take];omega
 rw [run_slice_h W 41 p l.length c h .i64 (k:Int) (by omega) (by omega),d,j]
 simp [Result.andThen,sliced,Addr.add]
end Go.Proofs.YtppcijpgalaohaaDoor
