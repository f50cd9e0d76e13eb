/- Functions of the library at this program. -/
import Derived.Test.YtghpdhegfnhmkaaGreatDoorProg
import Derived.WalkKit
import Derived.Below
import Derived.WalkSmall
import Derived.OwnWalk
import Derived.Deep.OwnRows
import Derived.Test.YtghpdhegfnhmkaaGreatDoorRows
import Derived.ProofKit
import Derived.OpenShut
import Derived.ChangeOld
import Derived.Shelf.LaysM
import Derived.Shelf.Strconv.Clone
import Derived.Shelf.GgClosure.StringsIndexFuncTop
import Derived.Laws.AppendOwn
import Derived.Shelf.Strings.OnBuilder
import Derived.LaidLaws
import Derived.LaidHandle
import Derived.LaidMore
import Derived.Stop.LaidErr
import Derived.Laws.AppendOwnNone
namespace Go.Proofs.YtghpdhegfnhmkaaGreatDoor
open Go.RowKit
set_option maxRecDepth 10000 in
theorem mfits_any (n k:Int) (w:World):Calls Tryz.prog 75 #[.int .i64 n,.int .i64 k] w fun e w'=>e=.returned (.bool (decide (1<=k/\k<=n/\n<=12)))/\w'=w:=by
 by_cases h1:1<=k
 ·by_cases h2:k<=n
  ·by_cases h3:n<=12
   ·have HE:Hid (decide (1<=k/\k<=n/\n<=12)=true):=decide_eq_true ⟨h1,h2,h3⟩
    rw [HE.out]
    go_enter Tryz.func75,Tryz.ntmps75
    go_wp2
    go_ret
    exact ⟨rfl,rfl⟩
   ·have HE:Hid (decide (1<=k/\k<=n/\n<=12)=false):=decide_eq_false fun h=>h3 h.2.2
    rw [HE.out]
    go_enter Tryz.func75,Tryz.ntmps75
    go_wp2
    go_ret
    exact ⟨rfl,rfl⟩
  ·have HE:Hid (decide (1<=k/\k<=n/\n<=12)=false):=decide_eq_false fun h=>h2 h.2.1
   rw [HE.out]
   go_enter Tryz.func75,Tryz.ntmps75
   go_wp2
   go_ret
   exact ⟨rfl,rfl⟩
 ·have HE:Hid (decide (1<=k/\k<=n/\n<=12)=false):=decide_eq_false fun h=>h1 h.1
  rw [HE.out]
  go_enter Tryz.func75,Tryz.ntmps75
  go_wp2
  go_ret
  exact ⟨rfl,rfl⟩
theorem lt_of_cellK {w:World} {b o:Nat} {v:Value} (h:w.cell? ⟨b,o,none⟩=some v):b < w.heap.size:=by
 rcases Nat.lt_or_ge b w.heap.size with h' | h'
 ·exact h'
 ·simp [World.cell?,Array.getElem?_eq_none h'] at h
structure HErrs (w:World) (ad:Nat->Addr):Prop where
 c1:w.cell? ⟨2,0,none⟩=some (.iface 218 (.pointer (some (ad 1))))
 c3:w.cell? ⟨1,0,none⟩=some (.iface 218 (.pointer (some (ad 3))))
 c5:w.cell? ⟨3,0,none⟩=some (.iface 218 (.pointer (some (ad 5))))
 c6:w.cell? ⟨4,0,none⟩=some (.iface 218 (.pointer (some (ad 6))))
 c9:w.cell? ⟨0,0,none⟩=some (.iface 218 (.pointer (some (ad 9))))
theorem HErrs.below {w w':World} {ad:Nat->Addr} (h:HErrs w ad) (hb:Below w.heap.size w w'):HErrs w' ad where
 c1:=(hb.cell (lt_of_cellK h.c1)).trans h.c1
 c3:=(hb.cell (lt_of_cellK h.c3)).trans h.c3
 c5:=(hb.cell (lt_of_cellK h.c5)).trans h.c5
 c6:=(hb.cell (lt_of_cellK h.c6)).trans h.c6
 c9:=(hb.cell (lt_of_cellK h.c9)).trans h.c9
theorem map_range_set (r:Nat) (vf:Nat->Value) (j:Nat) (v:Value):((List.range r).map vf).set j v=(List.range r).map (fun i=>if i=j then v else vf i):=by
 apply List.ext_getElem?
 intro i
 rw [List.getElem?_set,List.getElem?_map,List.getElem?_map]
 by_cases hi:i < r
 ·rw [List.getElem?_range hi]
  by_cases e:j=i
  ·subst e;simp [hi]
  ·have e':¬ i=j:=fun h=>e h.symm
   simp [e,e']
 ·rw [List.getElem?_eq_none (by simpa using hi)]
  by_cases e:j=i
  ·subst e;simp [hi]
  ·simp [e]
def Ints (w:World) (p:Option Addr) (l:List Int):Prop:=l=[]∨∃ b o,p=some ⟨b,o,none⟩/\b < w.heap.size/\∀ i,i < l.length->w.cell? ⟨b,o+i,none⟩=some (.int .i64 (l.getD i 0))
theorem length_le_of_subset:∀ (l X:List Nat),l.Nodup->(∀ x ∈ l,x ∈ X)->l.length<=X.length
 | [],_,_,_=>Nat.zero_le _
 | a :: t,X,hn,hs=>by
  have ha:a ∈ X:=hs a (List.mem_cons_self ..)
  have hn':=List.nodup_cons.1 hn
  have:=length_le_of_subset t (X.erase a) hn'.2 (fun x hx=>(List.mem_erase_of_ne (fun e=>hn'.1 (by rw [<- e];exact hx))).2 (hs x (List.mem_cons_of_mem _ hx)))
  rw [List.length_erase_of_mem ha] at this
  have hp:=List.length_pos_of_mem ha
  simp only [List.length_cons]
  omega
theorem lt_of_cellE {w:World} {b o:Nat} {v:Value} (h:w.cell? ⟨b,o,none⟩=some v):b < w.heap.size:=by
 rcases Nat.lt_or_ge b w.heap.size with h' | h'
 ·exact h'
 ·simp [World.cell?,Array.getElem?_eq_none h'] at h
def ErrIs (w:World) (ad:Nat->Addr) (ev:Value) (c at_:Int):Prop :=
 (ev=.nilIface/\c=0/\at_=-1)∨(∃ i,i < 12/\ev=.iface 218 (.pointer (some (ad i)))/\c=((i+1:Nat):Int)/\at_=-1) ∨
 ∃ i fb,i < 12/\ev=.iface 121 (.pointer (some ⟨fb,0,none⟩))/\c=((i+1:Nat):Int)/\w.cell? ⟨fb,0,none⟩=some (.int .i64 at_)/\w.cell? ⟨fb,1,none⟩=some (.iface 218 (.pointer (some (ad i))))
theorem ErrIs.below {w w':World} {ad:Nat->Addr} {ev:Value} {c at_:Int} (h:ErrIs w ad ev c at_) (hb:Below w.heap.size w w'):ErrIs w' ad ev c at_:=by
 rcases h with h | h | ⟨i,fb,hi,he,hc,h0,h1⟩
 ·exact Or.inl h
 ·exact Or.inr (Or.inl h)
 ·exact Or.inr (Or.inr ⟨i,fb,hi,he,hc,(hb.cell (p:=⟨fb,0,none⟩) (lt_of_cellE h0)).trans h0,(hb.cell (p:=⟨fb,1,none⟩) (lt_of_cellE h1)).trans h1⟩)
theorem ErrIs.nil (w:World) (ad:Nat->Addr):ErrIs w ad .nilIface 0 (-1):=Or.inl ⟨rfl,rfl,rfl⟩
theorem ErrIs.sent {w:World} {ad:Nat->Addr} (i:Nat) (hi:i < 12):ErrIs w ad (.iface 218 (.pointer (some (ad i)))) ((i+1:Nat):Int) (-1):=Or.inr (Or.inl ⟨i,hi,rfl,rfl,rfl⟩)
theorem ErrIs.some {w:World} {ad:Nat->Addr} {ev:Value} {c at_:Int} (h:ErrIs w ad ev c at_) (hc:0 < c):∃ t v,ev=.iface t v:=by
 rcases h with ⟨_,h0,_⟩ | ⟨i,_,he,_⟩ | ⟨i,fb,_,he,_⟩
 ·omega
 ·exact ⟨_,_,he⟩
 ·exact ⟨_,_,he⟩
end Go.Proofs.YtghpdhegfnhmkaaGreatDoor
namespace Go.Proofs.YtghpdhegfnhmkaaGreatDoor
open Go.ChangeShapes Go.WideShapes Go.ChangeAt Go.RowKit
theorem lt_of_cellI {w:World} {b o:Nat} {v:Value} (h:w.cell? ⟨b,o,none⟩=some v):b < w.heap.size:=by
 rcases Nat.lt_or_ge b w.heap.size with h' | h'
 ·exact h'
 ·simp [World.cell?,Array.getElem?_eq_none h'] at h
set_option maxRecDepth 100000 in
theorem ints_arg {H:Type} {enc:TypeId×Value->H} {W:World} {base:Nat} {v:Value} {d:DataW H} {ps:List MemPlace} (hok:Value.okWide Tryz.prog W .any base 25 v)
 (h:DataW.Trod enc Tryz.prog W 0 (fun _=>true) true 25 v d ps):∃ p l cap,v=.slice p l.length cap/\Ints W p l/\l.length<=maxLen/\∀ i,-9223372036854775808<=l.getD i 0/\l.getD i 0 < 9223372036854775808:=by
 obtain ⟨a0,len0,cap0,rfl⟩:=okWide_slice Tryz.underlying25 hok
 obtain ⟨fuel,hf⟩:=h
 rcases open_ints Tryz.underlying25 Tryz.underlying3 (by kernel_rfl) hf with ⟨hcs,_⟩ | ⟨x,l,c,zs,hcs,_,hl,hm,hz,_,hcell,hwz⟩
 ·simp [Value.cells] at hcs
  obtain ⟨rfl,rfl,rfl⟩:=hcs
  exact ⟨none,[],0,rfl,Or.inl rfl,Nat.zero_le _,fun i=>by simp⟩
 ·simp [Value.cells] at hcs
  obtain ⟨rfl,rfl,rfl⟩:=hcs
  have hz':zs.length=cap0:=by simpa using hz
  have hlen:(zs.take len0).length=len0:=by simp;omega
  have hnth:∀ i,i < len0->(zs.take len0).getD i 0=zs.getD i 0:=by
   intro i hi
   rw [List.getD_eq_getElem?_getD,List.getD_eq_getElem?_getD,List.getElem?_take_of_lt hi]
  refine ⟨some x,zs.take len0,cap0,by rw [hlen],?_,by rw [hlen];omega,fun i=>?_⟩
  ·by_cases h0:len0=0
   ·exact Or.inl (List.length_eq_zero_iff.1 (by rw [hlen];exact h0))
   ·obtain ⟨b,off,rfl,hc⟩:=ints_at hcell (by omega)
    refine Or.inr ⟨b,off,rfl,lt_of_cellI (hc 0 (by omega)),fun i hi=>?_⟩
    rw [hlen] at hi
    rw [hc i (by omega),hnth i hi]
  ·by_cases hi:i < len0
   ·rw [hnth i hi]
    have hmem:zs.getD i 0 ∈ zs:=by rw [List.getD_eq_getElem?_getD,List.getElem?_eq_getElem (by omega)];exact List.getElem_mem _
    have:=bounds_i64 (hwz _ hmem)
    omega
   ·rw [List.getD_eq_getElem?_getD,List.getElem?_eq_none (by rw [hlen];omega)]
    decide
end Go.Proofs.YtghpdhegfnhmkaaGreatDoor
namespace Go.Proofs
open Go.Shelf
def Tryz.lays316_ren : Go.Shelf.Ren := ⟨fun | 316 => 73 | n => n, fun | 9 => 9 | 3 => 3 | 4 => 4 | 37 => 76 | 0 => 0 | 127 => 160 | 5 => 5 | n => n, fun | n => n⟩
theorem Tryz.lays316 : Go.Proofs.LaysM.n316 Tryz.prog Tryz.lays316_ren := {
  mixed := by kernel_rfl
  f316 := Tryz.func73.trans (congrArg some (by kernel_rfl))
  t0 := Tryz.underlying0
  a0 := Tryz.isAgg0
  z0 := Tryz.sizeOf0
  v0 := Tryz.zeroValue0
  t3 := Tryz.underlying3
  a3 := Tryz.isAgg3
  z3 := Tryz.sizeOf3
  v3 := Tryz.zeroValue3
  t4 := Tryz.underlying4
  a4 := Tryz.isAgg4
  z4 := Tryz.sizeOf4
  v4 := Tryz.zeroValue4
  t9 := Tryz.underlying9
  a9 := Tryz.isAgg9
  z9 := Tryz.sizeOf9
  v9 := Tryz.zeroValue9
  t37 := Tryz.underlying76
  a37 := Tryz.isAgg76
  z37 := Tryz.sizeOf76
  v37 := Tryz.zeroValue76
  t127 := Tryz.underlying160
  a127 := Tryz.isAgg160
  z127 := Tryz.sizeOf160
  v127 := Tryz.zeroValue160
  t5 := Tryz.underlying5
  a5 := Tryz.isAgg5
  z5 := Tryz.sizeOf5
  v5 := Tryz.zeroValue5
  i0 := by kernel_rfl
  i3 := by kernel_rfl
  i4 := by kernel_rfl
  i5 := by kernel_rfl
  i9 := by kernel_rfl
  i37 := by kernel_rfl
  i127 := by kernel_rfl }
open Go.RowKit in
/-- internal/stringslite.Clone. -/
theorem Tryz.stringslite_Clone (s : ByteArray) (w : World) (hlim : s.size ≤ 281474976710656) :
    Calls Tryz.prog 73 #[.string s] w fun e w' => e = .returned (.string s) ∧ Below w.heap.size w w' := Any.stringslite_Clone Tryz.lays316 s w hlim
def Tryz.laysGw17_ren : Go.Shelf.Ren := ⟨fun | 17 => 49 | 15 => 70 | 20 => 88 | n => n, fun | 9 => 9 | 23 => 108 | 4 => 4 | 3 => 3 | 0 => 0 | 21 => 21 | n => n, fun | n => n⟩
theorem Tryz.laysGw17 : Go.Proofs.LaysGw.n17 Tryz.prog Tryz.laysGw17_ren := {
  mixed := by kernel_rfl
  f15 := Tryz.func70.trans (congrArg some (by kernel_rfl))
  f17 := Tryz.func49.trans (congrArg some (by kernel_rfl))
  f20 := Tryz.func88.trans (congrArg some (by kernel_rfl))
  t0 := Tryz.underlying0
  a0 := Tryz.isAgg0
  z0 := Tryz.sizeOf0
  v0 := Tryz.zeroValue0
  i0 := by kernel_rfl
  t3 := Tryz.underlying3
  a3 := Tryz.isAgg3
  z3 := Tryz.sizeOf3
  v3 := Tryz.zeroValue3
  i3 := by kernel_rfl
  t4 := Tryz.underlying4
  a4 := Tryz.isAgg4
  z4 := Tryz.sizeOf4
  v4 := Tryz.zeroValue4
  i4 := by kernel_rfl
  t9 := Tryz.underlying9
  a9 := Tryz.isAgg9
  z9 := Tryz.sizeOf9
  v9 := Tryz.zeroValue9
  i9 := by kernel_rfl
  t21 := Tryz.underlying21
  a21 := Tryz.isAgg21
  z21 := Tryz.sizeOf21
  v21 := Tryz.zeroValue21
  i21 := by kernel_rfl
  t23 := Tryz.underlying108
  a23 := Tryz.isAgg108
  z23 := Tryz.sizeOf108
  v23 := Tryz.zeroValue108
  i23 := by kernel_rfl }
open Go.RowKit in
/-- strings.ContainsFunc. -/
theorem Tryz.strings_ContainsFunc (g : Nat) (lb : Array Value) (eg : ∀ args w, (callFunc g args).run Tryz.prog w = .ok (.enter g args) w) (p : Nat → Bool) (s : ByteArray) (w : World) (hp : PredAt Tryz.prog g lb encR p w) :
    Calls Tryz.prog 49 #[.string s, .func (.func g) #[] lb] w fun e w' => e = .returned (.bool (decide (0 ≤ Lib.idxFunc p true s))) ∧ Below w.heap.size w w' := Any.strings_ContainsFunc Tryz.laysGw17 g lb eg p s w hp
end Go.Proofs
namespace Go.Proofs.YtghpdhegfnhmkaaGreatDoor
open Go.RowKit
section
variable {P:Program} {w:World}
theorem appendK_where (base:Nat) (t ty e:TypeId) (i:TypeInfo) (z:Value) (size bytes:Nat) (ht:P.underlying t=some (.slice e)) (hi:P.info? e=some i) (hz:i.zero=some z)
 (hsize:i.size=size) (hby:i.bytes=bytes) (v:Value) (n:Nat) (xs:List Value) (hown:w.ownsRow base e size v n xs)
 (a:Addr) (m c:Nat) (news:List Value) (hl:news.length=m*size) (hnews:∀ j u,news[j]?=some u->w.cell? (a.add j)=some u) (h1:∀ u ∈ news,u.oneCell'=true)
 (h63:n+m<=maxLen) (hbytes:(n+m)*bytes<=140737488355328) (hm:0 < m) {v':Value} {w':World}
 (hr:(Builtin.append_ #[t,t] ty #[v,.slice (some a) m c]).run P w=.ok v' w'):v'.ownBlock=v.ownBlock∨v'.ownBlock=some w.heap.size:=by
 subst hsize
 subst hby
 have hsmall:n+m<=9223372036854775807:=by simp only [maxLen] at h63;omega
 rcases hown.2 with ⟨rfl,rfl⟩ | ⟨g,cap,cur,rfl,hbg,hg,hnc,hcm,hcs,htake⟩
 ·have:=run_append_nil (P:=P) w t ty e i z ht hi hz a m c news hl hnews (by omega) (by omega) (by have hb:=hbytes;simp only [Nat.zero_add] at hb;omega)
  rw [this] at hr
  injection hr with e1 e2
  subst e1
  exact Or.inr rfl
 ·by_cases hroom:n+m<=cap
  ·have hfit:n*i.size+news.length<=cur.size:=by rw [hl,hcs,<- Nat.add_mul];exact Nat.mul_le_mul_right _ hroom
   have:=run_append_room (P:=P) w t ty e i ht hi g n cap cur hg a m c news hl hnews h1 hroom hfit
   rw [this] at hr
   injection hr with e1 e2
   subst e1
   exact Or.inl rfl
  ·have holds:∀ j u,xs[j]?=some u->w.cell? ((⟨g,0,none⟩:Addr).add j)=some u:=hown.cells (g:=g) rfl
   have:=run_append_grow (P:=P) w t ty e i z ht hi hz ⟨g,0,none⟩ n cap xs hown.1 holds a m c news hl hnews (by omega) (by omega) (growslice_fits (by omega) hbytes)
   rw [this] at hr
   injection hr with e1 e2
   subst e1
   exact Or.inr rfl
theorem wpList_append_at {ops:Array Oper} {rest:List Oper} {o:Oper} {a:Act} {Q:Exit->Act->World->Prop} (hgd:o.guard=none) (s x:Operand) (t:TypeId)
 (ho:o.op=.call { callee:=.builtin .append,args:=#[s,x],argTypes:=#[t,t] })
 (base:Nat) (e:TypeId) (i:TypeInfo) (z:Value) (size bytes:Nat) (ht:P.underlying t=some (.slice e)) (hi:P.info? e=some i) (hz:i.zero=some z)
 (hsize:i.size=size) (hby:i.bytes=bytes) (hzs:z.cells.size=size) (hsz:0 < size)
 (v:Value) (n:Nat) (xs:List Value) (hs:a.eval s=v) (hown:w.ownsRow base e size v n xs)
 (ad:Addr) (m c:Nat) (news:List Value) (hx:a.eval x=.slice (some ad) m c) (hl:news.length=m*size) (hnews:∀ j u,news[j]?=some u->w.cell? (ad.add j)=some u) (h1:∀ u ∈ news,u.oneCell'=true)
 (h63:n+m<=maxLen) (hbytes:(n+m)*bytes<=140737488355328) (hbase:base<=w.heap.size) (hm:0 < m)
 (h:∀ v' w',w'.ownsRow base e size v' (n+m) (xs ++ news)->w.grownBy w' v.ownBlock->(v'.ownBlock=v.ownBlock∨v'.ownBlock=some w.heap.size)->wpList P ops Q rest (a.put o.dst v') w'):wpList P ops Q (o :: rest) a w:=by
 refine wpList_plain hgd fun K hK=>?_
 obtain ⟨v',w',hr,h2,h3,h4⟩:=run_append_own (P:=P) w base t o.type e i z size bytes ht hi hz hsize hby hzs hsz v n xs hown ad m c news hl hnews h1 h63 hbytes hbase
 have hw:=appendK_where base t o.type e i z size bytes ht hi hz hsize hby v n xs hown ad m c news hl hnews h1 h63 hbytes hm hr
 unfold Oper.wp execOp
 simp only [ho,resolve,invoke,builtin,Sem.run_bind,Sem.run_pure,Result.andThen_ok,List.map_toArray,List.map_cons,List.map_nil,hs,hx,hr]
 exact hK _ _ (h v' w' h2 h3 hw)
end
end Go.Proofs.YtghpdhegfnhmkaaGreatDoor
/- strings.Join at this program: its elements one behind the other, the separator between them. -/
namespace Go.Proofs
open Go.Shelf
def Tryz.lays156_ren : Go.Shelf.Ren := ⟨fun | 156 => 109 | 165 => 123 | 166 => 124 | 169 => 125 | 240 => 134 | 241 => 135 | 276 => 144 | 277 => 145 | n => n, fun | 31 => 22 | 9 => 9 | 3 => 3 | 4 => 4 | 0 => 0 | 20 => 20 | 72 => 202 | 76 => 48 | 70 => 200 | 37 => 76 | 75 => 40 | 127 => 160 | 164 => 141 | 5 => 5 | 80 => 205 | n => n, fun | n => n⟩
theorem Tryz.lays156 : Go.Proofs.Lays.n156 Tryz.prog Tryz.lays156_ren := {
  mixed := by kernel_rfl
  f156 := Tryz.func109.trans (congrArg some (by kernel_rfl))
  f165 := Tryz.func123.trans (congrArg some (by kernel_rfl))
  f166 := Tryz.func124.trans (congrArg some (by kernel_rfl))
  f169 := Tryz.func125.trans (congrArg some (by kernel_rfl))
  f240 := Tryz.func134.trans (congrArg some (by kernel_rfl))
  f241 := Tryz.func135.trans (congrArg some (by kernel_rfl))
  f276 := Tryz.func144.trans (congrArg some (by kernel_rfl))
  f277 := Tryz.func145.trans (congrArg some (by kernel_rfl))
  t0 := Tryz.underlying0
  a0 := Tryz.isAgg0
  z0 := Tryz.sizeOf0
  v0 := Tryz.zeroValue0
  t3 := Tryz.underlying3
  a3 := Tryz.isAgg3
  z3 := Tryz.sizeOf3
  v3 := Tryz.zeroValue3
  t4 := Tryz.underlying4
  a4 := Tryz.isAgg4
  z4 := Tryz.sizeOf4
  v4 := Tryz.zeroValue4
  t9 := Tryz.underlying9
  a9 := Tryz.isAgg9
  z9 := Tryz.sizeOf9
  v9 := Tryz.zeroValue9
  t20 := Tryz.underlying20
  a20 := Tryz.isAgg20
  z20 := Tryz.sizeOf20
  v20 := Tryz.zeroValue20
  t31 := Tryz.underlying22
  a31 := Tryz.isAgg22
  z31 := Tryz.sizeOf22
  v31 := Tryz.zeroValue22
  t37 := Tryz.underlying76
  a37 := Tryz.isAgg76
  z37 := Tryz.sizeOf76
  v37 := Tryz.zeroValue76
  t70 := Tryz.underlying200
  a70 := Tryz.isAgg200
  z70 := Tryz.sizeOf200
  v70 := Tryz.zeroValue200
  t72 := Tryz.underlying202
  a72 := Tryz.isAgg202
  z72 := Tryz.sizeOf202
  v72 := Tryz.zeroValue202
  t75 := Tryz.underlying40
  a75 := Tryz.isAgg40
  z75 := Tryz.sizeOf40
  v75 := Tryz.zeroValue40
  t76 := Tryz.underlying48
  a76 := Tryz.isAgg48
  z76 := Tryz.sizeOf48
  v76 := Tryz.zeroValue48
  t127 := Tryz.underlying160
  a127 := Tryz.isAgg160
  z127 := Tryz.sizeOf160
  v127 := Tryz.zeroValue160
  t164 := Tryz.underlying141
  a164 := Tryz.isAgg141
  z164 := Tryz.sizeOf141
  v164 := Tryz.zeroValue141 }
theorem Tryz.Builder_Extra_156 : Builder.Extra Tryz.prog Tryz.lays156_ren := {
  sizeBuilder := by kernel_rfl
  liesBuilder := by kernel_rfl
  t5 := Tryz.underlying5
  a5 := Tryz.isAgg5
  z5 := Tryz.sizeOf5
  v5 := Tryz.zeroValue5
  infoByte := by kernel_rfl
  cellsByte := by kernel_rfl
  sizeByte := by kernel_rfl
  neB5 := by decide }
open Go.RowKit in
/-- strings.Join, however many elements. -/
theorem Tryz.strings_Join (bk o c : Nat) (xs : List ByteArray) (sep : ByteArray) (w : World) (hcells : ∀ (j : Nat) x, xs[j]? = some x → w.cell? ⟨bk, o + j, none⟩ = some (.string x)) (hbk : bk < w.heap.size) (hN : xs.length ≤ 140737488355328) (hcap : xs.length ≤ c) (hlen : (Lib.join (xs.map (·.data.toList)) sep.data.toList).length ≤ 140737488355328) :
    Calls Tryz.prog 109 #[.slice (some ⟨bk, o, none⟩) xs.length c, .string sep] w fun e w' => e = .returned (.string ⟨(Lib.join (xs.map (·.data.toList)) sep.data.toList).toArray⟩) ∧ Below w.heap.size w w' := Any.strings_Join Tryz.lays156 Tryz.Builder_Extra_156 bk o c xs sep w hcells hbk hN hcap hlen
end Go.Proofs
namespace Go.Proofs.YtghpdhegfnhmkaaGreatDoor
open Go.ChangeShapes Go.WideShapes Go.RowKit
def errD (text:List UInt8):DataW Unit:=.iface "*errors.errorString" (.ptr (.agg [.lit (.string text)]))
theorem sents {P:Program} {W:World} {ti tp te ts:TypeId} {ms:Array (String×TypeId)} {f:Field}
 (hi:P.underlying ti=some (.interface ms)) (hrow:∀ u,P.typeName? 3 u=some "*errors.errorString"->u=tp)
 (hp:P.underlying tp=some (.pointer te)) (he:P.underlying te=some (.struct #[f])) (hft:f.type=ts) (hfo:f.offset=0) (hs:P.underlying ts=some .string) (hc:P.cellsOf te=1) (hcs:P.cellsOf ts=1) :
 ∀ (L:List (String×List UInt8)) (ps:List MemPlace),DataW.LaidVars P W (L.map fun x=>(x.1,errD x.2)) ps ->
  (∀ x ∈ L,∃ g,P.globalNamed x.1=some g/\(P.globals[g]?).map (·.type)=some ti) ->
  (∀ b off,MemPlace.cell b off ∈ ps->(∃ c t,W.heap[b]?=some (.cells c t (0,0)))/\∀ u v,W.cell? ⟨b,off,none⟩=some (.iface u v)->Value.okWide P W .any 0 u v) ->
  ∃ ad:Nat->Addr,(∀ i x,L[i]?=some x->MemPlace.cell (ad i).block (ad i).off ∈ ps/\W.var? P x.1=some #[.iface tp (.pointer (some (ad i)))]) /\
   (ps.Nodup->∀ i j,i < L.length->j < L.length->i≠j->ad i≠ad j):=by
 intro L
 induction L with
 | nil =>
  intro ps _ _ _
  exact ⟨fun _=>⟨0,0,none⟩,fun i x h=>by simp at h,fun _ i j h=>by simp at h⟩
 | cons x r ih =>
  intro ps hl hn hr
  obtain ⟨g0,t0,cs0,f0,p0,q0,hg0,ht0,hv0,hd0,hq,rfl⟩:=hl
  obtain ⟨g,hg,ht⟩:=hn x (List.mem_cons_self ..)
  obtain rfl:=Option.some.inj (hg.symm.trans hg0)
  obtain rfl:=Option.some.inj (ht.symm.trans ht0)
  obtain ⟨ad,h1,h2⟩:=ih q0 hq (fun y hy=>hn y (List.mem_cons_of_mem _ hy)) (fun b off hm=>hr b off (List.mem_append_right _ hm))
  obtain ⟨l0⟩:=cs0
  have ok0:∀ u v,l0=[.iface u v]->Value.okWide P W .any 0 u v:=fun u v e=>by
   subst e
   exact (hr g 0 (by simp [MemPlace.row])).2 u v (by simpa using World.var?_cell hg0 hv0 0)
  obtain ⟨a0,s0,rfl,hc0,hs0,hz0,rfl⟩:=errorString_of_trod hi hrow hp he hft hfo hs hc hcs hd0 ok0
  refine ⟨fun i=>match i with | 0=>a0 | k+1=>ad k,?_,?_⟩
  ·intro i y hy
   match i with
   | 0 =>
    obtain rfl:x=y:=by simpa using hy
    exact ⟨by simp [MemPlace.row],hv0⟩
   | k+1 =>
    have:=h1 k y (by simpa using hy)
    exact ⟨List.mem_append_right _ this.1,this.2⟩
  ·intro hnd i j hi' hj' hij
   have hq':q0.Nodup:=List.Nodup.sublist (List.sublist_append_right _ _) hnd
   have hd:∀ k,k < r.length->a0≠ad k:=by
    intro k hk e
    obtain ⟨y,hy⟩:∃ y,r[k]?=some y:=⟨r[k],List.getElem?_eq_getElem hk⟩
    have hm:=(h1 k y hy).1
    rw [<- e] at hm
    have hdis:=(List.nodup_append.1 hnd).2.2
    exact hdis _ (List.mem_append_right _ (by simp [MemPlace.row])) _ hm rfl
   match i,j,hi',hj',hij with
   | 0,0,_,_,h=>exact absurd rfl h
   | 0,k+1,_,hk,_=>exact hd k (by simpa using hk)
   | k+1,0,hk,_,_=>exact (hd k (by simpa using hk)).symm
   | k+1,m+1,hk,hm,hne=>exact h2 hq' k m (by simpa using hk) (by simpa using hm) (fun e=>hne (by rw [e]))
theorem laid_peel {P:Program} {W:World}:∀ (L M:List (String×DataW Unit)) (ps:List MemPlace),DataW.LaidVars P W (L ++ M) ps->∃ p q,ps=p ++ q/\DataW.LaidVars P W M q
 | [],_,ps,h=>⟨[],ps,rfl,h⟩
 | x :: L,M,ps,h=>by
  obtain ⟨g0,t0,cs0,f0,p0,q0,hg0,ht0,hv0,hd0,hq,rfl⟩:=h
  obtain ⟨p,q,rfl,h2⟩:=laid_peel L M q0 hq
  exact ⟨_,q,(List.append_assoc _ _ _).symm,h2⟩
theorem star_es : "*" ++ "errors.errorString" = "*errors.errorString":=by kernel_rfl
theorem row_es (u:TypeId) (h:Tryz.prog.typeName? 3 u=some "*errors.errorString"):u=218 :=
 typeName_ptr_named (nm := "errors.errorString") (by rw [star_es];kernel_rfl) (by kernel_rfl) (by decide) u (by rw [star_es];exact h)
end Go.Proofs.YtghpdhegfnhmkaaGreatDoor
namespace Go.Proofs.YtghpdhegfnhmkaaGreatDoor
open Go.RowKit
structure Enc (α:Type) where
 k:Nat
 pos:0 < k
 enc:α->List Value
 len:∀ x,(enc x).length=k
 one:∀ x,∀ u ∈ enc x,u.oneCell'=true
variable {α:Type} {E:Enc α}
def recVals (E:Enc α) (l:List α):List Value:=l.flatMap E.enc
theorem recVals_length (E:Enc α):∀ l:List α,(recVals E l).length=l.length*E.k
 | []=>by simp [recVals]
 | x :: l=>by
  have:=recVals_length E l
  unfold recVals at this ⊢
  rw [List.flatMap_cons,List.length_append,this,E.len,List.length_cons,Nat.add_mul,Nat.one_mul,Nat.add_comm]
theorem recVals_append (E:Enc α) (l m:List α):recVals E (l ++ m)=recVals E l ++ recVals E m:=by unfold recVals;rw [List.flatMap_append]
theorem recVals_one (E:Enc α) (x:α):recVals E [x]=E.enc x:=by simp [recVals]
theorem recVals_at (E:Enc α):∀ (l:List α) (i:Nat) (x:α),l[i]?=some x->∀ j u,(E.enc x)[j]?=some u->(recVals E l)[i*E.k+j]?=some u
 | [],i,x,h,_,_,_=>by simp at h
 | y :: l,0,x,h,j,u,hj=>by
  obtain rfl:y=x:=by simpa using h
  unfold recVals
  rw [List.flatMap_cons,Nat.zero_mul,Nat.zero_add,List.getElem?_append_left (List.getElem?_eq_some_iff.1 hj).1]
  exact hj
 | y :: l,i+1,x,h,j,u,hj=>by
  have ih:=recVals_at E l i x (by simpa using h) j u hj
  unfold recVals at ih ⊢
  rw [List.flatMap_cons,List.getElem?_append_right (by rw [E.len];have:=Nat.le_mul_of_pos_left E.k (show 0 < i+1 by omega);omega),E.len]
  have e:(i+1)*E.k+j - E.k=i*E.k+j:=by rw [Nat.add_mul,Nat.one_mul];omega
  rw [e]
  exact ih
def Rec (E:Enc α) (w:World) (p:Option Addr) (l:List α):Prop :=
 l=[]∨∃ b o,p=some ⟨b,o,none⟩/\b < w.heap.size/\∀ i x,l[i]?=some x->∀ j u,(E.enc x)[j]?=some u->w.cell? ⟨b,o+i*E.k+j,none⟩=some u
theorem Rec.nil (w:World) (p:Option Addr):Rec E w p []:=Or.inl rfl
theorem Rec.drewN {w:World} {p:Option Addr} {l:List α} (h:Rec E w p l) (n:Nat):Rec E (w.drewN n) p l:=h
theorem Rec.below {w w':World} {p:Option Addr} {l:List α} (h:Rec E w p l) (hb:Below w.heap.size w w'):Rec E w' p l:=by
 rcases h with h | ⟨b,o,hp,hlt,hc⟩
 ·exact Or.inl h
 ·exact Or.inr ⟨b,o,hp,Nat.lt_of_lt_of_le hlt hb.size,fun i x hx j u hu=>(hb.cell (p:=⟨b,o+i*E.k+j,none⟩) hlt).trans (hc i x hx j u hu)⟩
def OwnR (E:Enc α) (T:TypeId) (w:World) (B:Nat) (v:Value) (l:List α):Prop:=w.ownsRow B T E.k v l.length (recVals E l)
theorem OwnR.nil (T:TypeId) (w:World) (B:Nat):OwnR E T w B (.slice none 0 0) []:=World.ownsRow_nil w B T E.k
theorem OwnR.block {T:TypeId} {w:World} {B:Nat} {v:Value} {l:List α} (h:OwnR E T w B v l) {k:Nat} (hk:v.ownBlock=some k):B<=k/\k < w.heap.size:=World.ownsRow.lt h k hk
theorem OwnR.kept {T:TypeId} {w w':World} {B:Nat} {v:Value} {l:List α} (h:OwnR E T w B v l) (hb:Below w.heap.size w w'):OwnR E T w' B v l :=
 World.ownsRow.kept (row:=none) h ⟨hb.os,hb.tape,hb.output,hb.size,fun k hk _=>hb.block k hk⟩ (by cases v.ownBlock <;> simp)
theorem OwnR.form {T:TypeId} {w:World} {B:Nat} {v:Value} {l:List α} (h:OwnR E T w B v l):∃ p c,v=.slice p l.length c/\Rec E w p l/\l.length<=c/\(p=none->l=[]/\c=0)/\∀ b o,p=some ⟨b,o,none⟩->B<=b/\b < w.heap.size:=by
 have h0:w.ownsRow B T E.k v l.length (recVals E l):=h
 rcases h0.2 with ⟨rfl,hz⟩ | ⟨g,cap,cur,rfl,hb,hg,hnc,hcm,hcs,htake⟩
 ·have e:l=[]:=List.length_eq_zero_iff.1 hz
  subst e
  exact ⟨none,0,rfl,Or.inl rfl,Nat.le_refl _,fun _=>⟨rfl,rfl⟩,fun _ _ h=>by cases h⟩
 ·have hlt:g < w.heap.size:=(Array.getElem?_eq_some_iff.1 hg).1
  refine ⟨some ⟨g,0,none⟩,cap,rfl,Or.inr ⟨g,0,rfl,hlt,fun i x hx j u hu=>?_⟩,hnc,fun h=>(by cases h),fun b o h=>?_⟩
  ·have hc:=World.ownsRow.cells (g:=g) h0 rfl (i*E.k+j) u (recVals_at E l i x hx j u hu)
   rw [Addr.add_lit] at hc
   rw [Nat.add_assoc]
   exact hc
  ·obtain ⟨rfl,rfl⟩:g=b/\0=o:=by simpa using h
   exact ⟨hb,hlt⟩
theorem recVals_one' (E:Enc α) (l:List α):∀ u ∈ recVals E l,u.oneCell'=true:=fun u hu=>by
 obtain ⟨x,_,hx⟩:=List.mem_flatMap.1 hu
 exact E.one x u hx
theorem Rec.cells {w:World} {b o:Nat} {l:List α} (hc:∀ i x,l[i]?=some x->∀ j u,(E.enc x)[j]?=some u->w.cell? ⟨b,o+i*E.k+j,none⟩=some u):∀ j u,(recVals E l)[j]?=some u->w.cell? ((⟨b,o,none⟩:Addr).add j)=some u:=by
 intro j u hj
 have hjl:j < (recVals E l).length:=(List.getElem?_eq_some_iff.1 hj).1
 rw [recVals_length] at hjl
 have hk:=E.pos
 have hi:j / E.k < l.length:=(Nat.div_lt_iff_lt_mul hk).2 hjl
 have hr:j % E.k < E.k:=Nat.mod_lt _ hk
 have hx:l[j / E.k]?=some l[j / E.k]:=List.getElem?_eq_getElem hi
 have hu:(E.enc l[j / E.k])[j % E.k]?=some ((E.enc l[j / E.k])[j % E.k]'(by rw [E.len];exact hr)):=List.getElem?_eq_getElem (by rw [E.len];exact hr)
 have h1:=recVals_at E l (j / E.k) _ hx (j % E.k) _ hu
 have h2:=hc (j / E.k) _ hx (j % E.k) _ hu
 have ej:j / E.k*E.k+j % E.k=j:=by rw [Nat.mul_comm];exact Nat.div_add_mod j E.k
 rw [ej] at h1
 rw [Nat.add_assoc,ej] at h2
 rw [Addr.add_lit,h2,<- h1,hj]
section
variable {w:World}
theorem wpList_append_recs {ops:Array Oper} {rest:List Oper} {o:Oper} {a:Act} {Q:Exit->Act->World->Prop} (hgd:o.guard=none) (s x:Operand) (t T:TypeId)
 (ho:o.op=.call { callee:=.builtin .append,args:=#[s,x],argTypes:=#[t,t] }) (z:Value) (bytes:Nat) (ht:Tryz.prog.underlying t=some (.slice T))
 (hinfo:(Tryz.prog.info? T).map (fun i=>(i.zero,i.size,i.bytes))=some (some z,E.k,bytes)) (hzc:z.cells.size=E.k)
 (B:Nat) (v:Value) (l:List α) (hs:a.eval s=v) (hown:OwnR E T w B v l) (q:Option Addr) (r:List α) (c:Nat) (hx:a.eval x=.slice q r.length c) (hq:Rec E w q r) (hc0:q=none->r=[]/\c=0) (hl:l.length+r.length<=maxLen) (hby:(l.length+r.length)*bytes<=140737488355328) (hbase:B<=w.heap.size)
 (h:∀ v' w',OwnR E T w' B v' (l ++ r)->Below B w w'->wpList Tryz.prog ops Q rest (a.put o.dst v') w'):wpList Tryz.prog ops Q (o :: rest) a w:=by
 obtain ⟨i0,hi0,hz0,hz1,hzb⟩:=info_parts hinfo
 have hfin:∀ v' w',w'.ownsRow B T E.k v' (l.length+r.length) (recVals E l ++ recVals E r)->w.grownBy w' v.ownBlock->wpList Tryz.prog ops Q rest (a.put o.dst v') w':=fun v' w' h1 h2=>by
  refine h v' w' ?_ ((Below.refl _ _).grown h2 hbase (fun k hk=>(hown.block hk).1))
  unfold OwnR
  rw [recVals_append,List.length_append]
  exact h1
 cases q with
 | none =>
  obtain ⟨hr,hc⟩:=hc0 rfl
  subst hr hc
  refine wpList_append_own_none hgd s x _ ho B T i0 E.k ht hi0 v l.length (recVals E l) hs hown hx ?_
  have:=h v w (by rw [List.append_nil];exact hown) (Below.refl _ _)
  exact this
 | some ad =>
  refine wpList_append_own w hgd s x _ ho B T i0 z E.k bytes ht hi0 hz0 hz1 hzb hzc E.pos v l.length (recVals E l) hs hown ad r.length c (recVals E r) hx (recVals_length E r) ?_ (recVals_one' E r) hl hby hbase (fun v' w' h1 h2 _=>hfin v' w' h1 h2)
  rcases hq with h0 | ⟨b,o',hp,_,hcell⟩
  ·subst h0
   intro j u hj
   simp [recVals] at hj
  ·obtain rfl:ad=⟨b,o',none⟩:=by simpa using hp
   exact Rec.cells hcell
theorem wpList_append_rec {ops:Array Oper} {rest:List Oper} {o:Oper} {a:Act} {Q:Exit->Act->World->Prop} (hgd:o.guard=none) (s x:Operand) (t T:TypeId)
 (ho:o.op=.call { callee:=.builtin .append,args:=#[s,x],argTypes:=#[t,t] }) (z:Value) (bytes:Nat) (ht:Tryz.prog.underlying t=some (.slice T))
 (hinfo:(Tryz.prog.info? T).map (fun i=>(i.zero,i.size,i.bytes))=some (some z,E.k,bytes)) (hzc:z.cells.size=E.k)
 (B:Nat) (v:Value) (l:List α) (hs:a.eval s=v) (hown:OwnR E T w B v l) (b o' c:Nat) (y:α) (hx:a.eval x=.slice (some ⟨b,o',none⟩) 1 c) (hq:∀ j u,(E.enc y)[j]?=some u->w.cell? ⟨b,o'+j,none⟩=some u) (hl:l.length+1<=maxLen) (hby:(l.length+1)*bytes<=140737488355328) (hbase:B<=w.heap.size) (hlt:b < w.heap.size)
 (h:∀ v' w',OwnR E T w' B v' (l ++ [y])->Below B w w'->wpList Tryz.prog ops Q rest (a.put o.dst v') w'):wpList Tryz.prog ops Q (o :: rest) a w :=
 wpList_append_recs (E:=E) hgd s x t T ho z bytes ht hinfo hzc B v l hs hown (some ⟨b,o',none⟩) [y] c hx (Or.inr ⟨b,o',rfl,hlt,fun i x hx' j u hu=>by
  match i,hx' with
  | 0,hx' =>
   obtain rfl:y=x:=by simpa using hx'
   rw [Nat.zero_mul,Nat.add_zero]
   exact hq j u hu⟩) (fun e=>by cases e) hl hby hbase h
end
end Go.Proofs.YtghpdhegfnhmkaaGreatDoor
namespace Go.Proofs.YtghpdhegfnhmkaaGreatDoor
open Go.RowKit
theorem grown_refl (w:World) (o:Option Nat):w.grownBy w o:=⟨rfl,rfl,rfl,Nat.le_refl _,fun _ _ _=>rfl⟩
theorem append_recs {α:Type} {E:Enc α} {w:World} (t T:TypeId) (z:Value) (bytes:Nat) (ht:Tryz.prog.underlying t=some (.slice T))
 (hinfo:(Tryz.prog.info? T).map (fun i=>(i.zero,i.size,i.bytes))=some (some z,E.k,bytes)) (hzc:z.cells.size=E.k)
 (B:Nat) (v:Value) (l:List α) (hown:OwnR E T w B v l) (q:Option Addr) (r:List α) (c:Nat) (hq:Rec E w q r) (hc0:q=none->r=[]/\c=0) (hl:l.length+r.length<=maxLen) (hby:(l.length+r.length)*bytes<=140737488355328) (hbase:B<=w.heap.size) :
 ∃ v' w',(∀ ty,(Builtin.append_ #[t,t] ty #[v,.slice q r.length c]).run Tryz.prog w=.ok v' w')/\OwnR E T w' B v' (l ++ r)/\w.grownBy w' v.ownBlock/\(v'.ownBlock=v.ownBlock∨∃ k,v'.ownBlock=some k/\w.heap.size<=k):=by
 obtain ⟨i0,hi0,hz0,hz1,hzb⟩:=info_parts hinfo
 cases q with
 | none =>
  obtain ⟨hr,hc⟩:=hc0 rfl
  subst hr hc
  refine ⟨v,w,fun ty=>run_append_owned_none (P:=Tryz.prog) (w:=w) B t ty T i0 E.k ht hi0 v l.length (recVals E l) hown,by rw [List.append_nil];exact hown,grown_refl _ _,Or.inl rfl⟩
 | some ad =>
  have hn:∀ j u,(recVals E r)[j]?=some u->w.cell? (ad.add j)=some u:=by
   rcases hq with h0 | ⟨b,o',hp,_,hcell⟩
   ·subst h0
    intro j u hj
    simp [recVals] at hj
   ·obtain rfl:ad=⟨b,o',none⟩:=by simpa using hp
    exact Rec.cells hcell
  obtain ⟨v',w',hrun,h2,h3,_⟩:=run_append_own (P:=Tryz.prog) w B t 0 T i0 z E.k bytes ht hi0 hz0 hz1 hzb hzc E.pos v l.length (recVals E l) hown ad r.length c (recVals E r) (recVals_length E r) hn (recVals_one' E r) hl hby hbase
  refine ⟨v',w',fun ty=>hrun,?_,h3,?_⟩
  ·unfold OwnR
   rw [recVals_append,List.length_append]
   exact h2
  ·by_cases hm:0 < r.length
   ·rcases appendK_where (P:=Tryz.prog) B t 0 T i0 z E.k bytes ht hi0 hz0 hz1 hzb v l.length (recVals E l) hown ad r.length c (recVals E r) (recVals_length E r) hn (recVals_one' E r) hl hby hm hrun with h | h
    ·exact Or.inl h
    ·exact Or.inr ⟨_,h,Nat.le_refl _⟩
   ·have hr0:r=[]:=List.length_eq_zero_iff.1 (by omega)
    subst hr0
    rcases hown.2 with ⟨rfl,hz⟩ | ⟨g,cap,cur,rfl,hbg,hgb,hnc,hcm,hcs,htake⟩
    ·rcases h2.2 with ⟨h4,_⟩ | ⟨g,cap,cur,h4,h5,h6,h7,h8,h9,h10⟩
     ·rw [h4]
      exact Or.inl rfl
     ·rw [h4]
      refine Or.inr ⟨g,rfl,?_⟩
      rcases Nat.lt_or_ge g w.heap.size with hlt | hge
      ·exfalso
       have hrun2:(Builtin.append_ #[t,t] 0 #[.slice none 0 0,.slice (some ad) 0 c]).run Tryz.prog w=.ok (.slice none 0 0) w:=by
        have hl0:(loadCells ad 0).run Tryz.prog w=.ok #[] w:=run_loadCells_list (P:=Tryz.prog) w ad [] (fun j u hj=>by simp at hj)
        simp [Builtin.append_,run_underlying ht,sizeOf,typeInfo,hi0,Builtin.lenOf,Builtin.firstCells,hl0,Result.andThen]
       have hrun3:(Builtin.append_ #[t,t] 0 #[.slice none 0 0,.slice (some ad) 0 c]).run Tryz.prog w=.ok v' w':=hrun
       rw [hrun2] at hrun3
       injection hrun3 with e1 _
       rw [h4] at e1
       cases e1
      ·exact hge
    ·have hr2:=run_append_room (P:=Tryz.prog) w t 0 T i0 ht hi0 g l.length cap cur hgb ad 0 c [] (by simp) (fun j u hj=>by simp at hj) (fun u hu=>by simp at hu) (by omega) (by rw [hz1,hcs];show l.length*E.k+0<=_;exact Nat.mul_le_mul_right _ hnc)
     have hrun3:(Builtin.append_ #[t,t] 0 #[.slice (some ⟨g,0,none⟩) l.length cap,.slice (some ad) 0 c]).run Tryz.prog w=.ok v' w':=hrun
     rw [hr2] at hrun3
     injection hrun3 with e1 _
     rw [<- e1]
     exact Or.inl rfl
end Go.Proofs.YtghpdhegfnhmkaaGreatDoor
