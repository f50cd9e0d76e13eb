/- Functions of the library at this program. -/
import Derived.Test.YtmhoiodfppdlnaaGreatDoorProg
import Derived.WalkKit
import Derived.Below
import Derived.OwnWalk
import Derived.Deep.OwnRows
import Derived.WalkSmall
import Derived.Shelf.SlLaysE0
import Derived.Shelf.SlicesE.Clone
import Derived.Shelf.LaysM
import Derived.Shelf.Strconv.Clone
import Derived.Shelf.GgClosure.StringsIndexFuncTop
import Derived.Laws.AppendOwn
import Derived.Shelf.Strings.OnBuilder
import Derived.Shelf.Strconv.Itoa3
import Derived.Test.YtmhoiodfppdlnaaGreatDoorRows
import Derived.ProofKit
import Derived.LaidLaws
import Derived.LaidHandle
import Derived.LaidMore
import Derived.Stop.LaidErr
import Derived.Laws.AppendOwnNone
import Derived.Deep.RegionLaw
import Derived.LaidEql
import Derived.Stop.Asserts
import Derived.RowKitTokens
set_option maxRecDepth 10000
set_option maxHeartbeats 4000000
namespace Go.Proofs.YtmhoiodfppdlnaaGreatDoor
open Go.RowKit
theorem map_range_set (r:Nat)(vf:Nat->Value)(j:Nat)(v:Value):((List.range r).map vf).set j v=(List.range r).map (fun i=>if i=j then v else vf i):=by
 apply List.ext_getElem?
 intro i
 rw [List.getElem?_set,List.getElem?_map,List.getElem?_map]
 by_cases hi:i < r
 ·rw [List.getElem?_range hi]
  by_cases e:j=i
  ·subst e;simp [hi]
  ·have e':¬ i=j:=fun h=>e h.symm
   simp [e,e']
 ·rw [List.getElem?_eq_none (by simpa using hi)]
  by_cases e:j=i
  ·subst e;simp [hi]
  ·simp [e]
theorem mfits_any (n k:Int)(w:World):Calls Tryz.prog 101 #[.int .i64 n,.int .i64 k] w fun e w'=>e=.returned (.bool (decide (1<=k/\k<=n/\n<=12)))/\w'=w:=by
 by_cases h1:1<=k
 ·by_cases h2:k<=n
  ·by_cases h3:n<=12
   ·have HE:Hid (decide (1<=k/\k<=n/\n<=12)=true):=decide_eq_true ⟨h1,h2,h3⟩
    rw [HE.out]
    go_enter Tryz.func101,Tryz.ntmps101
    go_wp2
    go_ret
    exact⟨rfl,rfl⟩
   ·have HE:Hid (decide (1<=k/\k<=n/\n<=12)=false):=decide_eq_false fun h=>h3 h.2.2
    rw [HE.out]
    go_enter Tryz.func101,Tryz.ntmps101
    go_wp2
    go_ret
    exact⟨rfl,rfl⟩
  ·have HE:Hid (decide (1<=k/\k<=n/\n<=12)=false):=decide_eq_false fun h=>h2 h.2.1
   rw [HE.out]
   go_enter Tryz.func101,Tryz.ntmps101
   go_wp2
   go_ret
   exact⟨rfl,rfl⟩
 ·have HE:Hid (decide (1<=k/\k<=n/\n<=12)=false):=decide_eq_false fun h=>h1 h.1
  rw [HE.out]
  go_enter Tryz.func101,Tryz.ntmps101
  go_wp2
  go_ret
  exact⟨rfl,rfl⟩
end Go.Proofs.YtmhoiodfppdlnaaGreatDoor
namespace Go.Proofs
open Go.Shelf
def Tryz.laysClone_ren : Go.Shelf.Ren := ⟨fun | 41 => 123 | n => n, fun | 22 => 55 | 23 => 76 | 4 => 4 | n => n, fun | n => n⟩
theorem Tryz.laysClone : Go.Proofs.SlLaysE0.n41 Tryz.prog Tryz.laysClone_ren := {
  mixed := by kernel_rfl
  f41 := ⟨Tryz.f123.name, by decide, Tryz.func123.trans (congrArg some (by kernel_rfl))⟩
  t4 := Tryz.underlying4
  a4 := Tryz.isAgg4
  z4 := Tryz.sizeOf4
  v4 := Tryz.zeroValue4
  t22 := Tryz.underlying55
  a22 := Tryz.isAgg55
  z22 := Tryz.sizeOf55
  v22 := Tryz.zeroValue55 }
open Go.RowKit in
/-- slices.Clone at versions. -/
theorem Tryz.slices_Clone (i0 : TypeInfo) (z : Value) (size bytes : Nat) (hi : Tryz.prog.info? 76 = some i0) (hz0 : i0.zero = some z) (hz1 : i0.size = size) (hz2 : i0.bytes = bytes) (hzs : z.cells.size = size) (hsz : 0 < size)
    (z23 : ∀ w, (Go.sizeOf 76).run Tryz.prog w = .ok size w) (b off n c : Nat) (news : List Value) (w : World) (hl : news.length = n * size) (hn : n ≤ maxLen) (hbig : n * bytes ≤ 140737488355328)
    (hc : ∀ j u, news[j]? = some u → w.cell? ⟨b, off + j, none⟩ = some u) (h1 : ∀ u ∈ news, u.oneCell' = true) :
    Calls Tryz.prog 123 #[.slice (some ⟨b, off, none⟩) n c] w fun e w' => ∃ v', e = .returned v' ∧ w'.ownsRow w.heap.size 76 size v' n news ∧ v' ≠ .slice none 0 0 ∧ Below w.heap.size w w' := AnyE.slices_Clone Tryz.laysClone i0 z size bytes hi hz0 hz1 hz2 hzs hsz z23 b off n c news w hl hn hbig hc h1
end Go.Proofs
namespace Go.Proofs.YtmhoiodfppdlnaaGreatDoor
open Go.RowKit
theorem lt_of_cellE {w:World}{b o:Nat}{v:Value}(h:w.cell? ⟨b,o,none⟩=some v):b < w.heap.size:=by
 rcases Nat.lt_or_ge b w.heap.size with h' | h'
 ·exact h'
 ·simp [World.cell?,Array.getElem?_eq_none h'] at h
def ErrIs (w:World)(ad:Nat->Addr)(ev:Value)(c at_:Int):Prop :=
 (ev=.nilIface/\c=0/\at_=-1)∨(∃ i,i < 12/\ev=.iface 252 (.pointer (some (ad i)))/\c=((i+1:Nat):Int)/\at_=-1) ∨
 ∃ i fb,i < 12/\ev=.iface 112 (.pointer (some ⟨fb,0,none⟩))/\c=((i+1:Nat):Int)/\w.cell? ⟨fb,0,none⟩=some (.int .i64 at_)/\w.cell? ⟨fb,1,none⟩=some (.iface 252 (.pointer (some (ad i))))
theorem ErrIs.below {w w':World}{ad:Nat->Addr}{ev:Value}{c at_:Int}(h:ErrIs w ad ev c at_)(hb:Below w.heap.size w w'):ErrIs w' ad ev c at_:=by
 rcases h with h | h | ⟨i,fb,hi,he,hc,h0,h1⟩
 ·exact Or.inl h
 ·exact Or.inr (Or.inl h)
 ·exact Or.inr (Or.inr ⟨i,fb,hi,he,hc,(hb.cell (p:=⟨fb,0,none⟩) (lt_of_cellE h0)).trans h0,(hb.cell (p:=⟨fb,1,none⟩) (lt_of_cellE h1)).trans h1⟩)
theorem ErrIs.nil (w:World)(ad:Nat->Addr):ErrIs w ad .nilIface 0 (-1):=Or.inl ⟨rfl,rfl,rfl⟩
theorem ErrIs.sent {w:World}{ad:Nat->Addr}(i:Nat)(hi:i < 12):ErrIs w ad (.iface 252 (.pointer (some (ad i)))) ((i+1:Nat):Int) (-1):=Or.inr (Or.inl ⟨i,hi,rfl,rfl,rfl⟩)
theorem ErrIs.some {w:World}{ad:Nat->Addr}{ev:Value}{c at_:Int}(h:ErrIs w ad ev c at_)(hc:0 < c):∃ t v,ev=.iface t v:=by
 rcases h with ⟨_,h0,_⟩ | ⟨i,_,he,_⟩ | ⟨i,fb,_,he,_⟩
 ·omega
 ·exact⟨_,_,he⟩
 ·exact⟨_,_,he⟩
end Go.Proofs.YtmhoiodfppdlnaaGreatDoor
/- Functions of the library at this program. -/
namespace Go.Proofs
open Go.Shelf
def Tryz.lays316_ren : Go.Shelf.Ren := ⟨fun | 316 => 55 | n => n, fun | 9 => 9 | 3 => 3 | 4 => 4 | 37 => 138 | 0 => 0 | 127 => 139 | 5 => 5 | n => n, fun | n => n⟩
theorem Tryz.lays316 : Go.Proofs.LaysM.n316 Tryz.prog Tryz.lays316_ren := {
  mixed := by kernel_rfl
  f316 := Tryz.func55.trans (congrArg some (by kernel_rfl))
  t0 := Tryz.underlying0
  a0 := Tryz.isAgg0
  z0 := Tryz.sizeOf0
  v0 := Tryz.zeroValue0
  t3 := Tryz.underlying3
  a3 := Tryz.isAgg3
  z3 := Tryz.sizeOf3
  v3 := Tryz.zeroValue3
  t4 := Tryz.underlying4
  a4 := Tryz.isAgg4
  z4 := Tryz.sizeOf4
  v4 := Tryz.zeroValue4
  t9 := Tryz.underlying9
  a9 := Tryz.isAgg9
  z9 := Tryz.sizeOf9
  v9 := Tryz.zeroValue9
  t37 := Tryz.underlying138
  a37 := Tryz.isAgg138
  z37 := Tryz.sizeOf138
  v37 := Tryz.zeroValue138
  t127 := Tryz.underlying139
  a127 := Tryz.isAgg139
  z127 := Tryz.sizeOf139
  v127 := Tryz.zeroValue139
  t5 := Tryz.underlying5
  a5 := Tryz.isAgg5
  z5 := Tryz.sizeOf5
  v5 := Tryz.zeroValue5
  i0 := by kernel_rfl
  i3 := by kernel_rfl
  i4 := by kernel_rfl
  i5 := by kernel_rfl
  i9 := by kernel_rfl
  i37 := by kernel_rfl
  i127 := by kernel_rfl }
open Go.RowKit in
/-- internal/stringslite.Clone. -/
theorem Tryz.stringslite_Clone (s : ByteArray) (w : World) (hlim : s.size ≤ 281474976710656) :
    Calls Tryz.prog 55 #[.string s] w fun e w' => e = .returned (.string s) ∧ Below w.heap.size w w' := Any.stringslite_Clone Tryz.lays316 s w hlim
def Tryz.laysGw17_ren : Go.Shelf.Ren := ⟨fun | 17 => 103 | 15 => 128 | 20 => 152 | n => n, fun | 9 => 9 | 23 => 174 | 4 => 4 | 3 => 3 | 0 => 0 | 21 => 21 | n => n, fun | n => n⟩
theorem Tryz.laysGw17 : Go.Proofs.LaysGw.n17 Tryz.prog Tryz.laysGw17_ren := {
  mixed := by kernel_rfl
  f15 := Tryz.func128.trans (congrArg some (by kernel_rfl))
  f17 := Tryz.func103.trans (congrArg some (by kernel_rfl))
  f20 := Tryz.func152.trans (congrArg some (by kernel_rfl))
  t0 := Tryz.underlying0
  a0 := Tryz.isAgg0
  z0 := Tryz.sizeOf0
  v0 := Tryz.zeroValue0
  i0 := by kernel_rfl
  t3 := Tryz.underlying3
  a3 := Tryz.isAgg3
  z3 := Tryz.sizeOf3
  v3 := Tryz.zeroValue3
  i3 := by kernel_rfl
  t4 := Tryz.underlying4
  a4 := Tryz.isAgg4
  z4 := Tryz.sizeOf4
  v4 := Tryz.zeroValue4
  i4 := by kernel_rfl
  t9 := Tryz.underlying9
  a9 := Tryz.isAgg9
  z9 := Tryz.sizeOf9
  v9 := Tryz.zeroValue9
  i9 := by kernel_rfl
  t21 := Tryz.underlying21
  a21 := Tryz.isAgg21
  z21 := Tryz.sizeOf21
  v21 := Tryz.zeroValue21
  i21 := by kernel_rfl
  t23 := Tryz.underlying174
  a23 := Tryz.isAgg174
  z23 := Tryz.sizeOf174
  v23 := Tryz.zeroValue174
  i23 := by kernel_rfl }
open Go.RowKit in
/-- strings.ContainsFunc. -/
theorem Tryz.strings_ContainsFunc (g : Nat) (lb : Array Value) (eg : ∀ args w, (callFunc g args).run Tryz.prog w = .ok (.enter g args) w) (p : Nat → Bool) (s : ByteArray) (w : World) (hp : PredAt Tryz.prog g lb encR p w) :
    Calls Tryz.prog 103 #[.string s, .func (.func g) #[] lb] w fun e w' => e = .returned (.bool (decide (0 ≤ Lib.idxFunc p true s))) ∧ Below w.heap.size w w' := Any.strings_ContainsFunc Tryz.laysGw17 g lb eg p s w hp
end Go.Proofs
namespace Go.Proofs.YtmhoiodfppdlnaaGreatDoor
open Go.RowKit
section
variable {P:Program} {w:World}
theorem appendK_where (base:Nat)(t ty e:TypeId)(i:TypeInfo)(z:Value)(size bytes:Nat)(ht:P.underlying t=some (.slice e))(hi:P.info? e=some i)(hz:i.zero=some z)
 (hsize:i.size=size) (hby:i.bytes=bytes) (v:Value) (n:Nat) (xs:List Value) (hown:w.ownsRow base e size v n xs)
 (a:Addr) (m c:Nat) (news:List Value) (hl:news.length=m*size) (hnews:∀ j u,news[j]?=some u->w.cell? (a.add j)=some u) (h1:∀ u ∈ news,u.oneCell'=true)
 (h63:n+m<=maxLen) (hbytes:(n+m)*bytes<=140737488355328) (hm:0 < m) {v':Value} {w':World}
 (hr:(Builtin.append_ #[t,t] ty #[v,.slice (some a) m c]).run P w=.ok v' w'):v'.ownBlock=v.ownBlock∨v'.ownBlock=some w.heap.size:=by
 subst hsize
 subst hby
 have hsmall:n+m<=9223372036854775807:=by simp only [maxLen] at h63;omega
 rcases hown.2 with ⟨rfl,rfl⟩ | ⟨g,cap,cur,rfl,hbg,hg,hnc,hcm,hcs,htake⟩
 ·have:=run_append_nil (P:=P) w t ty e i z ht hi hz a m c news hl hnews (by omega) (by omega) (by have hb:=hbytes;simp only [Nat.zero_add] at hb;omega)
  rw [this] at hr
  injection hr with e1 e2
  subst e1
  exact Or.inr rfl
 ·by_cases hroom:n+m<=cap
  ·have hfit:n*i.size+news.length<=cur.size:=by rw [hl,hcs,<- Nat.add_mul];exact Nat.mul_le_mul_right _ hroom
   have:=run_append_room (P:=P) w t ty e i ht hi g n cap cur hg a m c news hl hnews h1 hroom hfit
   rw [this] at hr
   injection hr with e1 e2
   subst e1
   exact Or.inl rfl
  ·have holds:∀ j u,xs[j]?=some u->w.cell? ((⟨g,0,none⟩:Addr).add j)=some u:=hown.cells (g:=g) rfl
   have:=run_append_grow (P:=P) w t ty e i z ht hi hz ⟨g,0,none⟩ n cap xs hown.1 holds a m c news hl hnews (by omega) (by omega) (growslice_fits (by omega) hbytes)
   rw [this] at hr
   injection hr with e1 e2
   subst e1
   exact Or.inr rfl
theorem wpList_append_at {ops:Array Oper}{rest:List Oper}{o:Oper}{a:Act}{Q:Exit->Act->World->Prop}(hgd:o.guard=none)(s x:Operand)(t:TypeId)
 (ho:o.op=.call { callee:=.builtin .append,args:=#[s,x],argTypes:=#[t,t] })
 (base:Nat) (e:TypeId) (i:TypeInfo) (z:Value) (size bytes:Nat) (ht:P.underlying t=some (.slice e)) (hi:P.info? e=some i) (hz:i.zero=some z)
 (hsize:i.size=size) (hby:i.bytes=bytes) (hzs:z.cells.size=size) (hsz:0 < size)
 (v:Value) (n:Nat) (xs:List Value) (hs:a.eval s=v) (hown:w.ownsRow base e size v n xs)
 (ad:Addr) (m c:Nat) (news:List Value) (hx:a.eval x=.slice (some ad) m c) (hl:news.length=m*size) (hnews:∀ j u,news[j]?=some u->w.cell? (ad.add j)=some u) (h1:∀ u ∈ news,u.oneCell'=true)
 (h63:n+m<=maxLen) (hbytes:(n+m)*bytes<=140737488355328) (hbase:base<=w.heap.size) (hm:0 < m)
 (h:∀ v' w',w'.ownsRow base e size v' (n+m) (xs ++ news)->w.grownBy w' v.ownBlock->(v'.ownBlock=v.ownBlock∨v'.ownBlock=some w.heap.size)->wpList P ops Q rest (a.put o.dst v') w'):wpList P ops Q (o :: rest) a w:=by
 refine wpList_plain hgd fun K hK=>?_
 obtain⟨v',w',hr,h2,h3,h4⟩:=run_append_own (P:=P) w base t o.type e i z size bytes ht hi hz hsize hby hzs hsz v n xs hown ad m c news hl hnews h1 h63 hbytes hbase
 have hw:=appendK_where base t o.type e i z size bytes ht hi hz hsize hby v n xs hown ad m c news hl hnews h1 h63 hbytes hm hr
 unfold Oper.wp execOp
 simp only [ho,resolve,invoke,builtin,Sem.run_bind,Sem.run_pure,Result.andThen_ok,List.map_toArray,List.map_cons,List.map_nil,hs,hx,hr]
 exact hK _ _ (h v' w' h2 h3 hw)
end
end Go.Proofs.YtmhoiodfppdlnaaGreatDoor
/- strings.Join at this program: its elements one behind the other, the separator between them. -/
namespace Go.Proofs
open Go.Shelf
def Tryz.lays156_ren : Go.Shelf.Ren := ⟨fun | 156 => 118 | 165 => 148 | 166 => 149 | 169 => 150 | 240 => 167 | 241 => 168 | 276 => 179 | 277 => 180 | n => n, fun | 31 => 22 | 9 => 9 | 3 => 3 | 4 => 4 | 0 => 0 | 20 => 20 | 72 => 227 | 76 => 175 | 70 => 225 | 37 => 138 | 75 => 33 | 127 => 139 | 164 => 146 | 5 => 5 | 80 => 61 | n => n, fun | n => n⟩
theorem Tryz.lays156 : Go.Proofs.Lays.n156 Tryz.prog Tryz.lays156_ren := {
  mixed := by kernel_rfl
  f156 := Tryz.func118.trans (congrArg some (by kernel_rfl))
  f165 := Tryz.func148.trans (congrArg some (by kernel_rfl))
  f166 := Tryz.func149.trans (congrArg some (by kernel_rfl))
  f169 := Tryz.func150.trans (congrArg some (by kernel_rfl))
  f240 := Tryz.func167.trans (congrArg some (by kernel_rfl))
  f241 := Tryz.func168.trans (congrArg some (by kernel_rfl))
  f276 := Tryz.func179.trans (congrArg some (by kernel_rfl))
  f277 := Tryz.func180.trans (congrArg some (by kernel_rfl))
  t0 := Tryz.underlying0
  a0 := Tryz.isAgg0
  z0 := Tryz.sizeOf0
  v0 := Tryz.zeroValue0
  t3 := Tryz.underlying3
  a3 := Tryz.isAgg3
  z3 := Tryz.sizeOf3
  v3 := Tryz.zeroValue3
  t4 := Tryz.underlying4
  a4 := Tryz.isAgg4
  z4 := Tryz.sizeOf4
  v4 := Tryz.zeroValue4
  t9 := Tryz.underlying9
  a9 := Tryz.isAgg9
  z9 := Tryz.sizeOf9
  v9 := Tryz.zeroValue9
  t20 := Tryz.underlying20
  a20 := Tryz.isAgg20
  z20 := Tryz.sizeOf20
  v20 := Tryz.zeroValue20
  t31 := Tryz.underlying22
  a31 := Tryz.isAgg22
  z31 := Tryz.sizeOf22
  v31 := Tryz.zeroValue22
  t37 := Tryz.underlying138
  a37 := Tryz.isAgg138
  z37 := Tryz.sizeOf138
  v37 := Tryz.zeroValue138
  t70 := Tryz.underlying225
  a70 := Tryz.isAgg225
  z70 := Tryz.sizeOf225
  v70 := Tryz.zeroValue225
  t72 := Tryz.underlying227
  a72 := Tryz.isAgg227
  z72 := Tryz.sizeOf227
  v72 := Tryz.zeroValue227
  t75 := Tryz.underlying33
  a75 := Tryz.isAgg33
  z75 := Tryz.sizeOf33
  v75 := Tryz.zeroValue33
  t76 := Tryz.underlying175
  a76 := Tryz.isAgg175
  z76 := Tryz.sizeOf175
  v76 := Tryz.zeroValue175
  t127 := Tryz.underlying139
  a127 := Tryz.isAgg139
  z127 := Tryz.sizeOf139
  v127 := Tryz.zeroValue139
  t164 := Tryz.underlying146
  a164 := Tryz.isAgg146
  z164 := Tryz.sizeOf146
  v164 := Tryz.zeroValue146 }
theorem Tryz.Builder_Extra_156 : Builder.Extra Tryz.prog Tryz.lays156_ren := {
  sizeBuilder := by kernel_rfl
  liesBuilder := by kernel_rfl
  t5 := Tryz.underlying5
  a5 := Tryz.isAgg5
  z5 := Tryz.sizeOf5
  v5 := Tryz.zeroValue5
  infoByte := by kernel_rfl
  cellsByte := by kernel_rfl
  sizeByte := by kernel_rfl
  neB5 := by decide }
open Go.RowKit in
/-- strings.Join, however many elements. -/
theorem Tryz.strings_Join (bk o c : Nat) (xs : List ByteArray) (sep : ByteArray) (w : World) (hcells : ∀ (j : Nat) x, xs[j]? = some x → w.cell? ⟨bk, o + j, none⟩ = some (.string x)) (hbk : bk < w.heap.size) (hN : xs.length ≤ 140737488355328) (hcap : xs.length ≤ c) (hlen : (Lib.join (xs.map (·.data.toList)) sep.data.toList).length ≤ 140737488355328) :
    Calls Tryz.prog 118 #[.slice (some ⟨bk, o, none⟩) xs.length c, .string sep] w fun e w' => e = .returned (.string ⟨(Lib.join (xs.map (·.data.toList)) sep.data.toList).toArray⟩) ∧ Below w.heap.size w w' := Any.strings_Join Tryz.lays156 Tryz.Builder_Extra_156 bk o c xs sep w hcells hbk hN hcap hlen
end Go.Proofs
/- Functions of the library at this program. -/
namespace Go.Proofs
open Go.Shelf
def Tryz.laysM171_ren : Go.Shelf.Ren := ⟨fun | 171 => 56 | 243 => 78 | 246 => 106 | 283 => 129 | 284 => 130 | 285 => 131 | 286 => 132 | 129 => 154 | 317 => 153 | 318 => 155 | 319 => 156 | 320 => 157 | 337 => 169 | 338 => 170 | n => n, fun | 3 => 3 | 9 => 9 | 2 => 2 | 4 => 4 | 171 => 212 | 0 => 0 | 53 => 213 | 37 => 138 | 5 => 5 | 173 => 216 | 212 => 233 | 51 => 234 | 20 => 20 | 213 => 235 | 46 => 206 | 232 => 249 | 233 => 250 | n => n, fun | 17 => 13 | 18 => 14 | 19 => 15 | n => n⟩
theorem Tryz.laysM171 : Go.Proofs.LaysM.n171 Tryz.prog Tryz.laysM171_ren := {
  mixed := by kernel_rfl
  f129 := Tryz.func154.trans (congrArg some (by kernel_rfl))
  f171 := Tryz.func56.trans (congrArg some (by kernel_rfl))
  f243 := Tryz.func78.trans (congrArg some (by kernel_rfl))
  f246 := Tryz.func106.trans (congrArg some (by kernel_rfl))
  f283 := Tryz.func129.trans (congrArg some (by kernel_rfl))
  f284 := Tryz.func130.trans (congrArg some (by kernel_rfl))
  f285 := Tryz.func131.trans (congrArg some (by kernel_rfl))
  f286 := Tryz.func132.trans (congrArg some (by kernel_rfl))
  f317 := Tryz.func153.trans (congrArg some (by kernel_rfl))
  f318 := Tryz.func155.trans (congrArg some (by kernel_rfl))
  f319 := Tryz.func156.trans (congrArg some (by kernel_rfl))
  f320 := Tryz.func157.trans (congrArg some (by kernel_rfl))
  f337 := Tryz.func169.trans (congrArg some (by kernel_rfl))
  f338 := Tryz.func170.trans (congrArg some (by kernel_rfl))
  t0 := Tryz.underlying0
  a0 := Tryz.isAgg0
  z0 := Tryz.sizeOf0
  v0 := Tryz.zeroValue0
  t2 := Tryz.underlying2
  a2 := Tryz.isAgg2
  z2 := Tryz.sizeOf2
  v2 := Tryz.zeroValue2
  t3 := Tryz.underlying3
  a3 := Tryz.isAgg3
  z3 := Tryz.sizeOf3
  v3 := Tryz.zeroValue3
  t4 := Tryz.underlying4
  a4 := Tryz.isAgg4
  z4 := Tryz.sizeOf4
  v4 := Tryz.zeroValue4
  t5 := Tryz.underlying5
  a5 := Tryz.isAgg5
  z5 := Tryz.sizeOf5
  v5 := Tryz.zeroValue5
  t9 := Tryz.underlying9
  a9 := Tryz.isAgg9
  z9 := Tryz.sizeOf9
  v9 := Tryz.zeroValue9
  t20 := Tryz.underlying20
  a20 := Tryz.isAgg20
  z20 := Tryz.sizeOf20
  v20 := Tryz.zeroValue20
  t37 := Tryz.underlying138
  a37 := Tryz.isAgg138
  z37 := Tryz.sizeOf138
  v37 := Tryz.zeroValue138
  t46 := Tryz.underlying206
  a46 := Tryz.isAgg206
  z46 := Tryz.sizeOf206
  v46 := Tryz.zeroValue206
  t51 := Tryz.underlying234
  a51 := Tryz.isAgg234
  z51 := Tryz.sizeOf234
  v51 := Tryz.zeroValue234
  t53 := Tryz.underlying213
  a53 := Tryz.isAgg213
  z53 := Tryz.sizeOf213
  v53 := Tryz.zeroValue213
  t171 := Tryz.underlying212
  a171 := Tryz.isAgg212
  z171 := Tryz.sizeOf212
  v171 := Tryz.zeroValue212
  t173 := Tryz.underlying216
  a173 := Tryz.isAgg216
  z173 := Tryz.sizeOf216
  v173 := Tryz.zeroValue216
  t212 := Tryz.underlying233
  a212 := Tryz.isAgg233
  z212 := Tryz.sizeOf233
  v212 := Tryz.zeroValue233
  t213 := Tryz.underlying235
  a213 := Tryz.isAgg235
  z213 := Tryz.sizeOf235
  t232 := Tryz.underlying249
  a232 := Tryz.isAgg249
  z232 := Tryz.sizeOf249
  v232 := Tryz.zeroValue249
  t233 := Tryz.underlying250
  a233 := Tryz.isAgg250
  z233 := Tryz.sizeOf250
  v233 := Tryz.zeroValue250
  g17 := by kernel_rfl
  g18 := by kernel_rfl
  g19 := by kernel_rfl
  i0 := by kernel_rfl
  i2 := by kernel_rfl
  i3 := by kernel_rfl
  i4 := by kernel_rfl
  i5 := by kernel_rfl
  i9 := by kernel_rfl
  i20 := by kernel_rfl
  i37 := by kernel_rfl
  i46 := by kernel_rfl
  i51 := by kernel_rfl
  i53 := by kernel_rfl
  i171 := by kernel_rfl
  i173 := by kernel_rfl
  i212 := by kernel_rfl
  i232 := by kernel_rfl
  i233 := by kernel_rfl
  m17 := by kernel_rfl
  m18 := by kernel_rfl
  m19 := by kernel_rfl }
end Go.Proofs
namespace Go.Proofs.YtmhoiodfppdlnaaGreatDoor
open Go.ChangeShapes Go.WideShapes Go.RowKit
def errD (text:List UInt8):DataW Unit:=.iface "*errors.errorString" (.ptr (.agg [.lit (.string text)]))
theorem sents {P:Program}{W:World}{ti tp te ts:TypeId}{ms:Array (String×TypeId)}{f:Field}
 (hi:P.underlying ti=some (.interface ms)) (hrow:∀ u,P.typeName? 3 u=some "*errors.errorString"->u=tp)
 (hp:P.underlying tp=some (.pointer te)) (he:P.underlying te=some (.struct #[f])) (hft:f.type=ts) (hfo:f.offset=0) (hs:P.underlying ts=some .string) (hc:P.cellsOf te=1) (hcs:P.cellsOf ts=1) :
 ∀ (L:List (String×List UInt8)) (ps:List MemPlace),DataW.LaidVars P W (L.map fun x=>(x.1,errD x.2)) ps ->
  (∀ x ∈ L,∃ g,P.globalNamed x.1=some g/\(P.globals[g]?).map (·.type)=some ti) ->
  (∀ b off,MemPlace.cell b off ∈ ps->(∃ c t,W.heap[b]?=some (.cells c t (0,0)))/\∀ u v,W.cell? ⟨b,off,none⟩=some (.iface u v)->Value.okWide P W .any 0 u v) ->
  ∃ ad:Nat->Addr,(∀ i x,L[i]?=some x->MemPlace.cell (ad i).block (ad i).off ∈ ps/\W.var? P x.1=some #[.iface tp (.pointer (some (ad i)))]) /\
   (ps.Nodup->∀ i j,i < L.length->j < L.length->i≠j->ad i≠ad j):=by
 intro L
 induction L with
 | nil =>
  intro ps _ _ _
  exact⟨fun _=>⟨0,0,none⟩,fun i x h=>by simp at h,fun _ i j h=>by simp at h⟩
 | cons x r ih =>
  intro ps hl hn hr
  obtain⟨g0,t0,cs0,f0,p0,q0,hg0,ht0,hv0,hd0,hq,rfl⟩:=hl
  obtain⟨g,hg,ht⟩:=hn x (List.mem_cons_self ..)
  obtain rfl:=Option.some.inj (hg.symm.trans hg0)
  obtain rfl:=Option.some.inj (ht.symm.trans ht0)
  obtain⟨ad,h1,h2⟩:=ih q0 hq (fun y hy=>hn y (List.mem_cons_of_mem _ hy)) (fun b off hm=>hr b off (List.mem_append_right _ hm))
  obtain⟨l0⟩:=cs0
  have ok0:∀ u v,l0=[.iface u v]->Value.okWide P W .any 0 u v:=fun u v e=>by
   subst e
   exact(hr g 0 (by simp [MemPlace.row])).2 u v (by simpa using World.var?_cell hg0 hv0 0)
  obtain⟨a0,s0,rfl,hc0,hs0,hz0,rfl⟩:=errorString_of_trod hi hrow hp he hft hfo hs hc hcs hd0 ok0
  refine⟨fun i=>match i with | 0=>a0 | k+1=>ad k,?_,?_⟩
  ·intro i y hy
   match i with
   | 0 =>
    obtain rfl:x=y:=by simpa using hy
    exact⟨by simp [MemPlace.row],hv0⟩
   | k+1 =>
    have:=h1 k y (by simpa using hy)
    exact⟨List.mem_append_right _ this.1,this.2⟩
  ·intro hnd i j hi' hj' hij
   have hq':q0.Nodup:=List.Nodup.sublist (List.sublist_append_right _ _) hnd
   have hd:∀ k,k < r.length->a0≠ad k:=by
    intro k hk e
    obtain⟨y,hy⟩:∃ y,r[k]?=some y:=⟨r[k],List.getElem?_eq_getElem hk⟩
    have hm:=(h1 k y hy).1
    rw [<- e] at hm
    have hdis:=(List.nodup_append.1 hnd).2.2
    exact hdis _ (List.mem_append_right _ (by simp [MemPlace.row])) _ hm rfl
   match i,j,hi',hj',hij with
   | 0,0,_,_,h=>exact absurd rfl h
   | 0,k+1,_,hk,_=>exact hd k (by simpa using hk)
   | k+1,0,hk,_,_=>exact(hd k (by simpa using hk)).symm
   | k+1,m+1,hk,hm,hne=>exact h2 hq' k m (by simpa using hk) (by simpa using hm) (fun e=>hne (by rw [e]))
theorem laid_peel {P:Program}{W:World}:∀ (L M:List (String×DataW Unit)) (ps:List MemPlace),DataW.LaidVars P W (L ++ M) ps->∃ p q,ps=p ++ q/\DataW.LaidVars P W M q
 | [],_,ps,h=>⟨[],ps,rfl,h⟩
 | x :: L,M,ps,h=>by
  obtain⟨g0,t0,cs0,f0,p0,q0,hg0,ht0,hv0,hd0,hq,rfl⟩:=h
  obtain⟨p,q,rfl,h2⟩:=laid_peel L M q0 hq
  exact⟨_,q,(List.append_assoc _ _ _).symm,h2⟩
theorem star_es : "*" ++ "errors.errorString" = "*errors.errorString":=by kernel_rfl
theorem row_es (u:TypeId) (h:Tryz.prog.typeName? 3 u=some "*errors.errorString"):u=252 :=
 typeName_ptr_named (nm := "errors.errorString") (by rw [star_es];kernel_rfl) (by kernel_rfl) (by decide) u (by rw [star_es];exact h)
end Go.Proofs.YtmhoiodfppdlnaaGreatDoor
namespace Go.Proofs.YtmhoiodfppdlnaaGreatDoor
open Go.RowKit
structure Enc (α:Type) where
 k:Nat
 pos:0 < k
 enc:α->List Value
 len:∀ x,(enc x).length=k
 one:∀ x,∀ u ∈ enc x,u.oneCell'=true
variable {α:Type} {E:Enc α}
def recVals (E:Enc α)(l:List α):List Value:=l.flatMap E.enc
theorem recVals_length (E:Enc α):∀ l:List α,(recVals E l).length=l.length*E.k
 | []=>by simp [recVals]
 | x :: l=>by
  have:=recVals_length E l
  unfold recVals at this ⊢
  rw [List.flatMap_cons,List.length_append,this,E.len,List.length_cons,Nat.add_mul,Nat.one_mul,Nat.add_comm]
theorem recVals_append (E:Enc α)(l m:List α):recVals E (l ++ m)=recVals E l ++ recVals E m:=by unfold recVals;rw [List.flatMap_append]
theorem recVals_one (E:Enc α)(x:α):recVals E [x]=E.enc x:=by simp [recVals]
theorem recVals_at (E:Enc α):∀ (l:List α) (i:Nat) (x:α),l[i]?=some x->∀ j u,(E.enc x)[j]?=some u->(recVals E l)[i*E.k+j]?=some u
 | [],i,x,h,_,_,_=>by simp at h
 | y :: l,0,x,h,j,u,hj=>by
  obtain rfl:y=x:=by simpa using h
  unfold recVals
  rw [List.flatMap_cons,Nat.zero_mul,Nat.zero_add,List.getElem?_append_left (List.getElem?_eq_some_iff.1 hj).1]
  exact hj
 | y :: l,i+1,x,h,j,u,hj=>by
  have ih:=recVals_at E l i x (by simpa using h) j u hj
  unfold recVals at ih ⊢
  rw [List.flatMap_cons,List.getElem?_append_right (by rw [E.len];have:=Nat.le_mul_of_pos_left E.k (show 0 < i+1 by omega);omega),E.len]
  have e:(i+1)*E.k+j - E.k=i*E.k+j:=by rw [Nat.add_mul,Nat.one_mul];omega
  rw [e]
  exact ih
def Rec (E:Enc α)(w:World)(p:Option Addr)(l:List α):Prop :=
 l=[]∨∃ b o,p=some ⟨b,o,none⟩/\b < w.heap.size/\∀ i x,l[i]?=some x->∀ j u,(E.enc x)[j]?=some u->w.cell? ⟨b,o+i*E.k+j,none⟩=some u
theorem Rec.nil (w:World)(p:Option Addr):Rec E w p []:=Or.inl rfl
theorem Rec.drewN {w:World}{p:Option Addr}{l:List α}(h:Rec E w p l)(n:Nat):Rec E (w.drewN n) p l:=h
theorem Rec.below {w w':World}{p:Option Addr}{l:List α}(h:Rec E w p l)(hb:Below w.heap.size w w'):Rec E w' p l:=by
 rcases h with h | ⟨b,o,hp,hlt,hc⟩
 ·exact Or.inl h
 ·exact Or.inr ⟨b,o,hp,Nat.lt_of_lt_of_le hlt hb.size,fun i x hx j u hu=>(hb.cell (p:=⟨b,o+i*E.k+j,none⟩) hlt).trans (hc i x hx j u hu)⟩
def OwnR (E:Enc α)(T:TypeId)(w:World)(B:Nat)(v:Value)(l:List α):Prop:=w.ownsRow B T E.k v l.length (recVals E l)
theorem OwnR.nil (T:TypeId)(w:World)(B:Nat):OwnR E T w B (.slice none 0 0) []:=World.ownsRow_nil w B T E.k
theorem OwnR.block {T:TypeId}{w:World}{B:Nat}{v:Value}{l:List α}(h:OwnR E T w B v l){k:Nat}(hk:v.ownBlock=some k):B<=k/\k < w.heap.size:=World.ownsRow.lt h k hk
theorem OwnR.kept {T:TypeId}{w w':World}{B:Nat}{v:Value}{l:List α}(h:OwnR E T w B v l)(hb:Below w.heap.size w w'):OwnR E T w' B v l :=
 World.ownsRow.kept (row:=none) h ⟨hb.os,hb.tape,hb.output,hb.size,fun k hk _=>hb.block k hk⟩ (by cases v.ownBlock <;> simp)
theorem OwnR.base {T:TypeId}{w:World}{B B':Nat}{v:Value}{l:List α}(h:OwnR E T w B v l)(hb:B'<=B):OwnR E T w B' v l:=by
 obtain⟨h1,h2⟩:=h
 refine⟨h1,?_⟩
 rcases h2 with h2 | ⟨g,cap,cur,hv,hbg,hrest⟩
 ·exact Or.inl h2
 ·exact Or.inr ⟨g,cap,cur,hv,Nat.le_trans hb hbg,hrest⟩
theorem OwnR.form {T:TypeId}{w:World}{B:Nat}{v:Value}{l:List α}(h:OwnR E T w B v l):∃ p c,v=.slice p l.length c/\Rec E w p l/\l.length<=c/\(p=none->l=[]/\c=0)/\∀ b o,p=some ⟨b,o,none⟩->B<=b/\b < w.heap.size:=by
 have h0:w.ownsRow B T E.k v l.length (recVals E l):=h
 rcases h0.2 with ⟨rfl,hz⟩ | ⟨g,cap,cur,rfl,hb,hg,hnc,hcm,hcs,htake⟩
 ·have e:l=[]:=List.length_eq_zero_iff.1 hz
  subst e
  exact⟨none,0,rfl,Or.inl rfl,Nat.le_refl _,fun _=>⟨rfl,rfl⟩,fun _ _ h=>by cases h⟩
 ·have hlt:g < w.heap.size:=(Array.getElem?_eq_some_iff.1 hg).1
  refine⟨some ⟨g,0,none⟩,cap,rfl,Or.inr ⟨g,0,rfl,hlt,fun i x hx j u hu=>?_⟩,hnc,fun h=>(by cases h),fun b o h=>?_⟩
  ·have hc:=World.ownsRow.cells (g:=g) h0 rfl (i*E.k+j) u (recVals_at E l i x hx j u hu)
   rw [Addr.add_lit] at hc
   rw [Nat.add_assoc]
   exact hc
  ·obtain⟨rfl,rfl⟩:g=b/\0=o:=by simpa using h
   exact⟨hb,hlt⟩
theorem recVals_one' (E:Enc α)(l:List α):∀ u ∈ recVals E l,u.oneCell'=true:=fun u hu=>by
 obtain⟨x,_,hx⟩:=List.mem_flatMap.1 hu
 exact E.one x u hx
theorem Rec.cells {w:World}{b o:Nat}{l:List α}(hc:∀ i x,l[i]?=some x->∀ j u,(E.enc x)[j]?=some u->w.cell? ⟨b,o+i*E.k+j,none⟩=some u):∀ j u,(recVals E l)[j]?=some u->w.cell? ((⟨b,o,none⟩:Addr).add j)=some u:=by
 intro j u hj
 have hjl:j < (recVals E l).length:=(List.getElem?_eq_some_iff.1 hj).1
 rw [recVals_length] at hjl
 have hk:=E.pos
 have hi:j / E.k < l.length:=(Nat.div_lt_iff_lt_mul hk).2 hjl
 have hr:j % E.k < E.k:=Nat.mod_lt _ hk
 have hx:l[j / E.k]?=some l[j / E.k]:=List.getElem?_eq_getElem hi
 have hu:(E.enc l[j / E.k])[j % E.k]?=some ((E.enc l[j / E.k])[j % E.k]'(by rw [E.len];exact hr)):=List.getElem?_eq_getElem (by rw [E.len];exact hr)
 have h1:=recVals_at E l (j / E.k) _ hx (j % E.k) _ hu
 have h2:=hc (j / E.k) _ hx (j % E.k) _ hu
 have ej:j / E.k*E.k+j % E.k=j:=by rw [Nat.mul_comm];exact Nat.div_add_mod j E.k
 rw [ej] at h1
 rw [Nat.add_assoc,ej] at h2
 rw [Addr.add_lit,h2,<- h1,hj]
section
variable {w:World}
theorem wpList_append_recs {ops:Array Oper}{rest:List Oper}{o:Oper}{a:Act}{Q:Exit->Act->World->Prop}(hgd:o.guard=none)(s x:Operand)(t T:TypeId)
 (ho:o.op=.call { callee:=.builtin .append,args:=#[s,x],argTypes:=#[t,t] }) (z:Value) (bytes:Nat) (ht:Tryz.prog.underlying t=some (.slice T))
 (hinfo:(Tryz.prog.info? T).map (fun i=>(i.zero,i.size,i.bytes))=some (some z,E.k,bytes)) (hzc:z.cells.size=E.k)
 (B:Nat) (v:Value) (l:List α) (hs:a.eval s=v) (hown:OwnR E T w B v l) (q:Option Addr) (r:List α) (c:Nat) (hx:a.eval x=.slice q r.length c) (hq:Rec E w q r) (hc0:q=none->r=[]/\c=0) (hl:l.length+r.length<=maxLen) (hby:(l.length+r.length)*bytes<=140737488355328) (hbase:B<=w.heap.size)
 (h:∀ v' w',OwnR E T w' B v' (l ++ r)->Below B w w'->wpList Tryz.prog ops Q rest (a.put o.dst v') w'):wpList Tryz.prog ops Q (o :: rest) a w:=by
 obtain⟨i0,hi0,hz0,hz1,hzb⟩:=info_parts hinfo
 have hfin:∀ v' w',w'.ownsRow B T E.k v' (l.length+r.length) (recVals E l ++ recVals E r)->w.grownBy w' v.ownBlock->wpList Tryz.prog ops Q rest (a.put o.dst v') w':=fun v' w' h1 h2=>by
  refine h v' w' ?_ ((Below.refl _ _).grown h2 hbase (fun k hk=>(hown.block hk).1))
  unfold OwnR
  rw [recVals_append,List.length_append]
  exact h1
 cases q with
 | none =>
  obtain⟨hr,hc⟩:=hc0 rfl
  subst hr hc
  refine wpList_append_own_none hgd s x _ ho B T i0 E.k ht hi0 v l.length (recVals E l) hs hown hx ?_
  have:=h v w (by rw [List.append_nil];exact hown) (Below.refl _ _)
  exact this
 | some ad =>
  refine wpList_append_own w hgd s x _ ho B T i0 z E.k bytes ht hi0 hz0 hz1 hzb hzc E.pos v l.length (recVals E l) hs hown ad r.length c (recVals E r) hx (recVals_length E r) ?_ (recVals_one' E r) hl hby hbase (fun v' w' h1 h2 _=>hfin v' w' h1 h2)
  rcases hq with h0 | ⟨b,o',hp,_,hcell⟩
  ·subst h0
   intro j u hj
   simp [recVals] at hj
  ·obtain rfl:ad=⟨b,o',none⟩:=by simpa using hp
   exact Rec.cells hcell
theorem wpList_append_rec {ops:Array Oper}{rest:List Oper}{o:Oper}{a:Act}{Q:Exit->Act->World->Prop}(hgd:o.guard=none)(s x:Operand)(t T:TypeId)
 (ho:o.op=.call { callee:=.builtin .append,args:=#[s,x],argTypes:=#[t,t] }) (z:Value) (bytes:Nat) (ht:Tryz.prog.underlying t=some (.slice T))
 (hinfo:(Tryz.prog.info? T).map (fun i=>(i.zero,i.size,i.bytes))=some (some z,E.k,bytes)) (hzc:z.cells.size=E.k)
 (B:Nat) (v:Value) (l:List α) (hs:a.eval s=v) (hown:OwnR E T w B v l) (b o' c:Nat) (y:α) (hx:a.eval x=.slice (some ⟨b,o',none⟩) 1 c) (hq:∀ j u,(E.enc y)[j]?=some u->w.cell? ⟨b,o'+j,none⟩=some u) (hl:l.length+1<=maxLen) (hby:(l.length+1)*bytes<=140737488355328) (hbase:B<=w.heap.size) (hlt:b < w.heap.size)
 (h:∀ v' w',OwnR E T w' B v' (l ++ [y])->Below B w w'->wpList Tryz.prog ops Q rest (a.put o.dst v') w'):wpList Tryz.prog ops Q (o :: rest) a w :=
 wpList_append_recs (E:=E) hgd s x t T ho z bytes ht hinfo hzc B v l hs hown (some ⟨b,o',none⟩) [y] c hx (Or.inr ⟨b,o',rfl,hlt,fun i x hx' j u hu=>by
  match i,hx' with
  | 0,hx' =>
   obtain rfl:y=x:=by simpa using hx'
   rw [Nat.zero_mul,Nat.add_zero]
   exact hq j u hu⟩) (fun e=>by cases e) hl hby hbase h
end
theorem sA {l : List Value} {i : Nat} {a : Value} : l.toArray.setIfInBounds i a = (l.set i a).toArray := List.setIfInBounds_toArray ..
theorem sZ {x a : Value} {l : List Value} : (x :: l).set 0 a = a :: l := rfl
theorem sS {x a : Value} {l : List Value} {n : Nat} : (x :: l).set (n + 1) a = x :: l.set n a := rfl
theorem zAc {w w1 : World} {cs : Array Value} {T : TypeId} {i : Nat} {v : Value} (h : w1 = w.alloc (.cells cs T)) (hv : cs[i]? = some v) : w1.cell? ⟨w.heap.size, i, none⟩ = some v := by rw [h, World.cell?_alloc_at _ _ _ _ rfl]; exact hv
theorem zBe {w w1 : World} {o : Obj} (h : w1 = w.alloc o) : Below w.heap.size w w1 := by rw [h]; exact (Below.refl _ _).alloc (Nat.le_refl _) _
end Go.Proofs.YtmhoiodfppdlnaaGreatDoor
namespace Go.Proofs.YtmhoiodfppdlnaaGreatDoor
open Go.RowKit
theorem step_append_rec1 {α:Type}{E:Enc α}{ops:Array Oper}{o:Oper}{a:Act}{w:World}{K:Act->World->Prop}{Q:Exit->Act->World->Prop}{E':Prop}
 (hgd:o.guard=none) (s x:Operand) (t T:TypeId) (ho:o.op=.call { callee:=.builtin .append,args:=#[s,x],argTypes:=#[t,t] }) (z:Value) (bytes:Nat) (ht:Tryz.prog.underlying t=some (.slice T))
 (hinfo:(Tryz.prog.info? T).map (fun i=>(i.zero,i.size,i.bytes))=some (some z,E.k,bytes)) (hzc:z.cells.size=E.k)
 (B:Nat) (v:Value) (l:List α) (hs:a.eval s=v) (hown:OwnR E T w B v l) (b:Nat) (c:Nat) (r:α) (hx:a.eval x=.slice (some ⟨b,0,none⟩) 1 c) (hc:∀ j u,(E.enc r)[j]?=some u->w.cell? ⟨b,j,none⟩=some u) (hl:l.length+1<=maxLen) (hby:(l.length+1)*bytes<=140737488355328) (hbase:B<=w.heap.size)
 (h:∀ v' w',OwnR E T w' B v' (l ++ [r])->w.grownBy w' v.ownBlock->(v'.ownBlock=v.ownBlock∨v'.ownBlock=some w.heap.size)->K (a.put o.dst v') w') :
 if Region.wanted o (yielded ops a.tmps)=true then Oper.wp Tryz.prog o a w K Q else E':=by
 have hw:Region.wanted o (yielded ops a.tmps)=true:=by simp [Region.wanted,hgd]
 rw [if_pos hw]
 obtain⟨i0,hi0,hz0,hz1,hzb⟩:=info_parts hinfo
 have hn:∀ j u,(E.enc r)[j]?=some u->w.cell? ((⟨b,0,none⟩:Addr).add j)=some u:=fun j u hj=>by
  have h0:=hc j u hj
  by_cases e:j=0
  ·subst e;simpa [Addr.add] using h0
  ·simpa [Addr.add,e] using h0
 have hlen:(E.enc r).length=1*E.k:=by rw [E.len,Nat.one_mul]
 obtain⟨v',w',hrun,h2,h3,_⟩:=run_append_own (P:=Tryz.prog) w B t o.type T i0 z E.k bytes ht hi0 hz0 hz1 hzb hzc E.pos v l.length (recVals E l) hown ⟨b,0,none⟩ 1 c (E.enc r) hlen hn (E.one r) hl hby hbase
 have h4:=appendK_where B t o.type T i0 z E.k bytes ht hi0 hz0 hz1 hzb v l.length (recVals E l) hown ⟨b,0,none⟩ 1 c (E.enc r) hlen hn (E.one r) hl hby (by decide) hrun
 unfold Oper.wp
 simp [execOp,ho,resolve,invoke,builtin,hs,hx,hrun,Result.andThen]
 refine h v' w' ?_ h3 h4
 unfold OwnR
 rw [recVals_append,recVals_one,List.length_append]
 exact h2
end Go.Proofs.YtmhoiodfppdlnaaGreatDoor
namespace Go.Proofs.YtmhoiodfppdlnaaGreatDoor
open Go.RowKit Go.Extern.Stop Go.Stop Go.Extern
theorem isTypeOf (v:Value)(w:World):(Extern.ReflectliteType.typeOf #[.iface 252 v]).run Tryz.prog w=.ok (.iface 191 (.agg #[.pointer (some ⟨17,252,none⟩)])) w:=by kernel_rfl
def cmpEntry:Array Value->Sem Value:=Extern.ReflectliteType.method fun t=>do Rtype.noPackHeld "Comparable" t;pure (.bool (<- typeInfo t).comparable)
theorem isComparable (w:World):(cmpEntry #[.agg #[.pointer (some ⟨17,252,none⟩)]]).run Tryz.prog w=.ok (.bool true) w:=by kernel_rfl
theorem isMethodComparable (v:Value) (w:World):(Go.method 383 191 v "Comparable").run Tryz.prog w=.ok (208,v) w:=by kernel_rfl
theorem isComp:(Tryz.prog.info? 252).map (·.comparable)=some true:=by kernel_rfl
theorem isSize:(Tryz.prog.info? 271).map (·.size)=some 1:=by kernel_rfl
theorem noIsE (v:Value)(xT:TypeId)(w:World):(Instr.typeAssert (.iface 252 v) xT 202 true).run Tryz.prog w=.ok (.tuple #[.nilIface,.bool false]) w:=run_typeAssert_lacksB Tryz.underlying202 (by kernel_rfl) (by kernel_rfl) v xT w
theorem noAsE (v:Value)(xT:TypeId)(w:World):(Instr.typeAssert (.iface 252 v) xT 195 true).run Tryz.prog w=.ok (.tuple #[.nilIface,.bool false]) w:=run_typeAssert_lacksB Tryz.underlying195 (by kernel_rfl) (by kernel_rfl) v xT w
theorem noUnwrapE (v:Value)(xT:TypeId)(w:World):(Instr.typeAssert (.iface 252 v) xT 198 true).run Tryz.prog w=.ok (.tuple #[.nilIface,.bool false]) w:=run_typeAssert_lacksB Tryz.underlying198 (by kernel_rfl) (by kernel_rfl) v xT w
theorem noUnwrapsE (v:Value)(xT:TypeId)(w:World):(Instr.typeAssert (.iface 252 v) xT 200 true).run Tryz.prog w=.ok (.tuple #[.nilIface,.bool false]) w:=run_typeAssert_lacksB Tryz.underlying200 (by kernel_rfl) (by kernel_rfl) v xT w
theorem is_same (a:Addr)(w:World) :
 Calls Tryz.prog 60 #[.iface 252 (.pointer (some a)),.iface 252 (.pointer (some a))] w fun e w'=>e=.returned (.bool true)/\w'=w:=by
 obtain⟨i,hi,hcmp⟩:=Option.map_eq_some_iff.1 isComp
 obtain⟨j,hj,hjs⟩:=Option.map_eq_some_iff.1 isSize
 have h8:=@run_callFunc_extern Tryz.prog 87 _ Extern.ReflectliteType.typeOf Tryz.func87 (by kernel_rfl) (by kernel_rfl) (by kernel_rfl) (by kernel_rfl)
 have h32:=@run_callFunc_extern Tryz.prog 208 _ cmpEntry Tryz.func208 (by kernel_rfl) (by kernel_rfl) (by kernel_rfl) (by kernel_rfl)
 have tT:=isTypeOf
 have cT:=isComparable
 have mR:=isMethodComparable
 have heq:=run_eql_iface_ptr_same (P:=Tryz.prog) w a Tryz.underlying33 Tryz.underlying252 hi hcmp hj
 go_enter Tryz.func60,Tryz.ntmps60
 go_wp2
 refine wp_loop_rounds 1 ?_
 rw [rounds_succ]
 go_wp2
 go_ret
 exact⟨rfl,rfl⟩
theorem is_other (a b:Addr)(ca cb:Array Value)(ta tb:TypeId)(w:World)(hne:a≠b)(ha:w.heap[a.block]?=some (.cells ca ta (0,0)))(hb:w.heap[b.block]?=some (.cells cb tb (0,0))) :
 Calls Tryz.prog 60 #[.iface 252 (.pointer (some a)),.iface 252 (.pointer (some b))] w fun e w'=>e=.returned (.bool false)/\w'=w:=by
 obtain⟨i,hi,hcmp⟩:=Option.map_eq_some_iff.1 isComp
 obtain⟨j,hj,hjs⟩:=Option.map_eq_some_iff.1 isSize
 have h8:=@run_callFunc_extern Tryz.prog 87 _ Extern.ReflectliteType.typeOf Tryz.func87 (by kernel_rfl) (by kernel_rfl) (by kernel_rfl) (by kernel_rfl)
 have h32:=@run_callFunc_extern Tryz.prog 208 _ cmpEntry Tryz.func208 (by kernel_rfl) (by kernel_rfl) (by kernel_rfl) (by kernel_rfl)
 have tT:=isTypeOf
 have cT:=isComparable
 have mR:=isMethodComparable
 have nE:=noIsE
 have uE:=noUnwrapE
 have vE:=noUnwrapsE
 have heq:=run_eql_iface_ptr_other (P:=Tryz.prog) w Tryz.underlying33 Tryz.underlying252 hi hcmp hj (by rw [hjs];decide) hne ha hb
 go_enter Tryz.func60,Tryz.ntmps60
 go_wp2
 refine wp_loop_rounds 1 ?_
 rw [rounds_succ]
 go_wp2
 go_ret
 exact⟨rfl,rfl⟩
theorem valueOfFF (t:Addr)(w:World):(ReflectliteValue.unpack (.iface 114 (.pointer (some t)))).run Tryz.prog w
 = .ok (.agg #[.pointer (some ⟨17,114,none⟩),.pointer (some ⟨w.heap.size,0,none⟩),.int .u64 150]) (w.alloc (.cells #[.pointer (some t)] 114)):=by kernel_rfl
theorem typeFF (a:Addr) (w:World):(ReflectliteValue.methodAny (ReflectliteValue.valueError "reflectlite.Value.Type" 0) (fun t _ _ _=>ReflectliteType.toType t) #[.agg #[.pointer (some ⟨17,114,none⟩),.pointer (some a),.int .u64 150]]).run Tryz.prog w
 = .ok (.iface 191 (.agg #[.pointer (some ⟨17,114,none⟩)])) w:=by kernel_rfl
theorem methodKind (h:Value) (w:World):(Go.method 383 191 (.agg #[h]) "Kind").run Tryz.prog w=.ok (198,h) w:=by kernel_rfl
theorem kindFF (w:World):((ReflectliteType.abiMethod fun t=>(fun a:Nat=>Value.int IntKind.u8 (a:Int)) <$> Rtype.kind t) #[.pointer (some ⟨17,114,none⟩)]).run Tryz.prog w=.ok (.int .u8 22) w:=by kernel_rfl
theorem kindF (w:World):((ReflectliteType.abiMethod fun t=>(fun a:Nat=>Value.int IntKind.u8 (a:Int)) <$> Rtype.kind t) #[.pointer (some ⟨17,112,none⟩)]).run Tryz.prog w=.ok (.int .u8 22) w:=by kernel_rfl
theorem rlm (z:Sem Value)(f:TypeId->Addr->Nat->Nat->Sem Value)(v:Value) :
 ReflectliteValue.method z f #[v]=(do match <- ReflectliteValue.parts v with | none=>z | some (t,a,fl)=>f t a fl (fl % 32)):=rfl
theorem partsFF (a:Addr)(w:World):(ReflectliteValue.parts (.agg #[.pointer (some ⟨17,114,none⟩),.pointer (some a),.int .u64 150])).run Tryz.prog w=.ok (some (114,a,150)) w:=by kernel_rfl
theorem isNilFF (a p:Addr)(W:World)(ha:W.cell? a=some (.pointer (some p))) :
 (ReflectliteValue.method (ReflectliteValue.valueError "reflectlite.Value.IsNil" 0) ReflectliteValue.isNil #[.agg #[.pointer (some ⟨17,114,none⟩),.pointer (some a),.int .u64 150]]).run Tryz.prog W=.ok (.bool false) W:=by
 rw [rlm]
 simp only [Sem.run_bind,partsFF,Result.andThen]
 simp [ReflectliteValue.isNil,loadVar,isAgg,underlying,Tryz.underlying114,ha,Result.andThen]
theorem methodElem (h:Value) (w:World):(Go.method 383 191 (.agg #[h]) "Elem").run Tryz.prog w=.ok (209,.agg #[h]) w:=by kernel_rfl
theorem methodImplements (h:Value) (w:World):(Go.method 383 191 (.agg #[h]) "Implements").run Tryz.prog w=.ok (210,.agg #[h]) w:=by kernel_rfl
theorem methodAssignableTo (h:Value) (w:World):(Go.method 383 191 (.agg #[h]) "AssignableTo").run Tryz.prog w=.ok (207,.agg #[h]) w:=by kernel_rfl
theorem elemFF (w:World):(ReflectliteType.method ReflectliteType.elem #[.agg #[.pointer (some ⟨17,114,none⟩)]]).run Tryz.prog w=.ok (.iface 191 (.agg #[.pointer (some ⟨17,112,none⟩)])) w:=by kernel_rfl
theorem implementsF (w:World):(ReflectliteType.relation "Implements" ReflectliteType.implements_ #[.agg #[.pointer (some ⟨17,112,none⟩)],.iface 191 (.agg #[.pointer (some ⟨17,33,none⟩)])]).run Tryz.prog w=.ok (.bool true) w:=by kernel_rfl
theorem assignableE (w:World):(ReflectliteType.relation "AssignableTo" ReflectliteType.assignableTo #[.agg #[.pointer (some ⟨17,252,none⟩)],.iface 191 (.agg #[.pointer (some ⟨17,112,none⟩)])]).run Tryz.prog w=.ok (.bool false) w:=by kernel_rfl
theorem as_miss (e t:Addr)(w:World)(hg:w.cell? ⟨12,0,none⟩=some (.iface 191 (.agg #[.pointer (some ⟨17,33,none⟩)]))) :
 Calls Tryz.prog 59 #[.iface 252 (.pointer (some e)),.iface 114 (.pointer (some t))] w fun ev w'=>ev=.returned (.bool false)/\Below w.heap.size w w':=by
 have h6:=@run_callFunc_extern Tryz.prog 83 _ (fun args=>ReflectliteValue.unpack (args.getD 0 (.tuple #[]))) Tryz.func83 (by kernel_rfl) (by kernel_rfl) (by kernel_rfl) (by kernel_rfl)
 have h7:=@run_callFunc_extern Tryz.prog 84 _ (ReflectliteValue.methodAny (ReflectliteValue.valueError "reflectlite.Value.Type" 0) (fun t _ _ _=>ReflectliteType.toType t)) Tryz.func84 (by kernel_rfl) (by kernel_rfl) (by kernel_rfl) (by kernel_rfl)
 have h8:=@run_callFunc_extern Tryz.prog 85 _ (ReflectliteValue.method (ReflectliteValue.valueError "reflectlite.Value.IsNil" 0) ReflectliteValue.isNil) Tryz.func85 (by kernel_rfl) (by kernel_rfl) (by kernel_rfl) (by kernel_rfl)
 have h27:=@run_callFunc_extern Tryz.prog 198 _ (ReflectliteType.abiMethod fun t=>do pure (.int .u8 (<- Rtype.kind t))) Tryz.func198 (by kernel_rfl) (by kernel_rfl) (by kernel_rfl) (by kernel_rfl)
 have h37:=@run_callFunc_extern Tryz.prog 209 _ (ReflectliteType.method ReflectliteType.elem) Tryz.func209 (by kernel_rfl) (by kernel_rfl) (by kernel_rfl) (by kernel_rfl)
 have h38:=@run_callFunc_extern Tryz.prog 210 _ (ReflectliteType.relation "Implements" ReflectliteType.implements_) Tryz.func210 (by kernel_rfl) (by kernel_rfl) (by kernel_rfl) (by kernel_rfl)
 have h10:=@run_callFunc_extern Tryz.prog 87 _ ReflectliteType.typeOf Tryz.func87 (by kernel_rfl) (by kernel_rfl) (by kernel_rfl) (by kernel_rfl)
 have h35:=@run_callFunc_extern Tryz.prog 207 _ (ReflectliteType.relation "AssignableTo" ReflectliteType.assignableTo) Tryz.func207 (by kernel_rfl) (by kernel_rfl) (by kernel_rfl) (by kernel_rfl)
 have tO:=isTypeOf
 have mA:=methodAssignableTo
 have aE:=assignableE
 have f6:=valueOfFF
 have f7:=typeFF
 have mK:=methodKind
 have mE:=methodElem
 have mI:=methodImplements
 have kFF:=kindFF
 have kF:=kindF
 have eFF:=elemFF
 have iF:=implementsF
 have xA:=noAsE
 have xU:=noUnwrapE
 have xV:=noUnwrapsE
 have n8:=isNilFF ⟨w.heap.size,0,none⟩ t ((w.alloc (.cells #[.pointer (some t)] 114)).alloc (.cells #[.pointer (some ⟨17,114,none⟩),.pointer (some ⟨w.heap.size,0,none⟩),.int .u64 150] 149)) (by simp)
 have hlt:12 < w.heap.size:=by
  rcases Nat.lt_or_ge 12 w.heap.size with h | h
  ·exact h
  ·simp [World.cell?,Array.getElem?_eq_none h] at hg
 have hg2:((w.alloc (.cells #[.pointer (some t)] 114)).alloc (.cells #[.pointer (some ⟨17,114,none⟩),.pointer (some ⟨w.heap.size,0,none⟩),.int .u64 150] 149)).cell? ⟨12,0,none⟩=some (.iface 191 (.agg #[.pointer (some ⟨17,33,none⟩)])):=by
  rw [World.cell?_alloc_lt _ _ ⟨12,0,none⟩ (by simp;omega),World.cell?_alloc_lt _ _ ⟨12,0,none⟩ hlt];exact hg
 go_enter Tryz.func59,Tryz.ntmps59
 go_wp2
 refine wp_loop_rounds 1 ?_
 rw [rounds_succ]
 go_wp2
 go_ret
 exact⟨rfl,(((Below.refl _ _).alloc (Nat.le_refl _) _).alloc (by simp) _).alloc (by simp;omega) _⟩
end Go.Proofs.YtmhoiodfppdlnaaGreatDoor
namespace Go.Proofs.YtmhoiodfppdlnaaGreatDoor
open Go.RowKit Go.Extern.Stop Go.Stop Go.Extern
structure Sent (w:World) (ad:Nat->Addr):Prop where
 c0:w.cell? ⟨1,0,none⟩=some (.iface 252 (.pointer (some (ad 0))))
 c1:w.cell? ⟨0,0,none⟩=some (.iface 252 (.pointer (some (ad 1))))
 c2:w.cell? ⟨2,0,none⟩=some (.iface 252 (.pointer (some (ad 2))))
 c3:w.cell? ⟨3,0,none⟩=some (.iface 252 (.pointer (some (ad 3))))
 c4:w.cell? ⟨4,0,none⟩=some (.iface 252 (.pointer (some (ad 4))))
 c5:w.cell? ⟨5,0,none⟩=some (.iface 252 (.pointer (some (ad 5))))
 c6:w.cell? ⟨6,0,none⟩=some (.iface 252 (.pointer (some (ad 6))))
 c7:w.cell? ⟨7,0,none⟩=some (.iface 252 (.pointer (some (ad 7))))
 c8:w.cell? ⟨8,0,none⟩=some (.iface 252 (.pointer (some (ad 8))))
 c9:w.cell? ⟨9,0,none⟩=some (.iface 252 (.pointer (some (ad 9))))
 c10:w.cell? ⟨10,0,none⟩=some (.iface 252 (.pointer (some (ad 10))))
 c11:w.cell? ⟨11,0,none⟩=some (.iface 252 (.pointer (some (ad 11))))
 typ:w.cell? ⟨12,0,none⟩=some (.iface 191 (.agg #[.pointer (some ⟨17,33,none⟩)]))
 row:∀ i,i < 12->∃ c t,w.heap[(ad i).block]?=some (.cells c t (0,0))
 ne:∀ i j,i < 12->j < 12->i≠j->ad i≠ad j
theorem lt_of_cell {w:World}{b o:Nat}{v:Value}(h:w.cell? ⟨b,o,none⟩=some v):b < w.heap.size:=by
 rcases Nat.lt_or_ge b w.heap.size with h' | h'
 ·exact h'
 ·simp [World.cell?,Array.getElem?_eq_none h'] at h
theorem lt_of_row {w:World}{b:Nat}{o:Obj}(h:w.heap[b]?=some o):b < w.heap.size:=by
 rcases Nat.lt_or_ge b w.heap.size with h' | h'
 ·exact h'
 ·rw [Array.getElem?_eq_none h'] at h;cases h
theorem Sent.below {w w':World}{ad:Nat->Addr}(h:Sent w ad)(hb:Below w.heap.size w w'):Sent w' ad where
 c0:=(hb.cell (lt_of_cell h.c0)).trans h.c0
 c1:=(hb.cell (lt_of_cell h.c1)).trans h.c1
 c2:=(hb.cell (lt_of_cell h.c2)).trans h.c2
 c3:=(hb.cell (lt_of_cell h.c3)).trans h.c3
 c4:=(hb.cell (lt_of_cell h.c4)).trans h.c4
 c5:=(hb.cell (lt_of_cell h.c5)).trans h.c5
 c6:=(hb.cell (lt_of_cell h.c6)).trans h.c6
 c7:=(hb.cell (lt_of_cell h.c7)).trans h.c7
 c8:=(hb.cell (lt_of_cell h.c8)).trans h.c8
 c9:=(hb.cell (lt_of_cell h.c9)).trans h.c9
 c10:=(hb.cell (lt_of_cell h.c10)).trans h.c10
 c11:=(hb.cell (lt_of_cell h.c11)).trans h.c11
 typ:=(hb.cell (lt_of_cell h.typ)).trans h.typ
 row:=fun i hi=>by
  obtain⟨c,t,hc⟩:=h.row i hi
  exact⟨c,t,(hb.block _ (lt_of_row hc)).trans hc⟩
 ne:=h.ne
theorem code_nil (w:World):Calls Tryz.prog 38 #[.nilIface] w fun e w'=>e=.returned (.tuple #[.int .i64 0,.int .i64 (-1)])/\w'=w:=by
 go_enter Tryz.func38,Tryz.ntmps38
 go_wp2
 go_ret2
 exact⟨rfl,rfl⟩
def sentRow (ad:Nat->Addr):Array Value:=#[.iface 252 (.pointer (some (ad 0))),.iface 252 (.pointer (some (ad 1))),.iface 252 (.pointer (some (ad 2))),.iface 252 (.pointer (some (ad 3))),.iface 252 (.pointer (some (ad 4))),.iface 252 (.pointer (some (ad 5))),.iface 252 (.pointer (some (ad 6))),.iface 252 (.pointer (some (ad 7))),.iface 252 (.pointer (some (ad 8))),.iface 252 (.pointer (some (ad 9))),.iface 252 (.pointer (some (ad 10))),.iface 252 (.pointer (some (ad 11)))]
theorem sentRow_cell (ad:Nat->Addr)(w:World):∀ k,k < 12->(w.alloc (.cells (sentRow ad) 33)).cell? ⟨w.heap.size,k,none⟩=some (.iface 252 (.pointer (some (ad k)))):=by
 intro k hk
 have e:(sentRow ad)[k]?=some (.iface 252 (.pointer (some (ad k)))):=by
  match k,hk with
  | 0,_ | 1,_ | 2,_ | 3,_ | 4,_ | 5,_ | 6,_ | 7,_ | 8,_ | 9,_ | 10,_ | 11,_=>rfl
 rw [World.cell?_alloc_at _ _ _ _ (by simp)]
 exact e
theorem code_sent (ad:Nat->Addr)(i:Nat)(hi:i < 12)(w:World)(hS:Sent w ad) :
 Calls Tryz.prog 38 #[.iface 252 (.pointer (some (ad i)))] w fun e w'=>e=.returned (.tuple #[.int .i64 ((i+1:Nat):Int),.int .i64 (-1)])/\Below w.heap.size w w':=by
 have hb1:Below w.heap.size w (w.alloc (.cells #[.pointer none] 112)):=(Below.refl _ _).alloc (Nat.le_refl _) _
 have hS1:=hS.below hb1
 go_enter Tryz.func38,Tryz.ntmps38
 go_wp2_with fail
 refine(as_miss _ _ _ hS1.typ).mono ?_
 rintro e w2 ⟨rfl,hb2⟩
 have hS2:=hS1.below hb2
 have hS2':=hS2
 obtain⟨c0,c1,c2,c3,c4,c5,c6,c7,c8,c9,c10,c11,_,_,_⟩:=hS2'
 go_wp2
 clear c0 c1 c2 c3 c4 c5 c6 c7 c8 c9 c10 c11 hb1 hS1 hS
 have hb3:Below w2.heap.size w2 (w2.alloc (.cells (sentRow ad) 33)):=(Below.refl _ _).alloc (Nat.le_refl _) _
 have hS3:=hS2.below hb3
 have hrow:=sentRow_cell ad w2
 have hb4:Hid (Below w.heap.size w (w2.alloc (.cells (sentRow ad) 33))):=(((Below.refl _ _).alloc (Nat.le_refl _) _).trans (hb2.mono (by simp))).trans (hb3.mono (by have:=hb2.size;simp at this;omega))
 have e3:(w2.alloc (.cells (sentRow ad) 33)).heap.size=w2.heap.size+1:=by simp
 unfold sentRow at hS3 hrow hb4
 generalize w2.alloc (.cells _ 33)=w3 at hS3 hrow hb4 ⊢
 clear hb2 hb3 hS2 e3
 go_loop [3,30] (fun y x=>y=.int .i64 (-1)/\∃ k:Nat,k<=i/\x=.int .i64 k) (fun _ x=>12 - (intOf x).toNat)
 case atStart=>exact⟨rfl,0,by omega,rfl⟩
 case round =>
  obtain⟨rfl,k,hk,rfl⟩:=hrel
  have hk12:k < 12:=by omega
  have hc:=hrow k hk12
  obtain⟨ca,ta,hra⟩:=hS3.row i hi
  obtain⟨cb,tb,hrb⟩:=hS3.row k hk12
  clear hrow
  by_cases hki:k=i
  ·subst hki
   go_wp2_with (go_at_call 60;refine(is_same (ad k) _).mono ?_;rintro e w' ⟨rfl,rfl⟩)
   go_ret2
   exact⟨by simp,hb4.out⟩
  ·have hne:=hS3.ne i k hi hk12 (fun h=>hki h.symm)
   have HN:Hid (ad i≠ad k):=hne
   have HA:Hid (w3.heap[(ad i).block]?=some (.cells ca ta (0,0))):=hra
   have HB:Hid (w3.heap[(ad k).block]?=some (.cells cb tb (0,0))):=hrb
   clear hne hra hrb
   go_wp2_with (go_at_call 60;refine(is_other (ad i) (ad k) ca cb ta tb _ HN.out HA.out HB.out).mono ?_;rintro e w' ⟨rfl,rfl⟩)
   go_round
   case rel=>exact⟨rfl,k+1,by omega,by go_num⟩
   case measure=>simp [intOf];omega
end Go.Proofs.YtmhoiodfppdlnaaGreatDoor
namespace Go.Proofs.YtmhoiodfppdlnaaGreatDoor
open Go.ChangeShapes Go.WideShapes Go.RowKit
def L12:List (String×List UInt8):=(Rows.askHearsRow.laid.drop (3+1)).map fun x=>(x.1,match x.2 with | .iface _ (.ptr (.agg [.lit (.string t)]))=>t | _=>[])
theorem laid_split (W:World):laidMetH Tryz.prog Rows.askHearsRow.laid W=(laidMet Tryz.prog (Rows.askHearsRow.laid.take 3 ++ L12.map fun x=>(x.1,errD x.2)) W/\handlesMet Tryz.prog ((Rows.askHearsRow.laid.drop 3).take 1) W):=by kernel_rfl
theorem L12_named:(L12.all fun x=>match Tryz.prog.globalNamed x.1 with | some g=>(Tryz.prog.globals[g]?).map (·.type)==some 33 | none=>false)=true:=by kernel_rfl
theorem g12:L12.map (fun x=>Tryz.prog.globalNamed x.1)=[some 1,some 0,some 2,some 3,some 4,some 5,some 6,some 7,some 8,some 9,some 10,some 11]:=by kernel_rfl
theorem etNamed:Tryz.prog.globalNamed "errors.errorType"=some 12:=by kernel_rfl
theorem errOneRow:((List.range 283).filter fun t=>Tryz.prog.rowNamed t [101,114,114,111,114])=[33]:=by kernel_rfl
theorem typesSize:Tryz.prog.types.size=283:=by kernel_rfl
theorem sent_of_laid {W:World}(h:laidMetH Tryz.prog Rows.askHearsRow.laid W):∃ ad,Sent W ad:=by
 rw [laid_split] at h
 obtain⟨⟨ps0,hl0,hnd0,hr0⟩,hH⟩:=h
 obtain⟨pp,ps,rfl,hl⟩:=laid_peel _ _ _ hl0
 have hnd:ps.Nodup:=List.Nodup.sublist (List.sublist_append_right _ _) hnd0
 have hr:=fun b off (hm:MemPlace.cell b off ∈ ps)=>hr0 b off (List.mem_append_right _ hm)
 clear hl0 hnd0 hr0
 have hn:∀ x ∈ L12,∃ g,Tryz.prog.globalNamed x.1=some g/\(Tryz.prog.globals[g]?).map (·.type)=some 33:=by
  intro x hx
  have:=List.all_eq_true.1 L12_named x hx
  split at this
  ·rename_i g hg
   exact⟨g,hg,by simpa using this⟩
  ·cases this
 have c57:Tryz.prog.cellsOf 271=1:=by kernel_rfl
 have c9:Tryz.prog.cellsOf 9=1:=by kernel_rfl
 obtain⟨ad,h1,h2⟩:=sents Tryz.underlying33 row_es Tryz.underlying252 Tryz.underlying271 rfl rfl Tryz.underlying9 c57 c9 L12 ps hl hn hr
 have cell:∀ i g x,L12[i]?=some x->Tryz.prog.globalNamed x.1=some g->W.cell? ⟨g,0,none⟩=some (.iface 252 (.pointer (some (ad i)))):=by
  intro i g x hx hg
  simpa using World.var?_cell hg (h1 i x hx).2 0
 have cellg:∀ i g,(L12.map (fun x=>Tryz.prog.globalNamed x.1))[i]?=some (some g)->W.cell? ⟨g,0,none⟩=some (.iface 252 (.pointer (some (ad i)))):=by
  intro i g hx
  rw [List.getElem?_map] at hx
  obtain⟨x,hx1,hx2⟩:=Option.map_eq_some_iff.1 hx
  exact cell i g x hx1 hx2
 rw [g12] at cellg
 have len:L12.length=12:=rfl
 refine⟨ad,cellg 0 _ rfl,cellg 1 _ rfl,cellg 2 _ rfl,cellg 3 _ rfl,cellg 4 _ rfl,cellg 5 _ rfl,cellg 6 _ rfl,cellg 7 _ rfl,cellg 8 _ rfl,cellg 9 _ rfl,cellg 10 _ rfl,cellg 11 _ rfl,?_,?_,fun i j hi hj=>h2 hnd i j (by rw [len];exact hi) (by rw [len];exact hj)⟩
 ·obtain⟨name,u,ty,e1,e2,e3,e4,e5⟩:=hH _ (List.mem_singleton.2 rfl)
  have en:name=[101,114,114,111,114]:=(Option.some.inj e1).symm
  subst en
  obtain rfl:191=u:=Option.some.inj ((show _=some 191 by kernel_rfl).symm.trans e2)
  have hm:ty ∈ (List.range 283).filter fun t=>Tryz.prog.rowNamed t [101,114,114,111,114]:=List.mem_filter.2 ⟨List.mem_range.2 (by rw [<- typesSize];exact e3),e4⟩
  rw [errOneRow] at hm
  obtain rfl:=List.mem_singleton.1 hm
  have hh:typeHandle Tryz.prog 33=.pointer (some ⟨17,33,none⟩):=by kernel_rfl
  rw [hh] at e5
  simpa using World.var?_cell etNamed e5 0
 ·intro i hi
  obtain⟨x,hx⟩:∃ x,L12[i]?=some x:=⟨L12[i]'(by rw [len];exact hi),List.getElem?_eq_getElem (by rw [len];exact hi)⟩
  exact(hr _ _ (h1 i x hx).1).1
theorem own:ownKnob Tryz.prog.godebug=none:=by kernel_rfl
end Go.Proofs.YtmhoiodfppdlnaaGreatDoor
namespace Go.Proofs.YtmhoiodfppdlnaaGreatDoor
open Go.RowKit Go.Extern.Stop Go.Stop Go.Extern
theorem noIsF (v:Value)(xT:TypeId)(w:World):(Instr.typeAssert (.iface 112 v) xT 202 true).run Tryz.prog w=.ok (.tuple #[.nilIface,.bool false]) w:=run_typeAssert_lacksB Tryz.underlying202 (by kernel_rfl) (by kernel_rfl) v xT w
theorem hasUnwrapF (v:Value)(xT:TypeId)(w:World):(Instr.typeAssert (.iface 112 v) xT 198 true).run Tryz.prog w=.ok (.tuple #[.iface 112 v,.bool true]) w:=run_typeAssert_hasB Tryz.underlying198 (by kernel_rfl) v xT w
theorem methodUnwrapF (v:Value) (w:World):(Go.method 383 112 v "Unwrap").run Tryz.prog w=.ok (202,v) w:=by kernel_rfl
theorem is_wrap_same (pb:Nat)(b:Addr)(w:World)(h1:w.cell? ⟨pb,1,none⟩=some (.iface 252 (.pointer (some b)))) :
 Calls Tryz.prog 60 #[.iface 112 (.pointer (some ⟨pb,0,none⟩)),.iface 252 (.pointer (some b))] w fun e w'=>e=.returned (.bool true)/\w'=w:=by
 obtain⟨i,hi,hcmp⟩:=Option.map_eq_some_iff.1 isComp
 obtain⟨j,hj,hjs⟩:=Option.map_eq_some_iff.1 isSize
 have h8:=@run_callFunc_extern Tryz.prog 87 _ Extern.ReflectliteType.typeOf Tryz.func87 (by kernel_rfl) (by kernel_rfl) (by kernel_rfl) (by kernel_rfl)
 have h32:=@run_callFunc_extern Tryz.prog 208 _ cmpEntry Tryz.func208 (by kernel_rfl) (by kernel_rfl) (by kernel_rfl) (by kernel_rfl)
 have tT:=isTypeOf
 have cT:=isComparable
 have mR:=isMethodComparable
 have nW:=noIsF
 have uW:=hasUnwrapF
 have mU:=methodUnwrapF
 have heq:=run_eql_iface_ptr_same (P:=Tryz.prog) w b Tryz.underlying33 Tryz.underlying252 hi hcmp hj
 have hty:=run_eql_iface_types (P:=Tryz.prog) 112 252 (.pointer (some ⟨pb,0,none⟩)) (.pointer (some b)) Tryz.underlying33 (by decide) w
 go_enter Tryz.func60,Tryz.ntmps60
 go_wp2
 refine wp_loop_rounds 2 ?_
 rw [rounds_succ]
 go_wp2
 rw [rounds_succ]
 go_wp2
 go_ret
 exact⟨rfl,rfl⟩
theorem is_wrap_other (pb:Nat)(a b:Addr)(ca cb:Array Value)(ta tb:TypeId)(w:World)(h1:w.cell? ⟨pb,1,none⟩=some (.iface 252 (.pointer (some a))))(hne:a≠b)(ha:w.heap[a.block]?=some (.cells ca ta (0,0)))(hb:w.heap[b.block]?=some (.cells cb tb (0,0))) :
 Calls Tryz.prog 60 #[.iface 112 (.pointer (some ⟨pb,0,none⟩)),.iface 252 (.pointer (some b))] w fun e w'=>e=.returned (.bool false)/\w'=w:=by
 obtain⟨i,hi,hcmp⟩:=Option.map_eq_some_iff.1 isComp
 obtain⟨j,hj,hjs⟩:=Option.map_eq_some_iff.1 isSize
 have h8:=@run_callFunc_extern Tryz.prog 87 _ Extern.ReflectliteType.typeOf Tryz.func87 (by kernel_rfl) (by kernel_rfl) (by kernel_rfl) (by kernel_rfl)
 have h32:=@run_callFunc_extern Tryz.prog 208 _ cmpEntry Tryz.func208 (by kernel_rfl) (by kernel_rfl) (by kernel_rfl) (by kernel_rfl)
 have tT:=isTypeOf
 have cT:=isComparable
 have mR:=isMethodComparable
 have nE:=noIsE
 have uE:=noUnwrapE
 have vE:=noUnwrapsE
 have nW:=noIsF
 have uW:=hasUnwrapF
 have mU:=methodUnwrapF
 have heq:=run_eql_iface_ptr_other (P:=Tryz.prog) w Tryz.underlying33 Tryz.underlying252 hi hcmp hj (by rw [hjs];decide) hne ha hb
 have hty:=run_eql_iface_types (P:=Tryz.prog) 112 252 (.pointer (some ⟨pb,0,none⟩)) (.pointer (some b)) Tryz.underlying33 (by decide) w
 go_enter Tryz.func60,Tryz.ntmps60
 go_wp2
 refine wp_loop_rounds 2 ?_
 rw [rounds_succ]
 go_wp2
 rw [rounds_succ]
 go_wp2
 go_ret
 exact⟨rfl,rfl⟩
theorem typeOfF (v:Value)(w:World):(ReflectliteType.typeOf #[.iface 112 v]).run Tryz.prog w=.ok (.iface 191 (.agg #[.pointer (some ⟨17,112,none⟩)])) w:=by kernel_rfl
theorem assignableF (w:World):(ReflectliteType.relation "AssignableTo" ReflectliteType.assignableTo #[.agg #[.pointer (some ⟨17,112,none⟩)],.iface 191 (.agg #[.pointer (some ⟨17,112,none⟩)])]).run Tryz.prog w=.ok (.bool true) w:=by kernel_rfl
theorem valueOfF (e:Addr)(w:World):(ReflectliteValue.unpack (.iface 112 (.pointer (some e)))).run Tryz.prog w
 = .ok (.agg #[.pointer (some ⟨17,112,none⟩),.pointer (some ⟨w.heap.size,0,none⟩),.int .u64 150]) (w.alloc (.cells #[.pointer (some e)] 112)):=by kernel_rfl
theorem elemOfFF (w:World):(Rtype.elem? 114).run Tryz.prog w=.ok (some 112) w:=by kernel_rfl
theorem mkF (p:Addr)(w:World):(ReflectliteValue.mk 112 p ReflectliteValue.flagAddr).run Tryz.prog w=.ok (.agg #[.pointer (some ⟨17,112,none⟩),.pointer (some p),.int .u64 406]) w:=by kernel_rfl
theorem elemVFF (a p:Addr)(W:World)(ha:W.cell? a=some (.pointer (some p))) :
 (ReflectliteValue.method (ReflectliteValue.valueError "reflectlite.Value.Elem" 0) ReflectliteValue.elem #[.agg #[.pointer (some ⟨17,114,none⟩),.pointer (some a),.int .u64 150]]).run Tryz.prog W
  = .ok (.agg #[.pointer (some ⟨17,112,none⟩),.pointer (some p),.int .u64 406]) W:=by
 rw [rlm]
 simp only [Sem.run_bind,partsFF,Result.andThen]
 simp [ReflectliteValue.elem,loadVar,isAgg,underlying,Tryz.underlying114,ha,Result.andThen,elemOfFF,mkF]
theorem partsFa (a:Addr)(w:World):(ReflectliteValue.parts (.agg #[.pointer (some ⟨17,112,none⟩),.pointer (some a),.int .u64 406])).run Tryz.prog w=.ok (some (112,a,406)) w:=by kernel_rfl
theorem partsF (a:Addr)(w:World):(ReflectliteValue.parts (.agg #[.pointer (some ⟨17,112,none⟩),.pointer (some a),.int .u64 150])).run Tryz.prog w=.ok (some (112,a,150)) w:=by kernel_rfl
theorem directF (w:World):(Rtype.directlyAssignable 112 112).run Tryz.prog w=.ok true w:=by kernel_rfl
theorem setF (ta b e:Addr)(old:Value)(W:World)(hb:W.cell? b=some (.pointer (some e)))(ht:W.cell? ta=some old)(hf:W.frozen? ta=false) :
 (ReflectliteValue.set #[.agg #[.pointer (some ⟨17,112,none⟩),.pointer (some ta),.int .u64 406],.agg #[.pointer (some ⟨17,112,none⟩),.pointer (some b),.int .u64 150]]).run Tryz.prog W
  = .ok (.tuple #[]) (W.setCell ta (.pointer (some e))):=by
 delta ReflectliteValue.set ReflectliteValue.set.match_3
 dsimp only [Array.casesOn,Array.rec]
 rw [dif_pos (show(#[_,_]:Array Value).size=2 from rfl)]
 simp only [Array.getLit,List.getElem_toArray,List.getElem_cons_zero,List.getElem_cons_succ,Sem.run_bind,partsFa,partsF,Result.andThen]
 simp [ReflectliteValue.flagAddr,loadVar,isAgg,underlying,Tryz.underlying112,hb,Result.andThen,directF,storeVar,Value.cells,storeCells,Addr.add]
 rw [run_store Tryz.prog W ta _ _ (by rfl)]
 simp [ht,hf]
theorem as_hit (e t:Addr)(old:Value)(w:World)(hg:w.cell? ⟨12,0,none⟩=some (.iface 191 (.agg #[.pointer (some ⟨17,33,none⟩)])))(ht0:w.cell? t=some old)(hf0:w.frozen? t=false) :
 Calls Tryz.prog 59 #[.iface 112 (.pointer (some e)),.iface 114 (.pointer (some t))] w fun ev w'=>ev=.returned (.bool true)/\∃ w1,Below w.heap.size w w1/\w'=w1.setCell t (.pointer (some e)):=by
 have h6:=@run_callFunc_extern Tryz.prog 83 _ (fun args=>ReflectliteValue.unpack (args.getD 0 (.tuple #[]))) Tryz.func83 (by kernel_rfl) (by kernel_rfl) (by kernel_rfl) (by kernel_rfl)
 have h7:=@run_callFunc_extern Tryz.prog 84 _ (ReflectliteValue.methodAny (ReflectliteValue.valueError "reflectlite.Value.Type" 0) (fun t _ _ _=>ReflectliteType.toType t)) Tryz.func84 (by kernel_rfl) (by kernel_rfl) (by kernel_rfl) (by kernel_rfl)
 have h8:=@run_callFunc_extern Tryz.prog 85 _ (ReflectliteValue.method (ReflectliteValue.valueError "reflectlite.Value.IsNil" 0) ReflectliteValue.isNil) Tryz.func85 (by kernel_rfl) (by kernel_rfl) (by kernel_rfl) (by kernel_rfl)
 have h27:=@run_callFunc_extern Tryz.prog 198 _ (ReflectliteType.abiMethod fun t=>do pure (.int .u8 (<- Rtype.kind t))) Tryz.func198 (by kernel_rfl) (by kernel_rfl) (by kernel_rfl) (by kernel_rfl)
 have h37:=@run_callFunc_extern Tryz.prog 209 _ (ReflectliteType.method ReflectliteType.elem) Tryz.func209 (by kernel_rfl) (by kernel_rfl) (by kernel_rfl) (by kernel_rfl)
 have h38:=@run_callFunc_extern Tryz.prog 210 _ (ReflectliteType.relation "Implements" ReflectliteType.implements_) Tryz.func210 (by kernel_rfl) (by kernel_rfl) (by kernel_rfl) (by kernel_rfl)
 have h10:=@run_callFunc_extern Tryz.prog 87 _ ReflectliteType.typeOf Tryz.func87 (by kernel_rfl) (by kernel_rfl) (by kernel_rfl) (by kernel_rfl)
 have h35:=@run_callFunc_extern Tryz.prog 207 _ (ReflectliteType.relation "AssignableTo" ReflectliteType.assignableTo) Tryz.func207 (by kernel_rfl) (by kernel_rfl) (by kernel_rfl) (by kernel_rfl)
 have h11:=@run_callFunc_extern Tryz.prog 119 _ (ReflectliteValue.method (ReflectliteValue.valueError "reflectlite.Value.Elem" 0) ReflectliteValue.elem) Tryz.func119 (by kernel_rfl) (by kernel_rfl) (by kernel_rfl) (by kernel_rfl)
 have h12:=@run_callFunc_extern Tryz.prog 120 _ ReflectliteValue.set Tryz.func120 (by kernel_rfl) (by kernel_rfl) (by kernel_rfl) (by kernel_rfl)
 have tO:=typeOfF
 have mA:=methodAssignableTo
 have aF:=assignableF
 have vF:=valueOfF
 have f6:=valueOfFF
 have f7:=typeFF
 have mK:=methodKind
 have mE:=methodElem
 have mI:=methodImplements
 have kFF:=kindFF
 have kF:=kindF
 have eFF:=elemFF
 have iF:=implementsF
 have n8:=isNilFF ⟨w.heap.size,0,none⟩ t ((w.alloc (.cells #[.pointer (some t)] 114)).alloc (.cells #[.pointer (some ⟨17,114,none⟩),.pointer (some ⟨w.heap.size,0,none⟩),.int .u64 150] 149)) (by simp)
 have hlt:=lt_of_cell hg
 have hg2:((w.alloc (.cells #[.pointer (some t)] 114)).alloc (.cells #[.pointer (some ⟨17,114,none⟩),.pointer (some ⟨w.heap.size,0,none⟩),.int .u64 150] 149)).cell? ⟨12,0,none⟩=some (.iface 191 (.agg #[.pointer (some ⟨17,33,none⟩)])):=by
  rw [World.cell?_alloc_lt _ _ ⟨12,0,none⟩ (by simp;omega),World.cell?_alloc_lt _ _ ⟨12,0,none⟩ hlt];exact hg
 have htl:t.block < w.heap.size:=by
  rcases Nat.lt_or_ge t.block w.heap.size with h | h
  ·exact h
  ·simp [World.cell?,Array.getElem?_eq_none h] at ht0
 have el:=elemVFF ⟨w.heap.size,0,none⟩ t (((w.alloc (.cells #[.pointer (some t)] 114)).alloc (.cells #[.pointer (some ⟨17,114,none⟩),.pointer (some ⟨w.heap.size,0,none⟩),.int .u64 150] 149)).alloc (.cells #[.pointer (some ⟨17,114,none⟩),.pointer (some ⟨w.heap.size,0,none⟩),.int .u64 150] 149)) (by rw [World.cell?_alloc_lt _ _ ⟨w.heap.size,0,none⟩ (by simp;omega)];simp)
 have st:=setF t ⟨w.heap.size+1+1+1,0,none⟩ e old ((((w.alloc (.cells #[.pointer (some t)] 114)).alloc (.cells #[.pointer (some ⟨17,114,none⟩),.pointer (some ⟨w.heap.size,0,none⟩),.int .u64 150] 149)).alloc (.cells #[.pointer (some ⟨17,114,none⟩),.pointer (some ⟨w.heap.size,0,none⟩),.int .u64 150] 149)).alloc (.cells #[.pointer (some e)] 112))
  (by rw [World.cell?_alloc_at _ _ _ _ (by simp)];rfl)
  (by rw [World.cell?_alloc_lt _ _ t (by simp;omega),World.cell?_alloc_lt _ _ t (by simp;omega),World.cell?_alloc_lt _ _ t (by simp;omega),World.cell?_alloc_lt _ _ t htl];exact ht0)
  (by rw [World.frozen?_alloc_old _ _ t (by simp;omega),World.frozen?_alloc_old _ _ t (by simp;omega),World.frozen?_alloc_old _ _ t (by simp;omega),World.frozen?_alloc_old _ _ t (Nat.ne_of_lt htl)];exact hf0)
 go_enter Tryz.func59,Tryz.ntmps59
 go_wp2
 refine wp_loop_rounds 1 ?_
 rw [rounds_succ]
 go_wp2
 go_ret
 exact⟨rfl,_,((((Below.refl _ _).alloc (Nat.le_refl _) _).alloc (by simp) _).alloc (by simp;omega) _).alloc (by simp;omega) _,rfl⟩
end Go.Proofs.YtmhoiodfppdlnaaGreatDoor
