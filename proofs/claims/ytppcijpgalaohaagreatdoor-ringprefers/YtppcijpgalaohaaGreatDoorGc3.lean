/- Texts laid together. -/
import Derived.Test.YtppcijpgalaohaaGreatDoorGc2
import Derived.Shelf.LaysM
import Derived.Shelf.Strconv.Clone
import Derived.Shelf.Strconv.Itoa3
import Derived.Shelf.GgClosure.StringsIndexFuncTop
import Derived.Shelf.SlSortCmp.WholeK
import Derived.Shelf.SlicesQ.IndexFunc
set_option maxRecDepth 10000
set_option maxHeartbeats 8000000
open Option renaming some->aa,none->ab
open Go.RowKit renaming Below->ac
open Nat renaming lt_or_ge->ae,mod_eq_of_lt->af,le_refl->ao,not_lt_zero->ap,zero_le->ax,lt_irrefl->aA,add_assoc->aB,xor_lt_two_pow->aM,mod_lt->aN,mod_eq_sub_mod->aO,lt_of_lt_of_le->aP,lt_trichotomy->aS,add_mul->zg,zero_mul->bf,one_mul->bo
open Go renaming Calls->ag,maxLen->aq,Value->ar,wpList_append_own->az,Addr->zc,bytes->aY,wpList->bi,TypeId->bj,callFunc->br
open Go.World renaming cell?_alloc_at->ah,ownsRow_nil->ze
open List renaming length_append->ai,getD_eq_getElem?_getD->av,getElem?_eq_some_iff->aw,flatMap_cons->ay,getElem?_eq_getElem->aC,drop_eq_nil_of_le->aG,getElem?_drop->zd,drop_nil->bc,length->bq
open Go.RowKit.Below renaming refl->aj
open Or renaming inl->ak,inr->al
open Go.Addr renaming add_lit->an
open Go.Op renaming bytesLess->au
namespace Go.Proofs
open Go.Shelf
def Tryz.lays316_ren : Go.Shelf.Ren := ⟨fun | 316 => 39 | n => n, fun | 9 => 9 | 3 => 3 | 4 => 4 | 37 => 102 | 0 => 0 | 127 => 103 | 5 => 5 | n => n, fun | n => n⟩
theorem Tryz.lays316 : Go.Proofs.LaysM.n316 Tryz.prog Tryz.lays316_ren := {
  mixed := by kernel_rfl
  f316 := Tryz.func39.trans (congrArg aa (by kernel_rfl))
  t0 := Tryz.underlying0
  a0 := Tryz.isAgg0
  z0 := Tryz.sizeOf0
  v0 := Tryz.zeroValue0
  t3 := Tryz.underlying3
  a3 := Tryz.isAgg3
  z3 := Tryz.sizeOf3
  v3 := Tryz.zeroValue3
  t4 := Tryz.underlying4
  a4 := Tryz.isAgg4
  z4 := Tryz.sizeOf4
  v4 := Tryz.zeroValue4
  t9 := Tryz.underlying9
  a9 := Tryz.isAgg9
  z9 := Tryz.sizeOf9
  v9 := Tryz.zeroValue9
  t37 := Tryz.underlying102
  a37 := Tryz.isAgg102
  z37 := Tryz.sizeOf102
  v37 := Tryz.zeroValue102
  t127 := Tryz.underlying103
  a127 := Tryz.isAgg103
  z127 := Tryz.sizeOf103
  v127 := Tryz.zeroValue103
  t5 := Tryz.underlying5
  a5 := Tryz.isAgg5
  z5 := Tryz.sizeOf5
  v5 := Tryz.zeroValue5
  i0 := by kernel_rfl
  i3 := by kernel_rfl
  i4 := by kernel_rfl
  i5 := by kernel_rfl
  i9 := by kernel_rfl
  i37 := by kernel_rfl
  i127 := by kernel_rfl }
open Go.RowKit in
/-- internal/stringslite.Clone. -/
theorem Tryz.stringslite_Clone (s : ByteArray) (w : World) (hlim : s.size ≤ 281474976710656) :
    ag Tryz.prog 39 #[.string s] w fun e w' => e = .returned (.string s) ∧ ac w.heap.size w w' := Any.stringslite_Clone Tryz.lays316 s w hlim
def Tryz.lays171_ren : Go.Shelf.Ren := ⟨fun | 171 => 47 | 243 => 61 | 246 => 68 | 283 => 79 | 284 => 80 | 285 => 81 | 286 => 82 | 129 => 78 | 317 => 88 | 318 => 89 | 319 => 90 | 320 => 91 | 337 => 93 | 338 => 94 | n => n, fun | 3 => 3 | 9 => 9 | 2 => 2 | 4 => 4 | 171 => 140 | 0 => 0 | 53 => 139 | 37 => 102 | 5 => 5 | 173 => 142 | 212 => 152 | 51 => 74 | 20 => 20 | 213 => 153 | 46 => 122 | 232 => 156 | 233 => 157 | n => n, fun | 17 => 13 | 18 => 14 | 19 => 15 | n => n⟩
theorem Tryz.lays171 : Go.Proofs.Lays.n171 Tryz.prog Tryz.lays171_ren := {
  mixed := by kernel_rfl
  f129 := Tryz.func78.trans (congrArg aa (by kernel_rfl))
  f171 := Tryz.func47.trans (congrArg aa (by kernel_rfl))
  f243 := Tryz.func61.trans (congrArg aa (by kernel_rfl))
  f246 := Tryz.func68.trans (congrArg aa (by kernel_rfl))
  f283 := Tryz.func79.trans (congrArg aa (by kernel_rfl))
  f284 := Tryz.func80.trans (congrArg aa (by kernel_rfl))
  f285 := Tryz.func81.trans (congrArg aa (by kernel_rfl))
  f286 := Tryz.func82.trans (congrArg aa (by kernel_rfl))
  f317 := Tryz.func88.trans (congrArg aa (by kernel_rfl))
  f318 := Tryz.func89.trans (congrArg aa (by kernel_rfl))
  f319 := Tryz.func90.trans (congrArg aa (by kernel_rfl))
  f320 := Tryz.func91.trans (congrArg aa (by kernel_rfl))
  f337 := Tryz.func93.trans (congrArg aa (by kernel_rfl))
  f338 := Tryz.func94.trans (congrArg aa (by kernel_rfl))
  t0 := Tryz.underlying0
  a0 := Tryz.isAgg0
  z0 := Tryz.sizeOf0
  v0 := Tryz.zeroValue0
  t2 := Tryz.underlying2
  a2 := Tryz.isAgg2
  z2 := Tryz.sizeOf2
  v2 := Tryz.zeroValue2
  t3 := Tryz.underlying3
  a3 := Tryz.isAgg3
  z3 := Tryz.sizeOf3
  v3 := Tryz.zeroValue3
  t4 := Tryz.underlying4
  a4 := Tryz.isAgg4
  z4 := Tryz.sizeOf4
  v4 := Tryz.zeroValue4
  t5 := Tryz.underlying5
  a5 := Tryz.isAgg5
  z5 := Tryz.sizeOf5
  v5 := Tryz.zeroValue5
  t9 := Tryz.underlying9
  a9 := Tryz.isAgg9
  z9 := Tryz.sizeOf9
  v9 := Tryz.zeroValue9
  t20 := Tryz.underlying20
  a20 := Tryz.isAgg20
  z20 := Tryz.sizeOf20
  v20 := Tryz.zeroValue20
  t37 := Tryz.underlying102
  a37 := Tryz.isAgg102
  z37 := Tryz.sizeOf102
  v37 := Tryz.zeroValue102
  t46 := Tryz.underlying122
  a46 := Tryz.isAgg122
  z46 := Tryz.sizeOf122
  v46 := Tryz.zeroValue122
  t51 := Tryz.underlying74
  a51 := Tryz.isAgg74
  z51 := Tryz.sizeOf74
  v51 := Tryz.zeroValue74
  t53 := Tryz.underlying139
  a53 := Tryz.isAgg139
  z53 := Tryz.sizeOf139
  v53 := Tryz.zeroValue139
  t171 := Tryz.underlying140
  a171 := Tryz.isAgg140
  z171 := Tryz.sizeOf140
  v171 := Tryz.zeroValue140
  t173 := Tryz.underlying142
  a173 := Tryz.isAgg142
  z173 := Tryz.sizeOf142
  v173 := Tryz.zeroValue142
  t212 := Tryz.underlying152
  a212 := Tryz.isAgg152
  z212 := Tryz.sizeOf152
  v212 := Tryz.zeroValue152
  t213 := Tryz.underlying153
  a213 := Tryz.isAgg153
  z213 := Tryz.sizeOf153
  t232 := Tryz.underlying156
  a232 := Tryz.isAgg156
  z232 := Tryz.sizeOf156
  v232 := Tryz.zeroValue156
  t233 := Tryz.underlying157
  a233 := Tryz.isAgg157
  z233 := Tryz.sizeOf157
  v233 := Tryz.zeroValue157
  g17 := by kernel_rfl
  g18 := by kernel_rfl
  g19 := by kernel_rfl }
open Go.RowKit in
/-- strconv.Itoa of a small number. -/
theorem Tryz.strconv_Itoa_small (i : Nat) (hi : i < 100) (w : World) :
    ag Tryz.prog 47 #[.int .i64 i] w fun e w' => e = .returned (.string ⟨(Lib.decDigits i).toArray⟩) ∧ w' = w := Any.strconv_Itoa_small Tryz.lays171 i hi w
def Tryz.laysGw17_ren : Go.Shelf.Ren := ⟨fun | 17 => 31 | 15 => 46 | 20 => 60 | n => n, fun | 9 => 9 | 23 => 70 | 4 => 4 | 3 => 3 | 0 => 0 | 21 => 21 | n => n, fun | n => n⟩
theorem Tryz.laysGw17 : Go.Proofs.LaysGw.n17 Tryz.prog Tryz.laysGw17_ren := {
  mixed := by kernel_rfl
  f15 := Tryz.func46.trans (congrArg aa (by kernel_rfl))
  f17 := Tryz.func31.trans (congrArg aa (by kernel_rfl))
  f20 := Tryz.func60.trans (congrArg aa (by kernel_rfl))
  t0 := Tryz.underlying0
  a0 := Tryz.isAgg0
  z0 := Tryz.sizeOf0
  v0 := Tryz.zeroValue0
  i0 := by kernel_rfl
  t3 := Tryz.underlying3
  a3 := Tryz.isAgg3
  z3 := Tryz.sizeOf3
  v3 := Tryz.zeroValue3
  i3 := by kernel_rfl
  t4 := Tryz.underlying4
  a4 := Tryz.isAgg4
  z4 := Tryz.sizeOf4
  v4 := Tryz.zeroValue4
  i4 := by kernel_rfl
  t9 := Tryz.underlying9
  a9 := Tryz.isAgg9
  z9 := Tryz.sizeOf9
  v9 := Tryz.zeroValue9
  i9 := by kernel_rfl
  t21 := Tryz.underlying21
  a21 := Tryz.isAgg21
  z21 := Tryz.sizeOf21
  v21 := Tryz.zeroValue21
  i21 := by kernel_rfl
  t23 := Tryz.underlying70
  a23 := Tryz.isAgg70
  z23 := Tryz.sizeOf70
  v23 := Tryz.zeroValue70
  i23 := by kernel_rfl }
open Go.RowKit in
/-- strings.ContainsFunc. -/
theorem Tryz.strings_ContainsFunc (g : Nat) (lb : Array ar) (eg : ∀ args w, (br g args).run Tryz.prog w = .ok (.enter g args) w) (p : Nat → Bool) (s : ByteArray) (w : World) (hp : PredAt Tryz.prog g lb encR p w) :
    ag Tryz.prog 31 #[.string s, .func (.func g) #[] lb] w fun e w' => e = .returned (.bool (decide (0 ≤ Lib.idxFunc p true s))) ∧ ac w.heap.size w w' := Any.strings_ContainsFunc Tryz.laysGw17 g lb eg p s w hp
def Tryz.laysF6_ren : Go.Shelf.Ren := ⟨fun | 6 => 48 | 15 => 63 | 14 => 62 | 28 => 77 | 29 => 78 | 20 => 69 | 21 => 70 | 22 => 71 | 23 => 72 | 24 => 73 | 25 => 74 | 26 => 75 | 27 => 76 | 46 => 83 | 47 => 84 | 48 => 85 | 49 => 86 | 50 => 87 | 57 => 92 | n => n, fun | 22 => 71 | 24 => 92 | 25 => 98 | 3 => 3 | 39 => 122 | 0 => 0 | 53 => 74 | 55 => 139 | 4 => 4 | 46 => 131 | 45 => 130 | 50 => 135 | 5 => 5 | 9 => 9 | 66 => 144 | 70 => 148 | 76 => 154 | 77 => 46 | n => n, fun | n => n⟩
theorem Tryz.laysF6 : Go.Proofs.SlLaysF0.n6 Tryz.prog Tryz.laysF6_ren := {
  mixed := by kernel_rfl
  f6 := ⟨Tryz.f48.name, by decide, Tryz.func48.trans (congrArg aa (by kernel_rfl))⟩
  f14 := ⟨Tryz.f62.name, by decide, Tryz.func62.trans (congrArg aa (by kernel_rfl))⟩
  f15 := Tryz.func63.trans (congrArg aa (by kernel_rfl))
  f20 := ⟨Tryz.f69.name, by decide, Tryz.func69.trans (congrArg aa (by kernel_rfl))⟩
  f21 := ⟨Tryz.f70.name, by decide, Tryz.func70.trans (congrArg aa (by kernel_rfl))⟩
  f22 := ⟨Tryz.f71.name, by decide, Tryz.func71.trans (congrArg aa (by kernel_rfl))⟩
  f23 := ⟨Tryz.f72.name, by decide, Tryz.func72.trans (congrArg aa (by kernel_rfl))⟩
  f24 := ⟨Tryz.f73.name, by decide, Tryz.func73.trans (congrArg aa (by kernel_rfl))⟩
  f25 := ⟨Tryz.f74.name, by decide, Tryz.func74.trans (congrArg aa (by kernel_rfl))⟩
  f26 := ⟨Tryz.f75.name, by decide, Tryz.func75.trans (congrArg aa (by kernel_rfl))⟩
  f27 := ⟨Tryz.f76.name, by decide, Tryz.func76.trans (congrArg aa (by kernel_rfl))⟩
  f28 := Tryz.func77.trans (congrArg aa (by kernel_rfl))
  f29 := Tryz.func78.trans (congrArg aa (by kernel_rfl))
  f46 := ⟨Tryz.f83.name, by decide, Tryz.func83.trans (congrArg aa (by kernel_rfl))⟩
  f47 := Tryz.func84.trans (congrArg aa (by kernel_rfl))
  f48 := Tryz.func85.trans (congrArg aa (by kernel_rfl))
  f49 := ⟨Tryz.f86.name, by decide, Tryz.func86.trans (congrArg aa (by kernel_rfl))⟩
  f50 := ⟨Tryz.f87.name, by decide, Tryz.func87.trans (congrArg aa (by kernel_rfl))⟩
  f57 := ⟨Tryz.f92.name, by decide, Tryz.func92.trans (congrArg aa (by kernel_rfl))⟩
  t0 := Tryz.underlying0
  a0 := Tryz.isAgg0
  z0 := Tryz.sizeOf0
  v0 := Tryz.zeroValue0
  t3 := Tryz.underlying3
  a3 := Tryz.isAgg3
  z3 := Tryz.sizeOf3
  v3 := Tryz.zeroValue3
  t4 := Tryz.underlying4
  a4 := Tryz.isAgg4
  z4 := Tryz.sizeOf4
  v4 := Tryz.zeroValue4
  t5 := Tryz.underlying5
  a5 := Tryz.isAgg5
  z5 := Tryz.sizeOf5
  v5 := Tryz.zeroValue5
  t9 := Tryz.underlying9
  a9 := Tryz.isAgg9
  z9 := Tryz.sizeOf9
  v9 := Tryz.zeroValue9
  t22 := Tryz.underlying71
  a22 := Tryz.isAgg71
  z22 := Tryz.sizeOf71
  v22 := Tryz.zeroValue71
  t25 := Tryz.underlying98
  a25 := Tryz.isAgg98
  z25 := Tryz.sizeOf98
  v25 := Tryz.zeroValue98
  t39 := Tryz.underlying122
  a39 := Tryz.isAgg122
  z39 := Tryz.sizeOf122
  v39 := Tryz.zeroValue122
  t45 := Tryz.underlying130
  a45 := Tryz.isAgg130
  z45 := Tryz.sizeOf130
  v45 := Tryz.zeroValue130
  t46 := Tryz.underlying131
  a46 := Tryz.isAgg131
  z46 := Tryz.sizeOf131
  v46 := Tryz.zeroValue131
  t50 := Tryz.underlying135
  a50 := Tryz.isAgg135
  z50 := Tryz.sizeOf135
  v50 := Tryz.zeroValue135
  t53 := Tryz.underlying74
  a53 := Tryz.isAgg74
  z53 := Tryz.sizeOf74
  v53 := Tryz.zeroValue74
  t55 := Tryz.underlying139
  a55 := Tryz.isAgg139
  z55 := Tryz.sizeOf139
  v55 := Tryz.zeroValue139
  t66 := Tryz.underlying144
  a66 := Tryz.isAgg144
  z66 := Tryz.sizeOf144
  v66 := Tryz.zeroValue144
  t70 := Tryz.underlying148
  a70 := Tryz.isAgg148
  z70 := Tryz.sizeOf148
  v70 := Tryz.zeroValue148
  t76 := Tryz.underlying154
  a76 := Tryz.isAgg154
  z76 := Tryz.sizeOf154
  v76 := Tryz.zeroValue154
  t77 := Tryz.underlying46
  a77 := Tryz.isAgg46
  z77 := Tryz.sizeOf46
  v77 := Tryz.zeroValue46 }
open Go.RowKit Go.Sort in
/-- slices.SortFunc at points. -/
theorem Tryz.slices_SortFunc {α : Type} [Inhabited α] (k : Nat) (aE : ∀ w, (isAgg 92).run Tryz.prog w = .ok true w) (zE : ∀ w, (Go.sizeOf 92).run Tryz.prog w = .ok k w) (enc : α → List ar) (hk : ∀ x, (enc x).length = k) (h1 : ∀ x, ∀ v ∈ enc x, v.oneCell' = true) (cf : α → α → Int) (hO : SWO (ltOf cf)) (g : Nat) (cb : Array ar) (blk off cap : Nat) (d : Array α) (w : World)
    (eg : ∀ args w, (br g args).run Tryz.prog w = .ok (.enter g args) w) (hcmp : CmpLays Tryz.prog g cb enc k cf blk off d.size w) (hH : HoldsK enc k w blk off d) (hblk : blk < w.heap.size) (hsz : d.size < 4611686018427387904) :
    ag Tryz.prog 48 #[.slice (aa ⟨blk, off, ab⟩) d.size cap, .func (.func g) #[] cb] w fun e w' =>
      e = .returned (.tuple #[]) ∧ ∃ d' n os, PermIn 0 d.size d d' ∧ SortedIn (ltOf cf) 0 d.size d' ∧ w' = sortWorldK enc k w blk off n d' os := AnyQ.slices_SortFunc Tryz.laysF6 k aE zE enc hk h1 cf hO g cb blk off cap d w eg hcmp hH hblk hsz
def Tryz.laysH6_ren : Go.Shelf.Ren := ⟨fun | 6 => 54 | n => n, fun | 22 => 71 | 23 => 92 | 25 => 100 | 3 => 3 | 0 => 0 | 4 => 4 | n => n, fun | n => n⟩
theorem Tryz.laysH6 : Go.Proofs.SlLaysH0.n6 Tryz.prog Tryz.laysH6_ren := {
  mixed := by kernel_rfl
  f6 := ⟨Tryz.f54.name, by decide, Tryz.func54.trans (congrArg aa (by kernel_rfl))⟩
  t0 := Tryz.underlying0
  a0 := Tryz.isAgg0
  z0 := Tryz.sizeOf0
  v0 := Tryz.zeroValue0
  t3 := Tryz.underlying3
  a3 := Tryz.isAgg3
  z3 := Tryz.sizeOf3
  v3 := Tryz.zeroValue3
  t4 := Tryz.underlying4
  a4 := Tryz.isAgg4
  z4 := Tryz.sizeOf4
  v4 := Tryz.zeroValue4
  t22 := Tryz.underlying71
  a22 := Tryz.isAgg71
  z22 := Tryz.sizeOf71
  v22 := Tryz.zeroValue71
  t25 := Tryz.underlying100
  a25 := Tryz.isAgg100
  z25 := Tryz.sizeOf100
  v25 := Tryz.zeroValue100 }
open Go.RowKit in
/-- slices.IndexFunc at points. -/
theorem Tryz.slices_IndexFunc {α : Type} [Inhabited α] (k : Nat) (aE : ∀ w, (isAgg 92).run Tryz.prog w = .ok true w) (zE : ∀ w, (Go.sizeOf 92).run Tryz.prog w = .ok k w) (enc : α → List ar) (hk : ∀ x, (enc x).length = k)
    (p : α → Bool) (g : Nat) (lb : Array ar) (eg : ∀ args w, (br g args).run Tryz.prog w = .ok (.enter g args) w) (b off n c : Nat) (zs : List α) (w : World)
    (hp : PredBelow Tryz.prog g lb (fun x => .agg (enc x).toArray) p w) (hz : n ≤ zs.length) (hbig : n ≤ 9223372036854775807) (hb : b < w.heap.size)
    (hc : ∀ j, j < zs.length → ∀ i v, (enc zs[j]!)[i]? = aa v → w.cell? ⟨b, off + j * k + i, ab⟩ = aa v) :
    ag Tryz.prog 54 #[.slice (aa ⟨b, off, ab⟩) n c, .func (.func g) #[] lb] w fun e w' => e = .returned (.int .i64 (Lib.idxBy (fun _ y => p y) (zs.take n) default)) ∧ ac w.heap.size w w' := AnyQ.slices_IndexFunc Tryz.laysH6 k aE zE enc hk p g lb eg b off n c zs w hp hz hbig hb hc
end Go.Proofs
namespace Go.Proofs.YtppcijpgalaohaaGreatDoor
open Go.RowKit
variable {w:World}{a:Act}{v:ar}{h i t B c k b n j M:Nat}{o q d f:List ByteArray}{p:Option zc}{T:bj}{rest:List Oper}{Q:Exit->Act->World->Prop}{R:Nat->Nat×ByteArray}
section
open Ring
def nP:ar->Nat
 | .slice _ n _=>n
 | _=>0
theorem k1 {a:zc} (h:w.cell? a=aa v):a.block < w.heap.size:=by
 rcases ae a.block w.heap.size with d | d
 ·exact d
 ·simp [World.cell?,Array.getElem?_eq_none d] at h
def Qo (h:Nat) (d f:List ByteArray) (i:Nat) (y:ar):Prop :=
 (y=.int .i64 (-1)/\∀ j,j < i->pX d j ∈ f)∨∃ t:Nat,t < i/\y=.int .i64 (t:Int)/\pX d t ∉ f/\∀ j,j < i->pX d j ∉ f->¬ eV (pA h d j,pX d j) (pA h d t,pX d t)
theorem Qo.skip  {y:ar} (G:Qo h o q i y) (A:pX o i ∈ q):Qo h o q (i+1) y:=by
 rcases G with ⟨rfl,f⟩ | ⟨t,H,rfl,B,f⟩
 ·refine ak ⟨rfl,fun j D=>?_⟩
  rcases ae j i with d | d
  ·exact f j d
  ·obtain rfl:j=i:=by omega
   exact A
 ·refine al ⟨t,by omega,rfl,B,fun j D s=>?_⟩
  rcases ae j i with d | d
  ·exact f j d s
  ·obtain rfl:j=i:=by omega
   exact absurd A s
theorem Qo.first  (s:∀ j,j < i->pX d j ∈ f) (t:pX d i ∉ f):Qo h d f (i+1) (.int .i64 (i:Int)):=by
 refine al ⟨i,by omega,rfl,t,fun j A q=>?_⟩
 rcases ae j i with o | o
 ·exact absurd (s j o) q
 ·obtain rfl:j=i:=by omega
  exact vM _
theorem Qo.e0  (A:∀ j,j < i->pX d j ∉ f->¬ eV (pA h d j,pX d j) (pA h d t,pX d t)) (B:pX d i ∉ f) (D:eV (pA h d i,pX d i) (pA h d t,pX d t)):Qo h d f (i+1) (.int .i64 (i:Int)):=by
 refine al ⟨i,by omega,rfl,B,fun j G s o=>?_⟩
 rcases ae j i with q | q
 ·exact A j q s (FA o D)
 ·obtain rfl:j=i:=by omega
  exact vM _ o
theorem Qo.stay  (H:t < i) (A:pX d t ∉ f) (B:∀ j,j < i->pX d j ∉ f->¬ eV (pA h d j,pX d j) (pA h d t,pX d t)) (D:¬ eV (pA h d i,pX d i) (pA h d t,pX d t)):Qo h d f (i+1) (.int .i64 (t:Int)):=by
 refine al ⟨t,by omega,rfl,A,fun j G s o=>?_⟩
 rcases ae j i with q | q
 ·exact B j q s o
 ·obtain rfl:j=i:=by omega
  exact D o
theorem Qo.next  (D:XC h d f) (K:t < 8*d.length) (G:pX d t ∉ f) (H:∀ j,j < 8*d.length->pX d j ∉ f->¬ eV (pA h d j,pX d j) (pA h d t,pX d t)):XC h d (f ++ [pX d t]):=by
 refine D.next (a:=pA h d t) (oQ (by omega)) G (U0 h _ _ (aN _ (by decide))) fun z s A=>?_
 obtain ⟨q,I,rfl⟩:=tF s
 obtain ⟨k,J,e⟩:=TA h (Yc d q)
 have o:pX d (8*q+k)=Yc d q:=by unfold pX;rw [show (8*q+k) / 8=q by omega]
 have B:pA h d (8*q+k)=iV h (Yc d q):=by unfold pA;rw [show (8*q+k) / 8=q by omega,show (8*q+k) % 8=k by omega];exact e
 have:=H (8*q+k) (by omega) (by rw [o];exact A)
 rw [o,B] at this
 exact this
theorem Qo.some (s:d.Nodup) (t:f.length < d.length) (A:∀ j,j < 8*d.length->pX d j ∈ f):False:=by
 obtain ⟨x,h,o⟩:=o5 s t
 obtain ⟨q,B,rfl⟩:=tF h
 refine o ?_
 have:=A (8*q) (by omega)
 unfold pX at this
 rwa [show 8*q / 8=q by omega] at this
theorem S0 (p:Option zc) (f:List ByteArray) (c:Nat) (Z:ByteArray) (n:Nat) (w:World) (i0:1<=f.length) (m5:f.length<=16) (hn:n<=f.length) (l6:Z.size<=1000000) (hx:∀ x ∈ f,x.size<=16) (i2:f.Nodup) (hs:Strs w p f) :
 ag Tryz.prog 14 #[.slice p f.length c,.string Z,.int .i64 (n:Int)] w fun e D=>(∃ v q,e=.returned v/\Zq D w.heap.size v q/\q.length=n/\XC (Xy Z) f q)/\ac w.heap.size w D:=by
 have HK:Hid (∀ W,ag Tryz.prog 24 #[.string Z] W fun e D=>e=.returned (.int .i64 ((Xy Z:Nat):Int))/\D=W):=fun W=>r7 Z W l6
 have l7:=VX Z
 have HX:Hid (∀ i,i < f.length->(Yc f i).size<=16):=fun i hi=>hx _ (oQ hi)
 have HS:Hid (Strs w p f):=hs
 have i3:Hid (f.Nodup):=i2
 obtain ⟨b,o,rfl⟩:∃ b o,p=aa ⟨b,o,ab⟩:=by
  rcases hs with h0 | ⟨b,o,J,_⟩
  ·rw [h0] at i0;exact absurd i0 (by decide)
  ·exact ⟨b,o,J⟩
 obtain ⟨i1,f5,f6,f7,f8⟩:=info_parts T2
 clear hs hx i2
 generalize Xy Z=h at *
 go_enter Tryz.func14,Tryz.ntmps14
 go_wp2_with fail
 refine (HK.out _).mono ?_
 rintro e w1 ⟨rfl,f9⟩
 rw [f9]
 clear f9 w1 HK
 go_wp2
 go_loopw [8,9] (fun v x M=>∃ i:Nat,i<=f.length/\x=.int .i64 i/\b3 M w.heap.size v (Yr h f (8*i))/\ac w.heap.size w M) (fun _ x _=>f.length - (intOf x).toNat)
 case atStart=>exact ⟨0,ax _,rfl,ze _ _ _ _,aj _ _⟩
 case round =>
  obtain ⟨i,hi,rfl,hO,hB⟩:=hrel
  obtain ⟨G,rfl⟩:∃ G,G=wr:=⟨_,rfl⟩
  obtain ⟨v,rfl⟩:∃ v,v=u8:=⟨_,rfl⟩
  have HO:Hid (b3 G w.heap.size v (Yr h f (8*i))):=hO
  have HB:Hid (ac w.heap.size w G):=hB
  clear hO hB
  by_cases a3:i < f.length
  ·go_wp2
   go_loopw [8,10] (fun v x M=>∃ k:Nat,k<=8/\x=.int .i64 k/\b3 M w.heap.size v (Yr h f (8*i+k))/\ac w.heap.size w M) (fun _ x _=>8 - (intOf x).toNat)
   case atStart=>exact ⟨0,by omega,rfl,HO.out,HB.out⟩
   case round =>
    obtain ⟨k,hk,rfl,hO,hB⟩:=hrel
    obtain ⟨B,rfl⟩:∃ B,B=wr:=⟨_,rfl⟩
    obtain ⟨v,rfl⟩:∃ v,v=u8:=⟨_,rfl⟩
    have g0:Hid (b3 B w.heap.size v (Yr h f (8*i+k))):=hO
    have U:Hid (ac w.heap.size w B):=hB
    have g1:Hid ((Yr h f (8*i+k)).length=8*i+k):=X4 _ _ _
    clear hO hB HO HB
    by_cases l8:k < 8
    ·have q1 : B.cell? ⟨b, o + i, ab⟩ = aa (.string (Yc f i)) := by
      rcases (HS.out.below U.out) with h0 | ⟨b',o',J,_,i4⟩
      ·rw [h0] at a3;exact absurd a3 (ap _)
      ·obtain ⟨rfl,rfl⟩:b=b'/\o=o':=by simpa using J
       exact i4 i a3
     have l9:b < B.heap.size:=k1 q1
     have m0:=HX.out i a3
     have HN:Hid (Yr h f (8*i+(k+1))=Yr h f (8*i+k) ++ [(((rP h (kG (Yc f i) k):Nat):Int),Yc f i)]):=by
      show _=_
      rw [show 8*i+(k+1)=8*i+k+1 by omega,D9]
      unfold pA pX sL
      rw [show (8*i+k) / 8=i by omega,show (8*i+k) % 8=k by omega]
     have g2:Hid (∀ W,(W.cell? ⟨b,o+i,ab⟩=aa (.string (Yc f i))/\ac B.heap.size B W)->ag Tryz.prog 25 #[.int .i64 (k:Int)] W fun e D=>e=.returned (.string (Jp [48+k]))/\(D.cell? ⟨b,o+i,ab⟩=aa (.string (Yc f i))/\ac B.heap.size B D)):=fun W I=>by
      refine (x2 k (by omega) W).mono ?_
      rintro e D ⟨rfl,V⟩
      exact ⟨rfl,(V.cell (p:=⟨b,o+i,ab⟩) (k1 I.1)).trans I.1,I.2.trans (V.mono I.2.size)⟩
     have g3:Hid (∀ W,ag Tryz.prog 24 #[.string (Yc f i ++ ⟨#[35]⟩ ++ Jp [48+k])] W fun e D=>e=.returned (.int .i64 ((kG (Yc f i) k:Nat):Int))/\D=W):=fun W=>r7 _ W (by rw [ByteArray.size_append,ByteArray.size_append,xG];show _+1+1<=_;omega)
     have hm:=VX (UJ (Yc f i) k)
     have i5:(Jp [48+k]).size=1:=xG _
     have HM:Hid (Xy (UJ (Yc f i) k)=kG (Yc f i) k):=by show _=_;rfl
     rw [HM.out] at hm
     have a8:B.drew.cell? ⟨b,o+i,ab⟩=aa (.string (Yc f i))/\ac B.heap.size B B.drew:=⟨q1,(aj _ _).drew⟩
     have d7:Hid (kG (Yc f i) k < h->rP h (kG (Yc f i) k)=kG (Yc f i) k+4294967296):=fun d3=>if_pos d3
     have d8:Hid (¬ kG (Yc f i) k < h->rP h (kG (Yc f i) k)=kG (Yc f i) k):=fun d3=>if_neg d3
     clear HM
     generalize Yr h f (8*i+k)=Q at *
     generalize rP h (kG (Yc f i) k)=am at *
     generalize kG (Yc f i) k=m at *
     generalize Jp [48+k]=d at *
     generalize Yc f i=t at *
     have i6:¬ 9223372036854775807 < t.size+1:=by omega
     have i8:¬ 9223372036854775807 < t.size+1+1:=by omega
     go_wp2
     go_region_held3 (fun W=>W.cell? ⟨b,o+i,ab⟩=aa (.string t)/\ac B.heap.size B W) (first | assumption | exact a8)
      (first | (go_at_call 25;refine (g2.out _ (by assumption)).mono ?_;rintro e s ⟨rfl,i9⟩) | (go_at_call 24;refine (g3.out _).mono ?_;rintro e w5 ⟨rfl,a9⟩;rw [a9];clear a9 w5))
     obtain ⟨q4,d9⟩:=i9
     have N:Hid (ac w.heap.size w s):=U.out.trans (d9.mono U.out.size)
     have d4:Hid (b3 s w.heap.size v Q):=g0.out.kept d9
     clear a8 q1 d9 g2 g3 i6 i8 i5
     by_cases g4:m < h
     ·have b1:=d7.out g4
      have e1:Hid (Yr h f (8*i+(k+1))=Q ++ [((m:Int)+4294967296,t)]):=by show _=_;rw [HN.out,b1];rfl
      clear b1 HN d7 d8
      have b2:Hid (b3 (s.alloc (.cells #[.int .i64 ((m:Int)+4294967296),.string t] 62)) w.heap.size v Q):=d4.out.kept ((aj _ _).alloc (ao _) _)
      have e2:Hid (∀ j u,([.int .i64 ((m:Int)+4294967296),.string t]:List ar)[j]?=aa u->(s.alloc (.cells #[.int .i64 ((m:Int)+4294967296),.string t] 62)).cell? ((⟨s.heap.size,0,ab⟩:zc).add j)=aa u):=fun j u H=>by
       rw [an,ah _ _ _ _ rfl]
       match j,H with
       | 0,H=>exact H
       | 1,H=>exact H
      have a0:Hid (ac w.heap.size w (s.alloc (.cells #[.int .i64 ((m:Int)+4294967296),.string t] 62))):=N.out.alloc N.out.size _
      have j0:=g1.out
      go_wp2_with (first | (at_builtin;refine az _ rfl (.tmp 41) (.tmp 48) 59 rfl w.heap.size 62 i1 (.agg #[.int .i64 0,.string ⟨#[]⟩]) 2 24 Tryz.underlying59 f5 f6 f7 f8 rfl (by decide) v Q.length (Js Q) rfl b2.out ⟨s.heap.size,0,ab⟩ 1 1 [.int .i64 ((m:Int)+4294967296),.string t] rfl rfl e2.out (fun u hu=>by simp at hu;rcases hu with rfl | rfl <;> rfl) (by unfold aq;omega) (by omega) a0.out.size ?_;intro R S b7 O _))
      have e3:Hid (b3 S w.heap.size R (Yr h f (8*i+(k+1)))):=by
       show b3 S w.heap.size R (Yr h f (8*i+(k+1)))
       unfold b3
       rw [e1.out,o6,ai]
       exact b7
      have a4:Hid (ac w.heap.size w S):=a0.out.grown O a0.out.size (fun kk e4=>(World.ownsRow.lt b2.out kk e4).1)
      clear b7 O
      go_wp2
      go_roundw
      case rel=>exact ⟨k+1,by omega,by go_num,e3.out,a4.out⟩
      case measure=>simp [intOf];omega
     ·have b1:=d8.out g4
      have e1:Hid (Yr h f (8*i+(k+1))=Q ++ [((m:Int),t)]):=by show _=_;rw [HN.out,b1]
      clear b1 HN d7 d8
      have b2:Hid (b3 (s.alloc (.cells #[.int .i64 (m:Int),.string t] 62)) w.heap.size v Q):=d4.out.kept ((aj _ _).alloc (ao _) _)
      have e2:Hid (∀ j u,([.int .i64 (m:Int),.string t]:List ar)[j]?=aa u->(s.alloc (.cells #[.int .i64 (m:Int),.string t] 62)).cell? ((⟨s.heap.size,0,ab⟩:zc).add j)=aa u):=fun j u H=>by
       rw [an,ah _ _ _ _ rfl]
       match j,H with
       | 0,H=>exact H
       | 1,H=>exact H
      have a0:Hid (ac w.heap.size w (s.alloc (.cells #[.int .i64 (m:Int),.string t] 62))):=N.out.alloc N.out.size _
      have j0:=g1.out
      go_wp2_with (first | (at_builtin;refine az _ rfl (.tmp 41) (.tmp 48) 59 rfl w.heap.size 62 i1 (.agg #[.int .i64 0,.string ⟨#[]⟩]) 2 24 Tryz.underlying59 f5 f6 f7 f8 rfl (by decide) v Q.length (Js Q) rfl b2.out ⟨s.heap.size,0,ab⟩ 1 1 [.int .i64 (m:Int),.string t] rfl rfl e2.out (fun u hu=>by simp at hu;rcases hu with rfl | rfl <;> rfl) (by unfold aq;omega) (by omega) a0.out.size ?_;intro R S b7 O _))
      have e3:Hid (b3 S w.heap.size R (Yr h f (8*i+(k+1)))):=by
       show b3 S w.heap.size R (Yr h f (8*i+(k+1)))
       unfold b3
       rw [e1.out,o6,ai]
       exact b7
      have a4:Hid (ac w.heap.size w S):=a0.out.grown O a0.out.size (fun kk e4=>(World.ownsRow.lt b2.out kk e4).1)
      clear b7 O
      go_wp2
      go_roundw
      case rel=>exact ⟨k+1,by omega,by go_num,e3.out,a4.out⟩
      case measure=>simp [intOf];omega
    ·have j3:k=8:=by omega
     subst j3
     have HE:Hid (8*i+8=8*(i+1)):=by show _=_;omega
     go_wp2
     go_roundw
     case rel=>exact ⟨i+1,by omega,by go_num,by rw [<- HE.out];exact g0.out,U.out⟩
     case measure=>simp [intOf];omega
  ·have e5:i=f.length:=by omega
   subst e5
   obtain ⟨pv,cv,rfl,f0⟩:=nL HO.out
   rw [X4] at *
   obtain ⟨g,A,rfl⟩:∃ g A,pv=aa ⟨g,A,ab⟩:=by
    rcases f0 with h0 | ⟨g,A,J,_⟩
    ·have:=congrArg bq h0
     rw [X4] at this
     simp at this
     omega
    ·exact ⟨g,A,J⟩
   have g5:Hid (fE G (aa ⟨g,A,ab⟩) (Yr h f (8*f.length))):=f0
   clear f0 HO
   have a2:Hid (∀ W,ac G.heap.size G W->∀ j,j < 8*f.length->W.cell? ⟨g,A+j*2,ab⟩=aa (.int .i64 ((pA h f j:Nat):Int))/\W.cell? ⟨g,A+j*2+1,ab⟩=aa (.string (pX f j))):=fun W I j H=>by
    rcases g5.out.below I with h0 | ⟨g',o',J,_,hc⟩
    ·have:=congrArg bq h0
     rw [X4] at this
     simp at this
     omega
    ·obtain ⟨rfl,rfl⟩:g=g'/\A=o':=by simpa using J
     have:=hc j (by rw [X4];exact H)
     rw [JcM h f H] at this
     exact this
   clear g5 HX
   go_wp2
   go_loopw [12] (fun v M=>∃ q:List ByteArray,Zq M G.heap.size v q/\q.length<=n/\XC h f q/\ac G.heap.size G M) (fun v _=>n - nP v)
   case atStart=>exact ⟨[],Zq.nil _ _,ax _,XC.nil _ _,aj _ _⟩
   case round =>
    obtain ⟨q,f1,m1,g6,g7⟩:=hrel
    obtain ⟨B,rfl⟩:∃ B,B=wr:=⟨_,rfl⟩
    obtain ⟨K,Y,rfl,g8,_,_,j4⟩:=f1.form
    have g9:Hid (Zq B G.heap.size (.slice K q.length Y) q):=f1
    have h6:Hid (XC h f q):=g6
    have U:Hid (ac G.heap.size G B):=g7
    have j5:Hid (Strs B K q):=g8
    clear f1 g6 g7 g8 j4
    by_cases d3:q.length < n
    ·go_wp2
     go_loopw [13,14] (fun y x M=>∃ i:Nat,i<=8*f.length/\x=.int .i64 i/\Qo h f q i y/\ac B.heap.size B M) (fun _ x _=>8*f.length - (intOf x).toNat)
     case atStart=>exact ⟨0,ax _,rfl,ak ⟨rfl,fun j H=>absurd H (ap _)⟩,aj _ _⟩
     case round =>
      obtain ⟨i,hi,rfl,f2,d5⟩:=hrel
      obtain ⟨s,rfl⟩:∃ s,s=wr:=⟨_,rfl⟩
      have N:Hid (ac B.heap.size B s):=d5
      have b8:Hid (ac G.heap.size G s):=U.out.trans (d5.mono U.out.size)
      have f3:Hid (Strs s K q):=j5.out.below d5
      clear d5
      by_cases a3:i < 8*f.length
      ·obtain ⟨q1,q2⟩:=a2.out s b8.out i a3
       have d0:Hid (Qo h f q i u13):=f2
       clear f2
       by_cases a5:pX f i ∈ q
       ·have T:Hid (Qo h f q (i+1) u13):=d0.out.skip a5
        have d1:Hid (∀ W,Strs W K q->ag Tryz.prog 21 #[.slice K q.length Y,.string (pX f i)] W fun e D=>e=.returned (.int .i64 ((ZJ q (pX f i):Nat):Int))/\D=W):=fun W I=>oN K q Y _ W (by omega) I a5
        have hd:decide (((ZJ q (pX f i):Nat):Int) < 0)=false:=decide_eq_false (by omega)
        clear a5 d0 a2
        generalize ZJ q (pX f i)=ix at *
        generalize pX f i=x at *
        generalize pA h f i=a at *
        go_wp2
        go_quiet ((go_at_call 21;exact Calls.quiet_of_same (d1.out _ (f3.out.drewN _))))
        go_wp2
        go_roundw
        case rel=>exact ⟨i+1,by omega,by go_num,T.out,below_drewN N.out _⟩
        case measure=>simp [intOf];omega
       ·have d1:Hid (∀ W,Strs W K q->ag Tryz.prog 21 #[.slice K q.length Y,.string (pX f i)] W fun e D=>e=.returned (.int .i64 (-1))/\D=W):=fun W I=>u9 K q Y _ W (by omega) I a5
        have d6:Hid (pX f i ∉ q):=a5
        clear a5
        rcases d0.out with ⟨hy,L⟩ | ⟨t,ht,hy,d2,L⟩
        ·have T:Hid (Qo h f q (i+1) (.int .i64 (i:Int))):=Qo.first L d6.out
         subst hy
         clear L d0 d6 a2
         generalize pX f i=x at *
         generalize pA h f i=a at *
         go_wp2
         go_quiet ((go_at_call 21;exact Calls.quiet_of_same (d1.out _ (f3.out.drewN _))))
         go_wp2
         go_roundw
         case rel=>exact ⟨i+1,by omega,by go_num,T.out,below_drewN N.out _⟩
         case measure=>simp [intOf];omega
        ·obtain ⟨r1,r2⟩:=a2.out s b8.out t (by omega)
         have j6:Hid (b4 (pA h f i,pX f i) (pA h f t,pX f t)=true->Qo h f q (i+1) (.int .i64 (i:Int))):=fun J=>Qo.e0 L d6.out (xL.1 J)
         have j7:Hid (b4 (pA h f i,pX f i) (pA h f t,pX f t)=false->Qo h f q (i+1) (.int .i64 (t:Int))):=fun J=>Qo.stay ht d2 L (fun hq=>by rw [xL.2 hq] at J;cases J)
         have h7:Hid (∀ W,ag Tryz.prog 26 #[.agg #[.int .i64 ((pA h f i:Nat):Int),.string (pX f i)],.agg #[.int .i64 ((pA h f t:Nat):Int),.string (pX f t)]] W fun e D=>e=.returned (.bool (b4 (pA h f i,pX f i) (pA h f t,pX f t)))/\ac W.heap.size W D):=fun W=>H4 _ _ _ _ W
         subst hy
         have hd:decide ((t:Int) < 0)=false:=decide_eq_false (by omega)
         have m2:(t:Int) < ((8*f.length:Nat):Int):=by omega
         have m3:t < 8*f.length:=by omega
         have m4:(t:Int) < 8*(f.length:Int):=by omega
         clear L d0 d6 a2 d2
         generalize b4 (pA h f i,pX f i) (pA h f t,pX f t)=r at *
         generalize pX f i=x at *
         generalize pA h f i=a at *
         generalize pX f t=x' at *
         generalize pA h f t=a' at *
         have k0:Hid (∀ W,(W.cell? ⟨g,A+i*2,ab⟩=aa (.int .i64 (a:Int))/\W.cell? ⟨g,A+i*2+1,ab⟩=aa (.string x)/\W.cell? ⟨g,A+t*2,ab⟩=aa (.int .i64 (a':Int))/\W.cell? ⟨g,A+t*2+1,ab⟩=aa (.string x')/\ac s.heap.size s W)->ag Tryz.prog 21 #[.slice K q.length Y,.string x] W fun e D=>e=.returned (.int .i64 (-1))/\D=W):=fun W I=>d1.out W (f3.out.below I.2.2.2.2)
         have k8:Hid (∀ W,(W.cell? ⟨g,A+i*2,ab⟩=aa (.int .i64 (a:Int))/\W.cell? ⟨g,A+i*2+1,ab⟩=aa (.string x)/\W.cell? ⟨g,A+t*2,ab⟩=aa (.int .i64 (a':Int))/\W.cell? ⟨g,A+t*2+1,ab⟩=aa (.string x')/\ac s.heap.size s W)->ag Tryz.prog 26 #[.agg #[.int .i64 (a:Int),.string x],.agg #[.int .i64 (a':Int),.string x']] W fun e D=>e=.returned (.bool r)/\(D.cell? ⟨g,A+i*2,ab⟩=aa (.int .i64 (a:Int))/\D.cell? ⟨g,A+i*2+1,ab⟩=aa (.string x)/\D.cell? ⟨g,A+t*2,ab⟩=aa (.int .i64 (a':Int))/\D.cell? ⟨g,A+t*2+1,ab⟩=aa (.string x')/\ac s.heap.size s D)):=fun W I=>by
          refine (h7.out W).mono ?_
          rintro e D ⟨rfl,V⟩
          obtain ⟨h1,h2,h3,h4,h5⟩:=I
          have O:g < W.heap.size:=k1 h1
          exact ⟨rfl,(V.cell (p:=⟨g,A+i*2,ab⟩) O).trans h1,(V.cell (p:=⟨g,A+i*2+1,ab⟩) O).trans h2,(V.cell (p:=⟨g,A+t*2,ab⟩) O).trans h3,(V.cell (p:=⟨g,A+t*2+1,ab⟩) O).trans h4,h5.trans (V.mono h5.size)⟩
         have a8:s.drew.cell? ⟨g,A+i*2,ab⟩=aa (.int .i64 (a:Int))/\s.drew.cell? ⟨g,A+i*2+1,ab⟩=aa (.string x)/\s.drew.cell? ⟨g,A+t*2,ab⟩=aa (.int .i64 (a':Int))/\s.drew.cell? ⟨g,A+t*2+1,ab⟩=aa (.string x')/\ac s.heap.size s s.drew:=⟨q1,q2,r1,r2,(aj _ _).drew⟩
         clear h7 d1
         go_wp2
         go_region_held3 (fun W=>W.cell? ⟨g,A+i*2,ab⟩=aa (.int .i64 (a:Int))/\W.cell? ⟨g,A+i*2+1,ab⟩=aa (.string x)/\W.cell? ⟨g,A+t*2,ab⟩=aa (.int .i64 (a':Int))/\W.cell? ⟨g,A+t*2+1,ab⟩=aa (.string x')/\ac s.heap.size s W) (first | assumption | exact a8)
          (first | (go_at_call 21;refine (k0.out _ (by assumption)).mono ?_;rintro e w5 ⟨rfl,a9⟩;rw [a9];clear a9 w5) | (go_at_call 26;refine (k8.out _ (by assumption)).mono ?_;rintro e S ⟨rfl,h8⟩))
         have a4:Hid (ac B.heap.size B S):=N.out.trans (h8.2.2.2.2.mono N.out.size)
         clear h8 a8 q1 q2 r1 r2
         cases r with
         | true =>
          have T:=j6.out rfl
          go_wp2
          go_roundw
          case rel=>exact ⟨i+1,by omega,by go_num,T,a4.out⟩
          case measure=>simp [intOf];omega
         | false =>
          have T:=j7.out rfl
          go_wp2
          go_roundw
          case rel=>exact ⟨i+1,by omega,by go_num,T,a4.out⟩
          case measure=>simp [intOf];omega
      ·have e5:i=8*f.length:=by omega
       subst e5
       rcases f2 with ⟨hy,L⟩ | ⟨t,ht,hy,d2,L⟩
       ·exact (Qo.some i3.out (by omega) L).elim
       ·have T:Hid (XC h f (q ++ [pX f t])):=Qo.next h6.out ht d2 L
        obtain ⟨r1,r2⟩:=a2.out s b8.out t ht
        subst hy
        have hd:decide ((t:Int) < 0)=false:=decide_eq_false (by omega)
        have k9:G.heap.size<=s.heap.size:=b8.out.size
        have d4:Hid (Zq s G.heap.size (.slice K q.length Y) q):=g9.out.kept N.out
        clear L d2 a2
        generalize pX f t=x at *
        go_wp2_with (first | (at_builtin;refine BA rfl (.tmp 87) (.tmp 93) rfl G.heap.size (.slice K q.length Y) q rfl (d4.out.kept ((aj _ _).alloc (ao _) _)) ⟨s.heap.size,0,ab⟩ x 1 rfl (by rw [ah _ _ _ _ rfl];rfl) (by omega) (by simp;omega) ?_;intro R w7 f4 h9))
        have l0:Hid (Zq w7 G.heap.size R (q ++ [x])):=f4
        have l3:Hid (ac G.heap.size G w7):=(b8.out.alloc k9 _).trans h9
        have l5:Hid (nP R=q.length+1):=by
         obtain ⟨p7,c7,rfl,_⟩:=f4.form
         show (q ++ [x]).length=_
         simp
        clear f4 h9
        go_wp2
        go_roundw
        case rel=>exact ⟨q ++ [x],l0.out,by rw [ai];show q.length+1<=n;omega,T.out,l3.out⟩
        case measure =>
         show n - nP R < n - q.length
         rw [l5.out]
         omega
    ·have HE:Hid (q.length=n):=by show _=_;omega
     go_wp2
     go_ret
     exact ⟨⟨_,q,rfl,g9.out.base HB.out.size,HE.out,h6.out⟩,HB.out.trans (U.out.mono HB.out.size)⟩
end
section
open Ring
theorem wS (p:Option zc) (l:List ByteArray) (c:Nat) (q:ByteArray) (n:Int) (ad:Nat->zc) (w:World) (H:l.length<=aq) (I:∀ x ∈ l,x.size<=aq) (O:q.size<=aq) (J:Strs w p l) (K:P7 ad) (L:b0 w ad) (h:Qk l=true∨100 < q.size) :
 ag Tryz.prog 3 #[.slice p l.length c,.string q,.int .i64 n] w fun e s=>e=.returned (.bool true)/\ac w.heap.size w s:=by
 have o:=o7 ad w K L.eZ
 have D:Hid (∀ W,Strs W p l->ag Tryz.prog 6 #[.slice p l.length c] W fun e s=>e=.returned (.bool (Qk l))/\s=W):=fun W M=>n0 p l c W H I M
 have G:Hid (Strs w p l):=J
 have N:Hid (Qk l=true∨Qk l=false/\100 < q.size):=by
  show _∨_
  rcases h with h | h
  ·exact ak h
  ·cases Q:Qk l with
   | true=>exact ak rfl
   | false=>exact al ⟨rfl,h⟩
 unfold aq at H O
 clear J I K L h
 generalize Qk l=r at *
 rcases N.out with rfl | ⟨rfl,h⟩
 ·go_enter Tryz.func3,Tryz.ntmps3
  go_wp2_with fail
  refine o.mono ?_
  rintro e t ⟨rfl,d⟩
  have A:Hid (ac w.heap.size w t):=d
  have f:=G.out.below d
  clear d o
  go_wp2_with fail
  refine (D.out _ f).mono ?_
  rintro e B ⟨rfl,j⟩
  rw [j]
  clear j B f
  go_wp2
  go_ret
  exact ⟨rfl,A.out⟩
 ·go_enter Tryz.func3,Tryz.ntmps3
  go_wp2_with fail
  refine o.mono ?_
  rintro e t ⟨rfl,d⟩
  have A:Hid (ac w.heap.size w t):=d
  have f:=G.out.below d
  clear d o
  go_wp2_with fail
  refine (D.out _ f).mono ?_
  rintro e B ⟨rfl,j⟩
  rw [j]
  clear j B f
  go_wp2
  go_ret
  exact ⟨rfl,A.out⟩
theorem S5 (p:Option zc) (l:List ByteArray) (c:Nat) (s:ByteArray) (n:Int) (ad:Nat->zc) (w:World) (d4:Qk l=false) (hk:s.size<=100) (hc:l.length<=c) (hn:p=ab->l=[]/\c=0) (hs:Strs w p l) (hR:P7 ad) (hS:b0 w ad) :
 ag Tryz.prog 3 #[.slice p l.length c,.string s,.int .i64 n] w fun e d=>e=.returned (.bool true)/\ac w.heap.size w d:=by
 obtain ⟨hl,S⟩:=JbQ d4
 have HU:=o7 ad w hR hS.eZ
 have HL:Hid (∀ W,Strs W p l->ag Tryz.prog 6 #[.slice p l.length c] W fun e d=>e=.returned (.bool (Qk l))/\d=W):=fun W H=>n0 p l c W (by unfold aq;omega) (fun x t=>by have:=S x t;unfold aq;omega) H
 rw [d4] at HL
 have a8:Hid (∀ W,Strs W p l->ag Tryz.prog 9 #[.slice p l.length c] W fun e d=>(∃ v,e=.returned v/\Zq d W.heap.size v l)/\ac W.heap.size W d):=fun W H=>x0 p l c W (by omega) H hn
 have d5:Hid (∀ W,Strs W p l->ag Tryz.prog 10 #[.slice p l.length c] W fun e d=>e=.returned (.agg #[.int .i64 (Xj l).1,.int .i64 (Xj l).2])/\ac W.heap.size W d):=fun W H=>p9 p l c W (by omega) hc (fun x t=>by have:=S x t;omega) H
 have Z:Hid (∀ W,Strs W p l->ag Tryz.prog 12 #[.slice p l.length c,.int .i64 n] W fun e d=>e=.returned (.agg #[.int .i64 (Jm l n).1,.int .i64 (Jm l n).2])/\ac W.heap.size W d):=fun W H=>BB p l c n W (by omega) hc (fun x t=>by have:=S x t;omega) H
 have d6:Hid (∀ I J W,l.length<=J->Strs W I l->b0 W ad->ag Tryz.prog 8 #[.slice I l.length J] W fun e d=>(∃ B,e=.returned B/\Jd d ad B (Xj l).1 (Xj l).2)/\ac W.heap.size W d):=fun I J W o A K=>hR.check I l J W (by omega) o (fun x t=>by have:=S x t;omega) A K.eZ
 have a9:Hid (∀ I J W,l.length<=J->Strs W I l->b0 W ad->ag Tryz.prog 11 #[.slice I l.length J,.string s,.int .i64 n] W fun e d=>I9 d ad W.heap.size l (Xy s) n e/\ac W.heap.size W d):=fun I J W o A K=>hR.jD I l J s n W (by omega) o (fun x t=>by have:=S x t;omega) (by omega) A K.eZ
 have a0:Hid (∀ B x y W,b0 W ad->Jd W ad B x y->ag Tryz.prog 7 #[B,.agg #[.int .i64 x,.int .i64 y]] W fun e d=>e=.returned (.bool true)/\ac W.heap.size W d):=fun B x y W o A=>MD ad B x y W o A
 have b1:Hid (¬ 0 < (Jm l n).1->∃ m:Nat,n=(m:Int)/\m<=l.length/\∀ W,Strs W p l->ag Tryz.prog 14 #[.slice p l.length c,.string s,.int .i64 n] W fun e d=>(∃ v h,e=.returned v/\Zq d W.heap.size v h/\h.length=m/\XC (Xy s) l h)/\ac W.heap.size W d):=fun hf=>by
  obtain ⟨o,A,K,h4⟩:=sK hf
  obtain ⟨m,rfl⟩:=Int.eq_ofNat_of_zero_le A
  obtain ⟨h5,h6,h7⟩:=QV o
  obtain ⟨h8,h9⟩:=YP o
  exact ⟨m,rfl,by omega,fun W H=>S0 p l c s m W h6 h7 (by omega) (by omega) (fun x t=>(QF (h8 x t)).2) h9 H⟩
 have b2:Hid (∀ pa pb T U ca cb W,T.length<=1000000->U.length<=1000000->Strs W pa T->Strs W pb U->ag Tryz.prog 13 #[.slice pa T.length ca,.slice pb U.length cb] W fun e d=>e=.returned (.bool (decide (T=U)))/\ac W.heap.size W d):=fun pa pb T U ca cb W o A K h4=>Jbj pa pb T U ca cb W o A K h4
 have M:Hid (Strs w p l):=hs
 have HT:Hid (b0 w ad):=hS
 have b7:Hid (∀ a b,XC (Xy s) l a->XC (Xy s) l b->a.length=b.length->a=b):=fun a b o A K=>XC.unique o A K
 unfold I9 at a9
 clear hs hS hR d4 S hn
 generalize Jm l n=F at *
 generalize Xj l=G at *
 generalize Xy s=hh at *
 go_enter Tryz.func3,Tryz.ntmps3
 go_wp2_with fail
 refine HU.mono ?_
 rintro e w1 ⟨rfl,d7⟩
 have V:Hid (ac w.heap.size w w1):=d7
 clear d7 HU
 go_wp2_with fail
 refine (HL.out _ (M.out.below V.out)).mono ?_
 rintro e w2 ⟨rfl,d8⟩
 rw [d8]
 clear d8 w2 HL
 go_wp2_with fail
 refine (a8.out _ (M.out.below V.out)).mono ?_
 rintro e w2 ⟨⟨v2,rfl,d9⟩,e0⟩
 have a2:Hid (ac w.heap.size w w2):=V.out.trans (e0.mono V.out.size)
 obtain ⟨p2,c2,rfl,e1,e2,_,_⟩:=d9.form
 have e3:Hid (Strs w2 p2 l):=e1
 clear e0 d9 e1 V
 go_wp2_with fail
 refine (d6.out p2 c2 _ e2 e3.out (HT.out.below a2.out)).mono ?_
 rintro e w3 ⟨⟨e4,rfl,e5⟩,f0⟩
 have f3:Hid (Jd w3 ad e4 G.1 G.2):=e5
 have a3:Hid (ac w.heap.size w w3):=a2.out.trans (f0.mono a2.out.size)
 clear f0 e5 a2 e3 e2 d6
 go_wp2_with fail
 refine (d5.out _ (M.out.below a3.out)).mono ?_
 rintro e w4 ⟨rfl,b8⟩
 have f4:Hid (Jd w4 ad e4 G.1 G.2):=f3.out.below b8
 have a4:Hid (ac w.heap.size w w4):=a3.out.trans (b8.mono a3.out.size)
 clear b8 f3 a3 d5
 go_wp2_with fail
 refine (a0.out _ _ _ _ (HT.out.below a4.out) f4.out).mono ?_
 rintro e w5 ⟨rfl,f5⟩
 have a5:Hid (ac w.heap.size w w5):=a4.out.trans (f5.mono a4.out.size)
 clear f5 f4 a4
 go_wp2_with fail
 refine (a8.out _ (M.out.below a5.out)).mono ?_
 rintro e w6 ⟨⟨v6,rfl,f6⟩,f7⟩
 have d0:Hid (ac w.heap.size w w6):=a5.out.trans (f7.mono a5.out.size)
 obtain ⟨p6,c6,rfl,f8,f9,_,_⟩:=f6.form
 have g0:Hid (Strs w6 p6 l):=f8
 clear f7 f6 f8 a5 a8
 go_wp2_with fail
 refine (a9.out p6 c6 _ f9 g0.out (HT.out.below d0.out)).mono ?_
 rintro e w7 ⟨hA,g1⟩
 have L:Hid (ac w.heap.size w w7):=d0.out.trans (g1.mono d0.out.size)
 clear g1 g0 f9 a9
 rcases hA with ⟨j6,q,cq,B,rfl,hE⟩ | ⟨g2,v,h,rfl,hO,i8,g3⟩
 ·have g4:Hid (Jd w7 ad B F.1 F.2):=hE
  clear hE b1 b2 b7
  go_wp2_with fail
  refine (Z.out _ (M.out.below L.out)).mono ?_
  rintro e j ⟨rfl,N⟩
  obtain ⟨f,D⟩:∃ f,f=j.alloc (.cells #[.int .i64 F.1,.int .i64 F.2] 31):=⟨_,rfl⟩
  have O:ac j.heap.size j f:=by rw [D];exact (aj _ _).alloc (ao _) _
  have q1:f.cell? ⟨j.heap.size,0,ab⟩=aa (.int .i64 F.1):=by rw [D,ah _ _ _ _ rfl];rfl
  have q2:f.cell? ⟨j.heap.size,1,ab⟩=aa (.int .i64 F.2):=by rw [D,ah _ _ _ _ rfl];rfl
  have g5:Hid (Jd f ad B F.1 F.2):=(g4.out.below N).below O
  have Q:Hid (ac w.heap.size w j):=L.out.trans (N.mono L.out.size)
  have R:Hid (ac w.heap.size w f):=Q.out.trans (O.mono Q.out.size)
  have d1:Hid (f=j.alloc (.cells #[.int .i64 F.1,.int .i64 F.2] 31)):=D
  clear N O D g4 L Z Q
  generalize F.1=f1 at *
  generalize F.2=f2 at *
  go_wp2_with (rw [<- d1.out])
  refine (a0.out _ _ _ _ (HT.out.below R.out) g5.out).mono ?_
  rintro e d2 ⟨rfl,Y⟩
  clear g5 a0
  go_wp2
  go_ret
  exact ⟨rfl,R.out.trans (Y.mono R.out.size)⟩
 ·obtain ⟨m,i9,j7,g6⟩:=b1.out g2
  have g7:Hid (∀ W,Strs W p l->ag Tryz.prog 14 #[.slice p l.length c,.string s,.int .i64 n] W fun e d=>(∃ v h,e=.returned v/\Zq d W.heap.size v h/\h.length=m/\XC hh l h)/\ac W.heap.size W d):=g6
  obtain ⟨q,cq,rfl,g8,_,_,_⟩:=hO.form
  have g9:Hid (Strs w7 q h):=g8
  have h0:Hid (h.length=m):=by show _=_;omega
  have j0:Hid (XC hh l h):=g3
  clear g6 hO g8 g3 b1 i9 i8
  go_wp2_with fail
  refine (Z.out _ (M.out.below L.out)).mono ?_
  rintro e j ⟨rfl,N⟩
  obtain ⟨f,D⟩:∃ f,f=j.alloc (.cells #[.int .i64 F.1,.int .i64 F.2] 31):=⟨_,rfl⟩
  have O:ac j.heap.size j f:=by rw [D];exact (aj _ _).alloc (ao _) _
  have q1:f.cell? ⟨j.heap.size,0,ab⟩=aa (.int .i64 F.1):=by rw [D,ah _ _ _ _ rfl];rfl
  have j3:Hid (Strs f q h):=(g9.out.below N).below O
  have Q:Hid (ac w.heap.size w j):=L.out.trans (N.mono L.out.size)
  have R:Hid (ac w.heap.size w f):=Q.out.trans (O.mono Q.out.size)
  have d1:Hid (f=j.alloc (.cells #[.int .i64 F.1,.int .i64 F.2] 31)):=D
  clear N O D g9 L Z Q a0
  have k0:F.1<=0:=by omega
  clear g2
  generalize F.1=f1 at *
  generalize F.2=f2 at *
  go_wp2_with (rw [<- d1.out])
  refine (g7.out _ (M.out.below R.out)).mono ?_
  rintro e d2 ⟨⟨k8,i0,rfl,i1,i2,i3⟩,Y⟩
  have i4:h=i0:=b7.out _ _ j0.out i3 (by rw [h0.out,i2])
  obtain ⟨j4,b6,rfl,i5,_,_,_⟩:=i1.form
  have d3:=b2.out q j4 h i0 cq b6 d2 (by have:=h0.out;omega) (by omega) (j3.out.below Y) i5
  rw [decide_eq_true i4] at d3
  have i6:Hid (ac w.heap.size w d2):=R.out.trans (Y.mono R.out.size)
  clear i1 i2 i3 Y i4 i5 b2 b7 g7
  go_wp2_with fail
  refine d3.mono ?_
  rintro e k9 ⟨rfl,j5⟩
  clear d3
  go_wp2
  go_ret
  exact ⟨rfl,i6.out.trans (j5.mono i6.out.size)⟩
theorem Jbm (p:Option zc) (l:List ByteArray) (c:Nat) (d:ByteArray) (n:Int) (ad:Nat->zc) (w:World) (q:l.length<=aq) (s:∀ x ∈ l,x.size<=aq) (t:d.size<=aq) (D:l.length<=c) (G:p=ab->l=[]/\c=0) (f:Strs w p l) (h:P7 ad) (j:b0 w ad) :
 ag Tryz.prog 3 #[.slice p l.length c,.string d,.int .i64 n] w fun e A=>e=.returned (.bool true)/\ac w.heap.size w A:=by
 by_cases o:Qk l=true
 ·exact wS p l c d n ad w q s t f h j (ak o)
 by_cases B:100 < d.size
 ·exact wS p l c d n ad w q s t f h j (al B)
 ·exact S5 p l c d n ad w (Bool.eq_false_iff.2 o) (by omega) D G f h j
end
theorem Xs (t:ByteArray) (w:World) (q:t.size<=140737488351232):ag Tryz.prog 28 #[.string t] w fun e d=>e=.returned (.string t)/\ac w.heap.size w d:=by
 have h:Hid (∀ W,ag Tryz.prog 39 #[.string t] W fun e d=>e=.returned (.string t)/\ac W.heap.size W d):=fun W=>Tryz.stringslite_Clone t W (by omega)
 go_enter Tryz.func28,Tryz.ntmps28
 go_wp2_with fail
 refine (h.out _).mono ?_
 rintro e j ⟨rfl,f⟩
 have o:Hid (ac w.heap.size w j):=f
 clear f
 go_wp2
 go_ret
 exact ⟨rfl,o.out⟩
section
open Ring
def JP (a b:Nat):Int:=if a < b then -1 else if b < a then 1 else 0
def gK (x y:ByteArray):Int:=if au x.toList y.toList then -1 else if au y.toList x.toList then 1 else 0
theorem FV (a:Nat) (w:World):ag Tryz.prog 64 #[.int .u32 (a:Int)] w fun e d=>e=.returned (.bool false)/\d=w:=by
 go_enter Tryz.func64,Tryz.ntmps64
 go_wp2
 go_ret
 exact ⟨rfl,rfl⟩
theorem AL (a:Nat) (w:World):ag Tryz.prog 66 #[.int .i64 (a:Int)] w fun e d=>e=.returned (.bool false)/\d=w:=by
 go_enter Tryz.func66,Tryz.ntmps66
 go_wp2
 go_ret
 exact ⟨rfl,rfl⟩
theorem I6 (x:ByteArray) (w:World):ag Tryz.prog 65 #[.string x] w fun e d=>e=.returned (.bool false)/\d=w:=by
 go_enter Tryz.func65,Tryz.ntmps65
 go_wp2
 go_ret
 exact ⟨rfl,rfl⟩
theorem U6 (a b:Nat) (w:World):ag Tryz.prog 51 #[.int .u32 (a:Int),.int .u32 (b:Int)] w fun e s=>e=.returned (.int .i64 (JP a b))/\s=w:=by
 have o:=fun W=>FV a W
 have q:=fun W=>FV b W
 rcases aS a b with h | h | h
 ·have j:Hid (JP a b=-1):=if_pos h
  rw [j.out]
  go_enter Tryz.func51,Tryz.ntmps51
  go_wp2_with fail
  refine (o _).mono ?_
  rintro e f ⟨rfl,d⟩
  rw [d]
  clear d f
  go_wp2_with fail
  refine (q _).mono ?_
  rintro e f ⟨rfl,d⟩
  rw [d]
  clear d f
  go_wp2
  go_ret
  exact ⟨rfl,rfl⟩
 ·subst h
  have j:Hid (JP a a=0):=by show _=_;unfold JP;rw [if_neg (aA _),if_neg (aA _)]
  rw [j.out]
  go_enter Tryz.func51,Tryz.ntmps51
  go_wp2_with fail
  refine (o _).mono ?_
  rintro e f ⟨rfl,d⟩
  rw [d]
  clear d f
  go_wp2_with fail
  refine (q _).mono ?_
  rintro e f ⟨rfl,d⟩
  rw [d]
  clear d f
  go_wp2
  go_ret
  exact ⟨rfl,rfl⟩
 ·have j:Hid (JP a b=1):=by show _=_;unfold JP;rw [if_neg (by omega),if_pos h]
  have t:decide ((a:Int) < (b:Int))=false:=decide_eq_false (by omega)
  rw [j.out]
  go_enter Tryz.func51,Tryz.ntmps51
  go_wp2_with fail
  refine (o _).mono ?_
  rintro e f ⟨rfl,d⟩
  rw [d]
  clear d f
  go_wp2_with fail
  refine (q _).mono ?_
  rintro e f ⟨rfl,d⟩
  rw [d]
  clear d f
  go_wp2
  go_ret
  exact ⟨rfl,rfl⟩
theorem U3 (a b:Nat) (w:World):ag Tryz.prog 53 #[.int .i64 (a:Int),.int .i64 (b:Int)] w fun e s=>e=.returned (.int .i64 (JP a b))/\s=w:=by
 have o:=fun W=>AL a W
 have q:=fun W=>AL b W
 rcases aS a b with h | h | h
 ·have j:Hid (JP a b=-1):=if_pos h
  rw [j.out]
  go_enter Tryz.func53,Tryz.ntmps53
  go_wp2_with fail
  refine (o _).mono ?_
  rintro e f ⟨rfl,d⟩
  rw [d]
  clear d f
  go_wp2_with fail
  refine (q _).mono ?_
  rintro e f ⟨rfl,d⟩
  rw [d]
  clear d f
  go_wp2
  go_ret
  exact ⟨rfl,rfl⟩
 ·subst h
  have j:Hid (JP a a=0):=by show _=_;unfold JP;rw [if_neg (aA _),if_neg (aA _)]
  rw [j.out]
  go_enter Tryz.func53,Tryz.ntmps53
  go_wp2_with fail
  refine (o _).mono ?_
  rintro e f ⟨rfl,d⟩
  rw [d]
  clear d f
  go_wp2_with fail
  refine (q _).mono ?_
  rintro e f ⟨rfl,d⟩
  rw [d]
  clear d f
  go_wp2
  go_ret
  exact ⟨rfl,rfl⟩
 ·have j:Hid (JP a b=1):=by show _=_;unfold JP;rw [if_neg (by omega),if_pos h]
  have t:decide ((a:Int) < (b:Int))=false:=decide_eq_false (by omega)
  rw [j.out]
  go_enter Tryz.func53,Tryz.ntmps53
  go_wp2_with fail
  refine (o _).mono ?_
  rintro e f ⟨rfl,d⟩
  rw [d]
  clear d f
  go_wp2_with fail
  refine (q _).mono ?_
  rintro e f ⟨rfl,d⟩
  rw [d]
  clear d f
  go_wp2
  go_ret
  exact ⟨rfl,rfl⟩
theorem LW (x y:ByteArray) (w:World):ag Tryz.prog 52 #[.string x,.string y] w fun e G=>e=.returned (.int .i64 (gK x y))/\G=w:=by
 have s:=fun W=>I6 x W
 have t:=fun W=>I6 y W
 have D:Hid (∀ W,Sem.run Tryz.prog (binOp .gtr 9 (.string x) (.string y)) W=.ok (.bool !(au x.toList y.toList || x.toList==y.toList)) W):=fun W=>by simp [binOp,Op.stringOp]
 cases j:au x.toList y.toList with
 | true =>
  have q:Hid (gK x y=-1):=by show _=_;unfold gK;rw [j];rfl
  rw [q.out]
  go_enter Tryz.func52,Tryz.ntmps52
  go_wp2_with fail
  refine (s _).mono ?_
  rintro e f ⟨rfl,d⟩
  rw [d]
  clear d f
  go_wp2_with fail
  refine (t _).mono ?_
  rintro e f ⟨rfl,d⟩
  rw [d]
  clear d f
  go_wp2
  go_ret
  exact ⟨rfl,rfl⟩
 | false =>
  cases o:au y.toList x.toList with
  | true =>
   have q:Hid (gK x y=1):=by show _=_;unfold gK;rw [j,o];rfl
   have A:(x.toList==y.toList)=false:=by
    rw [beq_eq_false_iff_ne]
    intro e
    rw [e,qM] at o
    cases o
   have H:∀ W,Sem.run Tryz.prog (binOp .gtr 9 (.string x) (.string y)) W=.ok (.bool true) W:=fun W=>by rw [D.out W,j,A];rfl
   rw [q.out]
   go_enter Tryz.func52,Tryz.ntmps52
   go_wp2_with fail
   refine (s _).mono ?_
   rintro e f ⟨rfl,d⟩
   rw [d]
   clear d f
   go_wp2_with fail
   refine (t _).mono ?_
   rintro e f ⟨rfl,d⟩
   rw [d]
   clear d f
   go_wp2
   go_ret
   exact ⟨rfl,rfl⟩
  | false =>
   have q:Hid (gK x y=0):=by show _=_;unfold gK;rw [j,o];rfl
   have A:(x.toList==y.toList)=true:=by
    rw [beq_iff_eq]
    refine Classical.byContradiction fun h=>?_
    rcases xJ h with B | B
    ·rw [B] at j;cases j
    ·rw [B] at o;cases o
   have H:∀ W,Sem.run Tryz.prog (binOp .gtr 9 (.string x) (.string y)) W=.ok (.bool false) W:=fun W=>by rw [D.out W,j,A];rfl
   rw [q.out]
   go_enter Tryz.func52,Tryz.ntmps52
   go_wp2_with fail
   refine (s _).mono ?_
   rintro e f ⟨rfl,d⟩
   rw [d]
   clear d f
   go_wp2_with fail
   refine (t _).mono ?_
   rintro e f ⟨rfl,d⟩
   rw [d]
   clear d f
   go_wp2
   go_ret
   exact ⟨rfl,rfl⟩
def mG (a b c:Int):Int:=if a≠0 then a else if b≠0 then b else c
theorem OH (g o:Nat) (a b c:Int) (w:World) (W:w.cell? ⟨g,o,ab⟩=aa (.int .i64 a)) (Y:w.cell? ⟨g,o+1,ab⟩=aa (.int .i64 b)) (Z:w.cell? ⟨g,o+2,ab⟩=aa (.int .i64 c)) :
 ag Tryz.prog 50 #[.slice (aa ⟨g,o,ab⟩) 3 3] w fun e w'=>e=.returned (.int .i64 (mG a b c))/\w'=w:=by
 obtain ⟨f,q⟩:∃ f:Nat->Int,f=fun i=>if i=0 then a else if i=1 then b else c:=⟨_,rfl⟩
 have O:Hid (∀ i,i < 3->w.cell? ⟨g,o+i,ab⟩=aa (.int .i64 (f i))):=fun i G=>by
  rw [q]
  match i,G with
  | 0,_=>exact W
  | 1,_=>exact Y
  | 2,_=>exact Z
 obtain ⟨r,H⟩:∃ r,r=mG a b c:=⟨_,rfl⟩
 have Q:Hid (∀ i,i < 3->(∀ j,j < i->f j=0)->f i≠0->r=f i):=fun i G d I=>by
  rw [H,q]
  unfold mG
  match i,G with
  | 0,_=>rw [q] at I;have a0:a≠0:=I;rw [if_pos a0];rfl
  | 1,_ =>
   have:=d 0 (by omega)
   rw [q] at this I
   have s:a=0:=this
   have t:b≠0:=I
   rw [if_neg (by rw [s];decide),if_pos t];rfl
  | 2,_ =>
   have A:=d 0 (by omega)
   have B:=d 1 (by omega)
   rw [q] at A B
   have s:a=0:=A
   have t:b=0:=B
   rw [if_neg (by rw [s];decide),if_neg (by rw [t];decide)];rfl
 have R:Hid ((∀ j,j < 3->f j=0)->r=0):=fun d=>by
  have A:=d 0 (by omega)
  have B:=d 1 (by omega)
  have S:=d 2 (by omega)
  rw [q] at A B S
  have s:a=0:=A
  have t:b=0:=B
  have hc:c=0:=S
  rw [H,s,t,hc]
  decide
 rw [<- H]
 clear q H W Y Z
 go_enter Tryz.func50,Tryz.ntmps50
 go_wp2
 go_loop [8] (fun x=>∃ i:Nat,i<=3/\x=.int .i64 i/\∀ j,j < i->f j=0) (fun x=>3 - (intOf x).toNat)
 case atStart=>exact ⟨0,by omega,rfl,fun j K=>absurd K (ap _)⟩
 case round =>
  obtain ⟨i,G,rfl,d⟩:=hrel
  have J:Hid (∀ j,j < i->f j=0):=d
  clear d
  by_cases T:i < 3
  ·have q1:=O.out i T
   have L:Hid (f i≠0->r=f i):=Q.out i T J.out
   have M:Hid (f i=0->∀ j,j < i+1->f j=0):=fun h j K=>by
    rcases ae j i with U | U
    ·exact J.out j U
    ·obtain rfl:j=i:=by omega
     exact h
   clear J Q O R
   generalize f i=y at *
   by_cases D:y=0
   ·have V:=M.out D
    subst D
    have a2:Hid (∀ j,j < i+1->f j=0):=V
    clear V M L
    go_wp2
    go_round
    case rel=>exact ⟨i+1,by omega,by go_num,a2.out⟩
    case measure=>simp [intOf];omega
   ·have N:Hid (r=y):=L.out D
    have d1:(y==0)=false:=by rw [beq_eq_false_iff_ne];exact D
    have d2:(y != 0)=true:=by rw [bne_iff_ne];exact D
    clear L M
    go_wp2
    go_ret
    exact ⟨by rw [N.out];rfl,rfl⟩
  ·have N:Hid (r=0):=R.out (fun j K=>J.out j (by omega))
   go_wp2
   go_ret
   exact ⟨by rw [N.out];rfl,rfl⟩
end
section
structure eW (α:Type) where
 k:Nat
 pos:0 < k
 enc:α->List ar
 len:∀ x,(enc x).length=k
 one:∀ x,∀ u ∈ enc x,u.oneCell'=true
variable {α:Type} {E:eW α}
def Qb (E:eW α) (l:List α):List Value:=l.flatMap E.enc
theorem Qr (E:eW α):∀ l:List α,(Qb E l).length=l.length*E.k
 | []=>by simp [Qb]
 | x :: l=>by
  have:=Qr E l
  unfold Qb at this ⊢
  rw [ay,ai,this,E.len,List.length_cons,zg,bo,Nat.add_comm]
theorem Qj (E:eW α) (l m:List α):Qb E (l ++ m)=Qb E l ++ Qb E m:=by unfold Qb;rw [List.flatMap_append]
theorem qK (E:eW α) (x:α):Qb E [x]=E.enc x:=by simp [Qb]
theorem uH (E:eW α):∀ (l:List α) (i:Nat) (x:α),l[i]?=aa x->∀ j u,(E.enc x)[j]?=aa u->(Qb E l)[i*E.k+j]?=aa u
 | [],i,x,h,_,_,_=>by simp at h
 | y :: l,0,x,h,j,u,hj=>by
  obtain rfl:y=x:=by simpa using h
  unfold Qb
  rw [ay,bf,Nat.zero_add,List.getElem?_append_left (aw.1 hj).1]
  exact hj
 | y :: l,i+1,x,h,j,u,hj=>by
  have ih:=uH E l i x (by simpa using h) j u hj
  unfold Qb at ih ⊢
  rw [ay,List.getElem?_append_right (by rw [E.len];have:=Nat.le_mul_of_pos_left E.k (show 0 < i+1 by omega);omega),E.len]
  have e:(i+1)*E.k+j - E.k=i*E.k+j:=by rw [zg,bo];omega
  rw [e]
  exact ih
def Ql (E:eW α) (w:World) (p:Option zc) (l:List α):Prop :=
 l=[]∨∃ b o,p=aa ⟨b,o,ab⟩/\b < w.heap.size/\∀ i x,l[i]?=aa x->∀ j u,(E.enc x)[j]?=aa u->w.cell? ⟨b,o+i*E.k+j,ab⟩=aa u
theorem Ql.nil (w:World) (p:Option zc):Ql E w p []:=ak rfl
theorem Ql.drewN  {l:List α} (h:Ql E w p l) (n:Nat):Ql E (w.drewN n) p l:=h
theorem Ql.below {f:World} {l:List α} (h:Ql E w p l) (q:ac w.heap.size w f):Ql E f p l:=by
 rcases h with h | ⟨b,o,s,d,t⟩
 ·exact ak h
 ·exact al ⟨b,o,s,aP d q.size,fun i x A j u B=>(q.cell (p:=⟨b,o+i*E.k+j,ab⟩) d).trans (t i x A j u B)⟩
theorem Ql.b7 {f:World} {l:List α} (h:Ql E w p l) (q:ac B w f) (G:∀ b o,p=aa ⟨b,o,ab⟩->b < B):Ql E f p l:=by
 rcases h with h | ⟨b,o,d,s,t⟩
 ·exact ak h
 ·exact al ⟨b,o,d,aP s q.size,fun i x A j u D=>(q.cell (p:=⟨b,o+i*E.k+j,ab⟩) (G b o d)).trans (t i x A j u D)⟩
theorem Ql.take  {l:List α} (h:Ql E w p l) (m:Nat):Ql E w p (l.take m):=by
 rcases h with h | ⟨b,o,f,q,s⟩
 ·exact ak (by rw [h,List.take_nil])
 ·refine al ⟨b,o,f,q,fun i x d j u t=>s i x ?_ j u t⟩
  rw [List.getElem?_take] at d
  split at d
  ·exact d
  ·cases d
theorem Ql.drop  {l:List α} {m:Nat} (h:Ql E w p l) (q:m<=l.length) (I:l.length<=c) (G:p=ab->l=[]/\c=0) :
 Ql E w (if c=m then p else p.map (·.add (m*E.k))) (l.drop m)/\((if c=m then p else p.map (·.add (m*E.k)))=ab->l.drop m=[]/\c - m=0):=by
 by_cases e:c=m
 ·rw [if_pos e]
  have d:l.drop m=[]:=aG (by omega)
  exact ⟨ak d,fun _=>⟨d,by omega⟩⟩
 ·rw [if_neg e]
  cases p with
  | none =>
   obtain ⟨s,H⟩:=G rfl
   rw [s] at q
   simp at q
   omega
  | some a =>
   refine ⟨?_,fun d=>by cases d⟩
   rcases h with h | ⟨b,o,t,A,B⟩
   ·exact ak (by rw [h,bc])
   ·obtain rfl:a=⟨b,o,ab⟩:=by simpa using t
    refine al ⟨b,o+m*E.k,by simp [an],A,fun i x f j u D=>?_⟩
    rw [zd] at f
    have:=B (m+i) x f j u D
    rw [zg,<- aB] at this
    exact this
def Zc (E:eW α) (T:bj) (w:World) (B:Nat) (v:ar) (l:List α):Prop:=w.ownsRow B T E.k v l.length (Qb E l)
theorem Zc.nil (T:bj) (w:World) (B:Nat):Zc E T w B (.slice ab 0 0) []:=ze w B T E.k
theorem Zc.block   {l:List α} (h:Zc E T w B v l) (d:v.ownBlock=aa k):B<=k/\k < w.heap.size:=World.ownsRow.lt h k d
theorem Zc.kept {f:World}  {l:List α} (h:Zc E T w B v l) (d:ac w.heap.size w f):Zc E T f B v l :=
 World.ownsRow.kept (row:=ab) h ⟨d.os,d.tape,d.output,d.size,fun k j _=>d.block k j⟩ (by cases v.ownBlock <;> simp)
theorem Zc.base  {f:Nat} {l:List α} (h:Zc E T w B v l) (D:f<=B):Zc E T w f v l:=by
 obtain ⟨j,d⟩:=h
 refine ⟨j,?_⟩
 rcases d with d | ⟨g,o,q,s,t,A⟩
 ·exact ak d
 ·exact al ⟨g,o,q,s,Nat.le_trans D t,A⟩
theorem Zc.form   {l:List α} (h:Zc E T w B v l):∃ p c,v=.slice p l.length c/\Ql E w p l/\l.length<=c/\(p=ab->l=[]/\c=0)/\∀ b o,p=aa ⟨b,o,ab⟩->B<=b/\b < w.heap.size:=by
 have d:w.ownsRow B T E.k v l.length (Qb E l):=h
 rcases d.2 with ⟨rfl,s⟩ | ⟨g,t,J,rfl,A,D,G,K,L,M⟩
 ·have e:l=[]:=List.length_eq_zero_iff.1 s
  subst e
  exact ⟨ab,0,rfl,ak rfl,ao _,fun _=>⟨rfl,rfl⟩,fun _ _ h=>by cases h⟩
 ·have f:g < w.heap.size:=(Array.getElem?_eq_some_iff.1 D).1
  refine ⟨aa ⟨g,0,ab⟩,t,rfl,al ⟨g,0,rfl,f,fun i x H j u I=>?_⟩,G,fun h=>(by cases h),fun b o h=>?_⟩
  ·have q:=World.ownsRow.cells (g:=g) d rfl (i*E.k+j) u (uH E l i x H j u I)
   rw [an] at q
   rw [aB]
   exact q
  ·obtain ⟨rfl,rfl⟩:g=b/\0=o:=by simpa using h
   exact ⟨A,f⟩
theorem Zz (E:eW α) (l:List α):∀ u ∈ Qb E l,u.oneCell'=true:=fun u d=>by
 obtain ⟨x,_,f⟩:=List.mem_flatMap.1 d
 exact E.one x u f
theorem Ql.cells {o:Nat} {l:List α} (H:∀ i x,l[i]?=aa x->∀ j u,(E.enc x)[j]?=aa u->w.cell? ⟨b,o+i*E.k+j,ab⟩=aa u):∀ j u,(Qb E l)[j]?=aa u->w.cell? ((⟨b,o,ab⟩:zc).add j)=aa u:=by
 intro j u d
 have f:j < (Qb E l).length:=(aw.1 d).1
 rw [Qr] at f
 have h:=E.pos
 have G:j / E.k < l.length:=(Nat.div_lt_iff_lt_mul h).2 f
 have q:j % E.k < E.k:=aN _ h
 have s:l[j / E.k]?=aa l[j / E.k]:=aC G
 have t:(E.enc l[j / E.k])[j % E.k]?=aa ((E.enc l[j / E.k])[j % E.k]'(by rw [E.len];exact q)):=aC (by rw [E.len];exact q)
 have A:=uH E l (j / E.k) _ s (j % E.k) _ t
 have B:=H (j / E.k) _ s (j % E.k) _ t
 have D:j / E.k*E.k+j % E.k=j:=by rw [Nat.mul_comm];exact Nat.div_add_mod j E.k
 rw [D] at A
 rw [aB,D] at B
 rw [an,B,<- A,d]
section
variable {w:World}
theorem F4 {H:Array Oper} {o:Oper}  (K:o.guard=ab) (s x:Operand) (t T:bj)
 (L:o.op=.call { callee:=.builtin .append,args:=#[s,x],argTypes:=#[t,t] }) (z:ar) (aY:Nat) (M:Tryz.prog.underlying t=aa (.slice T))
 (a2:(Tryz.prog.info? T).map (fun i=>(i.zero,i.size,i.bytes))=aa (aa z,E.k,aY)) (a3:z.cells.size=E.k)
 (B:Nat) (v:ar) (l:List α) (N:a.eval s=v) (A:Zc E T w B v l) (q:Option zc) (r:List α) (c:Nat) (O:a.eval x=.slice q r.length c) (hq:Ql E w q r) (a4:q=ab->r=[]/\c=0) (hl:l.length+r.length<=aq) (a5:(l.length+r.length)*aY<=140737488355328) (R:B<=w.heap.size)
 (h:∀ f d,Zc E T d B f (l ++ r)->ac B w d->bi Tryz.prog H Q rest (a.put o.dst f) d):bi Tryz.prog H Q (o :: rest) a w:=by
 obtain ⟨I,J,S,U,V⟩:=info_parts a2
 have W:∀ f d,d.ownsRow B T E.k f (l.length+r.length) (Qb E l ++ Qb E r)->w.grownBy d v.ownBlock->bi Tryz.prog H Q rest (a.put o.dst f) d:=fun f d D G=>by
  refine h f d ?_ ((aj _ _).grown G R (fun k Y=>(A.block Y).1))
  unfold Zc
  rw [Qj,ai]
  exact D
 cases q with
 | none =>
  obtain ⟨Z,hc⟩:=a4 rfl
  subst Z hc
  refine wpList_append_own_none K s x _ L B T I E.k M J v l.length (Qb E l) N A O ?_
  have:=h v w (by rw [List.append_nil];exact A) (aj _ _)
  exact this
 | some ad =>
  refine az w K s x _ L B T I z E.k aY M J S U V a3 E.pos v l.length (Qb E l) N A ad r.length c (Qb E r) O (Qr E r) ?_ (Zz E r) hl a5 R (fun f d D G _=>W f d D G)
  rcases hq with h0 | ⟨b,o',hp,_,a0⟩
  ·subst h0
   intro j u hj
   simp [Qb] at hj
  ·obtain rfl:ad=⟨b,o',ab⟩:=by simpa using hp
   exact Ql.cells a0
theorem wJ {D:Array Oper} {o:Oper}  (H:o.guard=ab) (s x:Operand) (t T:bj)
 (I:o.op=.call { callee:=.builtin .append,args:=#[s,x],argTypes:=#[t,t] }) (z:ar) (aY:Nat) (J:Tryz.prog.underlying t=aa (.slice T))
 (K:(Tryz.prog.info? T).map (fun i=>(i.zero,i.size,i.bytes))=aa (aa z,E.k,aY)) (L:z.cells.size=E.k)
 (B:Nat) (v:ar) (l:List α) (M:a.eval s=v) (N:Zc E T w B v l) (b d c:Nat) (y:α) (O:a.eval x=.slice (aa ⟨b,d,ab⟩) 1 c) (R:∀ j u,(E.enc y)[j]?=aa u->w.cell? ⟨b,d+j,ab⟩=aa u) (S:l.length+1<=aq) (U:(l.length+1)*aY<=140737488355328) (V:B<=w.heap.size) (W:b < w.heap.size)
 (h:∀ A f,Zc E T f B A (l ++ [y])->ac B w f->bi Tryz.prog D Q rest (a.put o.dst A) f):bi Tryz.prog D Q (o :: rest) a w :=
 F4 (E:=E) H s x t T I z aY J K L B v l M N (aa ⟨b,d,ab⟩) [y] c O (al ⟨b,d,rfl,W,fun i x q j u G=>by
  match i,q with
  | 0,q =>
   obtain rfl:y=x:=by simpa using q
   rw [bf,Nat.add_zero]
   exact R j u G⟩) (fun e=>by cases e) S U V h
end
end
namespace Ring
structure qL (h:Nat) (nodes:List ByteArray) (R:Nat->Nat×ByteArray) (M:Nat):Prop where
 sorted:∀ i j,i < j->j < M->¬ eV (R j) (R i)
 mem:∀ i,i < M->(R i).2 ∈ nodes/\iV h (R i).2<=(R i).1
 all:∀ x ∈ nodes,∃ i,i < M/\R i=(iV h x,x)
structure Qz (h:Nat) (nodes:List ByteArray) (R:Nat->Nat×ByteArray) (n j:Nat) (out:List ByteArray):Prop where
 kX:XC h nodes out
 le:out.length<=n
 seen:out.length < n->∀ i,i < j->(R i).2 ∈ out
theorem Qz.start (h:Nat) (f:List ByteArray) (R:Nat->Nat×ByteArray) (n:Nat):Qz h f R n 0 []:=⟨XC.nil _ _,ax _,fun _ _ d=>absurd d (ap _)⟩
theorem Qz.full   (o:Qz h f R n j d) (s:¬ d.length < n):Qz h f R n (j+1) d:=⟨o.kX,o.le,fun q=>absurd q s⟩
theorem Qz.skip   (f:Qz h q R n j d) (t:(R j).2 ∈ d):Qz h q R n (j+1) d:=⟨f.kX,f.le,fun s i A=>by
 rcases ae i j with o | o
 ·exact f.seen s i o
 ·obtain rfl:i=j:=by omega
  exact t⟩
theorem Qz.push   (q:qL h o R M) (s:Qz h o R n j f) (K:j < M) (B:f.length < n) (L:(R j).2 ∉ f):Qz h o R n (j+1) (f ++ [(R j).2]):=by
 have t:=q.mem j K
 refine ⟨s.kX.next (a:=(R j).1) t.1 L t.2 (fun z D G H=>?_),by rw [ai];show f.length+1<=n;omega,fun _ i N=>?_⟩
 ·obtain ⟨i,I,e⟩:=q.all z D
  have A:eV (R i) (R j):=by rw [e];exact H
  rcases ae i j with d | d
  ·have:=s.seen B i d
   rw [e] at this
   exact G this
  ·by_cases J:i=j
   ·subst J
    exact vM _ A
   ·exact q.sorted j i (by omega) I A
 ·rcases ae i j with d | d
  ·exact List.mem_append_left _ (s.seen B i d)
  ·obtain rfl:i=j:=by omega
   exact List.mem_append_right _ (List.mem_singleton.2 rfl)
theorem Qz.done   (A:qL h d R M) (D:n<=d.length) (B:d.Nodup) (o:Qz h d R n M f):f.length=n:=by
 rcases ae f.length n with j | j
 ·exfalso
  obtain ⟨x,q,s⟩:=o5 B (show f.length < d.length by omega)
  obtain ⟨i,t,e⟩:=A.all x q
  have:=o.seen j i t
  rw [e] at this
  exact s this
 ·have:=o.le
  omega
def QZ (h f M:Nat) (Q:Nat->Nat×ByteArray) (j:Nat):Nat×ByteArray:=(rP h (Q ((f+j) % M)).1,(Q ((f+j) % M)).2)
theorem Jqs {p q:Nat×ByteArray} :eV (p.1+c,p.2) (q.1+c,q.2)↔eV p q:=by
 unfold eV
 constructor
 ·rintro (h | ⟨f,d⟩)
  ·have j:p.1+c < q.1+c:=h
   exact ak (by omega)
  ·have j:p.1+c=q.1+c:=f
   exact al ⟨by omega,d⟩
 ·rintro (h | ⟨f,d⟩)
  ·exact ak (by show p.1+c < q.1+c;omega)
  ·exact al ⟨by show p.1+c=q.1+c;omega,d⟩
theorem BU {f:Nat} {B:List ByteArray} {Q:Nat->Nat×ByteArray} (S:0 < M) (hf:f<=M) (T:∀ i,i < M->(Q i).1 < 4294967296) (J:∀ i j,i < j->j < M->¬ eV (Q j) (Q i))
 (U:∀ i,i < f->(Q i).1 < h) (V:∀ i,f<=i->i < M->h<=(Q i).1)
 (W:∀ i,i < M->(Q i).2 ∈ B/\∃ k,k < 8/\(Q i).1=kG (Q i).2 k) (Y:∀ x ∈ B,∀ k,k < 8->∃ i,i < M/\Q i=(kG x k,x)):qL h B (QZ h f M Q) M:=by
 have D:∀ i,i < f->rP h (Q i).1=(Q i).1+4294967296:=fun i G=>if_pos (U i G)
 have q:∀ i,f<=i->i < M->rP h (Q i).1=(Q i).1:=fun i d o=>if_neg (by have:=V i d o;omega)
 refine ⟨fun i j Z H=>?_,fun i G=>?_,fun x K=>?_⟩
 ·unfold QZ
  rcases ae (f+j) M with d | d
  ·rw [af d,af (show f+i < M by omega),q _ (by omega) d,q _ (by omega) (by omega)]
   exact J (f+i) (f+j) (by omega) d
  ·have s : (f + j) % M = f + j - M := by
    rw [aO d]
    exact af (by omega)
   rw [s,D (f+j - M) (by omega)]
   rcases ae (f+i) M with o | o
   ·rw [af o,q _ (by omega) o]
    have:=T (f+i) o
    rintro (t | ⟨t,_⟩)
    ·have L:(Q (f+j - M)).1+4294967296 < (Q (f+i)).1:=t
     omega
    ·have L:(Q (f+j - M)).1+4294967296=(Q (f+i)).1:=t
     omega
   ·have N : (f + i) % M = f + i - M := by
     rw [aO o]
     exact af (by omega)
    rw [N,D (f+i - M) (by omega),Jqs]
    exact J (f+i - M) (f+j - M) (by omega) (by omega)
 ·have O:(f+i) % M < M:=aN _ S
  obtain ⟨d,k,A,e⟩:=W _ O
  refine ⟨d,?_⟩
  show iV h (Q ((f+i) % M)).2<=rP h (Q ((f+i) % M)).1
  rw [e]
  exact U0 h _ k A
 ·obtain ⟨k,A,e⟩:=TA h x
  obtain ⟨i,I,R⟩:=Y x K k A
  obtain ⟨j,H,s⟩:∃ j,j < M/\(f+j) % M=i:=by
   rcases ae i f with d | d
   ·refine ⟨i+M - f,by omega,?_⟩
    rw [show f+(i+M - f)=i+M by omega,Nat.add_mod_right]
    exact af I
   ·refine ⟨i - f,by omega,?_⟩
    rw [show f+(i - f)=i by omega]
    exact af I
  refine ⟨j,H,?_⟩
  unfold QZ
  rw [s,R,<- e]
  rfl
end Ring
def qC (s:ByteArray) (p:Nat):Nat:=Gf.bT (Gf.nth (bytesOf s) (p / 8)) (p % 8)
theorem JdF (s:ByteArray) (p:Nat):qC s p < 2:=aN _ (by decide)
def u5 (s:ByteArray):Nat:=Crc.a1 (qC s) 4294967295 (8*s.size)
theorem x3 (s:ByteArray):u5 s < 2 ^ 32:=Crc.a7 (by decide) _
def y4 (s:ByteArray):Nat:=u5 s ^^^ 4294967295
theorem Jdz (s:ByteArray):y4 s < 2 ^ 32:=aM (x3 s) (by decide)
theorem JdA {q:Nat} (h:(c ^^^ q) % 2=1) (d:b=q % 2):Crc.step c b=c / 2 ^^^ 3988292384:=by
 unfold Crc.step Crc.back
 rw [Crc.bB] at h ⊢
 rw [if_pos (by rw [d];omega)]
 rfl
theorem Jdr {q:Nat} (h:(c ^^^ q) % 2=0) (d:b=q % 2):Crc.step c b=c / 2:=by
 unfold Crc.step Crc.back
 rw [Crc.bB] at h ⊢
 rw [if_neg (by rw [d];omega),Nat.xor_zero]
def Jdf (n:Nat):List Nat:=[n / 16777216 % 256,n / 65536 % 256,n / 256 % 256,n % 256]
def JdJ (n:Nat):ByteArray:=Jp (Jdf n)
def r9 (s:ByteArray):ByteArray:=s.extract 0 (s.size - 4)
def JdK (s:ByteArray):ByteArray:=s.extract (s.size - 4) s.size
theorem Jds (s:ByteArray):(r9 s).size=s.size - 4:=by unfold r9;simp
theorem Jdt {a b:ByteArray} (h:a.toList=b.toList):a=b:=by
 rw [ByteArray.toList_eq,ByteArray.toList_eq] at h
 exact ByteArray.ext (Array.toList_inj.1 h)
theorem WN (a b:Nat) (f:a < 4294967296) (h:b < 4294967296):bits .xor .u32 (a:Int) (b:Int)=((a ^^^ b:Nat):Int):=by
 have d:a ^^^ b < 2 ^ 32:=aM (by omega) (by omega)
 show IntKind.u32.wrap ((BitVec.ofInt 32 (a:Int) ^^^ BitVec.ofInt 32 (b:Int)).toNat:Int)=_
 rw [BitVec.toNat_xor,BitVec.ofInt_natCast,BitVec.ofInt_natCast,BitVec.toNat_ofNat,BitVec.toNat_ofNat,af (by omega),af (by omega)]
 show ((a ^^^ b:Nat):Int) % 4294967296=_
 omega
theorem IH (s:ByteArray) (w:World) (G:s.size<=1000000) :
 ag Tryz.prog 37 #[.string s] w fun e d=>e=.returned (.int .u32 ((lV s s.size:Nat):Int))/\d=w:=by
 go_enter Tryz.func37,Tryz.ntmps37
 go_wp2
 go_loop [3,7] (fun c x=>∃ i:Nat,i<=s.size/\x=.int .i64 i/\c=.int .u32 ((lV s i:Nat):Int)) (fun _ x=>s.size - (intOf x).toNat)
 case atStart=>exact ⟨0,ax _,rfl,rfl⟩
 case round =>
  obtain ⟨i,t,rfl,rfl⟩:=hrel
  have f:=B2 s i
  by_cases h:i < s.size
  ·have A:=EP s i h
   have B:=xK s i
   have j:Hid (lV s (i+1)=(lV s i ^^^ Gf.nth (bytesOf s) i)*16777619 % 4294967296):=by show _=_;rfl
   generalize lV s i=c at *
   generalize Gf.nth (bytesOf s) i=y at *
   have D:bits .xor .u32 (c:Int) (y:Int)=((c ^^^ y:Nat):Int):=WN _ _ f (by omega)
   generalize c ^^^ y=q at *
   go_wp2
   go_round
   case rel=>exact ⟨i+1,by omega,by go_num,by rw [j.out];congr 1⟩
   case measure=>simp [intOf];omega
  ·have o:i=s.size:=by omega
   subst o
   go_wp2
   go_ret
   exact ⟨rfl,rfl⟩
theorem Jdu  {l:List ByteArray} (h:Strs w p l) (f:k<=l.length) (G:l.length<=c) (B:p=ab->l=[]/\c=0) :
 Strs w (if c=k then p else p.map (·.add k)) (l.drop k)/\((if c=k then p else p.map (·.add k))=ab->l.drop k=[]/\c - k=0):=by
 by_cases e:c=k
 ·rw [if_pos e]
  have d:l.drop k=[]:=aG (by omega)
  exact ⟨ak d,fun _=>⟨d,by omega⟩⟩
 ·rw [if_neg e]
  cases p with
  | none =>
   obtain ⟨j,D⟩:=B rfl
   rw [j] at f
   simp at f
   omega
  | some a =>
   refine ⟨?_,fun d=>by cases d⟩
   rcases h with h | ⟨b,o,q,s,t⟩
   ·exact ak (by rw [h,bc])
   ·obtain rfl:a=⟨b,o,ab⟩:=by simpa using q
    refine al ⟨b,o+k,by simp [an],s,fun i A=>?_⟩
    rw [List.length_drop] at A
    rw [aB,t (k+i) (by omega)]
    congr 2
    unfold Yc
    rw [av,av,zd]
theorem Jc0 (p:Option zc) (l:List ByteArray) (c k:Nat) (j:k<=l.length) (W:World):Sem.run Tryz.prog (Instr.slice 22 (.slice p l.length c) (aa (.int .i64 (k:Int))) ab ab) W=.ok (.slice (if c=k then p else p.map (·.add k)) (l.drop k).length (c - k)) W:=by
 have d:(sizeOf (Tryz.prog.elem 22)).run Tryz.prog W=.ok 1 W:=by kernel_rfl
 have f:Tryz.prog.elem 22=9:=by kernel_rfl
 have h:Tryz.prog.underlying 22=aa (.slice (Tryz.prog.elem 22)):=by rw [f];exact Tryz.underlying22
 rw [run_slice_l W 22 p l.length c h .i64 (k:Int) (by omega) (by omega),d]
 simp [Result.andThen,sliced]
theorem Jda (p:Option zc) (l:List ByteArray) (c k:Nat) (o:k<=l.length) (q:l.length<=c) (W:World):Sem.run Tryz.prog (Instr.slice 22 (.slice p l.length c) ab (aa (.int .i64 (k:Int))) ab) W=.ok (.slice p (l.take k).length c) W:=by
 have d:(sizeOf (Tryz.prog.elem 22)).run Tryz.prog W=.ok 1 W:=by kernel_rfl
 have f:Tryz.prog.elem 22=9:=by kernel_rfl
 have h:Tryz.prog.underlying 22=aa (.slice (Tryz.prog.elem 22)):=by rw [f];exact Tryz.underlying22
 have j:(l.take k).length=k:=by rw [List.length_take];omega
 rw [run_slice_h W 22 p l.length c h .i64 (k:Int) (by omega) (by omega),d,j]
 simp [Result.andThen,sliced,Addr.add]
end Go.Proofs.YtppcijpgalaohaaGreatDoor
