/- Texts laid together. -/
import Derived.Test.YtppcijpgalaohaaGreatDoorGe5
import Derived.Shelf.LaysM
import Derived.Shelf.Strconv.Clone
import Derived.Shelf.Strconv.Itoa3
import Derived.Shelf.GgClosure.StringsIndexFuncTop
import Derived.Shelf.SlSortCmp.WholeK
import Derived.Shelf.SlicesQ.IndexFunc
namespace Go.Proofs
open Go.Shelf
def Tryz.lays316_ren : Go.Shelf.Ren := ⟨fun | 316 => 39 | n => n, fun | 9 => 9 | 3 => 3 | 4 => 4 | 37 => 102 | 0 => 0 | 127 => 103 | 5 => 5 | n => n, fun | n => n⟩
theorem Tryz.lays316 : Go.Proofs.LaysM.n316 Tryz.prog Tryz.lays316_ren := {
  mixed := by kernel_rfl
  f316 := Tryz.func39.trans (congrArg some (by kernel_rfl))
  t0 := Tryz.underlying0
  a0 := Tryz.isAgg0
  z0 := Tryz.sizeOf0
  v0 := Tryz.zeroValue0
  t3 := Tryz.underlying3
  a3 := Tryz.isAgg3
  z3 := Tryz.sizeOf3
  v3 := Tryz.zeroValue3
  t4 := Tryz.underlying4
  a4 := Tryz.isAgg4
  z4 := Tryz.sizeOf4
  v4 := Tryz.zeroValue4
  t9 := Tryz.underlying9
  a9 := Tryz.isAgg9
  z9 := Tryz.sizeOf9
  v9 := Tryz.zeroValue9
  t37 := Tryz.underlying102
  a37 := Tryz.isAgg102
  z37 := Tryz.sizeOf102
  v37 := Tryz.zeroValue102
  t127 := Tryz.underlying103
  a127 := Tryz.isAgg103
  z127 := Tryz.sizeOf103
  v127 := Tryz.zeroValue103
  t5 := Tryz.underlying5
  a5 := Tryz.isAgg5
  z5 := Tryz.sizeOf5
  v5 := Tryz.zeroValue5
  i0 := by kernel_rfl
  i3 := by kernel_rfl
  i4 := by kernel_rfl
  i5 := by kernel_rfl
  i9 := by kernel_rfl
  i37 := by kernel_rfl
  i127 := by kernel_rfl }
open Go.RowKit in
/-- internal/stringslite.Clone. -/
theorem Tryz.stringslite_Clone (s : ByteArray) (w : World) (hlim : s.size ≤ 281474976710656) :
    Calls Tryz.prog 39 #[.string s] w fun e w' => e = .returned (.string s) ∧ Below w.heap.size w w' := Any.stringslite_Clone Tryz.lays316 s w hlim
def Tryz.lays171_ren : Go.Shelf.Ren := ⟨fun | 171 => 47 | 243 => 61 | 246 => 68 | 283 => 79 | 284 => 80 | 285 => 81 | 286 => 82 | 129 => 78 | 317 => 88 | 318 => 89 | 319 => 90 | 320 => 91 | 337 => 93 | 338 => 94 | n => n, fun | 3 => 3 | 9 => 9 | 2 => 2 | 4 => 4 | 171 => 140 | 0 => 0 | 53 => 139 | 37 => 102 | 5 => 5 | 173 => 142 | 212 => 152 | 51 => 74 | 20 => 20 | 213 => 153 | 46 => 122 | 232 => 156 | 233 => 157 | n => n, fun | 17 => 13 | 18 => 14 | 19 => 15 | n => n⟩
theorem Tryz.lays171 : Go.Proofs.Lays.n171 Tryz.prog Tryz.lays171_ren := {
  mixed := by kernel_rfl
  f129 := Tryz.func78.trans (congrArg some (by kernel_rfl))
  f171 := Tryz.func47.trans (congrArg some (by kernel_rfl))
  f243 := Tryz.func61.trans (congrArg some (by kernel_rfl))
  f246 := Tryz.func68.trans (congrArg some (by kernel_rfl))
  f283 := Tryz.func79.trans (congrArg some (by kernel_rfl))
  f284 := Tryz.func80.trans (congrArg some (by kernel_rfl))
  f285 := Tryz.func81.trans (congrArg some (by kernel_rfl))
  f286 := Tryz.func82.trans (congrArg some (by kernel_rfl))
  f317 := Tryz.func88.trans (congrArg some (by kernel_rfl))
  f318 := Tryz.func89.trans (congrArg some (by kernel_rfl))
  f319 := Tryz.func90.trans (congrArg some (by kernel_rfl))
  f320 := Tryz.func91.trans (congrArg some (by kernel_rfl))
  f337 := Tryz.func93.trans (congrArg some (by kernel_rfl))
  f338 := Tryz.func94.trans (congrArg some (by kernel_rfl))
  t0 := Tryz.underlying0
  a0 := Tryz.isAgg0
  z0 := Tryz.sizeOf0
  v0 := Tryz.zeroValue0
  t2 := Tryz.underlying2
  a2 := Tryz.isAgg2
  z2 := Tryz.sizeOf2
  v2 := Tryz.zeroValue2
  t3 := Tryz.underlying3
  a3 := Tryz.isAgg3
  z3 := Tryz.sizeOf3
  v3 := Tryz.zeroValue3
  t4 := Tryz.underlying4
  a4 := Tryz.isAgg4
  z4 := Tryz.sizeOf4
  v4 := Tryz.zeroValue4
  t5 := Tryz.underlying5
  a5 := Tryz.isAgg5
  z5 := Tryz.sizeOf5
  v5 := Tryz.zeroValue5
  t9 := Tryz.underlying9
  a9 := Tryz.isAgg9
  z9 := Tryz.sizeOf9
  v9 := Tryz.zeroValue9
  t20 := Tryz.underlying20
  a20 := Tryz.isAgg20
  z20 := Tryz.sizeOf20
  v20 := Tryz.zeroValue20
  t37 := Tryz.underlying102
  a37 := Tryz.isAgg102
  z37 := Tryz.sizeOf102
  v37 := Tryz.zeroValue102
  t46 := Tryz.underlying122
  a46 := Tryz.isAgg122
  z46 := Tryz.sizeOf122
  v46 := Tryz.zeroValue122
  t51 := Tryz.underlying74
  a51 := Tryz.isAgg74
  z51 := Tryz.sizeOf74
  v51 := Tryz.zeroValue74
  t53 := Tryz.underlying139
  a53 := Tryz.isAgg139
  z53 := Tryz.sizeOf139
  v53 := Tryz.zeroValue139
  t171 := Tryz.underlying140
  a171 := Tryz.isAgg140
  z171 := Tryz.sizeOf140
  v171 := Tryz.zeroValue140
  t173 := Tryz.underlying142
  a173 := Tryz.isAgg142
  z173 := Tryz.sizeOf142
  v173 := Tryz.zeroValue142
  t212 := Tryz.underlying152
  a212 := Tryz.isAgg152
  z212 := Tryz.sizeOf152
  v212 := Tryz.zeroValue152
  t213 := Tryz.underlying153
  a213 := Tryz.isAgg153
  z213 := Tryz.sizeOf153
  t232 := Tryz.underlying156
  a232 := Tryz.isAgg156
  z232 := Tryz.sizeOf156
  v232 := Tryz.zeroValue156
  t233 := Tryz.underlying157
  a233 := Tryz.isAgg157
  z233 := Tryz.sizeOf157
  v233 := Tryz.zeroValue157
  g17 := by kernel_rfl
  g18 := by kernel_rfl
  g19 := by kernel_rfl }
open Go.RowKit in
/-- strconv.Itoa of a small number. -/
theorem Tryz.strconv_Itoa_small (i : Nat) (hi : i < 100) (w : World) :
    Calls Tryz.prog 47 #[.int .i64 i] w fun e w' => e = .returned (.string ⟨(Lib.decDigits i).toArray⟩) ∧ w' = w := Any.strconv_Itoa_small Tryz.lays171 i hi w
def Tryz.laysGw17_ren : Go.Shelf.Ren := ⟨fun | 17 => 31 | 15 => 46 | 20 => 60 | n => n, fun | 9 => 9 | 23 => 70 | 4 => 4 | 3 => 3 | 0 => 0 | 21 => 21 | n => n, fun | n => n⟩
theorem Tryz.laysGw17 : Go.Proofs.LaysGw.n17 Tryz.prog Tryz.laysGw17_ren := {
  mixed := by kernel_rfl
  f15 := Tryz.func46.trans (congrArg some (by kernel_rfl))
  f17 := Tryz.func31.trans (congrArg some (by kernel_rfl))
  f20 := Tryz.func60.trans (congrArg some (by kernel_rfl))
  t0 := Tryz.underlying0
  a0 := Tryz.isAgg0
  z0 := Tryz.sizeOf0
  v0 := Tryz.zeroValue0
  i0 := by kernel_rfl
  t3 := Tryz.underlying3
  a3 := Tryz.isAgg3
  z3 := Tryz.sizeOf3
  v3 := Tryz.zeroValue3
  i3 := by kernel_rfl
  t4 := Tryz.underlying4
  a4 := Tryz.isAgg4
  z4 := Tryz.sizeOf4
  v4 := Tryz.zeroValue4
  i4 := by kernel_rfl
  t9 := Tryz.underlying9
  a9 := Tryz.isAgg9
  z9 := Tryz.sizeOf9
  v9 := Tryz.zeroValue9
  i9 := by kernel_rfl
  t21 := Tryz.underlying21
  a21 := Tryz.isAgg21
  z21 := Tryz.sizeOf21
  v21 := Tryz.zeroValue21
  i21 := by kernel_rfl
  t23 := Tryz.underlying70
  a23 := Tryz.isAgg70
  z23 := Tryz.sizeOf70
  v23 := Tryz.zeroValue70
  i23 := by kernel_rfl }
open Go.RowKit in
/-- strings.ContainsFunc. -/
theorem Tryz.strings_ContainsFunc (g : Nat) (lb : Array Value) (eg : ∀ args w, (callFunc g args).run Tryz.prog w = .ok (.enter g args) w) (p : Nat → Bool) (s : ByteArray) (w : World) (hp : PredAt Tryz.prog g lb encR p w) :
    Calls Tryz.prog 31 #[.string s, .func (.func g) #[] lb] w fun e w' => e = .returned (.bool (decide (0 ≤ Lib.idxFunc p true s))) ∧ Below w.heap.size w w' := Any.strings_ContainsFunc Tryz.laysGw17 g lb eg p s w hp
def Tryz.laysF6_ren : Go.Shelf.Ren := ⟨fun | 6 => 48 | 15 => 63 | 14 => 62 | 28 => 77 | 29 => 78 | 20 => 69 | 21 => 70 | 22 => 71 | 23 => 72 | 24 => 73 | 25 => 74 | 26 => 75 | 27 => 76 | 46 => 83 | 47 => 84 | 48 => 85 | 49 => 86 | 50 => 87 | 57 => 92 | n => n, fun | 22 => 71 | 24 => 92 | 25 => 98 | 3 => 3 | 39 => 122 | 0 => 0 | 53 => 74 | 55 => 139 | 4 => 4 | 46 => 131 | 45 => 130 | 50 => 135 | 5 => 5 | 9 => 9 | 66 => 144 | 70 => 148 | 76 => 154 | 77 => 46 | n => n, fun | n => n⟩
theorem Tryz.laysF6 : Go.Proofs.SlLaysF0.n6 Tryz.prog Tryz.laysF6_ren := {
  mixed := by kernel_rfl
  f6 := ⟨Tryz.f48.name, by decide, Tryz.func48.trans (congrArg some (by kernel_rfl))⟩
  f14 := ⟨Tryz.f62.name, by decide, Tryz.func62.trans (congrArg some (by kernel_rfl))⟩
  f15 := Tryz.func63.trans (congrArg some (by kernel_rfl))
  f20 := ⟨Tryz.f69.name, by decide, Tryz.func69.trans (congrArg some (by kernel_rfl))⟩
  f21 := ⟨Tryz.f70.name, by decide, Tryz.func70.trans (congrArg some (by kernel_rfl))⟩
  f22 := ⟨Tryz.f71.name, by decide, Tryz.func71.trans (congrArg some (by kernel_rfl))⟩
  f23 := ⟨Tryz.f72.name, by decide, Tryz.func72.trans (congrArg some (by kernel_rfl))⟩
  f24 := ⟨Tryz.f73.name, by decide, Tryz.func73.trans (congrArg some (by kernel_rfl))⟩
  f25 := ⟨Tryz.f74.name, by decide, Tryz.func74.trans (congrArg some (by kernel_rfl))⟩
  f26 := ⟨Tryz.f75.name, by decide, Tryz.func75.trans (congrArg some (by kernel_rfl))⟩
  f27 := ⟨Tryz.f76.name, by decide, Tryz.func76.trans (congrArg some (by kernel_rfl))⟩
  f28 := Tryz.func77.trans (congrArg some (by kernel_rfl))
  f29 := Tryz.func78.trans (congrArg some (by kernel_rfl))
  f46 := ⟨Tryz.f83.name, by decide, Tryz.func83.trans (congrArg some (by kernel_rfl))⟩
  f47 := Tryz.func84.trans (congrArg some (by kernel_rfl))
  f48 := Tryz.func85.trans (congrArg some (by kernel_rfl))
  f49 := ⟨Tryz.f86.name, by decide, Tryz.func86.trans (congrArg some (by kernel_rfl))⟩
  f50 := ⟨Tryz.f87.name, by decide, Tryz.func87.trans (congrArg some (by kernel_rfl))⟩
  f57 := ⟨Tryz.f92.name, by decide, Tryz.func92.trans (congrArg some (by kernel_rfl))⟩
  t0 := Tryz.underlying0
  a0 := Tryz.isAgg0
  z0 := Tryz.sizeOf0
  v0 := Tryz.zeroValue0
  t3 := Tryz.underlying3
  a3 := Tryz.isAgg3
  z3 := Tryz.sizeOf3
  v3 := Tryz.zeroValue3
  t4 := Tryz.underlying4
  a4 := Tryz.isAgg4
  z4 := Tryz.sizeOf4
  v4 := Tryz.zeroValue4
  t5 := Tryz.underlying5
  a5 := Tryz.isAgg5
  z5 := Tryz.sizeOf5
  v5 := Tryz.zeroValue5
  t9 := Tryz.underlying9
  a9 := Tryz.isAgg9
  z9 := Tryz.sizeOf9
  v9 := Tryz.zeroValue9
  t22 := Tryz.underlying71
  a22 := Tryz.isAgg71
  z22 := Tryz.sizeOf71
  v22 := Tryz.zeroValue71
  t25 := Tryz.underlying98
  a25 := Tryz.isAgg98
  z25 := Tryz.sizeOf98
  v25 := Tryz.zeroValue98
  t39 := Tryz.underlying122
  a39 := Tryz.isAgg122
  z39 := Tryz.sizeOf122
  v39 := Tryz.zeroValue122
  t45 := Tryz.underlying130
  a45 := Tryz.isAgg130
  z45 := Tryz.sizeOf130
  v45 := Tryz.zeroValue130
  t46 := Tryz.underlying131
  a46 := Tryz.isAgg131
  z46 := Tryz.sizeOf131
  v46 := Tryz.zeroValue131
  t50 := Tryz.underlying135
  a50 := Tryz.isAgg135
  z50 := Tryz.sizeOf135
  v50 := Tryz.zeroValue135
  t53 := Tryz.underlying74
  a53 := Tryz.isAgg74
  z53 := Tryz.sizeOf74
  v53 := Tryz.zeroValue74
  t55 := Tryz.underlying139
  a55 := Tryz.isAgg139
  z55 := Tryz.sizeOf139
  v55 := Tryz.zeroValue139
  t66 := Tryz.underlying144
  a66 := Tryz.isAgg144
  z66 := Tryz.sizeOf144
  v66 := Tryz.zeroValue144
  t70 := Tryz.underlying148
  a70 := Tryz.isAgg148
  z70 := Tryz.sizeOf148
  v70 := Tryz.zeroValue148
  t76 := Tryz.underlying154
  a76 := Tryz.isAgg154
  z76 := Tryz.sizeOf154
  v76 := Tryz.zeroValue154
  t77 := Tryz.underlying46
  a77 := Tryz.isAgg46
  z77 := Tryz.sizeOf46
  v77 := Tryz.zeroValue46 }
open Go.RowKit Go.Sort in
/-- slices.SortFunc at points. -/
theorem Tryz.slices_SortFunc {α : Type} [Inhabited α] (k : Nat) (aE : ∀ w, (isAgg 92).run Tryz.prog w = .ok true w) (zE : ∀ w, (Go.sizeOf 92).run Tryz.prog w = .ok k w) (enc : α → List Value) (hk : ∀ x, (enc x).length = k) (h1 : ∀ x, ∀ v ∈ enc x, v.oneCell' = true) (cf : α → α → Int) (hO : SWO (ltOf cf)) (g : Nat) (cb : Array Value) (blk off cap : Nat) (d : Array α) (w : World)
    (eg : ∀ args w, (callFunc g args).run Tryz.prog w = .ok (.enter g args) w) (hcmp : CmpLays Tryz.prog g cb enc k cf blk off d.size w) (hH : HoldsK enc k w blk off d) (hblk : blk < w.heap.size) (hsz : d.size < 4611686018427387904) :
    Calls Tryz.prog 48 #[.slice (some ⟨blk, off, none⟩) d.size cap, .func (.func g) #[] cb] w fun e w' =>
      e = .returned (.tuple #[]) ∧ ∃ d' n os, PermIn 0 d.size d d' ∧ SortedIn (ltOf cf) 0 d.size d' ∧ w' = sortWorldK enc k w blk off n d' os := AnyQ.slices_SortFunc Tryz.laysF6 k aE zE enc hk h1 cf hO g cb blk off cap d w eg hcmp hH hblk hsz
def Tryz.laysH6_ren : Go.Shelf.Ren := ⟨fun | 6 => 54 | n => n, fun | 22 => 71 | 23 => 92 | 25 => 100 | 3 => 3 | 0 => 0 | 4 => 4 | n => n, fun | n => n⟩
theorem Tryz.laysH6 : Go.Proofs.SlLaysH0.n6 Tryz.prog Tryz.laysH6_ren := {
  mixed := by kernel_rfl
  f6 := ⟨Tryz.f54.name, by decide, Tryz.func54.trans (congrArg some (by kernel_rfl))⟩
  t0 := Tryz.underlying0
  a0 := Tryz.isAgg0
  z0 := Tryz.sizeOf0
  v0 := Tryz.zeroValue0
  t3 := Tryz.underlying3
  a3 := Tryz.isAgg3
  z3 := Tryz.sizeOf3
  v3 := Tryz.zeroValue3
  t4 := Tryz.underlying4
  a4 := Tryz.isAgg4
  z4 := Tryz.sizeOf4
  v4 := Tryz.zeroValue4
  t22 := Tryz.underlying71
  a22 := Tryz.isAgg71
  z22 := Tryz.sizeOf71
  v22 := Tryz.zeroValue71
  t25 := Tryz.underlying100
  a25 := Tryz.isAgg100
  z25 := Tryz.sizeOf100
  v25 := Tryz.zeroValue100 }
open Go.RowKit in
/-- slices.IndexFunc at points. -/
theorem Tryz.slices_IndexFunc {α : Type} [Inhabited α] (k : Nat) (aE : ∀ w, (isAgg 92).run Tryz.prog w = .ok true w) (zE : ∀ w, (Go.sizeOf 92).run Tryz.prog w = .ok k w) (enc : α → List Value) (hk : ∀ x, (enc x).length = k)
    (p : α → Bool) (g : Nat) (lb : Array Value) (eg : ∀ args w, (callFunc g args).run Tryz.prog w = .ok (.enter g args) w) (b off n c : Nat) (zs : List α) (w : World)
    (hp : PredBelow Tryz.prog g lb (fun x => .agg (enc x).toArray) p w) (hz : n ≤ zs.length) (hbig : n ≤ 9223372036854775807) (hb : b < w.heap.size)
    (hc : ∀ j, j < zs.length → ∀ i v, (enc zs[j]!)[i]? = some v → w.cell? ⟨b, off + j * k + i, none⟩ = some v) :
    Calls Tryz.prog 54 #[.slice (some ⟨b, off, none⟩) n c, .func (.func g) #[] lb] w fun e w' => e = .returned (.int .i64 (Lib.idxBy (fun _ y => p y) (zs.take n) default)) ∧ Below w.heap.size w w' := AnyQ.slices_IndexFunc Tryz.laysH6 k aE zE enc hk p g lb eg b off n c zs w hp hz hbig hb hc
end Go.Proofs
namespace Go.Proofs.YtppcijpgalaohaaGreatDoor
open Go.RowKit
section
open Ring
theorem pair_at {w6 w7 : World} {t : TypeId} {x y : Value} (hw7 : w7 = w6.alloc (.cells #[x, y] t)) {W : World} (hW : Below w7.heap.size w7 W) :
    (W.cell? ⟨w6.heap.size, 0, none⟩ = some x ∧ W.cell? ⟨w6.heap.size, 1, none⟩ = some y) ∧ W.frozen? ⟨w6.heap.size, 0, none⟩ = false ∧ W.frozen? ⟨w6.heap.size, 1, none⟩ = false := by
  have hlt7 : w6.heap.size < w7.heap.size := by rw [hw7]; simp
  have q1 : w7.cell? ⟨w6.heap.size, 0, none⟩ = some x := by rw [hw7, World.cell?_alloc_at _ _ _ _ rfl]; rfl
  have q2 : w7.cell? ⟨w6.heap.size, 1, none⟩ = some y := by rw [hw7, World.cell?_alloc_at _ _ _ _ rfl]; rfl
  have e1 : w7.frozen? ⟨w6.heap.size, 0, none⟩ = false := by rw [hw7]; unfold World.frozen?; rw [heap_alloc_new]; rfl
  have e2 : w7.frozen? ⟨w6.heap.size, 1, none⟩ = false := by rw [hw7]; unfold World.frozen?; rw [heap_alloc_new]; rfl
  exact ⟨⟨(hW.cell (p := ⟨w6.heap.size, 0, none⟩) hlt7).trans q1, (hW.cell (p := ⟨w6.heap.size, 1, none⟩) hlt7).trans q2⟩, (hW.frozen (p := ⟨w6.heap.size, 0, none⟩) hlt7).trans e1, (hW.frozen (p := ⟨w6.heap.size, 1, none⟩) hlt7).trans e2⟩
theorem off_ne {g a b : Nat} (h : a ≠ b) : (⟨g, a, none⟩ : Addr) ≠ ⟨g, b, none⟩ := fun e => h (congrArg Addr.off e)
theorem pair_store {w5 w8 : World} {g : Nat} (hg : w5.heap.size ≤ g) (hb : Below w5.heap.size w5 w8) {x y : Value} (r1 : w8.cell? ⟨g, 0, none⟩ = some x) (r2 : w8.cell? ⟨g, 1, none⟩ = some y) (e1 : w8.frozen? ⟨g, 0, none⟩ = false) (e2 : w8.frozen? ⟨g, 1, none⟩ = false) (a b : Int) :
    ((w8.setCell ⟨g, 0, none⟩ (.int .i64 a)).setCell ⟨g, 1, none⟩ (.int .i64 b)).cell? ⟨g, 0, none⟩ = some (.int .i64 a) ∧ ((w8.setCell ⟨g, 0, none⟩ (.int .i64 a)).setCell ⟨g, 1, none⟩ (.int .i64 b)).cell? ⟨g, 1, none⟩ = some (.int .i64 b) ∧
      ((w8.setCell ⟨g, 0, none⟩ (.int .i64 a)).setCell ⟨g, 1, none⟩ (.int .i64 b)).frozen? ⟨g, 0, none⟩ = false ∧ ((w8.setCell ⟨g, 0, none⟩ (.int .i64 a)).setCell ⟨g, 1, none⟩ (.int .i64 b)).frozen? ⟨g, 1, none⟩ = false ∧
      Below w5.heap.size w5 ((w8.setCell ⟨g, 0, none⟩ (.int .i64 a)).setCell ⟨g, 1, none⟩ (.int .i64 b)) := by
  refine ⟨?_, ?_, by rw [World.frozen?_setCell, World.frozen?_setCell]; exact e1, by rw [World.frozen?_setCell, World.frozen?_setCell]; exact e2, (hb.setCell hg _).setCell hg _⟩
  · rw [World.cell?_setCell_other _ _ _ _ (off_ne (by decide))]
    exact World.cell?_setCell_same _ _ _ r1
  · exact World.cell?_setCell_same _ _ _ ((World.cell?_setCell_other _ _ _ _ (off_ne (by decide))).trans r2)
set_option maxRecDepth 10000 in
set_option maxHeartbeats 8000000 in
theorem ringMoves_pass (po pn pk : Option Addr) (old now keys : List ByteArray) (co cn ck : Nat) (n : Int) (ad : Nat → Addr) (w : World) (hlo : old.length ≤ maxLen) (hxo : ∀ x ∈ old, x.size ≤ maxLen) (hln : now.length ≤ maxLen) (hxn : ∀ x ∈ now, x.size ≤ maxLen) (hso : Strs w po old) (hsn : Strs w pn now) (hR : RingOk ad) (hS : Sent w ad) (h : ¬ (longL old = false ∧ longL now = false ∧ ¬ (20 < keys.length ∧ keys.length ≤ 200))) :
    Calls Tryz.prog 4 #[.slice po old.length co, .slice pn now.length cn, .slice pk keys.length ck, .int .i64 n] w fun e w' => e = .returned (.bool true) ∧ Below w.heap.size w w' := by
  have HU := round_any ad w hR hS.errs
  have HLO : Hid (∀ W, Strs W po old → Calls Tryz.prog 6 #[.slice po old.length co] W fun e w' => e = .returned (.bool (longL old)) ∧ w' = W) := fun W hW => longTexts_any po old co W hlo hxo hW
  have HLN : Hid (∀ W, Strs W pn now → Calls Tryz.prog 6 #[.slice pn now.length cn] W fun e w' => e = .returned (.bool (longL now)) ∧ w' = W) := fun W hW => longTexts_any pn now cn W hln hxn hW
  have HSO : Hid (Strs w po old) := hso
  have HSN : Hid (Strs w pn now) := hsn
  have HH : Hid (¬ (longL old = false ∧ longL now = false ∧ ¬ (20 < keys.length ∧ keys.length ≤ 200))) := h
  clear hso hsn hxo hxn hR hS h hlo hln
  generalize longL old = r at *
  generalize longL now = s at *
  have walk : r = true ∨ r = false ∧ (s = true ∨ s = false ∧ (20 < keys.length ∧ keys.length ≤ 200)) := by
    cases r with
    | true => exact Or.inl rfl
    | false =>
      refine Or.inr ⟨rfl, ?_⟩
      cases s with
      | true => exact Or.inl rfl
      | false => exact Or.inr ⟨rfl, Classical.byContradiction fun h2 => HH.out ⟨rfl, rfl, h2⟩⟩
  clear HH
  rcases walk with rfl | ⟨rfl, rfl | ⟨rfl, h1, h2⟩⟩
  · go_enter Tryz.func4, Tryz.ntmps4
    go_wp2_with fail
    refine HU.mono ?_
    rintro e w1 ⟨rfl, hb1⟩
    have HB1 : Hid (Below w.heap.size w w1) := hb1
    clear hb1 HU
    go_wp2_with fail
    refine (HLO.out _ (HSO.out.below HB1.out)).mono ?_
    rintro e w2 ⟨rfl, hw2⟩
    rw [hw2]
    clear hw2 w2
    go_wp2
    go_ret
    exact ⟨rfl, HB1.out⟩
  all_goals
    go_enter Tryz.func4, Tryz.ntmps4
    go_wp2_with fail
    refine HU.mono ?_
    rintro e w1 ⟨rfl, hb1⟩
    have HB1 : Hid (Below w.heap.size w w1) := hb1
    clear hb1 HU
    go_wp2_with fail
    refine (HLO.out _ (HSO.out.below HB1.out)).mono ?_
    rintro e w2 ⟨rfl, hw2⟩
    rw [hw2]
    clear hw2 w2
    go_wp2_with fail
    refine (HLN.out _ (HSN.out.below HB1.out)).mono ?_
    rintro e w2 ⟨rfl, hw2⟩
    rw [hw2]
    clear hw2 w2
    go_wp2
    go_ret
    exact ⟨rfl, HB1.out⟩
set_option maxRecDepth 10000 in
set_option maxHeartbeats 16000000 in
theorem ringMoves_many (po pn pk : Option Addr) (old now keys : List ByteArray) (co cn ck : Nat) (n : Int) (ad : Nat → Addr) (w : World) (hlong : longL old = false) (hlong2 : longL now = false) (hkk : 200 < keys.length) (hkl : keys.length ≤ 8796093021952) (hkx : ∀ x ∈ keys, x.size ≤ maxLen)
    (hco : old.length ≤ co) (hcn : now.length ≤ cn) (_hck : keys.length ≤ ck) (hno : po = none → old = [] ∧ co = 0) (hnn : pn = none → now = [] ∧ cn = 0) (hnk : pk = none → keys = [] ∧ ck = 0) (hso : Strs w po old) (hsn : Strs w pn now) (hsk : Strs w pk keys) (hR : RingOk ad) (hM : MovesOk ad) (hS : Sent w ad) :
    Calls Tryz.prog 4 #[.slice po old.length co, .slice pn now.length cn, .slice pk keys.length ck, .int .i64 n] w fun e w' => e = .returned (.bool true) ∧ Below w.heap.size w w' := by
  obtain ⟨hlo, hxo⟩ := longL_fine hlong
  obtain ⟨hln, hxn⟩ := longL_fine hlong2
  have HU := round_any ad w hR hS.errs
  have HLO : Hid (∀ W, Strs W po old → Calls Tryz.prog 6 #[.slice po old.length co] W fun e w' => e = .returned (.bool (longL old)) ∧ w' = W) := fun W hW => longTexts_any po old co W (by unfold maxLen; omega) (fun x hxm => by have := hxo x hxm; unfold maxLen; omega) hW
  have HLN : Hid (∀ W, Strs W pn now → Calls Tryz.prog 6 #[.slice pn now.length cn] W fun e w' => e = .returned (.bool (longL now)) ∧ w' = W) := fun W hW => longTexts_any pn now cn W (by unfold maxLen; omega) (fun x hxm => by have := hxn x hxm; unfold maxLen; omega) hW
  rw [hlong] at HLO
  rw [hlong2] at HLN
  have HOO : Hid (∀ W, Strs W po old → Calls Tryz.prog 9 #[.slice po old.length co] W fun e w' => (∃ v, e = .returned v ∧ OwnT w' W.heap.size v old) ∧ Below W.heap.size W w') := fun W hW => ownTexts_any po old co W (by omega) hW hno
  have HON : Hid (∀ W, Strs W pn now → Calls Tryz.prog 9 #[.slice pn now.length cn] W fun e w' => (∃ v, e = .returned v ∧ OwnT w' W.heap.size v now) ∧ Below W.heap.size W w') := fun W hW => ownTexts_any pn now cn W (by omega) hW hnn
  have HOK : Hid (∀ W, Strs W pk keys → Calls Tryz.prog 9 #[.slice pk keys.length ck] W fun e w' => (∃ v, e = .returned v ∧ OwnT w' W.heap.size v keys) ∧ Below W.heap.size W w') := fun W hW => ownTexts_any pk keys ck W hkl hW hnk
  have HFO : Hid (∀ W, Strs W po old → Calls Tryz.prog 12 #[.slice po old.length co, .int .i64 n] W fun e w' => e = .returned (.agg #[.int .i64 (preferF old n).1, .int .i64 (preferF old n).2]) ∧ Below W.heap.size W w') := fun W hW => preferFault_any po old co n W (by omega) hco (fun x hxm => by have := hxo x hxm; omega) hW
  have HFN : Hid (∀ W, Strs W pn now → Calls Tryz.prog 12 #[.slice pn now.length cn, .int .i64 n] W fun e w' => e = .returned (.agg #[.int .i64 (preferF now n).1, .int .i64 (preferF now n).2]) ∧ Below W.heap.size W w') := fun W hW => preferFault_any pn now cn n W (by omega) hcn (fun x hxm => by have := hxn x hxm; omega) hW
  have HMV : Hid ((∀ x ∈ keys, x.size ≤ 100) → ∀ p1 c1 p2 c2 p3 c3 W, old.length ≤ c1 → now.length ≤ c2 → keys.length ≤ c3 → Strs W p1 old → Strs W p2 now → Strs W p3 keys → Sent W ad → Calls Tryz.prog 15 #[.slice p1 old.length c1, .slice p2 now.length c2, .slice p3 keys.length c3, .int .i64 n] W fun e w' => MovesAns w' ad old now keys n e ∧ Below W.heap.size W w') := fun hkx' p1 c1 p2 c2 p3 c3 W h1 h2 h3 h4 h5 h6 h7 => hM p1 p2 p3 old now keys c1 c2 c3 n W (by omega) (by omega) hkl h1 h2 h3 (fun x hx => by have := hxo x hx; omega) (fun x hx => by have := hxn x hx; omega) (fun x hx => by have := hkx' x hx; omega) h4 h5 h6 h7.errs
  have HFL : Hid (∀ ev x y W, Sent W ad → ErrIs W ad ev x y → Calls Tryz.prog 7 #[ev, .agg #[.int .i64 x, .int .i64 y]] W fun e w' => e = .returned (.bool true) ∧ Below W.heap.size W w') := fun ev x y W h1 h2 => faulted_any ad ev x y W h1 h2
  have HRO : Hid (¬ 0 < (preferF old n).1 → ∀ key : ByteArray, key.size ≤ 100 → ∀ W, Strs W po old → Calls Tryz.prog 14 #[.slice po old.length co, .string key, .int .i64 n] W fun e w' => (∃ v out, e = .returned v ∧ OwnT w' W.heap.size v out ∧ (out.length : Int) = n ∧ Pref (hashOf key) old out) ∧ Below W.heap.size W w') := fun hf key hkey W hW => by
    obtain ⟨h1, h2, h3, h4⟩ := preferF_fine hf
    obtain ⟨m, rfl⟩ := Int.eq_ofNat_of_zero_le h2
    obtain ⟨h5, h6, h7⟩ := nodesF_zero h1
    obtain ⟨h8, h9⟩ := nodesF_fine h1
    refine (rprefer_any po old co key m W h6 h7 (by omega) (by omega) (fun x hxm => (isN_size (h8 x hxm)).2) h9 hW).mono ?_
    rintro e w' ⟨⟨v, out, he, hO, hl, hP⟩, hb⟩
    exact ⟨⟨v, out, he, hO, by rw [hl], hP⟩, hb⟩
  have HRN : Hid (¬ 0 < (preferF now n).1 → ∀ key : ByteArray, key.size ≤ 100 → ∀ W, Strs W pn now → Calls Tryz.prog 14 #[.slice pn now.length cn, .string key, .int .i64 n] W fun e w' => (∃ v out, e = .returned v ∧ OwnT w' W.heap.size v out ∧ (out.length : Int) = n ∧ Pref (hashOf key) now out) ∧ Below W.heap.size W w') := fun hf key hkey W hW => by
    obtain ⟨h1, h2, h3, h4⟩ := preferF_fine hf
    obtain ⟨m, rfl⟩ := Int.eq_ofNat_of_zero_le h2
    obtain ⟨h5, h6, h7⟩ := nodesF_zero h1
    obtain ⟨h8, h9⟩ := nodesF_fine h1
    refine (rprefer_any pn now cn key m W h6 h7 (by omega) (by omega) (fun x hxm => (isN_size (h8 x hxm)).2) h9 hW).mono ?_
    rintro e w' ⟨⟨v, out, he, hO, hl, hP⟩, hb⟩
    exact ⟨⟨v, out, he, hO, by rw [hl], hP⟩, hb⟩
  have HNB : Hid (¬ 0 < (preferF old n).1 → n ≤ 40) := fun hf => by have := (preferF_fine hf).2.2.1; omega
  have HSM : Hid (∀ pa pb la lb ca cb W, la.length ≤ 1000000 → lb.length ≤ 1000000 → Strs W pa la → Strs W pb lb → Calls Tryz.prog 13 #[.slice pa la.length ca, .slice pb lb.length cb] W fun e w' => e = .returned (.bool (decide (la = lb))) ∧ Below W.heap.size W w') := fun pa pb la lb ca cb W h1 h2 h3 h4 => sameTexts_any pa pb la lb ca cb W h1 h2 h3 h4
  have HSO : Hid (Strs w po old) := hso
  have HSN : Hid (Strs w pn now) := hsn
  have HSK : Hid (Strs w pk keys) := hsk
  have HT : Hid (Sent w ad) := hS
  have HXK : Hid (∀ i, i < keys.length → (txt keys i).size ≤ 9223372036854775807) := fun i hi => by have := hkx _ (txt_mem hi); unfold maxLen at this; omega
  have HC : Hid ((0 < (preferF old n).1 ∧ movesF old now keys.length n = preferF old n) ∨ (preferF old n = (0, -1) ∧ ((0 < (preferF now n).1 ∧ movesF old now keys.length n = preferF now n) ∨ (preferF now n = (0, -1) ∧ (200 < keys.length ∧ movesF old now keys.length n = (2, -1) ∨ keys.length ≤ 20 ∧ movesF old now keys.length n = (0, -1)))))) := by
    show _ ∨ _
    unfold movesF
    by_cases h1 : 0 < (preferF old n).1
    · exact Or.inl ⟨h1, if_pos h1⟩
    · refine Or.inr ⟨(preferF_fine h1).2.2.2, ?_⟩
      rw [if_neg h1]
      by_cases h2 : 0 < (preferF now n).1
      · exact Or.inl ⟨h2, if_pos h2⟩
      · refine Or.inr ⟨(preferF_fine h2).2.2.2, ?_⟩
        rw [if_neg h2]
        by_cases h3 : 200 < keys.length
        · exact Or.inl ⟨h3, if_pos h3⟩
        · exact Or.inr ⟨by omega, if_neg h3⟩
  clear hso hsn hsk hR hS hlong hlong2 hxo hxn hno hnn hnk hM hkx
  have HLP : Hid (∀ i, i < keys.length → ∀ W, Below w.heap.size w W → ∃ b o, pk = some ⟨b, o, none⟩ ∧ W.cell? ⟨b, o + i, none⟩ = some (.string (txt keys i))) := fun i hi W hW => by
    rcases HSK.out.below hW with h0 | ⟨b, o, hp, _, hc⟩
    · rw [h0] at hi; exact absurd hi (Nat.not_lt_zero _)
    · exact ⟨b, o, hp, hc i hi⟩
  have gg : decide (20 < (keys.length : Int)) = true := decide_eq_true (by omega)
  have gg2 : decide ((keys.length : Int) ≤ 200) = false := decide_eq_false (by omega)
  go_enter Tryz.func4, Tryz.ntmps4
  go_wp2_with fail
  refine HU.mono ?_
  rintro e w1 ⟨rfl, hb1⟩
  have HB1 : Hid (Below w.heap.size w w1) := hb1
  clear hb1 HU
  go_wp2_with fail
  refine (HLO.out _ (HSO.out.below HB1.out)).mono ?_
  rintro e w2 ⟨rfl, hw2⟩
  rw [hw2]
  clear hw2 w2 HLO
  go_wp2_with fail
  refine (HLN.out _ (HSN.out.below HB1.out)).mono ?_
  rintro e w2 ⟨rfl, hw2⟩
  rw [hw2]
  clear hw2 w2 HLN
  go_wp2
  go_loop [10] (fun x => ∃ i : Nat, i ≤ keys.length ∧ x = .int .i64 i ∧ ∀ j, j < i → (txt keys j).size ≤ 100) (fun x => keys.length - (intOf x).toNat)
  case atStart => exact ⟨0, Nat.zero_le _, rfl, fun j hj => absurd hj (Nat.not_lt_zero _)⟩
  case round =>
    obtain ⟨i, hi, rfl, hall⟩ := hrel
    have HALL : Hid (∀ j, j < i → (txt keys j).size ≤ 100) := hall
    clear hall
    by_cases hil : i < keys.length
    · obtain ⟨bk, ok, hpk, q1⟩ := HLP.out i hil w1 HB1.out
      subst hpk
      have hsz := HXK.out i hil
      have HTX : Hid (txt keys i = txt keys i) := by show _ = _; rfl
      by_cases hbig : 100 < (txt keys i).size
      · generalize txt keys i = t at *
        go_wp2
        go_ret
        exact ⟨rfl, HB1.out⟩
      · have HBG : Hid (∀ j, j < i + 1 → (txt keys j).size ≤ 100) := fun j hj => by
          rcases Nat.lt_or_ge j i with h | h
          · exact HALL.out j h
          · obtain rfl : j = i := by omega
            omega
        clear HTX HALL
        generalize txt keys i = t at *
        go_wp2
        go_round
        case rel => exact ⟨i + 1, by omega, by go_num, HBG.out⟩
        case measure => simp [intOf]; omega
    · have hie : i = keys.length := by omega
      subst hie
      have HK100 : Hid (∀ x ∈ keys, x.size ≤ 100) := fun x hx => by
        obtain ⟨j, hj, rfl⟩ := txt_of_mem hx
        exact HALL.out j hj
      have HMV1 := HMV.out HK100.out
      have HMV' : Hid (∀ p1 c1 p2 c2 p3 c3 W, old.length ≤ c1 → now.length ≤ c2 → keys.length ≤ c3 → Strs W p1 old → Strs W p2 now → Strs W p3 keys → Sent W ad → Calls Tryz.prog 15 #[.slice p1 old.length c1, .slice p2 now.length c2, .slice p3 keys.length c3, .int .i64 n] W fun e w' => MovesAns w' ad old now keys n e ∧ Below W.heap.size W w') := HMV1
      clear HMV HMV1 HALL HXK
      go_wp2_with fail
      refine (HOO.out _ (HSO.out.below HB1.out)).mono ?_
      rintro e w2 ⟨⟨v2, rfl, hO2⟩, hb2⟩
      obtain ⟨p2, c2, rfl, hs2, hc2, _, _⟩ := hO2.form
      have HS2 : Hid (Strs w2 p2 old) := hs2
      have HB2 : Hid (Below w.heap.size w w2) := HB1.out.trans (hb2.mono HB1.out.size)
      clear hO2 hs2 hb2 HB1 HOO
      go_wp2_with fail
      refine (HON.out _ (HSN.out.below HB2.out)).mono ?_
      rintro e w3 ⟨⟨v3, rfl, hO3⟩, hb3⟩
      obtain ⟨p3, c3, rfl, hs3, hc3, _, _⟩ := hO3.form
      have HS23 : Hid (Strs w3 p2 old) := HS2.out.below hb3
      have HS3 : Hid (Strs w3 p3 now) := hs3
      have HB3 : Hid (Below w.heap.size w w3) := HB2.out.trans (hb3.mono HB2.out.size)
      clear hO3 hs3 hb3 HB2 HON HS2
      go_wp2_with fail
      refine (HOK.out _ (HSK.out.below HB3.out)).mono ?_
      rintro e w4 ⟨⟨v4, rfl, hO4⟩, hb4⟩
      obtain ⟨p4, c4, rfl, hs4, hc4, _, _⟩ := hO4.form
      have HS24 : Hid (Strs w4 p2 old) := HS23.out.below hb4
      have HS34 : Hid (Strs w4 p3 now) := HS3.out.below hb4
      have HS4 : Hid (Strs w4 p4 keys) := hs4
      have HB4 : Hid (Below w.heap.size w w4) := HB3.out.trans (hb4.mono HB3.out.size)
      clear hO4 hs4 hb4 HB3 HOK HS23 HS3
      go_wp2_with fail
      refine (HMV'.out p2 c2 p3 c3 p4 c4 _ hc2 hc3 hc4 HS24.out HS34.out HS4.out (HT.out.below HB4.out)).mono ?_
      rintro e w5 ⟨hA, hb5⟩
      have HB5 : Hid (Below w.heap.size w w5) := HB4.out.trans (hb5.mono HB4.out.size)
      clear hb5 HB4 HS24 HS34 HS4 hc2 hc3 hc4 HMV'
      unfold MovesAns at hA
      rcases HC.out with ⟨hpos, hmf⟩ | ⟨hFo, ⟨hpos, hmf⟩ | ⟨hFn, hrest⟩⟩
      · rw [hmf] at hA
        rcases hA with ⟨_, q, cq, ev, rfl, hE⟩ | ⟨hno, _⟩
        · have HE5 : Hid (ErrIs w5 ad ev (preferF old n).1 (preferF old n).2) := hE
          clear hE hmf HC HRO HRN HNB HSM HFN
          go_wp2_with fail
          refine (HFO.out _ (HSO.out.below HB5.out)).mono ?_
          rintro e w6 ⟨rfl, hb6⟩
          generalize preferF old n = F at *
          obtain ⟨f1, f2⟩ := F
          have hpos' : 0 < f1 := hpos
          have hz1 : (f1 == 0) = false := by
            rw [beq_eq_false_iff_ne]
            omega
          obtain ⟨w7, hw7⟩ : ∃ w7, w7 = w6.alloc (.cells #[.int .i64 f1, .int .i64 f2] 31) := ⟨_, rfl⟩
          have hb7 : Below w6.heap.size w6 w7 := by rw [hw7]; exact (Below.refl _ _).alloc (Nat.le_refl _) _
          have q1 : w7.cell? ⟨w6.heap.size, 0, none⟩ = some (.int .i64 f1) := by rw [hw7, World.cell?_alloc_at _ _ _ _ rfl]; rfl
          have q2 : w7.cell? ⟨w6.heap.size, 1, none⟩ = some (.int .i64 f2) := by rw [hw7, World.cell?_alloc_at _ _ _ _ rfl]; rfl
          have HB6 : Hid (Below w.heap.size w w6) := HB5.out.trans (hb6.mono HB5.out.size)
          have HB7 : Hid (Below w.heap.size w w7) := HB6.out.trans (hb7.mono HB6.out.size)
          have HB57 : Hid (Below w5.heap.size w5 w7) := hb6.trans (hb7.mono hb6.size)
          have hlt7 : w6.heap.size < w7.heap.size := by rw [hw7]; simp
          have HW7 : Hid (w7 = w6.alloc (.cells #[.int .i64 f1, .int .i64 f2] 31)) := hw7
          have HE7 : Hid (ErrIs w7 ad ev f1 f2) := HE5.out.below HB57.out
          clear hw7 hb6 hb7 HE5 HB6 HB57 HFO hpos
          go_wp2_with (rw [← HW7.out])
          refine (HFL.out _ _ _ _ (HT.out.below HB7.out) HE7.out).mono ?_
          rintro e w8 ⟨rfl, hb8⟩
          clear HE7 HFL
          go_wp2
          go_ret
          exact ⟨rfl, HB7.out.trans (hb8.mono HB7.out.size)⟩
        · exact absurd hpos hno
      · rw [hmf] at hA
        rcases hA with ⟨_, q, cq, ev, rfl, hE⟩ | ⟨hno, _⟩
        · have HE5 : Hid (ErrIs w5 ad ev (preferF now n).1 (preferF now n).2) := hE
          rw [hFo] at HFO
          clear hE hmf HC HRO HRN HNB HSM hFo
          go_wp2_with fail
          refine (HFO.out _ (HSO.out.below HB5.out)).mono ?_
          rintro e w6 ⟨rfl, hb6⟩
          obtain ⟨w7, hw7⟩ : ∃ w7, w7 = w6.alloc (.cells #[.int .i64 0, .int .i64 (-1)] 31) := ⟨_, rfl⟩
          have hb7 : Below w6.heap.size w6 w7 := by rw [hw7]; exact (Below.refl _ _).alloc (Nat.le_refl _) _
          have q1 : w7.cell? ⟨w6.heap.size, 0, none⟩ = some (.int .i64 0) := by rw [hw7, World.cell?_alloc_at _ _ _ _ rfl]; rfl
          have q2 : w7.cell? ⟨w6.heap.size, 1, none⟩ = some (.int .i64 (-1)) := by rw [hw7, World.cell?_alloc_at _ _ _ _ rfl]; rfl
          have HB6 : Hid (Below w.heap.size w w6) := HB5.out.trans (hb6.mono HB5.out.size)
          have HB7 : Hid (Below w.heap.size w w7) := HB6.out.trans (hb7.mono HB6.out.size)
          have HB57 : Hid (Below w5.heap.size w5 w7) := hb6.trans (hb7.mono hb6.size)
          have hlt7 : w6.heap.size < w7.heap.size := by rw [hw7]; simp
          have HW7 : Hid (w7 = w6.alloc (.cells #[.int .i64 0, .int .i64 (-1)] 31)) := hw7
          have HN7 := HFN.out w7 (HSN.out.below HB7.out)
          generalize preferF now n = F at *
          obtain ⟨f1, f2⟩ := F
          have hpos' : 0 < f1 := hpos
          have hz1 : (f1 == 0) = false := by
            rw [beq_eq_false_iff_ne]
            omega
          have HQ7 : Hid (∀ W, Below w7.heap.size w7 W → (W.cell? ⟨w6.heap.size, 0, none⟩ = some (.int .i64 0) ∧ W.cell? ⟨w6.heap.size, 1, none⟩ = some (.int .i64 (-1))) ∧ W.frozen? ⟨w6.heap.size, 0, none⟩ = false ∧ W.frozen? ⟨w6.heap.size, 1, none⟩ = false) := fun W hW => pair_at hw7 hW
          have HSZ56 : Hid (w5.heap.size ≤ w6.heap.size) := hb6.size
          clear hw7 hb6 hb7 HB6 HFO hpos HFN hlt7
          go_wp2_with (rw [← HW7.out])
          refine HN7.mono ?_
          rintro e w8 ⟨rfl, hb8⟩
          obtain ⟨⟨r1, r2⟩, e1, e2⟩ := HQ7.out w8 hb8
          obtain ⟨s1, s2, t1, t2, hb9⟩ := pair_store HSZ56.out (HB57.out.trans (hb8.mono HB57.out.size)) r1 r2 e1 e2 f1 f2
          have HB9 : Hid (Below w.heap.size w ((w8.setCell ⟨w6.heap.size, 0, none⟩ (.int .i64 f1)).setCell ⟨w6.heap.size, 1, none⟩ (.int .i64 f2))) := HB5.out.trans (hb9.mono HB5.out.size)
          have HE9 : Hid (ErrIs ((w8.setCell ⟨w6.heap.size, 0, none⟩ (.int .i64 f1)).setCell ⟨w6.heap.size, 1, none⟩ (.int .i64 f2)) ad ev f1 f2) := HE5.out.below hb9
          clear hb9 hb8 HN7 HQ7 HE5 q1 q2 HB57
          go_wp2_with fail
          refine (HFL.out _ _ _ _ (HT.out.below HB9.out) HE9.out).mono ?_
          rintro e w10 ⟨rfl, hb10⟩
          clear HE9 HFL
          go_wp2
          go_ret
          exact ⟨rfl, HB9.out.trans (hb10.mono HB9.out.size)⟩
        · exact absurd hpos hno
      · rcases hrest with ⟨h200, hmf⟩ | ⟨h20, _⟩
        rotate_left
        · omega
        rw [hmf] at hA
        rcases hA with ⟨_, q, cq, ev, rfl, hE⟩ | ⟨hno, _⟩
        rotate_left
        · exact absurd (by decide) hno
        have HE5 : Hid (ErrIs w5 ad ev 2 (-1)) := hE
        have g200 : decide (200 < (keys.length : Int)) = true := decide_eq_true (by omega)
        clear hE hmf HRO HRN HNB HSM
        rw [hFo] at HFO
        rw [hFn] at HFN
        clear HC
        go_wp2_with fail
        refine (HFO.out _ (HSO.out.below HB5.out)).mono ?_
        rintro e w6 ⟨rfl, hb6⟩
        obtain ⟨w7, hw7⟩ : ∃ w7, w7 = w6.alloc (.cells #[.int .i64 0, .int .i64 (-1)] 31) := ⟨_, rfl⟩
        have hb7 : Below w6.heap.size w6 w7 := by rw [hw7]; exact (Below.refl _ _).alloc (Nat.le_refl _) _
        have q1 : w7.cell? ⟨w6.heap.size, 0, none⟩ = some (.int .i64 0) := by rw [hw7, World.cell?_alloc_at _ _ _ _ rfl]; rfl
        have q2 : w7.cell? ⟨w6.heap.size, 1, none⟩ = some (.int .i64 (-1)) := by rw [hw7, World.cell?_alloc_at _ _ _ _ rfl]; rfl
        have HB6 : Hid (Below w.heap.size w w6) := HB5.out.trans (hb6.mono HB5.out.size)
        have HB7 : Hid (Below w.heap.size w w7) := HB6.out.trans (hb7.mono HB6.out.size)
        have HB57 : Hid (Below w5.heap.size w5 w7) := hb6.trans (hb7.mono hb6.size)
        have hlt7 : w6.heap.size < w7.heap.size := by rw [hw7]; simp
        have HW7 : Hid (w7 = w6.alloc (.cells #[.int .i64 0, .int .i64 (-1)] 31)) := hw7
        have HN7 := HFN.out w7 (HSN.out.below HB7.out)
        have HQ7 : Hid (∀ W, Below w7.heap.size w7 W → (W.cell? ⟨w6.heap.size, 0, none⟩ = some (.int .i64 0) ∧ W.cell? ⟨w6.heap.size, 1, none⟩ = some (.int .i64 (-1))) ∧ W.frozen? ⟨w6.heap.size, 0, none⟩ = false ∧ W.frozen? ⟨w6.heap.size, 1, none⟩ = false) := fun W hW => pair_at hw7 hW
        have HSZ56 : Hid (w5.heap.size ≤ w6.heap.size) := hb6.size
        clear hw7 hb6 hb7 HB6 HFO HFN hlt7
        go_wp2_with (rw [← HW7.out])
        refine HN7.mono ?_
        rintro e w8 ⟨rfl, hb8⟩
        obtain ⟨⟨r1, r2⟩, e1, e2⟩ := HQ7.out w8 hb8
        obtain ⟨s1, s2, t1, t2, hb9⟩ := pair_store HSZ56.out (HB57.out.trans (hb8.mono HB57.out.size)) r1 r2 e1 e2 0 (-1)
        obtain ⟨w9, hw9⟩ : ∃ w9, w9 = (w8.setCell ⟨w6.heap.size, 0, none⟩ (.int .i64 0)).setCell ⟨w6.heap.size, 1, none⟩ (.int .i64 (-1)) := ⟨_, rfl⟩
        rw [← hw9] at s1 s2 t1 t2 hb9
        have HW9 : Hid (w9 = (w8.setCell ⟨w6.heap.size, 0, none⟩ (.int .i64 0)).setCell ⟨w6.heap.size, 1, none⟩ (.int .i64 (-1))) := hw9
        have HB59 : Hid (Below w5.heap.size w5 w9) := hb9
        have HB9 : Hid (Below w.heap.size w w9) := HB5.out.trans (hb9.mono HB5.out.size)
        have HLT9 : Hid (w6.heap.size < w9.heap.size) := lt_of_cell s1
        clear hb9 hb8 HN7 HQ7 q1 q2 HB57 hw9
        have HBR := bare_any 2 w9
        have HQ9 : Hid ((w9.cell? ⟨w6.heap.size, 0, none⟩ = some (.int .i64 0) ∧ w9.cell? ⟨w6.heap.size, 1, none⟩ = some (.int .i64 (-1))) ∧ w9.frozen? ⟨w6.heap.size, 0, none⟩ = false ∧ w9.frozen? ⟨w6.heap.size, 1, none⟩ = false) := ⟨⟨s1, s2⟩, t1, t2⟩
        go_wp2_with (rw [← HW9.out])
        refine HBR.mono ?_
        rintro e w10 ⟨rfl, hb10⟩
        obtain ⟨⟨a1, a2⟩, a3, a4⟩ := HQ9.out
        obtain ⟨b1, b2, b3, b4, hb11⟩ := pair_store HSZ56.out (HB59.out.trans (hb10.mono HB59.out.size)) ((hb10.cell (p := ⟨w6.heap.size, 0, none⟩) HLT9.out).trans a1) ((hb10.cell (p := ⟨w6.heap.size, 1, none⟩) HLT9.out).trans a2) ((hb10.frozen (p := ⟨w6.heap.size, 0, none⟩) HLT9.out).trans a3) ((hb10.frozen (p := ⟨w6.heap.size, 1, none⟩) HLT9.out).trans a4) 2 (-1)
        have c1 := (hb10.cell (p := ⟨w6.heap.size, 0, none⟩) HLT9.out).trans a1
        have c2 := (hb10.cell (p := ⟨w6.heap.size, 1, none⟩) HLT9.out).trans a2
        have c3 := (hb10.frozen (p := ⟨w6.heap.size, 0, none⟩) HLT9.out).trans a3
        have c4 := (hb10.frozen (p := ⟨w6.heap.size, 1, none⟩) HLT9.out).trans a4
        have HB11 : Hid (Below w.heap.size w ((w10.setCell ⟨w6.heap.size, 0, none⟩ (.int .i64 2)).setCell ⟨w6.heap.size, 1, none⟩ (.int .i64 (-1)))) := HB5.out.trans (hb11.mono HB5.out.size)
        have HE11 : Hid (ErrIs ((w10.setCell ⟨w6.heap.size, 0, none⟩ (.int .i64 2)).setCell ⟨w6.heap.size, 1, none⟩ (.int .i64 (-1))) ad ev 2 (-1)) := HE5.out.below hb11
        clear hb11 hb10 HBR HQ9 HE5 a1 a2 a3 a4 s1 s2 t1 t2 r1 r2 e1 e2
        go_wp2_with fail
        refine (HFL.out _ _ _ _ (HT.out.below HB11.out) HE11.out).mono ?_
        rintro e w12 ⟨rfl, hb12⟩
        clear HE11 HFL
        go_wp2
        go_ret
        exact ⟨rfl, HB11.out.trans (hb12.mono HB11.out.size)⟩
set_option maxRecDepth 10000 in
set_option maxHeartbeats 16000000 in
theorem ringMoves_few (po pn pk : Option Addr) (old now keys : List ByteArray) (co cn ck : Nat) (n : Int) (ad : Nat → Addr) (w : World) (hlong : longL old = false) (hlong2 : longL now = false) (hkk : keys.length ≤ 20) (hkl : keys.length ≤ 8796093021952) (hkx : ∀ x ∈ keys, x.size ≤ maxLen)
    (hco : old.length ≤ co) (hcn : now.length ≤ cn) (_hck : keys.length ≤ ck) (hno : po = none → old = [] ∧ co = 0) (hnn : pn = none → now = [] ∧ cn = 0) (hnk : pk = none → keys = [] ∧ ck = 0) (hso : Strs w po old) (hsn : Strs w pn now) (hsk : Strs w pk keys) (hR : RingOk ad) (hM : MovesOk ad) (hS : Sent w ad) :
    Calls Tryz.prog 4 #[.slice po old.length co, .slice pn now.length cn, .slice pk keys.length ck, .int .i64 n] w fun e w' => e = .returned (.bool true) ∧ Below w.heap.size w w' := by
  obtain ⟨hlo, hxo⟩ := longL_fine hlong
  obtain ⟨hln, hxn⟩ := longL_fine hlong2
  have HU := round_any ad w hR hS.errs
  have HLO : Hid (∀ W, Strs W po old → Calls Tryz.prog 6 #[.slice po old.length co] W fun e w' => e = .returned (.bool (longL old)) ∧ w' = W) := fun W hW => longTexts_any po old co W (by unfold maxLen; omega) (fun x hxm => by have := hxo x hxm; unfold maxLen; omega) hW
  have HLN : Hid (∀ W, Strs W pn now → Calls Tryz.prog 6 #[.slice pn now.length cn] W fun e w' => e = .returned (.bool (longL now)) ∧ w' = W) := fun W hW => longTexts_any pn now cn W (by unfold maxLen; omega) (fun x hxm => by have := hxn x hxm; unfold maxLen; omega) hW
  rw [hlong] at HLO
  rw [hlong2] at HLN
  have HOO : Hid (∀ W, Strs W po old → Calls Tryz.prog 9 #[.slice po old.length co] W fun e w' => (∃ v, e = .returned v ∧ OwnT w' W.heap.size v old) ∧ Below W.heap.size W w') := fun W hW => ownTexts_any po old co W (by omega) hW hno
  have HON : Hid (∀ W, Strs W pn now → Calls Tryz.prog 9 #[.slice pn now.length cn] W fun e w' => (∃ v, e = .returned v ∧ OwnT w' W.heap.size v now) ∧ Below W.heap.size W w') := fun W hW => ownTexts_any pn now cn W (by omega) hW hnn
  have HOK : Hid (∀ W, Strs W pk keys → Calls Tryz.prog 9 #[.slice pk keys.length ck] W fun e w' => (∃ v, e = .returned v ∧ OwnT w' W.heap.size v keys) ∧ Below W.heap.size W w') := fun W hW => ownTexts_any pk keys ck W hkl hW hnk
  have HFO : Hid (∀ W, Strs W po old → Calls Tryz.prog 12 #[.slice po old.length co, .int .i64 n] W fun e w' => e = .returned (.agg #[.int .i64 (preferF old n).1, .int .i64 (preferF old n).2]) ∧ Below W.heap.size W w') := fun W hW => preferFault_any po old co n W (by omega) hco (fun x hxm => by have := hxo x hxm; omega) hW
  have HFN : Hid (∀ W, Strs W pn now → Calls Tryz.prog 12 #[.slice pn now.length cn, .int .i64 n] W fun e w' => e = .returned (.agg #[.int .i64 (preferF now n).1, .int .i64 (preferF now n).2]) ∧ Below W.heap.size W w') := fun W hW => preferFault_any pn now cn n W (by omega) hcn (fun x hxm => by have := hxn x hxm; omega) hW
  have HMV : Hid ((∀ x ∈ keys, x.size ≤ 100) → ∀ p1 c1 p2 c2 p3 c3 W, old.length ≤ c1 → now.length ≤ c2 → keys.length ≤ c3 → Strs W p1 old → Strs W p2 now → Strs W p3 keys → Sent W ad → Calls Tryz.prog 15 #[.slice p1 old.length c1, .slice p2 now.length c2, .slice p3 keys.length c3, .int .i64 n] W fun e w' => MovesAns w' ad old now keys n e ∧ Below W.heap.size W w') := fun hkx' p1 c1 p2 c2 p3 c3 W h1 h2 h3 h4 h5 h6 h7 => hM p1 p2 p3 old now keys c1 c2 c3 n W (by omega) (by omega) hkl h1 h2 h3 (fun x hx => by have := hxo x hx; omega) (fun x hx => by have := hxn x hx; omega) (fun x hx => by have := hkx' x hx; omega) h4 h5 h6 h7.errs
  have HFL : Hid (∀ ev x y W, Sent W ad → ErrIs W ad ev x y → Calls Tryz.prog 7 #[ev, .agg #[.int .i64 x, .int .i64 y]] W fun e w' => e = .returned (.bool true) ∧ Below W.heap.size W w') := fun ev x y W h1 h2 => faulted_any ad ev x y W h1 h2
  have HRO : Hid (¬ 0 < (preferF old n).1 → ∀ key : ByteArray, key.size ≤ 100 → ∀ W, Strs W po old → Calls Tryz.prog 14 #[.slice po old.length co, .string key, .int .i64 n] W fun e w' => (∃ v out, e = .returned v ∧ OwnT w' W.heap.size v out ∧ (out.length : Int) = n ∧ Pref (hashOf key) old out) ∧ Below W.heap.size W w') := fun hf key hkey W hW => by
    obtain ⟨h1, h2, h3, h4⟩ := preferF_fine hf
    obtain ⟨m, rfl⟩ := Int.eq_ofNat_of_zero_le h2
    obtain ⟨h5, h6, h7⟩ := nodesF_zero h1
    obtain ⟨h8, h9⟩ := nodesF_fine h1
    refine (rprefer_any po old co key m W h6 h7 (by omega) (by omega) (fun x hxm => (isN_size (h8 x hxm)).2) h9 hW).mono ?_
    rintro e w' ⟨⟨v, out, he, hO, hl, hP⟩, hb⟩
    exact ⟨⟨v, out, he, hO, by rw [hl], hP⟩, hb⟩
  have HRN : Hid (¬ 0 < (preferF now n).1 → ∀ key : ByteArray, key.size ≤ 100 → ∀ W, Strs W pn now → Calls Tryz.prog 14 #[.slice pn now.length cn, .string key, .int .i64 n] W fun e w' => (∃ v out, e = .returned v ∧ OwnT w' W.heap.size v out ∧ (out.length : Int) = n ∧ Pref (hashOf key) now out) ∧ Below W.heap.size W w') := fun hf key hkey W hW => by
    obtain ⟨h1, h2, h3, h4⟩ := preferF_fine hf
    obtain ⟨m, rfl⟩ := Int.eq_ofNat_of_zero_le h2
    obtain ⟨h5, h6, h7⟩ := nodesF_zero h1
    obtain ⟨h8, h9⟩ := nodesF_fine h1
    refine (rprefer_any pn now cn key m W h6 h7 (by omega) (by omega) (fun x hxm => (isN_size (h8 x hxm)).2) h9 hW).mono ?_
    rintro e w' ⟨⟨v, out, he, hO, hl, hP⟩, hb⟩
    exact ⟨⟨v, out, he, hO, by rw [hl], hP⟩, hb⟩
  have HNB : Hid (¬ 0 < (preferF old n).1 → n ≤ 40) := fun hf => by have := (preferF_fine hf).2.2.1; omega
  have HSM : Hid (∀ pa pb la lb ca cb W, la.length ≤ 1000000 → lb.length ≤ 1000000 → Strs W pa la → Strs W pb lb → Calls Tryz.prog 13 #[.slice pa la.length ca, .slice pb lb.length cb] W fun e w' => e = .returned (.bool (decide (la = lb))) ∧ Below W.heap.size W w') := fun pa pb la lb ca cb W h1 h2 h3 h4 => sameTexts_any pa pb la lb ca cb W h1 h2 h3 h4
  have HSO : Hid (Strs w po old) := hso
  have HSN : Hid (Strs w pn now) := hsn
  have HSK : Hid (Strs w pk keys) := hsk
  have HT : Hid (Sent w ad) := hS
  have HXK : Hid (∀ i, i < keys.length → (txt keys i).size ≤ 9223372036854775807) := fun i hi => by have := hkx _ (txt_mem hi); unfold maxLen at this; omega
  have HC : Hid ((0 < (preferF old n).1 ∧ movesF old now keys.length n = preferF old n) ∨ (preferF old n = (0, -1) ∧ ((0 < (preferF now n).1 ∧ movesF old now keys.length n = preferF now n) ∨ (preferF now n = (0, -1) ∧ (200 < keys.length ∧ movesF old now keys.length n = (2, -1) ∨ keys.length ≤ 20 ∧ movesF old now keys.length n = (0, -1)))))) := by
    show _ ∨ _
    unfold movesF
    by_cases h1 : 0 < (preferF old n).1
    · exact Or.inl ⟨h1, if_pos h1⟩
    · refine Or.inr ⟨(preferF_fine h1).2.2.2, ?_⟩
      rw [if_neg h1]
      by_cases h2 : 0 < (preferF now n).1
      · exact Or.inl ⟨h2, if_pos h2⟩
      · refine Or.inr ⟨(preferF_fine h2).2.2.2, ?_⟩
        rw [if_neg h2]
        by_cases h3 : 200 < keys.length
        · exact Or.inl ⟨h3, if_pos h3⟩
        · exact Or.inr ⟨by omega, if_neg h3⟩
  clear hso hsn hsk hR hS hlong hlong2 hxo hxn hno hnn hnk hM hkx
  have HLP : Hid (∀ i, i < keys.length → ∀ W, Below w.heap.size w W → ∃ b o, pk = some ⟨b, o, none⟩ ∧ W.cell? ⟨b, o + i, none⟩ = some (.string (txt keys i))) := fun i hi W hW => by
    rcases HSK.out.below hW with h0 | ⟨b, o, hp, _, hc⟩
    · rw [h0] at hi; exact absurd hi (Nat.not_lt_zero _)
    · exact ⟨b, o, hp, hc i hi⟩
  have gg : decide (20 < (keys.length : Int)) = false := decide_eq_false (by omega)
  go_enter Tryz.func4, Tryz.ntmps4
  go_wp2_with fail
  refine HU.mono ?_
  rintro e w1 ⟨rfl, hb1⟩
  have HB1 : Hid (Below w.heap.size w w1) := hb1
  clear hb1 HU
  go_wp2_with fail
  refine (HLO.out _ (HSO.out.below HB1.out)).mono ?_
  rintro e w2 ⟨rfl, hw2⟩
  rw [hw2]
  clear hw2 w2 HLO
  go_wp2_with fail
  refine (HLN.out _ (HSN.out.below HB1.out)).mono ?_
  rintro e w2 ⟨rfl, hw2⟩
  rw [hw2]
  clear hw2 w2 HLN
  go_wp2
  go_loop [10] (fun x => ∃ i : Nat, i ≤ keys.length ∧ x = .int .i64 i ∧ ∀ j, j < i → (txt keys j).size ≤ 100) (fun x => keys.length - (intOf x).toNat)
  case atStart => exact ⟨0, Nat.zero_le _, rfl, fun j hj => absurd hj (Nat.not_lt_zero _)⟩
  case round =>
    obtain ⟨i, hi, rfl, hall⟩ := hrel
    have HALL : Hid (∀ j, j < i → (txt keys j).size ≤ 100) := hall
    clear hall
    by_cases hil : i < keys.length
    · obtain ⟨bk, ok, hpk, q1⟩ := HLP.out i hil w1 HB1.out
      subst hpk
      have hsz := HXK.out i hil
      have HTX : Hid (txt keys i = txt keys i) := by show _ = _; rfl
      by_cases hbig : 100 < (txt keys i).size
      · generalize txt keys i = t at *
        go_wp2
        go_ret
        exact ⟨rfl, HB1.out⟩
      · have HBG : Hid (∀ j, j < i + 1 → (txt keys j).size ≤ 100) := fun j hj => by
          rcases Nat.lt_or_ge j i with h | h
          · exact HALL.out j h
          · obtain rfl : j = i := by omega
            omega
        clear HTX HALL
        generalize txt keys i = t at *
        go_wp2
        go_round
        case rel => exact ⟨i + 1, by omega, by go_num, HBG.out⟩
        case measure => simp [intOf]; omega
    · have hie : i = keys.length := by omega
      subst hie
      have HK100 : Hid (∀ x ∈ keys, x.size ≤ 100) := fun x hx => by
        obtain ⟨j, hj, rfl⟩ := txt_of_mem hx
        exact HALL.out j hj
      have HMV1 := HMV.out HK100.out
      have HMV' : Hid (∀ p1 c1 p2 c2 p3 c3 W, old.length ≤ c1 → now.length ≤ c2 → keys.length ≤ c3 → Strs W p1 old → Strs W p2 now → Strs W p3 keys → Sent W ad → Calls Tryz.prog 15 #[.slice p1 old.length c1, .slice p2 now.length c2, .slice p3 keys.length c3, .int .i64 n] W fun e w' => MovesAns w' ad old now keys n e ∧ Below W.heap.size W w') := HMV1
      clear HMV HMV1 HALL HXK
      go_wp2_with fail
      refine (HOO.out _ (HSO.out.below HB1.out)).mono ?_
      rintro e w2 ⟨⟨v2, rfl, hO2⟩, hb2⟩
      obtain ⟨p2, c2, rfl, hs2, hc2, _, _⟩ := hO2.form
      have HS2 : Hid (Strs w2 p2 old) := hs2
      have HB2 : Hid (Below w.heap.size w w2) := HB1.out.trans (hb2.mono HB1.out.size)
      clear hO2 hs2 hb2 HB1 HOO
      go_wp2_with fail
      refine (HON.out _ (HSN.out.below HB2.out)).mono ?_
      rintro e w3 ⟨⟨v3, rfl, hO3⟩, hb3⟩
      obtain ⟨p3, c3, rfl, hs3, hc3, _, _⟩ := hO3.form
      have HS23 : Hid (Strs w3 p2 old) := HS2.out.below hb3
      have HS3 : Hid (Strs w3 p3 now) := hs3
      have HB3 : Hid (Below w.heap.size w w3) := HB2.out.trans (hb3.mono HB2.out.size)
      clear hO3 hs3 hb3 HB2 HON HS2
      go_wp2_with fail
      refine (HOK.out _ (HSK.out.below HB3.out)).mono ?_
      rintro e w4 ⟨⟨v4, rfl, hO4⟩, hb4⟩
      obtain ⟨p4, c4, rfl, hs4, hc4, _, _⟩ := hO4.form
      have HS24 : Hid (Strs w4 p2 old) := HS23.out.below hb4
      have HS34 : Hid (Strs w4 p3 now) := HS3.out.below hb4
      have HS4 : Hid (Strs w4 p4 keys) := hs4
      have HB4 : Hid (Below w.heap.size w w4) := HB3.out.trans (hb4.mono HB3.out.size)
      clear hO4 hs4 hb4 HB3 HOK HS23 HS3
      go_wp2_with fail
      refine (HMV'.out p2 c2 p3 c3 p4 c4 _ hc2 hc3 hc4 HS24.out HS34.out HS4.out (HT.out.below HB4.out)).mono ?_
      rintro e w5 ⟨hA, hb5⟩
      have HB5 : Hid (Below w.heap.size w w5) := HB4.out.trans (hb5.mono HB4.out.size)
      clear hb5 HB4 HS24 HS34 HS4 hc2 hc3 hc4 HMV'
      unfold MovesAns at hA
      rcases HC.out with ⟨hpos, hmf⟩ | ⟨hFo, ⟨hpos, hmf⟩ | ⟨hFn, hrest⟩⟩
      · rw [hmf] at hA
        rcases hA with ⟨_, q, cq, ev, rfl, hE⟩ | ⟨hno, _⟩
        · have HE5 : Hid (ErrIs w5 ad ev (preferF old n).1 (preferF old n).2) := hE
          clear hE hmf HC HRO HRN HNB HSM HFN
          go_wp2_with fail
          refine (HFO.out _ (HSO.out.below HB5.out)).mono ?_
          rintro e w6 ⟨rfl, hb6⟩
          generalize preferF old n = F at *
          obtain ⟨f1, f2⟩ := F
          have hpos' : 0 < f1 := hpos
          have hz1 : (f1 == 0) = false := by
            rw [beq_eq_false_iff_ne]
            omega
          obtain ⟨w7, hw7⟩ : ∃ w7, w7 = w6.alloc (.cells #[.int .i64 f1, .int .i64 f2] 31) := ⟨_, rfl⟩
          have hb7 : Below w6.heap.size w6 w7 := by rw [hw7]; exact (Below.refl _ _).alloc (Nat.le_refl _) _
          have q1 : w7.cell? ⟨w6.heap.size, 0, none⟩ = some (.int .i64 f1) := by rw [hw7, World.cell?_alloc_at _ _ _ _ rfl]; rfl
          have q2 : w7.cell? ⟨w6.heap.size, 1, none⟩ = some (.int .i64 f2) := by rw [hw7, World.cell?_alloc_at _ _ _ _ rfl]; rfl
          have HB6 : Hid (Below w.heap.size w w6) := HB5.out.trans (hb6.mono HB5.out.size)
          have HB7 : Hid (Below w.heap.size w w7) := HB6.out.trans (hb7.mono HB6.out.size)
          have HB57 : Hid (Below w5.heap.size w5 w7) := hb6.trans (hb7.mono hb6.size)
          have hlt7 : w6.heap.size < w7.heap.size := by rw [hw7]; simp
          have HW7 : Hid (w7 = w6.alloc (.cells #[.int .i64 f1, .int .i64 f2] 31)) := hw7
          have HE7 : Hid (ErrIs w7 ad ev f1 f2) := HE5.out.below HB57.out
          clear hw7 hb6 hb7 HE5 HB6 HB57 HFO hpos
          go_wp2_with (rw [← HW7.out])
          refine (HFL.out _ _ _ _ (HT.out.below HB7.out) HE7.out).mono ?_
          rintro e w8 ⟨rfl, hb8⟩
          clear HE7 HFL
          go_wp2
          go_ret
          exact ⟨rfl, HB7.out.trans (hb8.mono HB7.out.size)⟩
        · exact absurd hpos hno
      · rw [hmf] at hA
        rcases hA with ⟨_, q, cq, ev, rfl, hE⟩ | ⟨hno, _⟩
        · have HE5 : Hid (ErrIs w5 ad ev (preferF now n).1 (preferF now n).2) := hE
          rw [hFo] at HFO
          clear hE hmf HC HRO HRN HNB HSM hFo
          go_wp2_with fail
          refine (HFO.out _ (HSO.out.below HB5.out)).mono ?_
          rintro e w6 ⟨rfl, hb6⟩
          obtain ⟨w7, hw7⟩ : ∃ w7, w7 = w6.alloc (.cells #[.int .i64 0, .int .i64 (-1)] 31) := ⟨_, rfl⟩
          have hb7 : Below w6.heap.size w6 w7 := by rw [hw7]; exact (Below.refl _ _).alloc (Nat.le_refl _) _
          have q1 : w7.cell? ⟨w6.heap.size, 0, none⟩ = some (.int .i64 0) := by rw [hw7, World.cell?_alloc_at _ _ _ _ rfl]; rfl
          have q2 : w7.cell? ⟨w6.heap.size, 1, none⟩ = some (.int .i64 (-1)) := by rw [hw7, World.cell?_alloc_at _ _ _ _ rfl]; rfl
          have HB6 : Hid (Below w.heap.size w w6) := HB5.out.trans (hb6.mono HB5.out.size)
          have HB7 : Hid (Below w.heap.size w w7) := HB6.out.trans (hb7.mono HB6.out.size)
          have HB57 : Hid (Below w5.heap.size w5 w7) := hb6.trans (hb7.mono hb6.size)
          have hlt7 : w6.heap.size < w7.heap.size := by rw [hw7]; simp
          have HW7 : Hid (w7 = w6.alloc (.cells #[.int .i64 0, .int .i64 (-1)] 31)) := hw7
          have HN7 := HFN.out w7 (HSN.out.below HB7.out)
          generalize preferF now n = F at *
          obtain ⟨f1, f2⟩ := F
          have hpos' : 0 < f1 := hpos
          have hz1 : (f1 == 0) = false := by
            rw [beq_eq_false_iff_ne]
            omega
          have HQ7 : Hid (∀ W, Below w7.heap.size w7 W → (W.cell? ⟨w6.heap.size, 0, none⟩ = some (.int .i64 0) ∧ W.cell? ⟨w6.heap.size, 1, none⟩ = some (.int .i64 (-1))) ∧ W.frozen? ⟨w6.heap.size, 0, none⟩ = false ∧ W.frozen? ⟨w6.heap.size, 1, none⟩ = false) := fun W hW => pair_at hw7 hW
          have HSZ56 : Hid (w5.heap.size ≤ w6.heap.size) := hb6.size
          clear hw7 hb6 hb7 HB6 HFO hpos HFN hlt7
          go_wp2_with (rw [← HW7.out])
          refine HN7.mono ?_
          rintro e w8 ⟨rfl, hb8⟩
          obtain ⟨⟨r1, r2⟩, e1, e2⟩ := HQ7.out w8 hb8
          obtain ⟨s1, s2, t1, t2, hb9⟩ := pair_store HSZ56.out (HB57.out.trans (hb8.mono HB57.out.size)) r1 r2 e1 e2 f1 f2
          have HB9 : Hid (Below w.heap.size w ((w8.setCell ⟨w6.heap.size, 0, none⟩ (.int .i64 f1)).setCell ⟨w6.heap.size, 1, none⟩ (.int .i64 f2))) := HB5.out.trans (hb9.mono HB5.out.size)
          have HE9 : Hid (ErrIs ((w8.setCell ⟨w6.heap.size, 0, none⟩ (.int .i64 f1)).setCell ⟨w6.heap.size, 1, none⟩ (.int .i64 f2)) ad ev f1 f2) := HE5.out.below hb9
          clear hb9 hb8 HN7 HQ7 HE5 q1 q2 HB57
          go_wp2_with fail
          refine (HFL.out _ _ _ _ (HT.out.below HB9.out) HE9.out).mono ?_
          rintro e w10 ⟨rfl, hb10⟩
          clear HE9 HFL
          go_wp2
          go_ret
          exact ⟨rfl, HB9.out.trans (hb10.mono HB9.out.size)⟩
        · exact absurd hpos hno
      · rcases hrest with ⟨h200, hmf⟩ | ⟨h20, hmf⟩
        · omega
        rw [hmf] at hA
        rcases hA with ⟨hno, _⟩ | ⟨_, q, cq, fa, fb, he, hCh, hPk⟩
        · exact absurd hno (by decide)
        generalize hln0 : (chs fa fb keys).length = ln at he
        subst he
        have HLNE : Hid ((chs fa fb keys).length = ln) := hln0
        clear hln0
        have g200 : decide (200 < (keys.length : Int)) = false := decide_eq_false (by omega)
        have HCH : Hid (Chs w5 q (chs fa fb keys)) := hCh
        have HPK : Hid (∀ k ∈ keys, (Pref (hashOf k) old (fa k) ∧ ((fa k).length : Int) = n) ∧ (Pref (hashOf k) now (fb k) ∧ ((fb k).length : Int) = n)) := hPk
        have HRO' := HRO.out (by rw [hFo]; decide)
        have HRN' := HRN.out (by rw [hFn]; decide)
        have HNB' := HNB.out (by rw [hFo]; decide)
        have HR1 : Hid (∀ key : ByteArray, key.size ≤ 100 → ∀ W, Strs W po old → Calls Tryz.prog 14 #[.slice po old.length co, .string key, .int .i64 n] W fun e w' => (∃ v out, e = .returned v ∧ OwnT w' W.heap.size v out ∧ (out.length : Int) = n ∧ Pref (hashOf key) old out) ∧ Below W.heap.size W w') := HRO'
        have HR2 : Hid (∀ key : ByteArray, key.size ≤ 100 → ∀ W, Strs W pn now → Calls Tryz.prog 14 #[.slice pn now.length cn, .string key, .int .i64 n] W fun e w' => (∃ v out, e = .returned v ∧ OwnT w' W.heap.size v out ∧ (out.length : Int) = n ∧ Pref (hashOf key) now out) ∧ Below W.heap.size W w') := HRN'
        have HN40 : Hid (n ≤ 40) := HNB'
        clear hCh hPk hmf HRO HRN HNB HRO' HRN' HNB' HFL
        rw [hFo] at HFO
        rw [hFn] at HFN
        clear HC
        go_wp2_with fail
        refine (HFO.out _ (HSO.out.below HB5.out)).mono ?_
        rintro e w6 ⟨rfl, hb6⟩
        obtain ⟨w7, hw7⟩ : ∃ w7, w7 = w6.alloc (.cells #[.int .i64 0, .int .i64 (-1)] 31) := ⟨_, rfl⟩
        have hb7 : Below w6.heap.size w6 w7 := by rw [hw7]; exact (Below.refl _ _).alloc (Nat.le_refl _) _
        have q1 : w7.cell? ⟨w6.heap.size, 0, none⟩ = some (.int .i64 0) := by rw [hw7, World.cell?_alloc_at _ _ _ _ rfl]; rfl
        have q2 : w7.cell? ⟨w6.heap.size, 1, none⟩ = some (.int .i64 (-1)) := by rw [hw7, World.cell?_alloc_at _ _ _ _ rfl]; rfl
        have HB6 : Hid (Below w.heap.size w w6) := HB5.out.trans (hb6.mono HB5.out.size)
        have HB7 : Hid (Below w.heap.size w w7) := HB6.out.trans (hb7.mono HB6.out.size)
        have HB57 : Hid (Below w5.heap.size w5 w7) := hb6.trans (hb7.mono hb6.size)
        have hlt7 : w6.heap.size < w7.heap.size := by rw [hw7]; simp
        have HW7 : Hid (w7 = w6.alloc (.cells #[.int .i64 0, .int .i64 (-1)] 31)) := hw7
        have HN7 := HFN.out w7 (HSN.out.below HB7.out)
        have HQ7 : Hid (∀ W, Below w7.heap.size w7 W → (W.cell? ⟨w6.heap.size, 0, none⟩ = some (.int .i64 0) ∧ W.cell? ⟨w6.heap.size, 1, none⟩ = some (.int .i64 (-1))) ∧ W.frozen? ⟨w6.heap.size, 0, none⟩ = false ∧ W.frozen? ⟨w6.heap.size, 1, none⟩ = false) := fun W hW => pair_at hw7 hW
        have HSZ56 : Hid (w5.heap.size ≤ w6.heap.size) := hb6.size
        clear hw7 hb6 hb7 HB6 HFO HFN hlt7
        go_wp2_with (rw [← HW7.out])
        refine HN7.mono ?_
        rintro e w8 ⟨rfl, hb8⟩
        obtain ⟨⟨r1, r2⟩, e1, e2⟩ := HQ7.out w8 hb8
        obtain ⟨s1, s2, t1, t2, hb9⟩ := pair_store HSZ56.out (HB57.out.trans (hb8.mono HB57.out.size)) r1 r2 e1 e2 0 (-1)
        obtain ⟨w9, hw9⟩ : ∃ w9, w9 = (w8.setCell ⟨w6.heap.size, 0, none⟩ (.int .i64 0)).setCell ⟨w6.heap.size, 1, none⟩ (.int .i64 (-1)) := ⟨_, rfl⟩
        rw [← hw9] at s1 s2 t1 t2 hb9
        have HW9 : Hid (w9 = (w8.setCell ⟨w6.heap.size, 0, none⟩ (.int .i64 0)).setCell ⟨w6.heap.size, 1, none⟩ (.int .i64 (-1))) := hw9
        have HB59 : Hid (Below w5.heap.size w5 w9) := hb9
        have HB9 : Hid (Below w.heap.size w w9) := HB5.out.trans (hb9.mono HB5.out.size)
        have HLT9 : Hid (w6.heap.size < w9.heap.size) := lt_of_cell s1
        clear hb9 hb8 HN7 HQ7 q1 q2 HB57 hw9
        have HCH9 : Hid (Chs w9 q (chs fa fb keys)) := HCH.out.below HB59.out
        clear HCH HB59 HSZ56 HLT9
        go_wp2_with (rw [← HW9.out])
        go_loopw [14, 15] (fun y x wq => ∃ i : Nat, i ≤ keys.length ∧ x = .int .i64 i ∧ y = .int .i64 (((chs fa fb (keys.take i)).length : Nat) : Int) ∧ Below w9.heap.size w9 wq) (fun _ x _ => keys.length - (intOf x).toNat)
        case atStart => exact ⟨0, Nat.zero_le _, rfl, rfl, Below.refl _ _⟩
        case round =>
          obtain ⟨i, hi, rfl, rfl, hB10⟩ := hrel
          obtain ⟨w10, rfl⟩ : ∃ w10, w10 = wr := ⟨_, rfl⟩
          have HB910 : Hid (Below w9.heap.size w9 w10) := hB10
          have HB10 : Hid (Below w.heap.size w w10) := HB9.out.trans (hB10.mono HB9.out.size)
          clear hB10
          by_cases hil : i < keys.length
          · obtain ⟨bk, ok, hpk, q1⟩ := HLP.out i hil w10 HB10.out
            subst hpk
            have hk100 := HK100.out _ (txt_mem hil)
            obtain ⟨⟨hPfa, hlfa⟩, hPfb, hlfb⟩ := HPK.out _ (txt_mem hil)
            have HPFA : Hid (Pref (hashOf (txt keys i)) old (fa (txt keys i)) ∧ ((fa (txt keys i)).length : Int) = n) := ⟨hPfa, hlfa⟩
            have HPFB : Hid (Pref (hashOf (txt keys i)) now (fb (txt keys i)) ∧ ((fb (txt keys i)).length : Int) = n) := ⟨hPfb, hlfb⟩
            have HRa := HR1.out _ hk100 w10 (HSO.out.below HB10.out)
            have HRb : Hid (∀ W, Below w.heap.size w W → Calls Tryz.prog 14 #[.slice pn now.length cn, .string (txt keys i), .int .i64 n] W fun e w' => (∃ v out, e = .returned v ∧ OwnT w' W.heap.size v out ∧ (out.length : Int) = n ∧ Pref (hashOf (txt keys i)) now out) ∧ Below W.heap.size W w') := fun W hW => HR2.out _ hk100 W (HSN.out.below hW)
            have HAT : Hid (fa (txt keys i) ≠ fb (txt keys i) → (chs fa fb (keys.take i)).length < (chs fa fb keys).length ∧ chAt (chs fa fb keys) (chs fa fb (keys.take i)).length = (txt keys i, fa (txt keys i), fb (txt keys i))) := fun h => chs_at hil h
            have HS1 : Hid (fa (txt keys i) = fb (txt keys i) → (chs fa fb (keys.take (i + 1))).length = (chs fa fb (keys.take i)).length) := fun h => by rw [chs_succ hil, chs_one_same h, List.append_nil]
            have HS2 : Hid (fa (txt keys i) ≠ fb (txt keys i) → (chs fa fb (keys.take (i + 1))).length = (chs fa fb (keys.take i)).length + 1) := fun h => by rw [chs_succ hil, chs_one h, List.length_append]; rfl
            have hilI : (i : Int) < (keys.length : Int) := by omega
            have ha20 : (chs fa fb (keys.take i)).length ≤ 20 := Nat.le_trans (List.length_filterMap_le _ _) (by rw [List.length_take]; omega)
            have HCS : Hid (Chs w10 q (chs fa fb keys)) := HCH9.out.below HB910.out
            have hfl : ((fa (txt keys i)).length : Int) ≤ 40 := by have := HN40.out; omega
            have hgl : ((fb (txt keys i)).length : Int) ≤ 40 := by have := HN40.out; omega
            clear hPfa hlfa hPfb hlfb hk100
            obtain ⟨cn1, hcn1⟩ : ∃ cn1, cn1 = chs fa fb (keys.take (i + 1)) := ⟨_, rfl⟩
            rw [← hcn1] at HS1 HS2
            have HCN : Hid (chs fa fb (keys.take (i + 1)) = cn1) := hcn1.symm
            clear hcn1
            generalize (chs fa fb (keys.take i)).length = a at *
            generalize hfk : fa (txt keys i) = fk at *
            generalize hgk : fb (txt keys i) = gk at *
            clear hfk hgk
            generalize txt keys i = k at *
            go_wp2_with fail
            refine HRa.mono ?_
            rintro e w11 ⟨⟨va, oa, rfl, hOa, hla, hPa⟩, hb11⟩
            have hoa : oa = fk := Pref.unique hPa HPFA.out.1 (by have := HPFA.out.2; omega)
            subst hoa
            obtain ⟨qa, ca, rfl, hsa, _, _, _⟩ := hOa.form
            have HSA11 : Hid (Strs w11 qa oa) := hsa
            have HB11 : Hid (Below w.heap.size w w11) := HB10.out.trans (hb11.mono HB10.out.size)
            have HB911 : Hid (Below w9.heap.size w9 w11) := HB910.out.trans (hb11.mono HB910.out.size)
            have HCS11 : Hid (Chs w11 q (chs fa fb keys)) := HCS.out.below hb11
            have q2 : w11.cell? ⟨bk, ok + i, none⟩ = some (.string k) := (hb11.cell (p := ⟨bk, ok + i, none⟩) (lt_of_cell q1)).trans q1
            have HRb' := HRb.out w11 HB11.out
            clear hOa hla hPa hb11 hsa HRa HRb q1 HB10 HB910 HCS HPFA
            go_wp2_with fail
            refine HRb'.mono ?_
            rintro e w12 ⟨⟨vb, ob, rfl, hOb, hlb, hPb⟩, hb12⟩
            have hob : ob = gk := Pref.unique hPb HPFB.out.1 (by have := HPFB.out.2; omega)
            subst hob
            obtain ⟨qb, cb, rfl, hsb, _, _, _⟩ := hOb.form
            have HSB12 : Hid (Strs w12 qb ob) := hsb
            have HSA12 : Hid (Strs w12 qa oa) := HSA11.out.below hb12
            have HB12 : Hid (Below w.heap.size w w12) := HB11.out.trans (hb12.mono HB11.out.size)
            have HB912 : Hid (Below w9.heap.size w9 w12) := HB911.out.trans (hb12.mono HB911.out.size)
            have HCS12 : Hid (Chs w12 q (chs fa fb keys)) := HCS11.out.below hb12
            have q3 : w12.cell? ⟨bk, ok + i, none⟩ = some (.string k) := (hb12.cell (p := ⟨bk, ok + i, none⟩) (lt_of_cell q2)).trans q2
            have HSS := HSM.out qa qb oa ob ca cb w12 (by omega) (by omega) HSA12.out HSB12.out
            clear hOb hlb hPb hb12 hsb HRb' q2 HB11 HB911 HCS11 HPFB HSA11
            by_cases heq : oa = ob
            · have HL := HS1.out heq
              rw [decide_eq_true heq] at HSS
              clear heq
              go_wp2_with fail
              refine HSS.mono ?_
              rintro e w13 ⟨rfl, hb13⟩
              have HB913 : Hid (Below w9.heap.size w9 w13) := HB912.out.trans (hb13.mono HB912.out.size)
              have HLL : Hid (cn1.length = a) := HL
              clear HSS hb13 HL
              go_wp2
              go_roundw
              case rel => exact ⟨i + 1, by omega, by go_num, by rw [HCN.out, HLL.out], HB913.out⟩
              case measure => simp [intOf]; omega
            · have HL := HS2.out heq
              obtain ⟨hal, hae⟩ := HAT.out heq
              rw [decide_eq_false heq] at HSS
              clear heq
              go_wp2_with fail
              refine HSS.mono ?_
              rintro e w13 ⟨rfl, hb13⟩
              have HB913 : Hid (Below w9.heap.size w9 w13) := HB912.out.trans (hb13.mono HB912.out.size)
              have HLL : Hid (cn1.length = a + 1) := HL
              have q4 : w13.cell? ⟨bk, ok + i, none⟩ = some (.string k) := (hb13.cell (p := ⟨bk, ok + i, none⟩) (lt_of_cell q3)).trans q3
              have HSA13 : Hid (Strs w13 qa oa) := HSA12.out.below hb13
              have HSB13 : Hid (Strs w13 qb ob) := HSB12.out.below hb13
              rcases HCS12.out.below hb13 with h0 | ⟨bq, oq, hqq, hblt, hcc⟩
              · rw [h0] at hal; exact absurd hal (Nat.not_lt_zero _)
              subst hqq
              obtain ⟨pf, cf, pt, ct, c1, c2, c3, hsf, hst⟩ := hcc a hal
              rw [hae] at c1 c2 c3 hsf hst
              have HSF : Hid (Strs w13 pf oa) := hsf
              have HST : Hid (Strs w13 pt ob) := hst
              have c1' : w13.cell? ⟨bq, oq + a * 3, none⟩ = some (.string k) := c1
              have c2' : w13.cell? ⟨bq, oq + a * 3 + 1, none⟩ = some (.slice pf oa.length cf) := c2
              have c3' : w13.cell? ⟨bq, oq + a * 3 + 2, none⟩ = some (.slice pt ob.length ct) := c3
              have HKEEP : Hid (∀ W w', (W.cell? ⟨bk, ok + i, none⟩ = some (.string k) ∧ W.cell? ⟨bq, oq + a * 3, none⟩ = some (.string k) ∧ W.cell? ⟨bq, oq + a * 3 + 1, none⟩ = some (.slice pf oa.length cf) ∧ W.cell? ⟨bq, oq + a * 3 + 2, none⟩ = some (.slice pt ob.length ct) ∧ Below w13.heap.size w13 W) → Below W.heap.size W w' → (w'.cell? ⟨bk, ok + i, none⟩ = some (.string k) ∧ w'.cell? ⟨bq, oq + a * 3, none⟩ = some (.string k) ∧ w'.cell? ⟨bq, oq + a * 3 + 1, none⟩ = some (.slice pf oa.length cf) ∧ w'.cell? ⟨bq, oq + a * 3 + 2, none⟩ = some (.slice pt ob.length ct) ∧ Below w13.heap.size w13 w')) := fun W w' hW hb => by
                obtain ⟨h1, h2, h3, h4, h5⟩ := hW
                exact ⟨(hb.cell (p := ⟨bk, ok + i, none⟩) (lt_of_cell h1)).trans h1, (hb.cell (p := ⟨bq, oq + a * 3, none⟩) (lt_of_cell h2)).trans h2, (hb.cell (p := ⟨bq, oq + a * 3 + 1, none⟩) (lt_of_cell h3)).trans h3, (hb.cell (p := ⟨bq, oq + a * 3 + 2, none⟩) (lt_of_cell h4)).trans h4, h5.trans (hb.mono h5.size)⟩
              have HSA : Hid (∀ W, (W.cell? ⟨bk, ok + i, none⟩ = some (.string k) ∧ W.cell? ⟨bq, oq + a * 3, none⟩ = some (.string k) ∧ W.cell? ⟨bq, oq + a * 3 + 1, none⟩ = some (.slice pf oa.length cf) ∧ W.cell? ⟨bq, oq + a * 3 + 2, none⟩ = some (.slice pt ob.length ct) ∧ Below w13.heap.size w13 W) → Calls Tryz.prog 13 #[.slice pf oa.length cf, .slice qa oa.length ca] W fun e w' => e = .returned (.bool true) ∧ (w'.cell? ⟨bk, ok + i, none⟩ = some (.string k) ∧ w'.cell? ⟨bq, oq + a * 3, none⟩ = some (.string k) ∧ w'.cell? ⟨bq, oq + a * 3 + 1, none⟩ = some (.slice pf oa.length cf) ∧ w'.cell? ⟨bq, oq + a * 3 + 2, none⟩ = some (.slice pt ob.length ct) ∧ Below w13.heap.size w13 w')) := fun W hW => by
                have h := HSM.out pf qa oa oa cf ca W (by omega) (by omega) (HSF.out.below hW.2.2.2.2) (HSA13.out.below hW.2.2.2.2)
                rw [decide_eq_true rfl] at h
                refine h.mono ?_
                rintro e w' ⟨rfl, hb⟩
                exact ⟨rfl, HKEEP.out W w' hW hb⟩
              have HSB : Hid (∀ W, (W.cell? ⟨bk, ok + i, none⟩ = some (.string k) ∧ W.cell? ⟨bq, oq + a * 3, none⟩ = some (.string k) ∧ W.cell? ⟨bq, oq + a * 3 + 1, none⟩ = some (.slice pf oa.length cf) ∧ W.cell? ⟨bq, oq + a * 3 + 2, none⟩ = some (.slice pt ob.length ct) ∧ Below w13.heap.size w13 W) → Calls Tryz.prog 13 #[.slice pt ob.length ct, .slice qb ob.length cb] W fun e w' => e = .returned (.bool true) ∧ (w'.cell? ⟨bk, ok + i, none⟩ = some (.string k) ∧ w'.cell? ⟨bq, oq + a * 3, none⟩ = some (.string k) ∧ w'.cell? ⟨bq, oq + a * 3 + 1, none⟩ = some (.slice pf oa.length cf) ∧ w'.cell? ⟨bq, oq + a * 3 + 2, none⟩ = some (.slice pt ob.length ct) ∧ Below w13.heap.size w13 w')) := fun W hW => by
                have h := HSM.out pt qb ob ob ct cb W (by omega) (by omega) (HST.out.below hW.2.2.2.2) (HSB13.out.below hW.2.2.2.2)
                rw [decide_eq_true rfl] at h
                refine h.mono ?_
                rintro e w' ⟨rfl, hb⟩
                exact ⟨rfl, HKEEP.out W w' hW hb⟩
              have hS0 : w13.drew.cell? ⟨bk, ok + i, none⟩ = some (.string k) ∧ w13.drew.cell? ⟨bq, oq + a * 3, none⟩ = some (.string k) ∧ w13.drew.cell? ⟨bq, oq + a * 3 + 1, none⟩ = some (.slice pf oa.length cf) ∧ w13.drew.cell? ⟨bq, oq + a * 3 + 2, none⟩ = some (.slice pt ob.length ct) ∧ Below w13.heap.size w13 w13.drew := ⟨q4, c1', c2', c3', (Below.refl _ _).drew⟩
              have hal1 : a < ln := by rw [← HLNE.out]; exact hal
              have hal2 : (a : Int) < (ln : Int) := by omega
              have gal : decide (ln ≤ a) = false := decide_eq_false (by omega)
              clear HSS hb13 HL hcc c1 c2 c3 hsf hst hae HKEEP q3 HSM HAT HS1 HS2 hal
              go_wp2
              go_region_held3 (fun W => W.cell? ⟨bk, ok + i, none⟩ = some (.string k) ∧ W.cell? ⟨bq, oq + a * 3, none⟩ = some (.string k) ∧ W.cell? ⟨bq, oq + a * 3 + 1, none⟩ = some (.slice pf oa.length cf) ∧ W.cell? ⟨bq, oq + a * 3 + 2, none⟩ = some (.slice pt ob.length ct) ∧ Below w13.heap.size w13 W) (first | assumption | exact hS0)
                (first | (go_at_call 13; with_reducible refine (HSA.out _ (by assumption)).mono ?_; rintro e w14 ⟨rfl, hS14⟩) | (go_at_call 13; with_reducible refine (HSB.out _ (by assumption)).mono ?_; rintro e w15 ⟨rfl, hS15⟩))
              have HB15 : Hid (Below w9.heap.size w9 w15) := HB913.out.trans (hS15.2.2.2.2.mono HB913.out.size)
              clear hS15 hS14 hS0 q4 c1' c2' c3' HSA HSB HSF HST HSA13 HSB13
              go_wp2
              go_roundw
              case rel => exact ⟨i + 1, by omega, by go_num, by rw [HCN.out, HLL.out]; first | rfl | go_num, HB15.out⟩
              case measure => simp [intOf]; omega
          · have hie : i = keys.length := by omega
            subst hie
            have hlast : (chs fa fb (keys.take keys.length)).length = ln := by rw [List.take_length]; exact HLNE.out
            rw [hlast]
            clear hlast
            go_wp2
            go_ret
            exact ⟨rfl, HB10.out⟩
theorem ringMoves_any (po pn pk : Option Addr) (old now keys : List ByteArray) (co cn ck : Nat) (n : Int) (ad : Nat → Addr) (w : World) (hlo : old.length ≤ maxLen) (hxo : ∀ x ∈ old, x.size ≤ maxLen) (hln : now.length ≤ maxLen) (hxn : ∀ x ∈ now, x.size ≤ maxLen) (hkl : keys.length ≤ 8796093021952) (hkx : ∀ x ∈ keys, x.size ≤ maxLen)
    (hco : old.length ≤ co) (hcn : now.length ≤ cn) (hck : keys.length ≤ ck) (hno : po = none → old = [] ∧ co = 0) (hnn : pn = none → now = [] ∧ cn = 0) (hnk : pk = none → keys = [] ∧ ck = 0) (hso : Strs w po old) (hsn : Strs w pn now) (hsk : Strs w pk keys) (hR : RingOk ad) (hM : MovesOk ad) (hS : Sent w ad) :
    Calls Tryz.prog 4 #[.slice po old.length co, .slice pn now.length cn, .slice pk keys.length ck, .int .i64 n] w fun e w' => e = .returned (.bool true) ∧ Below w.heap.size w w' := by
  by_cases h : longL old = false ∧ longL now = false ∧ ¬ (20 < keys.length ∧ keys.length ≤ 200)
  · obtain ⟨h1, h2, h3⟩ := h
    by_cases h4 : keys.length ≤ 20
    · exact ringMoves_few po pn pk old now keys co cn ck n ad w h1 h2 h4 hkl hkx hco hcn hck hno hnn hnk hso hsn hsk hR hM hS
    · exact ringMoves_many po pn pk old now keys co cn ck n ad w h1 h2 (by omega) hkl hkx hco hcn hck hno hnn hnk hso hsn hsk hR hM hS
  · exact ringMoves_pass po pn pk old now keys co cn ck n ad w hlo hxo hln hxn hso hsn hR hS h
end
section
open Ring
/-- -1, 0, 1 by number. -/
def cmpN (a b : Nat) : Int := if a < b then -1 else if b < a then 1 else 0
/-- -1, 0, 1 by text. -/
def cmpT (x y : ByteArray) : Int := if Op.bytesLess x.toList y.toList then -1 else if Op.bytesLess y.toList x.toList then 1 else 0
set_option maxRecDepth 10000 in
theorem nan_u32 (a : Nat) (w : World) : Calls Tryz.prog 64 #[.int .u32 (a : Int)] w fun e w' => e = .returned (.bool false) ∧ w' = w := by
  go_enter Tryz.func64, Tryz.ntmps64
  go_wp2
  go_ret
  exact ⟨rfl, rfl⟩
set_option maxRecDepth 10000 in
theorem nan_int (a : Nat) (w : World) : Calls Tryz.prog 66 #[.int .i64 (a : Int)] w fun e w' => e = .returned (.bool false) ∧ w' = w := by
  go_enter Tryz.func66, Tryz.ntmps66
  go_wp2
  go_ret
  exact ⟨rfl, rfl⟩
set_option maxRecDepth 10000 in
theorem nan_txt (x : ByteArray) (w : World) : Calls Tryz.prog 65 #[.string x] w fun e w' => e = .returned (.bool false) ∧ w' = w := by
  go_enter Tryz.func65, Tryz.ntmps65
  go_wp2
  go_ret
  exact ⟨rfl, rfl⟩
set_option maxRecDepth 10000 in
set_option maxHeartbeats 1000000 in
theorem cmp_u32 (a b : Nat) (w : World) : Calls Tryz.prog 51 #[.int .u32 (a : Int), .int .u32 (b : Int)] w fun e w' => e = .returned (.int .i64 (cmpN a b)) ∧ w' = w := by
  have h1 := fun W => nan_u32 a W
  have h2 := fun W => nan_u32 b W
  rcases Nat.lt_trichotomy a b with h | h | h
  · have HE : Hid (cmpN a b = -1) := if_pos h
    rw [HE.out]
    go_enter Tryz.func51, Tryz.ntmps51
    go_wp2_with fail
    refine (h1 _).mono ?_
    rintro e w1 ⟨rfl, hw1⟩
    rw [hw1]
    clear hw1 w1
    go_wp2_with fail
    refine (h2 _).mono ?_
    rintro e w1 ⟨rfl, hw1⟩
    rw [hw1]
    clear hw1 w1
    go_wp2
    go_ret
    exact ⟨rfl, rfl⟩
  · subst h
    have HE : Hid (cmpN a a = 0) := by show _ = _; unfold cmpN; rw [if_neg (Nat.lt_irrefl _), if_neg (Nat.lt_irrefl _)]
    rw [HE.out]
    go_enter Tryz.func51, Tryz.ntmps51
    go_wp2_with fail
    refine (h1 _).mono ?_
    rintro e w1 ⟨rfl, hw1⟩
    rw [hw1]
    clear hw1 w1
    go_wp2_with fail
    refine (h2 _).mono ?_
    rintro e w1 ⟨rfl, hw1⟩
    rw [hw1]
    clear hw1 w1
    go_wp2
    go_ret
    exact ⟨rfl, rfl⟩
  · have HE : Hid (cmpN a b = 1) := by show _ = _; unfold cmpN; rw [if_neg (by omega), if_pos h]
    have d1 : decide ((a : Int) < (b : Int)) = false := decide_eq_false (by omega)
    rw [HE.out]
    go_enter Tryz.func51, Tryz.ntmps51
    go_wp2_with fail
    refine (h1 _).mono ?_
    rintro e w1 ⟨rfl, hw1⟩
    rw [hw1]
    clear hw1 w1
    go_wp2_with fail
    refine (h2 _).mono ?_
    rintro e w1 ⟨rfl, hw1⟩
    rw [hw1]
    clear hw1 w1
    go_wp2
    go_ret
    exact ⟨rfl, rfl⟩
set_option maxRecDepth 10000 in
set_option maxHeartbeats 1000000 in
theorem cmp_int (a b : Nat) (w : World) : Calls Tryz.prog 53 #[.int .i64 (a : Int), .int .i64 (b : Int)] w fun e w' => e = .returned (.int .i64 (cmpN a b)) ∧ w' = w := by
  have h1 := fun W => nan_int a W
  have h2 := fun W => nan_int b W
  rcases Nat.lt_trichotomy a b with h | h | h
  · have HE : Hid (cmpN a b = -1) := if_pos h
    rw [HE.out]
    go_enter Tryz.func53, Tryz.ntmps53
    go_wp2_with fail
    refine (h1 _).mono ?_
    rintro e w1 ⟨rfl, hw1⟩
    rw [hw1]
    clear hw1 w1
    go_wp2_with fail
    refine (h2 _).mono ?_
    rintro e w1 ⟨rfl, hw1⟩
    rw [hw1]
    clear hw1 w1
    go_wp2
    go_ret
    exact ⟨rfl, rfl⟩
  · subst h
    have HE : Hid (cmpN a a = 0) := by show _ = _; unfold cmpN; rw [if_neg (Nat.lt_irrefl _), if_neg (Nat.lt_irrefl _)]
    rw [HE.out]
    go_enter Tryz.func53, Tryz.ntmps53
    go_wp2_with fail
    refine (h1 _).mono ?_
    rintro e w1 ⟨rfl, hw1⟩
    rw [hw1]
    clear hw1 w1
    go_wp2_with fail
    refine (h2 _).mono ?_
    rintro e w1 ⟨rfl, hw1⟩
    rw [hw1]
    clear hw1 w1
    go_wp2
    go_ret
    exact ⟨rfl, rfl⟩
  · have HE : Hid (cmpN a b = 1) := by show _ = _; unfold cmpN; rw [if_neg (by omega), if_pos h]
    have d1 : decide ((a : Int) < (b : Int)) = false := decide_eq_false (by omega)
    rw [HE.out]
    go_enter Tryz.func53, Tryz.ntmps53
    go_wp2_with fail
    refine (h1 _).mono ?_
    rintro e w1 ⟨rfl, hw1⟩
    rw [hw1]
    clear hw1 w1
    go_wp2_with fail
    refine (h2 _).mono ?_
    rintro e w1 ⟨rfl, hw1⟩
    rw [hw1]
    clear hw1 w1
    go_wp2
    go_ret
    exact ⟨rfl, rfl⟩
set_option maxRecDepth 10000 in
set_option maxHeartbeats 1000000 in
theorem cmp_txt (x y : ByteArray) (w : World) : Calls Tryz.prog 52 #[.string x, .string y] w fun e w' => e = .returned (.int .i64 (cmpT x y)) ∧ w' = w := by
  have h1 := fun W => nan_txt x W
  have h2 := fun W => nan_txt y W
  have HG : Hid (∀ W, Sem.run Tryz.prog (binOp .gtr 9 (.string x) (.string y)) W = .ok (.bool !(Op.bytesLess x.toList y.toList || x.toList == y.toList)) W) := fun W => by simp [binOp, Op.stringOp]
  cases hxy : Op.bytesLess x.toList y.toList with
  | true =>
    have HE : Hid (cmpT x y = -1) := by show _ = _; unfold cmpT; rw [hxy]; rfl
    rw [HE.out]
    go_enter Tryz.func52, Tryz.ntmps52
    go_wp2_with fail
    refine (h1 _).mono ?_
    rintro e w1 ⟨rfl, hw1⟩
    rw [hw1]
    clear hw1 w1
    go_wp2_with fail
    refine (h2 _).mono ?_
    rintro e w1 ⟨rfl, hw1⟩
    rw [hw1]
    clear hw1 w1
    go_wp2
    go_ret
    exact ⟨rfl, rfl⟩
  | false =>
    cases hyx : Op.bytesLess y.toList x.toList with
    | true =>
      have HE : Hid (cmpT x y = 1) := by show _ = _; unfold cmpT; rw [hxy, hyx]; rfl
      have hne : (x.toList == y.toList) = false := by
        rw [beq_eq_false_iff_ne]
        intro e
        rw [e, less_irrefl] at hyx
        cases hyx
      have hg : ∀ W, Sem.run Tryz.prog (binOp .gtr 9 (.string x) (.string y)) W = .ok (.bool true) W := fun W => by rw [HG.out W, hxy, hne]; rfl
      rw [HE.out]
      go_enter Tryz.func52, Tryz.ntmps52
      go_wp2_with fail
      refine (h1 _).mono ?_
      rintro e w1 ⟨rfl, hw1⟩
      rw [hw1]
      clear hw1 w1
      go_wp2_with fail
      refine (h2 _).mono ?_
      rintro e w1 ⟨rfl, hw1⟩
      rw [hw1]
      clear hw1 w1
      go_wp2
      go_ret
      exact ⟨rfl, rfl⟩
    | false =>
      have HE : Hid (cmpT x y = 0) := by show _ = _; unfold cmpT; rw [hxy, hyx]; rfl
      have hne : (x.toList == y.toList) = true := by
        rw [beq_iff_eq]
        refine Classical.byContradiction fun h => ?_
        rcases less_total h with h3 | h3
        · rw [h3] at hxy; cases hxy
        · rw [h3] at hyx; cases hyx
      have hg : ∀ W, Sem.run Tryz.prog (binOp .gtr 9 (.string x) (.string y)) W = .ok (.bool false) W := fun W => by rw [HG.out W, hxy, hne]; rfl
      rw [HE.out]
      go_enter Tryz.func52, Tryz.ntmps52
      go_wp2_with fail
      refine (h1 _).mono ?_
      rintro e w1 ⟨rfl, hw1⟩
      rw [hw1]
      clear hw1 w1
      go_wp2_with fail
      refine (h2 _).mono ?_
      rintro e w1 ⟨rfl, hw1⟩
      rw [hw1]
      clear hw1 w1
      go_wp2
      go_ret
      exact ⟨rfl, rfl⟩
/-- The first that is not 0, of three. -/
def orI (a b c : Int) : Int := if a ≠ 0 then a else if b ≠ 0 then b else c
set_option maxRecDepth 10000 in
set_option maxHeartbeats 1000000 in
theorem or_three (g o : Nat) (a b c : Int) (w : World) (h0 : w.cell? ⟨g, o, none⟩ = some (.int .i64 a)) (h1 : w.cell? ⟨g, o + 1, none⟩ = some (.int .i64 b)) (h2 : w.cell? ⟨g, o + 2, none⟩ = some (.int .i64 c)) :
    Calls Tryz.prog 50 #[.slice (some ⟨g, o, none⟩) 3 3] w fun e w' => e = .returned (.int .i64 (orI a b c)) ∧ w' = w := by
  obtain ⟨f, hf⟩ : ∃ f : Nat → Int, f = fun i => if i = 0 then a else if i = 1 then b else c := ⟨_, rfl⟩
  have HC : Hid (∀ i, i < 3 → w.cell? ⟨g, o + i, none⟩ = some (.int .i64 (f i))) := fun i hi => by
    rw [hf]
    match i, hi with
    | 0, _ => exact h0
    | 1, _ => exact h1
    | 2, _ => exact h2
  obtain ⟨r, hr⟩ : ∃ r, r = orI a b c := ⟨_, rfl⟩
  have HR : Hid (∀ i, i < 3 → (∀ j, j < i → f j = 0) → f i ≠ 0 → r = f i) := fun i hi hall hne => by
    rw [hr, hf]
    unfold orI
    match i, hi with
    | 0, _ => rw [hf] at hne; have hne' : a ≠ 0 := hne; rw [if_pos hne']; rfl
    | 1, _ =>
      have := hall 0 (by omega)
      rw [hf] at this hne
      have ha : a = 0 := this
      have hb : b ≠ 0 := hne
      rw [if_neg (by rw [ha]; decide), if_pos hb]; rfl
    | 2, _ =>
      have t0 := hall 0 (by omega)
      have t1 := hall 1 (by omega)
      rw [hf] at t0 t1
      have ha : a = 0 := t0
      have hb : b = 0 := t1
      rw [if_neg (by rw [ha]; decide), if_neg (by rw [hb]; decide)]; rfl
  have HZ : Hid ((∀ j, j < 3 → f j = 0) → r = 0) := fun hall => by
    have t0 := hall 0 (by omega)
    have t1 := hall 1 (by omega)
    have t2 := hall 2 (by omega)
    rw [hf] at t0 t1 t2
    have ha : a = 0 := t0
    have hb : b = 0 := t1
    have hc : c = 0 := t2
    rw [hr, ha, hb, hc]
    decide
  rw [← hr]
  clear hf hr h0 h1 h2
  go_enter Tryz.func50, Tryz.ntmps50
  go_wp2
  go_loop [8] (fun x => ∃ i : Nat, i ≤ 3 ∧ x = .int .i64 i ∧ ∀ j, j < i → f j = 0) (fun x => 3 - (intOf x).toNat)
  case atStart => exact ⟨0, by omega, rfl, fun j hj => absurd hj (Nat.not_lt_zero _)⟩
  case round =>
    obtain ⟨i, hi, rfl, hall⟩ := hrel
    have HALL : Hid (∀ j, j < i → f j = 0) := hall
    clear hall
    by_cases hil : i < 3
    · have q1 := HC.out i hil
      have HRI : Hid (f i ≠ 0 → r = f i) := HR.out i hil HALL.out
      have HN : Hid (f i = 0 → ∀ j, j < i + 1 → f j = 0) := fun h j hj => by
        rcases Nat.lt_or_ge j i with h' | h'
        · exact HALL.out j h'
        · obtain rfl : j = i := by omega
          exact h
      clear HALL HR HC HZ
      generalize f i = y at *
      by_cases hy : y = 0
      · have HNX := HN.out hy
        subst hy
        have HNX' : Hid (∀ j, j < i + 1 → f j = 0) := HNX
        clear HNX HN HRI
        go_wp2
        go_round
        case rel => exact ⟨i + 1, by omega, by go_num, HNX'.out⟩
        case measure => simp [intOf]; omega
      · have HE : Hid (r = y) := HRI.out hy
        have d1 : (y == 0) = false := by rw [beq_eq_false_iff_ne]; exact hy
        have d2 : (y != 0) = true := by rw [bne_iff_ne]; exact hy
        clear HRI HN
        go_wp2
        go_ret
        exact ⟨by rw [HE.out]; rfl, rfl⟩
    · have HE : Hid (r = 0) := HZ.out (fun j hj => HALL.out j (by omega))
      go_wp2
      go_ret
      exact ⟨by rw [HE.out]; rfl, rfl⟩
end
end Go.Proofs.YtppcijpgalaohaaGreatDoor
