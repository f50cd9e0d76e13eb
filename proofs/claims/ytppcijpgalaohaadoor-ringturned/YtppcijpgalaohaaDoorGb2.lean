/- Texts laid together. -/
import Derived.Test.YtppcijpgalaohaaDoorGb1
import Derived.Shelf.LaysM
import Derived.Shelf.Strconv.Clone
import Derived.Shelf.Strconv.Itoa3
import Derived.Shelf.GgClosure.StringsIndexFuncTop
import Derived.Shelf.SlSortCmp.WholeK
import Derived.Shelf.SlicesQ.IndexFunc
import Derived.Deep.RegionHeld3
set_option maxRecDepth 10000
set_option maxHeartbeats 8000000
namespace Go.Proofs
open Go.Shelf
def Tryd.lays316_ren : Go.Shelf.Ren := ⟨fun | 316 => 117 | n => n, fun | 9 => 9 | 3 => 3 | 4 => 4 | 37 => 58 | 0 => 0 | 127 => 109 | 5 => 5 | n => n, fun | n => n⟩
theorem Tryd.lays316 : Go.Proofs.LaysM.n316 Tryd.prog Tryd.lays316_ren := {
  mixed := by kernel_rfl
  f316 := Tryd.func117.trans (congrArg some (by kernel_rfl))
  t0 := Tryd.underlying0
  a0 := Tryd.isAgg0
  z0 := Tryd.sizeOf0
  v0 := Tryd.zeroValue0
  t3 := Tryd.underlying3
  a3 := Tryd.isAgg3
  z3 := Tryd.sizeOf3
  v3 := Tryd.zeroValue3
  t4 := Tryd.underlying4
  a4 := Tryd.isAgg4
  z4 := Tryd.sizeOf4
  v4 := Tryd.zeroValue4
  t9 := Tryd.underlying9
  a9 := Tryd.isAgg9
  z9 := Tryd.sizeOf9
  v9 := Tryd.zeroValue9
  t37 := Tryd.underlying58
  a37 := Tryd.isAgg58
  z37 := Tryd.sizeOf58
  v37 := Tryd.zeroValue58
  t127 := Tryd.underlying109
  a127 := Tryd.isAgg109
  z127 := Tryd.sizeOf109
  v127 := Tryd.zeroValue109
  t5 := Tryd.underlying5
  a5 := Tryd.isAgg5
  z5 := Tryd.sizeOf5
  v5 := Tryd.zeroValue5
  i0 := by kernel_rfl
  i3 := by kernel_rfl
  i4 := by kernel_rfl
  i5 := by kernel_rfl
  i9 := by kernel_rfl
  i37 := by kernel_rfl
  i127 := by kernel_rfl }
open Go.RowKit in
/-- internal/stringslite.Clone. -/
theorem Tryd.stringslite_Clone (s : ByteArray) (w : World) (hlim : s.size ≤ 281474976710656) :
    Calls Tryd.prog 117 #[.string s] w fun e w' => e = .returned (.string s) ∧ Below w.heap.size w w' := Any.stringslite_Clone Tryd.lays316 s w hlim
def Tryd.lays171_ren : Go.Shelf.Ren := ⟨fun | 171 => 84 | 243 => 110 | 246 => 122 | 283 => 134 | 284 => 135 | 285 => 136 | 286 => 137 | 129 => 132 | 317 => 143 | 318 => 144 | 319 => 145 | 320 => 146 | 337 => 148 | 338 => 149 | n => n, fun | 3 => 3 | 9 => 9 | 2 => 2 | 4 => 4 | 171 => 183 | 0 => 0 | 53 => 181 | 37 => 58 | 5 => 5 | 173 => 185 | 212 => 194 | 51 => 102 | 20 => 20 | 213 => 195 | 46 => 89 | 232 => 198 | 233 => 199 | n => n, fun | 17 => 14 | 18 => 15 | 19 => 16 | n => n⟩
theorem Tryd.lays171 : Go.Proofs.Lays.n171 Tryd.prog Tryd.lays171_ren := {
  mixed := by kernel_rfl
  f129 := Tryd.func132.trans (congrArg some (by kernel_rfl))
  f171 := Tryd.func84.trans (congrArg some (by kernel_rfl))
  f243 := Tryd.func110.trans (congrArg some (by kernel_rfl))
  f246 := Tryd.func122.trans (congrArg some (by kernel_rfl))
  f283 := Tryd.func134.trans (congrArg some (by kernel_rfl))
  f284 := Tryd.func135.trans (congrArg some (by kernel_rfl))
  f285 := Tryd.func136.trans (congrArg some (by kernel_rfl))
  f286 := Tryd.func137.trans (congrArg some (by kernel_rfl))
  f317 := Tryd.func143.trans (congrArg some (by kernel_rfl))
  f318 := Tryd.func144.trans (congrArg some (by kernel_rfl))
  f319 := Tryd.func145.trans (congrArg some (by kernel_rfl))
  f320 := Tryd.func146.trans (congrArg some (by kernel_rfl))
  f337 := Tryd.func148.trans (congrArg some (by kernel_rfl))
  f338 := Tryd.func149.trans (congrArg some (by kernel_rfl))
  t0 := Tryd.underlying0
  a0 := Tryd.isAgg0
  z0 := Tryd.sizeOf0
  v0 := Tryd.zeroValue0
  t2 := Tryd.underlying2
  a2 := Tryd.isAgg2
  z2 := Tryd.sizeOf2
  v2 := Tryd.zeroValue2
  t3 := Tryd.underlying3
  a3 := Tryd.isAgg3
  z3 := Tryd.sizeOf3
  v3 := Tryd.zeroValue3
  t4 := Tryd.underlying4
  a4 := Tryd.isAgg4
  z4 := Tryd.sizeOf4
  v4 := Tryd.zeroValue4
  t5 := Tryd.underlying5
  a5 := Tryd.isAgg5
  z5 := Tryd.sizeOf5
  v5 := Tryd.zeroValue5
  t9 := Tryd.underlying9
  a9 := Tryd.isAgg9
  z9 := Tryd.sizeOf9
  v9 := Tryd.zeroValue9
  t20 := Tryd.underlying20
  a20 := Tryd.isAgg20
  z20 := Tryd.sizeOf20
  v20 := Tryd.zeroValue20
  t37 := Tryd.underlying58
  a37 := Tryd.isAgg58
  z37 := Tryd.sizeOf58
  v37 := Tryd.zeroValue58
  t46 := Tryd.underlying89
  a46 := Tryd.isAgg89
  z46 := Tryd.sizeOf89
  v46 := Tryd.zeroValue89
  t51 := Tryd.underlying102
  a51 := Tryd.isAgg102
  z51 := Tryd.sizeOf102
  v51 := Tryd.zeroValue102
  t53 := Tryd.underlying181
  a53 := Tryd.isAgg181
  z53 := Tryd.sizeOf181
  v53 := Tryd.zeroValue181
  t171 := Tryd.underlying183
  a171 := Tryd.isAgg183
  z171 := Tryd.sizeOf183
  v171 := Tryd.zeroValue183
  t173 := Tryd.underlying185
  a173 := Tryd.isAgg185
  z173 := Tryd.sizeOf185
  v173 := Tryd.zeroValue185
  t212 := Tryd.underlying194
  a212 := Tryd.isAgg194
  z212 := Tryd.sizeOf194
  v212 := Tryd.zeroValue194
  t213 := Tryd.underlying195
  a213 := Tryd.isAgg195
  z213 := Tryd.sizeOf195
  t232 := Tryd.underlying198
  a232 := Tryd.isAgg198
  z232 := Tryd.sizeOf198
  v232 := Tryd.zeroValue198
  t233 := Tryd.underlying199
  a233 := Tryd.isAgg199
  z233 := Tryd.sizeOf199
  v233 := Tryd.zeroValue199
  g17 := by kernel_rfl
  g18 := by kernel_rfl
  g19 := by kernel_rfl }
open Go.RowKit in
/-- strconv.Itoa of a small number. -/
theorem Tryd.strconv_Itoa_small (i : Nat) (hi : i < 100) (w : World) :
    Calls Tryd.prog 84 #[.int .i64 i] w fun e w' => e = .returned (.string ⟨(Lib.decDigits i).toArray⟩) ∧ w' = w := Any.strconv_Itoa_small Tryd.lays171 i hi w
def Tryd.laysGw17_ren : Go.Shelf.Ren := ⟨fun | 17 => 107 | 15 => 121 | 20 => 133 | n => n, fun | 9 => 9 | 23 => 159 | 4 => 4 | 3 => 3 | 0 => 0 | 21 => 21 | n => n, fun | n => n⟩
theorem Tryd.laysGw17 : Go.Proofs.LaysGw.n17 Tryd.prog Tryd.laysGw17_ren := {
  mixed := by kernel_rfl
  f15 := Tryd.func121.trans (congrArg some (by kernel_rfl))
  f17 := Tryd.func107.trans (congrArg some (by kernel_rfl))
  f20 := Tryd.func133.trans (congrArg some (by kernel_rfl))
  t0 := Tryd.underlying0
  a0 := Tryd.isAgg0
  z0 := Tryd.sizeOf0
  v0 := Tryd.zeroValue0
  i0 := by kernel_rfl
  t3 := Tryd.underlying3
  a3 := Tryd.isAgg3
  z3 := Tryd.sizeOf3
  v3 := Tryd.zeroValue3
  i3 := by kernel_rfl
  t4 := Tryd.underlying4
  a4 := Tryd.isAgg4
  z4 := Tryd.sizeOf4
  v4 := Tryd.zeroValue4
  i4 := by kernel_rfl
  t9 := Tryd.underlying9
  a9 := Tryd.isAgg9
  z9 := Tryd.sizeOf9
  v9 := Tryd.zeroValue9
  i9 := by kernel_rfl
  t21 := Tryd.underlying21
  a21 := Tryd.isAgg21
  z21 := Tryd.sizeOf21
  v21 := Tryd.zeroValue21
  i21 := by kernel_rfl
  t23 := Tryd.underlying159
  a23 := Tryd.isAgg159
  z23 := Tryd.sizeOf159
  v23 := Tryd.zeroValue159
  i23 := by kernel_rfl }
open Go.RowKit in
/-- strings.ContainsFunc. -/
theorem Tryd.strings_ContainsFunc (g : Nat) (lb : Array Value) (eg : ∀ args w, (callFunc g args).run Tryd.prog w = .ok (.enter g args) w) (p : Nat → Bool) (s : ByteArray) (w : World) (hp : PredAt Tryd.prog g lb encR p w) :
    Calls Tryd.prog 107 #[.string s, .func (.func g) #[] lb] w fun e w' => e = .returned (.bool (decide (0 ≤ Lib.idxFunc p true s))) ∧ Below w.heap.size w w' := Any.strings_ContainsFunc Tryd.laysGw17 g lb eg p s w hp
def Tryd.laysF6_ren : Go.Shelf.Ren := ⟨fun | 6 => 85 | 15 => 112 | 14 => 111 | 28 => 131 | 29 => 132 | 20 => 123 | 21 => 124 | 22 => 125 | 23 => 126 | 24 => 127 | 25 => 128 | 26 => 129 | 27 => 130 | 46 => 138 | 47 => 139 | 48 => 140 | 49 => 141 | 50 => 142 | 57 => 147 | n => n, fun | 22 => 99 | 24 => 128 | 25 => 133 | 3 => 3 | 39 => 89 | 0 => 0 | 53 => 102 | 55 => 181 | 4 => 4 | 46 => 173 | 45 => 172 | 50 => 177 | 5 => 5 | 9 => 9 | 66 => 187 | 70 => 191 | 76 => 196 | 77 => 68 | n => n, fun | n => n⟩
theorem Tryd.laysF6 : Go.Proofs.SlLaysF0.n6 Tryd.prog Tryd.laysF6_ren := {
  mixed := by kernel_rfl
  f6 := ⟨Tryd.f85.name, by decide, Tryd.func85.trans (congrArg some (by kernel_rfl))⟩
  f14 := ⟨Tryd.f111.name, by decide, Tryd.func111.trans (congrArg some (by kernel_rfl))⟩
  f15 := Tryd.func112.trans (congrArg some (by kernel_rfl))
  f20 := ⟨Tryd.f123.name, by decide, Tryd.func123.trans (congrArg some (by kernel_rfl))⟩
  f21 := ⟨Tryd.f124.name, by decide, Tryd.func124.trans (congrArg some (by kernel_rfl))⟩
  f22 := ⟨Tryd.f125.name, by decide, Tryd.func125.trans (congrArg some (by kernel_rfl))⟩
  f23 := ⟨Tryd.f126.name, by decide, Tryd.func126.trans (congrArg some (by kernel_rfl))⟩
  f24 := ⟨Tryd.f127.name, by decide, Tryd.func127.trans (congrArg some (by kernel_rfl))⟩
  f25 := ⟨Tryd.f128.name, by decide, Tryd.func128.trans (congrArg some (by kernel_rfl))⟩
  f26 := ⟨Tryd.f129.name, by decide, Tryd.func129.trans (congrArg some (by kernel_rfl))⟩
  f27 := ⟨Tryd.f130.name, by decide, Tryd.func130.trans (congrArg some (by kernel_rfl))⟩
  f28 := Tryd.func131.trans (congrArg some (by kernel_rfl))
  f29 := Tryd.func132.trans (congrArg some (by kernel_rfl))
  f46 := ⟨Tryd.f138.name, by decide, Tryd.func138.trans (congrArg some (by kernel_rfl))⟩
  f47 := Tryd.func139.trans (congrArg some (by kernel_rfl))
  f48 := Tryd.func140.trans (congrArg some (by kernel_rfl))
  f49 := ⟨Tryd.f141.name, by decide, Tryd.func141.trans (congrArg some (by kernel_rfl))⟩
  f50 := ⟨Tryd.f142.name, by decide, Tryd.func142.trans (congrArg some (by kernel_rfl))⟩
  f57 := ⟨Tryd.f147.name, by decide, Tryd.func147.trans (congrArg some (by kernel_rfl))⟩
  t0 := Tryd.underlying0
  a0 := Tryd.isAgg0
  z0 := Tryd.sizeOf0
  v0 := Tryd.zeroValue0
  t3 := Tryd.underlying3
  a3 := Tryd.isAgg3
  z3 := Tryd.sizeOf3
  v3 := Tryd.zeroValue3
  t4 := Tryd.underlying4
  a4 := Tryd.isAgg4
  z4 := Tryd.sizeOf4
  v4 := Tryd.zeroValue4
  t5 := Tryd.underlying5
  a5 := Tryd.isAgg5
  z5 := Tryd.sizeOf5
  v5 := Tryd.zeroValue5
  t9 := Tryd.underlying9
  a9 := Tryd.isAgg9
  z9 := Tryd.sizeOf9
  v9 := Tryd.zeroValue9
  t22 := Tryd.underlying99
  a22 := Tryd.isAgg99
  z22 := Tryd.sizeOf99
  v22 := Tryd.zeroValue99
  t25 := Tryd.underlying133
  a25 := Tryd.isAgg133
  z25 := Tryd.sizeOf133
  v25 := Tryd.zeroValue133
  t39 := Tryd.underlying89
  a39 := Tryd.isAgg89
  z39 := Tryd.sizeOf89
  v39 := Tryd.zeroValue89
  t45 := Tryd.underlying172
  a45 := Tryd.isAgg172
  z45 := Tryd.sizeOf172
  v45 := Tryd.zeroValue172
  t46 := Tryd.underlying173
  a46 := Tryd.isAgg173
  z46 := Tryd.sizeOf173
  v46 := Tryd.zeroValue173
  t50 := Tryd.underlying177
  a50 := Tryd.isAgg177
  z50 := Tryd.sizeOf177
  v50 := Tryd.zeroValue177
  t53 := Tryd.underlying102
  a53 := Tryd.isAgg102
  z53 := Tryd.sizeOf102
  v53 := Tryd.zeroValue102
  t55 := Tryd.underlying181
  a55 := Tryd.isAgg181
  z55 := Tryd.sizeOf181
  v55 := Tryd.zeroValue181
  t66 := Tryd.underlying187
  a66 := Tryd.isAgg187
  z66 := Tryd.sizeOf187
  v66 := Tryd.zeroValue187
  t70 := Tryd.underlying191
  a70 := Tryd.isAgg191
  z70 := Tryd.sizeOf191
  v70 := Tryd.zeroValue191
  t76 := Tryd.underlying196
  a76 := Tryd.isAgg196
  z76 := Tryd.sizeOf196
  v76 := Tryd.zeroValue196
  t77 := Tryd.underlying68
  a77 := Tryd.isAgg68
  z77 := Tryd.sizeOf68
  v77 := Tryd.zeroValue68 }
open Go.RowKit Go.Sort in
/-- slices.SortFunc at points. -/
theorem Tryd.slices_SortFunc {α : Type} [Inhabited α] (k : Nat) (aE : ∀ w, (isAgg 128).run Tryd.prog w = .ok true w) (zE : ∀ w, (Go.sizeOf 128).run Tryd.prog w = .ok k w) (enc : α → List Value) (hk : ∀ x, (enc x).length = k) (h1 : ∀ x, ∀ v ∈ enc x, v.oneCell' = true) (cf : α → α → Int) (hO : SWO (ltOf cf)) (g : Nat) (cb : Array Value) (blk off cap : Nat) (d : Array α) (w : World)
    (eg : ∀ args w, (callFunc g args).run Tryd.prog w = .ok (.enter g args) w) (hcmp : CmpLays Tryd.prog g cb enc k cf blk off d.size w) (hH : HoldsK enc k w blk off d) (hblk : blk < w.heap.size) (hsz : d.size < 4611686018427387904) :
    Calls Tryd.prog 85 #[.slice (some ⟨blk, off, none⟩) d.size cap, .func (.func g) #[] cb] w fun e w' =>
      e = .returned (.tuple #[]) ∧ ∃ d' n os, PermIn 0 d.size d d' ∧ SortedIn (ltOf cf) 0 d.size d' ∧ w' = sortWorldK enc k w blk off n d' os := AnyQ.slices_SortFunc Tryd.laysF6 k aE zE enc hk h1 cf hO g cb blk off cap d w eg hcmp hH hblk hsz
def Tryd.laysH6_ren : Go.Shelf.Ren := ⟨fun | 6 => 91 | n => n, fun | 22 => 99 | 23 => 128 | 25 => 135 | 3 => 3 | 0 => 0 | 4 => 4 | n => n, fun | n => n⟩
theorem Tryd.laysH6 : Go.Proofs.SlLaysH0.n6 Tryd.prog Tryd.laysH6_ren := {
  mixed := by kernel_rfl
  f6 := ⟨Tryd.f91.name, by decide, Tryd.func91.trans (congrArg some (by kernel_rfl))⟩
  t0 := Tryd.underlying0
  a0 := Tryd.isAgg0
  z0 := Tryd.sizeOf0
  v0 := Tryd.zeroValue0
  t3 := Tryd.underlying3
  a3 := Tryd.isAgg3
  z3 := Tryd.sizeOf3
  v3 := Tryd.zeroValue3
  t4 := Tryd.underlying4
  a4 := Tryd.isAgg4
  z4 := Tryd.sizeOf4
  v4 := Tryd.zeroValue4
  t22 := Tryd.underlying99
  a22 := Tryd.isAgg99
  z22 := Tryd.sizeOf99
  v22 := Tryd.zeroValue99
  t25 := Tryd.underlying135
  a25 := Tryd.isAgg135
  z25 := Tryd.sizeOf135
  v25 := Tryd.zeroValue135 }
open Go.RowKit in
/-- slices.IndexFunc at points. -/
theorem Tryd.slices_IndexFunc {α : Type} [Inhabited α] (k : Nat) (aE : ∀ w, (isAgg 128).run Tryd.prog w = .ok true w) (zE : ∀ w, (Go.sizeOf 128).run Tryd.prog w = .ok k w) (enc : α → List Value) (hk : ∀ x, (enc x).length = k)
    (p : α → Bool) (g : Nat) (lb : Array Value) (eg : ∀ args w, (callFunc g args).run Tryd.prog w = .ok (.enter g args) w) (b off n c : Nat) (zs : List α) (w : World)
    (hp : PredBelow Tryd.prog g lb (fun x => .agg (enc x).toArray) p w) (hz : n ≤ zs.length) (hbig : n ≤ 9223372036854775807) (hb : b < w.heap.size)
    (hc : ∀ j, j < zs.length → ∀ i v, (enc zs[j]!)[i]? = some v → w.cell? ⟨b, off + j * k + i, none⟩ = some v) :
    Calls Tryd.prog 91 #[.slice (some ⟨b, off, none⟩) n c, .func (.func g) #[] lb] w fun e w' => e = .returned (.int .i64 (Lib.idxBy (fun _ y => p y) (zs.take n) default)) ∧ Below w.heap.size w w' := AnyQ.slices_IndexFunc Tryd.laysH6 k aE zE enc hk p g lb eg b off n c zs w hp hz hbig hb hc
end Go.Proofs
namespace Go.Proofs.YtppcijpgalaohaaDoor
open Go.RowKit
variable {x y z a:ByteArray}{b h B c n M:Nat}{p q r:Nat×ByteArray}{j d o f:List ByteArray}{w:World}{T:TypeId}{v:Value}{rest:List Oper}{Q:Exit->Act->World->Prop}{R:Nat->Nat×ByteArray}
namespace Ring
def bl (x y:ByteArray):Prop:=Op.bytesLess x.toList y.toList=true
theorem qM:∀ l:List UInt8,Op.bytesLess l l=false
 | []=>rfl
 | a :: l=>by simp [Op.bytesLess,qM l]
theorem GS:∀ {l m n:List UInt8},Op.bytesLess l m=true->Op.bytesLess m n=true->Op.bytesLess l n=true
 | _,[],_,h,_=>by simp [Op.bytesLess] at h
 | _,_ :: _,[],_,h=>by simp [Op.bytesLess] at h
 | [],_ :: _,_ :: _,_,_=>rfl
 | a :: l,b :: m,c :: n,f,d=>by
  simp only [Op.bytesLess,Bool.or_eq_true,decide_eq_true_eq,Bool.and_eq_true,beq_iff_eq] at f d ⊢
  rcases f with f | ⟨o,f⟩
  ·rcases d with d | ⟨j,d⟩
   ·exact Or.inl (UInt8.lt_trans f d)
   ·exact Or.inl (j ▸ f)
  ·rcases d with d | ⟨j,d⟩
   ·exact Or.inl (o ▸ d)
   ·exact Or.inr ⟨o.trans j,GS f d⟩
theorem xJ:∀ {l m:List UInt8},l≠m->Op.bytesLess l m=true∨Op.bytesLess m l=true
 | [],[],h=>absurd rfl h
 | [],_ :: _,_=>Or.inl rfl
 | _ :: _,[],_=>Or.inr rfl
 | a :: l,b :: m,h=>by
  simp only [Op.bytesLess,Bool.or_eq_true,decide_eq_true_eq,Bool.and_eq_true,beq_iff_eq]
  by_cases e:a=b
  ·subst e
   rcases xJ (l:=l) (m:=m) (fun f=>h (by rw [f])) with j | j
   ·exact Or.inl (Or.inr ⟨rfl,j⟩)
   ·exact Or.inr (Or.inr ⟨rfl,j⟩)
  ·rcases (show a < b ∨ b < a by
    rcases Nat.lt_or_ge a.toNat b.toNat with d | d
    ·exact Or.inl (UInt8.lt_iff_toNat_lt.2 d)
    ·exact Or.inr (UInt8.lt_iff_toNat_lt.2 (Nat.lt_of_le_of_ne d (fun f=>e (UInt8.toNat_inj.1 f.symm))))) with d | d
   ·exact Or.inl (Or.inl d)
   ·exact Or.inr (Or.inl d)
theorem xD (x:ByteArray):¬ bl x x:=by
 unfold bl
 rw [qM]
 decide
theorem N7 (d:bl x y) (f:bl y z):bl x z:=GS d f
theorem MT {b:ByteArray} (h:a.toList=b.toList):a=b:=by
 rw [ByteArray.toList_eq,ByteArray.toList_eq] at h
 exact ByteArray.ext (Array.toList_inj.1 h)
theorem FE (h:x≠y):bl x y∨bl y x:=xJ (fun e=>h (MT e))
def eV (p q:Nat×ByteArray):Prop:=p.1 < q.1∨p.1=q.1/\bl p.2 q.2
theorem vM (p:Nat×ByteArray):¬ eV p p:=fun h=>by
 rcases h with h | ⟨_,h⟩
 ·exact Nat.lt_irrefl _ h
 ·exact xD _ h
theorem FA (f:eV p q) (d:eV q r):eV p r:=by
 rcases f with f | ⟨j,f⟩
 ·rcases d with d | ⟨h,_⟩
  ·exact Or.inl (Nat.lt_trans f d)
  ·exact Or.inl (by omega)
 ·rcases d with d | ⟨h,d⟩
  ·exact Or.inl (by omega)
  ·exact Or.inr ⟨j.trans h,N7 f d⟩
theorem wZ (h:p≠q):eV p q∨eV q p:=by
 obtain ⟨a,x⟩:=p
 obtain ⟨b,y⟩:=q
 rcases Nat.lt_or_ge a b with f | f
 ·exact Or.inl (Or.inl f)
 ·rcases Nat.lt_or_ge b a with j | j
  ·exact Or.inr (Or.inl j)
  ·have e:a=b:=by omega
   subst e
   rcases FE (x:=x) (y:=y) (fun e=>h (by rw [e])) with d | d
   ·exact Or.inl (Or.inr ⟨rfl,d⟩)
   ·exact Or.inr (Or.inr ⟨rfl,d⟩)
theorem x7 (d:eV p q) (f:eV q p):False:=vM _ (FA d f)
theorem LM (h:¬ eV q p) (f:eV q r):eV p r:=by
 by_cases e:p=q
 ·rw [e];exact f
 ·rcases wZ e with d | d
  ·exact FA d f
  ·exact absurd d h
theorem NB (f:eV p q) (h:¬ eV r q):eV p r:=by
 by_cases e:q=r
 ·rw [<- e];exact f
 ·rcases wZ e with d | d
  ·exact FA f d
  ·exact absurd d h
def rW (f:Nat->Nat):Nat->Nat
 | 0=>f 0
 | n+1=>min (rW f n) (f (n+1))
theorem E5 (f:Nat->Nat):∀ n k,k<=n->rW f n<=f k
 | 0,k,h=>by
  obtain rfl:k=0:=by omega
  exact Nat.le_refl _
 | n+1,k,h=>by
  by_cases e:k=n+1
  ·rw [e];exact Nat.min_le_right _ _
  ·exact Nat.le_trans (Nat.min_le_left _ _) (E5 f n k (by omega))
theorem I0 (f:Nat->Nat):∀ n,∃ k,k<=n/\f k=rW f n
 | 0=>⟨0,Nat.le_refl _,rfl⟩
 | n+1=>by
  obtain ⟨k,d,e⟩:=I0 f n
  rcases Nat.le_total (rW f n) (f (n+1)) with h | h
  ·exact ⟨k,by omega,by rw [e];exact (Nat.min_eq_left h).symm⟩
  ·exact ⟨n+1,Nat.le_refl _,(Nat.min_eq_right h).symm⟩
def UJ (x:ByteArray) (k:Nat):ByteArray:=x ++ ⟨#[35]⟩ ++ Jp [48+k]
def Xy (s:ByteArray):Nat:=lV s s.size
theorem VX (s:ByteArray):Xy s < 4294967296:=B2 s _
def kG (x:ByteArray) (k:Nat):Nat:=Xy (UJ x k)
def rP (h a:Nat):Nat:=if a < h then a+4294967296 else a
def sL (h:Nat) (x:ByteArray) (k:Nat):Nat:=rP h (kG x k)
def iV (h:Nat) (x:ByteArray):Nat:=rW (sL h x) 7
theorem U0 (h:Nat) (x:ByteArray) (k:Nat) (d:k < 8):iV h x<=sL h x k:=E5 _ 7 k (by omega)
theorem TA (h:Nat) (x:ByteArray):∃ k,k < 8/\sL h x k=iV h x:=by
 obtain ⟨k,d,e⟩:=I0 (sL h x) 7
 exact ⟨k,by omega,e⟩
def tN (h:Nat) (x y:ByteArray):Prop:=eV (iV h x,x) (iV h y,y)
theorem p7 (h:Nat) (x:ByteArray):¬ tN h x x:=vM _
theorem HV  (d:tN h x y) (f:tN h y z):tN h x z:=FA d f
theorem LW  (d:x≠y):tN h x y∨tN h y x:=wZ (fun e=>d (by have:=congrArg Prod.snd e;exact this))
structure XC (h:Nat) (nodes out:List ByteArray):Prop where
 mem:∀ x ∈ out,x ∈ nodes
 ord:out.Pairwise (tN h)
 rest:∀ x ∈ nodes,x ∉ out->∀ y ∈ out,tN h y x
theorem XC.nil (h:Nat) (j:List ByteArray):XC h j []:=⟨fun _ d=>(by cases d),List.Pairwise.nil,fun _ _ _ _ f=>(by cases f)⟩
theorem XC.nodup  (o:XC h j d):d.Nodup:=by
 refine o.ord.imp ?_
 intro a b f e
 subst e
 exact p7 h a f
theorem XC.congr {q:List ByteArray} (f:XC h j q) (s:∀ x,x ∈ j↔x ∈ o):XC h o q:=⟨fun x d=>(s x).1 (f.mem x d),f.ord,fun x d=>f.rest x ((s x).2 d)⟩
theorem XC.push  (o:XC h j f) (B:x ∈ j) (H:x ∉ f) (I:∀ z ∈ j,z ∉ f->z≠x->tN h x z):XC h j (f ++ [x]):=by
 refine ⟨fun y q=>?_,?_,fun z s t y q=>?_⟩
 ·rcases List.mem_append.1 q with d | d
  ·exact o.mem y d
  ·rw [List.mem_singleton.1 d];exact B
 ·refine List.pairwise_append.2 ⟨o.ord,List.pairwise_singleton _ _,fun a D b G=>?_⟩
  rw [List.mem_singleton.1 G]
  exact o.rest x B H a D
 ·have A:z ∉ f:=fun d=>t (List.mem_append_left _ d)
  rcases List.mem_append.1 q with d | d
  ·exact o.rest z s A y d
  ·rw [List.mem_singleton.1 d]
   exact I z s A (fun e=>t (by rw [e];exact List.mem_append_right _ (List.mem_singleton.2 rfl)))
theorem XC.next  (D:XC h f j) {a:Nat} (G:x ∈ f) (H:x ∉ j) (J:iV h x<=a) (I:∀ z ∈ f,z ∉ j->¬ eV (iV h z,z) (a,x)):XC h f (j ++ [x]):=by
 refine D.push G H fun z q s t=>?_
 have A:¬ eV (a,x) (iV h x,x):=fun d=>by
  rcases d with d | ⟨_,d⟩
  ·have:a < iV h x:=d
   omega
  ·exact xD _ d
 have B:(a,x)≠(iV h z,z):=fun e=>t (by have:=congrArg Prod.snd e;exact this.symm)
 rcases wZ B with o | o
 ·exact LM A o
 ·exact absurd o (I z q s)
theorem XC.unique {h:Nat}:∀ {a b d:List ByteArray},XC h d a->XC h d b->a.length=b.length->a=b
 | [],[],_,_,_,_=>rfl
 | [],_ :: _,_,_,_,hl=>by simp at hl
 | _ :: _,[],_,_,_,hl=>by simp at hl
 | x :: a,y :: b,d,ha,hb,hl=>by
  have first:∀ {x:ByteArray} {a:List ByteArray},XC h d (x :: a)->∀ z ∈ d,z≠x->tN h x z:=fun {x a} f z o s=>by
   by_cases A:z ∈ a
   ·exact (List.pairwise_cons.1 f.ord).1 z A
   ·exact f.rest z o (fun q=>by rcases List.mem_cons.1 q with j | j;exact s j;exact A j) x List.mem_cons_self
  have e:x=y:=Classical.byContradiction fun s=>by
   have q:=first ha y (hb.mem y List.mem_cons_self) (fun e=>s e.symm)
   have j:=first hb x (ha.mem x List.mem_cons_self) s
   exact x7 q j
  subst e
  have B:∀ {a:List ByteArray},XC h d (x :: a)->XC h (d.filter fun z=>decide (z≠x)) a:=fun {a} f=>by
   have D:x ∉ a:=(List.nodup_cons.1 f.nodup).1
   refine ⟨fun z o=>List.mem_filter.2 ⟨f.mem z (List.mem_cons_of_mem _ o),?_⟩,(List.pairwise_cons.1 f.ord).2,fun z o G w H=>?_⟩
   ·exact decide_eq_true (fun e=>D (e ▸ o))
   ·obtain ⟨q,j⟩:=List.mem_filter.1 o
    exact f.rest z q (fun I=>by rcases List.mem_cons.1 I with t | t;exact (of_decide_eq_true j) t;exact G t) w (List.mem_cons_of_mem _ H)
  rw [XC.unique (B ha) (B hb) (by simpa using hl)]
theorem XC.take {t:List ByteArray} (j:XC h t f) (m:Nat):XC h t (f.take m):=by
 refine ⟨fun x o=>j.mem x (List.mem_of_mem_take o),j.ord.sublist (List.take_sublist _ _),fun x o A y s=>?_⟩
 by_cases q:x ∈ f
 ·have B : x ∈ f.drop m := by
   rw [<- List.take_append_drop m f] at q
   rcases List.mem_append.1 q with d | d
   ·exact absurd d A
   ·exact d
  have d:=j.ord
  rw [<- List.take_append_drop m f] at d
  exact (List.pairwise_append.1 d).2.2 y s x B
 ·exact j.rest x o q y (List.mem_of_mem_take s)
theorem z1 {b:List ByteArray} (j:b.Nodup) (x:ByteArray):b.length<=(b.filter fun z=>decide (z≠x)).length+1:=by
 induction b with
 | nil=>simp
 | cons y b ih =>
  obtain ⟨d,f⟩:=List.nodup_cons.1 j
  by_cases e:y=x
  ·subst e
   have:(b.filter fun z=>decide (z≠y))=b:=List.filter_eq_self.2 fun z h=>decide_eq_true (fun e=>d (e ▸ h))
   rw [List.filter_cons_of_neg (by simp),this]
   exact Nat.le_refl _
  ·have:=ih f
   simp only [List.length_cons]
   rw [List.filter_cons_of_pos (by simpa using e)]
   simp only [List.length_cons]
   omega
theorem S3 {a b:List ByteArray} {d:ByteArray} (G:d ∉ j) (H:XC h j a) (o:XC h (j ++ [d]) b) (I:a.length=b.length) :
 (b.filter fun z=>decide (z≠d))=a.take (b.filter fun z=>decide (z≠d)).length/\b.length<=(b.filter fun z=>decide (z≠d)).length+1:=by
 have t:XC h j (b.filter fun z=>decide (z≠d)):=by
  refine ⟨fun x f=>?_,o.ord.sublist List.filter_sublist,fun x f A y B=>?_⟩
  ·obtain ⟨q,D⟩:=List.mem_filter.1 f
   rcases List.mem_append.1 (o.mem x q) with s | s
   ·exact s
   ·exact absurd (List.mem_singleton.1 s) (of_decide_eq_true D)
  ·refine o.rest x (List.mem_append_left _ f) (fun q=>A (List.mem_filter.2 ⟨q,decide_eq_true (fun e=>G (e ▸ f))⟩)) y (List.mem_filter.1 B).1
 refine ⟨XC.unique t (H.take _) ?_,z1 o.nodup d⟩
 have:(b.filter fun z=>decide (z≠d)).length<=b.length:=List.length_filter_le _ _
 rw [List.length_take,I]
 omega
theorem KO:∀ {l m:List ByteArray},l.Nodup->l ⊆ m->l.length<=m.length
 | [],_,_,_=>Nat.zero_le _
 | x :: l,m,hn,hs=>by
  obtain ⟨f,h⟩:=List.nodup_cons.1 hn
  have j:x ∈ m:=hs List.mem_cons_self
  have o:l ⊆ m.filter fun z=>decide (z≠x):=fun y d=>List.mem_filter.2 ⟨hs (List.mem_cons_of_mem _ d),decide_eq_true (fun e=>f (by rw [<- e];exact d))⟩
  have q:=KO h o
  have s:(m.filter fun z=>decide (z≠x)).length < m.length:=List.length_filter_lt_length_iff_exists.2 ⟨x,j,by simp⟩
  simp only [List.length_cons]
  omega
theorem xL (s:d.Nodup) (t:f.length < d.length):∃ x ∈ d,x ∉ f:=Classical.byContradiction fun j=>by
 have o:d ⊆ f:=fun x q=>Classical.byContradiction fun h=>j ⟨x,q,h⟩
 have:=KO s o
 omega
end Ring
section
open Ring
def I9 (w:World) (ad:Nat->Addr) (B:Nat) (d:List ByteArray) (h:Nat) (n:Int) (e:Ending):Prop :=
 (0 < (Jm d n).1/\∃ q c j,e=.returned (.tuple #[.slice q 0 c,j])/\Jd w ad j (Jm d n).1 (Jm d n).2) ∨
 (¬ 0 < (Jm d n).1/\∃ v f,e=.returned (.tuple #[v,.nilIface])/\Zq w B v f/\(f.length:Int)=n/\XC h d f)
structure P7 (ad:Nat->Addr):Prop where
 check:∀ (p:Option Addr) (l:List ByteArray) (c:Nat) (w:World),l.length<=1000->l.length<=c->(∀ x ∈ l,x.size<=1000)->Strs w p l->i7 w ad ->
  Calls Tryd.prog 61 #[.slice p l.length c] w fun e w'=>(∃ ev,e=.returned ev/\Jd w' ad ev (Xj l).1 (Xj l).2)/\Below w.heap.size w w'
 jD:∀ (p:Option Addr) (l:List ByteArray) (c:Nat) (key:ByteArray) (n:Int) (w:World),l.length<=1000->l.length<=c->(∀ x ∈ l,x.size<=1000)->key.size<=1000->Strs w p l->i7 w ad ->
  Calls Tryd.prog 17 #[.slice p l.length c,.string key,.int .i64 n] w fun e w'=>I9 w' ad w.heap.size l (Xy key) n e/\Below w.heap.size w w'
theorem y3:(Jm [⟨#[97]⟩] 1).1=0:=by decide +kernel
theorem e0 (ad:Nat->Addr) (w:World) (L:P7 ad) (M:i7 w ad) :
 Calls Tryd.prog 15 #[] w fun e N=>e=.returned (.bool true)/\Below w.heap.size w N:=by
 obtain ⟨d,f⟩:∃ d,d=w.alloc (.cells #[.string ⟨#[97]⟩] 9):=⟨_,rfl⟩
 have h:Below w.heap.size w d:=by rw [f];exact (Below.refl _ _).alloc (Nat.le_refl _) _
 have j:Strs d (some ⟨w.heap.size,0,none⟩) [⟨#[97]⟩]:=Or.inr ⟨w.heap.size,0,rfl,by rw [f];simp,fun i O=>by
  obtain rfl:i=0:=by simpa using O
  rw [f,World.cell?_alloc_at _ _ _ _ rfl]
  rfl⟩
 have s:=L.jD (some ⟨w.heap.size,0,none⟩) [⟨#[97]⟩] 1 ⟨#[107]⟩ 1 d (by decide) (by decide) (fun x Q=>by rw [List.mem_singleton.1 Q];decide) (by decide) j (M.below h)
 have R:Hid (d=w.alloc (.cells #[.string ⟨#[97]⟩] 9)):=f
 have t:Hid (Below w.heap.size w d):=h
 clear f h j M L
 go_enter Tryd.func15,Tryd.ntmps15
 go_wp2_with fail
 rw [<- R.out]
 refine s.mono ?_
 rintro e A ⟨S,B⟩
 rcases S with ⟨D,_⟩ | ⟨_,v,G,rfl,H,I,J⟩
 ·rw [y3] at D;exact absurd D (by decide)
 have T:G=[⟨#[97]⟩]:=by
  match G,I with
  | [x],_=>rw [List.mem_singleton.1 (J.mem x (List.mem_singleton.2 rfl))]
 subst T
 obtain ⟨q,c,rfl,U,_,_,_⟩:=H.form
 rcases U with V | ⟨b,o,rfl,Z,K⟩
 ·cases V
 have q1:A.cell? ⟨b,o,none⟩=some (.string ⟨#[97]⟩):=K 0 (by decide)
 have W:Hid (Below w.heap.size w A):=t.out.trans (B.mono t.out.size)
 clear B K H J s I
 have Y:([⟨#[97]⟩]:List ByteArray).length=1:=rfl
 rw [Y]
 go_wp2
 go_ret
 exact ⟨rfl,W.out⟩
end
section
open Ring
def Qo (l:List ByteArray) (k:Nat):List ByteArray:=l.drop k ++ l.take k
theorem X1 (l:List ByteArray) (k:Nat):(Qo l k).length=l.length:=by unfold Qo;simp;omega
theorem b6 (l:List ByteArray) (k:Nat) (x:ByteArray):x ∈ Qo l k↔x ∈ l:=by
 unfold Qo
 rw [List.mem_append]
 conv=>rhs;rw [<- List.take_append_drop k l,List.mem_append]
 exact Or.comm
theorem sZ {l:List ByteArray} (k:Nat) (h:l.Nodup):(Qo l k).Nodup:=by
 unfold Qo
 have d:=h
 rw [<- List.take_append_drop k l,List.nodup_append] at d
 obtain ⟨f,j,o⟩:=d
 rw [List.nodup_append]
 exact ⟨j,f,fun x q y s e=>o y s x q e.symm⟩
theorem u5 (p:Option Addr) (l:List ByteArray) (c:Nat) (d:Int) (j:ByteArray) (n f:Int) (ad:Nat->Addr) (w:World) (D:l.length<=maxLen) (G:∀ x ∈ l,x.size<=maxLen) (T:j.size<=maxLen) (H:Strs w p l) (I:P7 ad) (J:i7 w ad) (h:¬ (Qk l=false/\j.size<=100/\0<=d/\d<=l.length/\0<=f/\f<=n)) :
 Calls Tryd.prog 5 #[.slice p l.length c,.int .i64 d,.string j,.int .i64 n,.int .i64 f] w fun e o=>e=.returned (.bool true)/\Below w.heap.size w o:=by
 have s:=e0 ad w I J
 have K:Hid (∀ W,Strs W p l->Calls Tryd.prog 16 #[.slice p l.length c] W fun e o=>e=.returned (.bool (Qk l))/\o=W):=fun W L=>hD p l c W D G L
 have M:Hid (Strs w p l):=H
 have t:Hid (¬ (Qk l=false/\j.size<=100/\0<=d/\d<=l.length/\0<=f/\f<=n)):=h
 unfold maxLen at D T
 clear H G I J h
 generalize Qk l=r at *
 have N:(r=true∨r=false/\(100 < j.size∨¬ 100 < j.size/\(d < 0∨¬ d < 0/\((l.length:Int) < d∨¬ (l.length:Int) < d/\(f < 0∨¬ f < 0/\n < f))))):=by
  cases r with
  | true=>exact Or.inl rfl
  | false =>
   refine Or.inr ⟨rfl,?_⟩
   have O:¬ (j.size<=100/\0<=d/\d<=l.length/\0<=f/\f<=n):=fun h=>t.out ⟨rfl,h⟩
   omega
 clear t
 rcases N with rfl | ⟨rfl,h | ⟨U,h | ⟨O,h | ⟨V,h | ⟨Y,h⟩⟩⟩⟩⟩
 all_goals
  go_enter Tryd.func5,Tryd.ntmps5
  go_wp2_with fail
  refine s.mono ?_
  rintro e Q ⟨rfl,q⟩
  have R:Hid (Below w.heap.size w Q):=q
  have A:=M.out.below q
  clear q s
  go_wp2_with fail
  refine (K.out _ A).mono ?_
  rintro e S ⟨rfl,B⟩
  rw [B]
  clear B S A
  go_wp2
  go_ret
  exact ⟨rfl,R.out⟩
theorem u2 (p:Option Addr) (l:List ByteArray) (c:Nat) (k:Nat) (o:ByteArray) (n:Int) (j:Nat) (ad:Nat->Addr) (w:World) (d8:Qk l=false) (hk:o.size<=100) (d9:k<=l.length) (n2:(j:Int)<=n) (hc:l.length<=c) (Y:p=none->l=[]/\c=0) (hs:Strs w p l) (hR:P7 ad) (hS:i7 w ad) :
 Calls Tryd.prog 5 #[.slice p l.length c,.int .i64 (k:Int),.string o,.int .i64 n,.int .i64 (j:Int)] w fun e f=>e=.returned (.bool true)/\Below w.heap.size w f:=by
 obtain ⟨hl,Z⟩:=z6 d8
 have HU:=e0 ad w hR hS
 have HL:Hid (∀ W,Strs W p l->Calls Tryd.prog 16 #[.slice p l.length c] W fun e f=>e=.returned (.bool (Qk l))/\f=W):=fun W s=>hD p l c W (by unfold maxLen;omega) (fun x G=>by have:=Z x G;unfold maxLen;omega) s
 rw [d8] at HL
 have e1:Hid (∀ W,Strs W p l->Calls Tryd.prog 18 #[.slice p l.length c] W fun e f=>(∃ v,e=.returned v/\Zq f W.heap.size v l)/\Below W.heap.size W f):=fun W s=>r6 p l c W (by omega) s Y
 have b2:Hid (∀ t A W,l.length<=A->Strs W t l->i7 W ad->Calls Tryd.prog 17 #[.slice t l.length A,.string o,.int .i64 n] W fun e f=>I9 f ad W.heap.size l (Xy o) n e/\Below W.heap.size W f):=fun t A W B I J=>hR.jD t l A o n W (by omega) B (fun x G=>by have:=Z x G;omega) (by omega) I J
 have Q:Hid (∀ m t A W,(Qo l k).length<=A->Strs W t (Qo l k)->i7 W ad->Calls Tryd.prog 17 #[.slice t (Qo l k).length A,.string o,.int .i64 m] W fun e f=>I9 f ad W.heap.size (Qo l k) (Xy o) m e/\Below W.heap.size W f):=fun m t A W B I J=>hR.jD t (Qo l k) A o m W (by rw [X1];omega) B (fun x G=>by have:=Z x ((b6 l k x).1 G);omega) (by omega) I J
 have a0:Hid (¬ 0 < (Jm l n).1->∀ m:Int,0<=m->m<=n->Jm (Qo l k) m=(0,-1)):=fun hf m h0 hm=>by
  obtain ⟨B,I,J,h4⟩:=sK hf
  obtain ⟨h5,h6,h7⟩:=QV B
  obtain ⟨h8,h9⟩:=YP B
  exact u9 (UY (by rw [X1];exact h6) (by rw [X1];exact h7) (fun x G=>h8 x ((b6 l k x).1 G)) (sZ k h9)) h0 (by rw [X1];omega)
 have a2:Hid (∀ d,XC (Xy o) (Qo l k) d->XC (Xy o) l d):=fun d h=>h.congr (b6 l k)
 have a3:Hid (∀ pa pb K L ca cb W,K.length<=1000000->L.length<=1000000->Strs W pa K->Strs W pb L->Calls Tryd.prog 19 #[.slice pa K.length ca,.slice pb L.length cb] W fun e f=>e=.returned (.bool (decide (K=L)))/\Below W.heap.size W f):=fun pa pb K L ca cb W B I J h4=>oP pa pb K L ca cb W B I J h4
 have n6:Hid ((Qo l k).length=l.length):=X1 l k
 have l6:Hid (l.drop k ++ l.take k=Qo l k):=by show _=_;rfl
 have HS:Hid (Strs w p l):=hs
 have HT:Hid (i7 w ad):=hS
 have l7:Hid (Jm l n=Jm l n):=by show _=_;rfl
 have e2:Hid (¬ 0 < (Jm l n).1->0<=n/\n<=l.length):=fun hf=>⟨(sK hf).2.1,(sK hf).2.2.1⟩
 have n7:=sS p l c k d9
 have n8:=k2 p l c k d9 hc
 have e3:Hid (∀ W,Strs W p l->Strs W (if c=k then p else p.map (·.add k)) (l.drop k)/\((if c=k then p else p.map (·.add k))=none->l.drop k=[]/\c - k=0)):=fun W s=>qC s d9 hc Y
 have f0:Hid (p=none->l.take k=[]/\c=0):=fun h=>⟨by rw [(Y h).1,List.take_nil],(Y h).2⟩
 have o1:(l.drop k).length<=40:=by rw [List.length_drop];omega
 have o2:(l.take k).length<=40:=by rw [List.length_take];omega
 have f1:Hid (∀ W,Strs W p l->Strs W p (l.take k)):=fun W s=>s.take k
 have o4:(k:Int)<=(l.length:Int):=by omega
 unfold I9 at b2 Q
 clear hs hS hR d8 Z Y l7
 generalize l8:(if c=k then p else p.map (·.add k))=q1 at *
 clear l8
 generalize c - k=c1 at *
 generalize Qo l k=M at *
 generalize l.drop k=R at *
 generalize l.take k=lt at *
 generalize Xy o=hh at *
 have g1:decide ((k:Int) < 0)=false:=decide_eq_false (by omega)
 have g2:decide (l.length < k)=false:=decide_eq_false (by omega)
 have g3:decide ((j:Int) < 0)=false:=decide_eq_false (by omega)
 have g4:decide (n < (j:Int))=false:=decide_eq_false (by omega)
 go_enter Tryd.func5,Tryd.ntmps5
 go_wp2_with fail
 refine HU.mono ?_
 rintro e H ⟨rfl,f2⟩
 have N:Hid (Below w.heap.size w H):=f2
 clear f2 HU
 go_wp2_with fail
 refine (HL.out _ (HS.out.below N.out)).mono ?_
 rintro e w2 ⟨rfl,f3⟩
 rw [f3]
 clear f3 w2 HL
 have b8:=e3.out H (HS.out.below N.out)
 have f4:Hid (Strs H q1 R):=b8.1
 have f5:Hid (q1=none->R=[]/\c1=0):=b8.2
 clear b8
 go_wp2_with (first | (at_builtin;refine R8 rfl (.tmp 51) (.tmp 54) rfl H.heap.size (.slice none 0 0) [] rfl (Zq.nil _ _) q1 R c1 rfl f4.out f5.out (by show 0+R.length<=_;omega) (Nat.le_refl _) ?_;intro v2 w2 c2 a4;rw [List.nil_append] at c2) | (at_builtin;refine R8 rfl (.tmp 56) (.tmp 59) rfl H.heap.size v2 R rfl c2 p lt c rfl (f1.out _ ((HS.out.below N.out).below a4)) f0.out (by omega) a4.size ?_;intro v3 w3 c9 f6))
 rw [l6.out] at c9
 obtain ⟨O,c3,rfl,f7,f8,_,_⟩:=c9.form
 have f9:Hid (Strs w3 O M):=f7
 have g0:Hid (Below H.heap.size H w3):=a4.trans f6
 have a5:Hid (Below w.heap.size w w3):=N.out.trans (g0.out.mono N.out.size)
 clear c9 f7 c2 a4 f6 f4 f5 N f1 f0 e3 g0
 refine (e1.out _ (HS.out.below a5.out)).mono ?_
 rintro e w4 ⟨⟨v4,rfl,g5⟩,d0⟩
 obtain ⟨p4,c4,rfl,g6,g7,_,_⟩:=g5.form
 have g8:Hid (Strs w4 p4 l):=g6
 have g9:Hid (Strs w4 O M):=f9.out.below d0
 have a8:Hid (Below w.heap.size w w4):=a5.out.trans (d0.mono a5.out.size)
 clear g5 g6 d0 f9 a5 e1
 go_wp2_with fail
 refine (b2.out p4 c4 _ g7 g8.out (HT.out.below a8.out)).mono ?_
 rintro e w5 ⟨S,d1⟩
 have T:Hid (Below w.heap.size w w5):=a8.out.trans (d1.mono a8.out.size)
 have d2:Hid (Strs w5 O M):=g9.out.below d1
 clear d1 g8 g7 b2 g9 a8
 rcases S with ⟨l9,q,U,ev,rfl,hE⟩ | ⟨d3,v,d,rfl,hO,m0,i0⟩
 ·obtain ⟨te,ve,rfl⟩:=hE.some l9
  clear hE Q a0 a2 a3
  go_wp2
  go_ret
  exact ⟨rfl,T.out⟩
 ·obtain ⟨m1,o8⟩:=e2.out d3
  obtain ⟨m,rfl⟩:=Int.eq_ofNat_of_zero_le m1
  have m2:Hid (Jm M (m:Int)=(0,-1)):=a0.out d3 _ (by omega) (by omega)
  have m3:Hid (Jm M (j:Int)=(0,-1)):=a0.out d3 _ (by omega) n2
  obtain ⟨q,U,rfl,i2,m4,_,_⟩:=hO.form
  have i3:Hid (Strs w5 q d):=i2
  have i4:d.length=m:=by omega
  have i5:Hid (XC hh l d):=i0
  have D:Hid (d.length=m):=i4
  clear hO i2 i0 m0 a0 e2 i4
  go_wp2_with fail
  refine (Q.out (m:Int) O c3 _ f8 d2.out (HT.out.below T.out)).mono ?_
  rintro e w6 ⟨S,a9⟩
  rcases S with ⟨i6,_⟩ | ⟨_,v6,m5,rfl,i8,m6,i9⟩
  ·rw [m2.out] at i6;exact absurd i6 (by decide)
  obtain ⟨q6,m7,rfl,j0,_,_,_⟩:=i8.form
  have d4:d=m5:=XC.unique i5.out (a2.out _ i9) (by have:=D.out;omega)
  subst d4
  have j3:Hid (Strs w6 q6 d):=j0
  have d5:Hid (Strs w6 q d):=i3.out.below a9
  have j4:Hid (Strs w6 O M):=d2.out.below a9
  have b1:Hid (Below w.heap.size w w6):=T.out.trans (a9.mono T.out.size)
  clear i8 m6 i9 j0 a9 i3 d2 T
  go_wp2_with fail
  refine (Q.out (j:Int) O c3 _ f8 j4.out (HT.out.below b1.out)).mono ?_
  rintro e w7 ⟨S,V⟩
  rcases S with ⟨j5,_⟩ | ⟨_,v7,m8,rfl,j6,m9,j7⟩
  ·rw [m3.out] at j5;exact absurd j5 (by decide)
  obtain ⟨q7,k0,rfl,k8,_,_,_⟩:=j6.form
  have d4:m8=d.take j:=XC.unique (a2.out _ j7) (i5.out.take j) (by have:=D.out;rw [List.length_take];omega)
  subst d4
  have o9:=k2 q d U j (by have:=D.out;omega) m4
  have d6:=a3.out q q6 d d U m7 w7 (by have:=D.out;omega) (by have:=D.out;omega) (d5.out.below V) (j3.out.below V)
  rw [decide_eq_true rfl] at d6
  have k9:Hid (∀ W,Below w7.heap.size w7 W->Calls Tryd.prog 19 #[.slice q7 (d.take j).length k0,.slice q (d.take j).length U] W fun e f=>e=.returned (.bool true)/\Below W.heap.size W f):=fun W s=>by
   have h:=a3.out q7 q (d.take j) (d.take j) k0 U W (by have:=D.out;rw [List.length_take];omega) (by have:=D.out;rw [List.length_take];omega) (k8.below s) (((d5.out.below V).below s).take j)
   rw [decide_eq_true rfl] at h
   exact h
  have l0:Hid (Below w.heap.size w w7):=b1.out.trans (V.mono b1.out.size)
  clear j6 m9 j7 V k8 d5 j3 j4 b1 a3 Q a2
  generalize d.take j=o7 at *
  have p0:((d.length:Int)==(m:Int))=true:=by
   rw [beq_iff_eq]
   have:=D.out
   omega
  go_wp2_with fail
  refine d6.mono ?_
  rintro e w8 ⟨rfl,d7⟩
  have l3:Hid (Below w.heap.size w w8):=l0.out.trans (d7.mono l0.out.size)
  have l5:=k9.out w8 d7
  clear d6 d7 k9
  go_wp2_with fail
  refine l5.mono ?_
  rintro e w9 ⟨rfl,n1⟩
  clear l5
  go_wp2
  go_ret
  exact ⟨rfl,l3.out.trans (n1.mono l3.out.size)⟩
theorem x2 (p:Option Addr) (l:List ByteArray) (c:Nat) (f:Int) (d:ByteArray) (n j:Int) (ad:Nat->Addr) (w:World) (I:l.length<=maxLen) (J:∀ x ∈ l,x.size<=maxLen) (K:d.size<=maxLen) (L:l.length<=c) (M:p=none->l=[]/\c=0) (o:Strs w p l) (q:P7 ad) (s:i7 w ad) :
 Calls Tryd.prog 5 #[.slice p l.length c,.int .i64 f,.string d,.int .i64 n,.int .i64 j] w fun e t=>e=.returned (.bool true)/\Below w.heap.size w t:=by
 by_cases h:Qk l=false/\d.size<=100/\0<=f/\f<=l.length/\0<=j/\j<=n
 ·obtain ⟨A,B,D,N,G,H⟩:=h
  obtain ⟨k,rfl⟩:=Int.eq_ofNat_of_zero_le D
  obtain ⟨m,rfl⟩:=Int.eq_ofNat_of_zero_le G
  exact u2 p l c k d n m ad w A B (by omega) H L M o q s
 ·exact u5 p l c f d n j ad w I J K o q s h
end
theorem Xs (t:ByteArray) (w:World) (q:t.size<=140737488351232):Calls Tryd.prog 94 #[.string t] w fun e d=>e=.returned (.string t)/\Below w.heap.size w d:=by
 have h:Hid (∀ W,Calls Tryd.prog 117 #[.string t] W fun e d=>e=.returned (.string t)/\Below W.heap.size W d):=fun W=>Tryd.stringslite_Clone t W (by omega)
 go_enter Tryd.func94,Tryd.ntmps94
 go_wp2_with fail
 refine (h.out _).mono ?_
 rintro e j ⟨rfl,f⟩
 have o:Hid (Below w.heap.size w j):=f
 clear f
 go_wp2
 go_ret
 exact ⟨rfl,o.out⟩
section
open Ring
def JP (a b:Nat):Int:=if a < b then -1 else if b < a then 1 else 0
def gK (x y:ByteArray):Int:=if Op.bytesLess x.toList y.toList then -1 else if Op.bytesLess y.toList x.toList then 1 else 0
theorem FV (a:Nat) (w:World):Calls Tryd.prog 113 #[.int .u32 (a:Int)] w fun e d=>e=.returned (.bool false)/\d=w:=by
 go_enter Tryd.func113,Tryd.ntmps113
 go_wp2
 go_ret
 exact ⟨rfl,rfl⟩
theorem AL (a:Nat) (w:World):Calls Tryd.prog 115 #[.int .i64 (a:Int)] w fun e d=>e=.returned (.bool false)/\d=w:=by
 go_enter Tryd.func115,Tryd.ntmps115
 go_wp2
 go_ret
 exact ⟨rfl,rfl⟩
theorem I6 (x:ByteArray) (w:World):Calls Tryd.prog 114 #[.string x] w fun e d=>e=.returned (.bool false)/\d=w:=by
 go_enter Tryd.func114,Tryd.ntmps114
 go_wp2
 go_ret
 exact ⟨rfl,rfl⟩
theorem U6 (a b:Nat) (w:World):Calls Tryd.prog 88 #[.int .u32 (a:Int),.int .u32 (b:Int)] w fun e s=>e=.returned (.int .i64 (JP a b))/\s=w:=by
 have o:=fun W=>FV a W
 have q:=fun W=>FV b W
 rcases Nat.lt_trichotomy a b with h | h | h
 ·have j:Hid (JP a b=-1):=if_pos h
  rw [j.out]
  go_enter Tryd.func88,Tryd.ntmps88
  go_wp2_with fail
  refine (o _).mono ?_
  rintro e f ⟨rfl,d⟩
  rw [d]
  clear d f
  go_wp2_with fail
  refine (q _).mono ?_
  rintro e f ⟨rfl,d⟩
  rw [d]
  clear d f
  go_wp2
  go_ret
  exact ⟨rfl,rfl⟩
 ·subst h
  have j:Hid (JP a a=0):=by show _=_;unfold JP;rw [if_neg (Nat.lt_irrefl _),if_neg (Nat.lt_irrefl _)]
  rw [j.out]
  go_enter Tryd.func88,Tryd.ntmps88
  go_wp2_with fail
  refine (o _).mono ?_
  rintro e f ⟨rfl,d⟩
  rw [d]
  clear d f
  go_wp2_with fail
  refine (q _).mono ?_
  rintro e f ⟨rfl,d⟩
  rw [d]
  clear d f
  go_wp2
  go_ret
  exact ⟨rfl,rfl⟩
 ·have j:Hid (JP a b=1):=by show _=_;unfold JP;rw [if_neg (by omega),if_pos h]
  have t:decide ((a:Int) < (b:Int))=false:=decide_eq_false (by omega)
  rw [j.out]
  go_enter Tryd.func88,Tryd.ntmps88
  go_wp2_with fail
  refine (o _).mono ?_
  rintro e f ⟨rfl,d⟩
  rw [d]
  clear d f
  go_wp2_with fail
  refine (q _).mono ?_
  rintro e f ⟨rfl,d⟩
  rw [d]
  clear d f
  go_wp2
  go_ret
  exact ⟨rfl,rfl⟩
theorem U3 (a b:Nat) (w:World):Calls Tryd.prog 90 #[.int .i64 (a:Int),.int .i64 (b:Int)] w fun e s=>e=.returned (.int .i64 (JP a b))/\s=w:=by
 have o:=fun W=>AL a W
 have q:=fun W=>AL b W
 rcases Nat.lt_trichotomy a b with h | h | h
 ·have j:Hid (JP a b=-1):=if_pos h
  rw [j.out]
  go_enter Tryd.func90,Tryd.ntmps90
  go_wp2_with fail
  refine (o _).mono ?_
  rintro e f ⟨rfl,d⟩
  rw [d]
  clear d f
  go_wp2_with fail
  refine (q _).mono ?_
  rintro e f ⟨rfl,d⟩
  rw [d]
  clear d f
  go_wp2
  go_ret
  exact ⟨rfl,rfl⟩
 ·subst h
  have j:Hid (JP a a=0):=by show _=_;unfold JP;rw [if_neg (Nat.lt_irrefl _),if_neg (Nat.lt_irrefl _)]
  rw [j.out]
  go_enter Tryd.func90,Tryd.ntmps90
  go_wp2_with fail
  refine (o _).mono ?_
  rintro e f ⟨rfl,d⟩
  rw [d]
  clear d f
  go_wp2_with fail
  refine (q _).mono ?_
  rintro e f ⟨rfl,d⟩
  rw [d]
  clear d f
  go_wp2
  go_ret
  exact ⟨rfl,rfl⟩
 ·have j:Hid (JP a b=1):=by show _=_;unfold JP;rw [if_neg (by omega),if_pos h]
  have t:decide ((a:Int) < (b:Int))=false:=decide_eq_false (by omega)
  rw [j.out]
  go_enter Tryd.func90,Tryd.ntmps90
  go_wp2_with fail
  refine (o _).mono ?_
  rintro e f ⟨rfl,d⟩
  rw [d]
  clear d f
  go_wp2_with fail
  refine (q _).mono ?_
  rintro e f ⟨rfl,d⟩
  rw [d]
  clear d f
  go_wp2
  go_ret
  exact ⟨rfl,rfl⟩
theorem x1 (x y:ByteArray) (w:World):Calls Tryd.prog 89 #[.string x,.string y] w fun e G=>e=.returned (.int .i64 (gK x y))/\G=w:=by
 have s:=fun W=>I6 x W
 have t:=fun W=>I6 y W
 have D:Hid (∀ W,Sem.run Tryd.prog (binOp .gtr 9 (.string x) (.string y)) W=.ok (.bool !(Op.bytesLess x.toList y.toList || x.toList==y.toList)) W):=fun W=>by simp [binOp,Op.stringOp]
 cases j:Op.bytesLess x.toList y.toList with
 | true =>
  have q:Hid (gK x y=-1):=by show _=_;unfold gK;rw [j];rfl
  rw [q.out]
  go_enter Tryd.func89,Tryd.ntmps89
  go_wp2_with fail
  refine (s _).mono ?_
  rintro e f ⟨rfl,d⟩
  rw [d]
  clear d f
  go_wp2_with fail
  refine (t _).mono ?_
  rintro e f ⟨rfl,d⟩
  rw [d]
  clear d f
  go_wp2
  go_ret
  exact ⟨rfl,rfl⟩
 | false =>
  cases o:Op.bytesLess y.toList x.toList with
  | true =>
   have q:Hid (gK x y=1):=by show _=_;unfold gK;rw [j,o];rfl
   have A:(x.toList==y.toList)=false:=by
    rw [beq_eq_false_iff_ne]
    intro e
    rw [e,qM] at o
    cases o
   have H:∀ W,Sem.run Tryd.prog (binOp .gtr 9 (.string x) (.string y)) W=.ok (.bool true) W:=fun W=>by rw [D.out W,j,A];rfl
   rw [q.out]
   go_enter Tryd.func89,Tryd.ntmps89
   go_wp2_with fail
   refine (s _).mono ?_
   rintro e f ⟨rfl,d⟩
   rw [d]
   clear d f
   go_wp2_with fail
   refine (t _).mono ?_
   rintro e f ⟨rfl,d⟩
   rw [d]
   clear d f
   go_wp2
   go_ret
   exact ⟨rfl,rfl⟩
  | false =>
   have q:Hid (gK x y=0):=by show _=_;unfold gK;rw [j,o];rfl
   have A:(x.toList==y.toList)=true:=by
    rw [beq_iff_eq]
    refine Classical.byContradiction fun h=>?_
    rcases xJ h with B | B
    ·rw [B] at j;cases j
    ·rw [B] at o;cases o
   have H:∀ W,Sem.run Tryd.prog (binOp .gtr 9 (.string x) (.string y)) W=.ok (.bool false) W:=fun W=>by rw [D.out W,j,A];rfl
   rw [q.out]
   go_enter Tryd.func89,Tryd.ntmps89
   go_wp2_with fail
   refine (s _).mono ?_
   rintro e f ⟨rfl,d⟩
   rw [d]
   clear d f
   go_wp2_with fail
   refine (t _).mono ?_
   rintro e f ⟨rfl,d⟩
   rw [d]
   clear d f
   go_wp2
   go_ret
   exact ⟨rfl,rfl⟩
def mG (a b c:Int):Int:=if a≠0 then a else if b≠0 then b else c
theorem OH (g o:Nat) (a b c:Int) (w:World) (W:w.cell? ⟨g,o,none⟩=some (.int .i64 a)) (Y:w.cell? ⟨g,o+1,none⟩=some (.int .i64 b)) (Z:w.cell? ⟨g,o+2,none⟩=some (.int .i64 c)) :
 Calls Tryd.prog 87 #[.slice (some ⟨g,o,none⟩) 3 3] w fun e w'=>e=.returned (.int .i64 (mG a b c))/\w'=w:=by
 obtain ⟨f,q⟩:∃ f:Nat->Int,f=fun i=>if i=0 then a else if i=1 then b else c:=⟨_,rfl⟩
 have O:Hid (∀ i,i < 3->w.cell? ⟨g,o+i,none⟩=some (.int .i64 (f i))):=fun i G=>by
  rw [q]
  match i,G with
  | 0,_=>exact W
  | 1,_=>exact Y
  | 2,_=>exact Z
 obtain ⟨r,H⟩:∃ r,r=mG a b c:=⟨_,rfl⟩
 have Q:Hid (∀ i,i < 3->(∀ j,j < i->f j=0)->f i≠0->r=f i):=fun i G d I=>by
  rw [H,q]
  unfold mG
  match i,G with
  | 0,_=>rw [q] at I;have a0:a≠0:=I;rw [if_pos a0];rfl
  | 1,_ =>
   have:=d 0 (by omega)
   rw [q] at this I
   have s:a=0:=this
   have t:b≠0:=I
   rw [if_neg (by rw [s];decide),if_pos t];rfl
  | 2,_ =>
   have A:=d 0 (by omega)
   have B:=d 1 (by omega)
   rw [q] at A B
   have s:a=0:=A
   have t:b=0:=B
   rw [if_neg (by rw [s];decide),if_neg (by rw [t];decide)];rfl
 have R:Hid ((∀ j,j < 3->f j=0)->r=0):=fun d=>by
  have A:=d 0 (by omega)
  have B:=d 1 (by omega)
  have S:=d 2 (by omega)
  rw [q] at A B S
  have s:a=0:=A
  have t:b=0:=B
  have hc:c=0:=S
  rw [H,s,t,hc]
  decide
 rw [<- H]
 clear q H W Y Z
 go_enter Tryd.func87,Tryd.ntmps87
 go_wp2
 go_loop [8] (fun x=>∃ i:Nat,i<=3/\x=.int .i64 i/\∀ j,j < i->f j=0) (fun x=>3 - (intOf x).toNat)
 case atStart=>exact ⟨0,by omega,rfl,fun j K=>absurd K (Nat.not_lt_zero _)⟩
 case round =>
  obtain ⟨i,G,rfl,d⟩:=hrel
  have J:Hid (∀ j,j < i->f j=0):=d
  clear d
  by_cases T:i < 3
  ·have q1:=O.out i T
   have L:Hid (f i≠0->r=f i):=Q.out i T J.out
   have M:Hid (f i=0->∀ j,j < i+1->f j=0):=fun h j K=>by
    rcases Nat.lt_or_ge j i with U | U
    ·exact J.out j U
    ·obtain rfl:j=i:=by omega
     exact h
   clear J Q O R
   generalize f i=y at *
   by_cases D:y=0
   ·have V:=M.out D
    subst D
    have a2:Hid (∀ j,j < i+1->f j=0):=V
    clear V M L
    go_wp2
    go_round
    case rel=>exact ⟨i+1,by omega,by go_num,a2.out⟩
    case measure=>simp [intOf];omega
   ·have N:Hid (r=y):=L.out D
    have d1:(y==0)=false:=by rw [beq_eq_false_iff_ne];exact D
    have d2:(y != 0)=true:=by rw [bne_iff_ne];exact D
    clear L M
    go_wp2
    go_ret
    exact ⟨by rw [N.out];rfl,rfl⟩
  ·have N:Hid (r=0):=R.out (fun j K=>J.out j (by omega))
   go_wp2
   go_ret
   exact ⟨by rw [N.out];rfl,rfl⟩
end
section
structure eW (α:Type) where
 k:Nat
 pos:0 < k
 enc:α->List Value
 len:∀ x,(enc x).length=k
 one:∀ x,∀ u ∈ enc x,u.oneCell'=true
variable {α:Type} {E:eW α}
def Qb (E:eW α) (l:List α):List Value:=l.flatMap E.enc
theorem Qr (E:eW α):∀ l:List α,(Qb E l).length=l.length*E.k
 | []=>by simp [Qb]
 | x :: l=>by
  have:=Qr E l
  unfold Qb at this ⊢
  rw [List.flatMap_cons,List.length_append,this,E.len,List.length_cons,Nat.add_mul,Nat.one_mul,Nat.add_comm]
theorem Qj (E:eW α) (l m:List α):Qb E (l ++ m)=Qb E l ++ Qb E m:=by unfold Qb;rw [List.flatMap_append]
theorem qK (E:eW α) (x:α):Qb E [x]=E.enc x:=by simp [Qb]
theorem uH (E:eW α):∀ (l:List α) (i:Nat) (x:α),l[i]?=some x->∀ j u,(E.enc x)[j]?=some u->(Qb E l)[i*E.k+j]?=some u
 | [],i,x,h,_,_,_=>by simp at h
 | y :: l,0,x,h,j,u,hj=>by
  obtain rfl:y=x:=by simpa using h
  unfold Qb
  rw [List.flatMap_cons,Nat.zero_mul,Nat.zero_add,List.getElem?_append_left (List.getElem?_eq_some_iff.1 hj).1]
  exact hj
 | y :: l,i+1,x,h,j,u,hj=>by
  have ih:=uH E l i x (by simpa using h) j u hj
  unfold Qb at ih ⊢
  rw [List.flatMap_cons,List.getElem?_append_right (by rw [E.len];have:=Nat.le_mul_of_pos_left E.k (show 0 < i+1 by omega);omega),E.len]
  have e:(i+1)*E.k+j - E.k=i*E.k+j:=by rw [Nat.add_mul,Nat.one_mul];omega
  rw [e]
  exact ih
def Ql (E:eW α) (w:World) (p:Option Addr) (l:List α):Prop :=
 l=[]∨∃ b o,p=some ⟨b,o,none⟩/\b < w.heap.size/\∀ i x,l[i]?=some x->∀ j u,(E.enc x)[j]?=some u->w.cell? ⟨b,o+i*E.k+j,none⟩=some u
theorem Ql.nil (w:World) (p:Option Addr):Ql E w p []:=Or.inl rfl
theorem Ql.drewN {p:Option Addr} {l:List α} (h:Ql E w p l) (n:Nat):Ql E (w.drewN n) p l:=h
theorem Ql.below {f:World} {p:Option Addr} {l:List α} (h:Ql E w p l) (q:Below w.heap.size w f):Ql E f p l:=by
 rcases h with h | ⟨b,o,s,d,t⟩
 ·exact Or.inl h
 ·exact Or.inr ⟨b,o,s,Nat.lt_of_lt_of_le d q.size,fun i x A j u B=>(q.cell (p:=⟨b,o+i*E.k+j,none⟩) d).trans (t i x A j u B)⟩
theorem Ql.bB {f:World} {p:Option Addr} {l:List α} (h:Ql E w p l) (q:Below B w f) (G:∀ b o,p=some ⟨b,o,none⟩->b < B):Ql E f p l:=by
 rcases h with h | ⟨b,o,d,s,t⟩
 ·exact Or.inl h
 ·exact Or.inr ⟨b,o,d,Nat.lt_of_lt_of_le s q.size,fun i x A j u D=>(q.cell (p:=⟨b,o+i*E.k+j,none⟩) (G b o d)).trans (t i x A j u D)⟩
theorem Ql.take {p:Option Addr} {l:List α} (h:Ql E w p l) (m:Nat):Ql E w p (l.take m):=by
 rcases h with h | ⟨b,o,f,q,s⟩
 ·exact Or.inl (by rw [h,List.take_nil])
 ·refine Or.inr ⟨b,o,f,q,fun i x d j u t=>s i x ?_ j u t⟩
  rw [List.getElem?_take] at d
  split at d
  ·exact d
  ·cases d
theorem Ql.drop {p:Option Addr} {l:List α} {m:Nat} (h:Ql E w p l) (q:m<=l.length) (I:l.length<=c) (G:p=none->l=[]/\c=0) :
 Ql E w (if c=m then p else p.map (·.add (m*E.k))) (l.drop m)/\((if c=m then p else p.map (·.add (m*E.k)))=none->l.drop m=[]/\c - m=0):=by
 by_cases e:c=m
 ·rw [if_pos e]
  have d:l.drop m=[]:=List.drop_eq_nil_of_le (by omega)
  exact ⟨Or.inl d,fun _=>⟨d,by omega⟩⟩
 ·rw [if_neg e]
  cases p with
  | none =>
   obtain ⟨s,H⟩:=G rfl
   rw [s] at q
   simp at q
   omega
  | some a =>
   refine ⟨?_,fun d=>by cases d⟩
   rcases h with h | ⟨b,o,t,A,B⟩
   ·exact Or.inl (by rw [h,List.drop_nil])
   ·obtain rfl:a=⟨b,o,none⟩:=by simpa using t
    refine Or.inr ⟨b,o+m*E.k,by simp [Addr.add_lit],A,fun i x f j u D=>?_⟩
    rw [List.getElem?_drop] at f
    have:=B (m+i) x f j u D
    rw [Nat.add_mul,<- Nat.add_assoc] at this
    exact this
def Zc (E:eW α) (T:TypeId) (w:World) (B:Nat) (v:Value) (l:List α):Prop:=w.ownsRow B T E.k v l.length (Qb E l)
theorem Zc.nil (T:TypeId) (w:World) (B:Nat):Zc E T w B (.slice none 0 0) []:=World.ownsRow_nil w B T E.k
theorem Zc.block   {l:List α} (h:Zc E T w B v l) {k:Nat} (d:v.ownBlock=some k):B<=k/\k < w.heap.size:=World.ownsRow.lt h k d
theorem Zc.kept {f:World}  {l:List α} (h:Zc E T w B v l) (d:Below w.heap.size w f):Zc E T f B v l :=
 World.ownsRow.kept (row:=none) h ⟨d.os,d.tape,d.output,d.size,fun k j _=>d.block k j⟩ (by cases v.ownBlock <;> simp)
theorem Zc.base  {f:Nat} {l:List α} (h:Zc E T w B v l) (D:f<=B):Zc E T w f v l:=by
 obtain ⟨j,d⟩:=h
 refine ⟨j,?_⟩
 rcases d with d | ⟨g,o,q,s,t,A⟩
 ·exact Or.inl d
 ·exact Or.inr ⟨g,o,q,s,Nat.le_trans D t,A⟩
theorem Zc.form   {l:List α} (h:Zc E T w B v l):∃ p c,v=.slice p l.length c/\Ql E w p l/\l.length<=c/\(p=none->l=[]/\c=0)/\∀ b o,p=some ⟨b,o,none⟩->B<=b/\b < w.heap.size:=by
 have d:w.ownsRow B T E.k v l.length (Qb E l):=h
 rcases d.2 with ⟨rfl,s⟩ | ⟨g,t,J,rfl,A,D,G,K,L,M⟩
 ·have e:l=[]:=List.length_eq_zero_iff.1 s
  subst e
  exact ⟨none,0,rfl,Or.inl rfl,Nat.le_refl _,fun _=>⟨rfl,rfl⟩,fun _ _ h=>by cases h⟩
 ·have f:g < w.heap.size:=(Array.getElem?_eq_some_iff.1 D).1
  refine ⟨some ⟨g,0,none⟩,t,rfl,Or.inr ⟨g,0,rfl,f,fun i x H j u I=>?_⟩,G,fun h=>(by cases h),fun b o h=>?_⟩
  ·have q:=World.ownsRow.cells (g:=g) d rfl (i*E.k+j) u (uH E l i x H j u I)
   rw [Addr.add_lit] at q
   rw [Nat.add_assoc]
   exact q
  ·obtain ⟨rfl,rfl⟩:g=b/\0=o:=by simpa using h
   exact ⟨A,f⟩
theorem Zz (E:eW α) (l:List α):∀ u ∈ Qb E l,u.oneCell'=true:=fun u d=>by
 obtain ⟨x,_,f⟩:=List.mem_flatMap.1 d
 exact E.one x u f
theorem Ql.cells {o:Nat} {l:List α} (H:∀ i x,l[i]?=some x->∀ j u,(E.enc x)[j]?=some u->w.cell? ⟨b,o+i*E.k+j,none⟩=some u):∀ j u,(Qb E l)[j]?=some u->w.cell? ((⟨b,o,none⟩:Addr).add j)=some u:=by
 intro j u d
 have f:j < (Qb E l).length:=(List.getElem?_eq_some_iff.1 d).1
 rw [Qr] at f
 have h:=E.pos
 have G:j / E.k < l.length:=(Nat.div_lt_iff_lt_mul h).2 f
 have q:j % E.k < E.k:=Nat.mod_lt _ h
 have s:l[j / E.k]?=some l[j / E.k]:=List.getElem?_eq_getElem G
 have t:(E.enc l[j / E.k])[j % E.k]?=some ((E.enc l[j / E.k])[j % E.k]'(by rw [E.len];exact q)):=List.getElem?_eq_getElem (by rw [E.len];exact q)
 have A:=uH E l (j / E.k) _ s (j % E.k) _ t
 have B:=H (j / E.k) _ s (j % E.k) _ t
 have D:j / E.k*E.k+j % E.k=j:=by rw [Nat.mul_comm];exact Nat.div_add_mod j E.k
 rw [D] at A
 rw [Nat.add_assoc,D] at B
 rw [Addr.add_lit,B,<- A,d]
section
variable {w:World}
theorem F4 {H:Array Oper} {o:Oper} {a:Act} (K:o.guard=none) (s x:Operand) (t T:TypeId)
 (L:o.op=.call { callee:=.builtin .append,args:=#[s,x],argTypes:=#[t,t] }) (z:Value) (bytes:Nat) (M:Tryd.prog.underlying t=some (.slice T))
 (a2:(Tryd.prog.info? T).map (fun i=>(i.zero,i.size,i.bytes))=some (some z,E.k,bytes)) (a3:z.cells.size=E.k)
 (B:Nat) (v:Value) (l:List α) (N:a.eval s=v) (A:Zc E T w B v l) (q:Option Addr) (r:List α) (c:Nat) (O:a.eval x=.slice q r.length c) (hq:Ql E w q r) (a4:q=none->r=[]/\c=0) (hl:l.length+r.length<=maxLen) (a5:(l.length+r.length)*bytes<=140737488355328) (R:B<=w.heap.size)
 (h:∀ f d,Zc E T d B f (l ++ r)->Below B w d->wpList Tryd.prog H Q rest (a.put o.dst f) d):wpList Tryd.prog H Q (o :: rest) a w:=by
 obtain ⟨I,J,S,U,V⟩:=info_parts a2
 have W:∀ f d,d.ownsRow B T E.k f (l.length+r.length) (Qb E l ++ Qb E r)->w.grownBy d v.ownBlock->wpList Tryd.prog H Q rest (a.put o.dst f) d:=fun f d D G=>by
  refine h f d ?_ ((Below.refl _ _).grown G R (fun k Y=>(A.block Y).1))
  unfold Zc
  rw [Qj,List.length_append]
  exact D
 cases q with
 | none =>
  obtain ⟨Z,hc⟩:=a4 rfl
  subst Z hc
  refine wpList_append_own_none K s x _ L B T I E.k M J v l.length (Qb E l) N A O ?_
  have:=h v w (by rw [List.append_nil];exact A) (Below.refl _ _)
  exact this
 | some ad =>
  refine wpList_append_own w K s x _ L B T I z E.k bytes M J S U V a3 E.pos v l.length (Qb E l) N A ad r.length c (Qb E r) O (Qr E r) ?_ (Zz E r) hl a5 R (fun f d D G _=>W f d D G)
  rcases hq with h0 | ⟨b,o',hp,_,a0⟩
  ·subst h0
   intro j u hj
   simp [Qb] at hj
  ·obtain rfl:ad=⟨b,o',none⟩:=by simpa using hp
   exact Ql.cells a0
theorem wJ {D:Array Oper} {o:Oper} {a:Act} (H:o.guard=none) (s x:Operand) (t T:TypeId)
 (I:o.op=.call { callee:=.builtin .append,args:=#[s,x],argTypes:=#[t,t] }) (z:Value) (bytes:Nat) (J:Tryd.prog.underlying t=some (.slice T))
 (K:(Tryd.prog.info? T).map (fun i=>(i.zero,i.size,i.bytes))=some (some z,E.k,bytes)) (L:z.cells.size=E.k)
 (B:Nat) (v:Value) (l:List α) (M:a.eval s=v) (N:Zc E T w B v l) (b d c:Nat) (y:α) (O:a.eval x=.slice (some ⟨b,d,none⟩) 1 c) (R:∀ j u,(E.enc y)[j]?=some u->w.cell? ⟨b,d+j,none⟩=some u) (S:l.length+1<=maxLen) (U:(l.length+1)*bytes<=140737488355328) (V:B<=w.heap.size) (W:b < w.heap.size)
 (h:∀ A f,Zc E T f B A (l ++ [y])->Below B w f->wpList Tryd.prog D Q rest (a.put o.dst A) f):wpList Tryd.prog D Q (o :: rest) a w :=
 F4 (E:=E) H s x t T I z bytes J K L B v l M N (some ⟨b,d,none⟩) [y] c O (Or.inr ⟨b,d,rfl,W,fun i x q j u G=>by
  match i,q with
  | 0,q =>
   obtain rfl:y=x:=by simpa using q
   rw [Nat.zero_mul,Nat.add_zero]
   exact R j u G⟩) (fun e=>by cases e) S U V h
end
end
namespace Ring
structure qL (h:Nat) (nodes:List ByteArray) (R:Nat->Nat×ByteArray) (M:Nat):Prop where
 sorted:∀ i j,i < j->j < M->¬ eV (R j) (R i)
 mem:∀ i,i < M->(R i).2 ∈ nodes/\iV h (R i).2<=(R i).1
 all:∀ x ∈ nodes,∃ i,i < M/\R i=(iV h x,x)
structure Qz (h:Nat) (nodes:List ByteArray) (R:Nat->Nat×ByteArray) (n j:Nat) (out:List ByteArray):Prop where
 kX:XC h nodes out
 le:out.length<=n
 seen:out.length < n->∀ i,i < j->(R i).2 ∈ out
theorem Qz.start (h:Nat) (f:List ByteArray) (R:Nat->Nat×ByteArray) (n:Nat):Qz h f R n 0 []:=⟨XC.nil _ _,Nat.zero_le _,fun _ _ d=>absurd d (Nat.not_lt_zero _)⟩
theorem Qz.full  {j:Nat} (o:Qz h f R n j d) (s:¬ d.length < n):Qz h f R n (j+1) d:=⟨o.kX,o.le,fun q=>absurd q s⟩
theorem Qz.skip {q:List ByteArray} {j:Nat} (f:Qz h q R n j d) (t:(R j).2 ∈ d):Qz h q R n (j+1) d:=⟨f.kX,f.le,fun s i A=>by
 rcases Nat.lt_or_ge i j with o | o
 ·exact f.seen s i o
 ·obtain rfl:i=j:=by omega
  exact t⟩
theorem Qz.push  {j:Nat} (q:qL h o R M) (s:Qz h o R n j f) (K:j < M) (B:f.length < n) (L:(R j).2 ∉ f):Qz h o R n (j+1) (f ++ [(R j).2]):=by
 have t:=q.mem j K
 refine ⟨s.kX.next (a:=(R j).1) t.1 L t.2 (fun z D G H=>?_),by rw [List.length_append];show f.length+1<=n;omega,fun _ i N=>?_⟩
 ·obtain ⟨i,I,e⟩:=q.all z D
  have A:eV (R i) (R j):=by rw [e];exact H
  rcases Nat.lt_or_ge i j with d | d
  ·have:=s.seen B i d
   rw [e] at this
   exact G this
  ·by_cases J:i=j
   ·subst J
    exact vM _ A
   ·exact q.sorted j i (by omega) I A
 ·rcases Nat.lt_or_ge i j with d | d
  ·exact List.mem_append_left _ (s.seen B i d)
  ·obtain rfl:i=j:=by omega
   exact List.mem_append_right _ (List.mem_singleton.2 rfl)
theorem Qz.done   (A:qL h d R M) (D:n<=d.length) (B:d.Nodup) (o:Qz h d R n M f):f.length=n:=by
 rcases Nat.lt_or_ge f.length n with j | j
 ·exfalso
  obtain ⟨x,q,s⟩:=xL B (show f.length < d.length by omega)
  obtain ⟨i,t,e⟩:=A.all x q
  have:=o.seen j i t
  rw [e] at this
  exact s this
 ·have:=o.le
  omega
def QZ (h f M:Nat) (Q:Nat->Nat×ByteArray) (j:Nat):Nat×ByteArray:=(rP h (Q ((f+j) % M)).1,(Q ((f+j) % M)).2)
theorem u1 :eV (p.1+c,p.2) (q.1+c,q.2)↔eV p q:=by
 unfold eV
 constructor
 ·rintro (h | ⟨f,d⟩)
  ·have j:p.1+c < q.1+c:=h
   exact Or.inl (by omega)
  ·have j:p.1+c=q.1+c:=f
   exact Or.inr ⟨by omega,d⟩
 ·rintro (h | ⟨f,d⟩)
  ·exact Or.inl (by show p.1+c < q.1+c;omega)
  ·exact Or.inr ⟨by show p.1+c=q.1+c;omega,d⟩
theorem BU {f:Nat} {B:List ByteArray} {Q:Nat->Nat×ByteArray} (S:0 < M) (hf:f<=M) (T:∀ i,i < M->(Q i).1 < 4294967296) (J:∀ i j,i < j->j < M->¬ eV (Q j) (Q i))
 (U:∀ i,i < f->(Q i).1 < h) (V:∀ i,f<=i->i < M->h<=(Q i).1)
 (W:∀ i,i < M->(Q i).2 ∈ B/\∃ k,k < 8/\(Q i).1=kG (Q i).2 k) (Y:∀ x ∈ B,∀ k,k < 8->∃ i,i < M/\Q i=(kG x k,x)):qL h B (QZ h f M Q) M:=by
 have D:∀ i,i < f->rP h (Q i).1=(Q i).1+4294967296:=fun i G=>if_pos (U i G)
 have q:∀ i,f<=i->i < M->rP h (Q i).1=(Q i).1:=fun i d o=>if_neg (by have:=V i d o;omega)
 refine ⟨fun i j Z H=>?_,fun i G=>?_,fun x K=>?_⟩
 ·unfold QZ
  rcases Nat.lt_or_ge (f+j) M with d | d
  ·rw [Nat.mod_eq_of_lt d,Nat.mod_eq_of_lt (show f+i < M by omega),q _ (by omega) d,q _ (by omega) (by omega)]
   exact J (f+i) (f+j) (by omega) d
  ·have s : (f + j) % M = f + j - M := by
    rw [Nat.mod_eq_sub_mod d]
    exact Nat.mod_eq_of_lt (by omega)
   rw [s,D (f+j - M) (by omega)]
   rcases Nat.lt_or_ge (f+i) M with o | o
   ·rw [Nat.mod_eq_of_lt o,q _ (by omega) o]
    have:=T (f+i) o
    rintro (t | ⟨t,_⟩)
    ·have L:(Q (f+j - M)).1+4294967296 < (Q (f+i)).1:=t
     omega
    ·have L:(Q (f+j - M)).1+4294967296=(Q (f+i)).1:=t
     omega
   ·have N : (f + i) % M = f + i - M := by
     rw [Nat.mod_eq_sub_mod o]
     exact Nat.mod_eq_of_lt (by omega)
    rw [N,D (f+i - M) (by omega),u1]
    exact J (f+i - M) (f+j - M) (by omega) (by omega)
 ·have O:(f+i) % M < M:=Nat.mod_lt _ S
  obtain ⟨d,k,A,e⟩:=W _ O
  refine ⟨d,?_⟩
  show iV h (Q ((f+i) % M)).2<=rP h (Q ((f+i) % M)).1
  rw [e]
  exact U0 h _ k A
 ·obtain ⟨k,A,e⟩:=TA h x
  obtain ⟨i,I,R⟩:=Y x K k A
  obtain ⟨j,H,s⟩:∃ j,j < M/\(f+j) % M=i:=by
   rcases Nat.lt_or_ge i f with d | d
   ·refine ⟨i+M - f,by omega,?_⟩
    rw [show f+(i+M - f)=i+M by omega,Nat.add_mod_right]
    exact Nat.mod_eq_of_lt I
   ·refine ⟨i - f,by omega,?_⟩
    rw [show f+(i - f)=i by omega]
    exact Nat.mod_eq_of_lt I
  refine ⟨j,H,?_⟩
  unfold QZ
  rw [s,R,<- e]
  rfl
end Ring
def hY (s:ByteArray) (p:Nat):Nat:=Gf.bT (Gf.nth (bytesOf s) (p / 8)) (p % 8)
theorem MD (s:ByteArray) (p:Nat):hY s p < 2:=Nat.mod_lt _ (by decide)
def eS (s:ByteArray):Nat:=Crc.a1 (hY s) 4294967295 (8*s.size)
theorem y6 (s:ByteArray):eS s < 2 ^ 32:=Crc.a6 (by decide) _
def nB (s:ByteArray):Nat:=eS s ^^^ 4294967295
theorem H0 (s:ByteArray):nB s < 2 ^ 32:=Nat.xor_lt_two_pow (y6 s) (by decide)
theorem R1 {q:Nat} (h:(c ^^^ q) % 2=1) (d:b=q % 2):Crc.step c b=c / 2 ^^^ 3988292384:=by
 unfold Crc.step Crc.back
 rw [Crc.bA] at h ⊢
 rw [if_pos (by rw [d];omega)]
 rfl
theorem HY {q:Nat} (h:(c ^^^ q) % 2=0) (d:b=q % 2):Crc.step c b=c / 2:=by
 unfold Crc.step Crc.back
 rw [Crc.bA] at h ⊢
 rw [if_neg (by rw [d];omega),Nat.xor_zero]
def u4 (n:Nat):List Nat:=[n / 16777216 % 256,n / 65536 % 256,n / 256 % 256,n % 256]
def H6 (n:Nat):ByteArray:=Jp (u4 n)
def i1 (s:ByteArray):ByteArray:=s.extract 0 (s.size - 4)
def O3 (s:ByteArray):ByteArray:=s.extract (s.size - 4) s.size
theorem O2 (s:ByteArray):(i1 s).size=s.size - 4:=by unfold i1;simp
theorem L2 {b:ByteArray} (h:a.toList=b.toList):a=b:=by
 rw [ByteArray.toList_eq,ByteArray.toList_eq] at h
 exact ByteArray.ext (Array.toList_inj.1 h)
theorem WN (a b:Nat) (f:a < 4294967296) (h:b < 4294967296):bits .xor .u32 (a:Int) (b:Int)=((a ^^^ b:Nat):Int):=by
 have d:a ^^^ b < 2 ^ 32:=Nat.xor_lt_two_pow (by omega) (by omega)
 show IntKind.u32.wrap ((BitVec.ofInt 32 (a:Int) ^^^ BitVec.ofInt 32 (b:Int)).toNat:Int)=_
 rw [BitVec.toNat_xor,BitVec.ofInt_natCast,BitVec.ofInt_natCast,BitVec.toNat_ofNat,BitVec.toNat_ofNat,Nat.mod_eq_of_lt (by omega),Nat.mod_eq_of_lt (by omega)]
 show ((a ^^^ b:Nat):Int) % 4294967296=_
 omega
theorem IH (s:ByteArray) (w:World) (G:s.size<=1000000) :
 Calls Tryd.prog 65 #[.string s] w fun e d=>e=.returned (.int .u32 ((lV s s.size:Nat):Int))/\d=w:=by
 go_enter Tryd.func65,Tryd.ntmps65
 go_wp2
 go_loop [3,7] (fun c x=>∃ i:Nat,i<=s.size/\x=.int .i64 i/\c=.int .u32 ((lV s i:Nat):Int)) (fun _ x=>s.size - (intOf x).toNat)
 case atStart=>exact ⟨0,Nat.zero_le _,rfl,rfl⟩
 case round =>
  obtain ⟨i,t,rfl,rfl⟩:=hrel
  have f:=B2 s i
  by_cases h:i < s.size
  ·have A:=EP s i h
   have B:=xK s i
   have j:Hid (lV s (i+1)=(lV s i ^^^ Gf.nth (bytesOf s) i)*16777619 % 4294967296):=by show _=_;rfl
   generalize lV s i=c at *
   generalize Gf.nth (bytesOf s) i=y at *
   have D:bits .xor .u32 (c:Int) (y:Int)=((c ^^^ y:Nat):Int):=WN _ _ f (by omega)
   generalize c ^^^ y=q at *
   go_wp2
   go_round
   case rel=>exact ⟨i+1,by omega,by go_num,by rw [j.out];congr 1⟩
   case measure=>simp [intOf];omega
  ·have o:i=s.size:=by omega
   subst o
   go_wp2
   go_ret
   exact ⟨rfl,rfl⟩
end Go.Proofs.YtppcijpgalaohaaDoor
