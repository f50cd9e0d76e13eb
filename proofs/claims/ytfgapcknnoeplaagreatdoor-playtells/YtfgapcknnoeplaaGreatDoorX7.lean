/- Texts laid together. -/
import Derived.Test.YtfgapcknnoeplaaGreatDoorX6
import Derived.Shelf.LaysM
import Derived.Shelf.Strconv.Clone
import Derived.Shelf.Strconv.Itoa3
import Derived.Shelf.GgClosure.StringsIndexFuncTop
import Derived.Shelf.SlSortCmp.WholeK
import Derived.Shelf.SlicesQ.IndexFunc
import Derived.Laws.RangeAny
import Derived.Shelf.SlLaysE0
import Derived.Shelf.SlicesE.Clone
set_option maxRecDepth 10000
set_option maxHeartbeats 4000000
open Option renaming some->aa,none->N
open List renaming getD_eq_getElem?_getD->ac,getElem?_append_right->aj,getElem?_append_left->ak,length_append->ap,length_take->aw,mem_cons->aB
open Bool renaming eq_false_iff->ae,true->ai,false->F
open Go.RowKit renaming Below->af
open Go renaming Calls->ag,Value->am,Addr->aA,callFunc->aI
open Nat renaming not_lt_zero->ah,zero_le->an,sub_self->ar,le_refl->ax,lt_or_ge->za
namespace Go.Proofs
open Go.Shelf
def Tryz.lays316_ren : Go.Shelf.Ren := ⟨fun | 316 => 46 | n => n, fun | 9 => 9 | 3 => 3 | 4 => 4 | 37 => 127 | 0 => 0 | 127 => 128 | 5 => 5 | n => n, fun | n => n⟩
theorem Tryz.lays316 : Go.Proofs.LaysM.n316 Tryz.prog Tryz.lays316_ren := {
 mixed:=by kernel_rfl
 f316:=Tryz.func46.trans (congrArg aa (by kernel_rfl))
 t0:=Tryz.underlying0
 a0:=Tryz.isAgg0
 z0:=Tryz.sizeOf0
 v0:=Tryz.zeroValue0
 t3:=Tryz.underlying3
 a3:=Tryz.isAgg3
 z3:=Tryz.sizeOf3
 v3:=Tryz.zeroValue3
 t4:=Tryz.underlying4
 a4:=Tryz.isAgg4
 z4:=Tryz.sizeOf4
 v4:=Tryz.zeroValue4
 t9:=Tryz.underlying9
 a9:=Tryz.isAgg9
 z9:=Tryz.sizeOf9
 v9:=Tryz.zeroValue9
 t37:=Tryz.underlying127
 a37:=Tryz.isAgg127
 z37:=Tryz.sizeOf127
 v37:=Tryz.zeroValue127
 t127:=Tryz.underlying128
 a127:=Tryz.isAgg128
 z127:=Tryz.sizeOf128
 v127:=Tryz.zeroValue128
 t5:=Tryz.underlying5
 a5:=Tryz.isAgg5
 z5:=Tryz.sizeOf5
 v5:=Tryz.zeroValue5
 i0:=by kernel_rfl
 i3:=by kernel_rfl
 i4:=by kernel_rfl
 i5:=by kernel_rfl
 i9:=by kernel_rfl
 i37:=by kernel_rfl
 i127:=by kernel_rfl }
open Go.RowKit in
/-- internal/stringslite.Clone. -/
theorem Tryz.stringslite_Clone (s : ByteArray) (w : World) (hlim : s.size ≤ 281474976710656) :
 ag Tryz.prog 46 #[.string s] w fun e w' => e = .returned (.string s) ∧ af w.heap.size w w':=Any.stringslite_Clone Tryz.lays316 s w hlim
def Tryz.lays171_ren : Go.Shelf.Ren := ⟨fun | 171 => 39 | 243 => 63 | 246 => 93 | 283 => 122 | 284 => 123 | 285 => 124 | 286 => 125 | 129 => 152 | 317 => 151 | 318 => 153 | 319 => 154 | 320 => 155 | 337 => 183 | 338 => 184 | n => n, fun | 3 => 3 | 9 => 9 | 2 => 2 | 4 => 4 | 171 => 219 | 0 => 0 | 53 => 220 | 37 => 127 | 5 => 5 | 173 => 223 | 212 => 248 | 51 => 149 | 20 => 20 | 213 => 249 | 46 => 228 | 232 => 295 | 233 => 296 | n => n, fun | 17 => 13 | 18 => 14 | 19 => 15 | n => n⟩
theorem Tryz.lays171 : Go.Proofs.Lays.n171 Tryz.prog Tryz.lays171_ren := {
 mixed:=by kernel_rfl
 f129:=Tryz.func152.trans (congrArg aa (by kernel_rfl))
 f171:=Tryz.func39.trans (congrArg aa (by kernel_rfl))
 f243:=Tryz.func63.trans (congrArg aa (by kernel_rfl))
 f246:=Tryz.func93.trans (congrArg aa (by kernel_rfl))
 f283:=Tryz.func122.trans (congrArg aa (by kernel_rfl))
 f284:=Tryz.func123.trans (congrArg aa (by kernel_rfl))
 f285:=Tryz.func124.trans (congrArg aa (by kernel_rfl))
 f286:=Tryz.func125.trans (congrArg aa (by kernel_rfl))
 f317:=Tryz.func151.trans (congrArg aa (by kernel_rfl))
 f318:=Tryz.func153.trans (congrArg aa (by kernel_rfl))
 f319:=Tryz.func154.trans (congrArg aa (by kernel_rfl))
 f320:=Tryz.func155.trans (congrArg aa (by kernel_rfl))
 f337:=Tryz.func183.trans (congrArg aa (by kernel_rfl))
 f338:=Tryz.func184.trans (congrArg aa (by kernel_rfl))
 t0:=Tryz.underlying0
 a0:=Tryz.isAgg0
 z0:=Tryz.sizeOf0
 v0:=Tryz.zeroValue0
 t2:=Tryz.underlying2
 a2:=Tryz.isAgg2
 z2:=Tryz.sizeOf2
 v2:=Tryz.zeroValue2
 t3:=Tryz.underlying3
 a3:=Tryz.isAgg3
 z3:=Tryz.sizeOf3
 v3:=Tryz.zeroValue3
 t4:=Tryz.underlying4
 a4:=Tryz.isAgg4
 z4:=Tryz.sizeOf4
 v4:=Tryz.zeroValue4
 t5:=Tryz.underlying5
 a5:=Tryz.isAgg5
 z5:=Tryz.sizeOf5
 v5:=Tryz.zeroValue5
 t9:=Tryz.underlying9
 a9:=Tryz.isAgg9
 z9:=Tryz.sizeOf9
 v9:=Tryz.zeroValue9
 t20:=Tryz.underlying20
 a20:=Tryz.isAgg20
 z20:=Tryz.sizeOf20
 v20:=Tryz.zeroValue20
 t37:=Tryz.underlying127
 a37:=Tryz.isAgg127
 z37:=Tryz.sizeOf127
 v37:=Tryz.zeroValue127
 t46:=Tryz.underlying228
 a46:=Tryz.isAgg228
 z46:=Tryz.sizeOf228
 v46:=Tryz.zeroValue228
 t51:=Tryz.underlying149
 a51:=Tryz.isAgg149
 z51:=Tryz.sizeOf149
 v51:=Tryz.zeroValue149
 t53:=Tryz.underlying220
 a53:=Tryz.isAgg220
 z53:=Tryz.sizeOf220
 v53:=Tryz.zeroValue220
 t171:=Tryz.underlying219
 a171:=Tryz.isAgg219
 z171:=Tryz.sizeOf219
 v171:=Tryz.zeroValue219
 t173:=Tryz.underlying223
 a173:=Tryz.isAgg223
 z173:=Tryz.sizeOf223
 v173:=Tryz.zeroValue223
 t212:=Tryz.underlying248
 a212:=Tryz.isAgg248
 z212:=Tryz.sizeOf248
 v212:=Tryz.zeroValue248
 t213:=Tryz.underlying249
 a213:=Tryz.isAgg249
 z213:=Tryz.sizeOf249
 t232:=Tryz.underlying295
 a232:=Tryz.isAgg295
 z232:=Tryz.sizeOf295
 v232:=Tryz.zeroValue295
 t233:=Tryz.underlying296
 a233:=Tryz.isAgg296
 z233:=Tryz.sizeOf296
 v233:=Tryz.zeroValue296
 g17:=by kernel_rfl
 g18:=by kernel_rfl
 g19:=by kernel_rfl }
open Go.RowKit in
/-- strconv.Itoa of a small number. -/
theorem Tryz.strconv_Itoa_small (i : Nat) (hi : i < 100) (w : World) :
 ag Tryz.prog 39 #[.int .i64 i] w fun e w' => e = .returned (.string ⟨(Lib.decDigits i).toArray⟩) ∧ w' = w:=Any.strconv_Itoa_small Tryz.lays171 i hi w
def Tryz.laysGw17_ren : Go.Shelf.Ren := ⟨fun | 17 => 72 | 15 => 98 | 20 => 127 | n => n, fun | 9 => 9 | 23 => 144 | 4 => 4 | 3 => 3 | 0 => 0 | 21 => 21 | n => n, fun | n => n⟩
theorem Tryz.laysGw17 : Go.Proofs.LaysGw.n17 Tryz.prog Tryz.laysGw17_ren := {
 mixed:=by kernel_rfl
 f15:=Tryz.func98.trans (congrArg aa (by kernel_rfl))
 f17:=Tryz.func72.trans (congrArg aa (by kernel_rfl))
 f20:=Tryz.func127.trans (congrArg aa (by kernel_rfl))
 t0:=Tryz.underlying0
 a0:=Tryz.isAgg0
 z0:=Tryz.sizeOf0
 v0:=Tryz.zeroValue0
 i0:=by kernel_rfl
 t3:=Tryz.underlying3
 a3:=Tryz.isAgg3
 z3:=Tryz.sizeOf3
 v3:=Tryz.zeroValue3
 i3:=by kernel_rfl
 t4:=Tryz.underlying4
 a4:=Tryz.isAgg4
 z4:=Tryz.sizeOf4
 v4:=Tryz.zeroValue4
 i4:=by kernel_rfl
 t9:=Tryz.underlying9
 a9:=Tryz.isAgg9
 z9:=Tryz.sizeOf9
 v9:=Tryz.zeroValue9
 i9:=by kernel_rfl
 t21:=Tryz.underlying21
 a21:=Tryz.isAgg21
 z21:=Tryz.sizeOf21
 v21:=Tryz.zeroValue21
 i21:=by kernel_rfl
 t23:=Tryz.underlying144
 a23:=Tryz.isAgg144
 z23:=Tryz.sizeOf144
 v23:=Tryz.zeroValue144
 i23:=by kernel_rfl }
open Go.RowKit in
/-- strings.ContainsFunc. -/
theorem Tryz.strings_ContainsFunc (g : Nat) (lb : Array am) (eg : ∀ args w, (aI g args).run Tryz.prog w = .ok (.enter g args) w) (p : Nat → Bool) (s : ByteArray) (w : World) (hp : PredAt Tryz.prog g lb encR p w) :
 ag Tryz.prog 72 #[.string s, .func (.func g) #[] lb] w fun e w' => e = .returned (.bool (decide (0 ≤ Lib.idxFunc p ai s))) ∧ af w.heap.size w w':=Any.strings_ContainsFunc Tryz.laysGw17 g lb eg p s w hp
def Tryz.laysF6_ren : Go.Shelf.Ren := ⟨fun | 6 => 99 | 15 => 129 | 14 => 128 | 28 => 164 | 29 => 152 | 20 => 156 | 21 => 157 | 22 => 158 | 23 => 159 | 24 => 160 | 25 => 161 | 26 => 162 | 27 => 163 | 46 => 185 | 47 => 186 | 48 => 187 | 49 => 188 | 50 => 189 | 57 => 198 | n => n, fun | 22 => 146 | 24 => 179 | 25 => 183 | 3 => 3 | 39 => 228 | 0 => 0 | 53 => 149 | 55 => 220 | 4 => 4 | 46 => 252 | 45 => 251 | 50 => 243 | 5 => 5 | 9 => 9 | 66 => 276 | 70 => 280 | 76 => 297 | 77 => 80 | n => n, fun | n => n⟩
theorem Tryz.laysF6 : Go.Proofs.SlLaysF0.n6 Tryz.prog Tryz.laysF6_ren := {
 mixed:=by kernel_rfl
 f6:=⟨Tryz.f99.name, by decide, Tryz.func99.trans (congrArg aa (by kernel_rfl))⟩
 f14:=⟨Tryz.f128.name, by decide, Tryz.func128.trans (congrArg aa (by kernel_rfl))⟩
 f15:=Tryz.func129.trans (congrArg aa (by kernel_rfl))
 f20:=⟨Tryz.f156.name, by decide, Tryz.func156.trans (congrArg aa (by kernel_rfl))⟩
 f21:=⟨Tryz.f157.name, by decide, Tryz.func157.trans (congrArg aa (by kernel_rfl))⟩
 f22:=⟨Tryz.f158.name, by decide, Tryz.func158.trans (congrArg aa (by kernel_rfl))⟩
 f23:=⟨Tryz.f159.name, by decide, Tryz.func159.trans (congrArg aa (by kernel_rfl))⟩
 f24:=⟨Tryz.f160.name, by decide, Tryz.func160.trans (congrArg aa (by kernel_rfl))⟩
 f25:=⟨Tryz.f161.name, by decide, Tryz.func161.trans (congrArg aa (by kernel_rfl))⟩
 f26:=⟨Tryz.f162.name, by decide, Tryz.func162.trans (congrArg aa (by kernel_rfl))⟩
 f27:=⟨Tryz.f163.name, by decide, Tryz.func163.trans (congrArg aa (by kernel_rfl))⟩
 f28:=Tryz.func164.trans (congrArg aa (by kernel_rfl))
 f29:=Tryz.func152.trans (congrArg aa (by kernel_rfl))
 f46:=⟨Tryz.f185.name, by decide, Tryz.func185.trans (congrArg aa (by kernel_rfl))⟩
 f47:=Tryz.func186.trans (congrArg aa (by kernel_rfl))
 f48:=Tryz.func187.trans (congrArg aa (by kernel_rfl))
 f49:=⟨Tryz.f188.name, by decide, Tryz.func188.trans (congrArg aa (by kernel_rfl))⟩
 f50:=⟨Tryz.f189.name, by decide, Tryz.func189.trans (congrArg aa (by kernel_rfl))⟩
 f57:=⟨Tryz.f198.name, by decide, Tryz.func198.trans (congrArg aa (by kernel_rfl))⟩
 t0:=Tryz.underlying0
 a0:=Tryz.isAgg0
 z0:=Tryz.sizeOf0
 v0:=Tryz.zeroValue0
 t3:=Tryz.underlying3
 a3:=Tryz.isAgg3
 z3:=Tryz.sizeOf3
 v3:=Tryz.zeroValue3
 t4:=Tryz.underlying4
 a4:=Tryz.isAgg4
 z4:=Tryz.sizeOf4
 v4:=Tryz.zeroValue4
 t5:=Tryz.underlying5
 a5:=Tryz.isAgg5
 z5:=Tryz.sizeOf5
 v5:=Tryz.zeroValue5
 t9:=Tryz.underlying9
 a9:=Tryz.isAgg9
 z9:=Tryz.sizeOf9
 v9:=Tryz.zeroValue9
 t22:=Tryz.underlying146
 a22:=Tryz.isAgg146
 z22:=Tryz.sizeOf146
 v22:=Tryz.zeroValue146
 t25:=Tryz.underlying183
 a25:=Tryz.isAgg183
 z25:=Tryz.sizeOf183
 v25:=Tryz.zeroValue183
 t39:=Tryz.underlying228
 a39:=Tryz.isAgg228
 z39:=Tryz.sizeOf228
 v39:=Tryz.zeroValue228
 t45:=Tryz.underlying251
 a45:=Tryz.isAgg251
 z45:=Tryz.sizeOf251
 v45:=Tryz.zeroValue251
 t46:=Tryz.underlying252
 a46:=Tryz.isAgg252
 z46:=Tryz.sizeOf252
 v46:=Tryz.zeroValue252
 t50:=Tryz.underlying243
 a50:=Tryz.isAgg243
 z50:=Tryz.sizeOf243
 v50:=Tryz.zeroValue243
 t53:=Tryz.underlying149
 a53:=Tryz.isAgg149
 z53:=Tryz.sizeOf149
 v53:=Tryz.zeroValue149
 t55:=Tryz.underlying220
 a55:=Tryz.isAgg220
 z55:=Tryz.sizeOf220
 v55:=Tryz.zeroValue220
 t66:=Tryz.underlying276
 a66:=Tryz.isAgg276
 z66:=Tryz.sizeOf276
 v66:=Tryz.zeroValue276
 t70:=Tryz.underlying280
 a70:=Tryz.isAgg280
 z70:=Tryz.sizeOf280
 v70:=Tryz.zeroValue280
 t76:=Tryz.underlying297
 a76:=Tryz.isAgg297
 z76:=Tryz.sizeOf297
 v76:=Tryz.zeroValue297
 t77:=Tryz.underlying80
 a77:=Tryz.isAgg80
 z77:=Tryz.sizeOf80
 v77:=Tryz.zeroValue80 }
open Go.RowKit Go.Sort in
/-- slices.SortFunc at points. -/
theorem Tryz.slices_SortFunc {α : Type} [Inhabited α] (k : Nat) (aE : ∀ w, (isAgg 179).run Tryz.prog w = .ok ai w) (zE : ∀ w, (Go.sizeOf 179).run Tryz.prog w = .ok k w) (enc : α → List am) (hk : ∀ x, (enc x).length = k) (h1 : ∀ x, ∀ v ∈ enc x, v.oneCell' = ai) (cf : α → α → Int) (hO : SWO (ltOf cf)) (g : Nat) (cb : Array am) (blk off cap : Nat) (d : Array α) (w : World)
    (eg : ∀ args w, (aI g args).run Tryz.prog w = .ok (.enter g args) w) (hcmp : CmpLays Tryz.prog g cb enc k cf blk off d.size w) (hH : HoldsK enc k w blk off d) (hblk : blk < w.heap.size) (hsz : d.size < 4611686018427387904) :
    ag Tryz.prog 99 #[.slice (aa ⟨blk, off, N⟩) d.size cap, .func (.func g) #[] cb] w fun e w' =>
 e = .returned (.tuple #[]) ∧ ∃ d' n os, PermIn 0 d.size d d' ∧ SortedIn (ltOf cf) 0 d.size d' ∧ w' = sortWorldK enc k w blk off n d' os:=AnyQ.slices_SortFunc Tryz.laysF6 k aE zE enc hk h1 cf hO g cb blk off cap d w eg hcmp hH hblk hsz
def Tryz.laysH6_ren : Go.Shelf.Ren := ⟨fun | 6 => 103 | n => n, fun | 22 => 146 | 23 => 179 | 25 => 185 | 3 => 3 | 0 => 0 | 4 => 4 | n => n, fun | n => n⟩
theorem Tryz.laysH6 : Go.Proofs.SlLaysH0.n6 Tryz.prog Tryz.laysH6_ren := {
 mixed:=by kernel_rfl
 f6:=⟨Tryz.f103.name, by decide, Tryz.func103.trans (congrArg aa (by kernel_rfl))⟩
 t0:=Tryz.underlying0
 a0:=Tryz.isAgg0
 z0:=Tryz.sizeOf0
 v0:=Tryz.zeroValue0
 t3:=Tryz.underlying3
 a3:=Tryz.isAgg3
 z3:=Tryz.sizeOf3
 v3:=Tryz.zeroValue3
 t4:=Tryz.underlying4
 a4:=Tryz.isAgg4
 z4:=Tryz.sizeOf4
 v4:=Tryz.zeroValue4
 t22:=Tryz.underlying146
 a22:=Tryz.isAgg146
 z22:=Tryz.sizeOf146
 v22:=Tryz.zeroValue146
 t25:=Tryz.underlying185
 a25:=Tryz.isAgg185
 z25:=Tryz.sizeOf185
 v25:=Tryz.zeroValue185 }
open Go.RowKit in
/-- slices.IndexFunc at points. -/
theorem Tryz.slices_IndexFunc {α : Type} [Inhabited α] (k : Nat) (aE : ∀ w, (isAgg 179).run Tryz.prog w = .ok ai w) (zE : ∀ w, (Go.sizeOf 179).run Tryz.prog w = .ok k w) (enc : α → List am) (hk : ∀ x, (enc x).length = k)
    (p : α → Bool) (g : Nat) (lb : Array am) (eg : ∀ args w, (aI g args).run Tryz.prog w = .ok (.enter g args) w) (b off n c : Nat) (zs : List α) (w : World)
    (hp : PredBelow Tryz.prog g lb (fun x => .agg (enc x).toArray) p w) (hz : n ≤ zs.length) (hbig : n ≤ 9223372036854775807) (hb : b < w.heap.size)
    (hc : ∀ j, j < zs.length → ∀ i v, (enc zs[j]!)[i]? = aa v → w.cell? ⟨b, off + j * k + i, N⟩ = aa v) :
 ag Tryz.prog 103 #[.slice (aa ⟨b, off, N⟩) n c, .func (.func g) #[] lb] w fun e w' => e = .returned (.int .i64 (Lib.idxBy (fun _ y => p y) (zs.take n) default)) ∧ af w.heap.size w w':=AnyQ.slices_IndexFunc Tryz.laysH6 k aE zE enc hk p g lb eg b off n c zs w hp hz hbig hb hc
end Go.Proofs
namespace Go.Proofs
open Go.Shelf
def Tryz.laysClone_ren : Go.Shelf.Ren := ⟨fun | 41 => 190 | n => n, fun | 22 => 116 | 23 => 216 | 4 => 4 | n => n, fun | n => n⟩
theorem Tryz.laysClone : Go.Proofs.SlLaysE0.n41 Tryz.prog Tryz.laysClone_ren := {
 mixed:=by kernel_rfl
 f41:=⟨Tryz.f190.name, by decide, Tryz.func190.trans (congrArg aa (by kernel_rfl))⟩
 t4:=Tryz.underlying4
 a4:=Tryz.isAgg4
 z4:=Tryz.sizeOf4
 v4:=Tryz.zeroValue4
 t22:=Tryz.underlying116
 a22:=Tryz.isAgg116
 z22:=Tryz.sizeOf116
 v22:=Tryz.zeroValue116 }
open Go.RowKit in
/-- slices.Clone at versions. -/
theorem Tryz.slices_Clone (i0 : TypeInfo) (z : am) (size bytes : Nat) (hi : Tryz.prog.info? 216 = aa i0) (hz0 : i0.zero = aa z) (hz1 : i0.size = size) (hz2 : i0.bytes = bytes) (hzs : z.cells.size = size) (hsz : 0 < size)
    (z23 : ∀ w, (Go.sizeOf 216).run Tryz.prog w = .ok size w) (b off n c : Nat) (news : List am) (w : World) (hl : news.length = n * size) (hn : n ≤ maxLen) (hbig : n * bytes ≤ 140737488355328)
    (hc : ∀ j u, news[j]? = aa u → w.cell? ⟨b, off + j, N⟩ = aa u) (h1 : ∀ u ∈ news, u.oneCell' = ai) :
 ag Tryz.prog 190 #[.slice (aa ⟨b, off, N⟩) n c] w fun e w' => ∃ v', e = .returned v' ∧ w'.ownsRow w.heap.size 216 size v' n news ∧ v' ≠ .slice N 0 0 ∧ af w.heap.size w w':=AnyE.slices_Clone Tryz.laysClone i0 z size bytes hi hz0 hz1 hz2 hzs hsz z23 b off n c news w hl hn hbig hc h1
end Go.Proofs
namespace Go.Proofs.YtfgapcknnoeplaaGreatDoor
open Go.RowKit
variable {LL:List (List Yb)}{w w':World}{ad:Nat->aA}
def Jt (v:Yb):Prop:=(-9223372036854775808<=v.n/\v.n<=9223372036854775807)/\(-9223372036854775808<=v.who/\v.who<=9223372036854775807)/\(-9223372036854775808<=v.size/\v.size<=9223372036854775807)/\-9223372036854775808<=v.at_/\v.at_<=9223372036854775807
theorem CS (n:Int)(v:Yb):n<=Yk n v:=by unfold Yk;split<;>omega
theorem ZK:∀(l:List Yb) (n:Int),n<=l.foldl Yk n
 | [],n=>Int.le_refl n
 |v::l,n=>Int.le_trans (CS n v) (ZK l _)
theorem IY:∀(l:List Yb) (n:Int),n<=1099511627776->l.foldl Yk n<=1099511627776
 | [],n,h=>h
 |v::l,n,h=>IY l _ (by unfold Yk;split<;>omega)
theorem sH (LL:List (List Yb)):0<=XF LL/\XF LL<=1099511627776:=⟨ZK _ _,IY _ _ (by decide)⟩
theorem M2 {i:Nat}(h:i<LL.length):XF (LL.take (i+1))=(LL.getD i []).foldl Yk (XF (LL.take i)):=by
 unfold XF;rw[List.take_succ_eq_append_getElem h,List.flatten_append,List.foldl_append];have e:LL.getD i []=LL[i]:=by rw[ac,List.getElem?_eq_getElem h];rfl
 rw[e];simp
theorem OI {l:List Yb}{j:Nat}(h:j<l.length)(n:Int):(l.take (j+1)).foldl Yk n=Yk ((l.take j).foldl Yk n) (Xd l j):=by
 rw[List.take_add_one,Xx h];simp
theorem Q5:∀(l:List Yb) (n:Int),0<=n->(∀v∈l,v.n<=1099511627776->v.n<=l.foldl Yk n)/\(l.foldl Yk n=n∨∃v∈l,v.n=l.foldl Yk n/\v.n<=1099511627776)
 | [],n,_=>⟨(fun v I=>by cases I),Or.inl rfl⟩
 |v::l,n,h=>by
  have J:0<=Yk n v:=Int.le_trans h (CS n v);obtain⟨K,D⟩:=Q5 l (Yk n v) J;refine⟨fun x B O=>?_,?_⟩
  ·rcases aB.1 B with rfl|B
   ·refine Int.le_trans ?_ (ZK l _);unfold Yk;split<;>omega
   ·exact K x B O
  ·rcases D with D|⟨x,B,U,Z⟩
   ·show l.foldl Yk (Yk n v)=n∨_;by_cases H:n<v.n/\v.n<=1099511627776
    ·refine Or.inr ⟨v,by simp,?_,H.2⟩;show v.n=l.foldl Yk (Yk n v);rw[D];unfold Yk;rw[if_pos H]
    ·left;rw[D];unfold Yk;rw[if_neg H]
   ·exact Or.inr ⟨x,by simp[B],U,Z⟩
theorem Jqx {L M:List (List Yb)}(h:∀v,v∈L.flatten↔v∈M.flatten):XF L=XF M:=by
 unfold XF;obtain⟨a1,H⟩:=Q5 L.flatten 0 (by decide);obtain⟨I,J⟩:=Q5 M.flatten 0 (by decide);have K:=ZK L.flatten 0;have O:=ZK M.flatten 0;refine Int.le_antisymm ?_ ?_
 ·rcases H with e|⟨v,B,e,D⟩
  ·rw[e];exact O
  ·rw[<-e];exact I v ((h v).1 B) D
 ·rcases J with e|⟨v,B,e,D⟩
  ·rw[e];exact K
  ·rw[<-e];exact a1 v ((h v).2 B) D
theorem KH {l:List Yb}:∀{L:List (List Yb)},l∈L->l.length<=L.flatten.length
 |m::L,h=>by
  rw[List.flatten_cons,ap];rcases aB.1 h with rfl|h
  ·omega
  ·have:=KH h;omega
theorem Jjs {n k:Nat}{all:List Yb}{S:(Int×Int)×BA×Bool}{v:Yb}(D:1<=k)(h:S.2.1.size<=1000):(XH n k all S v).2.1.size<=1000:=by
 unfold XH;split
 ·exact h
 ·split
  ·exact h
  ·rename_i B;show(gB _ _ _).size<=1000;rw[JpW];exact(FF D B).2.1
theorem y9 {n k:Nat}{all:List Yb}(B:1<=k):∀(L:List Yb) (S:(Int×Int)×BA×Bool),S.2.1.size<=1000->(L.foldl (XH n k all) S).2.1.size<=1000
 | [],_,h=>h
 |_::L,_,h=>y9 B L _ (Jjs B h)
theorem RA (r:Nat)(W:World):ag Tryz.prog 73 #[.int .i32 (r:Int)] W fun e w'=>e=.returned (.bool (!Xr r))/\w'=W:=by
 have key:∀b,Xr r=b->Hid ((!Xr r)=(!b)):=fun b h=>by show _=_;rw[h]
 rcases(show(97<=r/\r<=122)∨(48<=r/\r<=57)∨r=45∨122<r∨(57<r/\r<97)∨(r<48/\r≠45) by omega)with B|B|B|B|B|B
 ·have D:=key ai (by simp[Xr,B]);obtain⟨I,J⟩:=B;have H:decide ((r:Int)<97)=false:=decide_eq_false (by omega);have d2:decide (122<(r:Int))=false:=decide_eq_false (by omega);rw[D.out];clear key;go_enter Tryz.func73,Tryz.ntmps73;go_wp2;go_ret;exact⟨rfl,rfl⟩
 ·have D:=key ai (by simp[Xr,B]);obtain⟨I,J⟩:=B;have H:=decide_eq_true (by omega);have K:decide ((r:Int)<48)=false:=decide_eq_false (by omega);have O:decide (57<(r:Int))=false:=decide_eq_false (by omega);rw[D.out];clear key;go_enter Tryz.func73,Tryz.ntmps73;go_wp2;go_ret;exact⟨rfl,rfl⟩
 ·have D:=key ai (by simp[Xr,B]);subst B;rw[D.out];clear key;go_enter Tryz.func73,Tryz.ntmps73;go_wp2;go_ret;exact⟨rfl,rfl⟩
 ·have D:=key F (by unfold Xr;rw[decide_eq_false (by omega),decide_eq_false (by omega),decide_eq_false (by omega)];rfl);have H:decide ((r:Int)<97)=false:=decide_eq_false (by omega);have d2:=decide_eq_true (by omega);have K:decide ((r:Int)<48)=false:=decide_eq_false (by omega);have O:=decide_eq_true (by omega);have U:((r:Int) !=45)=true:=by rw[bne_iff_ne];omega
  have Z:((r:Int)==45)=false:=by rw[beq_eq_false_iff_ne];omega
  rw[D.out];clear key;go_enter Tryz.func73,Tryz.ntmps73;go_wp2;go_ret;exact⟨rfl,rfl⟩
 ·have D:=key F (by unfold Xr;rw[decide_eq_false (by omega),decide_eq_false (by omega),decide_eq_false (by omega)];rfl);obtain⟨I,J⟩:=B;have H:=decide_eq_true (by omega);have K:decide ((r:Int)<48)=false:=decide_eq_false (by omega);have O:=decide_eq_true (by omega);have U:((r:Int) !=45)=true:=by rw[bne_iff_ne];omega
  have Z:((r:Int)==45)=false:=by rw[beq_eq_false_iff_ne];omega
  rw[D.out];clear key;go_enter Tryz.func73,Tryz.ntmps73;go_wp2;go_ret;exact⟨rfl,rfl⟩
 ·have D:=key F (by unfold Xr;rw[decide_eq_false (by omega),decide_eq_false (by omega),decide_eq_false (by omega)];rfl);obtain⟨I,J⟩:=B;have H:=decide_eq_true (by omega);have K:=decide_eq_true (by omega);have U:((r:Int) !=45)=true:=by rw[bne_iff_ne];omega
  have Z:((r:Int)==45)=false:=by rw[beq_eq_false_iff_ne];omega
  rw[D.out];clear key;go_enter Tryz.func73,Tryz.ntmps73;go_wp2;go_ret;exact⟨rfl,rfl⟩
theorem AE (s:BA):∀(f i:Nat),s.size<=i+f->(decide (0<=Lib.idxFuncFrom (fun r=>!Xr r) ai s f i)=ai↔∃j,i<=j/\j<s.size/\Xr (Gf.nth (Zj s) j)=F)
 |0,i,h=>by
  constructor
  ·intro D;have H:=D;cases H
  ·rintro⟨j,D,H,_⟩;omega
 |f+1,i,h=>by
  show decide (0<=(if i<s.size then(if(!Xr (Utf8.decode s i).1)=ai then(i:Int)else Lib.idxFuncFrom (fun r=>!Xr r) ai s f (i+(Utf8.decode s i).2))else -1))=ai↔_;by_cases B:i<s.size
  ·rw[if_pos B];by_cases K:(s[i]'B).toNat<128
   ·rw[decode_ascii s i B K,<-uD s i B];have ih:=AE s f (i+1) (by omega);cases J:Xr (Gf.nth (Zj s) i)with
    |false =>
     rw[if_pos (by rfl)];exact⟨fun _=>⟨i,ax _,B,J⟩,fun _=>decide_eq_true (by omega)⟩
    |true =>
     rw[if_neg (by simp),ih];constructor
     ·rintro⟨j,D,H,I⟩;exact⟨j,by omega,H,I⟩
     ·rintro⟨j,D,H,I⟩;refine⟨j,?_,H,I⟩;by_cases e:j=i
      ·rw[e,J]at I;cases I
      ·omega
   ·have D:=(decode_high s i B (by omega)).1;have J:Xr (Utf8.decode s i).1=false:=by
     unfold Xr;rw[decide_eq_false (by omega),decide_eq_false (by omega),decide_eq_false (by omega)];rfl
    have O:Xr (Gf.nth (Zj s) i)=false:=by
     rw[uD s i B];unfold Xr;rw[decide_eq_false (by omega),decide_eq_false (by omega),decide_eq_false (by omega)];rfl
    rw[J,if_pos (by rfl)];exact⟨fun _=>⟨i,ax _,B,O⟩,fun _=>decide_eq_true (by omega)⟩
  ·rw[if_neg B];constructor
   ·intro D;cases D
   ·rintro⟨j,D,H,_⟩;omega
theorem U7 (s:BA):decide (0<=Lib.idxFunc (fun r=>!Xr r) ai s)=!((Zj s).all Xr):=by
 have h:=AE s s.size 0 (by omega);cases D:(Zj s).all Xr with
 |true =>
  rw[show(!ai)=F from rfl,ae];intro I;obtain⟨j,_,B,J⟩:=h.1 I;have H:j<(Zj s).length:=by rw[tZ];exact B
  rw[List.all_eq_true]at D;have:=D (Gf.nth (Zj s) j) (by rw[Gf.aK _ j H];exact List.getElem_mem H);rw[J]at this;cases this
 |false =>
  obtain⟨x,K,O⟩:=List.all_eq_false.1 D;obtain⟨j,B,rfl⟩:=List.getElem_of_mem K;refine h.2 ⟨j,an _,by rw[tZ]at B;exact B,?_⟩;rw[Gf.aK _ j B];exact ae.2 O
theorem qF (s:BA)(w:World):ag Tryz.prog 49 #[.string s] w fun e w'=>e=.returned (.bool (Jo s))/\af w.heap.size w w':=by
 by_cases U:s.size<1
 ·have B:Hid (Jo s=F):=CT (by omega);have I:decide (1<=(s.size:Int))=false:=decide_eq_false (by omega);rw[B.out];go_enter Tryz.func49,Tryz.ntmps49;go_wp2;go_ret;exact⟨rfl,Below.refl _ _⟩
 have I:=decide_eq_true (by omega);by_cases Z:16<s.size
 ·have B:Hid (Jo s=F):=CT (by omega);have J:=decide_eq_false (by omega);rw[B.out];go_enter Tryz.func49,Tryz.ntmps49;go_wp2;go_ret;exact⟨rfl,Below.refl _ _⟩
 have J:=decide_eq_true (by omega);have D:=Tryz.strings_ContainsFunc 73 #[] (enters_of Tryz.func73 (by kernel_rfl) rfl) (fun r=>!Xr r) s w (fun W r _=>by
  unfold FnGives;exact(RA r W).mono fun _ _ ⟨K,O⟩=>⟨K,0,O⟩)
 rw[U7]at D;have B:Hid (Jo s=(Zj s).all Xr):=by show _=_;unfold Jo;rw[decide_eq_true ⟨by omega,by omega⟩,Bool.true_and]
 rw[B.out];generalize (Zj s).all Xr=r at *;clear B;go_enter Tryz.func49,Tryz.ntmps49;go_wp2_with fail
 refine D.mono ?_;rintro e w1 ⟨rfl,H⟩;clear D;cases r with
 |true =>
  go_wp2;go_ret;exact⟨rfl,H⟩
 |false =>
  go_wp2;go_ret;exact⟨rfl,H⟩
theorem P3 (p:Option aA)(l:List BA)(c:Nat)(s:BA)(w:World)(hl:l.length<=1000000)(K:Xi w p l)(h:s∉l):
 ag Tryz.prog 74 #[.slice p l.length c,.string s] w fun e w'=>e=.returned (.int .i64 (-1))/\w'=w:=by
 have I:Hid (s∉l):=h;clear h;go_enter Tryz.func74,Tryz.ntmps74;go_wp2
 go_loop [8] (fun x=>∃i:Nat,i<=l.length/\x=.int .i64 i) (fun x=>l.length-(intOf x).toNat)
 case atStart=>exact⟨0,an _,rfl⟩
 case round =>
  obtain⟨i,O,rfl⟩:=hrel;by_cases B:i<l.length
  ·rcases K with J|⟨b,o,rfl,U,H⟩
   ·rw[J]at B;exact absurd B (ah _)
   have Z:=H i B;have D:Yc l i≠s:=fun e=>I.out (e▸oQ B)
   have h1:=XT (Ne.symm D);have h2:=YT (Ne.symm D);have h3:=Y8 (Ne.symm D);clear D H;generalize Yc l i=t at *;go_wp2
   go_round
   case rel=>exact⟨i+1,by omega,by go_num⟩
   case measure=>simp[intOf];omega
  ·go_wp2;go_ret;exact⟨rfl,rfl⟩
theorem SY (p:Option aA)(l:List BA)(c:Nat)(s:BA)(w:World)(hl:l.length<=1000000)(hs:Xi w p l)(h:s∈l):
 ag Tryz.prog 74 #[.slice p l.length c,.string s] w fun e w'=>e=.returned (.int .i64 ((ZJ l s:Nat):Int))/\w'=w:=by
 have Z:Hid (s∈l):=h;clear h;go_enter Tryz.func74,Tryz.ntmps74;go_wp2
 go_loop [8] (fun x=>∃i:Nat,i<=l.length/\x=.int .i64 i/\∀j,j<i->Yc l j≠s) (fun x=>l.length-(intOf x).toNat)
 case atStart=>exact⟨0,an _,rfl,fun j H=>absurd H (ah _)⟩
 case round =>
  obtain⟨i,hi,rfl,J⟩:=hrel;have I:Hid (∀j,j<i->Yc l j≠s):=J;clear J;have D:i<l.length:=by
   rcases za i l.length with h|h
   ·exact h
   ·obtain⟨j,H,e⟩:=tF Z.out;exact absurd e (I.out j (by omega))
  rcases hs with h0|⟨b,o,rfl,a0,K⟩
  ·rw[h0]at D;exact absurd D (ah _)
  have q1:=K i D;have O:Hid (Yc l i=Yc l i):=by show _=_;rfl
  clear K;by_cases B:Yc l i=s
  ·have HI:Hid (ZJ l s=i):=DQ D B I.out;rw[B]at q1;clear B O;go_wp2;go_ret;exact⟨by rw[HI.out];rfl,rfl⟩
  ·have HN:Hid (Yc l i≠s):=B;have h1:=XT (Ne.symm B);have h2:=YT (Ne.symm B);have h3:=Y8 (Ne.symm B);clear B O;generalize U:Yc l i=t at *;have HT:Hid (Yc l i=t):=U;clear U;go_wp2
   go_round
   case rel=>exact⟨i+1,by omega,by go_num,fun j H=>by
    rcases za j i with h|h
    ·exact I.out j h
    ·obtain rfl:j=i:=by omega
     rw[HT.out];exact HN.out⟩
   case measure=>simp[intOf];omega
theorem vN (p:Option aA)(l:List BA)(c:Nat)(s:BA)(w:World)(K:l.length<=1000000)(H:Xi w p l):
 ag Tryz.prog 50 #[.slice p l.length c,.string s] w fun e w'=>e=.returned (.bool (Xu l s))/\w'=w:=by
 by_cases h:s∈l
 ·have I:Hid (Xu l s=ai):=Zl.2 h;have B:=SY p l c s w K H h;rw[I.out];clear h H;generalize ZJ l s=k at *;go_enter Tryz.func50,Tryz.ntmps50;go_wp2_with fail
  refine B.mono ?_;rintro e J ⟨rfl,D⟩;rw[D];clear D J B;go_wp2;go_ret;exact⟨rfl,rfl⟩
 ·have I:Hid (Xu l s=F):=ae.2 fun O=>h (Zl.1 O)
  have B:=P3 p l c s w K H h;rw[I.out];clear h H;go_enter Tryz.func50,Tryz.ntmps50;go_wp2_with fail
  refine B.mono ?_;rintro e J ⟨rfl,D⟩;rw[D];clear D J B;go_wp2;go_ret;exact⟨rfl,rfl⟩
structure E3 (w:World) (ad:Nat->aA):Prop where
 c1:w.cell? ⟨4,0,N⟩=aa (.iface 335 (.pointer (aa (ad 1))))
 c3:w.cell? ⟨6,0,N⟩=aa (.iface 335 (.pointer (aa (ad 3))))
 c5:w.cell? ⟨2,0,N⟩=aa (.iface 335 (.pointer (aa (ad 5))))
theorem E3.below (h:E3 w ad)(B:af w.heap.size w w'):E3 w' ad:=⟨(B.cell (Yl h.c1)).trans h.c1,(B.cell (Yl h.c3)).trans h.c3,(B.cell (Yl h.c5)).trans h.c5⟩
theorem zP {t:TypeId}(i:Nat)(B:i<12)(at_:Int)(D:w'=w.alloc (.cells #[.int .i64 at_,.iface 335 (.pointer (aa (ad i)))] t)):Jd w' ad (.iface 75 (.pointer (aa ⟨w.heap.size,0,N⟩))) ((i+1:Nat):Int) at_:=by
 subst D;refine Or.inr (Or.inr ⟨i,w.heap.size,B,rfl,rfl,?_,?_⟩)
 ·rw[World.cell?_alloc_at _ _ _ _ rfl];rfl
 ·rw[World.cell?_alloc_at _ _ _ _ rfl];rfl
theorem SA (ad:Nat->aA)(p:Option aA)(l:List BA)(c:Nat)(w:World)(O:l.length<=1000)(H:E3 w ad)(h:l.length<1∨16<l.length):
 ag Tryz.prog 28 #[.slice p l.length c] w fun e w'=>(∃B,e=.returned B/\Jd w' ad B 2 (-1))/\af w.heap.size w w':=by
 have J:=H.c1;have D:Hid (∀W,Jd W ad (.iface 335 (.pointer (aa (ad 1)))) 2 (-1)):=fun W=>Jd.b8 1 (by decide)
 clear H;rcases h with h|h
 ·have I:decide ((l.length:Int)<1)=true:=decide_eq_true (by omega);go_enter Tryz.func28,Tryz.ntmps28;go_wp2;go_ret;exact⟨⟨_,rfl,D.out _⟩,Below.refl _ _⟩
 ·have I:decide ((l.length:Int)<1)=false:=decide_eq_false (by omega);have K:=decide_eq_true (by omega);go_enter Tryz.func28,Tryz.ntmps28;go_wp2;go_ret;exact⟨⟨_,rfl,D.out _⟩,Below.refl _ _⟩
theorem MA (ad:Nat->aA)(p:Option aA)(l:List BA)(c:Nat)(w:World)(h1:¬l.length<1)(h2:¬16<l.length)(hc:l.length<=c)(hs:Xi w p l)(hE:E3 w ad):
 ag Tryz.prog 28 #[.slice p l.length c] w fun e w'=>(∃ev,e=.returned ev/\Jd w' ad ev (XO l 0 l.length).1 (XO l 0 l.length).2)/\af w.heap.size w w':=by
 have HS:Hid (Xi w p l):=hs;have HE:Hid _:=hE;have g1:=decide_eq_false (by omega);have g2:=decide_eq_false (by omega);obtain⟨b,o,rfl⟩:∃b o,p=aa ⟨b,o,N⟩:=by
  rcases hs with h0|⟨b,o,hp,_⟩
  ·rw[h0]at h1;exact absurd (by decide) h1
  ·exact⟨b,o,hp⟩
 clear hs hE;obtain⟨R,hR⟩:=Xb (XO l 0 l.length);rw[<-hR];have HR:Hid _:=hR;clear hR;go_enter Tryz.func28,Tryz.ntmps28;go_wp2;go_loopw [16] (fun x wq=>∃i:Nat,i<=l.length/\x=.int .i64 i/\XO l i (l.length-i)=R/\af w.heap.size w wq) (fun x _=>l.length-(intOf x).toNat)
 case atStart=>exact⟨0,an _,rfl,HR.out.symm,Below.refl _ _⟩
 case round =>
  obtain⟨i,hi,rfl,a9,a5⟩:=hrel;obtain⟨w1,rfl⟩:=Xb wr;have H:Hid _:=a9;have J:Hid _:=a5;have a6:Hid (Xi w1 (aa ⟨b,o,N⟩) l):=HS.out.below a5;have b0:Hid (E3 w1 ad):=HE.out.below a5;clear a9 a5 HR HS HE;by_cases a7:i<l.length
  ·have q3:w1.cell? ⟨b,o+i,N⟩=aa (.string (Yc l i)):=by
    rcases a6.out with h0|⟨b',o',hp,_,b1⟩
    ·rw[h0]at a7;exact absurd a7 (ah _)
    ·obtain⟨rfl,rfl⟩:b=b'/\o=o':=by simpa using hp
     exact b1 i a7
   have I:Hid (∀W,ag Tryz.prog 49 #[.string (Yc l i)] W fun e w'=>e=.returned (.bool (Jo (Yc l i)))/\af W.heap.size W w'):=fun W=>qF _ W
   have a0:Hid (XO l i (l.length-i)=if Yu l i=0 then XO l (i+1) (l.length-(i+1))else(((Yu l i:Nat):Int),(i:Int))):=by
    show _=_;rw[show l.length-i=(l.length-(i+1))+1 by omega];rfl
   by_cases K:Jo (Yc l i)=ai
   ·have O:Hid (∀W,Xi W (aa ⟨b,o,N⟩) (l.take i)->ag Tryz.prog 50 #[.slice (aa ⟨b,o,N⟩) (l.take i).length c,.string (Yc l i)] W fun e w'=>e=.returned (.bool (Xu (l.take i) (Yc l i)))/\w'=W):=fun W hW=>vN _ _ c _ W (by rw[aw];omega) hW
    rw[show(l.take i).length=i by rw[aw];omega]at O;rw[K]at I;by_cases hM:Yc l i∈l.take i
    ·have U:Hid (R=(6,(i:Int))):=by
      show _=_;rw[<-H.out,a0.out,TL K hM,if_neg (by decide)];rfl
     rw[Zl.2 hM]at O;clear H a0 K hM;generalize Yc l i=t at *;go_wp2_with fail
     refine(I.out _).mono ?_;rintro e D ⟨rfl,B⟩;have Z:Hid (af w.heap.size w D):=J.out.trans (B.mono J.out.size);have a2:Hid (Xi D (aa ⟨b,o,N⟩) (l.take i)):=(a6.out.below B).take i;have a3:E3 D ad:=b0.out.below B;have q4:=a3.c5;clear a3 B I q3;go_wp2_with fail
     refine(O.out _ a2.out).mono ?_;rintro e w3 ⟨rfl,a4⟩;rw[a4];clear a4 w3 O a2;go_wp2;go_ret;exact⟨⟨_,rfl,by rw[U.out];exact zP (w:=D) 5 (by decide) (i:Int) rfl⟩,Z.out.alloc Z.out.size _⟩
    ·have U:Hid (XO l (i+1) (l.length-(i+1))=R):=by
      show _=_;rw[<-H.out,a0.out,ET K hM,if_pos rfl]
     rw[ae.2 (fun h=>hM (Zl.1 h))]at O;clear H a0 K hM;generalize Yc l i=t at *;go_wp2_with fail
     refine(I.out _).mono ?_;rintro e D ⟨rfl,B⟩;have Z:Hid (af w.heap.size w D):=J.out.trans (B.mono J.out.size);have a2:Hid (Xi D (aa ⟨b,o,N⟩) (l.take i)):=(a6.out.below B).take i;clear B I q3;go_wp2_with fail
     refine(O.out _ a2.out).mono ?_;rintro e w3 ⟨rfl,a4⟩;rw[a4];clear a4 w3 O a2;go_wp2;go_roundw
     case rel=>exact⟨i+1,by omega,by go_num,U.out,Z.out⟩
     case measure=>simp[intOf];omega
   ·have a8:Jo (Yc l i)=false:=ae.2 K;have U:Hid (R=(4,(i:Int))):=by
     show _=_;rw[<-H.out,a0.out,Jj1 a8,if_neg (by decide)];rfl
    rw[a8]at I;clear H a0 K a8;generalize Yc l i=t at *;go_wp2_with fail
    refine(I.out _).mono ?_;rintro e D ⟨rfl,B⟩;have Z:Hid (af w.heap.size w D):=J.out.trans (B.mono J.out.size);have a3:E3 D ad:=b0.out.below B;have q4:=a3.c3;clear a3 B I q3;go_wp2;go_ret;exact⟨⟨_,rfl,by rw[U.out];exact zP (w:=D) 3 (by decide) (i:Int) rfl⟩,Z.out.alloc Z.out.size _⟩
  ·have b2:i=l.length:=by omega
   subst b2;have U:Hid (R=(0,-1)):=by
    show _=_;rw[<-H.out,ar];rfl
   clear H;go_wp2;go_ret;exact⟨⟨_,rfl,by rw[U.out];exact Jd.nil _ _⟩,J.out⟩
theorem IF (ad:Nat->aA)(p:Option aA)(l:List BA)(c:Nat)(w:World)(H:l.length<=1000)(I:l.length<=c)(J:Xi w p l)(D:E3 w ad):
 ag Tryz.prog 28 #[.slice p l.length c] w fun e w'=>(∃B,e=.returned B/\Jd w' ad B (Xj l).1 (Xj l).2)/\af w.heap.size w w':=by
 by_cases h:l.length<1∨16<l.length
 ·rw[E7 h];exact SA ad p l c w H D h
 ·rw[AB (by omega) (by omega)];exact MA ad p l c w (by omega) (by omega) I J D
theorem Xs (t:BA)(w:World)(J:t.size<=140737488351232):ag Tryz.prog 24 #[.string t] w fun e w'=>e=.returned (.string t)/\af w.heap.size w w':=by
 have D:Hid (∀W,ag Tryz.prog 46 #[.string t] W fun e w'=>e=.returned (.string t)/\af W.heap.size W w'):=fun W=>Tryz.stringslite_Clone t W (by omega)
 go_enter Tryz.func24,Tryz.ntmps24;go_wp2_with fail
 refine(D.out _).mono ?_;rintro e H ⟨rfl,B⟩;have I:Hid (af w.heap.size w H):=B;clear B;go_wp2;go_ret;exact⟨rfl,I.out⟩
section
variable {w w':World} {B:Nat} {S:Nat->Prop} {ab:Nat} {a:Za} {mv nv fv lv:am} {vs:List am}
def lT (w:World)(D:List am)(LL:List (List Yb)):Prop:=D.length=LL.length/\∀i,i<LL.length->∃q c,D[i]?=aa (.slice q (LL.getD i []).length c)/\Ql Ze w q (LL.getD i [])/\(LL.getD i []).length<=c/\(q=N->LL.getD i []=[]/\c=0)
theorem lT.snoc {w:World}{H:List am}{row:List Yb}{q:Option aA}{c:Nat}(h:lT w H LL)(h2:Ql Ze w q row)(h3:row.length<=c)(h4:q=N->row=[]/\c=0):lT w (H++ [.slice q row.length c]) (LL++ [row]):=by
 refine⟨by simp[h.1],fun i I=>?_⟩;rw[ap,List.length_singleton]at I;by_cases D:i<LL.length
 ·obtain⟨J,K,O,U,Z,g4⟩:=h.2 i D;have e:(LL++ [row]).getD i []=LL.getD i []:=by rw[ac,ac,ak D]
  rw[e];exact⟨J,K,by rw[ak (by rw[h.1];exact D)];exact O,U,Z,g4⟩
 ·obtain rfl:i=LL.length:=by omega
  have e:(LL++ [row]).getD LL.length []=row:=by rw[ac,aj nR,ar];rfl
  rw[e];exact⟨q,c,by rw[aj (by rw[h.1];exact ax _),h.1,ar];rfl,h2,h3,h4⟩
theorem lT.wO {w w':World}{B:Nat}{T:TypeId}{v:am}{D:List am}(h:lT w D LL)(hb:af w.heap.size w w')(ho:JM w' B T v D):∃p c,v=.slice p LL.length c/\eU w' p LL:=by
 rcases ho.cells with⟨rfl,rfl⟩|⟨g,cap,rfl,hB,H,I⟩
 ·have:LL=[]:=List.length_eq_zero_iff.1 h.1.symm;subst this;exact⟨N,0,rfl,Or.inl rfl⟩
 ·refine⟨aa ⟨g,0,N⟩,cap,by rw[h.1],Or.inr ⟨g,0,rfl,H,fun i J=>?_⟩⟩;obtain⟨q,c,K,O,U,Z⟩:=h.2 i J;exact⟨q,c,by rw[Nat.zero_add];exact I i _ K,O.below hb,U,Z⟩
end
end Go.Proofs.YtfgapcknnoeplaaGreatDoor
