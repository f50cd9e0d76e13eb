/- Texts laid together. -/
import Derived.Test.YtgapmoniajcliaaGreatDoorV5
import Derived.Shelf.LaysM
import Derived.Shelf.Strconv.Clone
import Derived.Shelf.Strconv.Itoa3
import Derived.Shelf.GgClosure.StringsIndexFuncTop
import Derived.Shelf.SlSortCmp.WholeK
import Derived.Shelf.SlicesQ.IndexFunc
import Derived.Laws.RangeAny
import Derived.Shelf.SlLaysE0
import Derived.Shelf.SlicesE.Clone
set_option maxRecDepth 10000
set_option maxHeartbeats 4000000
open List renaming getD_eq_getElem?_getD->aa,getElem?_eq_getElem->ae,take_succ_eq_append_getElem->ag,length_map->ah,length_append->aj,getElem?_append_right->ao,length_take->aq,getElem?_append_left->ar,flatten_append->au,map_append->av,flatten_cons->ax,findIdx_lt_length_of_exists->ay,getElem_mem->az,getElem?_eq_some_iff->za,any_eq_false->zb,mem_cons->aJ,map_cons->zc,mem_map->aS,getElem_of_mem->zh,findIdx_append->aY,take_add_one->ba,getElem?_map->bb,foldl_append->bc,getElem_map->bf,nodup_cons->bh,range->bj,nodup_nil->zj,sum_cons->bq
open Option renaming some->ac,none->N
open Go.Value renaming string->af,ownBlock->bm
open Bool renaming true->ai,false->am,eq_false_iff->an
open Nat renaming not_lt_zero->ak,le_refl->aw,lt_of_lt_of_le->aC,sub_self->zd,le_trans->aR,zero_le->zg,zero_add->bv,lt_or_ge->bw
open Go renaming Value->al,Calls->aA,Addr->aO,wpList->bA,callFunc->zm
open Go.RowKit renaming Below->ap
open Or renaming inr->aB,inl->be
open Prod renaming fst->aN
namespace Go.Proofs
open Go.Shelf
def Tryz.lays316_ren : Go.Shelf.Ren := ⟨fun | 316 => 35 | n => n, fun | 9 => 9 | 3 => 3 | 4 => 4 | 37 => 116 | 0 => 0 | 127 => 117 | 5 => 5 | n => n, fun | n => n⟩
theorem Tryz.lays316 : Go.Proofs.LaysM.n316 Tryz.prog Tryz.lays316_ren := {
 mixed:=by kernel_rfl
 f316:=Tryz.func35.trans (congrArg ac (by kernel_rfl))
 t0:=Tryz.underlying0
 a0:=Tryz.isAgg0
 z0:=Tryz.sizeOf0
 v0:=Tryz.zeroValue0
 t3:=Tryz.underlying3
 a3:=Tryz.isAgg3
 z3:=Tryz.sizeOf3
 v3:=Tryz.zeroValue3
 t4:=Tryz.underlying4
 a4:=Tryz.isAgg4
 z4:=Tryz.sizeOf4
 v4:=Tryz.zeroValue4
 t9:=Tryz.underlying9
 a9:=Tryz.isAgg9
 z9:=Tryz.sizeOf9
 v9:=Tryz.zeroValue9
 t37:=Tryz.underlying116
 a37:=Tryz.isAgg116
 z37:=Tryz.sizeOf116
 v37:=Tryz.zeroValue116
 t127:=Tryz.underlying117
 a127:=Tryz.isAgg117
 z127:=Tryz.sizeOf117
 v127:=Tryz.zeroValue117
 t5:=Tryz.underlying5
 a5:=Tryz.isAgg5
 z5:=Tryz.sizeOf5
 v5:=Tryz.zeroValue5
 i0:=by kernel_rfl
 i3:=by kernel_rfl
 i4:=by kernel_rfl
 i5:=by kernel_rfl
 i9:=by kernel_rfl
 i37:=by kernel_rfl
 i127:=by kernel_rfl }
open Go.RowKit in
/-- internal/stringslite.Clone. -/
theorem Tryz.stringslite_Clone (s : ByteArray) (w : World) (hlim : s.size ≤ 281474976710656) :
 aA Tryz.prog 35 #[.string s] w fun e w' => e = .returned (.string s) ∧ ap w.heap.size w w':=Any.stringslite_Clone Tryz.lays316 s w hlim
def Tryz.lays171_ren : Go.Shelf.Ren := ⟨fun | 171 => 81 | 243 => 109 | 246 => 135 | 283 => 165 | 284 => 166 | 285 => 167 | 286 => 168 | 129 => 162 | 317 => 192 | 318 => 193 | 319 => 194 | 320 => 195 | 337 => 208 | 338 => 209 | n => n, fun | 3 => 3 | 9 => 9 | 2 => 2 | 4 => 4 | 171 => 244 | 0 => 0 | 53 => 241 | 37 => 116 | 5 => 5 | 173 => 246 | 212 => 266 | 51 => 149 | 20 => 20 | 213 => 267 | 46 => 206 | 232 => 284 | 233 => 285 | n => n, fun | 17 => 10 | 18 => 11 | 19 => 12 | n => n⟩
theorem Tryz.lays171 : Go.Proofs.Lays.n171 Tryz.prog Tryz.lays171_ren := {
 mixed:=by kernel_rfl
 f129:=Tryz.func162.trans (congrArg ac (by kernel_rfl))
 f171:=Tryz.func81.trans (congrArg ac (by kernel_rfl))
 f243:=Tryz.func109.trans (congrArg ac (by kernel_rfl))
 f246:=Tryz.func135.trans (congrArg ac (by kernel_rfl))
 f283:=Tryz.func165.trans (congrArg ac (by kernel_rfl))
 f284:=Tryz.func166.trans (congrArg ac (by kernel_rfl))
 f285:=Tryz.func167.trans (congrArg ac (by kernel_rfl))
 f286:=Tryz.func168.trans (congrArg ac (by kernel_rfl))
 f317:=Tryz.func192.trans (congrArg ac (by kernel_rfl))
 f318:=Tryz.func193.trans (congrArg ac (by kernel_rfl))
 f319:=Tryz.func194.trans (congrArg ac (by kernel_rfl))
 f320:=Tryz.func195.trans (congrArg ac (by kernel_rfl))
 f337:=Tryz.func208.trans (congrArg ac (by kernel_rfl))
 f338:=Tryz.func209.trans (congrArg ac (by kernel_rfl))
 t0:=Tryz.underlying0
 a0:=Tryz.isAgg0
 z0:=Tryz.sizeOf0
 v0:=Tryz.zeroValue0
 t2:=Tryz.underlying2
 a2:=Tryz.isAgg2
 z2:=Tryz.sizeOf2
 v2:=Tryz.zeroValue2
 t3:=Tryz.underlying3
 a3:=Tryz.isAgg3
 z3:=Tryz.sizeOf3
 v3:=Tryz.zeroValue3
 t4:=Tryz.underlying4
 a4:=Tryz.isAgg4
 z4:=Tryz.sizeOf4
 v4:=Tryz.zeroValue4
 t5:=Tryz.underlying5
 a5:=Tryz.isAgg5
 z5:=Tryz.sizeOf5
 v5:=Tryz.zeroValue5
 t9:=Tryz.underlying9
 a9:=Tryz.isAgg9
 z9:=Tryz.sizeOf9
 v9:=Tryz.zeroValue9
 t20:=Tryz.underlying20
 a20:=Tryz.isAgg20
 z20:=Tryz.sizeOf20
 v20:=Tryz.zeroValue20
 t37:=Tryz.underlying116
 a37:=Tryz.isAgg116
 z37:=Tryz.sizeOf116
 v37:=Tryz.zeroValue116
 t46:=Tryz.underlying206
 a46:=Tryz.isAgg206
 z46:=Tryz.sizeOf206
 v46:=Tryz.zeroValue206
 t51:=Tryz.underlying149
 a51:=Tryz.isAgg149
 z51:=Tryz.sizeOf149
 v51:=Tryz.zeroValue149
 t53:=Tryz.underlying241
 a53:=Tryz.isAgg241
 z53:=Tryz.sizeOf241
 v53:=Tryz.zeroValue241
 t171:=Tryz.underlying244
 a171:=Tryz.isAgg244
 z171:=Tryz.sizeOf244
 v171:=Tryz.zeroValue244
 t173:=Tryz.underlying246
 a173:=Tryz.isAgg246
 z173:=Tryz.sizeOf246
 v173:=Tryz.zeroValue246
 t212:=Tryz.underlying266
 a212:=Tryz.isAgg266
 z212:=Tryz.sizeOf266
 v212:=Tryz.zeroValue266
 t213:=Tryz.underlying267
 a213:=Tryz.isAgg267
 z213:=Tryz.sizeOf267
 t232:=Tryz.underlying284
 a232:=Tryz.isAgg284
 z232:=Tryz.sizeOf284
 v232:=Tryz.zeroValue284
 t233:=Tryz.underlying285
 a233:=Tryz.isAgg285
 z233:=Tryz.sizeOf285
 v233:=Tryz.zeroValue285
 g17:=by kernel_rfl
 g18:=by kernel_rfl
 g19:=by kernel_rfl }
open Go.RowKit in
/-- strconv.Itoa of a small number. -/
theorem Tryz.strconv_Itoa_small (i : Nat) (hi : i < 100) (w : World) :
 aA Tryz.prog 81 #[.int .i64 i] w fun e w' => e = .returned (.string ⟨(Lib.decDigits i).toArray⟩) ∧ w' = w:=Any.strconv_Itoa_small Tryz.lays171 i hi w
def Tryz.laysGw17_ren : Go.Shelf.Ren := ⟨fun | 17 => 70 | 15 => 94 | 20 => 122 | n => n, fun | 9 => 9 | 23 => 144 | 4 => 4 | 3 => 3 | 0 => 0 | 21 => 21 | n => n, fun | n => n⟩
theorem Tryz.laysGw17 : Go.Proofs.LaysGw.n17 Tryz.prog Tryz.laysGw17_ren := {
 mixed:=by kernel_rfl
 f15:=Tryz.func94.trans (congrArg ac (by kernel_rfl))
 f17:=Tryz.func70.trans (congrArg ac (by kernel_rfl))
 f20:=Tryz.func122.trans (congrArg ac (by kernel_rfl))
 t0:=Tryz.underlying0
 a0:=Tryz.isAgg0
 z0:=Tryz.sizeOf0
 v0:=Tryz.zeroValue0
 i0:=by kernel_rfl
 t3:=Tryz.underlying3
 a3:=Tryz.isAgg3
 z3:=Tryz.sizeOf3
 v3:=Tryz.zeroValue3
 i3:=by kernel_rfl
 t4:=Tryz.underlying4
 a4:=Tryz.isAgg4
 z4:=Tryz.sizeOf4
 v4:=Tryz.zeroValue4
 i4:=by kernel_rfl
 t9:=Tryz.underlying9
 a9:=Tryz.isAgg9
 z9:=Tryz.sizeOf9
 v9:=Tryz.zeroValue9
 i9:=by kernel_rfl
 t21:=Tryz.underlying21
 a21:=Tryz.isAgg21
 z21:=Tryz.sizeOf21
 v21:=Tryz.zeroValue21
 i21:=by kernel_rfl
 t23:=Tryz.underlying144
 a23:=Tryz.isAgg144
 z23:=Tryz.sizeOf144
 v23:=Tryz.zeroValue144
 i23:=by kernel_rfl }
open Go.RowKit in
/-- strings.ContainsFunc. -/
theorem Tryz.strings_ContainsFunc (g : Nat) (lb : Array al) (eg : ∀ args w, (zm g args).run Tryz.prog w = .ok (.enter g args) w) (p : Nat → Bool) (s : ByteArray) (w : World) (hp : PredAt Tryz.prog g lb encR p w) :
 aA Tryz.prog 70 #[.string s, .func (.func g) #[] lb] w fun e w' => e = .returned (.bool (decide (0 ≤ Lib.idxFunc p ai s))) ∧ ap w.heap.size w w':=Any.strings_ContainsFunc Tryz.laysGw17 g lb eg p s w hp
def Tryz.laysF6_ren : Go.Shelf.Ren := ⟨fun | 6 => 95 | 15 => 124 | 14 => 123 | 28 => 161 | 29 => 162 | 20 => 153 | 21 => 154 | 22 => 155 | 23 => 156 | 24 => 157 | 25 => 158 | 26 => 159 | 27 => 160 | 46 => 186 | 47 => 187 | 48 => 188 | 49 => 189 | 50 => 190 | 57 => 207 | n => n, fun | 22 => 146 | 24 => 170 | 25 => 176 | 3 => 3 | 39 => 206 | 0 => 0 | 53 => 149 | 55 => 241 | 4 => 4 | 46 => 234 | 45 => 233 | 50 => 188 | 5 => 5 | 9 => 9 | 66 => 258 | 70 => 262 | 76 => 275 | 77 => 44 | n => n, fun | n => n⟩
theorem Tryz.laysF6 : Go.Proofs.SlLaysF0.n6 Tryz.prog Tryz.laysF6_ren := {
 mixed:=by kernel_rfl
 f6:=⟨Tryz.f95.name, by decide, Tryz.func95.trans (congrArg ac (by kernel_rfl))⟩
 f14:=⟨Tryz.f123.name, by decide, Tryz.func123.trans (congrArg ac (by kernel_rfl))⟩
 f15:=Tryz.func124.trans (congrArg ac (by kernel_rfl))
 f20:=⟨Tryz.f153.name, by decide, Tryz.func153.trans (congrArg ac (by kernel_rfl))⟩
 f21:=⟨Tryz.f154.name, by decide, Tryz.func154.trans (congrArg ac (by kernel_rfl))⟩
 f22:=⟨Tryz.f155.name, by decide, Tryz.func155.trans (congrArg ac (by kernel_rfl))⟩
 f23:=⟨Tryz.f156.name, by decide, Tryz.func156.trans (congrArg ac (by kernel_rfl))⟩
 f24:=⟨Tryz.f157.name, by decide, Tryz.func157.trans (congrArg ac (by kernel_rfl))⟩
 f25:=⟨Tryz.f158.name, by decide, Tryz.func158.trans (congrArg ac (by kernel_rfl))⟩
 f26:=⟨Tryz.f159.name, by decide, Tryz.func159.trans (congrArg ac (by kernel_rfl))⟩
 f27:=⟨Tryz.f160.name, by decide, Tryz.func160.trans (congrArg ac (by kernel_rfl))⟩
 f28:=Tryz.func161.trans (congrArg ac (by kernel_rfl))
 f29:=Tryz.func162.trans (congrArg ac (by kernel_rfl))
 f46:=⟨Tryz.f186.name, by decide, Tryz.func186.trans (congrArg ac (by kernel_rfl))⟩
 f47:=Tryz.func187.trans (congrArg ac (by kernel_rfl))
 f48:=Tryz.func188.trans (congrArg ac (by kernel_rfl))
 f49:=⟨Tryz.f189.name, by decide, Tryz.func189.trans (congrArg ac (by kernel_rfl))⟩
 f50:=⟨Tryz.f190.name, by decide, Tryz.func190.trans (congrArg ac (by kernel_rfl))⟩
 f57:=⟨Tryz.f207.name, by decide, Tryz.func207.trans (congrArg ac (by kernel_rfl))⟩
 t0:=Tryz.underlying0
 a0:=Tryz.isAgg0
 z0:=Tryz.sizeOf0
 v0:=Tryz.zeroValue0
 t3:=Tryz.underlying3
 a3:=Tryz.isAgg3
 z3:=Tryz.sizeOf3
 v3:=Tryz.zeroValue3
 t4:=Tryz.underlying4
 a4:=Tryz.isAgg4
 z4:=Tryz.sizeOf4
 v4:=Tryz.zeroValue4
 t5:=Tryz.underlying5
 a5:=Tryz.isAgg5
 z5:=Tryz.sizeOf5
 v5:=Tryz.zeroValue5
 t9:=Tryz.underlying9
 a9:=Tryz.isAgg9
 z9:=Tryz.sizeOf9
 v9:=Tryz.zeroValue9
 t22:=Tryz.underlying146
 a22:=Tryz.isAgg146
 z22:=Tryz.sizeOf146
 v22:=Tryz.zeroValue146
 t25:=Tryz.underlying176
 a25:=Tryz.isAgg176
 z25:=Tryz.sizeOf176
 v25:=Tryz.zeroValue176
 t39:=Tryz.underlying206
 a39:=Tryz.isAgg206
 z39:=Tryz.sizeOf206
 v39:=Tryz.zeroValue206
 t45:=Tryz.underlying233
 a45:=Tryz.isAgg233
 z45:=Tryz.sizeOf233
 v45:=Tryz.zeroValue233
 t46:=Tryz.underlying234
 a46:=Tryz.isAgg234
 z46:=Tryz.sizeOf234
 v46:=Tryz.zeroValue234
 t50:=Tryz.underlying188
 a50:=Tryz.isAgg188
 z50:=Tryz.sizeOf188
 v50:=Tryz.zeroValue188
 t53:=Tryz.underlying149
 a53:=Tryz.isAgg149
 z53:=Tryz.sizeOf149
 v53:=Tryz.zeroValue149
 t55:=Tryz.underlying241
 a55:=Tryz.isAgg241
 z55:=Tryz.sizeOf241
 v55:=Tryz.zeroValue241
 t66:=Tryz.underlying258
 a66:=Tryz.isAgg258
 z66:=Tryz.sizeOf258
 v66:=Tryz.zeroValue258
 t70:=Tryz.underlying262
 a70:=Tryz.isAgg262
 z70:=Tryz.sizeOf262
 v70:=Tryz.zeroValue262
 t76:=Tryz.underlying275
 a76:=Tryz.isAgg275
 z76:=Tryz.sizeOf275
 v76:=Tryz.zeroValue275
 t77:=Tryz.underlying44
 a77:=Tryz.isAgg44
 z77:=Tryz.sizeOf44
 v77:=Tryz.zeroValue44 }
open Go.RowKit Go.Sort in
/-- slices.SortFunc at points. -/
theorem Tryz.slices_SortFunc {α : Type} [Inhabited α] (k : Nat) (aE : ∀ w, (isAgg 170).run Tryz.prog w = .ok ai w) (zE : ∀ w, (Go.sizeOf 170).run Tryz.prog w = .ok k w) (enc : α → List al) (hk : ∀ x, (enc x).length = k) (h1 : ∀ x, ∀ v ∈ enc x, v.oneCell' = ai) (cf : α → α → Int) (hO : SWO (ltOf cf)) (g : Nat) (cb : Array al) (blk off cap : Nat) (d : Array α) (w : World)
    (eg : ∀ args w, (zm g args).run Tryz.prog w = .ok (.enter g args) w) (hcmp : CmpLays Tryz.prog g cb enc k cf blk off d.size w) (hH : HoldsK enc k w blk off d) (hblk : blk < w.heap.size) (hsz : d.size < 4611686018427387904) :
    aA Tryz.prog 95 #[.slice (ac ⟨blk, off, N⟩) d.size cap, .func (.func g) #[] cb] w fun e w' =>
 e = .returned (.tuple #[]) ∧ ∃ d' n os, PermIn 0 d.size d d' ∧ SortedIn (ltOf cf) 0 d.size d' ∧ w' = sortWorldK enc k w blk off n d' os:=AnyQ.slices_SortFunc Tryz.laysF6 k aE zE enc hk h1 cf hO g cb blk off cap d w eg hcmp hH hblk hsz
def Tryz.laysH6_ren : Go.Shelf.Ren := ⟨fun | 6 => 101 | n => n, fun | 22 => 146 | 23 => 170 | 25 => 178 | 3 => 3 | 0 => 0 | 4 => 4 | n => n, fun | n => n⟩
theorem Tryz.laysH6 : Go.Proofs.SlLaysH0.n6 Tryz.prog Tryz.laysH6_ren := {
 mixed:=by kernel_rfl
 f6:=⟨Tryz.f101.name, by decide, Tryz.func101.trans (congrArg ac (by kernel_rfl))⟩
 t0:=Tryz.underlying0
 a0:=Tryz.isAgg0
 z0:=Tryz.sizeOf0
 v0:=Tryz.zeroValue0
 t3:=Tryz.underlying3
 a3:=Tryz.isAgg3
 z3:=Tryz.sizeOf3
 v3:=Tryz.zeroValue3
 t4:=Tryz.underlying4
 a4:=Tryz.isAgg4
 z4:=Tryz.sizeOf4
 v4:=Tryz.zeroValue4
 t22:=Tryz.underlying146
 a22:=Tryz.isAgg146
 z22:=Tryz.sizeOf146
 v22:=Tryz.zeroValue146
 t25:=Tryz.underlying178
 a25:=Tryz.isAgg178
 z25:=Tryz.sizeOf178
 v25:=Tryz.zeroValue178 }
open Go.RowKit in
/-- slices.IndexFunc at points. -/
theorem Tryz.slices_IndexFunc {α : Type} [Inhabited α] (k : Nat) (aE : ∀ w, (isAgg 170).run Tryz.prog w = .ok ai w) (zE : ∀ w, (Go.sizeOf 170).run Tryz.prog w = .ok k w) (enc : α → List al) (hk : ∀ x, (enc x).length = k)
    (p : α → Bool) (g : Nat) (lb : Array al) (eg : ∀ args w, (zm g args).run Tryz.prog w = .ok (.enter g args) w) (b off n c : Nat) (zs : List α) (w : World)
    (hp : PredBelow Tryz.prog g lb (fun x => .agg (enc x).toArray) p w) (hz : n ≤ zs.length) (hbig : n ≤ 9223372036854775807) (hb : b < w.heap.size)
    (hc : ∀ j, j < zs.length → ∀ i v, (enc zs[j]!)[i]? = ac v → w.cell? ⟨b, off + j * k + i, N⟩ = ac v) :
 aA Tryz.prog 101 #[.slice (ac ⟨b, off, N⟩) n c, .func (.func g) #[] lb] w fun e w' => e = .returned (.int .i64 (Lib.idxBy (fun _ y => p y) (zs.take n) default)) ∧ ap w.heap.size w w':=AnyQ.slices_IndexFunc Tryz.laysH6 k aE zE enc hk p g lb eg b off n c zs w hp hz hbig hb hc
end Go.Proofs
namespace Go.Proofs
open Go.Shelf
def Tryz.laysClone_ren : Go.Shelf.Ren := ⟨fun | 41 => 69 | n => n, fun | 22 => 88 | 23 => 142 | 4 => 4 | n => n, fun | n => n⟩
theorem Tryz.laysClone : Go.Proofs.SlLaysE0.n41 Tryz.prog Tryz.laysClone_ren := {
 mixed:=by kernel_rfl
 f41:=⟨Tryz.f69.name, by decide, Tryz.func69.trans (congrArg ac (by kernel_rfl))⟩
 t4:=Tryz.underlying4
 a4:=Tryz.isAgg4
 z4:=Tryz.sizeOf4
 v4:=Tryz.zeroValue4
 t22:=Tryz.underlying88
 a22:=Tryz.isAgg88
 z22:=Tryz.sizeOf88
 v22:=Tryz.zeroValue88 }
open Go.RowKit in
/-- slices.Clone at versions. -/
theorem Tryz.slices_Clone (i0 : TypeInfo) (z : al) (size bytes : Nat) (hi : Tryz.prog.info? 142 = ac i0) (hz0 : i0.zero = ac z) (hz1 : i0.size = size) (hz2 : i0.bytes = bytes) (hzs : z.cells.size = size) (hsz : 0 < size)
    (z23 : ∀ w, (Go.sizeOf 142).run Tryz.prog w = .ok size w) (b off n c : Nat) (news : List al) (w : World) (hl : news.length = n * size) (hn : n ≤ maxLen) (hbig : n * bytes ≤ 140737488355328)
    (hc : ∀ j u, news[j]? = ac u → w.cell? ⟨b, off + j, N⟩ = ac u) (h1 : ∀ u ∈ news, u.oneCell' = ai) :
 aA Tryz.prog 69 #[.slice (ac ⟨b, off, N⟩) n c] w fun e w' => ∃ v', e = .returned v' ∧ w'.ownsRow w.heap.size 142 size v' n news ∧ v' ≠ .slice N 0 0 ∧ ap w.heap.size w w':=AnyE.slices_Clone Tryz.laysClone i0 z size bytes hi hz0 hz1 hz2 hzs hsz z23 b off n c news w hl hn hbig hc h1
end Go.Proofs
namespace Go.Proofs.YtgapmoniajcliaaGreatDoor
open Go.RowKit
variable {L l F:List BA}{Q:Exit->Act->World->Prop}{a:Act}{k i B H b c:Nat}{t T:TypeId}{S:(Int×Int)×BA×Bool}{all:List Yb}{v:al}{w w':World}{p q:Option aO}{LL:List (List Yb)}{ops:Array Oper}{rest:List Oper}{o:Oper}{ad:Nat->aO}{O O':Nat->Prop}{x y:BA}{m:Zb}
structure Xg where
 n:Int
 k:Int
 L:List BA
def Jg (c:Xg):Int×Int:=if 1<=c.k/\c.k<=c.n/\c.n<=12 then(if(c.L.length:Int)=c.n then Xj c.L else(3,-1))else(2,-1)
theorem vZ {c:Xg}(h:¬(1<=c.k/\c.k<=c.n/\c.n<=12)):Jg c=(2,-1):=if_neg h
theorem FM {c:Xg}(h:1<=c.k/\c.k<=c.n/\c.n<=12)(B:¬(c.L.length:Int)=c.n):Jg c=(3,-1):=by unfold Jg;rw[if_pos h,if_neg B]
theorem wU {c:Xg}(h:1<=c.k/\c.k<=c.n/\c.n<=12)(B:(c.L.length:Int)=c.n):Jg c=Xj c.L:=by unfold Jg;rw[if_pos h,if_pos B]
theorem Xm {c:Xg}(h:¬0<(Jg c).1):(1<=c.k/\c.k<=c.n/\c.n<=12)/\(c.L.length:Int)=c.n/\Jg c=(0,-1)/\(∀x∈c.L,Jo x=ai)/\c.L.Nodup:=by
 by_cases B:1<=c.k/\c.k<=c.n/\c.n<=12
 ·by_cases D:(c.L.length:Int)=c.n
  ·rw[wU B D]at h ⊢;have H:(Xj c.L).1<=0:=by omega
   exact⟨B,D,(QV H).1,(YP H).1,(YP H).2⟩
  ·rw[FM B D]at h;exact absurd (by decide) h
 ·rw[vZ B]at h;exact absurd (by decide) h
def Jh (c:Xg):Nat:=(c.n.toNat+c.k.toNat+1)/2
def wC (L a b:List BA):List BA:=L.filter fun x=>Xu a x&&Xu b x
theorem JkZ {P Q:BA->Bool}:(L.filter P).length+(L.filter Q).length<=(L.filter fun x=>P x&&Q x).length+L.length:=by
 induction L with
 |nil=>simp
 |cons x L ih =>
  simp only[List.filter_cons,List.length_cons];cases P x<;>cases Q x<;>simp<;>omega
theorem FG {a:List BA}(D:L.Nodup)(H:a.Nodup)(I:∀x∈a,x∈L):(L.filter fun x=>Xu a x).length=a.length:=by
 have B:(L.filter fun x=>Xu a x).Perm a:=by
  rw[List.perm_ext_iff_of_nodup (D.filter _) H];intro x;rw[List.mem_filter,Zl];exact⟨fun h=>h.2,fun h=>⟨I x h,h⟩⟩
 exact B.length_eq
structure pG (n k:Nat) (S:Int×List (Int×BA)):Prop where
 some_:S.2=[]∨0<=S.1
 le:S.1<=1000
 each:∀x∈S.2,0<=x.1/\x.1<n/\x.2.size=Jk k S.1.toNat
 one:(S.2.map aN).Nodup
theorem RV {n:Nat}{t:Int×Int}{S:Int×List (Int×BA)}(v:Yb)(h:pG n k S):pG n k (ZT n k t S v):=by
 by_cases B:v.n=t.1/\v.who=t.2/\YO n k v=ai
 ·have I:=B.2.2;unfold YO at I;rw[Bool.and_eq_true]at I;obtain⟨c1,c2,c3,c4,c5⟩:=of_decide_eq_true I.2;by_cases J:S.1<0
  ·have O:S.2= []:=by
    rcases h.some_ with e|e
    ·exact e
    ·omega
   rw[ZO (z:=v.size) B (by rw[if_pos J]),O];refine⟨aB c1,c2,fun x D=>?_,?_⟩
   ·simp at D;subst D;exact⟨c3,c4,c5⟩
   ·simp
  ·rw[ZO (z:=S.1) B (by rw[if_neg J])];by_cases H:v.size=S.1/\S.2.any (fun y=>y.1==v.at_)=am
   ·rw[if_pos H];refine⟨aB (by show 0<=S.1;omega),h.le,fun x D=>?_,?_⟩
    ·rcases List.mem_append.1 D with e|e
     ·exact h.each x e
     ·simp at e;subst e;exact⟨c3,c4,by show v.text.size=Jk k S.1.toNat;rw[<-H.1];exact c5⟩
    ·show((S.2++ [(v.at_,v.text)]).map aN).Nodup;rw[av];refine List.nodup_append.2 ⟨h.one,by simp,fun a U b K e=>?_⟩;simp at K;subst K e;obtain⟨y,Z,a0⟩:=aS.1 U;have:=zb.1 H.2 y Z;exact this (by simp[a0])
   ·rw[if_neg H];exact⟨h.some_,h.le,h.each,h.one⟩
 ·rw[oL B];exact h
theorem Jpv (n k:Nat)(t:Int×Int)(L:List Yb):pG n k (Zf n k t L):=by
 have B:∀(L:List Yb) (S:Int×List (Int×BA)),pG n k S->pG n k (L.foldl (ZT n k t) S):=by
  intro L
  induction L with
  |nil=>intro S h;exact h
  |cons v L ih=>intro S h;exact ih _ (RV v h)
 exact B L _ ⟨be rfl,by show(-1:Int)<=1000;decide,fun x D=>(by cases D),zj⟩
theorem vD (k:Nat)(l:List (Int×BA))(I:(l.map aN).Nodup):∀i,i<=l.length->Qg k l i=l.take (min k i)
 |0,_=>by simp[Qg]
 |i+1,hi=>by
  have ih:=vD k l I i (by omega);have H:Ji l i=l[i]:=by
   unfold Ji;rw[aa,ae (by omega)];rfl
  by_cases U:i<k
  ·have B:min k i=i:=by omega
   have D:min k (i+1)=i+1:=by omega
   rw[B]at ih;rw[D,rJ (by rw[ih,aq];omega) (by
    rw[ih,zb];intro y J K;obtain⟨j,Z,O⟩:=List.mem_take_iff_getElem.1 J;have a0:j<i:=by omega
    have e:l[j].1=l[i].1:=by rw[O,<-H];simpa using K
    have:=(List.getElem_inj (h₀:=by rw[ah];omega) (h₁:=by rw[ah];omega) I).1 (show(l.map aN)[j]'(by rw[ah];omega)=(l.map aN)[i]'(by rw[ah];omega) by rw[bf,bf];exact e);omega),ih,H]
   exact(ag (by omega)).symm
  ·have B:min k i=k:=by omega
   have D:min k (i+1)=k:=by omega
   rw[B]at ih;rw[D,qH (by rw[ih,aq];omega),ih]
theorem FF {n:Nat}{t:Int×Int}{L:List Yb}(J:1<=k)(h:¬(Zf n k t L).2.length<k):(((Zf n k t L).1.toNat:Nat):Int)=(Zf n k t L).1/\(Zf n k t L).1.toNat<=1000/\l5 n k (Zf n k t L).1.toNat (Zf n k t L).2/\∀i,(Ji (Zf n k t L).2 i).2.size<=100000:=by
 have B:=Jpv n k t L;generalize Zf n k t L=S at *;have K:0<=S.1:=by
  rcases B.some_ with e|e
  ·rw[e]at h;simp at h;omega
  ·exact e
 have O:=B.le;have U:=xR (size:=S.1.toNat) J;refine⟨by omega,by omega,⟨?_,?_⟩,fun i=>?_⟩
 ·rw[zb];intro x I D;obtain⟨a1,Z,a3⟩:=B.each x I;unfold j4 at D;simp only[Bool.or_eq_true,decide_eq_true_eq,Bool.not_eq_true',decide_eq_false_iff_not]at D;omega
 ·rw[vD k S.2 B.one _ nR,aq];omega
 ·by_cases H:i<S.2.length
  ·have e:Ji S.2 i=S.2[i]:=by
    unfold Ji;rw[aa,ae H];rfl
   have:=(B.each _ (az H)).2.2;rw[e,this];omega
  ·unfold Ji;rw[aa,List.getElem?_eq_none (by omega)];show(0:Nat)<=_;omega
def XH (n k:Nat)(all:List Yb)(S:(Int×Int)×BA×Bool)(v:Yb):(Int×Int)×BA×Bool :=
 if S.2.2=ai/\Qd S.1 (v.n,v.who)=am then S
 else if(Zf n k (v.n,v.who) all).2.length<k then S
 else((v.n,v.who),gB k (Zf n k (v.n,v.who) all).1.toNat (Qg k (Zf n k (v.n,v.who) all).2 (Zf n k (v.n,v.who) all).2.length),ai)
def Ys (n k:Nat)(all L:List Yb):(Int×Int)×BA×Bool:=L.foldl (XH n k all) ((0,0),⟨#[]⟩,am)
theorem OP {n:Nat}{L:List Yb}(B:i<L.length):Ys n k all (L.take (i+1))=XH n k all (Ys n k all (L.take i)) (Xd L i):=by
 unfold Ys;rw[ba,Xx B,bc];rfl
theorem Jkh {n:Nat}{v:Yb}(h:S.2.2=ai/\Qd S.1 (v.n,v.who)=am):XH n k all S v=S:=if_pos h
theorem Jki {n:Nat}{v:Yb}(h:¬(S.2.2=ai/\Qd S.1 (v.n,v.who)=am))(B:(Zf n k (v.n,v.who) all).2.length<k):XH n k all S v=S:=by unfold XH;rw[if_neg h,if_pos B]
theorem S6 {n:Nat}{v:Yb}(h:¬(S.2.2=ai/\Qd S.1 (v.n,v.who)=am))(B:¬(Zf n k (v.n,v.who) all).2.length<k):XH n k all S v=((v.n,v.who),gB k (Zf n k (v.n,v.who) all).1.toNat (Qg k (Zf n k (v.n,v.who) all).2 (Zf n k (v.n,v.who) all).2.length),ai):=by unfold XH;rw[if_neg h,if_neg B]
def rO:BA:=⟨#[108,111,111,107]⟩
def sW:BA:=⟨#[116,111,108,100]⟩
def JJ:BA:=⟨#[107,101,101,112]⟩
def iS:BA:=⟨#[107,101,112,116]⟩
def pX:BA:=⟨#[115,101,97,108]⟩
def Q7:BA:=⟨#[115,101,97,108,101,100]⟩
def Jrl:BA:=⟨#[108,111,111,107,105,110,103]⟩
def OZ:BA:=⟨#[115,101,97,108,105,110,103]⟩
def K2:BA:=⟨#[107,101,101,112,105,110,103]⟩
def R0:BA:=⟨#[100,111,110,101]⟩
def WT:BA:=⟨#[114,101,102,117,115,101,100]⟩
inductive St where
 |looking|sealing|keeping|done|refused
 deriving DecidableEq
def St.word:St->BA
 | .looking=>Jrl
 | .sealing=>OZ
 | .keeping=>K2
 | .done=>R0
 | .refused=>WT
def St.waits:St->BA
 | .looking=>sW
 | .sealing=>Q7
 | .keeping=>iS
 |_=>⟨#[]⟩
structure Za where
 name:BA
 key:BA
 who:Int
 op:Int
 config:Int
 c:Xg
 next:Xg
 put:Bool
 aI:Bool
 st:St
 from_:List BA
 L:List (List Yb)
 tag:Int×Int
 text:BA
 found:Bool
def Za.sQ (a:Za)(i:Nat):Yb:=⟨a.tag.1,a.tag.2,(a.text.size:Int),(i:Int),JW a.c.k.toNat a.text i⟩
def Za.send (a:Za)(kind:BA)(B:Bool):List Zb:=(bj a.c.L.length).map fun i=>⟨a.name,Yc a.c.L i,kind,a.key,a.op,a.config,am,if B then [a.sQ i]else []⟩
def Za.begin (a:Za):List Zb:=if a.aI then(if a.st=.sealing then a.send pX am else [])else a.send rO am
def Xq (from_:List BA)(L:List (List Yb)):List BA->List (List Yb)
 | []=>[]
 |m::r=>if Xu from_ m then L.getD (ZJ from_ m) []::Xq from_ L r else Xq from_ L r
def Yk (n:Int)(v:Yb):Int:=if n<v.n/\v.n<=1099511627776 then v.n else n
def XF (L:List (List Yb)):Int:=L.flatten.foldl Yk 0
def Za.aM (a:Za)(m:Zb):Bool:=decide (a.st.waits≠⟨#[]⟩/\m.kind=a.st.waits/\m.aP=a.name/\m.key=a.key/\m.op=a.op/\m.config=a.config)&&(Xu a.c.L m.from_&&!Xu a.from_ m.from_)
def Za.heard (a:Za)(m:Zb):Za:={a with from_:=a.from_++ [m.from_],L:=a.L++ [m.L]}
def Za.aF (a:Za):Za:=if a.put then {a with tag:=(XF a.L+1,a.who),found:=ai}else {a with tag:=(Ys a.c.n.toNat a.c.k.toNat (Xq a.from_ a.L a.c.L).flatten (Xq a.from_ a.L a.c.L).flatten).1,text:=(Ys a.c.n.toNat a.c.k.toNat (Xq a.from_ a.L a.c.L).flatten (Xq a.from_ a.L a.c.L).flatten).2.1,found:=(Ys a.c.n.toNat a.c.k.toNat (Xq a.from_ a.L a.c.L).flatten (Xq a.from_ a.L a.c.L).flatten).2.2}
def Za.keeps (a:Za):Za:=if a.aI then {a with st:=.keeping,from_:=[],L:=[],c:=a.next,config:=a.config+1}else {a with st:=.keeping,from_:=[],L:=[]}
def Za.aD (a:Za)(m:Zb):Za×List Zb :=
 if a.aM m=am then(a,[])
 else if m.shut=ai/\a.st≠.sealing then({a with st:=.refused},[])
 else if(a.heard m).from_.length<Jh a.c then(a.heard m,[])
 else if a.st=.keeping then({a.heard m with st:=.done},[])
 else if(a.heard m).aF.found=am then({(a.heard m).aF with st:=.done},[])
 else((a.heard m).aF.keeps,(a.heard m).aF.keeps.send JJ ai)
def eU (w:World)(p:Option aO)(LL:List (List Yb)):Prop :=
 LL=[]∨∃b o,p=ac ⟨b,o,N⟩/\b<w.heap.size/\∀i,i<LL.length->∃q c,w.cell? ⟨b,o+i,N⟩=ac (.slice q (LL.getD i []).length c)/\Ql Ze w q (LL.getD i [])/\(LL.getD i []).length<=c/\(q=N->LL.getD i []=[]/\c=0)
theorem eU.below (h:eU w p LL)(B:ap w.heap.size w w'):eU w' p LL:=by
 rcases h with h|⟨b,o,H,D,I⟩
 ·exact be h
 ·refine aB ⟨b,o,H,aC D B.size,fun i J=>?_⟩;obtain⟨q,c,K,O,U,Z⟩:=I i J;exact⟨q,c,(B.cell (p:=⟨b,o+i,N⟩) D).trans K,O.below B,U,Z⟩
theorem JfJ (B:i<LL.length):(LL.take (i+1)).flatten=(LL.take i).flatten++LL.getD i []:=by
 rw[ag B,au,aa,ae B];simp
theorem OG (LL:List (List Yb))(i:Nat):(LL.take i).flatten.length<=LL.flatten.length:=by
 have h:LL.flatten=(LL.take i).flatten++(LL.drop i).flatten:=by rw[<-au,List.take_append_drop]
 rw[h,aj];omega
theorem NM {α:Type}{E:eW α}{l:List α}{row:Option Nat}(h:Ql E w q l)(H:w.grownBy w' row)(O:∀b o,q=ac ⟨b,o,N⟩->ac b≠row):Ql E w' q l:=by
 rcases h with h|⟨b,o,B,D,I⟩
 ·exact be h
 ·exact aB ⟨b,o,B,aC D H.size,fun i x J j u K=>(World.cell?_of_block (a:=⟨b,o+i*E.k+j,N⟩) (H.block b D (O _ _ B))).trans (I i x J j u K)⟩
theorem VU:(Tryz.prog.info? 88).map (fun i=>(i.zero,i.size,i.bytes))=ac (ac (.slice N 0 0),1,24):=by kernel_rfl
section
def Zq (w:World)(B:Nat)(v:al)(l:List BA):Prop:=JM w B 9 v (l.map af)
theorem Zq.nil (w:World)(B:Nat):Zq w B (.slice N 0 0) []:=JM.nil w B _
theorem Zq.block (h:Zq w B v l)(D:v.ownBlock=ac k):B<=k/\k<w.heap.size:=JM.block h D
theorem Zq.form (h:Zq w B v l):∃p c,v=.slice p l.length c/\Strs w p l/\l.length<=c/\(p=N->c=0)/\∀b o,p=ac ⟨b,o,N⟩->B<=b/\b<w.heap.size:=by
 have J:=JM.cells h;have K:=h;rcases K.2 with⟨rfl,O⟩|⟨g,cap,a2,rfl,U,Z,D,a3,a4,a5⟩
 ·have e:l=[]:=by simpa using O
  subst e;exact⟨N,0,rfl,be rfl,aw _,fun _=>rfl,fun _ _ h=>by cases h⟩
 ·rw[ah]at D ⊢;have H:=(Array.getElem?_eq_some_iff.1 Z).1;refine⟨ac ⟨g,0,N⟩,cap,rfl,aB ⟨g,0,rfl,H,fun i I=>?_⟩,D,fun h=>(by cases h),fun b o h=>?_⟩
  ·rcases J with⟨h1,_⟩|⟨g',a6,hv,_,_,hc⟩
   ·cases h1
   ·have a0:g=g':=by
     have:=congrArg bm hv;simpa[bm]using this
    subst a0;rw[bv,hc i (.string (Yc l i)) (by rw[bb,ae I,Xk l i I];rfl)]
  ·obtain⟨rfl,rfl⟩:g=b/\0=o:=by simpa using h
   exact⟨U,H⟩
theorem Zq.base (h:Zq w B v l)(Z:H<=B):Zq w H v l:=by
 obtain⟨I,D⟩:=h;refine⟨I,?_⟩;rcases D with D|⟨g,cap,J,K,O,U⟩
 ·exact be D
 ·exact aB ⟨g,cap,J,K,aR Z O,U⟩
theorem Zq.kept (h:Zq w B v l)(D:ap w.heap.size w w'):Zq w' B v l :=
 JM.kept (row:=N) h ⟨D.os,D.tape,D.output,D.size,fun k H _=>D.block k H⟩ (by cases v.ownBlock<;>simp)
section
variable {w:World}
theorem R8 (a2:o.guard=N)(s x:Operand)
 (ho:o.op=.call {callee:=.builtin .append,args:=#[s,x],argTypes:=#[22,22]})
 (B:Nat) (v:al) (l:List BA) (hs:a.eval s=v) (I:Zq w B v l) (q:Option aO) (r:List BA) (c:Nat) (hx:a.eval x=.slice q r.length c) (hq:Strs w q r) (b0:q=N->r=[]/\c=0) (hl:l.length+r.length<=8796093022208) (a3:B<=w.heap.size)
 (h:∀D w',Zq w' B D (l++r)->ap B w w'->bA Tryz.prog ops Q rest (a.put o.dst D) w'):bA Tryz.prog ops Q (o::rest) a w:=by
 obtain⟨O,U,a4,a5,a6⟩:=info_parts (P:=Tryz.prog) (e:=9) (z:=.string ⟨#[]⟩) (size:=1) (bytes:=16) (by kernel_rfl);have a7:∀D w',w'.ownsRow B 9 1 D ((l.map af).length+r.length) (l.map af++r.map af)->w.grownBy w' v.ownBlock->bA Tryz.prog ops Q rest (a.put o.dst D) w':=fun D w' J K=>by
  refine h D w' ?_ (bR.grown K a3 (fun k hk=>(I.block hk).1));unfold Zq JM;have e:(l.map af++r.map af).length=(l.map af).length+r.length:=by simp
  rw[av,e];exact J
 cases q with
 |none =>
  obtain⟨hr,hc⟩:=b0 rfl;subst hr hc;refine wpList_append_own_none a2 s x _ ho B 9 O 1 Tryz.underlying22 U v (l.map af).length (l.map af) hs I hx ?_;have:=h v w (by rw[List.append_nil];exact I) bR;exact this
 |some ad =>
  refine wpList_append_own w a2 s x _ ho B 9 O (.string ⟨#[]⟩) 1 16 Tryz.underlying22 U a4 a5 a6 rfl (by decide) v (l.map af).length (l.map af) hs I ad r.length c (r.map af) hx (by simp) ?_ ?_ (by rw[ah];unfold maxLen;omega) (by rw[ah];omega) a3 (fun D w' J K _=>a7 D w' J K)
  ·intro j u Z;rw[bb]at Z;obtain⟨y,a0,a8⟩:=Option.map_eq_some_iff.1 Z;have H:=(za.1 a0).1;rcases hq with h0|⟨b,o',hp,_,a9⟩
   ·rw[h0]at H;exact absurd H (ak _)
   ·obtain rfl:ad=⟨b,o',N⟩:=by simpa using hp
    rw[Addr.add_lit,a9 j H,Xk r j H,<-a8,(za.1 a0).2]
  ·intro u hu;obtain⟨y,_,rfl⟩:=aS.1 hu;rfl
theorem JfI (a0:o.guard=N)(s x:Operand)
 (ho:o.op=.call {callee:=.builtin .append,args:=#[s,x],argTypes:=#[22,22]})
 (B:Nat) (v:al) (l:List BA) (hs:a.eval s=v) (H:Zq w B v l) (ad:aO) (t:BA) (c:Nat) (hx:a.eval x=.slice (ac ad) 1 c) (hq:w.cell? ad=ac (.string t)) (hl:l.length+1<=1000000) (I:B<=w.heap.size)
 (h:∀D w',Zq w' B D (l++ [t])->ap B w w'->bA Tryz.prog ops Q rest (a.put o.dst D) w'):bA Tryz.prog ops Q (o::rest) a w:=by
 obtain⟨J,K,O,U,Z⟩:=info_parts (P:=Tryz.prog) (e:=9) (z:=.string ⟨#[]⟩) (size:=1) (bytes:=16) (by kernel_rfl);refine yL a0 s x _ ho B 9 J (.string ⟨#[]⟩) 16 Tryz.underlying22 K O rfl U Z (by decide) v (l.map af) hs H ad c (.string t) rfl hx hq (by rw[ah];exact hl) I fun D w' h1 h2 _=>h D w' ?_ (bR.grown h2 I (fun k hk=>(H.block hk).1))
 unfold Zq;rw[av];exact h1
end
end
def iE (c:Xg)(lv:al):Value:=.agg #[.int .i64 c.n,.int .i64 c.k,lv]
structure Zp (w:World) (ad:Nat->aO):Prop where
 c1:w.cell? ⟨0,0,N⟩=ac (.iface 287 (.pointer (ac (ad 1))))
 c2:w.cell? ⟨6,0,N⟩=ac (.iface 287 (.pointer (ac (ad 2))))
 c3:w.cell? ⟨5,0,N⟩=ac (.iface 287 (.pointer (ac (ad 3))))
 c4:w.cell? ⟨4,0,N⟩=ac (.iface 287 (.pointer (ac (ad 4))))
 c5:w.cell? ⟨3,0,N⟩=ac (.iface 287 (.pointer (ac (ad 5))))
theorem Zp.below (h:Zp w ad)(B:ap w.heap.size w w'):Zp w' ad where
 c1:=(B.cell (Yl h.c1)).trans h.c1
 c2:=(B.cell (Yl h.c2)).trans h.c2
 c3:=(B.cell (Yl h.c3)).trans h.c3
 c4:=(B.cell (Yl h.c4)).trans h.c4
 c5:=(B.cell (Yl h.c5)).trans h.c5
def Jt5 (c:Xg):Prop:=(-9223372036854775808<=c.n/\c.n<=9223372036854775807)/\-9223372036854775808<=c.k/\c.k<=9223372036854775807
structure Yn (w:World) (c:Xg) (p:Option aO) (cap:Nat):Prop where
 strs:Strs w p c.L
 room:c.L.length<=cap
 empty:p=N->c.L=[]/\cap=0
 len:c.L.length<=1000
 size:∀x∈c.L,x.size<=1000
 ints:Jt5 c
theorem Yn.below {c:Xg}{cap:Nat}(h:Yn w c p cap)(B:ap w.heap.size w w'):Yn w' c p cap:=⟨h.strs.below B,h.room,h.empty,h.len,h.size,h.ints⟩
theorem Jd.isNil {B:al}{at_:Int}(h:Jd w ad B 0 at_):B=.nilIface:=by
 rcases h with⟨h,_⟩|⟨i,_,_,h,_⟩|⟨i,_,_,_,h,_⟩
 ·exact h
 ·omega
 ·omega
section
variable {w w':World} {B:Nat} {S:Nat->Prop} {ab:Nat} {a:Za} {mv nv fv lv:al} {vs:List al}
theorem Jtn {w:World}{D:Array al}(h:w.heap[b]?=ac (.cells D t (0,0)))(i:Nat)(v:al):(w.setCell ⟨b,i,N⟩ v).heap[b]?=ac (.cells (D.setIfInBounds i v) t (0,0)):=by
 simp[World.setCell,Array.getElem?_modify,h]
end
section
variable {w w1 w3:World} {B:Nat} {S:Nat->Prop} {ab:Nat} {a:Za} {mv nv fv lv:al} {vs:List al}
end
theorem Yd.trans {S S1 J:Nat->Prop}{K O:World}(B:Yd S S1 w K)(D:Yd S1 J K O):Yd S J w O :=
 ⟨D.os.trans B.os,D.tape.trans B.tape,D.output.trans B.output,aR B.size D.size,fun k H I=>(D.block k (aC H B.size) (fun h=>(B.new k h).elim I (by omega))).trans (B.block k H I),fun k H=>(D.new k H).elim (B.new k) (fun h=>aB (aR B.size h))⟩
def pD (B:Nat)(w:World)(p:Option aO)(l:List Zb):Prop:=∃D:List (Zb×Lv),D.map aN=l/\Ql mE w p D/\(∀x∈D,Jn w x/\∀b o,x.2.1=ac ⟨b,o,N⟩->B<=b)/\∀b o,p=ac ⟨b,o,N⟩->B<=b
def iU (O:Nat->Prop)(w:World)(p:Option aO)(l:List Zb):Prop:=∃B:List (Zb×Lv),B.map aN=l/\Ql mE w p B/\(∀x∈B,Jn w x/\∀b o,x.2.1=ac ⟨b,o,N⟩->O b)/\∀b o,p=ac ⟨b,o,N⟩->O b
theorem iU.mono {l:List Zb}(h:iU O w p l)(H:∀b,O b->O' b):iU O' w p l:=by
 obtain⟨I,J,K,B,U⟩:=h;exact⟨I,J,K,fun x D=>⟨(B x D).1,fun b o e=>H b ((B x D).2 b o e)⟩,fun b o e=>H b (U b o e)⟩
theorem iU.new {l:List Zb}(h:iU O w p l)(D:∀b,O b->B<=b):pD B w p l:=h.mono D
theorem iU.nil (O:Nat->Prop)(w:World):iU O w N []:=⟨[],rfl,Ql.nil _ _,(fun x B=>by cases B),(fun b o e=>by cases e)⟩
structure QE (c B:Nat) (w:World) (p:Option aO) (l:List Zb):Prop where
 msgs:iU (fun b=>B<=b/\b<w.heap.size) w p l
 room:l.length<=c
 empty:p=N->l.length=0/\c=0
structure Qp (c:Nat) (O:Nat->Prop) (w:World) (p:Option aO) (l:List Zb):Prop where
 msgs:iU O w p l
 room:l.length<=c
 empty:p=N->l.length=0/\c=0
theorem QE.n {l:List Zb}(h:QE c B w p l):pD B w p l:=h.msgs.new (fun _ D=>D.1)
theorem QE.nil (B:Nat)(w:World):QE 0 B w N []:=⟨iU.nil _ _,aw _,fun _=>⟨rfl,rfl⟩⟩
theorem Qp.nil (O:Nat->Prop)(w:World):Qp 0 O w N []:=⟨iU.nil _ _,aw _,fun _=>⟨rfl,rfl⟩⟩
theorem QE.mono {l:List Zb}(h:QE c B w p l)(I:H<=B):QE c H w p l:=⟨h.msgs.mono (fun _ D=>⟨aR I D.1,D.2⟩),h.room,h.empty⟩
theorem Qp.mono {l:List Zb}(h:Qp c O w p l)(B:∀b,O b->O' b):Qp c O' w p l:=⟨h.msgs.mono B,h.room,h.empty⟩
theorem QE.out {l:List Zb}(h:QE c B w p l)(H:∀b,B<=b->b<w.heap.size->O b):Qp c O w p l:=⟨h.msgs.mono (fun b D=>H b D.1 D.2),h.room,h.empty⟩
theorem Qp.new {l:List Zb}(h:Qp c O w p l)(D:∀b,O b->B<=b):pD B w p l:=h.msgs.new D
theorem Qc {B:Array al}(h:w.heap[b]?=ac (.cells B t (0,0)))(i:Nat)(v:al):(w.setCell ⟨b,i,N⟩ v).heap[b]?=ac (.cells (B.setIfInBounds i v) t (0,0)):=by
 simp[World.setCell,Array.getElem?_modify,h]
theorem Jbo {n:Nat}{x:Zb}(h:Zc Ze T w B (.slice p n c) x.L):Jn w (x,(p,n,c)):=by
 obtain⟨U,Z,e,D,H,I,_⟩:=h.form;injection e with J K O
 subst J K O;exact⟨rfl,D,H,I⟩
theorem lM {s:BA}(h:s∈l):ZJ l s<l.length:=by
 unfold ZJ;exact ay ⟨s,h,by simp⟩
def QK (a:Za)(x:BA):List Yb:=a.L.getD (ZJ a.from_ x) []
def Zt (x:Int):Prop:=-9223372036854775808<=x/\x<=9223372036854775807
def Za.small (a:Za)(m:Zb):Prop:=a.L.flatten.length+m.L.length<=1000/\m.from_.size<=6000/\∀v∈m.L,v.text.size<=6000
def Yt (a:Za)(l:List BA):List (List Yb):=l.map fun x=>if Xu a.from_ x then QK a x else []
theorem NH {a:Za}(h:i<l.length):Yt a (l.take (i+1))=Yt a (l.take i)++ [if Xu a.from_ (Yc l i)then QK a (Yc l i)else []]:=by
 unfold Yt;rw[ag h,av,Xk l i h];rfl
theorem B7 (a:Za):∀l:List BA,(Yt a l).flatten=(Xq a.from_ a.L l).flatten
 | []=>rfl
 |x::l=>by
  have ih:=B7 a l;unfold Yt at ih ⊢;rw[zc,ax,ih];by_cases h:Xu a.from_ x=ai
  ·have B:Xq a.from_ a.L (x::l)=a.L.getD (ZJ a.from_ x) []::Xq a.from_ a.L l:=if_pos h;rw[if_pos h,B,ax];rfl
  ·have B:Xq a.from_ a.L (x::l)=Xq a.from_ a.L l:=if_neg h;rw[if_neg h,B,List.nil_append]
theorem GF (B:y∈F):ZJ (F++ [x]) y=ZJ F y:=by
 unfold ZJ;rw[aY];rw[if_pos (ay ⟨y,B,by simp⟩)]
theorem D4 (D:x∉F):ZJ (F++ [x]) x=F.length:=by
 unfold ZJ;rw[aY];have h:List.findIdx (fun z=>decide (z=x)) F=F.length:=by
  rw[List.findIdx_eq_length];intro z B;exact decide_eq_false (fun e=>D (e▸B))
 rw[if_neg (by omega)];simp
theorem JrW {a:Za}(D:a.from_.length=a.L.length)(B:y∈a.from_):QK (a.heard m) y=QK a y:=by
 unfold QK Za.heard;show(a.L++ [m.L]).getD (ZJ (a.from_++ [m.from_]) y) []=_;rw[GF B,aa,aa,ar (by rw[<-D];exact lM B)]
theorem JrX {a:Za}(B:a.from_.length=a.L.length)(D:m.from_∉a.from_):QK (a.heard m) m.from_=m.L:=by
 unfold QK Za.heard;show(a.L++ [m.L]).getD (ZJ (a.from_++ [m.from_]) m.from_) []=_;rw[D4 D,B,aa,ao nR,zd];rfl
theorem vU (H:F.Nodup)(B:i<F.length):ZJ F F[i]=i:=DQ B (Xk F i B) fun j D e=>by
 rw[Xk F j (by omega)]at e;exact List.pairwise_iff_getElem.1 H j i (by omega) B D e
theorem J4 {a:Za}(O:a.from_.length=a.L.length)(U:a.from_.Nodup)(Z:∀x∈a.from_,x∈a.c.L)(v:Yb):v∈(Yt a a.c.L).flatten↔v∈a.L.flatten:=by
 simp only[List.mem_flatten];constructor
 ·rintro⟨l,H,B⟩;unfold Yt at H;obtain⟨x,hx,rfl⟩:=aS.1 H;by_cases D:Xu a.from_ x=ai
  ·rw[if_pos D]at B;have I:ZJ a.from_ x<a.L.length:=by rw[<-O];exact lM (Zl.1 D)
   refine⟨QK a x,?_,B⟩;unfold QK;rw[aa,ae I];exact az I
  ·rw[if_neg D]at B;cases B
 ·rintro⟨l,H,B⟩;obtain⟨i,D,rfl⟩:=zh H;have J:i<a.from_.length:=by omega
  have K:=az J;refine⟨QK a a.from_[i],?_,?_⟩
  ·unfold Yt;refine aS.2 ⟨a.from_[i],Z _ K,?_⟩;rw[if_pos (Zl.2 K)]
  ·unfold QK;rw[vU U J,aa,ae D];exact B
theorem YE (a:Za):a.aF.c=a.c/\a.aF.key=a.key/\a.aF.name=a.name/\a.aF.aI=a.aI/\a.aF.who=a.who/\a.aF.op=a.op/\a.aF.config=a.config/\a.aF.st=a.st/\a.aF.from_=a.from_/\a.aF.L=a.L/\a.aF.put=a.put:=by
 unfold Za.aF;split<;>exact⟨rfl,rfl,rfl,rfl,rfl,rfl,rfl,rfl,rfl,rfl,rfl⟩
theorem tH (h:x∈F):F[ZJ F x]'(lM h)=x:=by
 have:=List.findIdx_getElem (p:=fun z=>decide (z=x)) (xs:=F) (w:=lM h);exact of_decide_eq_true this
theorem xO (f:Nat->Nat):∀(n:Nat) (I:List Nat),I.Nodup->(∀i∈I,i<n)->(I.map f).sum<=((bj n).map f).sum
 |0,I,_,h=>by
  cases I with
  |nil=>exact aw _
  |cons i I=>exact absurd (h i (by simp)) (ak _)
 |n+1,I,hn,h=>by
  rw[List.range_succ,av,List.sum_append];by_cases D:n∈I
  ·have J:I.Perm (n::I.erase n):=List.perm_cons_erase D;have e:(I.map f).sum=f n+((I.erase n).map f).sum:=by
    rw[(J.map f).sum_nat,zc,bq]
   have:=xO f n (I.erase n) (hn.erase n) (fun i B=>by
    have H:=(List.Nodup.mem_erase_iff hn).1 B;have:=h i H.2;have:=H.1;omega)
   simp;omega
  ·have:=xO f n I hn (fun i B=>by
    have:=h i B;have:i≠n:=fun e=>D (e▸B)
    omega)
   omega
theorem JrZ (L:List (List Yb)):L.flatten.length=((bj L.length).map fun i=>(L.getD i []).length).sum:=by
 rw[List.length_flatten]
 congr 1
 refine List.ext_getElem (by simp) fun i B D=>?_
 simp at B;simp[ae B]
theorem AU {a:Za}(hb:a.from_.length=a.L.length)(hn:a.from_.Nodup):∀l:List BA,l.Nodup->∃I:List Nat,I.Nodup/\(∀i∈I,i<a.L.length)/\(∀i∈I,∃x∈l,x∈a.from_/\i=ZJ a.from_ x)/\(Yt a l).flatten.length=(I.map fun i=>(a.L.getD i []).length).sum
 | [],_=>⟨[],zj,(fun i D=>by cases D),(fun i D=>by cases D),rfl⟩
 |x::l,h=>by
  obtain⟨hx,hl⟩:=bh.1 h;obtain⟨I,O,U,J,Z⟩:=AU hb hn l hl;have e:(Yt a (x::l)).flatten.length=(if Xu a.from_ x then QK a x else []).length+(Yt a l).flatten.length:=by
   unfold Yt;rw[zc,ax,aj]
  by_cases D:Xu a.from_ x=ai
  ·have K:=Zl.1 D;refine⟨ZJ a.from_ x::I,bh.2 ⟨fun hI=>?_,O⟩,?_,?_,?_⟩
   ·obtain⟨y,H,a0,he⟩:=J _ hI;have ex:=tH K;have ey:=tH a0;have:x=y:=by rw[<-ex,<-ey];simp only[he]
    exact hx (this▸H)
   ·intro i B;rcases aJ.1 B with rfl|B
    ·rw[<-hb];exact lM K
    ·exact U i B
   ·intro i B;rcases aJ.1 B with rfl|B
    ·exact⟨x,by simp,K,rfl⟩
    ·obtain⟨y,H,g⟩:=J i B;exact⟨y,by simp[H],g⟩
   ·rw[e,if_pos D,Z,zc,bq];rfl
  ·refine⟨I,O,U,fun i B=>?_,?_⟩
   ·obtain⟨y,H,g⟩:=J i B;exact⟨y,by simp[H],g⟩
   ·rw[e,if_neg D,Z];simp
theorem PH {a:Za}(J:a.from_.length=a.L.length)(K:a.from_.Nodup)(O:l.Nodup):(Yt a l).flatten.length<=a.L.flatten.length:=by
 obtain⟨I,B,D,_,H⟩:=AU J K l O;rw[H,JrZ];exact xO _ _ I B D
theorem EM {a:Za}(h:a.small m):m.from_.size<=6000/\m.L.length<=1000/\(∀v∈m.L,v.text.size<=6000)/\a.L.flatten.length<=1000/\(a.heard m).L.flatten.length<=1000:=by
 obtain⟨H,B,D⟩:=h;have I:(a.heard m).L.flatten.length=a.L.flatten.length+m.L.length:=by
  show(a.L++ [m.L]).flatten.length=_;rw[au,aj];simp
 exact⟨B,by omega,D,by omega,by omega⟩
def Jt (v:Yb):Prop:=(-9223372036854775808<=v.n/\v.n<=9223372036854775807)/\(-9223372036854775808<=v.who/\v.who<=9223372036854775807)/\(-9223372036854775808<=v.size/\v.size<=9223372036854775807)/\-9223372036854775808<=v.at_/\v.at_<=9223372036854775807
theorem CS (n:Int)(v:Yb):n<=Yk n v:=by unfold Yk;split<;>omega
theorem ZK:∀(l:List Yb) (n:Int),n<=l.foldl Yk n
 | [],n=>Int.le_refl n
 |v::l,n=>Int.le_trans (CS n v) (ZK l _)
theorem IY:∀(l:List Yb) (n:Int),n<=1099511627776->l.foldl Yk n<=1099511627776
 | [],n,h=>h
 |v::l,n,h=>IY l _ (by unfold Yk;split<;>omega)
theorem sH (LL:List (List Yb)):0<=XF LL/\XF LL<=1099511627776:=⟨ZK _ _,IY _ _ (by decide)⟩
theorem M2 (h:i<LL.length):XF (LL.take (i+1))=(LL.getD i []).foldl Yk (XF (LL.take i)):=by
 unfold XF;rw[ag h,au,bc];have e:LL.getD i []=LL[i]:=by rw[aa,ae h];rfl
 rw[e];simp
theorem OI {l:List Yb}{j:Nat}(h:j<l.length)(n:Int):(l.take (j+1)).foldl Yk n=Yk ((l.take j).foldl Yk n) (Xd l j):=by
 rw[ba,Xx h];simp
theorem Q5:∀(l:List Yb) (n:Int),0<=n->(∀v∈l,v.n<=1099511627776->v.n<=l.foldl Yk n)/\(l.foldl Yk n=n∨∃v∈l,v.n=l.foldl Yk n/\v.n<=1099511627776)
 | [],n,_=>⟨(fun v I=>by cases I),be rfl⟩
 |v::l,n,h=>by
  have J:0<=Yk n v:=Int.le_trans h (CS n v);obtain⟨K,D⟩:=Q5 l (Yk n v) J;refine⟨fun x B O=>?_,?_⟩
  ·rcases aJ.1 B with rfl|B
   ·refine Int.le_trans ?_ (ZK l _);unfold Yk;split<;>omega
   ·exact K x B O
  ·rcases D with D|⟨x,B,U,Z⟩
   ·show l.foldl Yk (Yk n v)=n∨_;by_cases H:n<v.n/\v.n<=1099511627776
    ·refine aB ⟨v,by simp,?_,H.2⟩;show v.n=l.foldl Yk (Yk n v);rw[D];unfold Yk;rw[if_pos H]
    ·left;rw[D];unfold Yk;rw[if_neg H]
   ·exact aB ⟨x,by simp[B],U,Z⟩
theorem Jqx {L M:List (List Yb)}(h:∀v,v∈L.flatten↔v∈M.flatten):XF L=XF M:=by
 unfold XF;obtain⟨a1,H⟩:=Q5 L.flatten 0 (by decide);obtain⟨I,J⟩:=Q5 M.flatten 0 (by decide);have K:=ZK L.flatten 0;have O:=ZK M.flatten 0;refine Int.le_antisymm ?_ ?_
 ·rcases H with e|⟨v,B,e,D⟩
  ·rw[e];exact O
  ·rw[<-e];exact I v ((h v).1 B) D
 ·rcases J with e|⟨v,B,e,D⟩
  ·rw[e];exact K
  ·rw[<-e];exact a1 v ((h v).2 B) D
theorem KH {l:List Yb}:∀{L:List (List Yb)},l∈L->l.length<=L.flatten.length
 |m::L,h=>by
  rw[ax,aj];rcases aJ.1 h with rfl|h
  ·omega
  ·have:=KH h;omega
theorem Jjs {n:Nat}{v:Yb}(D:1<=k)(h:S.2.1.size<=1000):(XH n k all S v).2.1.size<=1000:=by
 unfold XH;split
 ·exact h
 ·split
  ·exact h
  ·rename_i B;show(gB _ _ _).size<=1000;rw[JpW];exact(FF D B).2.1
theorem y9 {n k:Nat}{all:List Yb}(B:1<=k):∀(L:List Yb) (S:(Int×Int)×BA×Bool),S.2.1.size<=1000->(L.foldl (XH n k all) S).2.1.size<=1000
 | [],_,h=>h
 |_::L,_,h=>y9 B L _ (Jjs B h)
theorem RA (r:Nat)(W:World):aA Tryz.prog 71 #[.int .i32 (r:Int)] W fun e w'=>e=.returned (.bool (!Xr r))/\w'=W:=by
 have key:∀b,Xr r=b->Hid ((!Xr r)=(!b)):=fun b h=>by show _=_;rw[h]
 rcases(show(97<=r/\r<=122)∨(48<=r/\r<=57)∨r=45∨122<r∨(57<r/\r<97)∨(r<48/\r≠45) by omega)with B|B|B|B|B|B
 ·have D:=key ai (by simp[Xr,B]);obtain⟨I,J⟩:=B;have H:decide ((r:Int)<97)=false:=decide_eq_false (by omega);have d2:decide (122<(r:Int))=false:=decide_eq_false (by omega);rw[D.out];clear key;go_enter Tryz.func71,Tryz.ntmps71;go_wp2;go_ret;exact⟨rfl,rfl⟩
 ·have D:=key ai (by simp[Xr,B]);obtain⟨I,J⟩:=B;have H:=decide_eq_true (by omega);have K:decide ((r:Int)<48)=false:=decide_eq_false (by omega);have O:decide (57<(r:Int))=false:=decide_eq_false (by omega);rw[D.out];clear key;go_enter Tryz.func71,Tryz.ntmps71;go_wp2;go_ret;exact⟨rfl,rfl⟩
 ·have D:=key ai (by simp[Xr,B]);subst B;rw[D.out];clear key;go_enter Tryz.func71,Tryz.ntmps71;go_wp2;go_ret;exact⟨rfl,rfl⟩
 ·have D:=key am (by unfold Xr;rw[decide_eq_false (by omega),decide_eq_false (by omega),decide_eq_false (by omega)];rfl);have H:decide ((r:Int)<97)=false:=decide_eq_false (by omega);have d2:=decide_eq_true (by omega);have K:decide ((r:Int)<48)=false:=decide_eq_false (by omega);have O:=decide_eq_true (by omega);have U:((r:Int) !=45)=true:=by rw[bne_iff_ne];omega
  have Z:((r:Int)==45)=false:=by rw[beq_eq_false_iff_ne];omega
  rw[D.out];clear key;go_enter Tryz.func71,Tryz.ntmps71;go_wp2;go_ret;exact⟨rfl,rfl⟩
 ·have D:=key am (by unfold Xr;rw[decide_eq_false (by omega),decide_eq_false (by omega),decide_eq_false (by omega)];rfl);obtain⟨I,J⟩:=B;have H:=decide_eq_true (by omega);have K:decide ((r:Int)<48)=false:=decide_eq_false (by omega);have O:=decide_eq_true (by omega);have U:((r:Int) !=45)=true:=by rw[bne_iff_ne];omega
  have Z:((r:Int)==45)=false:=by rw[beq_eq_false_iff_ne];omega
  rw[D.out];clear key;go_enter Tryz.func71,Tryz.ntmps71;go_wp2;go_ret;exact⟨rfl,rfl⟩
 ·have D:=key am (by unfold Xr;rw[decide_eq_false (by omega),decide_eq_false (by omega),decide_eq_false (by omega)];rfl);obtain⟨I,J⟩:=B;have H:=decide_eq_true (by omega);have K:=decide_eq_true (by omega);have U:((r:Int) !=45)=true:=by rw[bne_iff_ne];omega
  have Z:((r:Int)==45)=false:=by rw[beq_eq_false_iff_ne];omega
  rw[D.out];clear key;go_enter Tryz.func71,Tryz.ntmps71;go_wp2;go_ret;exact⟨rfl,rfl⟩
theorem AE (s:BA):∀(f i:Nat),s.size<=i+f->(decide (0<=Lib.idxFuncFrom (fun r=>!Xr r) ai s f i)=ai↔∃j,i<=j/\j<s.size/\Xr (Gf.nth (Zj s) j)=am)
 |0,i,h=>by
  constructor
  ·intro D;have H:=D;cases H
  ·rintro⟨j,D,H,_⟩;omega
 |f+1,i,h=>by
  show decide (0<=(if i<s.size then(if(!Xr (Utf8.decode s i).1)=ai then(i:Int)else Lib.idxFuncFrom (fun r=>!Xr r) ai s f (i+(Utf8.decode s i).2))else -1))=ai↔_;by_cases B:i<s.size
  ·rw[if_pos B];by_cases K:(s[i]'B).toNat<128
   ·rw[decode_ascii s i B K,<-uD s i B];have ih:=AE s f (i+1) (by omega);cases J:Xr (Gf.nth (Zj s) i)with
    |false =>
     rw[if_pos (by rfl)];exact⟨fun _=>⟨i,aw _,B,J⟩,fun _=>decide_eq_true (by omega)⟩
    |true =>
     rw[if_neg (by simp),ih];constructor
     ·rintro⟨j,D,H,I⟩;exact⟨j,by omega,H,I⟩
     ·rintro⟨j,D,H,I⟩;refine⟨j,?_,H,I⟩;by_cases e:j=i
      ·rw[e,J]at I;cases I
      ·omega
   ·have D:=(decode_high s i B (by omega)).1;have J:Xr (Utf8.decode s i).1=false:=by
     unfold Xr;rw[decide_eq_false (by omega),decide_eq_false (by omega),decide_eq_false (by omega)];rfl
    have O:Xr (Gf.nth (Zj s) i)=false:=by
     rw[uD s i B];unfold Xr;rw[decide_eq_false (by omega),decide_eq_false (by omega),decide_eq_false (by omega)];rfl
    rw[J,if_pos (by rfl)];exact⟨fun _=>⟨i,aw _,B,O⟩,fun _=>decide_eq_true (by omega)⟩
  ·rw[if_neg B];constructor
   ·intro D;cases D
   ·rintro⟨j,D,H,_⟩;omega
theorem U7 (s:BA):decide (0<=Lib.idxFunc (fun r=>!Xr r) ai s)=!((Zj s).all Xr):=by
 have h:=AE s s.size 0 (by omega);cases D:(Zj s).all Xr with
 |true =>
  rw[show(!ai)=am from rfl,an];intro I;obtain⟨j,_,B,J⟩:=h.1 I;have H:j<(Zj s).length:=by rw[tZ];exact B
  rw[List.all_eq_true]at D;have:=D (Gf.nth (Zj s) j) (by rw[Gf.aK _ j H];exact az H);rw[J]at this;cases this
 |false =>
  obtain⟨x,K,O⟩:=List.all_eq_false.1 D;obtain⟨j,B,rfl⟩:=zh K;refine h.2 ⟨j,zg _,by rw[tZ]at B;exact B,?_⟩;rw[Gf.aK _ j B];exact an.2 O
theorem qF (s:BA)(w:World):aA Tryz.prog 50 #[.string s] w fun e w'=>e=.returned (.bool (Jo s))/\ap w.heap.size w w':=by
 by_cases U:s.size<1
 ·have B:Hid (Jo s=am):=CT (by omega);have I:decide (1<=(s.size:Int))=false:=decide_eq_false (by omega);rw[B.out];go_enter Tryz.func50,Tryz.ntmps50;go_wp2;go_ret;exact⟨rfl,Below.refl _ _⟩
 have I:=decide_eq_true (by omega);by_cases Z:16<s.size
 ·have B:Hid (Jo s=am):=CT (by omega);have J:=decide_eq_false (by omega);rw[B.out];go_enter Tryz.func50,Tryz.ntmps50;go_wp2;go_ret;exact⟨rfl,Below.refl _ _⟩
 have J:=decide_eq_true (by omega);have D:=Tryz.strings_ContainsFunc 71 #[] (enters_of Tryz.func71 (by kernel_rfl) rfl) (fun r=>!Xr r) s w (fun W r _=>by
  unfold FnGives;exact(RA r W).mono fun _ _ ⟨K,O⟩=>⟨K,0,O⟩)
 rw[U7]at D;have B:Hid (Jo s=(Zj s).all Xr):=by show _=_;unfold Jo;rw[decide_eq_true ⟨by omega,by omega⟩,Bool.true_and]
 rw[B.out];generalize (Zj s).all Xr=r at *;clear B;go_enter Tryz.func50,Tryz.ntmps50;go_wp2_with fail
 refine D.mono ?_;rintro e w1 ⟨rfl,H⟩;clear D;cases r with
 |true =>
  go_wp2;go_ret;exact⟨rfl,H⟩
 |false =>
  go_wp2;go_ret;exact⟨rfl,H⟩
theorem P3 (p:Option aO)(l:List BA)(c:Nat)(s:BA)(w:World)(hl:l.length<=1000000)(K:Strs w p l)(h:s∉l):
 aA Tryz.prog 72 #[.slice p l.length c,.string s] w fun e w'=>e=.returned (.int .i64 (-1))/\w'=w:=by
 have I:Hid (s∉l):=h;clear h;go_enter Tryz.func72,Tryz.ntmps72;go_wp2
 go_loop [8] (fun x=>∃i:Nat,i<=l.length/\x=.int .i64 i) (fun x=>l.length-(intOf x).toNat)
 case atStart=>exact⟨0,zg _,rfl⟩
 case round =>
  obtain⟨i,O,rfl⟩:=hrel;by_cases B:i<l.length
  ·rcases K with J|⟨b,o,rfl,U,H⟩
   ·rw[J]at B;exact absurd B (ak _)
   have Z:=H i B;have D:Yc l i≠s:=fun e=>I.out (e▸oQ B)
   have h1:=XT (Ne.symm D);have h2:=YT (Ne.symm D);have h3:=Y8 (Ne.symm D);clear D H;generalize Yc l i=t at *;go_wp2
   go_round
   case rel=>exact⟨i+1,by omega,by go_num⟩
   case measure=>simp[intOf];omega
  ·go_wp2;go_ret;exact⟨rfl,rfl⟩
theorem SY (p:Option aO)(l:List BA)(c:Nat)(s:BA)(w:World)(hl:l.length<=1000000)(hs:Strs w p l)(h:s∈l):
 aA Tryz.prog 72 #[.slice p l.length c,.string s] w fun e w'=>e=.returned (.int .i64 ((ZJ l s:Nat):Int))/\w'=w:=by
 have Z:Hid (s∈l):=h;clear h;go_enter Tryz.func72,Tryz.ntmps72;go_wp2
 go_loop [8] (fun x=>∃i:Nat,i<=l.length/\x=.int .i64 i/\∀j,j<i->Yc l j≠s) (fun x=>l.length-(intOf x).toNat)
 case atStart=>exact⟨0,zg _,rfl,fun j H=>absurd H (ak _)⟩
 case round =>
  obtain⟨i,hi,rfl,J⟩:=hrel;have I:Hid (∀j,j<i->Yc l j≠s):=J;clear J;have D:i<l.length:=by
   rcases bw i l.length with h|h
   ·exact h
   ·obtain⟨j,H,e⟩:=tF Z.out;exact absurd e (I.out j (by omega))
  rcases hs with h0|⟨b,o,rfl,a0,K⟩
  ·rw[h0]at D;exact absurd D (ak _)
  have q1:=K i D;have O:Hid (Yc l i=Yc l i):=by show _=_;rfl
  clear K;by_cases B:Yc l i=s
  ·have HI:Hid (ZJ l s=i):=DQ D B I.out;rw[B]at q1;clear B O;go_wp2;go_ret;exact⟨by rw[HI.out];rfl,rfl⟩
  ·have HN:Hid (Yc l i≠s):=B;have h1:=XT (Ne.symm B);have h2:=YT (Ne.symm B);have h3:=Y8 (Ne.symm B);clear B O;generalize U:Yc l i=t at *;have HT:Hid (Yc l i=t):=U;clear U;go_wp2
   go_round
   case rel=>exact⟨i+1,by omega,by go_num,fun j H=>by
    rcases bw j i with h|h
    ·exact I.out j h
    ·obtain rfl:j=i:=by omega
     rw[HT.out];exact HN.out⟩
   case measure=>simp[intOf];omega
theorem vN (p:Option aO)(l:List BA)(c:Nat)(s:BA)(w:World)(K:l.length<=1000000)(H:Strs w p l):
 aA Tryz.prog 51 #[.slice p l.length c,.string s] w fun e w'=>e=.returned (.bool (Xu l s))/\w'=w:=by
 by_cases h:s∈l
 ·have I:Hid (Xu l s=ai):=Zl.2 h;have B:=SY p l c s w K H h;rw[I.out];clear h H;generalize ZJ l s=k at *;go_enter Tryz.func51,Tryz.ntmps51;go_wp2_with fail
  refine B.mono ?_;rintro e J ⟨rfl,D⟩;rw[D];clear D J B;go_wp2;go_ret;exact⟨rfl,rfl⟩
 ·have I:Hid (Xu l s=am):=an.2 fun O=>h (Zl.1 O)
  have B:=P3 p l c s w K H h;rw[I.out];clear h H;go_enter Tryz.func51,Tryz.ntmps51;go_wp2_with fail
  refine B.mono ?_;rintro e J ⟨rfl,D⟩;rw[D];clear D J B;go_wp2;go_ret;exact⟨rfl,rfl⟩
structure E3 (w:World) (ad:Nat->aO):Prop where
 c1:w.cell? ⟨0,0,N⟩=ac (.iface 287 (.pointer (ac (ad 1))))
 c3:w.cell? ⟨5,0,N⟩=ac (.iface 287 (.pointer (ac (ad 3))))
 c5:w.cell? ⟨3,0,N⟩=ac (.iface 287 (.pointer (ac (ad 5))))
theorem E3.below (h:E3 w ad)(B:ap w.heap.size w w'):E3 w' ad:=⟨(B.cell (Yl h.c1)).trans h.c1,(B.cell (Yl h.c3)).trans h.c3,(B.cell (Yl h.c5)).trans h.c5⟩
theorem zP (i:Nat)(B:i<12)(at_:Int)(D:w'=w.alloc (.cells #[.int .i64 at_,.iface 287 (.pointer (ac (ad i)))] t)):Jd w' ad (.iface 75 (.pointer (ac ⟨w.heap.size,0,N⟩))) ((i+1:Nat):Int) at_:=by
 subst D;refine aB (aB ⟨i,w.heap.size,B,rfl,rfl,?_,?_⟩)
 ·rw[World.cell?_alloc_at _ _ _ _ rfl];rfl
 ·rw[World.cell?_alloc_at _ _ _ _ rfl];rfl
theorem SA (ad:Nat->aO)(p:Option aO)(l:List BA)(c:Nat)(w:World)(O:l.length<=1000)(H:E3 w ad)(h:l.length<1∨16<l.length):
 aA Tryz.prog 28 #[.slice p l.length c] w fun e w'=>(∃B,e=.returned B/\Jd w' ad B 2 (-1))/\ap w.heap.size w w':=by
 have J:=H.c1;have D:Hid (∀W,Jd W ad (.iface 287 (.pointer (ac (ad 1)))) 2 (-1)):=fun W=>Jd.b8 1 (by decide)
 clear H;rcases h with h|h
 ·have I:decide ((l.length:Int)<1)=true:=decide_eq_true (by omega);go_enter Tryz.func28,Tryz.ntmps28;go_wp2;go_ret;exact⟨⟨_,rfl,D.out _⟩,Below.refl _ _⟩
 ·have I:decide ((l.length:Int)<1)=false:=decide_eq_false (by omega);have K:=decide_eq_true (by omega);go_enter Tryz.func28,Tryz.ntmps28;go_wp2;go_ret;exact⟨⟨_,rfl,D.out _⟩,Below.refl _ _⟩
theorem MA (ad:Nat->aO)(p:Option aO)(l:List BA)(c:Nat)(w:World)(h1:¬l.length<1)(h2:¬16<l.length)(hc:l.length<=c)(hs:Strs w p l)(hE:E3 w ad):
 aA Tryz.prog 28 #[.slice p l.length c] w fun e w'=>(∃ev,e=.returned ev/\Jd w' ad ev (XO l 0 l.length).1 (XO l 0 l.length).2)/\ap w.heap.size w w':=by
 have HS:Hid (Strs w p l):=hs;have HE:Hid _:=hE;have g1:=decide_eq_false (by omega);have g2:=decide_eq_false (by omega);obtain⟨b,o,rfl⟩:∃b o,p=ac ⟨b,o,N⟩:=by
  rcases hs with h0|⟨b,o,hp,_⟩
  ·rw[h0]at h1;exact absurd (by decide) h1
  ·exact⟨b,o,hp⟩
 clear hs hE;obtain⟨R,hR⟩:=Xb (XO l 0 l.length);rw[<-hR];have HR:Hid _:=hR;clear hR;go_enter Tryz.func28,Tryz.ntmps28;go_wp2;go_loopw [16] (fun x wq=>∃i:Nat,i<=l.length/\x=.int .i64 i/\XO l i (l.length-i)=R/\ap w.heap.size w wq) (fun x _=>l.length-(intOf x).toNat)
 case atStart=>exact⟨0,zg _,rfl,HR.out.symm,Below.refl _ _⟩
 case round =>
  obtain⟨i,hi,rfl,a9,a5⟩:=hrel;obtain⟨w1,rfl⟩:=Xb wr;have H:Hid _:=a9;have J:Hid _:=a5;have a6:Hid (Strs w1 (ac ⟨b,o,N⟩) l):=HS.out.below a5;have b0:Hid (E3 w1 ad):=HE.out.below a5;clear a9 a5 HR HS HE;by_cases a7:i<l.length
  ·have q3:w1.cell? ⟨b,o+i,N⟩=ac (.string (Yc l i)):=by
    rcases a6.out with h0|⟨b',o',hp,_,b1⟩
    ·rw[h0]at a7;exact absurd a7 (ak _)
    ·obtain⟨rfl,rfl⟩:b=b'/\o=o':=by simpa using hp
     exact b1 i a7
   have I:Hid (∀W,aA Tryz.prog 50 #[.string (Yc l i)] W fun e w'=>e=.returned (.bool (Jo (Yc l i)))/\ap W.heap.size W w'):=fun W=>qF _ W
   have a0:Hid (XO l i (l.length-i)=if Yu l i=0 then XO l (i+1) (l.length-(i+1))else(((Yu l i:Nat):Int),(i:Int))):=by
    show _=_;rw[show l.length-i=(l.length-(i+1))+1 by omega];rfl
   by_cases K:Jo (Yc l i)=ai
   ·have O:Hid (∀W,Strs W (ac ⟨b,o,N⟩) (l.take i)->aA Tryz.prog 51 #[.slice (ac ⟨b,o,N⟩) (l.take i).length c,.string (Yc l i)] W fun e w'=>e=.returned (.bool (Xu (l.take i) (Yc l i)))/\w'=W):=fun W hW=>vN _ _ c _ W (by rw[aq];omega) hW
    rw[show(l.take i).length=i by rw[aq];omega]at O;rw[K]at I;by_cases hM:Yc l i∈l.take i
    ·have U:Hid (R=(6,(i:Int))):=by
      show _=_;rw[<-H.out,a0.out,TL K hM,if_neg (by decide)];rfl
     rw[Zl.2 hM]at O;clear H a0 K hM;generalize Yc l i=t at *;go_wp2_with fail
     refine(I.out _).mono ?_;rintro e D ⟨rfl,B⟩;have Z:Hid (ap w.heap.size w D):=J.out.trans (B.mono J.out.size);have a2:Hid (Strs D (ac ⟨b,o,N⟩) (l.take i)):=(a6.out.below B).take i;have a3:E3 D ad:=b0.out.below B;have q4:=a3.c5;clear a3 B I q3;go_wp2_with fail
     refine(O.out _ a2.out).mono ?_;rintro e w3 ⟨rfl,a4⟩;rw[a4];clear a4 w3 O a2;go_wp2;go_ret;exact⟨⟨_,rfl,by rw[U.out];exact zP (w:=D) 5 (by decide) (i:Int) rfl⟩,Z.out.alloc Z.out.size _⟩
    ·have U:Hid (XO l (i+1) (l.length-(i+1))=R):=by
      show _=_;rw[<-H.out,a0.out,ET K hM,if_pos rfl]
     rw[an.2 (fun h=>hM (Zl.1 h))]at O;clear H a0 K hM;generalize Yc l i=t at *;go_wp2_with fail
     refine(I.out _).mono ?_;rintro e D ⟨rfl,B⟩;have Z:Hid (ap w.heap.size w D):=J.out.trans (B.mono J.out.size);have a2:Hid (Strs D (ac ⟨b,o,N⟩) (l.take i)):=(a6.out.below B).take i;clear B I q3;go_wp2_with fail
     refine(O.out _ a2.out).mono ?_;rintro e w3 ⟨rfl,a4⟩;rw[a4];clear a4 w3 O a2;go_wp2;go_roundw
     case rel=>exact⟨i+1,by omega,by go_num,U.out,Z.out⟩
     case measure=>simp[intOf];omega
   ·have a8:Jo (Yc l i)=false:=an.2 K;have U:Hid (R=(4,(i:Int))):=by
     show _=_;rw[<-H.out,a0.out,Jj1 a8,if_neg (by decide)];rfl
    rw[a8]at I;clear H a0 K a8;generalize Yc l i=t at *;go_wp2_with fail
    refine(I.out _).mono ?_;rintro e D ⟨rfl,B⟩;have Z:Hid (ap w.heap.size w D):=J.out.trans (B.mono J.out.size);have a3:E3 D ad:=b0.out.below B;have q4:=a3.c3;clear a3 B I q3;go_wp2;go_ret;exact⟨⟨_,rfl,by rw[U.out];exact zP (w:=D) 3 (by decide) (i:Int) rfl⟩,Z.out.alloc Z.out.size _⟩
  ·have b2:i=l.length:=by omega
   subst b2;have U:Hid (R=(0,-1)):=by
    show _=_;rw[<-H.out,zd];rfl
   clear H;go_wp2;go_ret;exact⟨⟨_,rfl,by rw[U.out];exact Jd.nil _ _⟩,J.out⟩
theorem IF (ad:Nat->aO)(p:Option aO)(l:List BA)(c:Nat)(w:World)(H:l.length<=1000)(I:l.length<=c)(J:Strs w p l)(D:E3 w ad):
 aA Tryz.prog 28 #[.slice p l.length c] w fun e w'=>(∃B,e=.returned B/\Jd w' ad B (Xj l).1 (Xj l).2)/\ap w.heap.size w w':=by
 by_cases h:l.length<1∨16<l.length
 ·rw[E7 h];exact SA ad p l c w H D h
 ·rw[AB (by omega) (by omega)];exact MA ad p l c w (by omega) (by omega) I J D
theorem Xs (t:BA)(w:World)(J:t.size<=140737488351232):aA Tryz.prog 19 #[.string t] w fun e w'=>e=.returned (.string t)/\ap w.heap.size w w':=by
 have D:Hid (∀W,aA Tryz.prog 35 #[.string t] W fun e w'=>e=.returned (.string t)/\ap W.heap.size W w'):=fun W=>Tryz.stringslite_Clone t W (by omega)
 go_enter Tryz.func19,Tryz.ntmps19;go_wp2_with fail
 refine(D.out _).mono ?_;rintro e H ⟨rfl,B⟩;have I:Hid (ap w.heap.size w H):=B;clear B;go_wp2;go_ret;exact⟨rfl,I.out⟩
section
variable {w w':World} {B:Nat} {S:Nat->Prop} {ab:Nat} {a:Za} {mv nv fv lv:al} {vs:List al}
def lT (w:World)(D:List al)(LL:List (List Yb)):Prop:=D.length=LL.length/\∀i,i<LL.length->∃q c,D[i]?=ac (.slice q (LL.getD i []).length c)/\Ql Ze w q (LL.getD i [])/\(LL.getD i []).length<=c/\(q=N->LL.getD i []=[]/\c=0)
theorem lT.snoc {w:World}{H:List al}{row:List Yb}(h:lT w H LL)(h2:Ql Ze w q row)(h3:row.length<=c)(h4:q=N->row=[]/\c=0):lT w (H++ [.slice q row.length c]) (LL++ [row]):=by
 refine⟨by simp[h.1],fun i I=>?_⟩;rw[aj,List.length_singleton]at I;by_cases D:i<LL.length
 ·obtain⟨J,K,O,U,Z,g4⟩:=h.2 i D;have e:(LL++ [row]).getD i []=LL.getD i []:=by rw[aa,aa,ar D]
  rw[e];exact⟨J,K,by rw[ar (by rw[h.1];exact D)];exact O,U,Z,g4⟩
 ·obtain rfl:i=LL.length:=by omega
  have e:(LL++ [row]).getD LL.length []=row:=by rw[aa,ao nR,zd];rfl
  rw[e];exact⟨q,c,by rw[ao (by rw[h.1];exact aw _),h.1,zd];rfl,h2,h3,h4⟩
theorem lT.wO {w w':World}{B:Nat}{D:List al}(h:lT w D LL)(hb:ap w.heap.size w w')(ho:JM w' B T v D):∃p c,v=.slice p LL.length c/\eU w' p LL:=by
 rcases ho.cells with⟨rfl,rfl⟩|⟨g,cap,rfl,hB,H,I⟩
 ·have:LL=[]:=List.length_eq_zero_iff.1 h.1.symm;subst this;exact⟨N,0,rfl,be rfl⟩
 ·refine⟨ac ⟨g,0,N⟩,cap,by rw[h.1],aB ⟨g,0,rfl,H,fun i J=>?_⟩⟩;obtain⟨q,c,K,O,U,Z⟩:=h.2 i J;exact⟨q,c,by rw[bv];exact I i _ K,O.below hb,U,Z⟩
end
end Go.Proofs.YtgapmoniajcliaaGreatDoor
