/- Texts laid together. -/
import Derived.Test.YtmbpfbhpmafheaaGreatDoorHs2
import Derived.Lib.AtoiAll
import Derived.Lib.ItoaNum
import Derived.Lib.IndexMore
import Derived.Shelf.LaysC
import Derived.Shelf.Strconv.Itoa3
import Derived.Shelf.Strconv.AtoiAll
import Derived.Shelf.Strconv.ErrVarAll
import Derived.Shelf.Strings.Cut
import Derived.Shelf.Strings.BuilderK
import Derived.Lib.OthersKept
import Derived.Lib.FrozenHead
import Derived.Laws.Externs
import Derived.Deep.QuietTactic
import Derived.BigQuiet
import Derived.Maps.RangeWalk
import Derived.Maps.OwnOps
import Derived.Maps.OwnSet
import Derived.Shelf.SlLaysE0
import Derived.Shelf.SortM.Plain
import Derived.Shelf.SortM.SortNone
import Derived.Shelf.SlicesE.Clone
import Derived.Shelf.SlSortCmp.QuietGrown
namespace Go.Proofs
open Go.Shelf
def Tryz.lays171_ren : Go.Shelf.Ren := ⟨fun | 171 => 49 | 243 => 76 | 246 => 95 | 283 => 117 | 284 => 118 | 285 => 119 | 286 => 120 | 129 => 108 | 317 => 133 | 318 => 134 | 319 => 135 | 320 => 136 | 337 => 142 | 338 => 143 | n => n, fun | 3 => 3 | 9 => 9 | 2 => 2 | 4 => 4 | 171 => 181 | 0 => 0 | 53 => 171 | 37 => 53 | 5 => 5 | 173 => 183 | 212 => 199 | 51 => 99 | 20 => 20 | 213 => 200 | 46 => 54 | 232 => 209 | 233 => 210 | n => n, fun | 17 => 16 | 18 => 17 | 19 => 18 | n => n⟩
theorem Tryz.lays171 : Go.Proofs.LaysM.n171 Tryz.prog Tryz.lays171_ren := {
  mixed := by kernel_rfl
  f129 := Tryz.func108.trans (congrArg some (by kernel_rfl))
  f171 := Tryz.func49.trans (congrArg some (by kernel_rfl))
  f243 := Tryz.func76.trans (congrArg some (by kernel_rfl))
  f246 := Tryz.func95.trans (congrArg some (by kernel_rfl))
  f283 := Tryz.func117.trans (congrArg some (by kernel_rfl))
  f284 := Tryz.func118.trans (congrArg some (by kernel_rfl))
  f285 := Tryz.func119.trans (congrArg some (by kernel_rfl))
  f286 := Tryz.func120.trans (congrArg some (by kernel_rfl))
  f317 := Tryz.func133.trans (congrArg some (by kernel_rfl))
  f318 := Tryz.func134.trans (congrArg some (by kernel_rfl))
  f319 := Tryz.func135.trans (congrArg some (by kernel_rfl))
  f320 := Tryz.func136.trans (congrArg some (by kernel_rfl))
  f337 := Tryz.func142.trans (congrArg some (by kernel_rfl))
  f338 := Tryz.func143.trans (congrArg some (by kernel_rfl))
  t0 := Tryz.underlying0
  a0 := Tryz.isAgg0
  z0 := Tryz.sizeOf0
  v0 := Tryz.zeroValue0
  t2 := Tryz.underlying2
  a2 := Tryz.isAgg2
  z2 := Tryz.sizeOf2
  v2 := Tryz.zeroValue2
  t3 := Tryz.underlying3
  a3 := Tryz.isAgg3
  z3 := Tryz.sizeOf3
  v3 := Tryz.zeroValue3
  t4 := Tryz.underlying4
  a4 := Tryz.isAgg4
  z4 := Tryz.sizeOf4
  v4 := Tryz.zeroValue4
  t5 := Tryz.underlying5
  a5 := Tryz.isAgg5
  z5 := Tryz.sizeOf5
  v5 := Tryz.zeroValue5
  t9 := Tryz.underlying9
  a9 := Tryz.isAgg9
  z9 := Tryz.sizeOf9
  v9 := Tryz.zeroValue9
  t20 := Tryz.underlying20
  a20 := Tryz.isAgg20
  z20 := Tryz.sizeOf20
  v20 := Tryz.zeroValue20
  t37 := Tryz.underlying53
  a37 := Tryz.isAgg53
  z37 := Tryz.sizeOf53
  v37 := Tryz.zeroValue53
  t46 := Tryz.underlying54
  a46 := Tryz.isAgg54
  z46 := Tryz.sizeOf54
  v46 := Tryz.zeroValue54
  t51 := Tryz.underlying99
  a51 := Tryz.isAgg99
  z51 := Tryz.sizeOf99
  v51 := Tryz.zeroValue99
  t53 := Tryz.underlying171
  a53 := Tryz.isAgg171
  z53 := Tryz.sizeOf171
  v53 := Tryz.zeroValue171
  t171 := Tryz.underlying181
  a171 := Tryz.isAgg181
  z171 := Tryz.sizeOf181
  v171 := Tryz.zeroValue181
  t173 := Tryz.underlying183
  a173 := Tryz.isAgg183
  z173 := Tryz.sizeOf183
  v173 := Tryz.zeroValue183
  t212 := Tryz.underlying199
  a212 := Tryz.isAgg199
  z212 := Tryz.sizeOf199
  v212 := Tryz.zeroValue199
  t213 := Tryz.underlying200
  a213 := Tryz.isAgg200
  z213 := Tryz.sizeOf200
  t232 := Tryz.underlying209
  a232 := Tryz.isAgg209
  z232 := Tryz.sizeOf209
  v232 := Tryz.zeroValue209
  t233 := Tryz.underlying210
  a233 := Tryz.isAgg210
  z233 := Tryz.sizeOf210
  v233 := Tryz.zeroValue210
  g17 := by kernel_rfl
  g18 := by kernel_rfl
  g19 := by kernel_rfl
  i0 := by kernel_rfl
  i2 := by kernel_rfl
  i3 := by kernel_rfl
  i4 := by kernel_rfl
  i5 := by kernel_rfl
  i9 := by kernel_rfl
  i20 := by kernel_rfl
  i37 := by kernel_rfl
  i46 := by kernel_rfl
  i51 := by kernel_rfl
  i53 := by kernel_rfl
  i171 := by kernel_rfl
  i173 := by kernel_rfl
  i212 := by kernel_rfl
  i232 := by kernel_rfl
  i233 := by kernel_rfl
  m17 := by kernel_rfl
  m18 := by kernel_rfl
  m19 := by kernel_rfl }
open Go.RowKit Go.Sort in
/-- strconv.Itoa. -/
theorem Tryz.strconv_Itoa (n : Int) (h0 : -9223372036854775808 ≤ n) (h1 : n ≤ 9223372036854775807) (w : World) (htab : Lib.TabIs Tryz.prog w "internal/strconv.uint64pow10" .u64 Lib.pow10Tab) :
    Calls Tryz.prog 49 #[.int .i64 n] w fun e w' => e = .returned (.string ⟨(Lib.itoa n).toArray⟩) ∧ ∃ k os, w' = grow (w.drewN k) os := Any.strconv_Itoa Tryz.lays171 n h0 h1 w htab
def Tryz.lays172_ren : Go.Shelf.Ren := ⟨fun | 172 => 72 | 244 => 92 | 245 => 93 | 247 => 112 | 279 => 113 | 280 => 114 | 281 => 115 | 282 => 116 | 287 => 131 | 316 => 70 | 171 => 49 | 205 => 132 | 321 => 140 | 322 => 141 | 243 => 76 | 246 => 95 | 283 => 117 | 284 => 118 | 285 => 119 | 286 => 120 | 129 => 108 | 317 => 133 | 318 => 134 | 319 => 135 | 320 => 136 | 337 => 142 | 338 => 143 | n => n, fun | 9 => 9 | 3 => 3 | 75 => 25 | 76 => 72 | 4 => 4 | 5 => 5 | 167 => 175 | 37 => 53 | 0 => 0 | 85 => 176 | 2 => 2 | 168 => 178 | 53 => 171 | 175 => 193 | 46 => 54 | 210 => 196 | 127 => 122 | 145 => 208 | 143 => 206 | 21 => 21 | 171 => 181 | 173 => 183 | 212 => 199 | 51 => 99 | 20 => 20 | 213 => 200 | 232 => 209 | 233 => 210 | 80 => 98 | n => n, fun | 15 => 14 | 16 => 15 | 17 => 16 | 18 => 17 | 19 => 18 | n => n⟩
theorem Tryz.lays172 : Go.Proofs.LaysC.n172 Tryz.prog Tryz.lays172_ren := {
  mixed := by kernel_rfl
  f129 := Tryz.func108.trans (congrArg some (by kernel_rfl))
  f171 := Tryz.func49.trans (congrArg some (by kernel_rfl))
  f172 := Tryz.func72.trans (congrArg some (by kernel_rfl))
  f205 := Tryz.func132.trans (congrArg some (by kernel_rfl))
  f243 := Tryz.func76.trans (congrArg some (by kernel_rfl))
  f244 := Tryz.func92.trans (congrArg some (by kernel_rfl))
  f245 := Tryz.func93.trans (congrArg some (by kernel_rfl))
  f246 := Tryz.func95.trans (congrArg some (by kernel_rfl))
  f247 := Tryz.func112.trans (congrArg some (by kernel_rfl))
  f279 := Tryz.func113.trans (congrArg some (by kernel_rfl))
  f280 := Tryz.func114.trans (congrArg some (by kernel_rfl))
  f281 := Tryz.func115.trans (congrArg some (by kernel_rfl))
  f282 := Tryz.func116.trans (congrArg some (by kernel_rfl))
  f283 := Tryz.func117.trans (congrArg some (by kernel_rfl))
  f284 := Tryz.func118.trans (congrArg some (by kernel_rfl))
  f285 := Tryz.func119.trans (congrArg some (by kernel_rfl))
  f286 := Tryz.func120.trans (congrArg some (by kernel_rfl))
  f287 := Tryz.func131.trans (congrArg some (by kernel_rfl))
  f316 := Tryz.func70.trans (congrArg some (by kernel_rfl))
  f317 := Tryz.func133.trans (congrArg some (by kernel_rfl))
  f318 := Tryz.func134.trans (congrArg some (by kernel_rfl))
  f319 := Tryz.func135.trans (congrArg some (by kernel_rfl))
  f320 := Tryz.func136.trans (congrArg some (by kernel_rfl))
  f321 := Tryz.func140.trans (congrArg some (by kernel_rfl))
  f322 := Tryz.func141.trans (congrArg some (by kernel_rfl))
  f337 := Tryz.func142.trans (congrArg some (by kernel_rfl))
  f338 := Tryz.func143.trans (congrArg some (by kernel_rfl))
  t0 := Tryz.underlying0
  a0 := Tryz.isAgg0
  z0 := Tryz.sizeOf0
  v0 := Tryz.zeroValue0
  t2 := Tryz.underlying2
  a2 := Tryz.isAgg2
  z2 := Tryz.sizeOf2
  v2 := Tryz.zeroValue2
  t3 := Tryz.underlying3
  a3 := Tryz.isAgg3
  z3 := Tryz.sizeOf3
  v3 := Tryz.zeroValue3
  t4 := Tryz.underlying4
  a4 := Tryz.isAgg4
  z4 := Tryz.sizeOf4
  v4 := Tryz.zeroValue4
  t5 := Tryz.underlying5
  a5 := Tryz.isAgg5
  z5 := Tryz.sizeOf5
  v5 := Tryz.zeroValue5
  t9 := Tryz.underlying9
  a9 := Tryz.isAgg9
  z9 := Tryz.sizeOf9
  v9 := Tryz.zeroValue9
  t20 := Tryz.underlying20
  a20 := Tryz.isAgg20
  z20 := Tryz.sizeOf20
  v20 := Tryz.zeroValue20
  t21 := Tryz.underlying21
  a21 := Tryz.isAgg21
  z21 := Tryz.sizeOf21
  v21 := Tryz.zeroValue21
  t37 := Tryz.underlying53
  a37 := Tryz.isAgg53
  z37 := Tryz.sizeOf53
  v37 := Tryz.zeroValue53
  t46 := Tryz.underlying54
  a46 := Tryz.isAgg54
  z46 := Tryz.sizeOf54
  v46 := Tryz.zeroValue54
  t51 := Tryz.underlying99
  a51 := Tryz.isAgg99
  z51 := Tryz.sizeOf99
  v51 := Tryz.zeroValue99
  t53 := Tryz.underlying171
  a53 := Tryz.isAgg171
  z53 := Tryz.sizeOf171
  v53 := Tryz.zeroValue171
  t75 := Tryz.underlying25
  a75 := Tryz.isAgg25
  z75 := Tryz.sizeOf25
  v75 := Tryz.zeroValue25
  t76 := Tryz.underlying72
  a76 := Tryz.isAgg72
  z76 := Tryz.sizeOf72
  v76 := Tryz.zeroValue72
  t85 := Tryz.underlying176
  a85 := Tryz.isAgg176
  z85 := Tryz.sizeOf176
  v85 := Tryz.zeroValue176
  t127 := Tryz.underlying122
  a127 := Tryz.isAgg122
  z127 := Tryz.sizeOf122
  v127 := Tryz.zeroValue122
  t143 := Tryz.underlying206
  a143 := Tryz.isAgg206
  z143 := Tryz.sizeOf206
  v143 := Tryz.zeroValue206
  t145 := Tryz.underlying208
  a145 := Tryz.isAgg208
  z145 := Tryz.sizeOf208
  v145 := Tryz.zeroValue208
  t167 := Tryz.underlying175
  a167 := Tryz.isAgg175
  z167 := Tryz.sizeOf175
  v167 := Tryz.zeroValue175
  t168 := Tryz.underlying178
  a168 := Tryz.isAgg178
  z168 := Tryz.sizeOf178
  v168 := Tryz.zeroValue178
  t171 := Tryz.underlying181
  a171 := Tryz.isAgg181
  z171 := Tryz.sizeOf181
  v171 := Tryz.zeroValue181
  t173 := Tryz.underlying183
  a173 := Tryz.isAgg183
  z173 := Tryz.sizeOf183
  v173 := Tryz.zeroValue183
  t175 := Tryz.underlying193
  a175 := Tryz.isAgg193
  z175 := Tryz.sizeOf193
  v175 := Tryz.zeroValue193
  t210 := Tryz.underlying196
  a210 := Tryz.isAgg196
  z210 := Tryz.sizeOf196
  v210 := Tryz.zeroValue196
  t212 := Tryz.underlying199
  a212 := Tryz.isAgg199
  z212 := Tryz.sizeOf199
  v212 := Tryz.zeroValue199
  t213 := Tryz.underlying200
  a213 := Tryz.isAgg200
  z213 := Tryz.sizeOf200
  t232 := Tryz.underlying209
  a232 := Tryz.isAgg209
  z232 := Tryz.sizeOf209
  v232 := Tryz.zeroValue209
  t233 := Tryz.underlying210
  a233 := Tryz.isAgg210
  z233 := Tryz.sizeOf210
  v233 := Tryz.zeroValue210
  g15 := by kernel_rfl
  g16 := by kernel_rfl
  g17 := by kernel_rfl
  g18 := by kernel_rfl
  g19 := by kernel_rfl
  t80 := Tryz.underlying98
  a80 := Tryz.isAgg98
  z80 := Tryz.sizeOf98
  v80 := Tryz.zeroValue98
  i0 := by kernel_rfl
  i2 := by kernel_rfl
  i3 := by kernel_rfl
  i4 := by kernel_rfl
  i5 := by kernel_rfl
  i9 := by kernel_rfl
  i20 := by kernel_rfl
  i21 := by kernel_rfl
  i37 := by kernel_rfl
  i46 := by kernel_rfl
  i51 := by kernel_rfl
  i53 := by kernel_rfl
  i75 := by kernel_rfl
  i76 := by kernel_rfl
  i80 := by kernel_rfl
  i85 := by kernel_rfl
  i127 := by kernel_rfl
  i143 := by kernel_rfl
  i145 := by kernel_rfl
  i167 := by kernel_rfl
  i168 := by kernel_rfl
  i171 := by kernel_rfl
  i173 := by kernel_rfl
  i175 := by kernel_rfl
  i210 := by kernel_rfl
  i212 := by kernel_rfl
  i232 := by kernel_rfl
  i233 := by kernel_rfl
  m15 := by kernel_rfl
  m16 := by kernel_rfl
  m17 := by kernel_rfl
  m18 := by kernel_rfl
  m19 := by kernel_rfl
  c0 := by kernel_rfl
  c2 := by kernel_rfl
  c3 := by kernel_rfl
  c4 := by kernel_rfl
  c5 := by kernel_rfl
  c9 := by kernel_rfl
  c20 := by kernel_rfl
  c21 := by kernel_rfl
  c37 := by kernel_rfl
  c46 := by kernel_rfl
  c51 := by kernel_rfl
  c53 := by kernel_rfl
  c75 := by kernel_rfl
  c76 := by kernel_rfl
  c80 := by kernel_rfl
  c85 := by kernel_rfl
  c127 := by kernel_rfl
  c143 := by kernel_rfl
  c145 := by kernel_rfl
  c167 := by kernel_rfl
  c168 := by kernel_rfl
  c171 := by kernel_rfl
  c173 := by kernel_rfl
  c175 := by kernel_rfl
  c210 := by kernel_rfl
  c212 := by kernel_rfl
  c213 := by kernel_rfl
  c232 := by kernel_rfl
  c233 := by kernel_rfl }
open Go.RowKit in
/-- strconv.Atoi where it succeeds. -/
theorem Tryz.strconv_Atoi_ok (s : ByteArray) (hmax : s.size ≤ 9223372036854775806) (v : Int) (h : Lib.atoiAll s.data.toList = .ok v) (w : World) :
    Calls Tryz.prog 72 #[.string s] w fun e w' => e = .returned (.tuple #[.int .i64 v, .nilIface]) ∧ (w' = w ∨ ∃ t, w' = Lib.bytesWorld w 5 t) := Any.strconv_Atoi_ok Tryz.lays172 s hmax v h w
open Go.RowKit in
/-- strconv.Atoi of what is no number. -/
theorem Tryz.strconv_Atoi_syntax (s : ByteArray) (hlim : s.size ≤ 281474976710656) (h : Lib.atoiAll s.data.toList = .«syntax») (tp : TypeId) (p : Value) (w : World) (hvar : w.var? Tryz.prog "strconv.ErrSyntax" = some #[.iface tp p]) :
    Calls Tryz.prog 72 #[.string s] w fun e w' => (∃ N, e = .returned (.tuple #[.int .i64 0, .iface 178 (.pointer (some ⟨N, 0, none⟩))])) ∧ Below w.heap.size w w' :=
  (Any.strconv_Atoi_syntax_var Tryz.lays172 s hlim h tp p w hvar).mono fun e w' hp => by obtain ⟨N, he, hr⟩ := hp; exact ⟨⟨N, he⟩, hr.2.2⟩
open Go.RowKit in
/-- strconv.Atoi of a number that is too great. -/
theorem Tryz.strconv_Atoi_range (s : ByteArray) (hlim : s.size ≤ 281474976710656) (h : Lib.atoiAll s.data.toList = .range) (tp : TypeId) (p : Value) (w : World) (hvar : w.var? Tryz.prog "strconv.ErrRange" = some #[.iface tp p]) :
    Calls Tryz.prog 72 #[.string s] w fun e w' => (∃ N, e = .returned (.tuple #[.int .i64 (Lib.atoiSat s.data.toList), .iface 178 (.pointer (some ⟨N, 0, none⟩))])) ∧ Below w.heap.size w w' :=
  (Any.strconv_Atoi_range_var Tryz.lays172 s hlim h tp p w hvar).mono fun e w' hp => by obtain ⟨N, he, hr⟩ := hp; exact ⟨⟨N, he⟩, hr.2.2⟩
def Tryz.lays145_ren : Go.Shelf.Ren := ⟨fun | 145 => 71 | 220 => 91 | 219 => 111 | 217 => 127 | 225 => 128 | 224 => 129 | 267 => 130 | 266 => 138 | 314 => 139 | n => n, fun | 9 => 9 | 4 => 4 | 59 => 120 | 3 => 3 | 5 => 5 | 46 => 54 | 146 => 203 | 51 => 99 | n => n, fun | 1 => 13 | n => n⟩
theorem Tryz.lays145 : Go.Proofs.Lays.n145 Tryz.prog Tryz.lays145_ren := {
  mixed := by kernel_rfl
  f145 := Tryz.func71.trans (congrArg some (by kernel_rfl))
  f217 := Tryz.func127.trans (congrArg some (by kernel_rfl))
  f219 := Tryz.func111.trans (congrArg some (by kernel_rfl))
  f220 := Tryz.func91.trans (congrArg some (by kernel_rfl))
  f224 := Tryz.func129.trans (congrArg some (by kernel_rfl))
  f225 := Tryz.func128.trans (congrArg some (by kernel_rfl))
  f266 := Tryz.func138.trans (congrArg some (by kernel_rfl))
  f267 := Tryz.func130.trans (congrArg some (by kernel_rfl))
  f314 := Tryz.func139.trans (congrArg some (by kernel_rfl))
  t3 := Tryz.underlying3
  a3 := Tryz.isAgg3
  z3 := Tryz.sizeOf3
  v3 := Tryz.zeroValue3
  t4 := Tryz.underlying4
  a4 := Tryz.isAgg4
  z4 := Tryz.sizeOf4
  v4 := Tryz.zeroValue4
  t5 := Tryz.underlying5
  a5 := Tryz.isAgg5
  z5 := Tryz.sizeOf5
  v5 := Tryz.zeroValue5
  t9 := Tryz.underlying9
  a9 := Tryz.isAgg9
  z9 := Tryz.sizeOf9
  v9 := Tryz.zeroValue9
  t46 := Tryz.underlying54
  a46 := Tryz.isAgg54
  z46 := Tryz.sizeOf54
  v46 := Tryz.zeroValue54
  t51 := Tryz.underlying99
  a51 := Tryz.isAgg99
  z51 := Tryz.sizeOf99
  v51 := Tryz.zeroValue99
  t59 := Tryz.underlying120
  a59 := Tryz.isAgg120
  z59 := Tryz.sizeOf120
  v59 := Tryz.zeroValue120
  t146 := Tryz.underlying203
  a146 := Tryz.isAgg203
  z146 := Tryz.sizeOf203
  v146 := Tryz.zeroValue203
  g1 := by kernel_rfl }
open Go.RowKit in
/-- strings.Cut. -/
theorem Tryz.strings_Cut (s sep : ByteArray) (m : Int) (w : World) (hs : s.size < 4294967281) (hm : w.cell? ⟨13, 0, none⟩ = some (.int .i64 m)) :
    Calls Tryz.prog 71 #[.string s, .string sep] w fun e w' => e = .returned (.tuple #[.string ⟨(Lib.cut s.data.toList sep.data.toList).1.toArray⟩, .string ⟨(Lib.cut s.data.toList sep.data.toList).2.1.toArray⟩, .bool (Lib.cut s.data.toList sep.data.toList).2.2]) ∧ ∃ n, w' = w.drewN n := Any.strings_Cut Tryz.lays145 s sep m w hs hm
def Tryz.lays169_ren : Go.Shelf.Ren := ⟨fun | 169 => 52 | n => n, fun | 70 => 90 | 9 => 9 | 0 => 0 | 72 => 92 | 37 => 53 | 127 => 122 | 3 => 3 | 5 => 5 | n => n, fun | n => n⟩
theorem Tryz.lays169 : Go.Proofs.Lays.n169 Tryz.prog Tryz.lays169_ren := {
  mixed := by kernel_rfl
  f169 := Tryz.func52.trans (congrArg some (by kernel_rfl))
  t0 := Tryz.underlying0
  a0 := Tryz.isAgg0
  z0 := Tryz.sizeOf0
  v0 := Tryz.zeroValue0
  t3 := Tryz.underlying3
  a3 := Tryz.isAgg3
  z3 := Tryz.sizeOf3
  v3 := Tryz.zeroValue3
  t9 := Tryz.underlying9
  a9 := Tryz.isAgg9
  z9 := Tryz.sizeOf9
  v9 := Tryz.zeroValue9
  t37 := Tryz.underlying53
  a37 := Tryz.isAgg53
  z37 := Tryz.sizeOf53
  v37 := Tryz.zeroValue53
  t70 := Tryz.underlying90
  a70 := Tryz.isAgg90
  z70 := Tryz.sizeOf90
  v70 := Tryz.zeroValue90
  t72 := Tryz.underlying92
  a72 := Tryz.isAgg92
  z72 := Tryz.sizeOf92
  v72 := Tryz.zeroValue92
  t127 := Tryz.underlying122
  a127 := Tryz.isAgg122
  z127 := Tryz.sizeOf122
  v127 := Tryz.zeroValue122 }
theorem Tryz.Builder_Extra_169 : Builder.Extra Tryz.prog Tryz.lays169_ren := {
  sizeBuilder := by kernel_rfl
  liesBuilder := by kernel_rfl
  t5 := Tryz.underlying5
  a5 := Tryz.isAgg5
  z5 := Tryz.sizeOf5
  v5 := Tryz.zeroValue5
  infoByte := by kernel_rfl
  cellsByte := by kernel_rfl
  sizeByte := by kernel_rfl
  neB5 := by decide }
open Go.RowKit in
/-- strings.Builder: String. -/
theorem Tryz.Builder_String (B b : Nat) (l : List UInt8) (w : World) (h : Lib.IsBuilderF 92 5 B b (Lib.byteCells l) w) (hBw : B ≤ w.heap.size) :
    Calls Tryz.prog 52 #[.pointer (some ⟨b, 0, none⟩)] w fun e w' => e = .returned (.string ⟨l.toArray⟩) ∧ (Lib.IsBuilderF 92 5 B b (Lib.byteCells l) w' ∧ Below B w w' ∧ Lib.OthersKept 5 (some b) w w') := Any.Builder_String_any_k Tryz.lays169 Tryz.Builder_Extra_169 B b l w h hBw
end Go.Proofs
namespace Go.Proofs
open Go.Shelf
def Tryz.laysSort_ren : Go.Shelf.Ren := ⟨fun | 6 => 59 | 8 => 87 | 9 => 86 | 19 => 107 | 20 => 108 | 21 => 98 | 22 => 99 | 23 => 100 | 24 => 101 | 25 => 102 | 26 => 103 | 27 => 104 | 28 => 105 | 29 => 106 | 36 => 121 | 31 => 122 | 32 => 123 | 37 => 124 | 38 => 125 | 39 => 126 | 41 => 137 | n => n, fun | 27 => 77 | 29 => 9 | 3 => 3 | 32 => 54 | 26 => 77 | 0 => 0 | 44 => 99 | 46 => 171 | 4 => 4 | 36 => 163 | 35 => 162 | 41 => 80 | 5 => 5 | 9 => 9 | 53 => 185 | 57 => 189 | 63 => 201 | 64 => 66 | n => n, fun | n => n⟩
theorem Tryz.laysSort : Go.Proofs.SlLaysM.n6 Tryz.prog Tryz.laysSort_ren := {
  mixed := by kernel_rfl
  f6 := ⟨Tryz.f59.name, by decide, Tryz.func59.trans (congrArg some (by kernel_rfl))⟩
  f8 := Tryz.func87.trans (congrArg some (by kernel_rfl))
  f9 := ⟨Tryz.f86.name, by decide, Tryz.func86.trans (congrArg some (by kernel_rfl))⟩
  f19 := Tryz.func107.trans (congrArg some (by kernel_rfl))
  f20 := Tryz.func108.trans (congrArg some (by kernel_rfl))
  f21 := ⟨Tryz.f98.name, by decide, Tryz.func98.trans (congrArg some (by kernel_rfl))⟩
  f22 := ⟨Tryz.f99.name, by decide, Tryz.func99.trans (congrArg some (by kernel_rfl))⟩
  f23 := ⟨Tryz.f100.name, by decide, Tryz.func100.trans (congrArg some (by kernel_rfl))⟩
  f24 := ⟨Tryz.f101.name, by decide, Tryz.func101.trans (congrArg some (by kernel_rfl))⟩
  f25 := ⟨Tryz.f102.name, by decide, Tryz.func102.trans (congrArg some (by kernel_rfl))⟩
  f26 := ⟨Tryz.f103.name, by decide, Tryz.func103.trans (congrArg some (by kernel_rfl))⟩
  f27 := ⟨Tryz.f104.name, by decide, Tryz.func104.trans (congrArg some (by kernel_rfl))⟩
  f28 := ⟨Tryz.f105.name, by decide, Tryz.func105.trans (congrArg some (by kernel_rfl))⟩
  f29 := ⟨Tryz.f106.name, by decide, Tryz.func106.trans (congrArg some (by kernel_rfl))⟩
  f31 := Tryz.func122.trans (congrArg some (by kernel_rfl))
  f32 := Tryz.func123.trans (congrArg some (by kernel_rfl))
  f36 := ⟨Tryz.f121.name, by decide, Tryz.func121.trans (congrArg some (by kernel_rfl))⟩
  f37 := ⟨Tryz.f124.name, by decide, Tryz.func124.trans (congrArg some (by kernel_rfl))⟩
  f38 := ⟨Tryz.f125.name, by decide, Tryz.func125.trans (congrArg some (by kernel_rfl))⟩
  f39 := ⟨Tryz.f126.name, by decide, Tryz.func126.trans (congrArg some (by kernel_rfl))⟩
  f41 := ⟨Tryz.f137.name, by decide, Tryz.func137.trans (congrArg some (by kernel_rfl))⟩
  t0 := Tryz.underlying0
  a0 := Tryz.isAgg0
  z0 := Tryz.sizeOf0
  v0 := Tryz.zeroValue0
  t3 := Tryz.underlying3
  a3 := Tryz.isAgg3
  z3 := Tryz.sizeOf3
  v3 := Tryz.zeroValue3
  t4 := Tryz.underlying4
  a4 := Tryz.isAgg4
  z4 := Tryz.sizeOf4
  v4 := Tryz.zeroValue4
  t5 := Tryz.underlying5
  a5 := Tryz.isAgg5
  z5 := Tryz.sizeOf5
  v5 := Tryz.zeroValue5
  t9 := Tryz.underlying9
  a9 := Tryz.isAgg9
  z9 := Tryz.sizeOf9
  v9 := Tryz.zeroValue9
  t26 := Tryz.underlying77
  a26 := Tryz.isAgg77
  z26 := Tryz.sizeOf77
  v26 := Tryz.zeroValue77
  t27 := Tryz.underlying77
  a27 := Tryz.isAgg77
  z27 := Tryz.sizeOf77
  v27 := Tryz.zeroValue77
  t29 := Tryz.underlying9
  a29 := Tryz.isAgg9
  z29 := Tryz.sizeOf9
  v29 := Tryz.zeroValue9
  t32 := Tryz.underlying54
  a32 := Tryz.isAgg54
  z32 := Tryz.sizeOf54
  v32 := Tryz.zeroValue54
  t35 := Tryz.underlying162
  a35 := Tryz.isAgg162
  z35 := Tryz.sizeOf162
  v35 := Tryz.zeroValue162
  t36 := Tryz.underlying163
  a36 := Tryz.isAgg163
  z36 := Tryz.sizeOf163
  v36 := Tryz.zeroValue163
  t41 := Tryz.underlying80
  a41 := Tryz.isAgg80
  z41 := Tryz.sizeOf80
  v41 := Tryz.zeroValue80
  t44 := Tryz.underlying99
  a44 := Tryz.isAgg99
  z44 := Tryz.sizeOf99
  v44 := Tryz.zeroValue99
  t46 := Tryz.underlying171
  a46 := Tryz.isAgg171
  z46 := Tryz.sizeOf171
  v46 := Tryz.zeroValue171
  t53 := Tryz.underlying185
  a53 := Tryz.isAgg185
  z53 := Tryz.sizeOf185
  v53 := Tryz.zeroValue185
  t57 := Tryz.underlying189
  a57 := Tryz.isAgg189
  z57 := Tryz.sizeOf189
  v57 := Tryz.zeroValue189
  t63 := Tryz.underlying201
  a63 := Tryz.isAgg201
  z63 := Tryz.sizeOf201
  v63 := Tryz.zeroValue201
  t64 := Tryz.underlying66
  a64 := Tryz.isAgg66
  z64 := Tryz.sizeOf66
  v64 := Tryz.zeroValue66 }
open Go.RowKit Go.Sort in
/-- slices.Sort at texts. -/
theorem Tryz.slices_Sort (blk off cap : Nat) (ss : List (List UInt8)) (w : World) (hH : Holds encStr w blk off ss.toArray) (hblk : blk < w.heap.size) (hsz : ss.length < 4611686018427387904) :
    Calls Tryz.prog 59 #[.slice (some ⟨blk, off, none⟩) ss.length cap] w fun e w' =>
      e = .returned (.tuple #[]) ∧ ∃ n os, w' = grow (putRow encStr (Sort.ahead w n) blk off (ss.mergeSort fun x y => decide (x ≤ y)).toArray) os := AnyM.slices_Sort_string Tryz.laysSort blk off cap ss w hH hblk hsz
open Go.RowKit Go.Sort in
/-- slices.Sort of none. -/
theorem Tryz.slices_Sort_none (p : Option Addr) (cap : Nat) (w : World) :
    Calls Tryz.prog 59 #[.slice p 0 cap] w fun e w' => e = .returned (.tuple #[]) ∧ w' = w := AnyM.slices_Sort_string_none Tryz.laysSort p cap w
def Tryz.laysClone_ren : Go.Shelf.Ren := ⟨fun | 41 => 58 | n => n, fun | 22 => 57 | 23 => 49 | 4 => 4 | n => n, fun | n => n⟩
theorem Tryz.laysClone : Go.Proofs.SlLaysE0.n41 Tryz.prog Tryz.laysClone_ren := {
  mixed := by kernel_rfl
  f41 := ⟨Tryz.f58.name, by decide, Tryz.func58.trans (congrArg some (by kernel_rfl))⟩
  t4 := Tryz.underlying4
  a4 := Tryz.isAgg4
  z4 := Tryz.sizeOf4
  v4 := Tryz.zeroValue4
  t22 := Tryz.underlying57
  a22 := Tryz.isAgg57
  z22 := Tryz.sizeOf57
  v22 := Tryz.zeroValue57 }
open Go.RowKit in
/-- slices.Clone at versions. -/
theorem Tryz.slices_Clone (i0 : TypeInfo) (z : Value) (size bytes : Nat) (hi : Tryz.prog.info? 49 = some i0) (hz0 : i0.zero = some z) (hz1 : i0.size = size) (hz2 : i0.bytes = bytes) (hzs : z.cells.size = size) (hsz : 0 < size)
    (z23 : ∀ w, (Go.sizeOf 49).run Tryz.prog w = .ok size w) (b off n c : Nat) (news : List Value) (w : World) (hl : news.length = n * size) (hn : n ≤ maxLen) (hbig : n * bytes ≤ 140737488355328)
    (hc : ∀ j u, news[j]? = some u → w.cell? ⟨b, off + j, none⟩ = some u) (h1 : ∀ u ∈ news, u.oneCell' = true) :
    Calls Tryz.prog 58 #[.slice (some ⟨b, off, none⟩) n c] w fun e w' => ∃ v', e = .returned v' ∧ w'.ownsRow w.heap.size 49 size v' n news ∧ v' ≠ .slice none 0 0 ∧ Below w.heap.size w w' := AnyE.slices_Clone Tryz.laysClone i0 z size bytes hi hz0 hz1 hz2 hzs hsz z23 b off n c news w hl hn hbig hc h1
end Go.Proofs
namespace Go.Proofs.YtmbpfbhpmafheaaGreatDoor
open Go.RowKit
/-! how what is held is written -/
def wrN (n : Int) : List UInt8 := Lib.itoa n ++ [58]
def wrT (s : ByteArray) : List UInt8 := wrN (s.size : Int) ++ s.data.toList
def wrK (x : Kep) : List UInt8 := wrT x.1 ++ (wrN x.2.n ++ (wrN x.2.who ++ (wrN x.2.size ++ (wrN x.2.at_ ++ wrT x.2.text))))
def wrL (L : List Kep) : List UInt8 := L.flatMap wrK
def wrote (L : List Kep) (s : Bool) : List UInt8 := wrN (if s then 1 else 0) ++ wrL L
/-! how it is read: what is left, and whether it has failed -/
def numF (r : ByteArray) (f : Bool) : Int × ByteArray × Bool :=
  match Lib.atoiAll (Lib.cut r.data.toList [58]).1 with
  | .ok n => if (Lib.cut r.data.toList [58]).2.2 then (n, ofL (Lib.cut r.data.toList [58]).2.1, f) else (0, ofL [], true)
  | _ => (0, ofL [], true)
def textF (r : ByteArray) (f : Bool) : ByteArray × ByteArray × Bool :=
  if (numF r f).1 < 0 ∨ ((numF r f).2.1.size : Int) < (numF r f).1 then (ofL [], ofL [], true)
  else ((numF r f).2.1.extract 0 (numF r f).1.toNat, (numF r f).2.1.extract (numF r f).1.toNat (numF r f).2.1.size, (numF r f).2.2)
def verF (r : ByteArray) (f : Bool) : (ByteArray × Ver) × ByteArray × Bool :=
  let k := textF r f
  let a := numF k.2.1 k.2.2
  let b := numF a.2.1 a.2.2
  let c := numF b.2.1 b.2.2
  let d := numF c.2.1 c.2.2
  let t := textF d.2.1 d.2.2
  ((k.1, ⟨a.1, b.1, c.1, d.1, t.1⟩), t.2.1, t.2.2)
theorem dig_ok : ∀ (u : Nat) (l : List UInt8), u < 9223372036854775808 → Lib.parseUint10 0 (Lib.decDigits u ++ l) = Lib.parseUint10 u l := by
  intro u
  induction u using Nat.strongRecOn with
  | ind u ih =>
    intro l hu
    rw [Lib.decDigits]
    split
    · rename_i h
      rw [List.singleton_append]
      have e : (UInt8.ofNat (48 + u)).toNat = 48 + u := by rw [UInt8.toNat_ofNat']; exact Nat.mod_eq_of_lt (by omega)
      rw [Lib.parseUint10, e, if_pos (by omega), if_neg (by omega), if_neg (by omega)]
      congr 1
      omega
    · rename_i h
      rw [List.append_assoc, ih (u / 10) (by omega) _ (by omega), List.singleton_append]
      have e : (UInt8.ofNat (48 + u % 10)).toNat = 48 + u % 10 := by rw [UInt8.toNat_ofNat']; exact Nat.mod_eq_of_lt (by omega)
      rw [Lib.parseUint10, e, if_pos (by omega), if_neg (by omega), if_neg (by omega)]
      congr 1
      omega
theorem dig_mem : ∀ (u : Nat), ∀ c ∈ Lib.decDigits u, 48 ≤ c.toNat ∧ c.toNat ≤ 57 := by
  intro u
  induction u using Nat.strongRecOn with
  | ind u ih =>
    intro c hc
    rw [Lib.decDigits] at hc
    split at hc
    · rename_i h
      rw [List.mem_singleton.1 hc, UInt8.toNat_ofNat', Nat.mod_eq_of_lt (by omega)]
      omega
    · rename_i h
      rcases List.mem_append.1 hc with h1 | h1
      · exact ih (u / 10) (by omega) c h1
      · rw [List.mem_singleton.1 h1, UInt8.toNat_ofNat', Nat.mod_eq_of_lt (by omega)]
        omega
theorem dig_ne (u : Nat) : Lib.decDigits u ≠ [] := by
  rw [Lib.decDigits]
  split
  · simp
  · simp
theorem atoi_dig {u : Nat} (hu : u < 9223372036854775808) : Lib.atoiAll (Lib.decDigits u) = .ok (u : Int) := by
  have hm := dig_mem u
  have hp : Lib.parseUint10 0 (Lib.decDigits u) = .ok u := by
    have := dig_ok u [] hu
    rw [List.append_nil] at this
    rw [this]
    rfl
  have hne := dig_ne u
  cases hd : Lib.decDigits u with
  | nil => exact absurd hd hne
  | cons c r =>
    rw [hd] at hm hp
    have hc := hm c (by simp)
    have h1 : ¬ (c.toNat = 43 ∨ c.toNat = 45) := by omega
    have h2 : ¬ c.toNat = 45 := by omega
    unfold Lib.atoiAll
    simp only [if_neg h1]
    unfold Lib.parseMag
    rw [if_neg (by simp), hp]
    simp only [h2]
    simp
    omega
theorem cut_colon {a b : List UInt8} (ha : ∀ c ∈ a, c ≠ 58) : Lib.cut (a ++ 58 :: b) [58] = (a, b, true) := by
  have hi : Lib.index (a ++ 58 :: b) [58] = (a.length : Int) := by
    refine Lib.index_first (by simp) ?_ ?_
    · unfold Lib.occAt
      rw [List.drop_left]
      rfl
    · intro j hj
      unfold Lib.occAt
      rw [List.drop_append_of_le_length (by omega), List.drop_eq_getElem_cons hj]
      show (58 == a[j] && _) = false
      have := ha a[j] (List.getElem_mem hj)
      simp [Ne.symm this]
  unfold Lib.cut
  rw [hi, if_pos (by omega)]
  simp
theorem numF_wr {n : Int} (h0 : 0 ≤ n) (h1 : n ≤ 9223372036854775807) (b : List UInt8) (f : Bool) : numF (ofL (wrN n ++ b)) f = (n, ofL b, f) := by
  obtain ⟨u, rfl⟩ : ∃ u : Nat, n = u := ⟨n.toNat, by omega⟩
  have hi : Lib.itoa (u : Int) = Lib.decDigits u := by unfold Lib.itoa; rw [if_neg (by omega)]; simp
  unfold numF
  rw [ofL_data]
  have e : wrN (u : Int) ++ b = Lib.decDigits u ++ 58 :: b := by unfold wrN; rw [hi]; simp
  rw [e, cut_colon (fun c hc e => by have := dig_mem u c hc; rw [e] at this; exact absurd this.2 (by decide))]
  simp only []
  rw [atoi_dig (by omega)]
  rfl
theorem textF_wr {s : ByteArray} (hs : s.size ≤ 9223372036854775807) (b : List UInt8) (f : Bool) : textF (ofL (wrT s ++ b)) f = (s, ofL b, f) := by
  unfold textF wrT
  rw [List.append_assoc, numF_wr (by omega) (by omega)]
  have hsz : (ofL (s.data.toList ++ b)).size = s.size + b.length := by
    rw [ofL_size, List.length_append]
    rfl
  have hl : s.data.toList.length = s.size := by simp
  rw [if_neg (by simp only []; rw [hsz]; omega)]
  simp only [Int.toNat_natCast]
  have e1 := ofL_left s.data.toList b
  have e2 := ofL_right s.data.toList b
  rw [hl] at e1 e2
  rw [e1, e2, ofL_self]
theorem verF_wr {x : Kep} (hk : isN x.1 = true) (hv : verOk x.2 = true) (b : List UInt8) (f : Bool) : verF (ofL (wrK x ++ b)) f = (x, ofL b, f) := by
  have hk1 := isN_size hk
  unfold verOk tagB at hv
  simp only [Bool.and_eq_true, decide_eq_true_eq] at hv
  unfold verF wrK
  simp only [List.append_assoc]
  rw [textF_wr (by omega)]
  simp only []
  rw [numF_wr (by omega) (by omega)]
  simp only []
  rw [numF_wr (by omega) (by omega)]
  simp only []
  rw [numF_wr (by omega) (by omega)]
  simp only []
  rw [numF_wr (by omega) (by omega)]
  simp only []
  rw [textF_wr (by omega)]
/-! what is read is less than there was -/
theorem cut_shorter {l : List UInt8} (h : (Lib.cut l [58]).2.2 = true) : (Lib.cut l [58]).2.1.length < l.length := by
  unfold Lib.cut at h ⊢
  split at h
  · rename_i h0
    rw [if_pos h0]
    have := Lib.index_room l [58] h0
    simp only [List.length_drop, List.length_cons, List.length_nil] at this ⊢
    omega
  · cases h
theorem numF_shorter {r : ByteArray} {f : Bool} (h : (numF r f).2.2 = false) : (numF r f).2.1.size < r.size ∧ f = false := by
  unfold numF at h ⊢
  split
  · rename_i n hn
    rw [hn] at h
    simp only [] at h
    split
    · rename_i hc
      rw [if_pos hc] at h
      have := cut_shorter hc
      rw [ofL_size]
      exact ⟨this, h⟩
    · rename_i hc
      rw [if_neg hc] at h
      cases h
  · rename_i hn
    split at h
    · rename_i n hn'
      exact absurd hn' (hn n)
    · cases h
theorem textF_shorter {r : ByteArray} {f : Bool} (h : (textF r f).2.2 = false) : (textF r f).2.1.size < r.size ∧ f = false := by
  unfold textF at h ⊢
  split at h
  · cases h
  · rename_i hc
    rw [if_neg hc]
    have := numF_shorter h
    refine ⟨Nat.lt_of_le_of_lt ?_ this.1, this.2⟩
    simp only [ByteArray.size_extract]
    omega
theorem verF_shorter {r : ByteArray} (h : (verF r false).2.2 = false) : (verF r false).2.1.size < r.size := by
  unfold verF at h ⊢
  simp only [] at h ⊢
  obtain ⟨h1, e1⟩ := textF_shorter h
  obtain ⟨h2, e2⟩ := numF_shorter e1
  obtain ⟨h3, e3⟩ := numF_shorter e2
  obtain ⟨h4, e4⟩ := numF_shorter e3
  obtain ⟨h5, e5⟩ := numF_shorter e4
  obtain ⟨h6, _⟩ := textF_shorter e5
  omega
/-! what is kept in order is put again, one behind the other -/
structure GoodL (L : List Kep) : Prop where
  sorted : SortedK L
  few : L.length ≤ 60
  fits : ∀ x ∈ L, isN x.1 = true ∧ verOk x.2 = true
theorem GoodL.nil : GoodL [] := ⟨List.Pairwise.nil, by simp, fun _ h => by cases h⟩
theorem GoodL.put {L : List Kep} (h : GoodL L) {s : Bool} {key : ByteArray} {v : Ver} (h0 : putErr L s key v = 0) : GoodL (putL L key v) ∧ (∀ x ∈ getL L key, tagOf x ≠ tagOf v) ∧ s = false ∧ isN key = true ∧ verOk v = true ∧ L.length < 60 := by
  unfold putErr at h0
  split at h0
  · cases h0
  · rename_i hs
    split at h0
    · rename_i hn
      split at h0
      · rename_i hv
        have hnone : ∀ x ∈ getL L key, tagOf x ≠ tagOf v := fun x hx ht => by
          rw [putScan_there h.sorted hx ht] at h0
          split at h0 <;> cases h0
        rw [putScan_none hnone L.length 0 (by omega)] at h0
        have hlt : L.length < 60 := by
          refine Classical.byContradiction fun hc => ?_
          rw [if_pos (by omega)] at h0
          cases h0
        refine ⟨⟨putL_sorted h.sorted hnone, by rw [putL_length]; omega, fun x hx => ?_⟩, hnone, by simpa using hs, hn, hv, hlt⟩
        rcases mem_putL.1 hx with h1 | h1
        · exact h.fits x h1
        · rw [h1]; exact ⟨hn, hv⟩
      · cases h0
    · cases h0
theorem GoodL.trim {L : List Kep} (h : GoodL L) (key : ByteArray) (n : Nat) : GoodL (trimGo key n L) := ⟨trimL_sorted h.sorted key n, Nat.le_trans (trimGo_sub key L n).length_le h.few, fun x hx => h.fits x ((trimGo_sub key L n).subset hx)⟩
theorem put_next {L : List Kep} (h : GoodL L) {i : Nat} (hi : i < L.length) : putR (L.take i) false (kepAt L i).1 (kepAt L i).2 = (0, L.take (i + 1)) := by
  have hf := h.fits (kepAt L i) (List.mem_of_getElem? (kepAt_get hi))
  have hs : SortedK (L.take (i + 1)) := List.Pairwise.sublist (List.take_sublist _ _) h.sorted
  rw [take_succ_kep hi] at hs
  obtain ⟨hs1, _, hs2⟩ := List.pairwise_append.1 hs
  have hb : ∀ y ∈ L.take i, beforeB y (kepAt L i).1 (kepAt L i).2 = true := fun y hy => hs2 y hy _ (by simp)
  have hnone : ∀ x ∈ getL (L.take i) (kepAt L i).1, tagOf x ≠ tagOf (kepAt L i).2 := fun x hx ht => by
    rcases before_iff.1 (hb _ (mem_getL.1 hx)) with h1 | ⟨_, h1⟩
    · exact kl_irrefl _ h1
    · rw [ht, lessB_irrefl] at h1; cases h1
  have hl : (L.take i).length = i := by rw [List.length_take]; omega
  have hfew := h.few
  have he : putErr (L.take i) false (kepAt L i).1 (kepAt L i).2 = 0 := by
    unfold putErr
    rw [if_neg (by decide), if_pos hf.1, if_pos hf.2, putScan_none hnone _ 0 (by omega), if_neg (by omega)]
  have hp : placeN (L.take i) (kepAt L i).1 (kepAt L i).2 = (L.take i).length := by
    unfold placeN
    rw [List.findIdx_eq_length]
    intro x hx
    rw [hb x hx]
    rfl
  unfold putR
  rw [if_pos he]
  unfold putL
  rw [hp, List.take_of_length_le (Nat.le_refl _), List.drop_eq_nil_of_le (Nat.le_refl _), List.append_nil, take_succ_kep hi]
/-! how long it is -/
theorem dig_len (u : Nat) : ∀ k, u < 10 ^ k → 1 ≤ k → (Lib.decDigits u).length ≤ k := by
  induction u using Nat.strongRecOn with
  | ind u ih =>
    intro k hk h1
    rw [Lib.decDigits]
    split
    · simpa using h1
    · rename_i h
      cases k with
      | zero => omega
      | succ k =>
        rw [List.length_append]
        have hk0 : 1 ≤ k := by
          rcases Nat.eq_zero_or_pos k with h2 | h2
          · subst h2; simp at hk; omega
          · exact h2
        have := ih (u / 10) (by omega) k (by rw [Nat.pow_succ] at hk; omega) hk0
        simp only [List.length_cons, List.length_nil]
        omega
theorem wrN_len {n : Int} (h0 : 0 ≤ n) (h1 : n ≤ 1099511627776) : (wrN n).length ≤ 15 := by
  obtain ⟨u, rfl⟩ : ∃ u : Nat, n = u := ⟨n.toNat, by omega⟩
  unfold wrN
  rw [List.length_append]
  have hi : Lib.itoa (u : Int) = Lib.decDigits u := by unfold Lib.itoa; rw [if_neg (by omega)]; simp
  rw [hi]
  have := dig_len u 14 (by omega) (by decide)
  simp only [List.length_cons, List.length_nil]
  omega
theorem wrK_len {x : Kep} (h : isN x.1 = true ∧ verOk x.2 = true) : (wrK x).length ≤ 2000 := by
  have h1 := isN_size h.1
  have h2 := h.2
  unfold verOk tagB at h2
  simp only [Bool.and_eq_true, decide_eq_true_eq] at h2
  have a1 := wrN_len (n := (x.1.size : Int)) (by omega) (by omega)
  have a2 := wrN_len (n := x.2.n) (by omega) (by omega)
  have a3 := wrN_len (n := x.2.who) (by omega) (by omega)
  have a4 := wrN_len (n := x.2.size) (by omega) (by omega)
  have a5 := wrN_len (n := x.2.at_) (by omega) (by omega)
  have a6 := wrN_len (n := (x.2.text.size : Int)) (by omega) (by omega)
  have b1 : x.1.data.toList.length = x.1.size := by simp
  have b2 : x.2.text.data.toList.length = x.2.text.size := by simp
  unfold wrK wrT
  simp only [List.length_append, b1, b2]
  omega
theorem wrL_len {L : List Kep} (h : ∀ x ∈ L, isN x.1 = true ∧ verOk x.2 = true) : (wrL L).length ≤ L.length * 2000 := by
  induction L with
  | nil => simp [wrL]
  | cons x L ih =>
    have := ih fun y hy => h y (by simp [hy])
    have hx := wrK_len (h x (by simp))
    unfold wrL at this ⊢
    rw [List.flatMap_cons, List.length_append, List.length_cons]
    omega
theorem wrote_len {L : List Kep} (h : GoodL L) (s : Bool) : (wrote L s).length ≤ 130000 := by
  have h1 := wrL_len h.fits
  have h2 := h.few
  have h3 : (wrN (if s then 1 else 0)).length ≤ 15 := by cases s <;> exact wrN_len (by decide) (by decide)
  unfold wrote
  rw [List.length_append]
  omega
theorem wrL_append (A B : List Kep) : wrL (A ++ B) = wrL A ++ wrL B := by unfold wrL; rw [List.flatMap_append]
theorem wrL_one (x : Kep) : wrL [x] = wrK x := by simp [wrL]
/-- The kept ones of the first i keys, and the first j of the next one. -/
def upTo (L : List Kep) (i j : Nat) : List Kep := byKey ((keysL L).take i) L ++ ((getL L (txt (keysL L) i)).take j).map fun v => (txt (keysL L) i, v)
theorem byKey_one (k : ByteArray) (L : List Kep) : byKey [k] L = (getL L k).map fun v => (k, v) := by simp [byKey]
theorem take_succ_txt {l : List ByteArray} {i : Nat} (hi : i < l.length) : l.take (i + 1) = l.take i ++ [txt l i] := by
  rw [List.take_add_one, List.getElem?_eq_getElem hi, txt_getElem l i hi]
  rfl
theorem upTo_zero (L : List Kep) (i : Nat) : upTo L i 0 = byKey ((keysL L).take i) L := by simp [upTo]
theorem upTo_next {L : List Kep} {i : Nat} (hi : i < (keysL L).length) : upTo L i (getL L (txt (keysL L) i)).length = byKey ((keysL L).take (i + 1)) L := by
  unfold upTo
  rw [List.take_length, take_succ_txt hi, byKey_append, byKey_one]
theorem upTo_succ {L : List Kep} {i j : Nat} (hj : j < (getL L (txt (keysL L) i)).length) : upTo L i (j + 1) = upTo L i j ++ [(txt (keysL L) i, verAt (getL L (txt (keysL L) i)) j)] := by
  unfold upTo
  rw [List.take_add_one, verAt_get hj]
  simp
theorem upTo_prefix {L : List Kep} (hs : SortedK L) {i j : Nat} (hi : i < (keysL L).length) : ∃ R, L = upTo L i j ++ R := by
  have hall := (keysOk L hs).all
  have hk : keysL L = (keysL L).take i ++ (txt (keysL L) i :: (keysL L).drop (i + 1)) := by
    conv => lhs; rw [← List.take_append_drop i (keysL L), List.drop_eq_getElem_cons hi]
    rw [txt_getElem (keysL L) i hi]
  refine ⟨((getL L (txt (keysL L) i)).drop j).map (fun v => (txt (keysL L) i, v)) ++ byKey ((keysL L).drop (i + 1)) L, ?_⟩
  unfold upTo
  conv => lhs; rw [← hall, hk, byKey_append]
  have e : byKey (txt (keysL L) i :: (keysL L).drop (i + 1)) L = byKey [txt (keysL L) i] L ++ byKey ((keysL L).drop (i + 1)) L := byKey_append [txt (keysL L) i] _ L
  rw [e, byKey_one, List.append_assoc]
  congr 1
  rw [← List.append_assoc, ← List.map_append, List.take_append_drop]
theorem upTo_len {L : List Kep} (hG : GoodL L) {i j : Nat} (hi : i < (keysL L).length) (s : Bool) : (wrN (if s then 1 else 0) ++ wrL (upTo L i j)).length ≤ 130000 := by
  obtain ⟨R, hR⟩ := upTo_prefix hG.sorted (j := j) hi
  have h := wrote_len hG s
  unfold wrote at h
  have e : wrL L = wrL (upTo L i j) ++ wrL R := by rw [← wrL_append, ← hR]
  rw [e] at h
  simp only [List.length_append] at h ⊢
  omega
theorem upTo_len0 {L : List Kep} (hG : GoodL L) {i : Nat} (hi : i ≤ (keysL L).length) (s : Bool) : (wrN (if s then 1 else 0) ++ wrL (byKey ((keysL L).take i) L)).length ≤ 130000 := by
  rcases Nat.lt_or_ge i (keysL L).length with h | h
  · have := upTo_len hG (j := 0) h s
    rw [upTo_zero] at this
    exact this
  · obtain rfl : i = (keysL L).length := by omega
    rw [List.take_length, (keysOk L hG.sorted).all]
    exact wrote_len hG s
/-- In the world w block b is a builder of the call's own, with the bytes l; its row lies from block B on. -/
def Bld (w : World) (B b : Nat) (l : List UInt8) : Prop := Lib.IsBuilderF 92 5 B b (Lib.byteCells l) w
/-- What a write leaves. -/
structure Wrote (w w' : World) (B b : Nat) (l : List UInt8) : Prop where
  bld : Bld w' B b l
  low : Below B w w'
  rest : Lib.OthersKept 5 (some b) w w'
theorem Wrote.trans {w w' w'' : World} {B b : Nat} {l l' : List UInt8} (h1 : Wrote w w' B b l) (h2 : Wrote w' w'' B b l') : Wrote w w'' B b l' := ⟨h2.bld, h1.low.trans h2.low, h1.rest.trans h2.rest⟩
theorem bldSize : ∃ j, Tryz.prog.info? 92 = some j ∧ j.size = 2 := by
  have h : (Tryz.prog.info? 92).map (·.size) = some 2 := by kernel_rfl
  obtain ⟨j, hj, hs⟩ := Option.map_eq_some_iff.1 h
  exact ⟨j, hj, hs⟩
theorem noEscape_run (W : World) (v : Value) : (callFunc 94 #[v]).run Tryz.prog W = .ok (.value v) W := by
  rw [run_callFunc_extern Tryz.func94 (by kernel_rfl) (by kernel_rfl) (by kernel_rfl) (e := Extern.AbiNoEscape.same) (by kernel_rfl)]
  rfl
set_option maxRecDepth 100000 in
set_option maxHeartbeats 1000000 in
/-- Before a write: the builder knows its own place. -/
theorem bcheck (B b : Nat) (l : List UInt8) (w : World) (h : Bld w B b l) :
    Calls Tryz.prog 75 #[.pointer (some ⟨b, 0, none⟩)] w fun e w' => e = .returned (.tuple #[]) ∧ Lib.BuilderAtF 92 5 B b (.pointer (some ⟨b, 0, none⟩)) (Lib.byteCells l) w' ∧ Below B w w' ∧ Lib.OthersKept 5 (some b) w w' := by
  obtain ⟨j, hj, hjs⟩ := bldSize
  have hne : ∀ W, (binOp .neq 90 (.pointer (some ⟨b, 0, none⟩)) (.pointer (some ⟨b, 0, none⟩))).run Tryz.prog W = .ok (.bool false) W := fun W => Lib.run_neq_ptr_same W _ Tryz.underlying90 hj
  rcases h with h | h
  · have q0 := h.cell0
    have f0 := h.frozen0
    have hto := Lib.run_to_unsafe w ⟨b, 0, none⟩ Tryz.underlying90 Tryz.underlying124 hj (by rw [hjs]; decide) h.shape (Nat.zero_lt_succ 1)
    have hfrom := Lib.run_from_unsafe w ⟨b, 0, none⟩ Tryz.underlying124 Tryz.underlying90 hj h.shape (by kernel_rfl)
    have hnoe := noEscape_run w
    have HE : Hid (Lib.BuilderAtF 92 5 B b (.pointer (some ⟨b, 0, none⟩)) (Lib.byteCells l) (w.setCell ⟨b, 0, none⟩ (.pointer (some ⟨b, 0, none⟩))) ∧ Below B w (w.setCell ⟨b, 0, none⟩ (.pointer (some ⟨b, 0, none⟩))) ∧ Lib.OthersKept 5 (some b) w (w.setCell ⟨b, 0, none⟩ (.pointer (some ⟨b, 0, none⟩)))) := ⟨h.used _, (Below.refl B w).setCell (p := ⟨b, 0, none⟩) h.1 _, (Lib.OthersKept.refl _ _ w).setCell ⟨b, 0, none⟩ rfl _⟩
    clear h hj hjs
    go_enter Tryz.func75, Tryz.ntmps75
    go_wp2_with (simp only [hnoe])
    all_goals
      go_end0
      exact ⟨rfl, HE.out⟩
  · have q0 := h.cell0
    have HE : Hid (Lib.BuilderAtF 92 5 B b (.pointer (some ⟨b, 0, none⟩)) (Lib.byteCells l) w ∧ Below B w w ∧ Lib.OthersKept 5 (some b) w w) := ⟨h, Below.refl B w, Lib.OthersKept.refl _ _ w⟩
    clear h hj hjs
    go_enter Tryz.func75, Tryz.ntmps75
    go_wp2
    go_end0
    exact ⟨rfl, HE.out⟩
theorem byteInfo : (Tryz.prog.info? 5).map (fun i => (i.zero, i.size, i.bytes)) = some (some (.int .u8 0), 1, 1) := by kernel_rfl
theorem byteCells_snoc (l : List UInt8) (c : UInt8) : Lib.byteCells l ++ [.int .u8 (c.toNat : Int)] = Lib.byteCells (l ++ [c]) := by simp [Lib.byteCells]
/-- The builder's block, behind an append to its row. -/
theorem bld_after {w1 w2 : World} {B b : Nat} {v v' : Value} {bs : List Value} (hB : B ≤ b) (hbk : w1.heap[b]? = some (.cells #[.pointer (some ⟨b, 0, none⟩), v] 92 (0, 0))) (hblk : w2.heap[b]? = w1.heap[b]?) (hown : w2.ownsRowF B 5 1 v' bs.length bs) : w2.cell? ⟨b, 1, none⟩ = some v ∧ w2.frozen? ⟨b, 1, none⟩ = false ∧ Lib.BuilderAtF 92 5 B b (.pointer (some ⟨b, 0, none⟩)) bs (w2.setCell ⟨b, 1, none⟩ v') := by
  have hb2 := hblk.trans hbk
  exact ⟨by rw [Lib.cell_of_heap hb2]; rfl, Lib.frozen_of_heap hb2 1, Lib.BuilderAtF.put hB hb2 hown (by decide)⟩
set_option maxRecDepth 100000 in
set_option maxHeartbeats 1600000 in
theorem wbyte_any (B b : Nat) (l : List UInt8) (c : UInt8) (w : World) (h : Bld w B b l) (hl : l.length ≤ 1000000) (hB0 : B ≤ w.heap.size) :
    Calls Tryz.prog 50 #[.pointer (some ⟨b, 0, none⟩), .int .u8 (c.toNat : Int)] w fun e w' => e = .returned .nilIface ∧ Wrote w w' B b (l ++ [c]) := by
  obtain ⟨i0, hi, hz0, hz1, hz2⟩ := info_parts byteInfo
  have HCK := bcheck B b l w h
  have hbl : (Lib.byteCells l).length = l.length := by simp [Lib.byteCells]
  have HSN : Hid (Lib.byteCells l ++ [.int .u8 (c.toNat : Int)] = Lib.byteCells (l ++ [c])) := byteCells_snoc l c
  clear h
  generalize hbs : Lib.byteCells l = bs at *
  generalize (c.toNat : Int) = ci at *
  go_enter Tryz.func50, Tryz.ntmps50
  go_wp2_with fail
  refine HCK.mono ?_
  rintro e w1 ⟨rfl, h1, hb1, hk1⟩
  obtain ⟨hB, v, hbk, hown, hne⟩ := h1
  have c1 : w1.cell? ⟨b, 1, none⟩ = some v := by rw [Lib.cell_of_heap hbk]; rfl
  have hlt : b < w1.heap.size := (Array.getElem?_eq_some_iff.1 hbk).1
  have hsz := hb1.size
  have HOW : Hid (w1.ownsRowF B 5 1 v bs.length bs) := hown
  have HBK : Hid (w1.heap[b]? = some (.cells #[.pointer (some ⟨b, 0, none⟩), v] 92 (0, 0))) := hbk
  have HNE : Hid (v.ownBlock ≠ some b) := hne
  have HB1 : Hid (Below B w w1) := hb1
  have HK1 : Hid (Lib.OthersKept 5 (some b) w w1) := hk1
  clear hown hbk hne hb1 hk1 HCK hbs
  go_wp2_with (at_builtin; refine wpList_append_ownF _ rfl _ _ 53 rfl B 5 i0 (.int .u8 0) 1 1 Tryz.underlying53 hi hz0 hz1 hz2 rfl (by decide) _ _ _ rfl (HOW.out.alloc _) ⟨w1.heap.size, 0, none⟩ 1 1 [.int .u8 ci] rfl rfl (fun j u hj => by match j, hj with | 0, hj => simp at hj; subst hj; simp [Addr.add]) (fun u hu => by simp at hu; subst hu; rfl) (by unfold maxLen; omega) (by omega) (by simp; omega) ?_; intro v' w2 hown2 hg2 _; obtain ⟨d1, f1, hat⟩ := bld_after (v' := v') (bs := bs ++ [.int .u8 ci]) hB HBK.out ((hg2.block b (by simp; omega) (fun e => HNE.out e.symm)).trans (heap_alloc_old _ _ hlt)) (by simpa using hown2); have HAT : Hid (Lib.BuilderAtF 92 5 B b (.pointer (some ⟨b, 0, none⟩)) (bs ++ [.int .u8 ci]) (w2.setCell ⟨b, 1, none⟩ v')) := hat; have HG2 : Hid ((w1.alloc (.cells #[.int .u8 ci] 5)).grownBy w2 v.ownBlock) := hg2; obtain ⟨vp, vn, vc, hvv⟩ : ∃ p n c, v' = .slice p n c := (by rcases hown2.2 with ⟨hv, _⟩ | ⟨g, cap, cur, fz, hv, _⟩ <;> exact ⟨_, _, _, hv⟩); subst hvv; clear hown2 hg2 hat)
  go_ret
  refine ⟨rfl, ⟨Or.inr ?_, ?_, ((HK1.out.alloc _).grown HG2.out (Lib.ownsRowF_kind (HOW.out.alloc _))).setCell ⟨b, 1, none⟩ rfl _⟩⟩
  · rw [← HSN.out]
    exact HAT.out
  · exact ((HB1.out.alloc (by omega) _).grown HG2.out (by simp; omega) (fun k hk => (HOW.out.lt k hk).1)).setCell (p := ⟨b, 1, none⟩) hB _
theorem strCells_ofL (s : ByteArray) : Lib.strCells s = Lib.byteCells s.data.toList := rfl
set_option maxRecDepth 100000 in
set_option maxHeartbeats 1600000 in
theorem wstr_any (B b : Nat) (l : List UInt8) (s : ByteArray) (w : World) (h : Bld w B b l) (hl : l.length + s.size ≤ 1000000) (hB0 : B ≤ w.heap.size) :
    Calls Tryz.prog 48 #[.pointer (some ⟨b, 0, none⟩), .string s] w fun e w' => e = .returned (.tuple #[.int .i64 (s.size : Int), .nilIface]) ∧ Wrote w w' B b (l ++ s.data.toList) := by
  obtain ⟨i0, hi, hz0, hz1, hz2⟩ := info_parts byteInfo
  have HCK := bcheck B b l w h
  have hbl : (Lib.byteCells l).length = l.length := by simp [Lib.byteCells]
  have HSN : Hid (Lib.byteCells l ++ Lib.strCells s = Lib.byteCells (l ++ s.data.toList)) := by show _ = _; rw [strCells_ofL, Lib.byteCells_append]
  clear h
  generalize hbs : Lib.byteCells l = bs at *
  go_enter Tryz.func48, Tryz.ntmps48
  go_wp2_with fail
  refine HCK.mono ?_
  rintro e w1 ⟨rfl, h1, hb1, hk1⟩
  obtain ⟨hB, v, hbk, hown, hne⟩ := h1
  have c1 : w1.cell? ⟨b, 1, none⟩ = some v := by rw [Lib.cell_of_heap hbk]; rfl
  have hlt : b < w1.heap.size := (Array.getElem?_eq_some_iff.1 hbk).1
  have hsz := hb1.size
  have HOW : Hid (w1.ownsRowF B 5 1 v bs.length bs) := hown
  have HBK : Hid (w1.heap[b]? = some (.cells #[.pointer (some ⟨b, 0, none⟩), v] 92 (0, 0))) := hbk
  have HNE : Hid (v.ownBlock ≠ some b) := hne
  have HB1 : Hid (Below B w w1) := hb1
  have HK1 : Hid (Lib.OthersKept 5 (some b) w w1) := hk1
  clear hown hbk hne hb1 hk1 HCK hbs
  go_wp2_with (at_builtin; refine Lib.wpList_append_own_stringF _ rfl _ _ 53 9 rfl B 5 i0 Tryz.underlying53 Tryz.underlying9 hi hz0 hz1 hz2 _ _ _ rfl HOW.out s rfl (by unfold maxLen; omega) (by omega) (by omega) ?_; intro v' w2 hown2 hg2 _; obtain ⟨d1, f1, hat⟩ := bld_after (v' := v') (bs := bs ++ Lib.strCells s) hB HBK.out (hg2.block b hlt (fun e => HNE.out e.symm)) (by simpa [Lib.strCells_length] using hown2); have HAT : Hid (Lib.BuilderAtF 92 5 B b (.pointer (some ⟨b, 0, none⟩)) (bs ++ Lib.strCells s) (w2.setCell ⟨b, 1, none⟩ v')) := hat; have HG2 : Hid (w1.grownBy w2 v.ownBlock) := hg2; obtain ⟨vp, vn, vc, hvv⟩ : ∃ p n c, v' = .slice p n c := (by rcases hown2.2 with ⟨hv, _⟩ | ⟨g, cap, cur, fz, hv, _⟩ <;> exact ⟨_, _, _, hv⟩); subst hvv; clear hown2 hg2 hat)
  go_ret2
  refine ⟨rfl, ⟨Or.inr ?_, ?_, (HK1.out.grown HG2.out (Lib.ownsRowF_kind HOW.out)).setCell ⟨b, 1, none⟩ rfl _⟩⟩
  · rw [← HSN.out]
    exact HAT.out
  · exact (HB1.out.grown HG2.out (by omega) (fun k hk => (HOW.out.lt k hk).1)).setCell (p := ⟨b, 1, none⟩) hB _
set_option maxRecDepth 10000 in
theorem hwithin_any (x m : Int) (w : World) : Calls Tryz.prog 63 #[.int .i64 x, .int .i64 m] w fun e w' => e = .returned (.bool (decide (0 ≤ x ∧ x ≤ m))) ∧ w' = w := by
  by_cases h1 : 0 ≤ x
  · by_cases h2 : x ≤ m
    · have HE : Hid (decide (0 ≤ x ∧ x ≤ m) = true) := decide_eq_true ⟨h1, h2⟩
      rw [HE.out]
      go_enter Tryz.func63, Tryz.ntmps63
      go_wp2
      go_ret
      exact ⟨rfl, rfl⟩
    · have HE : Hid (decide (0 ≤ x ∧ x ≤ m) = false) := decide_eq_false fun h => h2 h.2
      rw [HE.out]
      go_enter Tryz.func63, Tryz.ntmps63
      go_wp2
      go_ret
      exact ⟨rfl, rfl⟩
  · have HE : Hid (decide (0 ≤ x ∧ x ≤ m) = false) := decide_eq_false fun h => h1 h.1
    rw [HE.out]
    go_enter Tryz.func63, Tryz.ntmps63
    go_wp2
    go_ret
    exact ⟨rfl, rfl⟩
/-- Numbers of a tag in their bounds. -/
def tagOk (a b : Int) : Bool := decide (0 ≤ a ∧ a ≤ 1099511627776) && decide (0 ≤ b ∧ b ≤ 1099511627776)
set_option maxRecDepth 10000 in
theorem istag_any (a b : Int) (w : World) : Calls Tryz.prog 62 #[.agg #[.int .i64 a, .int .i64 b]] w fun e w' => e = .returned (.bool (tagOk a b)) ∧ Below w.heap.size w w' := by
  obtain ⟨w1, hw1⟩ : ∃ w1, w1 = w.alloc (.cells #[.int .i64 a, .int .i64 b] 45) := ⟨_, rfl⟩
  have HB1 : Hid (Below w.heap.size w w1) := by rw [hw1]; exact (Below.refl _ _).alloc (Nat.le_refl _) _
  have f0 : w1.cell? ⟨w.heap.size, 0, none⟩ = some (.int .i64 a) := by rw [hw1, World.cell?_alloc_at _ _ _ _ rfl]; rfl
  have f1 : w1.cell? ⟨w.heap.size, 1, none⟩ = some (.int .i64 b) := by rw [hw1, World.cell?_alloc_at _ _ _ _ rfl]; rfl
  have HW1 : Hid (w1 = w.alloc (.cells #[.int .i64 a, .int .i64 b] 45)) := hw1
  have HA : Hid (Calls Tryz.prog 63 #[.int .i64 a, .int .i64 1099511627776] w1 fun e w' => e = .returned (.bool (decide (0 ≤ a ∧ a ≤ 1099511627776))) ∧ w' = w1) := hwithin_any _ _ w1
  have HC : Hid (Calls Tryz.prog 63 #[.int .i64 b, .int .i64 1099511627776] w1 fun e w' => e = .returned (.bool (decide (0 ≤ b ∧ b ≤ 1099511627776))) ∧ w' = w1) := hwithin_any _ _ w1
  have HT : Hid (tagOk a b = (decide (0 ≤ a ∧ a ≤ 1099511627776) && decide (0 ≤ b ∧ b ≤ 1099511627776))) := by show _ = _; rfl
  rw [HT.out]
  clear hw1 HT
  generalize decide (0 ≤ a ∧ a ≤ 1099511627776) = x at *
  generalize decide (0 ≤ b ∧ b ≤ 1099511627776) = y at *
  cases x with
  | false =>
    go_enter Tryz.func62, Tryz.ntmps62
    go_wp2_with fail
    rw [← HW1.out]
    refine HA.out.mono ?_
    rintro e w2 ⟨rfl, hw2⟩
    rw [hw2]
    clear hw2 w2 HA
    go_wp2
    go_ret
    exact ⟨rfl, HB1.out⟩
  | true =>
    go_enter Tryz.func62, Tryz.ntmps62
    go_wp2_with fail
    rw [← HW1.out]
    refine HA.out.mono ?_
    rintro e w2 ⟨rfl, hw2⟩
    rw [hw2]
    clear hw2 w2 HA
    go_wp2_with fail
    refine HC.out.mono ?_
    rintro e w2 ⟨rfl, hw2⟩
    rw [hw2]
    clear hw2 w2 HC
    go_wp2
    go_ret
    exact ⟨rfl, HB1.out⟩
set_option maxRecDepth 10000 in
theorem sclone_any (t : ByteArray) (w : World) (ht : t.size ≤ 140737488351232) : Calls Tryz.prog 44 #[.string t] w fun e w' => e = .returned (.string t) ∧ Below w.heap.size w w' := by
  have HC : Hid (∀ W, Calls Tryz.prog 70 #[.string t] W fun e w' => e = .returned (.string t) ∧ Below W.heap.size W w') := fun W => Tryz.stringslite_Clone t W (by omega)
  go_enter Tryz.func44, Tryz.ntmps44
  go_wp2_with fail
  refine (HC.out _).mono ?_
  rintro e w1 ⟨rfl, hb1⟩
  have HB1 : Hid (Below w.heap.size w w1) := hb1
  clear hb1
  go_wp2
  go_ret
  exact ⟨rfl, HB1.out⟩
/-- A key as the map tells it. -/
def litK (x : ByteArray) : Lit := .string x.data.toList
theorem litK_inj {x y : ByteArray} (h : litK x = litK y) : x = y := by
  unfold litK at h
  injection h with h
  exact ByteArray.ext (Array.toList_inj.1 h)
theorem litK_key (x : ByteArray) : WideAt.IsKeyLit (litK x) := trivial
theorem sameKey_litK (x : ByteArray) : (litK x).sameKey (litK x) = true := WideAt.sameKey_self (litK_key x)
/-- Whatever lies in the map, as it lies. -/
def anyR (v : Value) : Option (DataW Value × List MemPlace) := some (.held v, [])
theorem keyedK : Maps.Keyed Tryz.prog 9 := Maps.string_keyed Tryz.underlying9
theorem keyOfK {x : ByteArray} (hx : x.size ≤ maxLen) : keyOf Tryz.prog 9 (.string x) = some (litK x) := WideMaps.keyOf_string_mk Tryz.underlying9 hx
theorem keyOfK_inv {v : Value} {l : Lit} (h : keyOf Tryz.prog 9 v = some l) : ∃ x : ByteArray, v = .string x ∧ l = litK x ∧ x.size ≤ maxLen := by
  cases v <;> simp [keyOf, Tryz.underlying9, mapKey] at h
  rename_i s
  exact ⟨s, rfl, h.2.symm, h.1⟩
/-- In the world w block b is a map that tells D. -/
abbrev OwnM (w : World) (b n : Nat) (D : DataW Value) : Prop := w.ownsMap Tryz.prog 9 anyR b n D
theorem OwnM.tight {w : World} {b n : Nat} {D : DataW Value} (h : OwnM w b n D) : OwnM w b (Maps.size D) D := by
  obtain ⟨es, clock, hb, F, hs, rfl⟩ := h
  refine ⟨es, clock, hb, F, ?_, rfl⟩
  rw [Maps.size_eq, length_sorted]
  simp
theorem OwnM.keys {w : World} {b n : Nat} {D : DataW Value} (h : OwnM w b n D) : ∃ es, D = .map es ∧ es.Pairwise (fun p q => p.1 ≠ q.1) ∧ ∀ p ∈ es, ∃ x : ByteArray, x.size ≤ maxLen ∧ p.1 = litK x := by
  have ht := World.ownsMap.tidy h keyedK
  obtain ⟨es0, clock, hb, F, hs, rfl⟩ := h
  obtain ⟨es1, he, hp⟩ := ht
  injection he with he
  refine ⟨_, rfl, by rw [he]; exact hp, fun p hp' => ?_⟩
  obtain ⟨x, hx, rfl⟩ := List.mem_map.1 (mem_sorted.1 hp')
  obtain ⟨y, hy⟩ := F.reads x hx
  obtain ⟨z, h1, h2, h3⟩ := keyOfK_inv (WideElems.rd_key hy)
  exact ⟨z, h3, by rw [WideElems.rg_of hy]; exact h2⟩
theorem length_le_sub {α : Type} : ∀ {l m : List α}, l.Nodup → (∀ x ∈ l, x ∈ m) → l.length ≤ m.length
  | [], _, _, _ => Nat.zero_le _
  | a :: l, m, hn, hs => by
    classical
    obtain ⟨h1, h2⟩ := List.nodup_cons.1 hn
    have ha := hs a (by simp)
    have := length_le_sub (l := l) (m := m.erase a) h2 (fun x hx => (List.mem_erase_of_ne (show x ≠ a from fun e => h1 (e ▸ hx))).2 (hs x (by simp [hx])))
    rw [List.length_erase_of_mem ha] at this
    have := List.length_pos_of_mem ha
    simp only [List.length_cons]
    omega
theorem OwnR.same {T : TypeId} {w w' : World} {B : Nat} {v : Value} {l : List Ver} (h : OwnR verE T w B v l) (hb : ∀ k, v.ownBlock = some k → w'.heap[k]? = w.heap[k]?) : OwnR verE T w' B v l := by
  obtain ⟨h1, h2⟩ := h
  refine ⟨h1, ?_⟩
  rcases h2 with h2 | ⟨g, cap, cur, hv, hbg, hg, hrest⟩
  · exact Or.inl h2
  · refine Or.inr ⟨g, cap, cur, hv, hbg, ?_, hrest⟩
    rw [hb g (by rw [hv]; rfl)]
    exact hg
theorem OwnM.same {w w' : World} {b n : Nat} {D : DataW Value} (h : OwnM w b n D) (hb : w'.heap[b]? = w.heap[b]?) : OwnM w' b n D := by
  obtain ⟨es, clock, h1, h2⟩ := h
  exact ⟨es, clock, hb.trans h1, h2⟩
theorem cell_same {w w' : World} {b : Nat} (h : w'.heap[b]? = w.heap[b]?) (o : Nat) : w'.cell? ⟨b, o, none⟩ = w.cell? ⟨b, o, none⟩ ∧ w'.frozen? ⟨b, o, none⟩ = w.frozen? ⟨b, o, none⟩ := ⟨World.cell?_of_block (a := ⟨b, o, none⟩) h, World.frozen?_of_block (a := ⟨b, o, none⟩) h⟩
/-- Into a map that is there. -/
structure SetOk (w w' : World) (b : Nat) (D : DataW Value) (key : ByteArray) (v : Value) : Prop where
  own : ∃ n, OwnM w' b n (D.put (litK key) (.held v))
  grown : w.grownBy w' (some b)
theorem set_step {w W : World} {b n : Nat} {D : DataW Value} {key : ByteArray} {v : Value} (hown : OwnM w b n D) (hn : n < maxLen) (hk : key.size ≤ maxLen) (hb : Below w.heap.size w W) :
    ∃ w', (Instr.mapUpdate 37 (.map (some b)) (.string key) v).run Tryz.prog W = .ok () w' ∧ SetOk w w' b D key v := by
  have hlt : b < w.heap.size := World.ownsMap.lt hown
  have hown2 : OwnM W b n D := hown.same (hb.block b hlt)
  obtain ⟨w', hrun, h1, h2⟩ := World.ownsMap.update hown2 keyedK Tryz.underlying37 hn (val := v) (d := .held v) (ps := []) (keyOfK hk) rfl
  refine ⟨w', hrun, ⟨_, h1⟩, ⟨h2.os.trans hb.os, h2.tape.trans hb.tape, h2.output.trans hb.output, Nat.le_trans hb.size h2.size, fun k hk hne => ?_⟩⟩
  rw [h2.block k (Nat.lt_of_lt_of_le hk hb.size) hne]
  exact hb.block k hk
theorem map_not_nil (b : Nat) (W : World) : Sem.run Tryz.prog (binOp .eql 37 (.map (some b)) (.map none)) W = .ok (.bool false) W := by kernel_rfl
theorem map_is_nil (W : World) : Sem.run Tryz.prog (binOp .eql 37 (.map none) (.map none)) W = .ok (.bool true) W := by kernel_rfl
theorem below_drew' {B : Nat} {w W : World} (h : Below B w.drew W) : Below B w W := ⟨h.os, h.tape, h.output, h.size, h.block⟩
/-- In the world w the bytes l lie from p on. -/
structure Seg (w : World) (p : Option Addr) (l : List Nat) : Prop where
  lt : Gf.Bytes l
  cells : l = [] ∨ ∃ b o, p = some ⟨b, o, none⟩ ∧ b < w.heap.size ∧ ∀ i, i < l.length → w.cell? ⟨b, o + i, none⟩ = some (.int .u8 ((Gf.nth l i : Nat) : Int))
theorem Seg.drewN {w : World} {p : Option Addr} {l : List Nat} (h : Seg w p l) (n : Nat) : Seg (w.drewN n) p l := ⟨h.lt, h.cells⟩
theorem Seg.below {w w' : World} {p : Option Addr} {l : List Nat} (h : Seg w p l) (hb : Below w.heap.size w w') : Seg w' p l := by
  refine ⟨h.lt, ?_⟩
  rcases h.cells with h | ⟨b, o, hp, hlt, hc⟩
  · exact Or.inl h
  · exact Or.inr ⟨b, o, hp, Nat.lt_of_lt_of_le hlt hb.size, fun i hi => (hb.cell (p := ⟨b, o + i, none⟩) hlt).trans (hc i hi)⟩
section
def byteV (n : Nat) : Value := .int .u8 (n : Int)
/-- v owns the bytes l in a row from block B on. -/
def Own (w : World) (B : Nat) (e : TypeId) (v : Value) (l : List Nat) : Prop := w.ownsRow B e 1 v l.length (l.map byteV)
theorem Own.nil (w : World) (B : Nat) (e : TypeId) : Own w B e (.slice none 0 0) [] := World.ownsRow_nil w B e 1
theorem Own.kept {w w' : World} {B : Nat} {e : TypeId} {v : Value} {l : List Nat} {row : Option Nat} (h : Own w B e v l) (hg : w.grownBy w' row) (hne : v.ownBlock = none ∨ v.ownBlock ≠ row) : Own w' B e v l := World.ownsRow.kept h hg hne
theorem Own.block {w : World} {B : Nat} {e : TypeId} {v : Value} {l : List Nat} (h : Own w B e v l) {k : Nat} (hk : v.ownBlock = some k) : B ≤ k ∧ k < w.heap.size := World.ownsRow.lt h k hk
theorem grownBy_drewN (w : World) (n : Nat) (row : Option Nat) : w.grownBy (w.drewN n) row := ⟨rfl, rfl, rfl, Nat.le_refl _, fun _ _ _ => rfl⟩
theorem Own.seg {w : World} {B : Nat} {e : TypeId} {v : Value} {l : List Nat} (h : Own w B e v l) (hl : Gf.Bytes l) : ∃ p cap, v = .slice p l.length cap ∧ Seg w p l := by
  rcases h.2 with ⟨rfl, h0⟩ | ⟨g, cap, cur, rfl, hb, hg, hnc, hcm, hcs, htake⟩
  · have : l = [] := List.length_eq_zero_iff.1 h0
    subst this
    exact ⟨none, 0, rfl, hl, Or.inl rfl⟩
  · refine ⟨some ⟨g, 0, none⟩, cap, rfl, hl, Or.inr ⟨g, 0, rfl, (Array.getElem?_eq_some_iff.1 hg).1, fun i hi => ?_⟩⟩
    have hc := World.ownsRow.cells (g := g) h rfl i (byteV (Gf.nth l i)) (by rw [List.getElem?_map, List.getElem?_eq_getElem hi, Gf.nth_getElem l i hi]; rfl)
    rw [Addr.add_lit] at hc
    exact hc
section
variable {P : Program} {w : World}
theorem append_where (B : Nat) (t ty e : TypeId) (i : TypeInfo) (z : Value) (ht : P.underlying t = some (.slice e)) (hi : P.info? e = some i) (hz : i.zero = some z) (hsize : i.size = 1) (hby : i.bytes = 1)
    (v : Value) (l : List Nat) (hown : Own w B e v l) (ad : Addr) (c b : Nat) (hb : w.cell? ad = some (byteV b)) (hl : l.length + 1 ≤ 1000000) {v' : Value} {w' : World}
    (hr : (Builtin.append_ #[t, t] ty #[v, .slice (some ad) 1 c]).run P w = .ok v' w') : v'.ownBlock = v.ownBlock ∨ v'.ownBlock = some w.heap.size := by
  have hnews : ∀ j u, [byteV b][j]? = some u → w.cell? (ad.add j) = some u := by
    intro j u hj
    match j, hj with
    | 0, hj =>
      obtain rfl : byteV b = u := by simpa using hj
      simpa [Addr.add] using hb
  rcases hown.2 with ⟨rfl, h0⟩ | ⟨g, cap, cur, rfl, hbg, hg, hnc, hcm, hcs, htake⟩
  · have := run_append_nil (P := P) w t ty e i z ht hi hz ad 1 c [byteV b] (by rw [hsize]; rfl) hnews (by decide) (by decide) (by rw [hby]; decide)
    rw [this] at hr
    injection hr with h1 h2
    subst h1
    exact Or.inr rfl
  · by_cases hroom : l.length + 1 ≤ cap
    · have := run_append_room (P := P) w t ty e i ht hi g l.length cap cur hg ad 1 c [byteV b] (by rw [hsize]; rfl) hnews (fun u hu => by rw [List.mem_singleton.1 hu]; rfl) hroom (by rw [hsize, hcs]; simpa using hroom)
      rw [this] at hr
      injection hr with h1 h2
      subst h1
      exact Or.inl rfl
    · have := run_append_grow (P := P) w t ty e i z ht hi hz ⟨g, 0, none⟩ l.length cap (l.map byteV) (by rw [hsize]; exact hown.1) (World.ownsRow.cells (g := g) hown rfl) ad 1 c [byteV b] (by rw [hsize]; rfl) hnews (by omega) (by omega) (growslice_fits (by omega) (by rw [hby]; omega))
      rw [this] at hr
      injection hr with h1 h2
      subst h1
      exact Or.inr rfl
theorem wp_append_byte {o : Oper} {a : Act} {K : Act → World → Prop} {Q : Exit → Act → World → Prop} (s x : Operand) (t : TypeId)
    (ho : o.op = .call { callee := .builtin .append, args := #[s, x], argTypes := #[t, t] })
    (B : Nat) (e : TypeId) (i : TypeInfo) (ht : P.underlying t = some (.slice e)) (hi : P.info? e = some i) (hz : i.zero = some (byteV 0)) (hsize : i.size = 1) (hby : i.bytes = 1)
    (v : Value) (l : List Nat) (hs : a.eval s = v) (hown : Own w B e v l) (ad : Addr) (c b : Nat) (hx : a.eval x = .slice (some ad) 1 c) (hb : w.cell? ad = some (byteV b)) (hl : l.length + 1 ≤ 1000000) (hbase : B ≤ w.heap.size)
    (h : ∀ v' w', Own w' B e v' (l ++ [b]) → w.grownBy w' v.ownBlock → (v'.ownBlock = v.ownBlock ∨ v'.ownBlock = some w.heap.size) → K (a.put o.dst v') w') : o.wp P a w K Q := by
  have hnews : ∀ j u, [byteV b][j]? = some u → w.cell? (ad.add j) = some u := by
    intro j u hj
    match j, hj with
    | 0, hj =>
      obtain rfl : byteV b = u := by simpa using hj
      simpa [Addr.add] using hb
  obtain ⟨v', w', hr, h2, h3, _⟩ := run_append_own (P := P) w B t o.type e i (byteV 0) 1 1 ht hi hz hsize hby rfl (by decide) v l.length (l.map byteV) hown ad 1 c [byteV b] rfl hnews (fun u hu => by rw [List.mem_singleton.1 hu]; rfl) (by unfold maxLen; omega) (by omega) hbase
  have h4 := append_where B t o.type e i (byteV 0) ht hi hz hsize hby v l hown ad c b hb hl hr
  have h5 : Own w' B e v' (l ++ [b]) := by
    unfold Own
    rw [List.length_append, List.map_append]
    exact h2
  unfold Oper.wp execOp
  simp only [ho, resolve, invoke, builtin, Sem.run_bind, Sem.run_pure, Result.andThen_ok, List.map_toArray, List.map_cons, List.map_nil, hs, hx, hr]
  exact h v' w' h5 h3 h4
theorem wpList_append_byte {ops : Array Oper} {rest : List Oper} {o : Oper} {a : Act} {Q : Exit → Act → World → Prop} (hgd : o.guard = none) (s x : Operand) (t : TypeId)
    (ho : o.op = .call { callee := .builtin .append, args := #[s, x], argTypes := #[t, t] })
    (B : Nat) (e : TypeId) (i : TypeInfo) (ht : P.underlying t = some (.slice e)) (hi : P.info? e = some i) (hz : i.zero = some (byteV 0)) (hsize : i.size = 1) (hby : i.bytes = 1)
    (v : Value) (l : List Nat) (hs : a.eval s = v) (hown : Own w B e v l) (ad : Addr) (c b : Nat) (hx : a.eval x = .slice (some ad) 1 c) (hb : w.cell? ad = some (byteV b)) (hl : l.length + 1 ≤ 1000000) (hbase : B ≤ w.heap.size)
    (h : ∀ v' w', Own w' B e v' (l ++ [b]) → w.grownBy w' v.ownBlock → (v'.ownBlock = v.ownBlock ∨ v'.ownBlock = some w.heap.size) → wpList P ops Q rest (a.put o.dst v') w') : wpList P ops Q (o :: rest) a w :=
  wpList_plain hgd fun _ hK => wp_append_byte s x t ho B e i ht hi hz hsize hby v l hs hown ad c b hx hb hl hbase fun v' w' h2 h3 h4 => hK _ _ (h v' w' h2 h3 h4)
end
end
section
/-- v owns the values vs in a row from block B on. -/
def OwnV (w : World) (B : Nat) (e : TypeId) (v : Value) (vs : List Value) : Prop := w.ownsRow B e 1 v vs.length vs
theorem OwnV.nil (w : World) (B : Nat) (e : TypeId) : OwnV w B e (.slice none 0 0) [] := World.ownsRow_nil w B e 1
theorem OwnV.kept {w w' : World} {B : Nat} {e : TypeId} {v : Value} {l : List Value} {row : Option Nat} (h : OwnV w B e v l) (hg : w.grownBy w' row) (hne : v.ownBlock = none ∨ v.ownBlock ≠ row) : OwnV w' B e v l := World.ownsRow.kept h hg hne
theorem OwnV.block {w : World} {B : Nat} {e : TypeId} {v : Value} {l : List Value} (h : OwnV w B e v l) {k : Nat} (hk : v.ownBlock = some k) : B ≤ k ∧ k < w.heap.size := World.ownsRow.lt h k hk
theorem OwnV.cells {w : World} {B : Nat} {e : TypeId} {v : Value} {l : List Value} (h : OwnV w B e v l) : v = .slice none 0 0 ∧ l = [] ∨ ∃ g cap, v = .slice (some ⟨g, 0, none⟩) l.length cap ∧ B ≤ g ∧ g < w.heap.size ∧ ∀ i u, l[i]? = some u → w.cell? ⟨g, i, none⟩ = some u := by
  rcases h.2 with ⟨rfl, h0⟩ | ⟨g, cap, cur, rfl, hb, hg, hnc, hcm, hcs, htake⟩
  · exact Or.inl ⟨rfl, List.length_eq_zero_iff.1 h0⟩
  · refine Or.inr ⟨g, cap, rfl, hb, (Array.getElem?_eq_some_iff.1 hg).1, fun i u hu => ?_⟩
    have hc := World.ownsRow.cells (g := g) h rfl i u hu
    rw [Addr.add_lit, Nat.zero_add] at hc
    exact hc
section
variable {P : Program} {w : World}
theorem append_where_val (B : Nat) (t ty e : TypeId) (i : TypeInfo) (z : Value) (bytes : Nat) (ht : P.underlying t = some (.slice e)) (hi : P.info? e = some i) (hz : i.zero = some z) (hsize : i.size = 1) (hby : i.bytes = bytes) (h24 : bytes ≤ 64)
    (v : Value) (l : List Value) (hown : OwnV w B e v l) (ad : Addr) (c : Nat) (u : Value) (hu : u.oneCell' = true) (hb : w.cell? ad = some u) (hl : l.length + 1 ≤ 1000000) {v' : Value} {w' : World}
    (hr : (Builtin.append_ #[t, t] ty #[v, .slice (some ad) 1 c]).run P w = .ok v' w') : v'.ownBlock = v.ownBlock ∨ v'.ownBlock = some w.heap.size := by
  have hnews : ∀ j x, [u][j]? = some x → w.cell? (ad.add j) = some x := by
    intro j x hj
    match j, hj with
    | 0, hj =>
      obtain rfl : u = x := by simpa using hj
      simpa [Addr.add] using hb
  rcases hown.2 with ⟨rfl, h0⟩ | ⟨g, cap, cur, rfl, hbg, hg, hnc, hcm, hcs, htake⟩
  · have := run_append_nil (P := P) w t ty e i z ht hi hz ad 1 c [u] (by rw [hsize]; rfl) hnews (by decide) (by decide) (by rw [hby]; omega)
    rw [this] at hr
    injection hr with h1 h2
    subst h1
    exact Or.inr rfl
  · by_cases hroom : l.length + 1 ≤ cap
    · have := run_append_room (P := P) w t ty e i ht hi g l.length cap cur hg ad 1 c [u] (by rw [hsize]; rfl) hnews (fun x hx => by rw [List.mem_singleton.1 hx]; exact hu) hroom (by rw [hsize, hcs]; simpa using hroom)
      rw [this] at hr
      injection hr with h1 h2
      subst h1
      exact Or.inl rfl
    · have hbd : (l.length + 1) * bytes ≤ 1000000 * 64 := Nat.mul_le_mul hl h24
      have := run_append_grow (P := P) w t ty e i z ht hi hz ⟨g, 0, none⟩ l.length cap l (by rw [hsize]; exact hown.1) (World.ownsRow.cells (g := g) hown rfl) ad 1 c [u] (by rw [hsize]; rfl) hnews (by omega) (by omega) (growslice_fits (by omega) (by rw [hby]; omega))
      rw [this] at hr
      injection hr with h1 h2
      subst h1
      exact Or.inr rfl
theorem wpList_append_val {ops : Array Oper} {rest : List Oper} {o : Oper} {a : Act} {Q : Exit → Act → World → Prop} (hgd : o.guard = none) (s x : Operand) (t : TypeId)
    (ho : o.op = .call { callee := .builtin .append, args := #[s, x], argTypes := #[t, t] })
    (B : Nat) (e : TypeId) (i : TypeInfo) (z : Value) (bytes : Nat) (ht : P.underlying t = some (.slice e)) (hi : P.info? e = some i) (hz : i.zero = some z) (hzs : z.cells.size = 1) (hsize : i.size = 1) (hby : i.bytes = bytes) (h24 : bytes ≤ 64)
    (v : Value) (l : List Value) (hs : a.eval s = v) (hown : OwnV w B e v l) (ad : Addr) (c : Nat) (u : Value) (hu : u.oneCell' = true) (hx : a.eval x = .slice (some ad) 1 c) (hb : w.cell? ad = some u) (hl : l.length + 1 ≤ 1000000) (hbase : B ≤ w.heap.size)
    (h : ∀ v' w', OwnV w' B e v' (l ++ [u]) → w.grownBy w' v.ownBlock → (v'.ownBlock = v.ownBlock ∨ v'.ownBlock = some w.heap.size) → wpList P ops Q rest (a.put o.dst v') w') : wpList P ops Q (o :: rest) a w := by
  have hnews : ∀ j x, [u][j]? = some x → w.cell? (ad.add j) = some x := by
    intro j x hj
    match j, hj with
    | 0, hj =>
      obtain rfl : u = x := by simpa using hj
      simpa [Addr.add] using hb
  have hbd : (l.length + 1) * bytes ≤ 1000000 * 64 := Nat.mul_le_mul hl h24
  refine wpList_plain hgd fun K hK => ?_
  obtain ⟨v', w', hr, h2, h3, _⟩ := run_append_own (P := P) w B t o.type e i z 1 bytes ht hi hz hsize hby hzs (by decide) v l.length l hown ad 1 c [u] rfl hnews (fun x hx => by rw [List.mem_singleton.1 hx]; exact hu) (by unfold maxLen; omega) (by omega) hbase
  have h4 := append_where_val B t o.type e i z bytes ht hi hz hsize hby h24 v l hown ad c u hu hb hl hr
  have h5 : OwnV w' B e v' (l ++ [u]) := by
    unfold OwnV
    rw [List.length_append]
    exact h2
  unfold Oper.wp execOp
  simp only [ho, resolve, invoke, builtin, Sem.run_bind, Sem.run_pure, Result.andThen_ok, List.map_toArray, List.map_cons, List.map_nil, hs, hx, hr]
  exact hK _ _ (h v' w' h5 h3 h4)
/-- A row copied behind nil: nil again, or a new row. -/
theorem wpList_copy_row {ops : Array Oper} {rest : List Oper} {o : Oper} {a : Act} {Q : Exit → Act → World → Prop} (hgd : o.guard = none) (s x : Operand) (t : TypeId)
    (ho : o.op = .call { callee := .builtin .append, args := #[s, x], argTypes := #[t, t] })
    (e : TypeId) (i : TypeInfo) (ht : P.underlying t = some (.slice e)) (hi : P.info? e = some i) (hz : i.zero = some (byteV 0)) (hsize : i.size = 1) (hby : i.bytes = 1)
    (hs : a.eval s = .slice none 0 0) (q : Option Addr) (r : List Nat) (c : Nat) (hx : a.eval x = .slice q r.length c) (hq : Seg w q r) (hl : r.length ≤ 1000000) (hc0 : q = none → c = 0)
    (h : ∀ v' w', Own w' w.heap.size e v' r → Below w.heap.size w w' → wpList P ops Q rest (a.put o.dst v') w') : wpList P ops Q (o :: rest) a w := by
  rcases hq.cells with hr | ⟨b, o', rfl, hb, hcell⟩
  · subst hr
    refine wpList_plain hgd fun K hK => ?_
    have hr : (Builtin.append_ #[t, t] o.type #[.slice none 0 0, .slice q 0 c]).run P w = .ok (.slice none 0 0) w := by
      cases q with
      | none => obtain rfl := hc0 rfl; simp [Builtin.append_, run_underlying ht, sizeOf, typeInfo, hi, Builtin.lenOf, Builtin.firstCells]
      | some ad => simp [Builtin.append_, run_underlying ht, sizeOf, typeInfo, hi, Builtin.lenOf, Builtin.firstCells, loadCells, loadCellsFrom]
    unfold Oper.wp execOp
    simp only [List.length_nil] at hx
    simp only [ho, resolve, invoke, builtin, Sem.run_bind, Sem.run_pure, Result.andThen_ok, List.map_toArray, List.map_cons, List.map_nil, hs, hx, hr]
    exact hK _ _ (h _ _ (Own.nil w _ e) (Below.refl _ _))
  · refine wpList_append_own w hgd s x t ho w.heap.size e i (byteV 0) 1 1 ht hi hz hsize hby rfl (by decide) (.slice none 0 0) 0 [] hs (World.ownsRow_nil w _ e 1) ⟨b, o', none⟩ r.length c (r.map byteV) hx (by simp) ?_ ?_ (by unfold maxLen; omega) (by omega) (Nat.le_refl _) ?_
    · intro j u hj
      rw [List.getElem?_map] at hj
      obtain ⟨y, hy1, hy2⟩ := Option.map_eq_some_iff.1 hj
      have hjl : j < r.length := (List.getElem?_eq_some_iff.1 hy1).1
      rw [Addr.add_lit, hcell j hjl, Gf.nth_getElem r j hjl, ← hy2]
      have : r[j] = y := (List.getElem?_eq_some_iff.1 hy1).2
      rw [this]
      rfl
    · intro u hu
      obtain ⟨y, _, rfl⟩ := List.mem_map.1 hu
      rfl
    · intro v' w' hown hg _
      refine h v' w' ?_ ((Below.refl _ _).grown hg (Nat.le_refl _) (fun k hk => by simp [Value.ownBlock] at hk))
      simpa [Own] using hown
end
end
section
/-- v owns the texts l in a row from block B on. -/
def OwnT (w : World) (B : Nat) (v : Value) (l : List ByteArray) : Prop := OwnV w B 9 v (l.map Value.string)
theorem OwnT.nil (w : World) (B : Nat) : OwnT w B (.slice none 0 0) [] := OwnV.nil w B _
theorem OwnT.block {w : World} {B : Nat} {v : Value} {l : List ByteArray} (h : OwnT w B v l) {k : Nat} (hk : v.ownBlock = some k) : B ≤ k ∧ k < w.heap.size := OwnV.block h hk
theorem OwnT.form {w : World} {B : Nat} {v : Value} {l : List ByteArray} (h : OwnT w B v l) : ∃ p c, v = .slice p l.length c ∧ Strs w p l ∧ l.length ≤ c ∧ (p = none → c = 0) ∧ ∀ b o, p = some ⟨b, o, none⟩ → B ≤ b ∧ b < w.heap.size := by
  have hcell := OwnV.cells h
  have h0 : w.ownsRow B 9 1 v (l.map Value.string).length (l.map Value.string) := h
  rcases h0.2 with ⟨rfl, hz⟩ | ⟨g, cap, cur, rfl, hb, hg, hnc, hcm, hcs, htake⟩
  · have e : l = [] := by simpa using hz
    subst e
    exact ⟨none, 0, rfl, Or.inl rfl, Nat.le_refl _, fun _ => rfl, fun _ _ h => by cases h⟩
  · rw [List.length_map] at hnc ⊢
    have hlt : g < w.heap.size := (Array.getElem?_eq_some_iff.1 hg).1
    refine ⟨some ⟨g, 0, none⟩, cap, rfl, Or.inr ⟨g, 0, rfl, hlt, fun i hi => ?_⟩, hnc, fun h => (by cases h), fun b o h => ?_⟩
    · rcases hcell with ⟨h1, _⟩ | ⟨g', cap', hv, _, _, hc⟩
      · cases h1
      · have hgg : g = g' := by
          have := congrArg Value.ownBlock hv
          simpa [Value.ownBlock] using this
        subst hgg
        rw [Nat.zero_add, hc i (.string (txt l i)) (by rw [List.getElem?_map, List.getElem?_eq_getElem hi, txt_getElem l i hi]; rfl)]
    · obtain ⟨rfl, rfl⟩ : g = b ∧ 0 = o := by simpa using h
      exact ⟨hb, hlt⟩
theorem OwnT.base {w : World} {B B' : Nat} {v : Value} {l : List ByteArray} (h : OwnT w B v l) (hb : B' ≤ B) : OwnT w B' v l := by
  obtain ⟨h1, h2⟩ := h
  refine ⟨h1, ?_⟩
  rcases h2 with h2 | ⟨g, cap, cur, hv, hbg, hrest⟩
  · exact Or.inl h2
  · exact Or.inr ⟨g, cap, cur, hv, Nat.le_trans hb hbg, hrest⟩
theorem OwnT.kept {w w' : World} {B : Nat} {v : Value} {l : List ByteArray} (h : OwnT w B v l) (hb : Below w.heap.size w w') : OwnT w' B v l :=
  OwnV.kept (row := none) h ⟨hb.os, hb.tape, hb.output, hb.size, fun k hk _ => hb.block k hk⟩ (by cases v.ownBlock <;> simp)
section
variable {w : World}
theorem wpList_append_strs {ops : Array Oper} {rest : List Oper} {o : Oper} {a : Act} {Q : Exit → Act → World → Prop} (hgd : o.guard = none) (s x : Operand)
    (ho : o.op = .call { callee := .builtin .append, args := #[s, x], argTypes := #[77, 77] })
    (B : Nat) (v : Value) (l : List ByteArray) (hs : a.eval s = v) (hown : OwnT w B v l) (q : Option Addr) (r : List ByteArray) (c : Nat) (hx : a.eval x = .slice q r.length c) (hq : Strs w q r) (hc0 : q = none → r = [] ∧ c = 0) (hl : l.length + r.length ≤ 8796093022208) (hbase : B ≤ w.heap.size)
    (h : ∀ v' w', OwnT w' B v' (l ++ r) → Below B w w' → wpList Tryz.prog ops Q rest (a.put o.dst v') w') : wpList Tryz.prog ops Q (o :: rest) a w := by
  obtain ⟨i0, hi0, hz0, hz1, hzb⟩ := info_parts (P := Tryz.prog) (e := 9) (z := .string ⟨#[]⟩) (size := 1) (bytes := 16) (by kernel_rfl)
  have hfin : ∀ v' w', w'.ownsRow B 9 1 v' ((l.map Value.string).length + r.length) (l.map Value.string ++ r.map Value.string) → w.grownBy w' v.ownBlock → wpList Tryz.prog ops Q rest (a.put o.dst v') w' := fun v' w' h1 h2 => by
    refine h v' w' ?_ ((Below.refl _ _).grown h2 hbase (fun k hk => (hown.block hk).1))
    unfold OwnT OwnV
    have e : (l.map Value.string ++ r.map Value.string).length = (l.map Value.string).length + r.length := by simp
    rw [List.map_append, e]
    exact h1
  cases q with
  | none =>
    obtain ⟨hr, hc⟩ := hc0 rfl
    subst hr hc
    refine wpList_append_own_none hgd s x _ ho B 9 i0 1 Tryz.underlying77 hi0 v (l.map Value.string).length (l.map Value.string) hs hown hx ?_
    have := h v w (by rw [List.append_nil]; exact hown) (Below.refl _ _)
    exact this
  | some ad =>
    refine wpList_append_own w hgd s x _ ho B 9 i0 (.string ⟨#[]⟩) 1 16 Tryz.underlying77 hi0 hz0 hz1 hzb rfl (by decide) v (l.map Value.string).length (l.map Value.string) hs hown ad r.length c (r.map Value.string) hx (by simp) ?_ ?_ (by rw [List.length_map]; unfold maxLen; omega) (by rw [List.length_map]; omega) hbase (fun v' w' h1 h2 _ => hfin v' w' h1 h2)
    · intro j u hj
      rw [List.getElem?_map] at hj
      obtain ⟨y, hy1, hy2⟩ := Option.map_eq_some_iff.1 hj
      have hjl : j < r.length := (List.getElem?_eq_some_iff.1 hy1).1
      rcases hq with h0 | ⟨b, o', hp, _, hcell⟩
      · rw [h0] at hjl; exact absurd hjl (Nat.not_lt_zero _)
      · obtain rfl : ad = ⟨b, o', none⟩ := by simpa using hp
        rw [Addr.add_lit, hcell j hjl, txt_getElem r j hjl, ← hy2, (List.getElem?_eq_some_iff.1 hy1).2]
    · intro u hu
      obtain ⟨y, _, rfl⟩ := List.mem_map.1 hu
      rfl
/-- One text more, out of a row of one. -/
theorem wpList_append_str {ops : Array Oper} {rest : List Oper} {o : Oper} {a : Act} {Q : Exit → Act → World → Prop} (hgd : o.guard = none) (s x : Operand)
    (ho : o.op = .call { callee := .builtin .append, args := #[s, x], argTypes := #[77, 77] })
    (B : Nat) (v : Value) (l : List ByteArray) (hs : a.eval s = v) (hown : OwnT w B v l) (ad : Addr) (t : ByteArray) (c : Nat) (hx : a.eval x = .slice (some ad) 1 c) (hq : w.cell? ad = some (.string t)) (hl : l.length + 1 ≤ 1000000) (hbase : B ≤ w.heap.size)
    (h : ∀ v' w', OwnT w' B v' (l ++ [t]) → Below B w w' → wpList Tryz.prog ops Q rest (a.put o.dst v') w') : wpList Tryz.prog ops Q (o :: rest) a w := by
  obtain ⟨i0, hi0, hz0, hz1, hzb⟩ := info_parts (P := Tryz.prog) (e := 9) (z := .string ⟨#[]⟩) (size := 1) (bytes := 16) (by kernel_rfl)
  refine wpList_append_val hgd s x _ ho B 9 i0 (.string ⟨#[]⟩) 16 Tryz.underlying77 hi0 hz0 rfl hz1 hzb (by decide) v (l.map Value.string) hs hown ad c (.string t) rfl hx hq (by rw [List.length_map]; exact hl) hbase fun v' w' h1 h2 _ => h v' w' ?_ ((Below.refl _ _).grown h2 hbase (fun k hk => (hown.block hk).1))
  unfold OwnT
  rw [List.map_append]
  exact h1
end
end
section
open Go.Sort
theorem below_grow (w : World) (n : Nat) (os : Array Obj) : RowKit.Below w.heap.size w (grow (w.drewN n) os) := ⟨rfl, rfl, rfl, by show w.heap.size ≤ (w.heap ++ os).size; rw [Array.size_append]; omega, fun _ hj => heap_grow_old (w.drewN n) os hj⟩
end
/-- Package hold answers as it is asked to (what a first look needs); Hd: in the world w the hold at block h, in the blocks of S, holds L, and is sealed or not; X: what is asked of the world where something is put. -/
structure HoldOk0 (ad : Nat → Addr) (X : World → Prop) (Hd : World → Nat → (Nat → Prop) → List Kep → Bool → Prop) : Prop where
  lt : ∀ {w h S L s}, Hd w h S L s → ∀ k, S k → k < w.heap.size
  keep : ∀ {w w' h S L s}, Hd w h S L s → w.heap.size ≤ w'.heap.size → (∀ k, S k → w'.heap[k]? = w.heap[k]?) → Hd w' h S L s
  zero : ∀ w : World, Hd (w.alloc (.cells #[.map none, .bool false] 39)) w.heap.size (fun k => k = w.heap.size) [] false
  less : ∀ (a b : Int × Int) (w : World), Calls Tryz.prog 19 #[.agg #[.int .i64 a.1, .int .i64 a.2], .agg #[.int .i64 b.1, .int .i64 b.2]] w fun e w' => e = .returned (.bool (lessB a b)) ∧ ∃ q os, w' = Sort.grow (w.drewN q) os
  count : ∀ {w h S L s}, Hd w h S L s → Calls Tryz.prog 11 #[.pointer (some ⟨h, 0, none⟩)] w fun e w' => e = .returned (.int .i64 (L.length : Int)) ∧ Below w.heap.size w w'
  get : ∀ {w h S L s} (key : ByteArray), key.size ≤ maxLen → Hd w h S L s → Calls Tryz.prog 17 #[.pointer (some ⟨h, 0, none⟩), .string key] w fun e w' => (∃ p c, e = .returned (.slice p (getL L key).length c) ∧ Rec verE w' p (getL L key)) ∧ Below w.heap.size w w'
  last : ∀ {w h S L s} (key : ByteArray), key.size ≤ maxLen → Hd w h S L s → Calls Tryz.prog 18 #[.pointer (some ⟨h, 0, none⟩), .string key] w fun e w' => e = .returned (.tuple #[.agg #[.int .i64 (lastT (getL L key)).1, .int .i64 (lastT (getL L key)).2], .bool (decide (0 < (getL L key).length))]) ∧ Below w.heap.size w w'
  put : ∀ {w h S L s} (key : ByteArray) (v : Ver), key.size ≤ maxLen → v.text.size ≤ maxLen → Hd w h S L s → X w → Calls Tryz.prog 16 #[.pointer (some ⟨h, 0, none⟩), .string key, verA v] w fun e w' => (∃ ev, e = .returned ev ∧ BareIs ad ev (putR L s key v).1) ∧ ∃ S', Hd w' h S' (putR L s key v).2 s ∧ Upd S S' w w'
end Go.Proofs.YtmbpfbhpmafheaaGreatDoor
