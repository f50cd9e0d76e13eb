import Derived.Test.YtghpdhegfnhmkaaGreatDoorR6
import Derived.Shelf.SlSortCmp.QuietGrown
import Derived.Test.YtghpdhegfnhmkaaGreatDoorR2
import Derived.BigQuiet
import Derived.Deep.QuietTactic
import Derived.Deep.OwnRows
import Derived.Test.YtghpdhegfnhmkaaGreatDoorR0
import Derived.Maps.RangeWalk
import Derived.Maps.OwnOps
import Derived.Maps.OwnSet
import Derived.Laws.AppendOwn
import Derived.OwnWalk
import Derived.Laws.AppendOwnNone
import Derived.WalkSmall
import Derived.Test.YtghpdhegfnhmkaaGreatDoorR4
import Derived.ProofKit
import Derived.OpenShut
import Derived.ChangeOld
import Derived.Deep.SlicePairs
import Derived.Deep.Strs
import Derived.Lib.SmallJoins
namespace Go.Proofs.YtghpdhegfnhmkaaGreatDoor
open Go.RowKit
def lessB (a b:Int×Int):Bool:=decide (a.1 < b.1) || (decide (a.1=b.1) && decide (a.2 < b.2))
theorem verinfo:(Tryz.prog.info? 47).map (fun i=>(i.zero,i.size,i.bytes))=some (some (.agg #[.int .i64 0,.int .i64 0,.int .i64 0,.int .i64 0,.string ⟨#[]⟩]),5,48):=by kernel_rfl
def verAt (L:List Ver) (i:Nat):Ver:=L.getD i ⟨0,0,0,0,⟨#[]⟩⟩
theorem verAt_get {L:List Ver} {i:Nat} (hi:i < L.length):L[i]?=some (verAt L i):=by
 unfold verAt
 rw [List.getD_eq_getElem?_getD,List.getElem?_eq_getElem hi]
 rfl
theorem ver_ext {l m:List Ver} (hl:l.length=m.length) (h:∀ i,i < l.length->verAt l i=verAt m i):l=m:=by
 refine List.ext_getElem? fun i=>?_
 by_cases hi:i < l.length
 ·rw [verAt_get hi,verAt_get (show i < m.length by omega),h i hi]
 ·rw [List.getElem?_eq_none (by omega),List.getElem?_eq_none (by omega)]
theorem ver_cells {w:World} {p:Option Addr} {L:List Ver} (h:Rec verE w p L) {i:Nat} (hi:i < L.length):∃ b o,p=some ⟨b,o,none⟩/\b < w.heap.size/\w.cell? ⟨b,o+i*5,none⟩=some (.int .i64 (verAt L i).n)/\w.cell? ⟨b,o+i*5+1,none⟩=some (.int .i64 (verAt L i).who)/\w.cell? ⟨b,o+i*5+2,none⟩=some (.int .i64 (verAt L i).size)/\w.cell? ⟨b,o+i*5+3,none⟩=some (.int .i64 (verAt L i).at_)/\w.cell? ⟨b,o+i*5+4,none⟩=some (.string (verAt L i).text):=by
 rcases h with h | ⟨b,o,hp,hlt,hc⟩
 ·rw [h] at hi;exact absurd hi (Nat.not_lt_zero _)
 ·have hx:=verAt_get hi
  exact ⟨b,o,hp,hlt,hc i _ hx 0 _ rfl,hc i _ hx 1 _ rfl,hc i _ hx 2 _ rfl,hc i _ hx 3 _ rfl,hc i _ hx 4 _ rfl⟩
def tagB (n who:Int):Bool:=decide (0<=n) && decide (n<=1099511627776) && decide (0<=who) && decide (who<=1099511627776)
def verOk (v:Ver):Bool:=tagB v.n v.who && decide (0<=v.size/\v.size<=1000/\0<=v.at_/\v.at_ < 12/\v.text.size<=1000)
def sameTag (x:Kep) (key:ByteArray) (v:Ver):Bool:=decide (x.1=key) && decide (x.2.n=v.n) && decide (x.2.who=v.who)
def putScan (L:List Kep) (key:ByteArray) (v:Ver):Nat->Nat->Int
 | _,0=>if 60<=L.length then 7 else 0
 | i,m+1=>if sameTag (kepAt L i) key v then (if (kepAt L i).2=v then -1 else 6) else putScan L key v (i+1) m
def putErr (L:List Kep) (s:Bool) (key:ByteArray) (v:Ver):Int:=if s then 10 else if isN key then (if verOk v then putScan L key v 0 L.length else 2) else 4
theorem putScan_at {L:List Kep} {key:ByteArray} {v:Ver} {i:Nat} (hi:i < L.length):putScan L key v i (L.length - i)=if sameTag (kepAt L i) key v then (if (kepAt L i).2=v then -1 else 6) else putScan L key v (i+1) (L.length - (i+1)):=by
 rw [show L.length - i=(L.length - (i+1))+1 by omega]
 rfl
def keysTo (L:List Kep):Nat->List ByteArray
 | 0=>[]
 | i+1=>if (keysTo L i).length=0∨txt (keysTo L i) ((keysTo L i).length - 1)≠(kepAt L i).1 then keysTo L i ++ [(kepAt L i).1] else keysTo L i
theorem keysTo_le (L:List Kep):∀ i,(keysTo L i).length<=i
 | 0=>Nat.zero_le _
 | i+1=>by
  have ih:=keysTo_le L i
  show (if _ then _ else _:List ByteArray).length<=i+1
  split
  ·rw [List.length_append]
   show _+1<=_
   omega
  ·omega
def beforeB (x:Kep) (key:ByteArray) (v:Ver):Bool:=Op.bytesLess x.1.toList key.toList || (decide (x.1=key) && lessB (x.2.n,x.2.who) (v.n,v.who))
def placeN (L:List Kep) (key:ByteArray) (v:Ver):Nat:=L.findIdx fun x=>!beforeB x key v
theorem placeN_le (L:List Kep) (key:ByteArray) (v:Ver):placeN L key v<=L.length:=List.findIdx_le_length
def putL (L:List Kep) (key:ByteArray) (v:Ver):List Kep:=L.take (placeN L key v) ++ [(key,v)] ++ L.drop (placeN L key v)
theorem placeN_before {L:List Kep} {key:ByteArray} {v:Ver} {j:Nat} (hj:j < placeN L key v):beforeB (kepAt L j) key v=true:=by
 have hlt:j < L.length:=Nat.lt_of_lt_of_le hj (placeN_le L key v)
 have h:=List.not_of_lt_findIdx (p:=fun x=>!beforeB x key v) (xs:=L) (i:=j) hj
 have e:L[j]=kepAt L j:=by
  have:=kepAt_get hlt
  rw [List.getElem?_eq_getElem hlt] at this
  exact Option.some.inj this
 rw [e] at h
 simpa using h
theorem placeN_here {L:List Kep} {key:ByteArray} {v:Ver} (hk:placeN L key v < L.length):beforeB (kepAt L (placeN L key v)) key v=false:=by
 have h:=List.findIdx_getElem (p:=fun x=>!beforeB x key v) (xs:=L) (w:=hk)
 have e:L[placeN L key v]=kepAt L (placeN L key v):=by
  have:=kepAt_get hk
  rw [List.getElem?_eq_getElem hk] at this
  exact Option.some.inj this
 have h2:(!beforeB L[placeN L key v] key v)=true:=h
 rw [e] at h2
 simpa using h2
def putR (L:List Kep) (s:Bool) (key:ByteArray) (v:Ver):Int×List Kep:=if putErr L s key v=0 then (0,putL L key v) else if putErr L s key v < 0 then (0,L) else (putErr L s key v,L)
def BareIs (ad:Nat->Addr) (ev:Value) (c:Int):Prop:=(ev=.nilIface/\c=0)∨∃ i,i < 12/\ev=.iface 218 (.pointer (some (ad i)))/\c=((i+1:Nat):Int)
structure Upd (S S':Nat->Prop) (w w':World):Prop where
 os:w'.os=w.os
 tape:w'.tape=w.tape
 output:w'.output=w.output
 size:w.heap.size<=w'.heap.size
 block:∀ k,k < w.heap.size->¬ S k->w'.heap[k]?=w.heap[k]?
 new:∀ k,S' k->S k∨w.heap.size<=k
theorem Upd.of_below {S:Nat->Prop} {w w':World} (hb:Below w.heap.size w w'):Upd S S w w':=⟨hb.os,hb.tape,hb.output,hb.size,fun k hk _=>hb.block k hk,fun _ h=>Or.inl h⟩
def verA (v:Ver):Value:=.agg #[.int .i64 v.n,.int .i64 v.who,.int .i64 v.size,.int .i64 v.at_,.string v.text]
def VerI64 (v:Ver):Prop:=(-9223372036854775808<=v.n/\v.n<=9223372036854775807)/\(-9223372036854775808<=v.who/\v.who<=9223372036854775807)/\(-9223372036854775808<=v.size/\v.size<=9223372036854775807)/\-9223372036854775808<=v.at_/\v.at_<=9223372036854775807
end Go.Proofs.YtghpdhegfnhmkaaGreatDoor
namespace Go.Proofs.YtghpdhegfnhmkaaGreatDoor
open Go.RowKit Go.Sort
theorem below_grow (w:World) (n:Nat) (os:Array Obj):RowKit.Below w.heap.size w (grow (w.drewN n) os):=⟨rfl,rfl,rfl,by show w.heap.size<=(w.heap ++ os).size;rw [Array.size_append];omega,fun _ hj=>heap_grow_old (w.drewN n) os hj⟩
end Go.Proofs.YtghpdhegfnhmkaaGreatDoor
namespace Go.Proofs.YtghpdhegfnhmkaaGreatDoor
open Go.RowKit
abbrev Lv:=Option Addr×Nat×Nat
def msgC (x:Msg×Lv):List Value:=[.string x.1.from_,.string x.1.to_,.string x.1.kind,.string x.1.key,.int .i64 x.1.op,.int .i64 x.1.config,.bool x.1.shut,.slice x.2.1 x.2.2.1 x.2.2.2]
def mE:Enc (Msg×Lv):=⟨8,by decide,msgC,fun _=>rfl,fun x u hu=>by simp [msgC] at hu;rcases hu with rfl | rfl | rfl | rfl | rfl | rfl | rfl | rfl <;> rfl⟩
theorem Upd.trans {S S1 S2:Nat->Prop} {w w1 w2:World} (h1:Upd S S1 w w1) (h2:Upd S1 S2 w1 w2):Upd S S2 w w2 :=
 ⟨h2.os.trans h1.os,h2.tape.trans h1.tape,h2.output.trans h1.output,Nat.le_trans h1.size h2.size,fun k hk hs=>(h2.block k (Nat.lt_of_lt_of_le hk h1.size) (fun h=>(h1.new k h).elim hs (by omega))).trans (h1.block k hk hs),fun k hk=>(h2.new k hk).elim (h1.new k) (fun h=>Or.inr (Nat.le_trans h1.size h))⟩
def kLook:ByteArray:=⟨#[108,111,111,107]⟩
def kSeal:ByteArray:=⟨#[115,101,97,108]⟩
def kKeep:ByteArray:=⟨#[107,101,101,112]⟩
abbrev Cfd:=Int×List Kep×Bool
structure MMem where
 name:ByteArray
 L:List Cfd
def MMem.off (m:MMem) (x:Msg):Prop:=x.to_≠m.name∨x.config < 0∨isN x.key=false
def oddK (x:Msg):Prop:=x.kind≠kLook/\x.kind≠kSeal/\(x.kind≠kKeep∨x.L.length≠1)
instance (m:MMem) (x:Msg):Decidable (m.off x):=by unfold MMem.off;infer_instance
instance (x:Msg):Decidable (oddK x):=by unfold oddK;infer_instance
end Go.Proofs.YtghpdhegfnhmkaaGreatDoor
namespace Go.Proofs.YtghpdhegfnhmkaaGreatDoor
open Go.RowKit Go.Extern.Stop Go.Stop Go.Extern
theorem coded3_nil (w:World):Calls Tryz.prog 13 #[.nilIface,.int .i64 0] w fun e w'=>e=.returned (.bool true)/\w'=w:=by
 go_enter Tryz.func13,Tryz.ntmps13
 go_wp2_with (go_at_call 41;refine (code_nil _).mono ?_;rintro e w' ⟨rfl,rfl⟩)
 go_ret
 exact ⟨rfl,rfl⟩
theorem coded3_sent (ad:Nat->Addr) (i:Nat) (hi:i < 12) (w:World) (hS:Sent w ad) :
 Calls Tryz.prog 13 #[.iface 218 (.pointer (some (ad i))),.int .i64 ((i+1:Nat):Int)] w fun e w'=>e=.returned (.bool true)/\Below w.heap.size w w':=by
 go_enter Tryz.func13,Tryz.ntmps13
 go_wp2_with fail
 refine (code_sent ad i hi _ hS).mono ?_
 rintro e w2 ⟨rfl,hb2⟩
 go_wp2
 go_ret
 exact ⟨rfl,hb2⟩
theorem coded3_any {ad:Nat->Addr} {ev:Value} {c:Int} (h:BareIs ad ev c) (w:World) (hS:Sent w ad) :
 Calls Tryz.prog 13 #[ev,.int .i64 c] w fun e w'=>e=.returned (.bool true)/\Below w.heap.size w w':=by
 rcases h with ⟨rfl,rfl⟩ | ⟨i,hi,rfl,rfl⟩
 ·exact (coded3_nil w).mono fun e w' ⟨h1,h2⟩=>⟨h1,by rw [h2];exact Below.refl _ _⟩
 ·exact coded3_sent ad i hi w hS
end Go.Proofs.YtghpdhegfnhmkaaGreatDoor
namespace Go.Proofs.YtghpdhegfnhmkaaGreatDoor
open Go.RowKit
set_option maxRecDepth 10000 in
theorem rless_any (a b:Int×Int) (w:World) :
 Calls Tryz.prog 44 #[.agg #[.int .i64 a.1,.int .i64 a.2],.agg #[.int .i64 b.1,.int .i64 b.2]] w fun e w'=>e=.returned (.bool (lessB a b))/\Below w.heap.size w w':=by
 obtain ⟨a1,a2⟩:=a
 obtain ⟨b1,b2⟩:=b
 have HB:Hid (Below w.heap.size w ((w.alloc (.cells #[.int .i64 a1,.int .i64 a2] 43)).alloc (.cells #[.int .i64 b1,.int .i64 b2] 43))):=((Below.refl _ _).alloc (Nat.le_refl _) _).alloc (by simp) _
 by_cases h1:a1 < b1
 ·have HE:Hid (lessB (a1,a2) (b1,b2)=true):=by show _=_;unfold lessB;simp [h1]
  rw [HE.out]
  go_enter Tryz.func44,Tryz.ntmps44
  go_wp2
  go_ret
  exact ⟨rfl,HB.out⟩
 have d1:decide (a1 < b1)=false:=decide_eq_false h1
 by_cases h2:a1=b1
 ·subst h2
  have HE:Hid (lessB (a1,a2) (a1,b2)=decide (a2 < b2)):=by show _=_;unfold lessB;simp
  rw [HE.out]
  go_enter Tryz.func44,Tryz.ntmps44
  go_wp2
  go_ret
  exact ⟨rfl,HB.out⟩
 ·have HE:Hid (lessB (a1,a2) (b1,b2)=false):=by show _=_;unfold lessB;simp [h1,h2]
  rw [HE.out]
  have d2:(a1==b1)=false:=by
   rw [beq_eq_false_iff_ne]
   exact h2
  go_enter Tryz.func44,Tryz.ntmps44
  go_wp2
  go_ret
  exact ⟨rfl,HB.out⟩
end Go.Proofs.YtghpdhegfnhmkaaGreatDoor
namespace Go.Proofs.YtghpdhegfnhmkaaGreatDoor
open Go.RowKit Go.Sort
set_option maxRecDepth 10000 in
theorem rless_grow (a b:Int×Int) (w:World) :
 Calls Tryz.prog 44 #[.agg #[.int .i64 a.1,.int .i64 a.2],.agg #[.int .i64 b.1,.int .i64 b.2]] w fun e w'=>e=.returned (.bool (lessB a b))/\∃ q os,w'=grow (w.drewN q) os:=by
 obtain ⟨a1,a2⟩:=a
 obtain ⟨b1,b2⟩:=b
 by_cases h1:a1 < b1
 ·have HE:Hid (lessB (a1,a2) (b1,b2)=true):=by show _=_;unfold lessB;simp [h1]
  rw [HE.out]
  go_enter Tryz.func44,Tryz.ntmps44
  go_wp2
  go_ret
  exact ⟨rfl,0,_,by rw [alloc_eq_grow,alloc_eq_grow,grow_grow];rfl⟩
 have d1:decide (a1 < b1)=false:=decide_eq_false h1
 by_cases h2:a1=b1
 ·subst h2
  have HE:Hid (lessB (a1,a2) (a1,b2)=decide (a2 < b2)):=by show _=_;unfold lessB;simp
  rw [HE.out]
  go_enter Tryz.func44,Tryz.ntmps44
  go_wp2
  go_ret
  exact ⟨rfl,0,_,by rw [alloc_eq_grow,alloc_eq_grow,grow_grow];rfl⟩
 ·have HE:Hid (lessB (a1,a2) (b1,b2)=false):=by show _=_;unfold lessB;simp [h1,h2]
  rw [HE.out]
  have d2:(a1==b1)=false:=by
   rw [beq_eq_false_iff_ne]
   exact h2
  go_enter Tryz.func44,Tryz.ntmps44
  go_wp2
  go_ret
  exact ⟨rfl,0,_,by rw [alloc_eq_grow,alloc_eq_grow,grow_grow];rfl⟩
end Go.Proofs.YtghpdhegfnhmkaaGreatDoor
namespace Go.Proofs.YtghpdhegfnhmkaaGreatDoor
open Go.RowKit
set_option maxRecDepth 10000 in
theorem isTag_any (n who:Int) (w:World) :
 Calls Tryz.prog 68 #[.agg #[.int .i64 n,.int .i64 who]] w fun e w'=>e=.returned (.bool (tagB n who))/\Below w.heap.size w w':=by
 have HB:Hid (Below w.heap.size w (w.alloc (.cells #[.int .i64 n,.int .i64 who] 43))):=(Below.refl _ _).alloc (Nat.le_refl _) _
 have walk:(decide (0<=n)=false)∨(0<=n)/\((decide (n<=1099511627776)=false)∨n<=1099511627776/\((decide (0<=who)=false)∨0<=who/\((decide (who<=1099511627776)=false)∨who<=1099511627776))):=by
  by_cases h1:0<=n
  ·by_cases h2:n<=1099511627776
   ·by_cases h3:0<=who
    ·by_cases h4:who<=1099511627776
     ·exact Or.inr ⟨h1,Or.inr ⟨h2,Or.inr ⟨h3,Or.inr h4⟩⟩⟩
     ·exact Or.inr ⟨h1,Or.inr ⟨h2,Or.inr ⟨h3,Or.inl (decide_eq_false h4)⟩⟩⟩
    ·exact Or.inr ⟨h1,Or.inr ⟨h2,Or.inl (decide_eq_false h3)⟩⟩
   ·exact Or.inr ⟨h1,Or.inl (decide_eq_false h2)⟩
  ·exact Or.inl (decide_eq_false h1)
 have HR:Hid (tagB n who=(decide (0<=n) && decide (n<=1099511627776) && decide (0<=who) && decide (who<=1099511627776))):=by show _=_;rfl
 generalize tagB n who=r at *
 rcases walk with g | ⟨g1,g | ⟨g2,g | ⟨g3,g | g4⟩⟩⟩
 all_goals
  go_enter Tryz.func68,Tryz.ntmps68
  go_wp2
  go_ret
  exact ⟨by rw [HR.out];simp [*],HB.out⟩
set_option maxRecDepth 10000 in
theorem hwithin_any (x m:Int) (w:World):Calls Tryz.prog 52 #[.int .i64 x,.int .i64 m] w fun e w'=>e=.returned (.bool (decide (0<=x/\x<=m)))/\w'=w:=by
 by_cases h1:0<=x
 ·by_cases h2:x<=m
  ·have HE:Hid (decide (0<=x/\x<=m)=true):=decide_eq_true ⟨h1,h2⟩
   rw [HE.out]
   go_enter Tryz.func52,Tryz.ntmps52
   go_wp2
   go_ret
   exact ⟨rfl,rfl⟩
  ·have HE:Hid (decide (0<=x/\x<=m)=false):=decide_eq_false fun h=>h2 h.2
   rw [HE.out]
   go_enter Tryz.func52,Tryz.ntmps52
   go_wp2
   go_ret
   exact ⟨rfl,rfl⟩
 ·have HE:Hid (decide (0<=x/\x<=m)=false):=decide_eq_false fun h=>h1 h.1
  rw [HE.out]
  go_enter Tryz.func52,Tryz.ntmps52
  go_wp2
  go_ret
  exact ⟨rfl,rfl⟩
def tagOk (a b:Int):Bool:=decide (0<=a/\a<=1099511627776) && decide (0<=b/\b<=1099511627776)
set_option maxRecDepth 10000 in
theorem istag_any (a b:Int) (w:World):Calls Tryz.prog 51 #[.agg #[.int .i64 a,.int .i64 b]] w fun e w'=>e=.returned (.bool (tagOk a b))/\Below w.heap.size w w':=by
 obtain ⟨w1,hw1⟩:∃ w1,w1=w.alloc (.cells #[.int .i64 a,.int .i64 b] 43):=⟨_,rfl⟩
 have HB1:Hid (Below w.heap.size w w1):=by rw [hw1];exact (Below.refl _ _).alloc (Nat.le_refl _) _
 have f0:w1.cell? ⟨w.heap.size,0,none⟩=some (.int .i64 a):=by rw [hw1,World.cell?_alloc_at _ _ _ _ rfl];rfl
 have f1:w1.cell? ⟨w.heap.size,1,none⟩=some (.int .i64 b):=by rw [hw1,World.cell?_alloc_at _ _ _ _ rfl];rfl
 have HW1:Hid (w1=w.alloc (.cells #[.int .i64 a,.int .i64 b] 43)):=hw1
 have HA:Hid (Calls Tryz.prog 52 #[.int .i64 a,.int .i64 1099511627776] w1 fun e w'=>e=.returned (.bool (decide (0<=a/\a<=1099511627776)))/\w'=w1):=hwithin_any _ _ w1
 have HC:Hid (Calls Tryz.prog 52 #[.int .i64 b,.int .i64 1099511627776] w1 fun e w'=>e=.returned (.bool (decide (0<=b/\b<=1099511627776)))/\w'=w1):=hwithin_any _ _ w1
 have HT:Hid (tagOk a b=(decide (0<=a/\a<=1099511627776) && decide (0<=b/\b<=1099511627776))):=by show _=_;rfl
 rw [HT.out]
 clear hw1 HT
 generalize decide (0<=a/\a<=1099511627776)=x at *
 generalize decide (0<=b/\b<=1099511627776)=y at *
 cases x with
 | false =>
  go_enter Tryz.func51,Tryz.ntmps51
  go_wp2_with fail
  rw [<- HW1.out]
  refine HA.out.mono ?_
  rintro e w2 ⟨rfl,hw2⟩
  rw [hw2]
  clear hw2 w2 HA
  go_wp2
  go_ret
  exact ⟨rfl,HB1.out⟩
 | true =>
  go_enter Tryz.func51,Tryz.ntmps51
  go_wp2_with fail
  rw [<- HW1.out]
  refine HA.out.mono ?_
  rintro e w2 ⟨rfl,hw2⟩
  rw [hw2]
  clear hw2 w2 HA
  go_wp2_with fail
  refine HC.out.mono ?_
  rintro e w2 ⟨rfl,hw2⟩
  rw [hw2]
  clear hw2 w2 HC
  go_wp2
  go_ret
  exact ⟨rfl,HB1.out⟩
set_option maxRecDepth 10000 in
set_option maxHeartbeats 4000000 in
theorem rget_any (h:Nat) (L:List Kep) (s:Bool) (key:ByteArray) (w:World) (hl:L.length<=1000000) (hm:MHold w h L s) :
 Calls Tryz.prog 25 #[.pointer (some ⟨h,0,none⟩),.string key] w fun e w'=>(∃ v,e=.returned v/\OwnR verE 47 w' w.heap.size v (getL L key))/\Below w.heap.size w w':=by
 obtain ⟨p,c,q0,hrec,hc,hn,hne⟩:=hm.row
 have HREC:Hid (Rec kepE w p L):=hrec
 have hlt:=lt_of_cellH q0
 have HQ0:Hid (w.cell? ⟨h,0,none⟩=some (.slice p L.length c)):=q0
 clear hrec hm q0 hne hn
 go_enter Tryz.func25,Tryz.ntmps25
 go_wp2
 go_loopw [5,6] (fun v x wq=>∃ i:Nat,i<=L.length/\x=.int .i64 i/\OwnR verE 47 wq w.heap.size v (getL (L.take i) key)/\Below w.heap.size w wq) (fun _ x _=>L.length - (intOf x).toNat)
 case atStart=>exact ⟨0,Nat.zero_le _,rfl,OwnR.nil _ _ _,Below.refl _ _⟩
 case round =>
  obtain ⟨i,hi,rfl,hO,hB⟩:=hrel
  obtain ⟨w1,rfl⟩:∃ w1,w1=wr:=⟨_,rfl⟩
  obtain ⟨v,rfl⟩:∃ v,v=u5:=⟨_,rfl⟩
  have HO:Hid (OwnR verE 47 w1 w.heap.size v (getL (L.take i) key)):=hO
  have HB:Hid (Below w.heap.size w w1):=hB
  have q0:w1.cell? ⟨h,0,none⟩=some (.slice p L.length c):=(hB.cell (p:=⟨h,0,none⟩) hlt).trans HQ0.out
  have hz1:w.heap.size<=w1.heap.size:=hB.size
  clear hO hB
  by_cases hil:i < L.length
  ·obtain ⟨b,o,hpp,hblt,c0,c1,c2,c3,c4,c5⟩:=kep_cells (HREC.out.below HB.out) hil
   subst hpp
   by_cases he:(kepAt L i).1=key
   ·have HNX:Hid (getL (L.take (i+1)) key=getL (L.take i) key ++ [(kepAt L i).2]):=getL_succ_yes hil he
    have hgl:(getL (L.take i) key).length<=1000000:=Nat.le_trans (getL_le _ _) (by rw [List.length_take];omega)
    rw [he] at c0
    clear he
    generalize (kepAt L i).2=x at *
    obtain ⟨xn,xw,xs,xa,xt⟩:=x
    generalize getL (L.take i) key=gs at *
    have HO2:Hid (OwnR verE 47 (w1.alloc (.cells #[.int .i64 xn,.int .i64 xw,.int .i64 xs,.int .i64 xa,.string xt] 47)) w.heap.size v gs):=HO.out.kept ((Below.refl _ _).alloc (Nat.le_refl _) _)
    have HNW:Hid (∀ j u,(verE.enc ⟨xn,xw,xs,xa,xt⟩)[j]?=some u->(w1.alloc (.cells #[.int .i64 xn,.int .i64 xw,.int .i64 xs,.int .i64 xa,.string xt] 47)).cell? ⟨w1.heap.size,0+j,none⟩=some u):=fun j u hj=>by
     rw [Nat.zero_add,World.cell?_alloc_at _ _ _ _ rfl]
     match j,hj with
     | 0,hj=>exact hj
     | 1,hj=>exact hj
     | 2,hj=>exact hj
     | 3,hj=>exact hj
     | 4,hj=>exact hj
    have HB2:Hid (Below w.heap.size w (w1.alloc (.cells #[.int .i64 xn,.int .i64 xw,.int .i64 xs,.int .i64 xa,.string xt] 47))):=HB.out.alloc hz1 _
    go_wp2_with (first | (at_builtin;refine wpList_append_rec rfl (.tmp 26) (.tmp 35) 62 47 rfl (.agg #[.int .i64 0,.int .i64 0,.int .i64 0,.int .i64 0,.string ⟨#[]⟩]) 48 Tryz.underlying62 verinfo rfl w.heap.size v gs rfl HO2.out w1.heap.size 0 1 ⟨xn,xw,xs,xa,xt⟩ rfl HNW.out (by unfold maxLen;omega) (by omega) HB2.out.size (by simp) ?_;intro v3 w3 hO3 hb3))
    have HO3:Hid (OwnR verE 47 w3 w.heap.size v3 (gs ++ [⟨xn,xw,xs,xa,xt⟩])):=hO3
    have HB3:Hid (Below w.heap.size w w3):=HB2.out.trans hb3
    clear hO3 hb3
    go_wp2
    go_roundw
    case rel=>exact ⟨i+1,by omega,by go_num,by rw [HNX.out];exact HO3.out,HB3.out⟩
    case measure=>simp [intOf];omega
   ·have HNX:Hid (getL (L.take (i+1)) key=getL (L.take i) key):=getL_succ_no hil he
    have d1:=toList_ne he
    have d2:=toList_beq he
    have d3:=bytes_beq he
    clear he
    generalize kepAt L i=x at *
    obtain ⟨xk,xv⟩:=x
    go_wp2
    go_roundw
    case rel=>exact ⟨i+1,by omega,by go_num,by rw [HNX.out];exact HO.out,HB.out⟩
    case measure=>simp [intOf];omega
  ·have hie:i=L.length:=by omega
   subst hie
   have HE:Hid (L.take L.length=L):=List.take_length
   go_wp2
   go_ret
   exact ⟨⟨_,rfl,by have:=HO.out;rw [HE.out] at this;exact this⟩,HB.out⟩
structure Turn (h:Nat) (w w':World):Prop where
 os:w'.os=w.os
 tape:w'.tape=w.tape
 output:w'.output=w.output
 size:w.heap.size<=w'.heap.size
 block:∀ k,k < w.heap.size->k≠h->w'.heap[k]?=w.heap[k]?
 row:w'.cell? ⟨h,0,none⟩=w.cell? ⟨h,0,none⟩∨∀ b o n c,w'.cell? ⟨h,0,none⟩=some (.slice (some ⟨b,o,none⟩) n c)->w.heap.size<=b
theorem Turn.of_below {h:Nat} {w w':World} (hlt:h < w.heap.size) (hb:Below w.heap.size w w'):Turn h w w':=⟨hb.os,hb.tape,hb.output,hb.size,fun k hk _=>hb.block k hk,Or.inl (hb.cell (p:=⟨h,0,none⟩) hlt)⟩
theorem kepinfo:(Tryz.prog.info? 100).map (fun i=>(i.zero,i.size,i.bytes))=some (some (.agg #[.string ⟨#[]⟩,.int .i64 0,.int .i64 0,.int .i64 0,.int .i64 0,.string ⟨#[]⟩]),6,64):=by kernel_rfl
theorem MHold.store {w w':World} {h:Nat} {L M:List Kep} {s:Bool} (hm:MHold w h L s) (hb:Below w.heap.size w w') {v:Value} (hO:OwnR kepE 100 w' w.heap.size v M):MHold (w'.setCell ⟨h,0,none⟩ v) h M s/\Turn h w (w'.setCell ⟨h,0,none⟩ v):=by
 have hm':=hm.below hb
 obtain ⟨p0,c0,q0,_,_,_,_⟩:=hm'.row
 have hlt0:h < w.heap.size:=by
  obtain ⟨p1,c1,q1,_⟩:=hm.row
  exact lt_of_cellH q1
 obtain ⟨p,c,rfl,hr,hc,hn,hblk⟩:=hO.form
 refine ⟨⟨⟨p,c,World.cell?_setCell_same _ _ _ q0,?_,hc,hn,fun b o e=>?_⟩,?_,by rw [World.frozen?_setCell];exact hm'.free0,by rw [World.frozen?_setCell];exact hm'.free1⟩,⟨hb.os,hb.tape,hb.output,by simpa using hb.size,fun k hk hne=>(Deep.blk_setCell_other _ _ _ _ hne).trans (hb.block k hk),Or.inr fun b o n c' e=>?_⟩⟩
 ·rcases hr with hr | ⟨b,o,hp,hlt,hcell⟩
  ·exact Or.inl hr
  ·refine Or.inr ⟨b,o,hp,by simpa using hlt,fun i x hx j u hu=>?_⟩
   have hbb:=(hblk b o hp).1
   rw [World.cell?_setCell_other _ _ _ _ (fun e=>by have h2:h=b:=congrArg Addr.block e;omega)]
   exact hcell i x hx j u hu
 ·have:=(hblk b o e).1
  omega
 ·rw [World.cell?_setCell_other _ _ _ _ (fun e=>by have h2:(0:Nat)=1:=congrArg Addr.off e;omega)]
  exact hm'.sealed_
 ·rw [World.cell?_setCell_same _ _ _ q0] at e
  obtain ⟨h1,_,_⟩:=Value.slice.inj (Option.some.inj e)
  exact (hblk b o h1).1
theorem MHold.same {w w':World} {h:Nat} {L:List Kep} {s:Bool} (hm:MHold w h L s) (hs:w.heap.size<=w'.heap.size) (h1:w'.heap[h]?=w.heap[h]?) (h2:L≠[]->∀ b o n c,w.cell? ⟨h,0,none⟩=some (.slice (some ⟨b,o,none⟩) n c)->w'.heap[b]?=w.heap[b]?):MHold w' h L s:=by
 obtain ⟨p,c,q0,hr,hc,hn,hne⟩:=hm.row
 have hcell:∀ o,w'.cell? ⟨h,o,none⟩=w.cell? ⟨h,o,none⟩:=fun o=>by unfold World.cell?;rw [h1]
 have hfr:∀ o,w'.frozen? ⟨h,o,none⟩=w.frozen? ⟨h,o,none⟩:=fun o=>by unfold World.frozen?;rw [h1]
 refine ⟨⟨p,c,(hcell 0).trans q0,?_,hc,hn,hne⟩,(hcell 1).trans hm.sealed_,(hfr 0).trans hm.free0,(hfr 1).trans hm.free1⟩
 by_cases hL:L=[]
 ·exact Or.inl hL
 rcases hr with hr | ⟨b,o,rfl,hltb,hcc⟩
 ·exact Or.inl hr
 ·have hb:=h2 hL b o _ c q0
  exact Or.inr ⟨b,o,rfl,Nat.lt_of_lt_of_le hltb hs,fun i x hx j u hj=>by
   have:=hcc i x hx j u hj
   unfold World.cell? at this ⊢
   rw [hb]
   exact this⟩
theorem OwnR.sameE {α:Type} {E:Enc α} {T:TypeId} {w w':World} {B:Nat} {v:Value} {l:List α} (h:OwnR E T w B v l) (hb:∀ k,v.ownBlock=some k->w'.heap[k]?=w.heap[k]?):OwnR E T w' B v l:=by
 obtain ⟨h1,h2⟩:=h
 refine ⟨h1,?_⟩
 rcases h2 with h2 | ⟨g,cap,cur,hvv,hbg,hg,hrest⟩
 ·exact Or.inl h2
 ·exact Or.inr ⟨g,cap,cur,hvv,hbg,(hb g (by rw [hvv];rfl)).trans hg,hrest⟩
variable {w w':World} {B:Nat} {S:Nat->Prop} {h:Nat} {m:MMem} {up:Bool} {lv:Value} {bs:List Nat}
end Go.Proofs.YtghpdhegfnhmkaaGreatDoor
namespace Go.Proofs.YtghpdhegfnhmkaaGreatDoor
open Go.RowKit
set_option maxRecDepth 10000 in
set_option maxHeartbeats 2000000 in
theorem sameVers_any (pa pb:Option Addr) (l m:List Ver) (ca cb:Nat) (w:World) (hl:l.length<=1000000) (ha:Rec verE w pa l) (hb:Rec verE w pb m) :
 Calls Tryz.prog 23 #[.slice pa l.length ca,.slice pb m.length cb] w fun e w'=>e=.returned (.bool (decide (l=m)))/\Below w.heap.size w w':=by
 by_cases hlen:l.length=m.length
 ·have HT:Hid ((∀ i,i < l.length->verAt l i=verAt m i)->decide (l=m)=true):=fun h=>decide_eq_true (ver_ext hlen h)
  have HF:Hid (∀ i,i < l.length->verAt l i≠verAt m i->decide (l=m)=false):=fun i _ h=>decide_eq_false (fun e=>h (by rw [e]))
  generalize decide (l=m)=r at *
  have HM:Hid (m.length=l.length):=hlen.symm
  rw [<- hlen]
  clear hlen
  go_enter Tryz.func23,Tryz.ntmps23
  go_wp2
  go_loopw [5] (fun x wq=>∃ i:Nat,i<=l.length/\x=.int .i64 i/\(∀ j,j < i->verAt l j=verAt m j)/\∃ n,wq=w.drewN n) (fun x _=>l.length - (intOf x).toNat)
  case atStart=>exact ⟨0,Nat.zero_le _,rfl,fun j hj=>absurd hj (Nat.not_lt_zero _),0,rfl⟩
  case round =>
   obtain ⟨i,hi,rfl,hall,n,hw⟩:=hrel
   obtain ⟨w1,rfl⟩:∃ w1,w1=wr:=⟨_,rfl⟩
   have HALL:Hid (∀ j,j < i->verAt l j=verAt m j):=hall
   have HW:Hid (∃ n,w1=w.drewN n):=⟨n,hw⟩
   have HA:Hid (Rec verE w1 pa l):=by show Rec verE w1 pa l;rw [hw];exact ha.drewN n
   have HB:Hid (Rec verE w1 pb m):=by show Rec verE w1 pb m;rw [hw];exact hb.drewN n
   clear hw hall
   by_cases hil:i < l.length
   ·obtain ⟨b1,o1,hp1,_,a0,a1,a2,a3,a4⟩:=ver_cells HA.out hil
    obtain ⟨b2,o2,hp2,_,e0,e1,e2,e3,e4⟩:=ver_cells HB.out (show i < m.length by have:=HM.out;omega)
    subst hp1 hp2
    by_cases he:verAt l i=verAt m i
    ·have HNX : Hid (∀ j, j < i + 1 -> verAt l j = verAt m j) := fun j hj => by
      rcases Nat.lt_or_ge j i with h | h
      ·exact HALL.out j h
      ·obtain rfl:j=i:=by omega
       exact he
     rw [<- he] at e0 e1 e2 e3 e4
     clear he HALL
     generalize verAt l i=x at *
     obtain ⟨xn,xw,xs,xa,xt⟩:=x
     go_wp2
     go_quiet (fail)
     go_wp2
     go_roundw
     case rel=>exact ⟨i+1,by omega,by go_num,HNX.out,by obtain ⟨n,hn⟩:=HW.out;exact ⟨_,by rw [hn,World.drewN_drewN]⟩⟩
     case measure=>simp [intOf];omega
    ·have HR:Hid (r=false):=HF.out i hil he
     have HNE:Hid (verAt l i≠verAt m i):=he
     clear he HF HT HALL
     generalize verAt l i=x at *
     generalize verAt m i=y at *
     obtain ⟨xn,xw,xs,xa,xt⟩:=x
     obtain ⟨yn,yw,ys,ya,yt⟩:=y
     have walk:((xn==yn)=false)∨xn=yn/\(((xw==yw)=false)∨xw=yw/\(((xs==ys)=false)∨xs=ys/\(((xa==ya)=false)∨xa=ya/\xt≠yt))):=by
      by_cases h1:xn=yn
      ·refine Or.inr ⟨h1,?_⟩
       by_cases h2:xw=yw
       ·refine Or.inr ⟨h2,?_⟩
        by_cases h3:xs=ys
        ·refine Or.inr ⟨h3,?_⟩
         by_cases h4:xa=ya
         ·refine Or.inr ⟨h4,fun h5=>HNE.out (by rw [h1,h2,h3,h4,h5])⟩
         ·exact Or.inl (beq_eq_false_iff_ne.2 h4)
        ·exact Or.inl (beq_eq_false_iff_ne.2 h3)
       ·exact Or.inl (beq_eq_false_iff_ne.2 h2)
      ·exact Or.inl (beq_eq_false_iff_ne.2 h1)
     clear HNE
     rcases walk with g | ⟨rfl,g | ⟨rfl,g | ⟨rfl,g | ⟨rfl,g⟩⟩⟩⟩
     rotate_right
     ·have d1:=toList_ne g
      have d2:=toList_beq g
      have d3:=bytes_beq g
      clear g
      go_wp2
      go_quiet (fail)
      go_wp2
      go_ret
      exact ⟨by rw [HR.out];rfl,by obtain ⟨n,hn⟩:=HW.out;rw [hn];exact below_drewN (below_drewN (Below.refl _ _) n) _⟩
     all_goals
      go_wp2
      go_quiet (fail)
      go_wp2
      go_ret
      exact ⟨by rw [HR.out];rfl,by obtain ⟨n,hn⟩:=HW.out;rw [hn];exact below_drewN (below_drewN (Below.refl _ _) n) _⟩
   ·have HR:Hid (r=true):=HT.out (fun j hj=>HALL.out j (by omega))
    go_wp2
    go_ret
    exact ⟨by rw [HR.out];rfl,by obtain ⟨n,hn⟩:=HW.out;rw [hn];exact below_drewN (Below.refl _ _) n⟩
 ·have HR:Hid (decide (l=m)=false):=decide_eq_false (fun e=>hlen (by rw [e]))
  rw [HR.out]
  have h6:((l.length:Int) != (m.length:Int))=true:=by rw [bne_iff_ne];omega
  clear hlen
  go_enter Tryz.func23,Tryz.ntmps23
  go_wp2
  go_ret
  exact ⟨rfl,Below.refl _ _⟩
def litK (x:ByteArray):Lit:=.string x.data.toList
theorem litK_inj {x y:ByteArray} (h:litK x=litK y):x=y:=by
 unfold litK at h
 injection h with h
 exact ByteArray.ext (Array.toList_inj.1 h)
theorem litK_key (x:ByteArray):WideAt.IsKeyLit (litK x):=trivial
theorem sameKey_litK (x:ByteArray):(litK x).sameKey (litK x)=true:=WideAt.sameKey_self (litK_key x)
def anyR (v:Value):Option (DataW Value×List MemPlace):=some (.held v,[])
theorem keyedK:Maps.Keyed Tryz.prog 9:=Maps.string_keyed Tryz.underlying9
theorem keyOfK {x:ByteArray} (hx:x.size<=maxLen):keyOf Tryz.prog 9 (.string x)=some (litK x):=WideMaps.keyOf_string_mk Tryz.underlying9 hx
theorem keyOfK_inv {v:Value} {l:Lit} (h:keyOf Tryz.prog 9 v=some l):∃ x:ByteArray,v=.string x/\l=litK x/\x.size<=maxLen:=by
 cases v <;> simp [keyOf,Tryz.underlying9,mapKey] at h
 rename_i s
 exact ⟨s,rfl,h.2.symm,h.1⟩
abbrev OwnM (w:World) (b n:Nat) (D:DataW Value):Prop:=w.ownsMap Tryz.prog 9 anyR b n D
theorem OwnM.tight {w:World} {b n:Nat} {D:DataW Value} (h:OwnM w b n D):OwnM w b (Maps.size D) D:=by
 obtain ⟨es,clock,hb,F,hs,rfl⟩:=h
 refine ⟨es,clock,hb,F,?_,rfl⟩
 rw [Maps.size_eq,length_sorted]
 simp
theorem OwnM.keys {w:World} {b n:Nat} {D:DataW Value} (h:OwnM w b n D):∃ es,D=.map es/\es.Pairwise (fun p q=>p.1≠q.1)/\∀ p ∈ es,∃ x:ByteArray,x.size<=maxLen/\p.1=litK x:=by
 have ht:=World.ownsMap.tidy h keyedK
 obtain ⟨es0,clock,hb,F,hs,rfl⟩:=h
 obtain ⟨es1,he,hp⟩:=ht
 injection he with he
 refine ⟨_,rfl,by rw [he];exact hp,fun p hp'=>?_⟩
 obtain ⟨x,hx,rfl⟩:=List.mem_map.1 (mem_sorted.1 hp')
 obtain ⟨y,hy⟩:=F.reads x hx
 obtain ⟨z,h1,h2,h3⟩:=keyOfK_inv (WideElems.rd_key hy)
 exact ⟨z,h3,by rw [WideElems.rg_of hy];exact h2⟩
theorem length_le_sub {α:Type}:∀ {l m:List α},l.Nodup->(∀ x ∈ l,x ∈ m)->l.length<=m.length
 | [],_,_,_=>Nat.zero_le _
 | a :: l,m,hn,hs=>by
  classical
  obtain ⟨h1,h2⟩:=List.nodup_cons.1 hn
  have ha:=hs a (by simp)
  have:=length_le_sub (l:=l) (m:=m.erase a) h2 (fun x hx=>(List.mem_erase_of_ne (show x≠a from fun e=>h1 (e ▸ hx))).2 (hs x (by simp [hx])))
  rw [List.length_erase_of_mem ha] at this
  have:=List.length_pos_of_mem ha
  simp only [List.length_cons]
  omega
theorem OwnR.same {T:TypeId} {w w':World} {B:Nat} {v:Value} {l:List Ver} (h:OwnR verE T w B v l) (hb:∀ k,v.ownBlock=some k->w'.heap[k]?=w.heap[k]?):OwnR verE T w' B v l:=by
 obtain ⟨h1,h2⟩:=h
 refine ⟨h1,?_⟩
 rcases h2 with h2 | ⟨g,cap,cur,hv,hbg,hg,hrest⟩
 ·exact Or.inl h2
 ·refine Or.inr ⟨g,cap,cur,hv,hbg,?_,hrest⟩
  rw [hb g (by rw [hv];rfl)]
  exact hg
theorem OwnM.same {w w':World} {b n:Nat} {D:DataW Value} (h:OwnM w b n D) (hb:w'.heap[b]?=w.heap[b]?):OwnM w' b n D:=by
 obtain ⟨es,clock,h1,h2⟩:=h
 exact ⟨es,clock,hb.trans h1,h2⟩
theorem cell_same {w w':World} {b:Nat} (h:w'.heap[b]?=w.heap[b]?) (o:Nat):w'.cell? ⟨b,o,none⟩=w.cell? ⟨b,o,none⟩/\w'.frozen? ⟨b,o,none⟩=w.frozen? ⟨b,o,none⟩:=⟨World.cell?_of_block (a:=⟨b,o,none⟩) h,World.frozen?_of_block (a:=⟨b,o,none⟩) h⟩
structure SetOk (w w':World) (b:Nat) (D:DataW Value) (key:ByteArray) (v:Value):Prop where
 own:∃ n,OwnM w' b n (D.put (litK key) (.held v))
 grown:w.grownBy w' (some b)
theorem set_step {w W:World} {b n:Nat} {D:DataW Value} {key:ByteArray} {v:Value} (hown:OwnM w b n D) (hn:n < maxLen) (hk:key.size<=maxLen) (hb:Below w.heap.size w W) :
 ∃ w',(Instr.mapUpdate 36 (.map (some b)) (.string key) v).run Tryz.prog W=.ok () w'/\SetOk w w' b D key v:=by
 have hlt:b < w.heap.size:=World.ownsMap.lt hown
 have hown2:OwnM W b n D:=hown.same (hb.block b hlt)
 obtain ⟨w',hrun,h1,h2⟩:=World.ownsMap.update hown2 keyedK Tryz.underlying36 hn (val:=v) (d:=.held v) (ps:=[]) (keyOfK hk) rfl
 refine ⟨w',hrun,⟨_,h1⟩,⟨h2.os.trans hb.os,h2.tape.trans hb.tape,h2.output.trans hb.output,Nat.le_trans hb.size h2.size,fun k hk hne=>?_⟩⟩
 rw [h2.block k (Nat.lt_of_lt_of_le hk hb.size) hne]
 exact hb.block k hk
theorem map_not_nil (b:Nat) (W:World):Sem.run Tryz.prog (binOp .eql 36 (.map (some b)) (.map none)) W=.ok (.bool false) W:=by kernel_rfl
theorem map_is_nil (W:World):Sem.run Tryz.prog (binOp .eql 36 (.map none) (.map none)) W=.ok (.bool true) W:=by kernel_rfl
theorem below_drew' {B:Nat} {w W:World} (h:Below B w.drew W):Below B w W:=⟨h.os,h.tape,h.output,h.size,h.block⟩
def byteV (n:Nat):Value:=.int .u8 (n:Int)
def Own (w:World) (B:Nat) (e:TypeId) (v:Value) (l:List Nat):Prop:=w.ownsRow B e 1 v l.length (l.map byteV)
theorem Own.nil (w:World) (B:Nat) (e:TypeId):Own w B e (.slice none 0 0) []:=World.ownsRow_nil w B e 1
theorem Own.kept {w w':World} {B:Nat} {e:TypeId} {v:Value} {l:List Nat} {row:Option Nat} (h:Own w B e v l) (hg:w.grownBy w' row) (hne:v.ownBlock=none∨v.ownBlock≠row):Own w' B e v l:=World.ownsRow.kept h hg hne
theorem Own.block {w:World} {B:Nat} {e:TypeId} {v:Value} {l:List Nat} (h:Own w B e v l) {k:Nat} (hk:v.ownBlock=some k):B<=k/\k < w.heap.size:=World.ownsRow.lt h k hk
theorem grownBy_drewN (w:World) (n:Nat) (row:Option Nat):w.grownBy (w.drewN n) row:=⟨rfl,rfl,rfl,Nat.le_refl _,fun _ _ _=>rfl⟩
theorem Own.seg {w:World} {B:Nat} {e:TypeId} {v:Value} {l:List Nat} (h:Own w B e v l) (hl:Gf.Bytes l):∃ p cap,v=.slice p l.length cap/\Seg w p l:=by
 rcases h.2 with ⟨rfl,h0⟩ | ⟨g,cap,cur,rfl,hb,hg,hnc,hcm,hcs,htake⟩
 ·have:l=[]:=List.length_eq_zero_iff.1 h0
  subst this
  exact ⟨none,0,rfl,hl,Or.inl rfl⟩
 ·refine ⟨some ⟨g,0,none⟩,cap,rfl,hl,Or.inr ⟨g,0,rfl,(Array.getElem?_eq_some_iff.1 hg).1,fun i hi=>?_⟩⟩
  have hc:=World.ownsRow.cells (g:=g) h rfl i (byteV (Gf.nth l i)) (by rw [List.getElem?_map,List.getElem?_eq_getElem hi,Gf.nth_getElem l i hi];rfl)
  rw [Addr.add_lit] at hc
  exact hc
section
variable {P:Program} {w:World}
theorem append_where (B:Nat) (t ty e:TypeId) (i:TypeInfo) (z:Value) (ht:P.underlying t=some (.slice e)) (hi:P.info? e=some i) (hz:i.zero=some z) (hsize:i.size=1) (hby:i.bytes=1)
 (v:Value) (l:List Nat) (hown:Own w B e v l) (ad:Addr) (c b:Nat) (hb:w.cell? ad=some (byteV b)) (hl:l.length+1<=1000000) {v':Value} {w':World}
 (hr:(Builtin.append_ #[t,t] ty #[v,.slice (some ad) 1 c]).run P w=.ok v' w'):v'.ownBlock=v.ownBlock∨v'.ownBlock=some w.heap.size:=by
 have hnews:∀ j u,[byteV b][j]?=some u->w.cell? (ad.add j)=some u:=by
  intro j u hj
  match j,hj with
  | 0,hj =>
   obtain rfl:byteV b=u:=by simpa using hj
   simpa [Addr.add] using hb
 rcases hown.2 with ⟨rfl,h0⟩ | ⟨g,cap,cur,rfl,hbg,hg,hnc,hcm,hcs,htake⟩
 ·have:=run_append_nil (P:=P) w t ty e i z ht hi hz ad 1 c [byteV b] (by rw [hsize];rfl) hnews (by decide) (by decide) (by rw [hby];decide)
  rw [this] at hr
  injection hr with h1 h2
  subst h1
  exact Or.inr rfl
 ·by_cases hroom:l.length+1<=cap
  ·have:=run_append_room (P:=P) w t ty e i ht hi g l.length cap cur hg ad 1 c [byteV b] (by rw [hsize];rfl) hnews (fun u hu=>by rw [List.mem_singleton.1 hu];rfl) hroom (by rw [hsize,hcs];simpa using hroom)
   rw [this] at hr
   injection hr with h1 h2
   subst h1
   exact Or.inl rfl
  ·have:=run_append_grow (P:=P) w t ty e i z ht hi hz ⟨g,0,none⟩ l.length cap (l.map byteV) (by rw [hsize];exact hown.1) (World.ownsRow.cells (g:=g) hown rfl) ad 1 c [byteV b] (by rw [hsize];rfl) hnews (by omega) (by omega) (growslice_fits (by omega) (by rw [hby];omega))
   rw [this] at hr
   injection hr with h1 h2
   subst h1
   exact Or.inr rfl
theorem wp_append_byte {o:Oper} {a:Act} {K:Act->World->Prop} {Q:Exit->Act->World->Prop} (s x:Operand) (t:TypeId)
 (ho:o.op=.call { callee:=.builtin .append,args:=#[s,x],argTypes:=#[t,t] })
 (B:Nat) (e:TypeId) (i:TypeInfo) (ht:P.underlying t=some (.slice e)) (hi:P.info? e=some i) (hz:i.zero=some (byteV 0)) (hsize:i.size=1) (hby:i.bytes=1)
 (v:Value) (l:List Nat) (hs:a.eval s=v) (hown:Own w B e v l) (ad:Addr) (c b:Nat) (hx:a.eval x=.slice (some ad) 1 c) (hb:w.cell? ad=some (byteV b)) (hl:l.length+1<=1000000) (hbase:B<=w.heap.size)
 (h:∀ v' w',Own w' B e v' (l ++ [b])->w.grownBy w' v.ownBlock->(v'.ownBlock=v.ownBlock∨v'.ownBlock=some w.heap.size)->K (a.put o.dst v') w'):o.wp P a w K Q:=by
 have hnews:∀ j u,[byteV b][j]?=some u->w.cell? (ad.add j)=some u:=by
  intro j u hj
  match j,hj with
  | 0,hj =>
   obtain rfl:byteV b=u:=by simpa using hj
   simpa [Addr.add] using hb
 obtain ⟨v',w',hr,h2,h3,_⟩:=run_append_own (P:=P) w B t o.type e i (byteV 0) 1 1 ht hi hz hsize hby rfl (by decide) v l.length (l.map byteV) hown ad 1 c [byteV b] rfl hnews (fun u hu=>by rw [List.mem_singleton.1 hu];rfl) (by unfold maxLen;omega) (by omega) hbase
 have h4:=append_where B t o.type e i (byteV 0) ht hi hz hsize hby v l hown ad c b hb hl hr
 have h5:Own w' B e v' (l ++ [b]):=by
  unfold Own
  rw [List.length_append,List.map_append]
  exact h2
 unfold Oper.wp execOp
 simp only [ho,resolve,invoke,builtin,Sem.run_bind,Sem.run_pure,Result.andThen_ok,List.map_toArray,List.map_cons,List.map_nil,hs,hx,hr]
 exact h v' w' h5 h3 h4
theorem wpList_append_byte {ops:Array Oper} {rest:List Oper} {o:Oper} {a:Act} {Q:Exit->Act->World->Prop} (hgd:o.guard=none) (s x:Operand) (t:TypeId)
 (ho:o.op=.call { callee:=.builtin .append,args:=#[s,x],argTypes:=#[t,t] })
 (B:Nat) (e:TypeId) (i:TypeInfo) (ht:P.underlying t=some (.slice e)) (hi:P.info? e=some i) (hz:i.zero=some (byteV 0)) (hsize:i.size=1) (hby:i.bytes=1)
 (v:Value) (l:List Nat) (hs:a.eval s=v) (hown:Own w B e v l) (ad:Addr) (c b:Nat) (hx:a.eval x=.slice (some ad) 1 c) (hb:w.cell? ad=some (byteV b)) (hl:l.length+1<=1000000) (hbase:B<=w.heap.size)
 (h:∀ v' w',Own w' B e v' (l ++ [b])->w.grownBy w' v.ownBlock->(v'.ownBlock=v.ownBlock∨v'.ownBlock=some w.heap.size)->wpList P ops Q rest (a.put o.dst v') w'):wpList P ops Q (o :: rest) a w :=
 wpList_plain hgd fun _ hK=>wp_append_byte s x t ho B e i ht hi hz hsize hby v l hs hown ad c b hx hb hl hbase fun v' w' h2 h3 h4=>hK _ _ (h v' w' h2 h3 h4)
end
end Go.Proofs.YtghpdhegfnhmkaaGreatDoor
namespace Go.Proofs.YtghpdhegfnhmkaaGreatDoor
open Go.RowKit
theorem u8info:(Tryz.prog.info? 5).map (fun i=>(i.zero,i.size,i.bytes))=some (some (byteV 0),1,1):=by kernel_rfl
def upToL (k:Nat):List Nat:=List.range k
set_option maxRecDepth 10000 in
set_option maxHeartbeats 1000000 in
theorem upTo_any (k:Nat) (w:World) (hk:k<=100) :
 Calls Tryz.prog 47 #[.int .i64 (k:Int)] w fun e w'=>(∃ v,e=.returned v/\Own w' w.heap.size 5 v (upToL k))/\Below w.heap.size w w':=by
 obtain ⟨i0,hi0,hz0,hz1,hz2⟩:=info_parts u8info
 go_enter Tryz.func47,Tryz.ntmps47
 go_wp2
 go_loopw [3,4] (fun v j wr=>∃ n:Nat,n<=k/\j=.int .i64 n/\Own wr w.heap.size 5 v (upToL n)/\Below w.heap.size w wr) (fun _ j _=>k - (intOf j).toNat)
 case atStart=>exact ⟨0,by omega,rfl,Own.nil _ _ _,Below.refl _ _⟩
 case round =>
  obtain ⟨n,hn,rfl,hown,hb⟩:=hrel
  have HO:Hid (Own wr w.heap.size 5 u3 (upToL n)):=hown
  have HB:Hid (Below w.heap.size w wr):=hb
  have hbz:w.heap.size<=wr.heap.size:=hb.size
  have hul:(upToL n).length=n:=by simp [upToL]
  clear hown hb
  by_cases hlt:n < k
  ·have HU:Hid (upToL (n+1)=upToL n ++ [n]):=by show _=_;simp [upToL,List.range_succ]
   go_wp2_with (first | (at_builtin;refine wpList_append_byte rfl (.tmp 10) (.tmp 13) 76 rfl w.heap.size 5 i0 Tryz.underlying76 hi0 hz0 hz1 hz2 u3 (upToL n) rfl (HO.out.kept (World.grownBy_alloc wr _ none) (by cases hv:u3.ownBlock <;> simp)) ⟨wr.heap.size,0,none⟩ 1 n rfl (by simp [byteV]) (by omega) (by simp;omega) ?_;intro v1 w1 hX hgX hwX))
   have hb1:Below w.heap.size w w1:=(HB.out.alloc hbz _).grown hgX (by simp;omega) (fun k' hk'=>(HO.out.block hk').1)
   go_roundw
   case rel=>exact ⟨n+1,by omega,by go_num,by rw [HU.out];exact hX,hb1⟩
   case measure=>simp [intOf];omega
  ·have hne:n=k:=by omega
   subst hne
   go_wp2
   go_ret
   exact ⟨⟨u3,rfl,HO.out⟩,HB.out⟩
def OwnV (w:World) (B:Nat) (e:TypeId) (v:Value) (vs:List Value):Prop:=w.ownsRow B e 1 v vs.length vs
theorem OwnV.nil (w:World) (B:Nat) (e:TypeId):OwnV w B e (.slice none 0 0) []:=World.ownsRow_nil w B e 1
theorem OwnV.kept {w w':World} {B:Nat} {e:TypeId} {v:Value} {l:List Value} {row:Option Nat} (h:OwnV w B e v l) (hg:w.grownBy w' row) (hne:v.ownBlock=none∨v.ownBlock≠row):OwnV w' B e v l:=World.ownsRow.kept h hg hne
theorem OwnV.block {w:World} {B:Nat} {e:TypeId} {v:Value} {l:List Value} (h:OwnV w B e v l) {k:Nat} (hk:v.ownBlock=some k):B<=k/\k < w.heap.size:=World.ownsRow.lt h k hk
theorem OwnV.cells {w:World} {B:Nat} {e:TypeId} {v:Value} {l:List Value} (h:OwnV w B e v l):v=.slice none 0 0/\l=[]∨∃ g cap,v=.slice (some ⟨g,0,none⟩) l.length cap/\B<=g/\g < w.heap.size/\∀ i u,l[i]?=some u->w.cell? ⟨g,i,none⟩=some u:=by
 rcases h.2 with ⟨rfl,h0⟩ | ⟨g,cap,cur,rfl,hb,hg,hnc,hcm,hcs,htake⟩
 ·exact Or.inl ⟨rfl,List.length_eq_zero_iff.1 h0⟩
 ·refine Or.inr ⟨g,cap,rfl,hb,(Array.getElem?_eq_some_iff.1 hg).1,fun i u hu=>?_⟩
  have hc:=World.ownsRow.cells (g:=g) h rfl i u hu
  rw [Addr.add_lit,Nat.zero_add] at hc
  exact hc
section
variable {P:Program} {w:World}
theorem append_where_val (B:Nat) (t ty e:TypeId) (i:TypeInfo) (z:Value) (bytes:Nat) (ht:P.underlying t=some (.slice e)) (hi:P.info? e=some i) (hz:i.zero=some z) (hsize:i.size=1) (hby:i.bytes=bytes) (h24:bytes<=64)
 (v:Value) (l:List Value) (hown:OwnV w B e v l) (ad:Addr) (c:Nat) (u:Value) (hu:u.oneCell'=true) (hb:w.cell? ad=some u) (hl:l.length+1<=1000000) {v':Value} {w':World}
 (hr:(Builtin.append_ #[t,t] ty #[v,.slice (some ad) 1 c]).run P w=.ok v' w'):v'.ownBlock=v.ownBlock∨v'.ownBlock=some w.heap.size:=by
 have hnews:∀ j x,[u][j]?=some x->w.cell? (ad.add j)=some x:=by
  intro j x hj
  match j,hj with
  | 0,hj =>
   obtain rfl:u=x:=by simpa using hj
   simpa [Addr.add] using hb
 rcases hown.2 with ⟨rfl,h0⟩ | ⟨g,cap,cur,rfl,hbg,hg,hnc,hcm,hcs,htake⟩
 ·have:=run_append_nil (P:=P) w t ty e i z ht hi hz ad 1 c [u] (by rw [hsize];rfl) hnews (by decide) (by decide) (by rw [hby];omega)
  rw [this] at hr
  injection hr with h1 h2
  subst h1
  exact Or.inr rfl
 ·by_cases hroom:l.length+1<=cap
  ·have:=run_append_room (P:=P) w t ty e i ht hi g l.length cap cur hg ad 1 c [u] (by rw [hsize];rfl) hnews (fun x hx=>by rw [List.mem_singleton.1 hx];exact hu) hroom (by rw [hsize,hcs];simpa using hroom)
   rw [this] at hr
   injection hr with h1 h2
   subst h1
   exact Or.inl rfl
  ·have hbd:(l.length+1)*bytes<=1000000*64:=Nat.mul_le_mul hl h24
   have:=run_append_grow (P:=P) w t ty e i z ht hi hz ⟨g,0,none⟩ l.length cap l (by rw [hsize];exact hown.1) (World.ownsRow.cells (g:=g) hown rfl) ad 1 c [u] (by rw [hsize];rfl) hnews (by omega) (by omega) (growslice_fits (by omega) (by rw [hby];omega))
   rw [this] at hr
   injection hr with h1 h2
   subst h1
   exact Or.inr rfl
theorem wpList_append_val {ops:Array Oper} {rest:List Oper} {o:Oper} {a:Act} {Q:Exit->Act->World->Prop} (hgd:o.guard=none) (s x:Operand) (t:TypeId)
 (ho:o.op=.call { callee:=.builtin .append,args:=#[s,x],argTypes:=#[t,t] })
 (B:Nat) (e:TypeId) (i:TypeInfo) (z:Value) (bytes:Nat) (ht:P.underlying t=some (.slice e)) (hi:P.info? e=some i) (hz:i.zero=some z) (hzs:z.cells.size=1) (hsize:i.size=1) (hby:i.bytes=bytes) (h24:bytes<=64)
 (v:Value) (l:List Value) (hs:a.eval s=v) (hown:OwnV w B e v l) (ad:Addr) (c:Nat) (u:Value) (hu:u.oneCell'=true) (hx:a.eval x=.slice (some ad) 1 c) (hb:w.cell? ad=some u) (hl:l.length+1<=1000000) (hbase:B<=w.heap.size)
 (h:∀ v' w',OwnV w' B e v' (l ++ [u])->w.grownBy w' v.ownBlock->(v'.ownBlock=v.ownBlock∨v'.ownBlock=some w.heap.size)->wpList P ops Q rest (a.put o.dst v') w'):wpList P ops Q (o :: rest) a w:=by
 have hnews:∀ j x,[u][j]?=some x->w.cell? (ad.add j)=some x:=by
  intro j x hj
  match j,hj with
  | 0,hj =>
   obtain rfl:u=x:=by simpa using hj
   simpa [Addr.add] using hb
 have hbd:(l.length+1)*bytes<=1000000*64:=Nat.mul_le_mul hl h24
 refine wpList_plain hgd fun K hK=>?_
 obtain ⟨v',w',hr,h2,h3,_⟩:=run_append_own (P:=P) w B t o.type e i z 1 bytes ht hi hz hsize hby hzs (by decide) v l.length l hown ad 1 c [u] rfl hnews (fun x hx=>by rw [List.mem_singleton.1 hx];exact hu) (by unfold maxLen;omega) (by omega) hbase
 have h4:=append_where_val B t o.type e i z bytes ht hi hz hsize hby h24 v l hown ad c u hu hb hl hr
 have h5:OwnV w' B e v' (l ++ [u]):=by
  unfold OwnV
  rw [List.length_append]
  exact h2
 unfold Oper.wp execOp
 simp only [ho,resolve,invoke,builtin,Sem.run_bind,Sem.run_pure,Result.andThen_ok,List.map_toArray,List.map_cons,List.map_nil,hs,hx,hr]
 exact hK _ _ (h v' w' h5 h3 h4)
end
end Go.Proofs.YtghpdhegfnhmkaaGreatDoor
namespace Go.Proofs.YtghpdhegfnhmkaaGreatDoor
open Go.RowKit
def shVals (l:List (Int×ByteArray)):List Value:=l.flatMap fun x=>[.int .i64 x.1,.string x.2]
theorem shVals_at:∀ (l:List (Int×ByteArray)) (i:Nat),i < l.length->(shVals l)[i*2]?=some (.int .i64 (shAt l i).1)/\(shVals l)[i*2+1]?=some (.string (shAt l i).2)
 | [],i,h=>absurd h (Nat.not_lt_zero _)
 | x :: t,0,_=>⟨rfl,rfl⟩
 | x :: t,i+1,h=>by
  have h':=shVals_at t i (by simpa using h)
  have e:shVals (x :: t)=.int .i64 x.1 :: .string x.2 :: shVals t:=rfl
  have e2:shAt (x :: t) (i+1)=shAt t i:=rfl
  rw [e,e2,show (i+1)*2=i*2+1+1 by omega,show i*2+1+1+1=i*2+1+1+1 from rfl]
  exact ⟨by simpa using h'.1,by simpa using h'.2⟩
theorem shs_of_own {w:World} {B:Nat} {v:Value} {l:List (Int×ByteArray)} {E:TypeId} (h:w.ownsRow B E 2 v l.length (shVals l)):∃ p c,v=.slice p l.length c/\Shs w p l:=by
 rcases h.2 with ⟨rfl,h0⟩ | ⟨g,cap,cur,rfl,hb,hg,hnc,hcm,hcs,htake⟩
 ·have:l=[]:=List.length_eq_zero_iff.1 h0
  subst this
  exact ⟨none,0,rfl,Or.inl rfl⟩
 ·refine ⟨some ⟨g,0,none⟩,cap,rfl,Or.inr ⟨g,0,rfl,(Array.getElem?_eq_some_iff.1 hg).1,fun i hi=>?_⟩⟩
  have hc:=World.ownsRow.cells (g:=g) h rfl
  have h1:=shVals_at l i hi
  have e1:=hc (i*2) _ h1.1
  have e2:=hc (i*2+1) _ h1.2
  rw [Addr.add_lit] at e1 e2
  exact ⟨e1,by rw [Nat.add_assoc];exact e2⟩
def OwnT (w:World) (B:Nat) (v:Value) (l:List ByteArray):Prop:=OwnV w B 9 v (l.map Value.string)
theorem OwnT.nil (w:World) (B:Nat):OwnT w B (.slice none 0 0) []:=OwnV.nil w B _
theorem OwnT.block {w:World} {B:Nat} {v:Value} {l:List ByteArray} (h:OwnT w B v l) {k:Nat} (hk:v.ownBlock=some k):B<=k/\k < w.heap.size:=OwnV.block h hk
theorem OwnT.form {w:World} {B:Nat} {v:Value} {l:List ByteArray} (h:OwnT w B v l):∃ p c,v=.slice p l.length c/\Strs w p l/\l.length<=c/\(p=none->c=0)/\∀ b o,p=some ⟨b,o,none⟩->B<=b/\b < w.heap.size:=by
 have hcell:=OwnV.cells h
 have h0:w.ownsRow B 9 1 v (l.map Value.string).length (l.map Value.string):=h
 rcases h0.2 with ⟨rfl,hz⟩ | ⟨g,cap,cur,rfl,hb,hg,hnc,hcm,hcs,htake⟩
 ·have e:l=[]:=by simpa using hz
  subst e
  exact ⟨none,0,rfl,Or.inl rfl,Nat.le_refl _,fun _=>rfl,fun _ _ h=>by cases h⟩
 ·rw [List.length_map] at hnc ⊢
  have hlt:g < w.heap.size:=(Array.getElem?_eq_some_iff.1 hg).1
  refine ⟨some ⟨g,0,none⟩,cap,rfl,Or.inr ⟨g,0,rfl,hlt,fun i hi=>?_⟩,hnc,fun h=>(by cases h),fun b o h=>?_⟩
  ·rcases hcell with ⟨h1,_⟩ | ⟨g',cap',hv,_,_,hc⟩
   ·cases h1
   ·have hgg : g = g' := by
     have:=congrArg Value.ownBlock hv
     simpa [Value.ownBlock] using this
    subst hgg
    rw [Nat.zero_add,hc i (.string (txt l i)) (by rw [List.getElem?_map,List.getElem?_eq_getElem hi,txt_getElem l i hi];rfl)]
  ·obtain ⟨rfl,rfl⟩:g=b/\0=o:=by simpa using h
   exact ⟨hb,hlt⟩
section
variable {w:World}
theorem wpList_append_strs {ops:Array Oper} {rest:List Oper} {o:Oper} {a:Act} {Q:Exit->Act->World->Prop} (hgd:o.guard=none) (s x:Operand)
 (ho:o.op=.call { callee:=.builtin .append,args:=#[s,x],argTypes:=#[22,22] })
 (B:Nat) (v:Value) (l:List ByteArray) (hs:a.eval s=v) (hown:OwnT w B v l) (q:Option Addr) (r:List ByteArray) (c:Nat) (hx:a.eval x=.slice q r.length c) (hq:Strs w q r) (hc0:q=none->r=[]/\c=0) (hl:l.length+r.length<=8796093022208) (hbase:B<=w.heap.size)
 (h:∀ v' w',OwnT w' B v' (l ++ r)->Below B w w'->wpList Tryz.prog ops Q rest (a.put o.dst v') w'):wpList Tryz.prog ops Q (o :: rest) a w:=by
 obtain ⟨i0,hi0,hz0,hz1,hzb⟩:=info_parts (P:=Tryz.prog) (e:=9) (z:=.string ⟨#[]⟩) (size:=1) (bytes:=16) (by kernel_rfl)
 have hfin:∀ v' w',w'.ownsRow B 9 1 v' ((l.map Value.string).length+r.length) (l.map Value.string ++ r.map Value.string)->w.grownBy w' v.ownBlock->wpList Tryz.prog ops Q rest (a.put o.dst v') w':=fun v' w' h1 h2=>by
  refine h v' w' ?_ ((Below.refl _ _).grown h2 hbase (fun k hk=>(hown.block hk).1))
  unfold OwnT OwnV
  have e:(l.map Value.string ++ r.map Value.string).length=(l.map Value.string).length+r.length:=by simp
  rw [List.map_append,e]
  exact h1
 cases q with
 | none =>
  obtain ⟨hr,hc⟩:=hc0 rfl
  subst hr hc
  refine wpList_append_own_none hgd s x _ ho B 9 i0 1 Tryz.underlying22 hi0 v (l.map Value.string).length (l.map Value.string) hs hown hx ?_
  have:=h v w (by rw [List.append_nil];exact hown) (Below.refl _ _)
  exact this
 | some ad =>
  refine wpList_append_own w hgd s x _ ho B 9 i0 (.string ⟨#[]⟩) 1 16 Tryz.underlying22 hi0 hz0 hz1 hzb rfl (by decide) v (l.map Value.string).length (l.map Value.string) hs hown ad r.length c (r.map Value.string) hx (by simp) ?_ ?_ (by rw [List.length_map];unfold maxLen;omega) (by rw [List.length_map];omega) hbase (fun v' w' h1 h2 _=>hfin v' w' h1 h2)
  ·intro j u hj
   rw [List.getElem?_map] at hj
   obtain ⟨y,hy1,hy2⟩:=Option.map_eq_some_iff.1 hj
   have hjl:j < r.length:=(List.getElem?_eq_some_iff.1 hy1).1
   rcases hq with h0 | ⟨b,o',hp,_,hcell⟩
   ·rw [h0] at hjl;exact absurd hjl (Nat.not_lt_zero _)
   ·obtain rfl:ad=⟨b,o',none⟩:=by simpa using hp
    rw [Addr.add_lit,hcell j hjl,txt_getElem r j hjl,<- hy2,(List.getElem?_eq_some_iff.1 hy1).2]
  ·intro u hu
   obtain ⟨y,_,rfl⟩:=List.mem_map.1 hu
   rfl
end
end Go.Proofs.YtghpdhegfnhmkaaGreatDoor
namespace Go.Proofs.YtghpdhegfnhmkaaGreatDoor
open Go.RowKit
def cfgA (c:Cfg) (lv:Value):Value:=.agg #[.int .i64 c.n,.int .i64 c.k,lv]
structure ErrsQ (w:World) (ad:Nat->Addr):Prop where
 c1:w.cell? ⟨2,0,none⟩=some (.iface 218 (.pointer (some (ad 1))))
 c2:w.cell? ⟨6,0,none⟩=some (.iface 218 (.pointer (some (ad 2))))
 c3:w.cell? ⟨1,0,none⟩=some (.iface 218 (.pointer (some (ad 3))))
 c4:w.cell? ⟨5,0,none⟩=some (.iface 218 (.pointer (some (ad 4))))
 c5:w.cell? ⟨3,0,none⟩=some (.iface 218 (.pointer (some (ad 5))))
theorem ErrsQ.below {w w':World} {ad:Nat->Addr} (h:ErrsQ w ad) (hb:Below w.heap.size w w'):ErrsQ w' ad where
 c1:=(hb.cell (lt_of_cellE h.c1)).trans h.c1
 c2:=(hb.cell (lt_of_cellE h.c2)).trans h.c2
 c3:=(hb.cell (lt_of_cellE h.c3)).trans h.c3
 c4:=(hb.cell (lt_of_cellE h.c4)).trans h.c4
 c5:=(hb.cell (lt_of_cellE h.c5)).trans h.c5
def CfgIn (c:Cfg):Prop:=(-9223372036854775808<=c.n/\c.n<=9223372036854775807)/\-9223372036854775808<=c.k/\c.k<=9223372036854775807
structure CfgAt (w:World) (c:Cfg) (p:Option Addr) (cap:Nat):Prop where
 strs:Strs w p c.L
 room:c.L.length<=cap
 empty:p=none->c.L=[]/\cap=0
 len:c.L.length<=1000
 size:∀ x ∈ c.L,x.size<=1000
 ints:CfgIn c
theorem CfgAt.below {w w':World} {c:Cfg} {p:Option Addr} {cap:Nat} (h:CfgAt w c p cap) (hb:Below w.heap.size w w'):CfgAt w' c p cap:=⟨h.strs.below hb,h.room,h.empty,h.len,h.size,h.ints⟩
theorem one_cfg:cfgF ⟨1,1,[⟨#[97]⟩]⟩=(0,-1):=by decide +kernel
theorem ErrIs.isNil {w:World} {ad:Nat->Addr} {ev:Value} {at_:Int} (h:ErrIs w ad ev 0 at_):ev=.nilIface:=by
 rcases h with ⟨h,_⟩ | ⟨i,_,_,h,_⟩ | ⟨i,_,_,_,h,_⟩
 ·exact h
 ·omega
 ·omega
theorem Sent.errsQ {w:World} {ad:Nat->Addr} (h:Sent w ad):ErrsQ w ad:=⟨h.c1,h.c2,h.c3,h.c4,h.c5⟩
theorem ErrIs.setInt {w:World} {ad:Nat->Addr} {ev:Value} {c at_:Int} {b:Nat} {z:Int} (h:ErrIs w ad ev c at_) (hz:w.cell? ⟨b,1,none⟩=Option.some (Value.int .i64 z)) (i:Nat) (v:Value):ErrIs (w.setCell ⟨b,i,none⟩ v) ad ev c at_:=by
 rcases h with h | h | ⟨k,fb,hk,he,hc,h0,h1⟩
 ·exact Or.inl h
 ·exact Or.inr (Or.inl h)
 ·have hne : fb ≠ b := fun e => by
   subst e
   rw [hz] at h1
   cases h1
  exact Or.inr (Or.inr ⟨k,fb,hk,he,hc,(World.cell?_setCell_other _ _ _ _ (fun e=>hne (congrArg Addr.block e).symm)).trans h0,(World.cell?_setCell_other _ _ _ _ (fun e=>hne (congrArg Addr.block e).symm)).trans h1⟩)
structure TxsIn (w:World) (l:List ByteArray) (p:Option Addr) (cap:Nat):Prop where
 strs:Strs w p l
 room:l.length<=cap
 empty:p=none->l=[]/\cap=0
 len:l.length<=maxLen
 size:∀ x ∈ l,x.size<=maxLen
end Go.Proofs.YtghpdhegfnhmkaaGreatDoor
namespace Go.Proofs.YtghpdhegfnhmkaaGreatDoor
open Go.ChangeShapes Go.WideShapes Go.ChangeAt Go.RowKit
theorem cfgLaidOut:laidOutB Tryz.prog=true:=by kernel_rfl
theorem qCfgFields:∃ f0 f1 f2,Tryz.prog.underlying 24=some (.struct #[f0,f1,f2])/\f0.offset=0/\f1.offset=1/\f2.offset=2/\f0.type=3/\f1.type=3/\f2.type=22:=⟨_,_,_,Tryz.underlying24,rfl,rfl,rfl,rfl,rfl,rfl⟩
theorem qCellsInt:Tryz.prog.cellsOf 3=1:=by kernel_rfl
theorem qCellsStrs:Tryz.prog.cellsOf 22=1:=by kernel_rfl
theorem qCellsCfg:Tryz.prog.cellsOf 24=3:=by kernel_rfl
set_option maxRecDepth 100000 in
theorem strs_arg8 {H:Type} {enc:TypeId×Value->H} {W:World} {fuel:Nat} {v:Value} {y:DataW H×List MemPlace} (h:DataW.trod enc Tryz.prog W 0 (fun _=>true) true fuel 22 [v]=some y):∃ p l cap,v=.slice p l.length cap/\TxsIn W l p cap:=by
 rcases Deep.open_strs Tryz.underlying22 Tryz.underlying9 (by kernel_rfl) h with ⟨hcs,_⟩ | ⟨a,len0,cap0,m,Sx,hcs,_,hle,hcm,hm,hd,hx⟩
 ·simp at hcs
  subst hcs
  exact ⟨none,[],0,rfl,⟨Or.inl rfl,Nat.le_refl _,fun _=>⟨rfl,rfl⟩,Nat.zero_le _,fun x hx=>by cases hx⟩⟩
 ·simp at hcs
  subst hcs
  have hlm:len0<=m:=by rw [hm];split <;> omega
  have hlen:((List.range len0).map Sx).length=len0:=by simp
  have hat:∀ i,i < len0->txt ((List.range len0).map Sx) i=Sx i:=fun i hi=>by
   rw [txt_getElem _ i (by rw [hlen];exact hi)]
   simp
  refine ⟨some a,(List.range len0).map Sx,cap0,by rw [hlen],⟨?_,by rw [hlen];exact hle,(fun e=>by cases e),by rw [hlen];omega,fun x hxm=>?_⟩⟩
  ·by_cases h0:len0=0
   ·exact Or.inl (List.length_eq_zero_iff.1 (by rw [hlen];exact h0))
   ·have hx0:=(hx 0 (by omega)).1
    obtain ⟨b,off,sp⟩:=a
    have hsp:sp=none:=by
     cases sp with
     | none=>rfl
     | some q =>
      exfalso
      simp [Addr.add,World.cell?] at hx0
      revert hx0
      split <;> intro h9 <;> cases h9
    subst hsp
    refine Or.inr ⟨b,off,rfl,?_,fun i hi=>?_⟩
    ·rw [Addr.add_lit] at hx0
     rcases Nat.lt_or_ge b W.heap.size with h' | h'
     ·exact h'
     ·simp [World.cell?,Array.getElem?_eq_none h'] at hx0
    ·rw [hlen] at hi
     have:=(hx i (by omega)).1
     rw [Addr.add_lit] at this
     rw [hat i hi]
     exact this
  ·obtain ⟨i,hi,rfl⟩:=List.mem_map.1 hxm
   exact (hx i (by have:=List.mem_range.1 hi;omega)).2
set_option maxRecDepth 100000 in
theorem cfg_arg8 {H:Type} {enc:TypeId×Value->H} {W:World} {base:Nat} {v:Value} {d:DataW H} {ps:List MemPlace} (hok:Value.okWide Tryz.prog W .any base 24 v) (h:DataW.Trod enc Tryz.prog W 0 (fun _=>true) true 24 v d ps) :
 ∃ c p cap,v=cfgA c (.slice p c.L.length cap)/\TxsIn W c.L p cap/\CfgIn c:=by
 obtain ⟨f0,f1,f2,hst,o0,o1,o2,t0,t1,t2⟩:=qCfgFields
 obtain ⟨cs,rfl,hsz⟩:=okWide_struct hst hok
 rw [qCellsCfg] at hsz
 obtain ⟨fuel,hf⟩:=h
 obtain ⟨csl,hcsl⟩:∃ csl,csl=cs.toList:=⟨_,rfl⟩
 have hcl:csl.length=3:=by rw [hcsl];simpa using hsz
 have hce:cs=csl.toArray:=by rw [hcsl]
 subst hce
 have hf2:DataW.trod enc Tryz.prog W 0 (fun _=>true) true fuel 24 csl=some (d,ps):=by
  have e:(Value.agg csl.toArray).cells.toList=csl:=by simp [Value.cells]
  rw [<- e]
  exact hf
 obtain ⟨z0,z1,z2,n2,_,hlen,k0,k1,k2⟩:=Deep.trod_struct3 hst hf2
 match csl,hcl with
 | [v0,v1,v2],_ =>
  rw [t0,o0,qCellsInt] at k0
  rw [t1,o1,qCellsInt] at k1
  rw [t2,o2,qCellsStrs] at k2
  obtain ⟨cn,hn,_,wn⟩:=DataW.trod_int Tryz.underlying3 k0
  obtain ⟨ck,hk,_,wk⟩:=DataW.trod_int Tryz.underlying3 k1
  obtain ⟨p,l,cap,hl,htx⟩:=strs_arg8 (show DataW.trod _ _ _ _ _ _ _ _ [v2]=some z2 from k2)
  simp at hn hk
  subst hn hk hl
  exact ⟨⟨cn,ck,l⟩,p,cap,rfl,htx,bounds_i64 wn,bounds_i64 wk⟩
end Go.Proofs.YtghpdhegfnhmkaaGreatDoor
