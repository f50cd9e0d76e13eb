import Derived.Test.YtghpdhegfnhmkaaGreatDoorS4
import Derived.BigQuiet
import Derived.Deep.OwnRows
import Derived.Deep.RegionHeld3
import Derived.Deep.QuietTactic
import Derived.Shelf.SlSortCmp.QuietGrown
import Derived.Deep.CutRange
import Derived.Test.YtghpdhegfnhmkaaGreatDoorS2
import Derived.Test.YtghpdhegfnhmkaaGreatDoorS0
import Derived.Maps.RangeWalk
import Derived.Maps.OwnOps
import Derived.Maps.OwnSet
import Derived.Laws.AppendOwn
import Derived.OwnWalk
namespace Go.Proofs.YtghpdhegfnhmkaaGreatDoor
structure Cfg where
 n:Int
 k:Int
 L:List ByteArray
def cfgF (c:Cfg):Int×Int:=if 1<=c.k/\c.k<=c.n/\c.n<=12 then (if (c.L.length:Int)=c.n then nodesF c.L else (3,-1)) else (2,-1)
theorem cfgF_bound {c:Cfg} (h:¬ (1<=c.k/\c.k<=c.n/\c.n<=12)):cfgF c=(2,-1):=if_neg h
theorem cfgF_shape {c:Cfg} (h:1<=c.k/\c.k<=c.n/\c.n<=12) (h2:¬ (c.L.length:Int)=c.n):cfgF c=(3,-1):=by unfold cfgF;rw [if_pos h,if_neg h2]
theorem cfgF_nodes {c:Cfg} (h:1<=c.k/\c.k<=c.n/\c.n<=12) (h2:(c.L.length:Int)=c.n):cfgF c=nodesF c.L:=by unfold cfgF;rw [if_pos h,if_pos h2]
theorem cfgF_fine {c:Cfg} (h:¬ 0 < (cfgF c).1):(1<=c.k/\c.k<=c.n/\c.n<=12)/\(c.L.length:Int)=c.n/\cfgF c=(0,-1)/\(∀ x ∈ c.L,isN x=true)/\c.L.Nodup:=by
 by_cases h1:1<=c.k/\c.k<=c.n/\c.n<=12
 ·by_cases h2:(c.L.length:Int)=c.n
  ·rw [cfgF_nodes h1 h2] at h ⊢
   have h3:(nodesF c.L).1<=0:=by omega
   exact ⟨h1,h2,(nodesF_zero h3).1,(nodesF_fine h3).1,(nodesF_fine h3).2⟩
  ·rw [cfgF_shape h1 h2] at h
   exact absurd (by decide) h
 ·rw [cfgF_bound h1] at h
  exact absurd (by decide) h
end Go.Proofs.YtghpdhegfnhmkaaGreatDoor
namespace Go.Proofs.YtghpdhegfnhmkaaGreatDoor
open Go.RowKit
set_option maxRecDepth 10000 in
set_option maxHeartbeats 1000000 in
theorem index_miss (p:Option Addr) (l:List ByteArray) (c:Nat) (s:ByteArray) (w:World) (hl:l.length<=1000000) (hs:Strs w p l) (h:s ∉ l) :
 Calls Tryz.prog 45 #[.slice p l.length c,.string s] w fun e w'=>e=.returned (.int .i64 (-1))/\w'=w:=by
 have HH:Hid (s ∉ l):=h
 clear h
 go_enter Tryz.func45,Tryz.ntmps45
 go_wp2
 go_loop [5] (fun x=>∃ i:Nat,i<=l.length/\x=.int .i64 i) (fun x=>l.length - (intOf x).toNat)
 case atStart=>exact ⟨0,Nat.zero_le _,rfl⟩
 case round =>
  obtain ⟨i,hi,rfl⟩:=hrel
  by_cases hil:i < l.length
  ·rcases hs with h0 | ⟨b,o,rfl,hlt,hc⟩
   ·rw [h0] at hil;exact absurd hil (Nat.not_lt_zero _)
   have q1:=hc i hil
   have hne:txt l i≠s:=fun e=>HH.out (e ▸ txt_mem hil)
   have h1:=toList_ne hne
   have h2:=toList_beq hne
   have h3:=bytes_beq hne
   clear hne hc
   generalize txt l i=t at *
   go_wp2
   go_round
   case rel=>exact ⟨i+1,by omega,by go_num⟩
   case measure=>simp [intOf];omega
  ·go_wp2
   go_ret
   exact ⟨rfl,rfl⟩
set_option maxRecDepth 10000 in
set_option maxHeartbeats 1000000 in
theorem index_hit (p:Option Addr) (l:List ByteArray) (c:Nat) (s:ByteArray) (w:World) (hl:l.length<=1000000) (hs:Strs w p l) (h:s ∈ l) :
 Calls Tryz.prog 45 #[.slice p l.length c,.string s] w fun e w'=>e=.returned (.int .i64 ((idxN l s:Nat):Int))/\w'=w:=by
 have HH:Hid (s ∈ l):=h
 clear h
 go_enter Tryz.func45,Tryz.ntmps45
 go_wp2
 go_loop [5] (fun x=>∃ i:Nat,i<=l.length/\x=.int .i64 i/\∀ j,j < i->txt l j≠s) (fun x=>l.length - (intOf x).toNat)
 case atStart=>exact ⟨0,Nat.zero_le _,rfl,fun j hj=>absurd hj (Nat.not_lt_zero _)⟩
 case round =>
  obtain ⟨i,hi,rfl,hall⟩:=hrel
  have HALL:Hid (∀ j,j < i->txt l j≠s):=hall
  clear hall
  have hil:i < l.length:=by
   rcases Nat.lt_or_ge i l.length with h | h
   ·exact h
   ·obtain ⟨j,hj,e⟩:=txt_of_mem HH.out
    exact absurd e (HALL.out j (by omega))
  rcases hs with h0 | ⟨b,o,rfl,hlt,hc⟩
  ·rw [h0] at hil;exact absurd hil (Nat.not_lt_zero _)
  have q1:=hc i hil
  have HE:Hid (txt l i=txt l i):=by show _=_;rfl
  clear hc
  by_cases hne:txt l i=s
  ·have HI:Hid (idxN l s=i):=idxN_eq hil hne HALL.out
   rw [hne] at q1
   clear hne HE
   go_wp2
   go_ret
   exact ⟨by rw [HI.out];rfl,rfl⟩
  ·have HN:Hid (txt l i≠s):=hne
   have h1:=toList_ne hne
   have h2:=toList_beq hne
   have h3:=bytes_beq hne
   clear hne HE
   generalize htt:txt l i=t at *
   have HT:Hid (txt l i=t):=htt
   clear htt
   go_wp2
   go_round
   case rel=>exact ⟨i+1,by omega,by go_num,fun j hj=>by
    rcases Nat.lt_or_ge j i with h | h
    ·exact HALL.out j h
    ·obtain rfl:j=i:=by omega
     rw [HT.out];exact HN.out⟩
   case measure=>simp [intOf];omega
set_option maxRecDepth 10000 in
set_option maxHeartbeats 4000000 in
theorem isName_any (s:ByteArray) (w:World) (hs:s.size<=1000000) :
 Calls Tryz.prog 7 #[.string s] w fun e w'=>e=.returned (.bool (isN s))/\w'=w:=by
 by_cases h1:s.size < 1
 ·have HE:Hid (isN s=false):=isN_len (by omega)
  rw [HE.out]
  go_enter Tryz.func7,Tryz.ntmps7
  go_wp2
  go_ret
  exact ⟨rfl,rfl⟩
 by_cases h2:16 < s.size
 ·have HE:Hid (isN s=false):=isN_len (by omega)
  rw [HE.out]
  go_enter Tryz.func7,Tryz.ntmps7
  go_wp2
  go_ret
  exact ⟨rfl,rfl⟩
 have g1:decide ((s.size:Int) < 1)=false:=decide_eq_false (by omega)
 have g2:decide (16 < (s.size:Int))=false:=decide_eq_false (by omega)
 have HF:Hid (∀ j,j < s.size->letterB (Gf.nth (bytesOf s) j)=false->isN s=false):=fun j hj h=>isN_one hj h
 have HT:Hid ((∀ j,j < s.size->letterB (Gf.nth (bytesOf s) j)=true)->isN s=true):=fun h=>isN_all (by omega) (by omega) h
 generalize isN s=r at *
 go_enter Tryz.func7,Tryz.ntmps7
 go_wp2
 go_loop [3] (fun x=>∃ i:Nat,i<=s.size/\x=.int .i64 i/\∀ j,j < i->letterB (Gf.nth (bytesOf s) j)=true) (fun x=>s.size - (intOf x).toNat)
 case atStart=>exact ⟨0,Nat.zero_le _,rfl,fun j hj=>absurd hj (Nat.not_lt_zero _)⟩
 case round =>
  obtain ⟨i,hi,rfl,hall⟩:=hrel
  have HALL:Hid (∀ j,j < i->letterB (Gf.nth (bytesOf s) j)=true):=hall
  clear hall
  by_cases hil:i < s.size
  ·have hix:=run_idx s i hil
   have hy:=bytesOf_lt s i
   have HB:Hid (letterB (Gf.nth (bytesOf s) i)=false->r=false):=fun h=>HF.out i hil h
   have HN:Hid (letterB (Gf.nth (bytesOf s) i)=true->∀ j,j < i+1->letterB (Gf.nth (bytesOf s) j)=true):=fun h j hj=>by
    rcases Nat.lt_or_ge j i with h' | h'
    ·exact HALL.out j h'
    ·obtain rfl:j=i:=by omega
     exact h
   clear HF HALL
   generalize Gf.nth (bytesOf s) i=y at *
   rcases (show (97<=y/\y<=122)∨(48<=y/\y<=57)∨y=45∨122 < y∨(57 < y/\y < 97)∨(y < 48/\y≠45) by omega) with hc | hc | hc | hc | hc | hc
   ·have HL:Hid (letterB y=true):=by show _=_;simp [letterB,hc]
    obtain ⟨hc1,hc2⟩:=hc
    go_wp2
    go_round
    case rel=>exact ⟨i+1,by omega,by go_num,HN.out HL.out⟩
    case measure=>simp [intOf];omega
   ·have HL:Hid (letterB y=true):=by show _=_;simp [letterB,hc]
    obtain ⟨hc1,hc2⟩:=hc
    go_wp2
    go_round
    case rel=>exact ⟨i+1,by omega,by go_num,HN.out HL.out⟩
    case measure=>simp [intOf];omega
   ·have HL:Hid (letterB y=true):=by show _=_;simp [letterB,hc]
    subst hc
    go_wp2
    go_round
    case rel=>exact ⟨i+1,by omega,by go_num,HN.out HL.out⟩
    case measure=>simp [intOf];omega
   ·have HL : Hid (r = false) := HB.out (by
     unfold letterB
     rw [decide_eq_false (by omega),decide_eq_false (by omega),decide_eq_false (by omega)]
     rfl)
    have d1:decide ((y:Int)<=122)=false:=decide_eq_false (by omega)
    have d2:decide ((y:Int)<=57)=false:=decide_eq_false (by omega)
    have hc3:((y:Int)==45)=false:=by
     rw [beq_eq_false_iff_ne]
     omega
    go_wp2
    go_ret
    exact ⟨by rw [HL.out];rfl,rfl⟩
   ·have HL : Hid (r = false) := HB.out (by
     unfold letterB
     rw [decide_eq_false (by omega),decide_eq_false (by omega),decide_eq_false (by omega)]
     rfl)
    obtain ⟨hc1,hc2⟩:=hc
    have d2:decide ((y:Int)<=57)=false:=decide_eq_false (by omega)
    have hc3:((y:Int)==45)=false:=by
     rw [beq_eq_false_iff_ne]
     omega
    go_wp2
    go_ret
    exact ⟨by rw [HL.out];rfl,rfl⟩
   ·have HL : Hid (r = false) := HB.out (by
     unfold letterB
     rw [decide_eq_false (by omega),decide_eq_false (by omega),decide_eq_false (by omega)]
     rfl)
    obtain ⟨hc1,hc2⟩:=hc
    have hc3:((y:Int)==45)=false:=by
     rw [beq_eq_false_iff_ne]
     omega
    go_wp2
    go_ret
    exact ⟨by rw [HL.out];rfl,rfl⟩
  ·have hie:i=s.size:=by omega
   subst hie
   have HR:Hid (r=true):=HT.out HALL.out
   go_wp2
   go_ret
   exact ⟨by rw [HR.out];rfl,rfl⟩
set_option maxRecDepth 10000 in
set_option maxHeartbeats 1000000 in
theorem sindex_miss (p:Option Addr) (l:List ByteArray) (c:Nat) (s:ByteArray) (w:World) (hl:l.length<=1000000) (hs:Strs w p l) (h:s ∉ l) :
 Calls Tryz.prog 101 #[.slice p l.length c,.string s] w fun e w'=>e=.returned (.int .i64 (-1))/\w'=w:=by
 have HH:Hid (s ∉ l):=h
 clear h
 go_enter Tryz.func101,Tryz.ntmps101
 go_wp2
 go_loop [8] (fun x=>∃ i:Nat,i<=l.length/\x=.int .i64 i) (fun x=>l.length - (intOf x).toNat)
 case atStart=>exact ⟨0,Nat.zero_le _,rfl⟩
 case round =>
  obtain ⟨i,hi,rfl⟩:=hrel
  by_cases hil:i < l.length
  ·rcases hs with h0 | ⟨b,o,rfl,hlt,hc⟩
   ·rw [h0] at hil;exact absurd hil (Nat.not_lt_zero _)
   have q1:=hc i hil
   have hne:txt l i≠s:=fun e=>HH.out (e ▸ txt_mem hil)
   have h1:=toList_ne (Ne.symm hne)
   have h2:=toList_beq (Ne.symm hne)
   have h3:=bytes_beq (Ne.symm hne)
   clear hne hc
   generalize txt l i=t at *
   go_wp2
   go_round
   case rel=>exact ⟨i+1,by omega,by go_num⟩
   case measure=>simp [intOf];omega
  ·go_wp2
   go_ret
   exact ⟨rfl,rfl⟩
set_option maxRecDepth 10000 in
set_option maxHeartbeats 1000000 in
theorem sindex_hit (p:Option Addr) (l:List ByteArray) (c:Nat) (s:ByteArray) (w:World) (hl:l.length<=1000000) (hs:Strs w p l) (h:s ∈ l) :
 Calls Tryz.prog 101 #[.slice p l.length c,.string s] w fun e w'=>e=.returned (.int .i64 ((idxN l s:Nat):Int))/\w'=w:=by
 have HH:Hid (s ∈ l):=h
 clear h
 go_enter Tryz.func101,Tryz.ntmps101
 go_wp2
 go_loop [8] (fun x=>∃ i:Nat,i<=l.length/\x=.int .i64 i/\∀ j,j < i->txt l j≠s) (fun x=>l.length - (intOf x).toNat)
 case atStart=>exact ⟨0,Nat.zero_le _,rfl,fun j hj=>absurd hj (Nat.not_lt_zero _)⟩
 case round =>
  obtain ⟨i,hi,rfl,hall⟩:=hrel
  have HALL:Hid (∀ j,j < i->txt l j≠s):=hall
  clear hall
  have hil:i < l.length:=by
   rcases Nat.lt_or_ge i l.length with h | h
   ·exact h
   ·obtain ⟨j,hj,e⟩:=txt_of_mem HH.out
    exact absurd e (HALL.out j (by omega))
  rcases hs with h0 | ⟨b,o,rfl,hlt,hc⟩
  ·rw [h0] at hil;exact absurd hil (Nat.not_lt_zero _)
  have q1:=hc i hil
  have HE:Hid (txt l i=txt l i):=by show _=_;rfl
  clear hc
  by_cases hne:txt l i=s
  ·have HI:Hid (idxN l s=i):=idxN_eq hil hne HALL.out
   rw [hne] at q1
   clear hne HE
   go_wp2
   go_ret
   exact ⟨by rw [HI.out];rfl,rfl⟩
  ·have HN:Hid (txt l i≠s):=hne
   have h1:=toList_ne (Ne.symm hne)
   have h2:=toList_beq (Ne.symm hne)
   have h3:=bytes_beq (Ne.symm hne)
   clear hne HE
   generalize htt:txt l i=t at *
   have HT:Hid (txt l i=t):=htt
   clear htt
   go_wp2
   go_round
   case rel=>exact ⟨i+1,by omega,by go_num,fun j hj=>by
    rcases Nat.lt_or_ge j i with h | h
    ·exact HALL.out j h
    ·obtain rfl:j=i:=by omega
     rw [HT.out];exact HN.out⟩
   case measure=>simp [intOf];omega
set_option maxRecDepth 10000 in
theorem scont_any (p:Option Addr) (l:List ByteArray) (c:Nat) (s:ByteArray) (w:World) (hl:l.length<=1000000) (hs:Strs w p l) :
 Calls Tryz.prog 91 #[.slice p l.length c,.string s] w fun e w'=>e=.returned (.bool (inL l s))/\w'=w:=by
 by_cases h:s ∈ l
 ·have HE:Hid (inL l s=true):=inL_iff.2 h
  have HI:=sindex_hit p l c s w hl hs h
  rw [HE.out]
  clear h hs
  generalize idxN l s=k at *
  go_enter Tryz.func91,Tryz.ntmps91
  go_wp2_with fail
  refine HI.mono ?_
  rintro e w1 ⟨rfl,hw1⟩
  rw [hw1]
  clear hw1 w1 HI
  go_wp2
  go_ret
  exact ⟨rfl,rfl⟩
 ·have HE:Hid (inL l s=false):=Bool.eq_false_iff.2 fun h2=>h (inL_iff.1 h2)
  have HI:=sindex_miss p l c s w hl hs h
  rw [HE.out]
  clear h hs
  go_enter Tryz.func91,Tryz.ntmps91
  go_wp2_with fail
  refine HI.mono ?_
  rintro e w1 ⟨rfl,hw1⟩
  rw [hw1]
  clear hw1 w1 HI
  go_wp2
  go_ret
  exact ⟨rfl,rfl⟩
def lessB (a b:Int×Int):Bool:=decide (a.1 < b.1) || (decide (a.1=b.1) && decide (a.2 < b.2))
theorem verinfo:(Tryz.prog.info? 47).map (fun i=>(i.zero,i.size,i.bytes))=some (some (.agg #[.int .i64 0,.int .i64 0,.int .i64 0,.int .i64 0,.string ⟨#[]⟩]),5,48):=by kernel_rfl
def verAt (L:List Ver) (i:Nat):Ver:=L.getD i ⟨0,0,0,0,⟨#[]⟩⟩
theorem verAt_get {L:List Ver} {i:Nat} (hi:i < L.length):L[i]?=some (verAt L i):=by
 unfold verAt
 rw [List.getD_eq_getElem?_getD,List.getElem?_eq_getElem hi]
 rfl
theorem ver_cells {w:World} {p:Option Addr} {L:List Ver} (h:Rec verE w p L) {i:Nat} (hi:i < L.length):∃ b o,p=some ⟨b,o,none⟩/\b < w.heap.size/\w.cell? ⟨b,o+i*5,none⟩=some (.int .i64 (verAt L i).n)/\w.cell? ⟨b,o+i*5+1,none⟩=some (.int .i64 (verAt L i).who)/\w.cell? ⟨b,o+i*5+2,none⟩=some (.int .i64 (verAt L i).size)/\w.cell? ⟨b,o+i*5+3,none⟩=some (.int .i64 (verAt L i).at_)/\w.cell? ⟨b,o+i*5+4,none⟩=some (.string (verAt L i).text):=by
 rcases h with h | ⟨b,o,hp,hlt,hc⟩
 ·rw [h] at hi;exact absurd hi (Nat.not_lt_zero _)
 ·have hx:=verAt_get hi
  exact ⟨b,o,hp,hlt,hc i _ hx 0 _ rfl,hc i _ hx 1 _ rfl,hc i _ hx 2 _ rfl,hc i _ hx 3 _ rfl,hc i _ hx 4 _ rfl⟩
def tagB (n who:Int):Bool:=decide (0<=n) && decide (n<=1099511627776) && decide (0<=who) && decide (who<=1099511627776)
def verOk (v:Ver):Bool:=tagB v.n v.who && decide (0<=v.size/\v.size<=1000/\0<=v.at_/\v.at_ < 12/\v.text.size<=1000)
def sameTag (x:Kep) (key:ByteArray) (v:Ver):Bool:=decide (x.1=key) && decide (x.2.n=v.n) && decide (x.2.who=v.who)
def putScan (L:List Kep) (key:ByteArray) (v:Ver):Nat->Nat->Int
 | _,0=>if 60<=L.length then 7 else 0
 | i,m+1=>if sameTag (kepAt L i) key v then (if (kepAt L i).2=v then -1 else 6) else putScan L key v (i+1) m
def putErr (L:List Kep) (s:Bool) (key:ByteArray) (v:Ver):Int:=if s then 10 else if isN key then (if verOk v then putScan L key v 0 L.length else 2) else 4
def keysTo (L:List Kep):Nat->List ByteArray
 | 0=>[]
 | i+1=>if (keysTo L i).length=0∨txt (keysTo L i) ((keysTo L i).length - 1)≠(kepAt L i).1 then keysTo L i ++ [(kepAt L i).1] else keysTo L i
theorem keysTo_le (L:List Kep):∀ i,(keysTo L i).length<=i
 | 0=>Nat.zero_le _
 | i+1=>by
  have ih:=keysTo_le L i
  show (if _ then _ else _:List ByteArray).length<=i+1
  split
  ·rw [List.length_append]
   show _+1<=_
   omega
  ·omega
def beforeB (x:Kep) (key:ByteArray) (v:Ver):Bool:=Op.bytesLess x.1.toList key.toList || (decide (x.1=key) && lessB (x.2.n,x.2.who) (v.n,v.who))
def placeN (L:List Kep) (key:ByteArray) (v:Ver):Nat:=L.findIdx fun x=>!beforeB x key v
theorem placeN_le (L:List Kep) (key:ByteArray) (v:Ver):placeN L key v<=L.length:=List.findIdx_le_length
def putL (L:List Kep) (key:ByteArray) (v:Ver):List Kep:=L.take (placeN L key v) ++ [(key,v)] ++ L.drop (placeN L key v)
theorem placeN_before {L:List Kep} {key:ByteArray} {v:Ver} {j:Nat} (hj:j < placeN L key v):beforeB (kepAt L j) key v=true:=by
 have hlt:j < L.length:=Nat.lt_of_lt_of_le hj (placeN_le L key v)
 have h:=List.not_of_lt_findIdx (p:=fun x=>!beforeB x key v) (xs:=L) (i:=j) hj
 have e:L[j]=kepAt L j:=by
  have:=kepAt_get hlt
  rw [List.getElem?_eq_getElem hlt] at this
  exact Option.some.inj this
 rw [e] at h
 simpa using h
theorem placeN_here {L:List Kep} {key:ByteArray} {v:Ver} (hk:placeN L key v < L.length):beforeB (kepAt L (placeN L key v)) key v=false:=by
 have h:=List.findIdx_getElem (p:=fun x=>!beforeB x key v) (xs:=L) (w:=hk)
 have e:L[placeN L key v]=kepAt L (placeN L key v):=by
  have:=kepAt_get hk
  rw [List.getElem?_eq_getElem hk] at this
  exact Option.some.inj this
 have h2:(!beforeB L[placeN L key v] key v)=true:=h
 rw [e] at h2
 simpa using h2
def putR (L:List Kep) (s:Bool) (key:ByteArray) (v:Ver):Int×List Kep:=if putErr L s key v=0 then (0,putL L key v) else if putErr L s key v < 0 then (0,L) else (putErr L s key v,L)
def BareIs (ad:Nat->Addr) (ev:Value) (c:Int):Prop:=(ev=.nilIface/\c=0)∨∃ i,i < 12/\ev=.iface 218 (.pointer (some (ad i)))/\c=((i+1:Nat):Int)
structure Upd (S S':Nat->Prop) (w w':World):Prop where
 os:w'.os=w.os
 tape:w'.tape=w.tape
 output:w'.output=w.output
 size:w.heap.size<=w'.heap.size
 block:∀ k,k < w.heap.size->¬ S k->w'.heap[k]?=w.heap[k]?
 new:∀ k,S' k->S k∨w.heap.size<=k
theorem Upd.of_below {S:Nat->Prop} {w w':World} (hb:Below w.heap.size w w'):Upd S S w w':=⟨hb.os,hb.tape,hb.output,hb.size,fun k hk _=>hb.block k hk,fun _ h=>Or.inl h⟩
def verA (v:Ver):Value:=.agg #[.int .i64 v.n,.int .i64 v.who,.int .i64 v.size,.int .i64 v.at_,.string v.text]
def canB (n k:Nat) (v:Ver):Bool:=tagB v.n v.who && decide (0<=v.size/\v.size<=1000/\0<=v.at_/\v.at_ < n/\v.text.size=wideN k v.size.toNat)
def VerI64 (v:Ver):Prop:=(-9223372036854775808<=v.n/\v.n<=9223372036854775807)/\(-9223372036854775808<=v.who/\v.who<=9223372036854775807)/\(-9223372036854775808<=v.size/\v.size<=9223372036854775807)/\-9223372036854775808<=v.at_/\v.at_<=9223372036854775807
end Go.Proofs.YtghpdhegfnhmkaaGreatDoor
namespace Go.Proofs.YtghpdhegfnhmkaaGreatDoor
open Go.RowKit Go.Sort
theorem below_grow (w:World) (n:Nat) (os:Array Obj):RowKit.Below w.heap.size w (grow (w.drewN n) os):=⟨rfl,rfl,rfl,by show w.heap.size<=(w.heap ++ os).size;rw [Array.size_append];omega,fun _ hj=>heap_grow_old (w.drewN n) os hj⟩
end Go.Proofs.YtghpdhegfnhmkaaGreatDoor
namespace Go.Proofs.YtghpdhegfnhmkaaGreatDoor
open Go.RowKit Go.Sort
end Go.Proofs.YtghpdhegfnhmkaaGreatDoor
namespace Go.Proofs.YtghpdhegfnhmkaaGreatDoor
open Go.RowKit Go.Sort
end Go.Proofs.YtghpdhegfnhmkaaGreatDoor
namespace Go.Proofs.YtghpdhegfnhmkaaGreatDoor
open Go.RowKit
abbrev Lv:=Option Addr×Nat×Nat
def msgC (x:Msg×Lv):List Value:=[.string x.1.from_,.string x.1.to_,.string x.1.kind,.string x.1.key,.int .i64 x.1.op,.int .i64 x.1.config,.bool x.1.shut,.slice x.2.1 x.2.2.1 x.2.2.2]
def mE:Enc (Msg×Lv):=⟨8,by decide,msgC,fun _=>rfl,fun x u hu=>by simp [msgC] at hu;rcases hu with rfl | rfl | rfl | rfl | rfl | rfl | rfl | rfl <;> rfl⟩
theorem Upd.trans {S S1 S2:Nat->Prop} {w w1 w2:World} (h1:Upd S S1 w w1) (h2:Upd S1 S2 w1 w2):Upd S S2 w w2 :=
 ⟨h2.os.trans h1.os,h2.tape.trans h1.tape,h2.output.trans h1.output,Nat.le_trans h1.size h2.size,fun k hk hs=>(h2.block k (Nat.lt_of_lt_of_le hk h1.size) (fun h=>(h1.new k h).elim hs (by omega))).trans (h1.block k hk hs),fun k hk=>(h2.new k hk).elim (h1.new k) (fun h=>Or.inr (Nat.le_trans h1.size h))⟩
def kLook:ByteArray:=⟨#[108,111,111,107]⟩
def kSeal:ByteArray:=⟨#[115,101,97,108]⟩
def kKeep:ByteArray:=⟨#[107,101,101,112]⟩
abbrev Cfd:=Int×List Kep×Bool
structure MMem where
 name:ByteArray
 L:List Cfd
def MMem.off (m:MMem) (x:Msg):Prop:=x.to_≠m.name∨x.config < 0∨isN x.key=false
def oddK (x:Msg):Prop:=x.kind≠kLook/\x.kind≠kSeal/\(x.kind≠kKeep∨x.L.length≠1)
instance (m:MMem) (x:Msg):Decidable (m.off x):=by unfold MMem.off;infer_instance
instance (x:Msg):Decidable (oddK x):=by unfold oddK;infer_instance
end Go.Proofs.YtghpdhegfnhmkaaGreatDoor
namespace Go.Proofs.YtghpdhegfnhmkaaGreatDoor
open Go.RowKit Go.Extern.Stop Go.Stop Go.Extern
theorem coded3_nil (w:World):Calls Tryz.prog 13 #[.nilIface,.int .i64 0] w fun e w'=>e=.returned (.bool true)/\w'=w:=by
 go_enter Tryz.func13,Tryz.ntmps13
 go_wp2_with (go_at_call 41;refine (code_nil _).mono ?_;rintro e w' ⟨rfl,rfl⟩)
 go_ret
 exact ⟨rfl,rfl⟩
theorem coded3_sent (ad:Nat->Addr) (i:Nat) (hi:i < 12) (w:World) (hS:Sent w ad) :
 Calls Tryz.prog 13 #[.iface 218 (.pointer (some (ad i))),.int .i64 ((i+1:Nat):Int)] w fun e w'=>e=.returned (.bool true)/\Below w.heap.size w w':=by
 go_enter Tryz.func13,Tryz.ntmps13
 go_wp2_with fail
 refine (code_sent ad i hi _ hS).mono ?_
 rintro e w2 ⟨rfl,hb2⟩
 go_wp2
 go_ret
 exact ⟨rfl,hb2⟩
theorem coded3_any {ad:Nat->Addr} {ev:Value} {c:Int} (h:BareIs ad ev c) (w:World) (hS:Sent w ad) :
 Calls Tryz.prog 13 #[ev,.int .i64 c] w fun e w'=>e=.returned (.bool true)/\Below w.heap.size w w':=by
 rcases h with ⟨rfl,rfl⟩ | ⟨i,hi,rfl,rfl⟩
 ·exact (coded3_nil w).mono fun e w' ⟨h1,h2⟩=>⟨h1,by rw [h2];exact Below.refl _ _⟩
 ·exact coded3_sent ad i hi w hS
end Go.Proofs.YtghpdhegfnhmkaaGreatDoor
namespace Go.Proofs.YtghpdhegfnhmkaaGreatDoor
open Go.RowKit
theorem MHold.same {w w':World} {h:Nat} {L:List Kep} {s:Bool} (hm:MHold w h L s) (hs:w.heap.size<=w'.heap.size) (h1:w'.heap[h]?=w.heap[h]?) (h2:L≠[]->∀ b o n c,w.cell? ⟨h,0,none⟩=some (.slice (some ⟨b,o,none⟩) n c)->w'.heap[b]?=w.heap[b]?):MHold w' h L s:=by
 obtain ⟨p,c,q0,hr,hc,hn,hne⟩:=hm.row
 have hcell:∀ o,w'.cell? ⟨h,o,none⟩=w.cell? ⟨h,o,none⟩:=fun o=>by unfold World.cell?;rw [h1]
 have hfr:∀ o,w'.frozen? ⟨h,o,none⟩=w.frozen? ⟨h,o,none⟩:=fun o=>by unfold World.frozen?;rw [h1]
 refine ⟨⟨p,c,(hcell 0).trans q0,?_,hc,hn,hne⟩,(hcell 1).trans hm.sealed_,(hfr 0).trans hm.free0,(hfr 1).trans hm.free1⟩
 by_cases hL:L=[]
 ·exact Or.inl hL
 rcases hr with hr | ⟨b,o,rfl,hltb,hcc⟩
 ·exact Or.inl hr
 ·have hb:=h2 hL b o _ c q0
  exact Or.inr ⟨b,o,rfl,Nat.lt_of_lt_of_le hltb hs,fun i x hx j u hj=>by
   have:=hcc i x hx j u hj
   unfold World.cell? at this ⊢
   rw [hb]
   exact this⟩
theorem OwnR.sameE {α:Type} {E:Enc α} {T:TypeId} {w w':World} {B:Nat} {v:Value} {l:List α} (h:OwnR E T w B v l) (hb:∀ k,v.ownBlock=some k->w'.heap[k]?=w.heap[k]?):OwnR E T w' B v l:=by
 obtain ⟨h1,h2⟩:=h
 refine ⟨h1,?_⟩
 rcases h2 with h2 | ⟨g,cap,cur,hvv,hbg,hg,hrest⟩
 ·exact Or.inl h2
 ·exact Or.inr ⟨g,cap,cur,hvv,hbg,(hb g (by rw [hvv];rfl)).trans hg,hrest⟩
variable {w w':World} {B:Nat} {S:Nat->Prop} {h:Nat} {m:MMem} {up:Bool} {lv:Value} {bs:List Nat}
end Go.Proofs.YtghpdhegfnhmkaaGreatDoor
namespace Go.Proofs.YtghpdhegfnhmkaaGreatDoor
open Go.RowKit
set_option maxRecDepth 10000 in
theorem hwithin_any (x m:Int) (w:World):Calls Tryz.prog 52 #[.int .i64 x,.int .i64 m] w fun e w'=>e=.returned (.bool (decide (0<=x/\x<=m)))/\w'=w:=by
 by_cases h1:0<=x
 ·by_cases h2:x<=m
  ·have HE:Hid (decide (0<=x/\x<=m)=true):=decide_eq_true ⟨h1,h2⟩
   rw [HE.out]
   go_enter Tryz.func52,Tryz.ntmps52
   go_wp2
   go_ret
   exact ⟨rfl,rfl⟩
  ·have HE:Hid (decide (0<=x/\x<=m)=false):=decide_eq_false fun h=>h2 h.2
   rw [HE.out]
   go_enter Tryz.func52,Tryz.ntmps52
   go_wp2
   go_ret
   exact ⟨rfl,rfl⟩
 ·have HE:Hid (decide (0<=x/\x<=m)=false):=decide_eq_false fun h=>h1 h.1
  rw [HE.out]
  go_enter Tryz.func52,Tryz.ntmps52
  go_wp2
  go_ret
  exact ⟨rfl,rfl⟩
def tagOk (a b:Int):Bool:=decide (0<=a/\a<=1099511627776) && decide (0<=b/\b<=1099511627776)
set_option maxRecDepth 10000 in
theorem istag_any (a b:Int) (w:World):Calls Tryz.prog 51 #[.agg #[.int .i64 a,.int .i64 b]] w fun e w'=>e=.returned (.bool (tagOk a b))/\Below w.heap.size w w':=by
 obtain ⟨w1,hw1⟩:∃ w1,w1=w.alloc (.cells #[.int .i64 a,.int .i64 b] 43):=⟨_,rfl⟩
 have HB1:Hid (Below w.heap.size w w1):=by rw [hw1];exact (Below.refl _ _).alloc (Nat.le_refl _) _
 have f0:w1.cell? ⟨w.heap.size,0,none⟩=some (.int .i64 a):=by rw [hw1,World.cell?_alloc_at _ _ _ _ rfl];rfl
 have f1:w1.cell? ⟨w.heap.size,1,none⟩=some (.int .i64 b):=by rw [hw1,World.cell?_alloc_at _ _ _ _ rfl];rfl
 have HW1:Hid (w1=w.alloc (.cells #[.int .i64 a,.int .i64 b] 43)):=hw1
 have HA:Hid (Calls Tryz.prog 52 #[.int .i64 a,.int .i64 1099511627776] w1 fun e w'=>e=.returned (.bool (decide (0<=a/\a<=1099511627776)))/\w'=w1):=hwithin_any _ _ w1
 have HC:Hid (Calls Tryz.prog 52 #[.int .i64 b,.int .i64 1099511627776] w1 fun e w'=>e=.returned (.bool (decide (0<=b/\b<=1099511627776)))/\w'=w1):=hwithin_any _ _ w1
 have HT:Hid (tagOk a b=(decide (0<=a/\a<=1099511627776) && decide (0<=b/\b<=1099511627776))):=by show _=_;rfl
 rw [HT.out]
 clear hw1 HT
 generalize decide (0<=a/\a<=1099511627776)=x at *
 generalize decide (0<=b/\b<=1099511627776)=y at *
 cases x with
 | false =>
  go_enter Tryz.func51,Tryz.ntmps51
  go_wp2_with fail
  rw [<- HW1.out]
  refine HA.out.mono ?_
  rintro e w2 ⟨rfl,hw2⟩
  rw [hw2]
  clear hw2 w2 HA
  go_wp2
  go_ret
  exact ⟨rfl,HB1.out⟩
 | true =>
  go_enter Tryz.func51,Tryz.ntmps51
  go_wp2_with fail
  rw [<- HW1.out]
  refine HA.out.mono ?_
  rintro e w2 ⟨rfl,hw2⟩
  rw [hw2]
  clear hw2 w2 HA
  go_wp2_with fail
  refine HC.out.mono ?_
  rintro e w2 ⟨rfl,hw2⟩
  rw [hw2]
  clear hw2 w2 HC
  go_wp2
  go_ret
  exact ⟨rfl,HB1.out⟩
def litK (x:ByteArray):Lit:=.string x.data.toList
theorem litK_inj {x y:ByteArray} (h:litK x=litK y):x=y:=by
 unfold litK at h
 injection h with h
 exact ByteArray.ext (Array.toList_inj.1 h)
theorem litK_key (x:ByteArray):WideAt.IsKeyLit (litK x):=trivial
theorem sameKey_litK (x:ByteArray):(litK x).sameKey (litK x)=true:=WideAt.sameKey_self (litK_key x)
def anyR (v:Value):Option (DataW Value×List MemPlace):=some (.held v,[])
theorem keyedK:Maps.Keyed Tryz.prog 9:=Maps.string_keyed Tryz.underlying9
theorem keyOfK {x:ByteArray} (hx:x.size<=maxLen):keyOf Tryz.prog 9 (.string x)=some (litK x):=WideMaps.keyOf_string_mk Tryz.underlying9 hx
theorem keyOfK_inv {v:Value} {l:Lit} (h:keyOf Tryz.prog 9 v=some l):∃ x:ByteArray,v=.string x/\l=litK x/\x.size<=maxLen:=by
 cases v <;> simp [keyOf,Tryz.underlying9,mapKey] at h
 rename_i s
 exact ⟨s,rfl,h.2.symm,h.1⟩
abbrev OwnM (w:World) (b n:Nat) (D:DataW Value):Prop:=w.ownsMap Tryz.prog 9 anyR b n D
theorem OwnM.tight {w:World} {b n:Nat} {D:DataW Value} (h:OwnM w b n D):OwnM w b (Maps.size D) D:=by
 obtain ⟨es,clock,hb,F,hs,rfl⟩:=h
 refine ⟨es,clock,hb,F,?_,rfl⟩
 rw [Maps.size_eq,length_sorted]
 simp
theorem OwnM.keys {w:World} {b n:Nat} {D:DataW Value} (h:OwnM w b n D):∃ es,D=.map es/\es.Pairwise (fun p q=>p.1≠q.1)/\∀ p ∈ es,∃ x:ByteArray,x.size<=maxLen/\p.1=litK x:=by
 have ht:=World.ownsMap.tidy h keyedK
 obtain ⟨es0,clock,hb,F,hs,rfl⟩:=h
 obtain ⟨es1,he,hp⟩:=ht
 injection he with he
 refine ⟨_,rfl,by rw [he];exact hp,fun p hp'=>?_⟩
 obtain ⟨x,hx,rfl⟩:=List.mem_map.1 (mem_sorted.1 hp')
 obtain ⟨y,hy⟩:=F.reads x hx
 obtain ⟨z,h1,h2,h3⟩:=keyOfK_inv (WideElems.rd_key hy)
 exact ⟨z,h3,by rw [WideElems.rg_of hy];exact h2⟩
theorem length_le_sub {α:Type}:∀ {l m:List α},l.Nodup->(∀ x ∈ l,x ∈ m)->l.length<=m.length
 | [],_,_,_=>Nat.zero_le _
 | a :: l,m,hn,hs=>by
  classical
  obtain ⟨h1,h2⟩:=List.nodup_cons.1 hn
  have ha:=hs a (by simp)
  have:=length_le_sub (l:=l) (m:=m.erase a) h2 (fun x hx=>(List.mem_erase_of_ne (show x≠a from fun e=>h1 (e ▸ hx))).2 (hs x (by simp [hx])))
  rw [List.length_erase_of_mem ha] at this
  have:=List.length_pos_of_mem ha
  simp only [List.length_cons]
  omega
theorem OwnR.same {T:TypeId} {w w':World} {B:Nat} {v:Value} {l:List Ver} (h:OwnR verE T w B v l) (hb:∀ k,v.ownBlock=some k->w'.heap[k]?=w.heap[k]?):OwnR verE T w' B v l:=by
 obtain ⟨h1,h2⟩:=h
 refine ⟨h1,?_⟩
 rcases h2 with h2 | ⟨g,cap,cur,hv,hbg,hg,hrest⟩
 ·exact Or.inl h2
 ·refine Or.inr ⟨g,cap,cur,hv,hbg,?_,hrest⟩
  rw [hb g (by rw [hv];rfl)]
  exact hg
theorem OwnM.same {w w':World} {b n:Nat} {D:DataW Value} (h:OwnM w b n D) (hb:w'.heap[b]?=w.heap[b]?):OwnM w' b n D:=by
 obtain ⟨es,clock,h1,h2⟩:=h
 exact ⟨es,clock,hb.trans h1,h2⟩
theorem cell_same {w w':World} {b:Nat} (h:w'.heap[b]?=w.heap[b]?) (o:Nat):w'.cell? ⟨b,o,none⟩=w.cell? ⟨b,o,none⟩/\w'.frozen? ⟨b,o,none⟩=w.frozen? ⟨b,o,none⟩:=⟨World.cell?_of_block (a:=⟨b,o,none⟩) h,World.frozen?_of_block (a:=⟨b,o,none⟩) h⟩
structure SetOk (w w':World) (b:Nat) (D:DataW Value) (key:ByteArray) (v:Value):Prop where
 own:∃ n,OwnM w' b n (D.put (litK key) (.held v))
 grown:w.grownBy w' (some b)
theorem set_step {w W:World} {b n:Nat} {D:DataW Value} {key:ByteArray} {v:Value} (hown:OwnM w b n D) (hn:n < maxLen) (hk:key.size<=maxLen) (hb:Below w.heap.size w W) :
 ∃ w',(Instr.mapUpdate 36 (.map (some b)) (.string key) v).run Tryz.prog W=.ok () w'/\SetOk w w' b D key v:=by
 have hlt:b < w.heap.size:=World.ownsMap.lt hown
 have hown2:OwnM W b n D:=hown.same (hb.block b hlt)
 obtain ⟨w',hrun,h1,h2⟩:=World.ownsMap.update hown2 keyedK Tryz.underlying36 hn (val:=v) (d:=.held v) (ps:=[]) (keyOfK hk) rfl
 refine ⟨w',hrun,⟨_,h1⟩,⟨h2.os.trans hb.os,h2.tape.trans hb.tape,h2.output.trans hb.output,Nat.le_trans hb.size h2.size,fun k hk hne=>?_⟩⟩
 rw [h2.block k (Nat.lt_of_lt_of_le hk hb.size) hne]
 exact hb.block k hk
theorem map_not_nil (b:Nat) (W:World):Sem.run Tryz.prog (binOp .eql 36 (.map (some b)) (.map none)) W=.ok (.bool false) W:=by kernel_rfl
theorem map_is_nil (W:World):Sem.run Tryz.prog (binOp .eql 36 (.map none) (.map none)) W=.ok (.bool true) W:=by kernel_rfl
theorem below_drew' {B:Nat} {w W:World} (h:Below B w.drew W):Below B w W:=⟨h.os,h.tape,h.output,h.size,h.block⟩
def byteV (n:Nat):Value:=.int .u8 (n:Int)
def Own (w:World) (B:Nat) (e:TypeId) (v:Value) (l:List Nat):Prop:=w.ownsRow B e 1 v l.length (l.map byteV)
theorem Own.nil (w:World) (B:Nat) (e:TypeId):Own w B e (.slice none 0 0) []:=World.ownsRow_nil w B e 1
theorem Own.kept {w w':World} {B:Nat} {e:TypeId} {v:Value} {l:List Nat} {row:Option Nat} (h:Own w B e v l) (hg:w.grownBy w' row) (hne:v.ownBlock=none∨v.ownBlock≠row):Own w' B e v l:=World.ownsRow.kept h hg hne
theorem Own.block {w:World} {B:Nat} {e:TypeId} {v:Value} {l:List Nat} (h:Own w B e v l) {k:Nat} (hk:v.ownBlock=some k):B<=k/\k < w.heap.size:=World.ownsRow.lt h k hk
theorem grownBy_drewN (w:World) (n:Nat) (row:Option Nat):w.grownBy (w.drewN n) row:=⟨rfl,rfl,rfl,Nat.le_refl _,fun _ _ _=>rfl⟩
theorem Own.seg {w:World} {B:Nat} {e:TypeId} {v:Value} {l:List Nat} (h:Own w B e v l) (hl:Gf.Bytes l):∃ p cap,v=.slice p l.length cap/\Seg w p l:=by
 rcases h.2 with ⟨rfl,h0⟩ | ⟨g,cap,cur,rfl,hb,hg,hnc,hcm,hcs,htake⟩
 ·have:l=[]:=List.length_eq_zero_iff.1 h0
  subst this
  exact ⟨none,0,rfl,hl,Or.inl rfl⟩
 ·refine ⟨some ⟨g,0,none⟩,cap,rfl,hl,Or.inr ⟨g,0,rfl,(Array.getElem?_eq_some_iff.1 hg).1,fun i hi=>?_⟩⟩
  have hc:=World.ownsRow.cells (g:=g) h rfl i (byteV (Gf.nth l i)) (by rw [List.getElem?_map,List.getElem?_eq_getElem hi,Gf.nth_getElem l i hi];rfl)
  rw [Addr.add_lit] at hc
  exact hc
section
variable {P:Program} {w:World}
theorem append_where (B:Nat) (t ty e:TypeId) (i:TypeInfo) (z:Value) (ht:P.underlying t=some (.slice e)) (hi:P.info? e=some i) (hz:i.zero=some z) (hsize:i.size=1) (hby:i.bytes=1)
 (v:Value) (l:List Nat) (hown:Own w B e v l) (ad:Addr) (c b:Nat) (hb:w.cell? ad=some (byteV b)) (hl:l.length+1<=1000000) {v':Value} {w':World}
 (hr:(Builtin.append_ #[t,t] ty #[v,.slice (some ad) 1 c]).run P w=.ok v' w'):v'.ownBlock=v.ownBlock∨v'.ownBlock=some w.heap.size:=by
 have hnews:∀ j u,[byteV b][j]?=some u->w.cell? (ad.add j)=some u:=by
  intro j u hj
  match j,hj with
  | 0,hj =>
   obtain rfl:byteV b=u:=by simpa using hj
   simpa [Addr.add] using hb
 rcases hown.2 with ⟨rfl,h0⟩ | ⟨g,cap,cur,rfl,hbg,hg,hnc,hcm,hcs,htake⟩
 ·have:=run_append_nil (P:=P) w t ty e i z ht hi hz ad 1 c [byteV b] (by rw [hsize];rfl) hnews (by decide) (by decide) (by rw [hby];decide)
  rw [this] at hr
  injection hr with h1 h2
  subst h1
  exact Or.inr rfl
 ·by_cases hroom:l.length+1<=cap
  ·have:=run_append_room (P:=P) w t ty e i ht hi g l.length cap cur hg ad 1 c [byteV b] (by rw [hsize];rfl) hnews (fun u hu=>by rw [List.mem_singleton.1 hu];rfl) hroom (by rw [hsize,hcs];simpa using hroom)
   rw [this] at hr
   injection hr with h1 h2
   subst h1
   exact Or.inl rfl
  ·have:=run_append_grow (P:=P) w t ty e i z ht hi hz ⟨g,0,none⟩ l.length cap (l.map byteV) (by rw [hsize];exact hown.1) (World.ownsRow.cells (g:=g) hown rfl) ad 1 c [byteV b] (by rw [hsize];rfl) hnews (by omega) (by omega) (growslice_fits (by omega) (by rw [hby];omega))
   rw [this] at hr
   injection hr with h1 h2
   subst h1
   exact Or.inr rfl
theorem wp_append_byte {o:Oper} {a:Act} {K:Act->World->Prop} {Q:Exit->Act->World->Prop} (s x:Operand) (t:TypeId)
 (ho:o.op=.call { callee:=.builtin .append,args:=#[s,x],argTypes:=#[t,t] })
 (B:Nat) (e:TypeId) (i:TypeInfo) (ht:P.underlying t=some (.slice e)) (hi:P.info? e=some i) (hz:i.zero=some (byteV 0)) (hsize:i.size=1) (hby:i.bytes=1)
 (v:Value) (l:List Nat) (hs:a.eval s=v) (hown:Own w B e v l) (ad:Addr) (c b:Nat) (hx:a.eval x=.slice (some ad) 1 c) (hb:w.cell? ad=some (byteV b)) (hl:l.length+1<=1000000) (hbase:B<=w.heap.size)
 (h:∀ v' w',Own w' B e v' (l ++ [b])->w.grownBy w' v.ownBlock->(v'.ownBlock=v.ownBlock∨v'.ownBlock=some w.heap.size)->K (a.put o.dst v') w'):o.wp P a w K Q:=by
 have hnews:∀ j u,[byteV b][j]?=some u->w.cell? (ad.add j)=some u:=by
  intro j u hj
  match j,hj with
  | 0,hj =>
   obtain rfl:byteV b=u:=by simpa using hj
   simpa [Addr.add] using hb
 obtain ⟨v',w',hr,h2,h3,_⟩:=run_append_own (P:=P) w B t o.type e i (byteV 0) 1 1 ht hi hz hsize hby rfl (by decide) v l.length (l.map byteV) hown ad 1 c [byteV b] rfl hnews (fun u hu=>by rw [List.mem_singleton.1 hu];rfl) (by unfold maxLen;omega) (by omega) hbase
 have h4:=append_where B t o.type e i (byteV 0) ht hi hz hsize hby v l hown ad c b hb hl hr
 have h5:Own w' B e v' (l ++ [b]):=by
  unfold Own
  rw [List.length_append,List.map_append]
  exact h2
 unfold Oper.wp execOp
 simp only [ho,resolve,invoke,builtin,Sem.run_bind,Sem.run_pure,Result.andThen_ok,List.map_toArray,List.map_cons,List.map_nil,hs,hx,hr]
 exact h v' w' h5 h3 h4
theorem wpList_append_byte {ops:Array Oper} {rest:List Oper} {o:Oper} {a:Act} {Q:Exit->Act->World->Prop} (hgd:o.guard=none) (s x:Operand) (t:TypeId)
 (ho:o.op=.call { callee:=.builtin .append,args:=#[s,x],argTypes:=#[t,t] })
 (B:Nat) (e:TypeId) (i:TypeInfo) (ht:P.underlying t=some (.slice e)) (hi:P.info? e=some i) (hz:i.zero=some (byteV 0)) (hsize:i.size=1) (hby:i.bytes=1)
 (v:Value) (l:List Nat) (hs:a.eval s=v) (hown:Own w B e v l) (ad:Addr) (c b:Nat) (hx:a.eval x=.slice (some ad) 1 c) (hb:w.cell? ad=some (byteV b)) (hl:l.length+1<=1000000) (hbase:B<=w.heap.size)
 (h:∀ v' w',Own w' B e v' (l ++ [b])->w.grownBy w' v.ownBlock->(v'.ownBlock=v.ownBlock∨v'.ownBlock=some w.heap.size)->wpList P ops Q rest (a.put o.dst v') w'):wpList P ops Q (o :: rest) a w :=
 wpList_plain hgd fun _ hK=>wp_append_byte s x t ho B e i ht hi hz hsize hby v l hs hown ad c b hx hb hl hbase fun v' w' h2 h3 h4=>hK _ _ (h v' w' h2 h3 h4)
end
end Go.Proofs.YtghpdhegfnhmkaaGreatDoor
namespace Go.Proofs.YtghpdhegfnhmkaaGreatDoor
open Go.RowKit
theorem u8info:(Tryz.prog.info? 5).map (fun i=>(i.zero,i.size,i.bytes))=some (some (byteV 0),1,1):=by kernel_rfl
def upToL (k:Nat):List Nat:=List.range k
set_option maxRecDepth 10000 in
set_option maxHeartbeats 1000000 in
theorem upTo_any (k:Nat) (w:World) (hk:k<=100) :
 Calls Tryz.prog 47 #[.int .i64 (k:Int)] w fun e w'=>(∃ v,e=.returned v/\Own w' w.heap.size 5 v (upToL k))/\Below w.heap.size w w':=by
 obtain ⟨i0,hi0,hz0,hz1,hz2⟩:=info_parts u8info
 go_enter Tryz.func47,Tryz.ntmps47
 go_wp2
 go_loopw [3,4] (fun v j wr=>∃ n:Nat,n<=k/\j=.int .i64 n/\Own wr w.heap.size 5 v (upToL n)/\Below w.heap.size w wr) (fun _ j _=>k - (intOf j).toNat)
 case atStart=>exact ⟨0,by omega,rfl,Own.nil _ _ _,Below.refl _ _⟩
 case round =>
  obtain ⟨n,hn,rfl,hown,hb⟩:=hrel
  have HO:Hid (Own wr w.heap.size 5 u3 (upToL n)):=hown
  have HB:Hid (Below w.heap.size w wr):=hb
  have hbz:w.heap.size<=wr.heap.size:=hb.size
  have hul:(upToL n).length=n:=by simp [upToL]
  clear hown hb
  by_cases hlt:n < k
  ·have HU:Hid (upToL (n+1)=upToL n ++ [n]):=by show _=_;simp [upToL,List.range_succ]
   go_wp2_with (first | (at_builtin;refine wpList_append_byte rfl (.tmp 10) (.tmp 13) 76 rfl w.heap.size 5 i0 Tryz.underlying76 hi0 hz0 hz1 hz2 u3 (upToL n) rfl (HO.out.kept (World.grownBy_alloc wr _ none) (by cases hv:u3.ownBlock <;> simp)) ⟨wr.heap.size,0,none⟩ 1 n rfl (by simp [byteV]) (by omega) (by simp;omega) ?_;intro v1 w1 hX hgX hwX))
   have hb1:Below w.heap.size w w1:=(HB.out.alloc hbz _).grown hgX (by simp;omega) (fun k' hk'=>(HO.out.block hk').1)
   go_roundw
   case rel=>exact ⟨n+1,by omega,by go_num,by rw [HU.out];exact hX,hb1⟩
   case measure=>simp [intOf];omega
  ·have hne:n=k:=by omega
   subst hne
   go_wp2
   go_ret
   exact ⟨⟨u3,rfl,HO.out⟩,HB.out⟩
end Go.Proofs.YtghpdhegfnhmkaaGreatDoor
