import Derived.Test.YtghpdhegfnhmkaaGreatDoorS27
import Derived.Test.YtghpdhegfnhmkaaGreatDoorS36
import Derived.Test.YtghpdhegfnhmkaaGreatDoorS28
import Derived.Test.YtghpdhegfnhmkaaGreatDoorS25
import Derived.Deep.Heap
namespace Go.Proofs.YtghpdhegfnhmkaaGreatDoor
open Go.RowKit
variable {w w1 w2 w3:World} {h:Nat} {S:Nat->Prop} {L:List Kep} {s:Bool} {m:Option Nat} {D:DataW Value} {row:ByteArray->Value} {blk:ByteArray->Nat}
def grownS (S:Nat->Prop) (w w':World):Nat->Prop:=fun k=>k < w'.heap.size/\(S k∨w.heap.size<=k)
structure SetAt (w2 w3:World) (h b':Nat) (s:Bool) (D0:DataW Value) (key:ByteArray) (v:Value):Prop where
 os:w3.os=w2.os
 tape:w3.tape=w2.tape
 output:w3.output=w2.output
 size:w2.heap.size<=w3.heap.size
 ptr:w3.cell? ⟨h,0,none⟩=some (.map (some b'))
 shut:w3.cell? ⟨h,1,none⟩=some (.bool s)
 free0:w3.frozen? ⟨h,0,none⟩=false
 free1:w3.frozen? ⟨h,1,none⟩=false
 own:∃ n,OwnM w3 b' n (D0.put (litK key) (.held v))
 ne:b'≠h
 block:∀ k,k < w2.heap.size->k≠b'->k≠h->w3.heap[k]?=w2.heap[k]?
theorem insV_put {L:List Kep} (hs:SortedK L) (key:ByteArray) (v:Ver):getL (putL L key v) key=insV (getL L key) (placeV (getL L key) (tagOf v)) v:=getL_putL hs key v
theorem HdAt.repl (hd:HdAt w h S L s m D row blk) (key:ByteArray) {L':List Kep} (hG:GoodL L') (hnk:getL L' key≠[]) (hot:∀ x,x≠key->getL L' x=getL L x) (hb:Below w.heap.size w w1) {v':Value} (hO:OwnR verE 47 w2 0 v' (getL L' key)) (hg:w1.grownBy w2 (row key).ownBlock) (hwh:(v'.ownBlock=(row key).ownBlock/\(row key).ownBlock≠none)∨∃ k,v'.ownBlock=some k/\w1.heap.size<=k)
 {b':Nat} {D0:DataW Value} (hst:SetAt w2 w3 h b' s D0 key v') (hb':(m=some b'∨(m=none/\w2.heap.size<=b'))) (hI:Maps.IsMap D0) (hhas:∀ x,x.size<=maxLen->Maps.has D0 (litK x)=decide (getL L x≠[])) (hat:∀ x,getL L x≠[]->∀ z,D0.atKey (litK x) z=.held (row x)) :
 HdOf w3 h (grownS S w w3) L' s/\Upd S (grownS S w w3) w w3:=by
 have hsz1:=hb.size
 have hsz2:=hg.size
 have hsz3:=hst.size
 have hS1:∀ k,S k->k < w.heap.size:=hd.inS
 obtain ⟨g',hg'⟩:∃ g',v'.ownBlock=some g':=by
  rcases hwh with ⟨e,hne⟩ | ⟨k,e,_⟩
  ·cases hr:(row key).ownBlock with
   | none=>exact absurd hr hne
   | some k=>exact ⟨k,by rw [e,hr]⟩
  ·exact ⟨k,e⟩
 have hgS:S g'/\(row key).ownBlock=some g'∨w1.heap.size<=g':=by
  rcases hwh with ⟨e,_⟩ | ⟨k,e,hk⟩
  ·have hr:(row key).ownBlock=some g':=by rw [<- e];exact hg'
   exact Or.inl ⟨(hd.rowS hr).1,hr⟩
  ·rw [hg'] at e
   injection e with e
   exact Or.inr (e ▸ hk)
 have hglt:g' < w2.heap.size:=(OwnR.block hO hg').2
 have hgh:g'≠h:=by
  rcases hgS with ⟨_,h2⟩ | h2
  ·obtain ⟨_,hne,e⟩:=hd.rowS h2
   rw [e]
   exact (hd.inB key hne).2.2.1
  ·have:=hS1 h hd.self
   omega
 have hgb:g'≠b':=by
  rcases hb' with e | ⟨_,e⟩
  ·rcases hgS with ⟨_,h2⟩ | h2
   ·obtain ⟨_,hne,e2⟩:=hd.rowS h2
    rw [e2]
    exact (hd.inB key hne).2.2.2 b' e
   ·have:=hS1 b' (hd.mapS b' e).1
    omega
  ·omega
 have hoth:∀ x,x≠key->∀ k,(row x).ownBlock=some k->w3.heap[k]?=w.heap[k]?:=fun x hx k hk=>by
  obtain ⟨h1,h2,h3⟩:=hd.rowS hk
  obtain ⟨_,_,h6,h7⟩:=hd.inB x h2
  have hkw:=hS1 k h1
  have e1:k≠h:=by rw [h3];exact h6
  have e2:k≠b':=by
   rcases hb' with e | ⟨_,e⟩
   ·rw [h3];exact h7 b' e
   ·omega
  have e3:some k≠(row key).ownBlock:=fun e=>by
   obtain ⟨_,h8,h9⟩:=hd.rowS e.symm
   exact hd.apart x key h2 h8 hx (by rw [<- h3,<- h9])
  rw [hst.block k (by omega) e2 e1,hg.block k (by omega) e3]
  exact hb.block k hkw
 have hSb:grownS S w w3 b':=by
  obtain ⟨n,hn⟩:=hst.own
  refine ⟨World.ownsMap.lt hn,?_⟩
  rcases hb' with e | ⟨_,e⟩
  ·exact Or.inl (hd.mapS b' e).1
  ·exact Or.inr (by omega)
 refine ⟨⟨some b',D0.put (litK key) (.held v'),fun x=>if x=key then v' else row x,fun x=>if x=key then g' else blk x,?_⟩,⟨hst.os.trans (hg.os.trans hb.os),hst.tape.trans (hg.tape.trans hb.tape),hst.output.trans (hg.output.trans hb.output),by omega,fun k hk hn=>?_,fun k hk=>hk.2⟩⟩
 ·refine ⟨hG.sorted,hG.few,hG.fits,fun k hk=>hk.1,⟨by have:=hS1 h hd.self;omega,Or.inl hd.self⟩,hst.ptr,hst.shut,hst.free0,hst.free1,(fun e=>by cases e),fun b hb0=>?_,fun x=>?_,fun x hx=>?_,fun x hx=>?_,fun x y hx hy hxy=>?_⟩
  ·injection hb0 with hb0
   subst hb0
   refine ⟨hSb,hst.ne,hst.own,fun x hx=>?_,fun x hx z=>?_⟩
   ·by_cases e:x=key
    ·subst e
     rw [Maps.has_put_same hI (litK_key x)]
     simpa using hnk
    ·rw [Maps.has_put_other (fun e2=>e (litK_inj e2)),hhas x hx,hot x e]
   ·by_cases e:x=key
    ·subst e
     rw [Maps.atKey_put_same hI (litK_key x),if_pos rfl]
    ·rw [Maps.atKey_put_other (fun e2=>e (litK_inj e2)),if_neg e]
     exact hat x (by rw [<- hot x e];exact hx) z
  ·show OwnR verE _ w3 0 (if x=key then v' else row x) _
   by_cases e:x=key
   ·subst e
    rw [if_pos rfl]
    refine hO.same fun k hk=>?_
    rw [hg'] at hk
    injection hk with hk
    subst hk
    exact hst.block g' hglt hgb hgh
   ·rw [if_neg e,hot x e]
    exact (hd.own x).same (hoth x e)
  ·by_cases e:x=key
   ·subst e
    exact absurd hx hnk
   ·show (if x=key then v' else row x)=_
    rw [if_neg e]
    exact hd.nilrow x (by rw [<- hot x e];exact hx)
  ·show (if x=key then v' else row x).ownBlock=some (if x=key then g' else blk x)/\_
   by_cases e:x=key
   ·subst e
    rw [if_pos rfl,if_pos rfl]
    refine ⟨hg',⟨by omega,?_⟩,hgh,fun b hb0=>by injection hb0 with hb0;rw [<- hb0];exact hgb⟩
    rcases hgS with ⟨h1,_⟩ | h1
    ·exact Or.inl h1
    ·exact Or.inr (by omega)
   ·rw [if_neg e,if_neg e]
    rw [hot x e] at hx
    obtain ⟨h1,h2,h3,h4⟩:=hd.inB x hx
    have:=hS1 _ h2
    refine ⟨h1,⟨by omega,Or.inl h2⟩,h3,fun b hb0=>?_⟩
    injection hb0 with hb0
    subst hb0
    rcases hb' with e2 | ⟨_,e2⟩
    ·exact h4 _ e2
    ·omega
  ·show (if x=key then g' else blk x)≠(if y=key then g' else blk y)
   have aux:∀ z,z≠key->getL L z≠[]->blk z≠g':=fun z hz hne e=>by
    obtain ⟨h1,h2,_,_⟩:=hd.inB z hne
    rcases hgS with ⟨_,h4⟩ | h4
    ·obtain ⟨_,h5,h6⟩:=hd.rowS h4
     exact hd.apart z key hne h5 hz (by rw [e,<- h6])
    ·have:=hS1 _ h2
     omega
   by_cases ex:x=key
   ·by_cases ey:y=key
    ·exact absurd (ex.trans ey.symm) hxy
    ·rw [if_pos ex,if_neg ey]
     exact fun e=>aux y ey (by rw [<- hot y ey];exact hy) e.symm
   ·by_cases ey:y=key
    ·rw [if_neg ex,if_pos ey]
     exact aux x ex (by rw [<- hot x ex];exact hx)
    ·rw [if_neg ex,if_neg ey]
     exact hd.apart x y (by rw [<- hot x ex];exact hx) (by rw [<- hot y ey];exact hy) hxy
 ·have e1:k≠h:=fun e=>hn (e ▸ hd.self)
  have e2:k≠b':=fun e=>by
   rcases hb' with e3 | ⟨_,e3⟩
   ·exact hn (e ▸ (hd.mapS b' e3).1)
   ·omega
  have e3:some k≠(row key).ownBlock:=fun e=>hn (hd.rowS e.symm).1
  rw [hst.block k (by omega) e2 e1,hg.block k (by omega) e3]
  exact hb.block k hk
theorem HdAt.put (hd:HdAt w h S L s m D row blk) (key:ByteArray) (v:Ver) (hG:GoodL (putL L key v)) (hb:Below w.heap.size w w1) {v':Value} (hO:OwnR verE 47 w2 0 v' (insV (getL L key) (placeV (getL L key) (tagOf v)) v)) (hg:w1.grownBy w2 (row key).ownBlock) (hwh:(v'.ownBlock=(row key).ownBlock/\(row key).ownBlock≠none)∨∃ k,v'.ownBlock=some k/\w1.heap.size<=k)
 {b':Nat} {D0:DataW Value} (hst:SetAt w2 w3 h b' s D0 key v') (hb':(m=some b'∨(m=none/\w2.heap.size<=b'))) (hI:Maps.IsMap D0) (hhas:∀ x,x.size<=maxLen->Maps.has D0 (litK x)=decide (getL L x≠[])) (hat:∀ x,getL L x≠[]->∀ z,D0.atKey (litK x) z=.held (row x)) :
 HdOf w3 h (grownS S w w3) (putL L key v) s/\Upd S (grownS S w w3) w w3 :=
 hd.repl key hG (by rw [insV_put hd.sorted];unfold insV;simp) (fun x hx=>getL_putL_other L v hx) hb (by rw [insV_put hd.sorted];exact hO) hg hwh hst hb' hI hhas hat
theorem setAt_some {b:Nat} {key:ByteArray} {v:Value} (hne:b≠h) (q0:w2.cell? ⟨h,0,none⟩=some (.map (some b))) (q1:w2.cell? ⟨h,1,none⟩=some (.bool s)) (f0:w2.frozen? ⟨h,0,none⟩=false) (f1:w2.frozen? ⟨h,1,none⟩=false) (hs:SetOk w2 w3 b D key v):SetAt w2 w3 h b s D key v:=by
 have hlt:h < w2.heap.size:=lt_of_cellH q0
 have hh:=hs.grown.block h hlt (fun e=>hne (Option.some.inj e).symm)
 exact ⟨hs.grown.os,hs.grown.tape,hs.grown.output,hs.grown.size,(cell_same hh 0).1.trans q0,(cell_same hh 1).1.trans q1,(cell_same hh 0).2.trans f0,(cell_same hh 1).2.trans f1,hs.own,hne,fun k hk h1 _=>hs.grown.block k hk (fun e=>h1 (Option.some.inj e))⟩
theorem setAt_none {key:ByteArray} {v:Value} (q0:w2.cell? ⟨h,0,none⟩=some (.map none)) (q1:w2.cell? ⟨h,1,none⟩=some (.bool s)) (f0:w2.frozen? ⟨h,0,none⟩=false) (f1:w2.frozen? ⟨h,1,none⟩=false) (hs:SetOk ((w2.setCell ⟨h,0,none⟩ (.map (some w2.heap.size))).alloc (.map #[] 0)) w3 w2.heap.size (.map []) key v):SetAt w2 w3 h w2.heap.size s (.map []) key v:=by
 have hlt:h < w2.heap.size:=lt_of_cellH q0
 obtain ⟨W0,hW0⟩:∃ W0,W0=(w2.setCell ⟨h,0,none⟩ (.map (some w2.heap.size))).alloc (.map #[] 0):=⟨_,rfl⟩
 rw [<- hW0] at hs
 have hsz:(w2.setCell ⟨h,0,none⟩ (.map (some w2.heap.size))).heap.size=w2.heap.size:=by simp
 have hsz0:W0.heap.size=w2.heap.size+1:=by rw [hW0];simp
 have hold:∀ k,k < w2.heap.size->W0.heap[k]?=(w2.setCell ⟨h,0,none⟩ (.map (some w2.heap.size))).heap[k]?:=fun k hk=>by rw [hW0];exact heap_alloc_old _ _ (by rw [hsz];exact hk)
 have hh:w3.heap[h]?=(w2.setCell ⟨h,0,none⟩ (.map (some w2.heap.size))).heap[h]?:=by
  rw [hs.grown.block h (by omega) (fun e=>by injection e with e;omega),hold h hlt]
 have hsz3:=hs.grown.size
 refine ⟨by rw [hs.grown.os,hW0];rfl,by rw [hs.grown.tape,hW0];rfl,by rw [hs.grown.output,hW0];rfl,by omega,?_,?_,?_,?_,hs.own,by omega,fun k hk h1 h2=>?_⟩
 ·rw [(cell_same hh 0).1]
  exact World.cell?_setCell_same _ _ _ q0
 ·rw [(cell_same hh 1).1,World.cell?_setCell_other _ _ _ _ (fun e=>by have h2:(0:Nat)=1:=congrArg Addr.off e;omega)]
  exact q1
 ·rw [(cell_same hh 0).2,World.frozen?_setCell]
  exact f0
 ·rw [(cell_same hh 1).2,World.frozen?_setCell]
  exact f1
 ·rw [hs.grown.block k (by omega) (fun e=>h1 (Option.some.inj e)),hold k hk]
  exact Deep.blk_setCell_other _ _ _ _ h2
end Go.Proofs.YtghpdhegfnhmkaaGreatDoor
