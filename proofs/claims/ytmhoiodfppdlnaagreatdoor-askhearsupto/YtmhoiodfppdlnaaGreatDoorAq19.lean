import Derived.Test.YtmhoiodfppdlnaaGreatDoorAq15
import Derived.Test.YtmhoiodfppdlnaaGreatDoorAq3
import Derived.Test.YtmhoiodfppdlnaaGreatDoorAq18
import Derived.Test.YtmhoiodfppdlnaaGreatDoorAq4
import Derived.Test.YtmhoiodfppdlnaaGreatDoorAq17
import Derived.Test.YtmhoiodfppdlnaaGreatDoorAq0
import Derived.Deep.RegionHeld3
import Derived.StillTailTactics
import Derived.Deep.CutRange
import Derived.BigQuiet
import Derived.Test.YtmhoiodfppdlnaaGreatDoorAq10
set_option maxRecDepth 10000
set_option maxHeartbeats 16000000
namespace Go.Proofs.YtmhoiodfppdlnaaGreatDoor
open Go.RowKit
def MAsk.obj (a:MAsk):Int×Int×ByteArray×Bool:=if (a.st=.keeping∨a.st=.done)/\a.found=true then (a.tag.1,a.tag.2,a.text,true) else (0,0,⟨#[]⟩,false)
def MAsk.first (a:MAsk):Prop:=a.st=.looking∨a.st=.sealing
structure Plc where
 c:Cfg
 num:Int
 v:Value
def erCells (a:MAsk)(P:Plc)(aw:ByteArray)(en:Nat)(hv:Value)(F T:Plc)(asks:ByteArray)(cv:Value):Array Value:=#[.string a.name,.string a.key,.int .i64 a.op,.int .i64 P.c.n,.int .i64 P.c.k,P.v,.int .i64 P.num,.string aw,.int .i64 (en:Int),hv,.int .i64 F.c.n,.int .i64 F.c.k,F.v,.int .i64 F.num,.int .i64 T.c.n,.int .i64 T.c.k,T.v,.int .i64 T.num,.string asks,cv,.string a.st.word,.int .i64 a.obj.1,.int .i64 a.obj.2.1,.string a.obj.2.2.1,.bool a.obj.2.2.2]
def chosen (put:Bool)(who:Int)(text:ByteArray)(c:Cfg)(LL:List (List Ver)):Value:=if put then .agg #[.int .i64 (maxN LL+1),.int .i64 who,.string text,.bool true] else .agg #[.int .i64 (bestF c.n.toNat c.k.toNat LL.flatten LL.flatten).1.1,.int .i64 (bestF c.n.toNat c.k.toNat LL.flatten LL.flatten).1.2,.string (bestF c.n.toNat c.k.toNat LL.flatten LL.flatten).2.1,.bool (bestF c.n.toNat c.k.toNat LL.flatten LL.flatten).2.2]
structure TldOk (W:World) (ad:Nat->Addr) (z:Addr) (c:Cfg) (mp:Option Addr) (mc:Nat) (p:Option Addr) (LL:List (List Ver)):Prop where
 cfg:CfgAt W c mp mc
 fine:¬ 0 < (cfgF c).1
 vss:Vss W p LL
 le:¬ c.n < (LL.length:Int)
 m1:LL.length<=1000
 m2:LL.flatten.length<=1000
 m3:∀ l ∈ LL,l.length<=1000
 int:∀ v ∈ LL.flatten,VerI64 v
 errs:ErrsQ W ad
 zero:W.cell? ⟨11,0,none⟩=some (.iface 252 (.pointer (some z)))
def ChDo (w:World)(S0:Nat->Prop)(put:Bool)(who:Int)(text:ByteArray)(cv:Value):Prop :=
 ∃ fn caps,cv=.func (.func fn) #[] caps/\(∀ args W,Sem.run Tryz.prog (callFunc fn args) W=.ok (.enter fn args) W)/\∀ W,(∀ k,S0 k->W.heap[k]?=w.heap[k]?)->∀ ad z c mp mc p LL cl,TldOk W ad z c mp mc p LL->Calls Tryz.prog fn (#[.agg #[.int .i64 c.n,.int .i64 c.k,.slice mp c.L.length mc],.slice p LL.length cl] ++ caps) W fun e w'=>e=.returned (chosen put who text c LL)/\Below W.heap.size W w'
structure HeardAt (w:World) (b:Nat) (F:List ByteArray) (D:DataW Value) (row:ByteArray->Value):Prop where
 own:∃ n,OwnM w b n D
 has:∀ x,x.size<=maxLen->Maps.has D (litK x)=inL F x
 at_:∀ x,x ∈ F->∀ z,D.atKey (litK x) z=.held (row x)
 size:Maps.size D=F.length
structure PlcAt (w:World) (S0:Nat->Prop) (P:Plc):Prop where
 fine:¬ 0 < (cfgF P.c).1
 mem:∃ p c,P.v=.slice p P.c.L.length c/\Strs w p P.c.L/\P.c.L.length<=c/\(p=none->P.c.L=[]/\c=0)/\∀ b o,p=some ⟨b,o,none⟩->S0 b
structure Stat (w:World) (S0:Nat->Prop) (a:MAsk) (F T:Plc) (cv:Value) (row:ByteArray->Value):Prop where
 fr:PlcAt w S0 F
 to_:PlcAt w S0 T
 ch:a.first->ChDo w S0 a.put a.who a.text cv
 rows:a.first->∀ x ∈ a.from_,∃ q c,row x=.slice q (rowL a x).length c/\Rec verE w q (rowL a x)/\(rowL a x).length<=c/\(q=none->rowL a x=[]/\c=0)/\∀ b o,q=some ⟨b,o,none⟩->S0 b
 lt:∀ k,S0 k->k < w.heap.size
structure EFine (a:MAsk):Prop where
 cfg:¬ 0 < (cfgF a.c).1
 key:a.key.size<=100
 name:a.name.size<=100
 text:a.text.size<=1000
 still:a.moves=false->a.st≠.sealing
 moves:a.moves=true->a.st≠.looking
 nodup:a.from_.Nodup
 sub:∀ x ∈ a.from_,x ∈ a.c.L
 both:a.from_.length=a.L.length
 keep:a.st=.keeping->a.found=true
 vers:∀ l ∈ a.L,∀ v ∈ l,VerI64 v
structure PlOk (a:MAsk) (P F T:Plc) (asks:ByteArray):Prop where
 pl1:a.first->P=F/\F.c=a.c/\F.num=a.config/\T.c=a.keeps.c/\T.num=a.keeps.config
 pl2:a.st=.keeping->P=T/\T.c=a.c/\T.num=a.config
 beg:a.moves=false->F.c=a.c/\F.num=a.config
 kind:asks=if a.moves then wSeal else wLook
structure PEr (X:TypeId) (w:World) (B:Nat) (h:Nat) (S S0:Nat->Prop) (a:MAsk) (P F T:Plc) (asks:ByteArray) (cv:Value) (aw:ByteArray) (m:Option Nat) (D:DataW Value) (row:ByteArray->Value):Prop where
 blk:w.heap[h]?=some (.cells (erCells a P aw (enoughN P.c) (.map m) F T asks cv) X (0,0))
 self:S h
 inB:∀ k,S k->B<=k/\k < w.heap.size
 stat:Stat w S0 a F T cv row
 s0:∀ k,S0 k->S k/\k≠h/\m≠some k
 fine:EFine a
 plc:PlOk a P F T asks
 open_:a.first∨a.st=.keeping->∃ b,m=some b/\S b/\b≠h/\HeardAt w b a.from_ D row
 shut:a.st=.done∨a.st=.refused->m=none
 aw1:a.first∨a.st=.keeping->aw=a.st.waits
def PErOf (X:TypeId)(w:World)(B:Nat)(h:Nat)(S:Nat->Prop)(a:MAsk):Prop:=∃ S0 P F T asks cv aw m D row,PEr X w B h S S0 a P F T asks cv aw m D row
theorem lt_cellE {w:World}{b o:Nat}{v:Value}(h:w.cell? ⟨b,o,none⟩=some v):b < w.heap.size:=by
 rcases Nat.lt_or_ge b w.heap.size with h' | h'
 ·exact h'
 ·simp [World.cell?,Array.getElem?_eq_none h'] at h
theorem Strs.same {w w':World}{p:Option Addr}{L:List ByteArray}(h:Strs w p L)(hs:w.heap.size<=w'.heap.size)(hb:∀ b o,p=some ⟨b,o,none⟩->w'.heap[b]?=w.heap[b]?):Strs w' p L:=by
 rcases h with h | ⟨b,o,hp,hlt,hc⟩
 ·exact Or.inl h
 ·exact Or.inr ⟨b,o,hp,Nat.lt_of_lt_of_le hlt hs,fun i hi=>(World.cell?_of_block (a:=⟨b,o+i,none⟩) (hb b o hp)).trans (hc i hi)⟩
theorem Rec.sameAt {α:Type}{E:Enc α}{w w':World}{p:Option Addr}{l:List α}(h:Rec E w p l)(hs:w.heap.size<=w'.heap.size)(hb:∀ b o,p=some ⟨b,o,none⟩->w'.heap[b]?=w.heap[b]?):Rec E w' p l:=by
 rcases h with h | ⟨b,o,hp,hlt,hc⟩
 ·exact Or.inl h
 ·exact Or.inr ⟨b,o,hp,Nat.lt_of_lt_of_le hlt hs,fun j x hx jj u hu=>(World.cell?_of_block (a:=⟨b,o+j*E.k+jj,none⟩) (hb b o hp)).trans (hc j x hx jj u hu)⟩
theorem ChDo.keep {w w':World}{S0:Nat->Prop}{put:Bool}{who:Int}{text:ByteArray}{cv:Value}(h:ChDo w S0 put who text cv)(hb:∀ k,S0 k->w'.heap[k]?=w.heap[k]?):ChDo w' S0 put who text cv:=by
 obtain⟨fn,caps,h1,h2,h3⟩:=h
 exact⟨fn,caps,h1,h2,fun W hW=>h3 W (fun k hk=>(hW k hk).trans (hb k hk))⟩
theorem ChDo.more {w:World}{S0 S1:Nat->Prop}{put:Bool}{who:Int}{text:ByteArray}{cv:Value}(h:ChDo w S0 put who text cv)(hs:∀ k,S0 k->S1 k):ChDo w S1 put who text cv:=by
 obtain⟨fn,caps,h1,h2,h3⟩:=h
 exact⟨fn,caps,h1,h2,fun W hW=>h3 W (fun k hk=>hW k (hs k hk))⟩
theorem PlcAt.keep {w w':World}{S0:Nat->Prop}{P:Plc}(h:PlcAt w S0 P)(hs:w.heap.size<=w'.heap.size)(hb:∀ k,S0 k->w'.heap[k]?=w.heap[k]?):PlcAt w' S0 P:=by
 obtain⟨p,c,h1,h2,h3,h4,h5⟩:=h.mem
 exact⟨h.fine,p,c,h1,h2.same hs (fun b o hp=>hb b (h5 b o hp)),h3,h4,h5⟩
theorem PlcAt.more {w:World}{S0 S1:Nat->Prop}{P:Plc}(h:PlcAt w S0 P)(hs:∀ k,S0 k->S1 k):PlcAt w S1 P:=by
 obtain⟨p,c,h1,h2,h3,h4,h5⟩:=h.mem
 exact⟨h.fine,p,c,h1,h2,h3,h4,fun b o hp=>hs b (h5 b o hp)⟩
theorem Stat.keep {w w':World}{S0:Nat->Prop}{a:MAsk}{F T:Plc}{cv:Value}{row:ByteArray->Value}(h:Stat w S0 a F T cv row)(hs:w.heap.size<=w'.heap.size)(hb:∀ k,S0 k->w'.heap[k]?=w.heap[k]?):Stat w' S0 a F T cv row:=by
 refine⟨h.fr.keep hs hb,h.to_.keep hs hb,fun hl=>(h.ch hl).keep hb,fun hl x hx=>?_,fun k hk=>Nat.lt_of_lt_of_le (h.lt k hk) hs⟩
 obtain⟨q,c,h1,h2,h3,h4,h5⟩:=h.rows hl x hx
 exact⟨q,c,h1,h2.sameAt hs (fun b o hp=>hb b (h5 b o hp)),h3,h4,h5⟩
theorem HeardAt.same {w w':World}{b:Nat}{F:List ByteArray}{D:DataW Value}{row:ByteArray->Value}(h:HeardAt w b F D row)(hb:w'.heap[b]?=w.heap[b]?):HeardAt w' b F D row:=by
 obtain⟨n,hn⟩:=h.own
 exact⟨⟨n,hn.same hb⟩,h.has,h.at_,h.size⟩
theorem HeardAt.made {w:World}{b:Nat}(row:ByteArray->Value)(hm:w.heap[b]?=some (.map #[] 0)):HeardAt w b [] (.map []) row:=by
 refine⟨⟨0,#[],0,hm,?_⟩,fun _ _=>rfl,(fun x hx=>by cases hx),rfl⟩
 obtain⟨es,clock,g1,g2,g3,g4⟩:=World.ownsMap_made w Tryz.prog 9 anyR
 have e:(w.alloc (.map #[] 0)).heap[w.heap.size]?=some (.map #[] 0):=by
  show(w.heap.push _)[w.heap.size]?=_
  simp
 rw [e] at g1
 injection g1 with g1
 injection g1 with g5 g6
 subst g5 g6
 exact⟨g2,g3,g4⟩
variable {X:TypeId} {w w':World} {B h:Nat} {S S0:Nat->Prop} {a:MAsk} {P F T:Plc} {asks:ByteArray} {cv:Value} {aw:ByteArray} {m:Option Nat} {D:DataW Value} {row:ByteArray->Value}
theorem PEr.keep (hp:PEr X w B h S S0 a P F T asks cv aw m D row)(hs:w.heap.size<=w'.heap.size)(hb:∀ k,S k->w'.heap[k]?=w.heap[k]?):PEr X w' B h S S0 a P F T asks cv aw m D row where
 blk:=(hb h hp.self).trans hp.blk
 self:=hp.self
 inB:=fun k hk=>⟨(hp.inB k hk).1,Nat.lt_of_lt_of_le (hp.inB k hk).2 hs⟩
 stat:=hp.stat.keep hs (fun k hk=>hb k (hp.s0 k hk).1)
 s0:=hp.s0
 fine:=hp.fine
 plc:=hp.plc
 open_:=fun ho=>by
  obtain⟨b,h1,h2,h3,h4⟩:=hp.open_ ho
  exact⟨b,h1,h2,h3,h4.same (hb b h2)⟩
 shut:=hp.shut
 aw1:=hp.aw1
theorem PEr.below (hp:PEr X w B h S S0 a P F T asks cv aw m D row)(hb:Below w.heap.size w w'):PEr X w' B h S S0 a P F T asks cv aw m D row:=hp.keep hb.size (fun k hk=>hb.block k (hp.inB k hk).2)
theorem PEr.cell (hp:PEr X w B h S S0 a P F T asks cv aw m D row)(i:Nat):w.cell? ⟨h,i,none⟩=(erCells a P aw (enoughN P.c) (.map m) F T asks cv)[i]?:=by simp [World.cell?,hp.blk]
theorem PEr.lt (hp:PEr X w B h S S0 a P F T asks cv aw m D row):h < w.heap.size:=(hp.inB h hp.self).2
theorem PEr.here (hp:PEr X w B h S S0 a P F T asks cv aw m D row)(ho:a.first∨a.st=.keeping):PlcAt w S0 P/\P.c=a.c/\P.num=a.config:=by
 rcases ho with ho | ho
 ·obtain⟨h1,h2,h3,_⟩:=hp.plc.pl1 ho
  subst h1
  exact⟨hp.stat.fr,h2,h3⟩
 ·obtain⟨h1,h2,h3⟩:=hp.plc.pl2 ho
  subst h1
  exact⟨hp.stat.to_,h2,h3⟩
theorem HeardAt.look {b:Nat}{F:List ByteArray}(hd:HeardAt w b F D row){x:ByteArray}(hx:x.size<=maxLen):(Instr.lookup 89 (.map (some b)) (.string x) false).run Tryz.prog w=.ok (if inL F x then row x else .slice none 0 0) w:=by
 have hz:(zeroValue 55).run Tryz.prog w=.ok (.slice none 0 0) w:=by kernel_rfl
 obtain⟨n,h3⟩:=hd.own
 obtain⟨v,ps,hrun,hR⟩:=World.ownsMap.lookup h3 keyedK Tryz.underlying89 hz (zd:=.held (.slice none 0 0)) (zp:=[]) rfl (keyOfK hx)
 rw [hrun]
 have e:DataW.held v=D.atKey (litK x) (.held (.slice none 0 0)):=congrArg Prod.fst (Option.some.inj hR)
 by_cases hg:inL F x=true
 ·rw [if_pos hg]
  rw [hd.at_ x (inL_iff.1 hg)] at e
  injection e with e
  rw [e]
 ·rw [if_neg hg]
  rw [Maps.atKey_of_not_has (by rw [hd.has x hx];simpa using hg)] at e
  injection e with e
  rw [e]
theorem HeardAt.look2 {b:Nat}{F:List ByteArray}(hd:HeardAt w b F D row){x:ByteArray}(hx:x.size<=maxLen):(Instr.lookup 89 (.map (some b)) (.string x) true).run Tryz.prog w=.ok (.tuple #[if inL F x then row x else .slice none 0 0,.bool (inL F x)]) w:=by
 have hz:(zeroValue 55).run Tryz.prog w=.ok (.slice none 0 0) w:=by kernel_rfl
 obtain⟨n,h3⟩:=hd.own
 obtain⟨v,ps,hrun,hR⟩:=World.ownsMap.look_ok h3 keyedK Tryz.underlying89 hz (zd:=.held (.slice none 0 0)) (zp:=[]) rfl (keyOfK hx)
 rw [hrun,hd.has x hx]
 have e:DataW.held v=D.atKey (litK x) (.held (.slice none 0 0)):=congrArg Prod.fst (Option.some.inj hR)
 by_cases hg:inL F x=true
 ·rw [if_pos hg]
  rw [hd.at_ x (inL_iff.1 hg)] at e
  injection e with e
  rw [e]
 ·rw [if_neg hg]
  rw [Maps.atKey_of_not_has (by rw [hd.has x hx];simpa using hg)] at e
  injection e with e
  rw [e]
theorem HeardAt.len {b:Nat}{F:List ByteArray}(hd:HeardAt w b F D row)(ty:TypeId):(Builtin.len_ #[89] ty #[.map (some b)]).run Tryz.prog w=.ok (.int .i64 (F.length:Nat)) w:=by
 obtain⟨n,h3⟩:=hd.own
 rw [World.ownsMap.len h3 Tryz.underlying89 ty,hd.size]
theorem HeardAt.put {b:Nat}{F:List ByteArray}(hd:HeardAt w b F D row){x:ByteArray}(hx:x.size<=maxLen)(hn:x ∉ F)(v:Value)(hw:∃ n,OwnM w' b n (D.put (litK x) (.held v))):HeardAt w' b (F ++ [x]) (D.put (litK x) (.held v)) (fun y=>if y=x then v else row y):=by
 obtain⟨n,h3⟩:=hd.own
 have ht:=World.ownsMap.tidy h3 keyedK
 have hm:=World.ownsMap.isMap h3
 refine⟨hw,fun y hy=>?_,fun y hy z=>?_,?_⟩
 ·by_cases e:y=x
  ·subst e
   rw [Maps.has_put_same hm (litK_key y)]
   exact(inL_iff.2 (by simp)).symm
  ·rw [Maps.has_put_other (fun he=>e (litK_inj he)),hd.has y hy]
   by_cases hyF:y ∈ F
   ·rw [inL_iff.2 hyF,inL_iff.2 (by simp [hyF])]
   ·have e1:inL F y=false:=Bool.eq_false_iff.2 fun h=>hyF (inL_iff.1 h)
    have e2:inL (F ++ [x]) y=false:=Bool.eq_false_iff.2 fun h=>by
     rcases List.mem_append.1 (inL_iff.1 h) with h | h
     ·exact hyF h
     ·exact e (List.mem_singleton.1 h)
    rw [e1,e2]
 ·by_cases e:y=x
  ·subst e
   rw [Maps.atKey_put_same hm (litK_key y)]
   simp
  ·rw [Maps.atKey_put_other (fun he => e (litK_inj he)), hd.at_ y (by
    rcases List.mem_append.1 hy with h | h
    ·exact h
    ·exact absurd (List.mem_singleton.1 h) e)]
   simp [e]
 ·have e1:Maps.has D (litK x)=false:=by rw [hd.has x hx];exact Bool.eq_false_iff.2 fun h=>hn (inL_iff.1 h)
  rw [Maps.size_put ht,e1,hd.size]
  simp
end Go.Proofs.YtmhoiodfppdlnaaGreatDoor
namespace Go.Proofs.YtmhoiodfppdlnaaGreatDoor
open Go.RowKit
theorem minfoW:(Tryz.prog.info? 57).map (fun i=>(i.zero,i.size,i.bytes))=some (some (.agg #[.string ⟨#[]⟩,.string ⟨#[]⟩,.string ⟨#[]⟩,.string ⟨#[]⟩,.int .i64 0,.int .i64 0,.bool false,.slice none 0 0]),mE.k,112):=msginfo _ (by kernel_rfl)
def Gives (w:World)(fn:FuncId)(caps:Array Value)(n:Nat)(mf:Nat->Msg):Prop :=
 ∀ i,i < n->∀ W,Below w.heap.size w W->Calls Tryz.prog fn (#[.int .i64 (i:Int)] ++ caps) W fun e w'=>(∃ lv:Lv,e=.returned (.slice lv.1 lv.2.1 lv.2.2)/\HasL w' (mf i,lv)/\∀ b o,lv.1=some ⟨b,o,none⟩->W.heap.size<=b/\b < w'.heap.size)/\Below W.heap.size W w'
theorem psend_range (mf:Nat->Msg)(i:Nat):(List.range (i+1)).map mf=(List.range i).map mf ++ [mf i]:=by rw [List.range_succ,List.map_append];rfl
theorem psend_any (h n:Nat)(nm ky kind:ByteArray)(op cn ck cf:Int)(L:List ByteArray)(p:Option Addr)(cap:Nat)(fn:FuncId)(caps:Array Value)(mf:Nat->Msg)(w:World)
 (q0:w.cell? ⟨h,0,none⟩=some (.string nm)) (q1:w.cell? ⟨h,1,none⟩=some (.string ky)) (q2:w.cell? ⟨h,2,none⟩=some (.int .i64 op))
 (hL:L.length=n) (hst:Strs w p L) (hn:n<=1000) (hnm:nm.size<=1000000) (hky:ky.size<=1000000) (hls:∀ x ∈ L,x.size<=1000000)
 (hmf:∀ i,i < n->(mf i).from_=nm/\(mf i).to_=txt L i/\(mf i).kind=kind/\(mf i).key=ky/\(mf i).op=op/\(mf i).config=cf/\(mf i).shut=false)
 (hent:∀ args W,Sem.run Tryz.prog (callFunc fn args) W=.ok (.enter fn args) W) (hg:Gives w fn caps n mf) :
 Calls Tryz.prog 63 #[.pointer (some ⟨h,0,none⟩),.agg #[.int .i64 cn,.int .i64 ck,.slice p n cap,.int .i64 cf],.string kind,.func (.func fn) #[] caps] w fun e w'=>(∃ p c,e=.returned (.slice p n c)/\MsgsN w.heap.size w' p ((List.range n).map mf))/\Below w.heap.size w w':=by
 have hlt':h < w.heap.size:=lt_cellE q0
 obtain⟨w0,hw0⟩:∃ w0,w0=w.alloc (.cells #[.int .i64 cn,.int .i64 ck,.slice p n cap,.int .i64 cf] 88):=⟨_,rfl⟩
 have hb0:Below w.heap.size w w0:=zBe hw0
 have hlt0:w.heap.size < w0.heap.size:=by rw [hw0];simp
 have q3:w0.cell? ⟨w.heap.size,3,none⟩=some (.int .i64 cf):=zAc hw0 rfl
 have q6:w0.cell? ⟨w.heap.size,2,none⟩=some (.slice p n cap):=zAc hw0 rfl
 replace q0:=(hb0.cell (p:=⟨h,0,none⟩) hlt').trans q0
 replace q1:=(hb0.cell (p:=⟨h,1,none⟩) hlt').trans q1
 replace q2:=(hb0.cell (p:=⟨h,2,none⟩) hlt').trans q2
 replace hst:=hst.below hb0
 have hg0:Gives w0 fn caps n mf:=fun i hi W hW=>hg i hi W (hb0.trans (hW.mono hb0.size))
 have HW0:Hid (w0=w.alloc (.cells #[.int .i64 cn,.int .i64 ck,.slice p n cap,.int .i64 cf] 88)):=hw0
 have HB0:Hid (Below w.heap.size w w0):=hb0
 obtain⟨pb,hpb⟩:∃ pb,pb=w.heap.size:=⟨_,rfl⟩
 rw [<- hpb] at q3 q6 hlt0
 have HPB:Hid (pb=w.heap.size):=hpb
 have hlt:h < w0.heap.size:=lt_cellE q0
 have HST:Hid (Strs w0 p L):=hst
 have HLL:Hid (L.length=n):=hL
 have HLS:Hid (∀ x ∈ L,x.size<=1000000):=hls
 have HMF:Hid (∀ i,i < n->(mf i).from_=nm/\(mf i).to_=txt L i/\(mf i).kind=kind/\(mf i).key=ky/\(mf i).op=op/\(mf i).config=cf/\(mf i).shut=false):=hmf
 have HG:Hid (Gives w0 fn caps n mf):=hg0
 have HS:Hid (∀ W,Below w0.heap.size w0 W->(W.cell? ⟨h,0,none⟩=some (.string nm)/\W.cell? ⟨h,1,none⟩=some (.string ky)/\W.cell? ⟨h,2,none⟩=some (.int .i64 op)/\W.cell? ⟨pb,3,none⟩=some (.int .i64 cf)/\Below w0.heap.size w0 W)):=fun W hW =>
  ⟨(hW.cell (p:=⟨h,0,none⟩) hlt).trans q0,(hW.cell (p:=⟨h,1,none⟩) hlt).trans q1,(hW.cell (p:=⟨h,2,none⟩) hlt).trans q2,(hW.cell (p:=⟨pb,3,none⟩) hlt0).trans q3,hW⟩
 clear hst hL hls hmf hg hg0 q0 q1 q2 q3 hw0 hb0 hlt' hpb hlt0
 go_enter Tryz.func63,Tryz.ntmps63
 go_wp2_with (first | rw [<- HW0.out,<- HPB.out] | fail)
 go_loopw [9,16] (fun v x wr=>∃ i:Nat,i<=n/\x=.int .i64 i/\(∃ ml,ml.map Prod.fst=(List.range i).map mf/\MsOwn 57 w0.heap.size wr v ml)/\Below w0.heap.size w0 wr) (fun _ x _=>n - (intOf x).toNat)
 case atStart=>exact⟨0,Nat.zero_le _,rfl,⟨[],rfl,MsOwn.nil _ _ _⟩,Below.refl _ _⟩
 case round =>
  obtain⟨i,hi,rfl,⟨ml,hml,hO⟩,hB⟩:=hrel
  obtain⟨w1,rfl⟩:∃ w1,w1=wr:=⟨_,rfl⟩
  obtain⟨pv,cv,rfl,_,_,_,_⟩:=hO.1.form
  have hmll:ml.length=i:=by have:=congrArg List.length hml;simpa using this
  have htl:ml.length<=1000:=by omega
  have HML:Hid (ml.map Prod.fst=(List.range i).map mf):=hml
  have HMLL:Hid (ml.length=i):=hmll
  have HO:Hid (MsOwn 57 w0.heap.size w1 (.slice pv ml.length cv) ml):=hO
  have HB:Hid (Below w0.heap.size w0 w1):=hB
  have hz1:w0.heap.size<=w1.heap.size:=hB.size
  clear hO hml hmll
  by_cases hil:i < n
  ·rcases HST.out.below hB with h0 | ⟨b,o,hpp,hblt,hcs⟩
   ·have:L.length=0:=by rw [h0];rfl
    have:=HLL.out
    omega
   have q7:=hcs i (by rw [HLL.out];exact hil)
   have hts:(txt L i).size<=1000000:=by
    rw [txt_getElem L i (by rw [HLL.out];exact hil)]
    exact HLS.out _ (List.getElem_mem _)
   obtain⟨f1,f2,f3,f4,f5,f6,f7⟩:=HMF.out i hil
   have HM:Hid ((mf i).from_=nm/\(mf i).to_=txt L i/\(mf i).kind=kind/\(mf i).key=ky/\(mf i).op=op/\(mf i).config=cf/\(mf i).shut=false):=⟨f1,f2,f3,f4,f5,f6,f7⟩
   have HT:Hid ((List.range (i+1)).map mf=(List.range i).map mf ++ [mf i]):=psend_range mf i
   subst hpp
   generalize txt L i=t at *
   have HCL:Hid (∀ s W,s.size<=1000000->Hid (Below w1.heap.size w1 W)->Calls Tryz.prog 33 #[.string s] W fun e w'=>e=.returned (.string s)/\Hid (Below w1.heap.size w1 w')/\(w'.cell? ⟨h,0,none⟩=some (.string nm)/\w'.cell? ⟨h,1,none⟩=some (.string ky)/\w'.cell? ⟨h,2,none⟩=some (.int .i64 op)/\w'.cell? ⟨pb,3,none⟩=some (.int .i64 cf)/\Below w0.heap.size w0 w')):=fun s W hs hW=>(sclone_any s W (by omega)).mono fun e w' hp=>by
    have h1:Below w1.heap.size w1 w':=hW.out.trans (hp.2.mono hW.out.size)
    exact⟨hp.1,h1,HS.out w' (HB.out.trans (h1.mono HB.out.size))⟩
   have HV:Hid (∀ W,Hid (Below w1.heap.size w1 W)->Calls Tryz.prog fn (#[.int .i64 (i:Int)] ++ caps) W fun e w'=>∃ lv:Lv,e=.returned (.slice lv.1 lv.2.1 lv.2.2)/\Hid (HasL w' (mf i,lv)/\∀ b o,lv.1=some ⟨b,o,none⟩->w1.heap.size<=b/\b < w'.heap.size)/\Hid (Below w1.heap.size w1 w')/\(w'.cell? ⟨h,0,none⟩=some (.string nm)/\w'.cell? ⟨h,1,none⟩=some (.string ky)/\w'.cell? ⟨h,2,none⟩=some (.int .i64 op)/\w'.cell? ⟨pb,3,none⟩=some (.int .i64 cf)/\Below w0.heap.size w0 w')):=fun W hW=>(HG.out i hil W (HB.out.trans (hW.out.mono HB.out.size))).mono fun e w' hp=>by
    obtain⟨⟨lv,h1,h2,h3⟩,h4⟩:=hp
    have h5:Below w1.heap.size w1 w':=hW.out.trans (h4.mono hW.out.size)
    exact⟨lv,h1,⟨h2,fun b o e=>⟨Nat.le_trans hW.out.size (h3 b o e).1,(h3 b o e).2⟩⟩,h5,HS.out w' (HB.out.trans (h5.mono HB.out.size))⟩
   have HT0:Hid (Below w1.heap.size w1 w1.drew):=(Below.refl _ _).drew
   have HS0:=HS.out w1.drew hB.drew
   have HAP:Hid (∀ wv (lv:Lv),Hid (Below w1.heap.size w1 wv)->Hid (HasL wv (mf i,lv)/\∀ b o,lv.1=some ⟨b,o,none⟩->w1.heap.size<=b/\b < wv.heap.size)->∀ o5,o5=Obj.cells #[.string nm,.string t,.string kind,.string ky,.int .i64 op,.int .i64 cf,.bool false,.slice lv.1 lv.2.1 lv.2.2] 57->OwnR mE 57 (wv.alloc o5) w0.heap.size (.slice pv ml.length cv) ml/\(∀ j u,(mE.enc (mf i,lv))[j]?=some u->(wv.alloc o5).cell? ⟨wv.heap.size,j,none⟩=some u)/\w0.heap.size<=(wv.alloc o5).heap.size/\∀ v6 w6,OwnR mE 57 w6 w0.heap.size v6 (ml ++ [(mf i,lv)])->(wv.alloc o5).grownBy w6 (Value.slice pv ml.length cv).ownBlock->(v6.ownBlock=(Value.slice pv ml.length cv).ownBlock∨v6.ownBlock=some (wv.alloc o5).heap.size)->MsOwn 57 w0.heap.size w6 v6 (ml ++ [(mf i,lv)])/\(w6.cell? ⟨h,0,none⟩=some (.string nm)/\w6.cell? ⟨h,1,none⟩=some (.string ky)/\w6.cell? ⟨h,2,none⟩=some (.int .i64 op)/\w6.cell? ⟨pb,3,none⟩=some (.int .i64 cf)/\Below w0.heap.size w0 w6)):=fun wv lv hbv hlv o5 ho5=>by
    have hba:Below wv.heap.size wv (wv.alloc o5):=(Below.refl _ _).alloc (Nat.le_refl _) _
    have hb1:Below w1.heap.size w1 (wv.alloc o5):=hbv.out.trans (hba.mono hbv.out.size)
    have hO1:=HO.out.kept hb1
    refine⟨hO1.1,fun j u hj=>?_,Nat.le_trans hz1 hb1.size,fun v6 w6 g1 g2 g3=>⟨HO.out.snoc hz1 hb1 (hlv.out.1.below hba) (fun b o e=>⟨(hlv.out.2 b o e).1,Nat.lt_of_lt_of_le (hlv.out.2 b o e).2 hba.size⟩) g1 g2 g3,HS.out w6 ?_⟩⟩
    ·subst ho5
     rw [World.cell?_alloc_at _ _ _ _ rfl]
     obtain⟨f1,f2,f3,f4,f5,f6,f7⟩:=HM.out
     simpa [mE,msgC,f1,f2,f3,f4,f5,f6,f7] using hj
    ·exact(HB.out.trans (hb1.mono HB.out.size)).grown g2 (Nat.le_trans hz1 hb1.size) (fun k hk=>(hO1.1.block hk).1)
   clear hcs f1 f2 f3 f4 f5 f6 f7 hB
   go_wp2
   go_region_held3 (fun W=>(W.cell? ⟨h,0,none⟩=some (.string nm)/\W.cell? ⟨h,1,none⟩=some (.string ky)/\W.cell? ⟨h,2,none⟩=some (.int .i64 op)/\W.cell? ⟨pb,3,none⟩=some (.int .i64 cf)/\Below w0.heap.size w0 W)) (first | assumption | exact HS0 | exact HS.out _ (hSv.2.2.2.2.alloc hSv.2.2.2.2.size _)) (first | (go_at_call 33;refine(HCL.out _ _ (by assumption) (by assumption)).mono ?_;rintro e wn ⟨rfl,hTn,hSn⟩) | (refine(HV.out _ (by assumption)).mono ?_;rintro e wv ⟨lv,rfl,hVv,hTv,hSv⟩) | (obtain⟨ha1,ha2,ha3,ha4⟩:=HAP.out wv lv hTv hVv _ rfl;refine step_append_rec1 (E:=mE) rfl (.tmp 21) (.tmp 45) 51 57 rfl (.agg #[.string ⟨#[]⟩,.string ⟨#[]⟩,.string ⟨#[]⟩,.string ⟨#[]⟩,.int .i64 0,.int .i64 0,.bool false,.slice none 0 0]) 112 Tryz.underlying51 minfoW rfl w0.heap.size (.slice pv ml.length cv) ml (by simp [Act.eval]) ha1 wv.heap.size 1 (mf i,lv) (by simp [Act.eval]) ha2 (by unfold maxLen;omega) (by omega) ha3 ?_;intro v6 w6 hO6 hg6 hl6;obtain⟨hN6,hS6⟩:=ha4 v6 w6 hO6 hg6 hl6;clear ha1 ha2 ha3 ha4 hO6 hg6 hl6))
   have HN6:Hid (MsOwn 57 w0.heap.size w6 v6 (ml ++ [(mf i,lv)])):=hN6
   have HB6:Hid (Below w0.heap.size w0 w6):=hS6.2.2.2.2
   have HME:Hid ((ml ++ [(mf i,lv)]).map Prod.fst=(List.range (i+1)).map mf):=by show _=_;rw [List.map_append,HML.out,HT.out];rfl
   clear hN6 hS6 hSv hTv hVv HCL HV HAP HS0 HT0 HO
   go_wp2
   go_roundw
   case rel=>exact⟨i+1,by omega,by go_num,⟨_,HME.out,HN6.out⟩,HB6.out⟩
   case measure=>simp [intOf];omega
  ·have hie:i=n:=by omega
   obtain⟨p6,c6,hv6,hm6⟩:=HO.out.at_
   have HM6:Hid (MsgsN w0.heap.size w1 p6 (ml.map Prod.fst)):=hm6
   have HV6:Hid (Value.slice pv ml.length cv=.slice p6 ml.length c6):=hv6
   clear hv6 hm6
   go_wp2
   go_ret
   refine⟨⟨p6,c6,?_,?_⟩,HB0.out.trans (HB.out.mono HB0.out.size)⟩
   ·rw [HV6.out,HMLL.out,hie]
    rfl
   ·have:=HM6.out
    rw [HML.out,hie] at this
    exact this.mono HB0.out.size
theorem begin1_any (i:Int)(W:World):Calls Tryz.prog 64 (#[.int .i64 i] ++ #[]) W fun e w'=>e=.returned (.slice none 0 0)/\w'=W:=by
 show Calls Tryz.prog 64 #[.int .i64 i] W _
 go_enter Tryz.func64,Tryz.ntmps64
 go_wp2
 go_ret
 exact⟨rfl,rfl⟩
theorem cfg_fine_all {c:Cfg}(h:¬ 0 < (cfgF c).1):∃ n k:Nat,c.n=(n:Int)/\c.k=(k:Int)/\1<=k/\k<=n/\n<=12/\c.L.length=n/\∀ x ∈ c.L,x.size<=100:=by
 obtain⟨⟨h1,h2,h3⟩,h4,_,h5,_⟩:=cfgF_fine h
 exact⟨c.n.toNat,c.k.toNat,by omega,by omega,by omega,by omega,by omega,by omega,fun x hx=>by have:=isN_size (h5 x hx);omega⟩
def begL (a:MAsk)(F:Plc)(asks:ByteArray):List Msg:=(List.range F.c.L.length).map fun i=>⟨a.name,txt F.c.L i,asks,a.key,a.op,F.num,false,[]⟩
theorem pbegin_any {X:TypeId}{w:World}{B h:Nat}{S S0:Nat->Prop}{a:MAsk}{P F T:Plc}{asks:ByteArray}{cv:Value}{aw:ByteArray}{m:Option Nat}{D:DataW Value}{row:ByteArray->Value}(hp:PEr X w B h S S0 a P F T asks cv aw m D row):Calls Tryz.prog 42 #[.pointer (some ⟨h,0,none⟩)] w fun e w'=>(∃ p c,e=.returned (.slice p (begL a F asks).length c)/\MsgsN w.heap.size w' p (begL a F asks))/\Below w.heap.size w w':=by
 obtain⟨n,k,hn,hk,hk1,hkn,hn12,hL,hsz⟩:=cfg_fine_all hp.stat.fr.fine
 obtain⟨p,cp,hmv,hst,_,_,_⟩:=hp.stat.fr.mem
 rw [hL] at hmv
 have hlen:(begL a F asks).length=n:=by unfold begL;simp [hL]
 have c10:w.cell? ⟨h,10,none⟩=some (.int .i64 F.c.n):=hp.cell 10
 have c11:w.cell? ⟨h,11,none⟩=some (.int .i64 F.c.k):=hp.cell 11
 have c12:w.cell? ⟨h,12,none⟩=some (.slice p n cp):=by rw [<- hmv];exact hp.cell 12
 have c13:w.cell? ⟨h,13,none⟩=some (.int .i64 F.num):=hp.cell 13
 have c18:w.cell? ⟨h,18,none⟩=some (.string asks):=hp.cell 18
 have HC:Hid (Calls Tryz.prog 63 #[.pointer (some ⟨h,0,none⟩),.agg #[.int .i64 F.c.n,.int .i64 F.c.k,.slice p n cp,.int .i64 F.num],.string asks,.func (.func 64) #[] #[]] w.drew fun e w'=>(∃ p c,e=.returned (.slice p n c)/\Hid (MsgsN w.heap.size w' p (begL a F asks)))/\Hid (Below w.heap.size w w')):=by
  have hq:=hp.below (Below.refl _ w).drew
  refine(psend_any h n a.name a.key asks a.op F.c.n F.c.k F.num F.c.L p cp 64 #[] (fun i=>(⟨a.name,txt F.c.L i,asks,a.key,a.op,F.num,false,[]⟩:Msg)) w.drew (hq.cell 0) (hq.cell 1) (hq.cell 2) hL (hst.below (Below.refl _ w).drew) (by omega) (by have:=hp.fine.name;omega) (by have:=hp.fine.key;omega) (fun x hx=>by have:=hsz x hx;omega) (fun i _=>⟨rfl,rfl,rfl,rfl,rfl,rfl,rfl⟩) (fun args W=>by kernel_rfl) (fun i _ W _=>(begin1_any i W).mono fun e w' hq=>⟨⟨(none,0,0),hq.1,⟨rfl,Rec.nil _ _,Nat.le_refl _,fun _=>⟨rfl,rfl⟩⟩,fun b o e=>by cases e⟩,by rw [hq.2];exact Below.refl _ _⟩)).mono fun e w' hq=>?_
  obtain⟨⟨p1,c1,e1,e2⟩,e3⟩:=hq
  refine⟨⟨p1,c1,e1,?_⟩,(Below.refl _ w).drew.trans e3⟩
  unfold begL
  rw [hL]
  exact e2
 rw [hlen]
 clear hst hsz hmv hlen hp hn hk
 go_enter Tryz.func42,Tryz.ntmps42
 go_wp2
 refine wp_region_still_tail 11 (by kernel_rfl) (by kernel_rfl) ?_
 simp only [List.take_succ_cons,List.take_zero,List.drop_succ_cons,List.drop_zero]
 still_step
 still_step
 still_step
 still_step
 still_step
 still_step
 still_step
 still_step
 still_step
 still_step
 still_step
 refine wpStill_nil ?_
 go_wp2_with fail
 refine HC.out.mono ?_
 rintro e w1 ⟨⟨p1,c1,rfl,hm⟩,hb⟩
 clear HC
 go_wp2
 go_ret
 exact⟨⟨p1,c1,rfl,hm.out⟩,hb.out⟩
theorem takes_parts (a:MAsk)(m:Msg)(h:a.st.waits≠⟨#[]⟩):a.takes m=(decide (m.to_=a.name/\m.kind=a.st.waits/\m.key=a.key/\m.op=a.op/\m.config=a.config) && (inL a.c.L m.from_ && !inL a.from_ m.from_)):=by
 unfold MAsk.takes
 congr 1
 exact decide_eq_decide.2 ⟨fun g=>⟨g.2.2.1,g.2.1,g.2.2.2.1,g.2.2.2.2.1,g.2.2.2.2.2⟩,fun g=>⟨h,g.2.1,g.1,g.2.2.1,g.2.2.2.1,g.2.2.2.2⟩⟩
variable {X:TypeId} {w w':World} {B h:Nat} {S S0:Nat->Prop} {a:MAsk} {P F T:Plc} {asks:ByteArray} {cv:Value} {aw:ByteArray} {m:Option Nat} {D:DataW Value} {row:ByteArray->Value}
theorem counts_any (hp:PEr X w B h S S0 a P F T asks cv aw m D row)(x:Msg×Lv)(hfs:x.1.from_.size<=maxLen):Calls Tryz.prog 66 #[.pointer (some ⟨h,0,none⟩),.agg #[.string x.1.from_,.string x.1.to_,.string x.1.kind,.string x.1.key,.int .i64 x.1.op,.int .i64 x.1.config,.bool x.1.shut,.slice x.2.1 x.2.2.1 x.2.2.2]] w fun e w'=>e=.returned (.bool (a.takes x.1))/\Below w.heap.size w w':=by
 have hLl:a.c.L.length<=1000:=by
  obtain⟨⟨_,_,h3⟩,h4,_⟩:=cfgF_fine hp.fine.cfg
  omega
 have HTK:Hid (a.st.waits≠⟨#[]⟩->a.takes x.1=(decide (x.1.to_=a.name/\x.1.kind=a.st.waits/\x.1.key=a.key/\x.1.op=a.op/\x.1.config=a.config) && (inL a.c.L x.1.from_ && !inL a.from_ x.1.from_))):=fun hw=>takes_parts a x.1 hw
 obtain⟨⟨m1,m2,m3,m4,m5,m6,m7,mL⟩,lp,ln,lc⟩:=x
 dsimp only at *
 obtain⟨w1,hw1⟩:∃ w1,w1=w.alloc (.cells #[.string m1,.string m2,.string m3,.string m4,.int .i64 m5,.int .i64 m6,.bool m7,.slice lp ln lc] 57):=⟨_,rfl⟩
 have hb1:Below w.heap.size w w1:=zBe hw1
 have hP1:=hp.below hb1
 have c0:w1.cell? ⟨h,0,none⟩=some (.string a.name):=hP1.cell 0
 have c1:w1.cell? ⟨h,1,none⟩=some (.string a.key):=hP1.cell 1
 have c2:w1.cell? ⟨h,2,none⟩=some (.int .i64 a.op):=hP1.cell 2
 have c8:w1.cell? ⟨h,7,none⟩=some (.string aw):=hP1.cell 7
 have c9:w1.cell? ⟨h,9,none⟩=some (.map m):=hP1.cell 9
 have d0:w1.cell? ⟨w.heap.size,0,none⟩=some (.string m1):=zAc hw1 rfl
 have d1:w1.cell? ⟨w.heap.size,1,none⟩=some (.string m2):=zAc hw1 rfl
 have d2:w1.cell? ⟨w.heap.size,2,none⟩=some (.string m3):=zAc hw1 rfl
 have d3:w1.cell? ⟨w.heap.size,3,none⟩=some (.string m4):=zAc hw1 rfl
 have d4:w1.cell? ⟨w.heap.size,4,none⟩=some (.int .i64 m5):=zAc hw1 rfl
 have d5:w1.cell? ⟨w.heap.size,5,none⟩=some (.int .i64 m6):=zAc hw1 rfl
 have HW1:Hid (w1=w.alloc (.cells #[.string m1,.string m2,.string m3,.string m4,.int .i64 m5,.int .i64 m6,.bool m7,.slice lp ln lc] 57)):=hw1
 have HB1:Hid (Below w.heap.size w w1):=hb1
 by_cases hop:a.first∨a.st=.keeping
 ·obtain⟨hpl,hpc,hpn⟩:=hP1.here hop
  obtain⟨mp,mc,hmv,hms,_,_,_⟩:=hpl.mem
  rw [hpc] at hmv hms
  have c3:w1.cell? ⟨h,6,none⟩=some (.int .i64 a.config):=by rw [<- hpn];exact hP1.cell 6
  have c6:w1.cell? ⟨h,5,none⟩=some (.slice mp a.c.L.length mc):=by rw [<- hmv];exact hP1.cell 5
  have HCT:Hid (∀ W,Below w1.heap.size w1 W->Calls Tryz.prog 92 #[.slice mp a.c.L.length mc,.string m1] W fun e w'=>e=.returned (.bool (inL a.c.L m1))/\w'=W):=fun W hW=>scont_any mp a.c.L mc m1 W (by omega) (hms.below hW)
  obtain⟨b,hmb',_,_,hH⟩:=hP1.open_ hop
  subst hmb'
  have hwt:a.st.waits=aw:=(hP1.aw1 hop).symm
  have hwn:a.st.waits≠⟨#[]⟩:=by
   rcases hop with (e | e) | e <;> rw [e] <;> decide +kernel
  have HTK2:=HTK.out hwn
  rw [hwt] at HTK2
  obtain⟨lkv,hlkv⟩:∃ lkv,lkv=(if inL a.from_ m1 then row m1 else .slice none 0 0):=⟨_,rfl⟩
  have HLK:Hid (∀ W:World,W.heap[b]?=w1.heap[b]?->(Instr.lookup 89 (.map (some b)) (.string m1) true).run Tryz.prog W=.ok (.tuple #[lkv,.bool (inL a.from_ m1)]) W):=fun W hW=>by rw [hlkv];exact(hH.same hW).look2 hfs
  have HTK3:Hid (a.takes ⟨m1,m2,m3,m4,m5,m6,m7,mL⟩=(decide (m2=a.name/\m3=aw/\m4=a.key/\m5=a.op/\m6=a.config) && (inL a.c.L m1 && !inL a.from_ m1))):=HTK2
  have hmn0:=map_not_nil b
  clear hp hP1 hms hb1 hw1 HTK HTK2 hwt hwn hop hH hlkv hfs hpl hpc hpn hmv
  generalize a.takes ⟨m1,m2,m3,m4,m5,m6,m7,mL⟩=R at *
  generalize a.name=nm at *
  generalize a.key=ky at *
  generalize a.op=aop at *
  generalize a.config=acf at *
  by_cases g1:m2=nm
  ·subst g1
   by_cases g2:m3=aw
   ·subst g2
    by_cases g3:m4=ky
    ·subst g3
     by_cases g4:m5=aop
     ·subst g4
      by_cases g5:m6=acf
      ·subst g5
       have HR:Hid (R=(inL a.c.L m1 && !inL a.from_ m1)):=by show _=_;rw [HTK3.out,decide_eq_true ⟨rfl,rfl,rfl,rfl,rfl⟩,Bool.true_and]
       clear HTK3
       generalize inL a.c.L m1=q1 at *
       generalize inL a.from_ m1=q2 at *
       cases q2 with
       | true =>
        go_enter Tryz.func66,Tryz.ntmps66
        go_wp2
        rw [<- HW1.out]
        go_quiet (fail)
        generalize hwq:World.drewN w1 _=wq
        have c6q:wq.cell? ⟨h,5,none⟩=some (.slice mp a.c.L.length mc):=by rw [<- hwq];exact c6
        have c9q:wq.cell? ⟨h,9,none⟩=some (.map (some b)):=by rw [<- hwq];exact c9
        have d0q:wq.cell? ⟨w.heap.size,0,none⟩=some (.string m1):=by rw [<- hwq];exact d0
        have hbq0:Below w1.heap.size w1 wq:=by rw [<- hwq];exact below_drewN (Below.refl _ _) _
        have HBQ:Hid (Below w1.heap.size w1 wq):=hbq0
        have hheap:wq.heap=w1.heap:=by rw [<- hwq];rfl
        have hlk:∀ n,(Instr.lookup 89 (.map (some b)) (.string m1) true).run Tryz.prog (wq.drewN n)=.ok (.tuple #[lkv,.bool true]) (wq.drewN n):=fun n=>HLK.out (wq.drewN n) (by show wq.heap[b]?=_;rw [hheap])
        clear hwq c0 c1 c2 c3 c6 c8 c9 d0 d1 d2 d3 d4 d5 hbq0 hheap
        go_wp2
        go_quiet (fail)
        generalize hwr:World.drewN wq _=wr
        have c6r:wr.cell? ⟨h,5,none⟩=some (.slice mp a.c.L.length mc):=by rw [<- hwr];exact c6q
        have d0r:wr.cell? ⟨w.heap.size,0,none⟩=some (.string m1):=by rw [<- hwr];exact d0q
        have hbr:Below w1.heap.size w1 wr:=by rw [<- hwr];exact below_drewN HBQ.out _
        have HBR:Hid (Below w1.heap.size w1 wr):=hbr
        clear hwr c6q c9q d0q hlk HBQ
        go_wp2
        go_quiet (fail)
        go_wp2
        go_ret
        exact⟨by rw [HR.out];simp,below_drewN (HB1.out.trans (HBR.out.mono HB1.out.size)) _⟩
       | false =>
        go_enter Tryz.func66,Tryz.ntmps66
        go_wp2
        rw [<- HW1.out]
        go_quiet (fail)
        generalize hwq:World.drewN w1 _=wq
        have c6q:wq.cell? ⟨h,5,none⟩=some (.slice mp a.c.L.length mc):=by rw [<- hwq];exact c6
        have c9q:wq.cell? ⟨h,9,none⟩=some (.map (some b)):=by rw [<- hwq];exact c9
        have d0q:wq.cell? ⟨w.heap.size,0,none⟩=some (.string m1):=by rw [<- hwq];exact d0
        have hbq0:Below w1.heap.size w1 wq:=by rw [<- hwq];exact below_drewN (Below.refl _ _) _
        have HBQ:Hid (Below w1.heap.size w1 wq):=hbq0
        have hheap:wq.heap=w1.heap:=by rw [<- hwq];rfl
        have hlk:∀ n,(Instr.lookup 89 (.map (some b)) (.string m1) true).run Tryz.prog (wq.drewN n)=.ok (.tuple #[lkv,.bool false]) (wq.drewN n):=fun n=>HLK.out (wq.drewN n) (by show wq.heap[b]?=_;rw [hheap])
        clear hwq c0 c1 c2 c3 c6 c8 c9 d0 d1 d2 d3 d4 d5 hbq0 hheap
        go_wp2
        go_quiet (fail)
        generalize hwr:World.drewN wq _=wr
        have c6r:wr.cell? ⟨h,5,none⟩=some (.slice mp a.c.L.length mc):=by rw [<- hwr];exact c6q
        have d0r:wr.cell? ⟨w.heap.size,0,none⟩=some (.string m1):=by rw [<- hwr];exact d0q
        have hbr:Below w1.heap.size w1 wr:=by rw [<- hwr];exact below_drewN HBQ.out _
        have HBR:Hid (Below w1.heap.size w1 wr):=hbr
        clear hwr c6q c9q d0q hlk HBQ
        go_wp2
        go_quiet ((go_at_call 92;with_reducible exact Calls.quiet_of_same (HCT.out _ (below_drewN hbr _))))
        go_wp2
        go_ret
        exact⟨by rw [HR.out];simp,below_drewN (HB1.out.trans (HBR.out.mono HB1.out.size)) _⟩
      ·skip
       have HR:Hid (R=false):=by show _=_;rw [HTK3.out,decide_eq_false (fun hq=>g5 hq.2.2.2.2),Bool.false_and]
       clear HTK3 HCT HLK
       have b5:(m6==acf)=false:=by rw [beq_eq_false_iff_ne];exact g5
       go_enter Tryz.func66,Tryz.ntmps66
       go_wp2
       rw [<- HW1.out]
       go_quiet (fail)
       go_wp2
       go_ret
       exact⟨by rw [HR.out];rfl,below_drewN HB1.out _⟩
     ·skip
      have HR:Hid (R=false):=by show _=_;rw [HTK3.out,decide_eq_false (fun hq=>g4 hq.2.2.2.1),Bool.false_and]
      clear HTK3 HCT HLK
      have b4:(m5==aop)=false:=by rw [beq_eq_false_iff_ne];exact g4
      go_enter Tryz.func66,Tryz.ntmps66
      go_wp2
      rw [<- HW1.out]
      go_quiet (fail)
      go_wp2
      go_ret
      exact⟨by rw [HR.out];rfl,below_drewN HB1.out _⟩
    ·skip
     have HR:Hid (R=false):=by show _=_;rw [HTK3.out,decide_eq_false (fun hq=>g3 hq.2.2.1),Bool.false_and]
     clear HTK3 HCT HLK
     have t3:=toList_ne g3
     have u3:=toList_beq g3
     have v3:=bytes_beq g3
     go_enter Tryz.func66,Tryz.ntmps66
     go_wp2
     rw [<- HW1.out]
     go_quiet (fail)
     go_wp2
     go_ret
     exact⟨by rw [HR.out];rfl,below_drewN HB1.out _⟩
   ·skip
    have HR:Hid (R=false):=by show _=_;rw [HTK3.out,decide_eq_false (fun hq=>g2 hq.2.1),Bool.false_and]
    clear HTK3 HCT HLK
    have t2:=toList_ne g2
    have u2:=toList_beq g2
    have v2:=bytes_beq g2
    go_enter Tryz.func66,Tryz.ntmps66
    go_wp2
    rw [<- HW1.out]
    go_quiet (fail)
    go_wp2
    go_ret
    exact⟨by rw [HR.out];rfl,below_drewN HB1.out _⟩
  ·skip
   have HR:Hid (R=false):=by show _=_;rw [HTK3.out,decide_eq_false (fun hq=>g1 hq.1),Bool.false_and]
   clear HTK3 HCT HLK
   have t1:=toList_ne g1
   have u1:=toList_beq g1
   have v1:=bytes_beq g1
   go_enter Tryz.func66,Tryz.ntmps66
   go_wp2
   rw [<- HW1.out]
   go_quiet (fail)
   go_wp2
   go_ret
   exact⟨by rw [HR.out];rfl,below_drewN HB1.out _⟩
 ·have hm0 : m = none := hP1.shut (by
   cases hs:a.st with
   | looking=>exact absurd (Or.inl (Or.inl hs)) hop
   | sealing=>exact absurd (Or.inl (Or.inr hs)) hop
   | keeping=>exact absurd (Or.inr hs) hop
   | done=>exact Or.inl rfl
   | refused=>exact Or.inr rfl)
  have HR:Hid (a.takes ⟨m1,m2,m3,m4,m5,m6,m7,mL⟩=false):=by
   show _=_
   unfold MAsk.takes
   have e:a.st.waits=⟨#[]⟩:=by
    cases hs:a.st with
    | looking=>exact absurd (Or.inl (Or.inl hs)) hop
    | sealing=>exact absurd (Or.inl (Or.inr hs)) hop
    | keeping=>exact absurd (Or.inr hs) hop
    | done=>rfl
    | refused=>rfl
   rw [decide_eq_false (fun hq=>hq.1 e),Bool.false_and]
  subst hm0
  have hmn0:=map_is_nil
  clear hp hP1 hb1 hw1 HTK hop
  generalize a.takes ⟨m1,m2,m3,m4,m5,m6,m7,mL⟩=R at *
  go_enter Tryz.func66,Tryz.ntmps66
  go_wp2
  rw [<- HW1.out]
  go_quiet (fail)
  go_wp2
  go_ret
  exact⟨by rw [HR.out];rfl,below_drewN HB1.out _⟩
end Go.Proofs.YtmhoiodfppdlnaaGreatDoor
namespace Go.Proofs.YtmhoiodfppdlnaaGreatDoor
open Go.RowKit
theorem keep1_any (ob sb g n i:Nat)(t1 t2:Int)(tx et:ByteArray)(c:Nat)(w:World)(hi:i < n)(s0:w.cell? ⟨sb,0,none⟩=some (.slice (some ⟨g,0,none⟩) n c))
 (h12:w.cell? ⟨ob,0,none⟩=some (.int .i64 t1)) (h13:w.cell? ⟨ob,1,none⟩=some (.int .i64 t2)) (h14:w.cell? ⟨ob,2,none⟩=some (.string tx)) (g0:w.cell? ⟨g,i*2,none⟩=some (.int .i64 (i:Int))) (g1:w.cell? ⟨g,i*2+1,none⟩=some (.string et)) :
 Calls Tryz.prog 125 (#[.int .i64 (i:Int)] ++ #[.pointer (some ⟨ob,0,none⟩),.pointer (some ⟨sb,0,none⟩)]) w fun e w'=>e=.returned (.slice (some ⟨w.heap.size,0,none⟩) 1 1)/\∃ m,w'=(w.drewN m).alloc (.cells #[.int .i64 t1,.int .i64 t2,.int .i64 (tx.size:Int),.int .i64 (i:Int),.string et] 76):=by
 show Calls Tryz.prog 125 #[.int .i64 (i:Int),.pointer (some ⟨ob,0,none⟩),.pointer (some ⟨sb,0,none⟩)] w _
 go_enter Tryz.func125,Tryz.ntmps125
 go_wp2
 refine wp_region_still_tail 10 (by kernel_rfl) (by kernel_rfl) ?_
 simp only [List.take_succ_cons,List.take_zero,List.drop_succ_cons,List.drop_zero]
 still_step
 still_step
 still_step
 still_step
 still_step
 still_step
 still_step
 still_step
 still_step
 still_step
 refine wpStill_nil ?_
 go_wp2
 go_ret
 exact⟨rfl,1,rfl⟩
theorem pkeep_any {X:TypeId}{w:World}{B h:Nat}{S S0:Nat->Prop}{a:MAsk}{P F T:Plc}{asks:ByteArray}{cv:Value}{aw:ByteArray}{m:Option Nat}{D:DataW Value}{row:ByteArray->Value}(hp:PEr X w B h S S0 a P F T asks cv aw m D row)(hst:a.st=.keeping)(z:Addr)(hZ:w.cell? ⟨11,0,none⟩=some (.iface 252 (.pointer (some z)))):Calls Tryz.prog 97 #[.pointer (some ⟨h,0,none⟩)] w fun e w'=>(∃ p c,e=.returned (.slice p (a.send wKeep true).length c)/\MsgsN w.heap.size w' p (a.send wKeep true))/\Below w.heap.size w w':=by
 obtain⟨_,hTc,hTn⟩:=hp.plc.pl2 hst
 obtain⟨n,k,hcn,hck,hk1,hkn,hn12,hL,hsz⟩:=cfg_fine_all hp.fine.cfg
 obtain⟨p,cp,hmv,hmst,_,_,_⟩:=hp.stat.to_.mem
 rw [hTc] at hmv hmst
 rw [hL] at hmv
 have hobj:a.obj=(a.tag.1,a.tag.2,a.text,true):=if_pos ⟨Or.inl hst,hp.fine.keep hst⟩
 have hck':a.c.k.toNat=k:=by rw [hck];rfl
 have hse:a.send wKeep true=(List.range n).map fun i=>(⟨a.name,txt a.c.L i,wKeep,a.key,a.op,a.config,false,[⟨a.tag.1,a.tag.2,(a.text.size:Int),(i:Int),encT k a.text i⟩]⟩:Msg):=by
  unfold MAsk.send MAsk.ver
  rw [hL,hck']
  rfl
 have hlen:(a.send wKeep true).length=n:=by rw [hse];simp
 obtain⟨w1,hw1⟩:∃ w1,w1=w.alloc (.cells #[.int .i64 a.tag.1,.int .i64 a.tag.2,.string a.text,.bool true] 80):=⟨_,rfl⟩
 have hb1:Below w.heap.size w w1:=zBe hw1
 have hz1:w1.heap.size=w.heap.size+1:=by rw [hw1];simp
 have hP1:=hp.below hb1
 have b0:w1.heap[w.heap.size]?=some (.cells #[.int .i64 a.tag.1,.int .i64 a.tag.2,.string a.text,.bool true] 80 (0,0)):=by
  rw [hw1]
  show(w.heap.push _)[w.heap.size]?=_
  simp
 have htx:a.text.size<=1000:=hp.fine.text
 obtain⟨tx,htxe⟩:∃ tx,tx=a.text:=⟨_,rfl⟩
 rw [<- htxe] at htx
 have HS:Hid (∀ W:World,Below w1.heap.size w1 W->(W.cell? ⟨h,14,none⟩=some (.int .i64 (n:Int))/\W.cell? ⟨h,15,none⟩=some (.int .i64 (k:Int))/\W.cell? ⟨w.heap.size,2,none⟩=some (.string tx)/\Below w1.heap.size w1 W)):=fun W hW=>by
  have hq:=hP1.below hW
  have hq0:=(hW.block w.heap.size (by omega)).trans b0
  refine⟨?_,?_,?_,hW⟩
  ·rw [hq.cell 14,<- hcn,<- hTc];rfl
  ·rw [hq.cell 15,<- hck,<- hTc];rfl
  ·rw [htxe];simp [World.cell?,hq0]
 have HEN:Hid (∀ W:World,(W.cell? ⟨h,14,none⟩=some (.int .i64 (n:Int))/\W.cell? ⟨h,15,none⟩=some (.int .i64 (k:Int))/\W.cell? ⟨w.heap.size,2,none⟩=some (.string tx)/\Below w1.heap.size w1 W)->Calls Tryz.prog 124 #[.int .i64 (n:Int),.int .i64 (k:Int),.string tx] W fun e w'=>∃ g,e=.returned (.tuple #[.slice (some ⟨g,0,none⟩) n n,.nilIface])/\Hid (W.heap.size<=g/\ShRow w' g n (encS k tx))/\Hid (Below W.heap.size W w')/\(w'.cell? ⟨h,14,none⟩=some (.int .i64 (n:Int))/\w'.cell? ⟨h,15,none⟩=some (.int .i64 (k:Int))/\w'.cell? ⟨w.heap.size,2,none⟩=some (.string tx)/\Below w1.heap.size w1 w')):=fun W hW=>(encode_ok n k tx z W hk1 hkn hn12 htx ((hb1.trans (hW.2.2.2.mono hb1.size)).cell (p:=⟨11,0,none⟩) (lt_cellE hZ) |>.trans hZ)).mono fun e w' hq=>by
  obtain⟨⟨g,h1,h2,h3⟩,h4⟩:=hq
  exact⟨g,h2,⟨h1,h3⟩,h4,HS.out w' (hW.2.2.2.trans (h4.mono hW.2.2.2.size))⟩
 have HS0:=HS.out w1.drew (Below.refl _ _).drew
 have HW1:Hid (w1=w.alloc (.cells #[.int .i64 a.tag.1,.int .i64 a.tag.2,.string a.text,.bool true] 80)):=hw1
 have HSA:=HS.out (w1.alloc (.cells #[.slice none 0 0] 123)).drew (((Below.refl _ _).alloc (Nat.le_refl _) _).drew)
 have HENA:Hid (Calls Tryz.prog 124 #[.int .i64 (n:Int),.int .i64 (k:Int),.string tx] w1.drew fun e w'=>∃ g,e=.returned (.tuple #[.slice (some ⟨g,0,none⟩) n n,.nilIface])/\Hid (ShRow w' g n (encS k tx))/\(w'.cell? ⟨h,14,none⟩=some (.int .i64 (n:Int))/\w'.cell? ⟨h,15,none⟩=some (.int .i64 (k:Int))/\w'.cell? ⟨w.heap.size,2,none⟩=some (.string tx)/\Below w1.heap.size w1 w')):=(HEN.out w1.drew HS0).mono fun e w' hq=>by
  obtain⟨g,h1,h2,h3,h4⟩:=hq
  exact⟨g,h1,h2.out.2,h4⟩
 have HENB:Hid (Calls Tryz.prog 124 #[.int .i64 (n:Int),.int .i64 (k:Int),.string tx] (w1.alloc (.cells #[.slice none 0 0] 123)).drew fun e w'=>∃ g,e=.returned (.tuple #[.slice (some ⟨g,0,none⟩) n n,.nilIface])/\Hid (ShRow w' g n (encS k tx)/\g≠w1.heap.size)/\(w'.cell? ⟨h,14,none⟩=some (.int .i64 (n:Int))/\w'.cell? ⟨h,15,none⟩=some (.int .i64 (k:Int))/\w'.cell? ⟨w.heap.size,2,none⟩=some (.string tx)/\Below w1.heap.size w1 w')/\w'.cell? ⟨w1.heap.size,0,none⟩=some (.slice none 0 0)/\w'.frozen? ⟨w1.heap.size,0,none⟩=false):=(HEN.out _ HSA).mono fun e w' hq=>by
  obtain⟨g,h1,h2,h3,h4⟩:=hq
  have hlt:w1.heap.size < (w1.alloc (.cells #[.slice none 0 0] 123)).drew.heap.size:=by show w1.heap.size < (w1.alloc _).heap.size;simp
  refine⟨g,h1,⟨h2.out.2,by have:=h2.out.1;omega⟩,h4,(h3.out.cell (p:=⟨w1.heap.size,0,none⟩) hlt).trans ?_,(h3.out.frozen (p:=⟨w1.heap.size,0,none⟩) hlt).trans ?_⟩
  ·show(w1.alloc _).cell? _=_
   rw [World.cell?_alloc_at _ _ _ _ rfl]
   rfl
  ·show(w1.alloc _).frozen? _=_
   exact World.frozen?_alloc_at _ _ _ _ rfl
 have HSD:Hid (∀ W:World,Below w1.heap.size w1 W->∀ sb g,W.cell? ⟨sb,0,none⟩=some (.slice (some ⟨g,0,none⟩) n n)->ShRow W g n (encS k tx)->Calls Tryz.prog 63 #[.pointer (some ⟨h,0,none⟩),.agg #[.int .i64 T.c.n,.int .i64 T.c.k,.slice p n cp,.int .i64 T.num],.string ⟨#[107,101,101,112]⟩,.func (.func 125) #[] #[.pointer (some ⟨w.heap.size,0,none⟩),.pointer (some ⟨sb,0,none⟩)]] W fun e w'=>(∃ p c,e=.returned (.slice p n c)/\MsgsN w.heap.size w' p (a.send wKeep true))/\Below w.heap.size w w'/\Below w1.heap.size w1 w'):=fun W hW sb g hsb hrow=>by
  have hq:=hP1.below hW
  refine(psend_any h n a.name a.key wKeep a.op T.c.n T.c.k T.num a.c.L p cp 125 _ (fun i=>(⟨a.name,txt a.c.L i,wKeep,a.key,a.op,a.config,false,[⟨a.tag.1,a.tag.2,(a.text.size:Int),(i:Int),encT k a.text i⟩]⟩:Msg)) W (hq.cell 0) (hq.cell 1) (hq.cell 2) hL ((hmst.below hb1).below hW) (by omega) (by have:=hp.fine.name;omega) (by have:=hp.fine.key;omega) (fun x hx=>by have:=hsz x hx;omega) (fun i _=>⟨rfl,rfl,rfl,rfl,rfl,hTn.symm,rfl⟩) (fun args W=>by kernel_rfl) (fun i hi W2 hW2=>?_)).mono fun e w' hq2=>⟨by rw [hse];obtain⟨⟨p,c,e1,e2⟩,_⟩:=hq2;exact⟨p,c,e1,e2.mono (Nat.le_trans hb1.size hW.size)⟩,hb1.trans ((hW.trans (hq2.2.mono hW.size)).mono hb1.size),hW.trans (hq2.2.mono hW.size)⟩
  have hrow2:=hrow.below hW2
  have hq0:=((hW.trans (hW2.mono hW.size)).block w.heap.size (by omega)).trans b0
  have c12:W2.cell? ⟨w.heap.size,0,none⟩=some (.int .i64 a.tag.1):=by simp [World.cell?,hq0]
  have c13:W2.cell? ⟨w.heap.size,1,none⟩=some (.int .i64 a.tag.2):=by simp [World.cell?,hq0]
  have c14:W2.cell? ⟨w.heap.size,2,none⟩=some (.string a.text):=by simp [World.cell?,hq0]
  have r0:W2.cell? ⟨g,i*2,none⟩=some (.int .i64 (i:Int)):=hrow2.at_ hi
  have r1:W2.cell? ⟨g,i*2+1,none⟩=some (.string (encT k a.text i)):=by rw [<- htxe];exact hrow2.text hi
  refine(keep1_any w.heap.size sb g n i a.tag.1 a.tag.2 a.text (encT k a.text i) n W2 hi ((hW2.cell (p:=⟨sb,0,none⟩) (lt_cellE hsb)).trans hsb) c12 c13 c14 r0 r1).mono fun e w' hq3=>?_
  obtain⟨he,mm,hw'⟩:=hq3
  have hbw:Below W2.heap.size W2 w':=by rw [hw'];exact(below_drewN (Below.refl _ _) mm).alloc (Nat.le_refl _) _
  refine⟨⟨(some ⟨W2.heap.size,0,none⟩,1,1),he,⟨rfl,Or.inr ⟨W2.heap.size,0,rfl,by rw [hw'];simp,fun j x hx jj u hu=>?_⟩,Nat.le_refl _,(fun e=>by cases e)⟩,fun b o e=>?_⟩,hbw⟩
  ·match j,hx with
   | 0,hx =>
    obtain rfl:(⟨a.tag.1,a.tag.2,(a.text.size:Int),(i:Int),encT k a.text i⟩:Ver)=x:=by simpa using hx
    have e0:0+0*verE.k+jj=jj:=by simp
    rw [e0,hw',World.cell?_alloc_at (w:=W2.drewN mm) _ _ W2.heap.size _ rfl]
    simpa [verE,verC] using hu
  ·obtain rfl:W2.heap.size=b:=by injection e with e1;injection e1
   exact⟨Nat.le_refl _,by rw [hw'];simp⟩
 have HBB:Hid (Below w.heap.size w w1):=hb1
 have HPL:Hid (∀ W:World,Below w1.heap.size w1 W->(W.cell? ⟨h,14,none⟩=some (.int .i64 T.c.n)/\W.cell? ⟨h,15,none⟩=some (.int .i64 T.c.k)/\W.cell? ⟨h,16,none⟩=some (.slice p n cp)/\W.cell? ⟨h,17,none⟩=some (.int .i64 T.num)/\Below w1.heap.size w1 W)):=fun W hW=>by
  have hq:=hP1.below hW
  exact⟨hq.cell 14,hq.cell 15,by rw [<- hmv];exact hq.cell 16,hq.cell 17,hW⟩
 have HOB:Hid (w.cell? ⟨h,21,none⟩=some (.int .i64 a.tag.1)/\w.cell? ⟨h,22,none⟩=some (.int .i64 a.tag.2)/\w.cell? ⟨h,23,none⟩=some (.string a.text)/\w.cell? ⟨h,24,none⟩=some (.bool true)):=by
  refine⟨?_,?_,?_,?_⟩
  ·rw [hp.cell 21];unfold erCells;rw [hobj];rfl
  ·rw [hp.cell 22];unfold erCells;rw [hobj];rfl
  ·rw [hp.cell 23];unfold erCells;rw [hobj];rfl
  ·rw [hp.cell 24];unfold erCells;rw [hobj];rfl
 obtain⟨o0,o1,o2,o3⟩:=HOB.out
 rw [hlen]
 clear hp hP1 hse hlen hmst hsz hw1 hb1 b0 hobj hZ htxe hz1 HOB hmv hTn hTc hcn hck hck' hk1 hkn hn12 hL
 go_enter Tryz.func97,Tryz.ntmps97
 go_wp2_with (first | rw [<- HW1.out] | fail)
 go_cut [4] from 10 to 27 (fun v W=>∃ sb g,v=.pointer (some ⟨sb,0,none⟩)/\W.cell? ⟨sb,0,none⟩=some (.slice (some ⟨g,0,none⟩) n n)/\ShRow W g n (encS k tx)/\Below w1.heap.size w1 W)
 case first =>
  go_region_held3 (fun W=>(W.cell? ⟨h,14,none⟩=some (.int .i64 (n:Int))/\W.cell? ⟨h,15,none⟩=some (.int .i64 (k:Int))/\W.cell? ⟨w.heap.size,2,none⟩=some (.string tx)/\Below w1.heap.size w1 W)) (first | with_reducible assumption | with_reducible exact HS0 | with_reducible exact HSA | (with_reducible exact HS.out _ (hS2.2.2.2.alloc hS2.2.2.2.size _)) | (with_reducible exact HS.out _ (hS2.2.2.2.setCell (Nat.le_refl _) _))) (first | (go_at_call 124;with_reducible refine HENA.out.mono ?_;rintro e w2 ⟨g,rfl,hGA,hS2⟩) | (go_at_call 124;with_reducible refine HENB.out.mono ?_;rintro e w2 ⟨g,rfl,hGB,hS2,x1,x2⟩))
  all_goals (go_wp2_with fail;go_meet)
  ·exact⟨w2.heap.size,g,rfl,by rw [World.cell?_alloc_at _ _ _ _ rfl];rfl,hGA.out.below ((Below.refl _ _).alloc (Nat.le_refl _) _),hS2.2.2.2.alloc hS2.2.2.2.size _⟩
  ·exact⟨w1.heap.size,g,rfl,World.cell?_setCell_same _ _ _ x1,World.rowIs.of_block hGB.out.1 (Below.heap_setCell _ _ _ _ hGB.out.2),hS2.2.2.2.setCell (Nat.le_refl _) _⟩
 case rest =>
  obtain⟨sb,g,rfl,hsb,hrow,hbw⟩:=hcut
  have HXX:Hid (∀ W,Below wc.heap.size wc W->Calls Tryz.prog 63 #[.pointer (some ⟨h,0,none⟩),.agg #[.int .i64 T.c.n,.int .i64 T.c.k,.slice p n cp,.int .i64 T.num],.string ⟨#[107,101,101,112]⟩,.func (.func 125) #[] #[.pointer (some ⟨w.heap.size,0,none⟩),.pointer (some ⟨sb,0,none⟩)]] W fun e w'=>(∃ p c,e=.returned (.slice p n c)/\Hid (MsgsN w.heap.size w' p (a.send wKeep true)))/\(w'.cell? ⟨h,14,none⟩=some (.int .i64 T.c.n)/\w'.cell? ⟨h,15,none⟩=some (.int .i64 T.c.k)/\w'.cell? ⟨h,16,none⟩=some (.slice p n cp)/\w'.cell? ⟨h,17,none⟩=some (.int .i64 T.num)/\Below w1.heap.size w1 w')):=fun W hW=>by
   have hbW:=hbw.trans (hW.mono hbw.size)
   refine(HSD.out W hbW sb g ((hW.cell (p:=⟨sb,0,none⟩) (lt_cellE hsb)).trans hsb) (hrow.below hW)).mono fun e w' hq=>?_
   obtain⟨⟨p2,c2,e1,e2⟩,e3,e4⟩:=hq
   exact⟨⟨p2,c2,e1,e2⟩,HPL.out w' e4⟩
  obtain⟨k14,k15,k16,k17,_⟩:=HPL.out wc hbw
  have HX9:=HXX.out wc.drew (Below.refl _ _).drew
  clear hsb hrow hbw HSD HS HEN HENA HENB HS0 HSA HXX HPL
  go_wp2
  refine wp_region_still_tail 8 (by kernel_rfl) (by kernel_rfl) ?_
  simp only [List.take_succ_cons,List.take_zero,List.drop_succ_cons,List.drop_zero]
  still_step
  still_step
  still_step
  still_step
  still_step
  still_step
  still_step
  still_step
  refine wpStill_nil ?_
  go_wp2_with fail
  refine HX9.mono ?_
  rintro e w9 ⟨⟨p9,c9,rfl,hm9⟩,hS10⟩
  have HB9:Hid (Below w.heap.size w w9):=HBB.out.trans (hS10.2.2.2.2.mono HBB.out.size)
  clear HX9 hS10
  go_wp2
  go_ret
  exact⟨⟨p9,c9,rfl,hm9.out⟩,HB9.out⟩
end Go.Proofs.YtmhoiodfppdlnaaGreatDoor
