import Derived.Test.YtghpdhegfnhmkaaGreatDoorS5
import Derived.Laws.AppendOwnNone
import Derived.Test.YtghpdhegfnhmkaaGreatDoorS4
import Derived.Test.YtghpdhegfnhmkaaGreatDoorS0
import Derived.WalkSmall
import Derived.Test.YtghpdhegfnhmkaaGreatDoorS2
import Derived.ProofKit
import Derived.OpenShut
import Derived.ChangeOld
import Derived.Deep.SlicePairs
import Derived.Deep.Strs
import Derived.Lib.SmallJoins
import Derived.Deep.OwnRows
import Derived.Deep.Heap
import Derived.Deep.QuietTactic
import Derived.BigQuiet
import Derived.Shelf.Abstract
namespace Go.Proofs.YtghpdhegfnhmkaaGreatDoor
open Go.RowKit
def OwnV (w:World) (B:Nat) (e:TypeId) (v:Value) (vs:List Value):Prop:=w.ownsRow B e 1 v vs.length vs
theorem OwnV.nil (w:World) (B:Nat) (e:TypeId):OwnV w B e (.slice none 0 0) []:=World.ownsRow_nil w B e 1
theorem OwnV.kept {w w':World} {B:Nat} {e:TypeId} {v:Value} {l:List Value} {row:Option Nat} (h:OwnV w B e v l) (hg:w.grownBy w' row) (hne:v.ownBlock=none∨v.ownBlock≠row):OwnV w' B e v l:=World.ownsRow.kept h hg hne
theorem OwnV.block {w:World} {B:Nat} {e:TypeId} {v:Value} {l:List Value} (h:OwnV w B e v l) {k:Nat} (hk:v.ownBlock=some k):B<=k/\k < w.heap.size:=World.ownsRow.lt h k hk
theorem OwnV.cells {w:World} {B:Nat} {e:TypeId} {v:Value} {l:List Value} (h:OwnV w B e v l):v=.slice none 0 0/\l=[]∨∃ g cap,v=.slice (some ⟨g,0,none⟩) l.length cap/\B<=g/\g < w.heap.size/\∀ i u,l[i]?=some u->w.cell? ⟨g,i,none⟩=some u:=by
 rcases h.2 with ⟨rfl,h0⟩ | ⟨g,cap,cur,rfl,hb,hg,hnc,hcm,hcs,htake⟩
 ·exact Or.inl ⟨rfl,List.length_eq_zero_iff.1 h0⟩
 ·refine Or.inr ⟨g,cap,rfl,hb,(Array.getElem?_eq_some_iff.1 hg).1,fun i u hu=>?_⟩
  have hc:=World.ownsRow.cells (g:=g) h rfl i u hu
  rw [Addr.add_lit,Nat.zero_add] at hc
  exact hc
section
variable {P:Program} {w:World}
theorem append_where_val (B:Nat) (t ty e:TypeId) (i:TypeInfo) (z:Value) (bytes:Nat) (ht:P.underlying t=some (.slice e)) (hi:P.info? e=some i) (hz:i.zero=some z) (hsize:i.size=1) (hby:i.bytes=bytes) (h24:bytes<=64)
 (v:Value) (l:List Value) (hown:OwnV w B e v l) (ad:Addr) (c:Nat) (u:Value) (hu:u.oneCell'=true) (hb:w.cell? ad=some u) (hl:l.length+1<=1000000) {v':Value} {w':World}
 (hr:(Builtin.append_ #[t,t] ty #[v,.slice (some ad) 1 c]).run P w=.ok v' w'):v'.ownBlock=v.ownBlock∨v'.ownBlock=some w.heap.size:=by
 have hnews:∀ j x,[u][j]?=some x->w.cell? (ad.add j)=some x:=by
  intro j x hj
  match j,hj with
  | 0,hj =>
   obtain rfl:u=x:=by simpa using hj
   simpa [Addr.add] using hb
 rcases hown.2 with ⟨rfl,h0⟩ | ⟨g,cap,cur,rfl,hbg,hg,hnc,hcm,hcs,htake⟩
 ·have:=run_append_nil (P:=P) w t ty e i z ht hi hz ad 1 c [u] (by rw [hsize];rfl) hnews (by decide) (by decide) (by rw [hby];omega)
  rw [this] at hr
  injection hr with h1 h2
  subst h1
  exact Or.inr rfl
 ·by_cases hroom:l.length+1<=cap
  ·have:=run_append_room (P:=P) w t ty e i ht hi g l.length cap cur hg ad 1 c [u] (by rw [hsize];rfl) hnews (fun x hx=>by rw [List.mem_singleton.1 hx];exact hu) hroom (by rw [hsize,hcs];simpa using hroom)
   rw [this] at hr
   injection hr with h1 h2
   subst h1
   exact Or.inl rfl
  ·have hbd:(l.length+1)*bytes<=1000000*64:=Nat.mul_le_mul hl h24
   have:=run_append_grow (P:=P) w t ty e i z ht hi hz ⟨g,0,none⟩ l.length cap l (by rw [hsize];exact hown.1) (World.ownsRow.cells (g:=g) hown rfl) ad 1 c [u] (by rw [hsize];rfl) hnews (by omega) (by omega) (growslice_fits (by omega) (by rw [hby];omega))
   rw [this] at hr
   injection hr with h1 h2
   subst h1
   exact Or.inr rfl
theorem wpList_append_val {ops:Array Oper} {rest:List Oper} {o:Oper} {a:Act} {Q:Exit->Act->World->Prop} (hgd:o.guard=none) (s x:Operand) (t:TypeId)
 (ho:o.op=.call { callee:=.builtin .append,args:=#[s,x],argTypes:=#[t,t] })
 (B:Nat) (e:TypeId) (i:TypeInfo) (z:Value) (bytes:Nat) (ht:P.underlying t=some (.slice e)) (hi:P.info? e=some i) (hz:i.zero=some z) (hzs:z.cells.size=1) (hsize:i.size=1) (hby:i.bytes=bytes) (h24:bytes<=64)
 (v:Value) (l:List Value) (hs:a.eval s=v) (hown:OwnV w B e v l) (ad:Addr) (c:Nat) (u:Value) (hu:u.oneCell'=true) (hx:a.eval x=.slice (some ad) 1 c) (hb:w.cell? ad=some u) (hl:l.length+1<=1000000) (hbase:B<=w.heap.size)
 (h:∀ v' w',OwnV w' B e v' (l ++ [u])->w.grownBy w' v.ownBlock->(v'.ownBlock=v.ownBlock∨v'.ownBlock=some w.heap.size)->wpList P ops Q rest (a.put o.dst v') w'):wpList P ops Q (o :: rest) a w:=by
 have hnews:∀ j x,[u][j]?=some x->w.cell? (ad.add j)=some x:=by
  intro j x hj
  match j,hj with
  | 0,hj =>
   obtain rfl:u=x:=by simpa using hj
   simpa [Addr.add] using hb
 have hbd:(l.length+1)*bytes<=1000000*64:=Nat.mul_le_mul hl h24
 refine wpList_plain hgd fun K hK=>?_
 obtain ⟨v',w',hr,h2,h3,_⟩:=run_append_own (P:=P) w B t o.type e i z 1 bytes ht hi hz hsize hby hzs (by decide) v l.length l hown ad 1 c [u] rfl hnews (fun x hx=>by rw [List.mem_singleton.1 hx];exact hu) (by unfold maxLen;omega) (by omega) hbase
 have h4:=append_where_val B t o.type e i z bytes ht hi hz hsize hby h24 v l hown ad c u hu hb hl hr
 have h5:OwnV w' B e v' (l ++ [u]):=by
  unfold OwnV
  rw [List.length_append]
  exact h2
 unfold Oper.wp execOp
 simp only [ho,resolve,invoke,builtin,Sem.run_bind,Sem.run_pure,Result.andThen_ok,List.map_toArray,List.map_cons,List.map_nil,hs,hx,hr]
 exact hK _ _ (h v' w' h5 h3 h4)
end
end Go.Proofs.YtghpdhegfnhmkaaGreatDoor
namespace Go.Proofs.YtghpdhegfnhmkaaGreatDoor
open Go.RowKit
def shVals (l:List (Int×ByteArray)):List Value:=l.flatMap fun x=>[.int .i64 x.1,.string x.2]
theorem shVals_at:∀ (l:List (Int×ByteArray)) (i:Nat),i < l.length->(shVals l)[i*2]?=some (.int .i64 (shAt l i).1)/\(shVals l)[i*2+1]?=some (.string (shAt l i).2)
 | [],i,h=>absurd h (Nat.not_lt_zero _)
 | x :: t,0,_=>⟨rfl,rfl⟩
 | x :: t,i+1,h=>by
  have h':=shVals_at t i (by simpa using h)
  have e:shVals (x :: t)=.int .i64 x.1 :: .string x.2 :: shVals t:=rfl
  have e2:shAt (x :: t) (i+1)=shAt t i:=rfl
  rw [e,e2,show (i+1)*2=i*2+1+1 by omega,show i*2+1+1+1=i*2+1+1+1 from rfl]
  exact ⟨by simpa using h'.1,by simpa using h'.2⟩
theorem shs_of_own {w:World} {B:Nat} {v:Value} {l:List (Int×ByteArray)} {E:TypeId} (h:w.ownsRow B E 2 v l.length (shVals l)):∃ p c,v=.slice p l.length c/\Shs w p l:=by
 rcases h.2 with ⟨rfl,h0⟩ | ⟨g,cap,cur,rfl,hb,hg,hnc,hcm,hcs,htake⟩
 ·have:l=[]:=List.length_eq_zero_iff.1 h0
  subst this
  exact ⟨none,0,rfl,Or.inl rfl⟩
 ·refine ⟨some ⟨g,0,none⟩,cap,rfl,Or.inr ⟨g,0,rfl,(Array.getElem?_eq_some_iff.1 hg).1,fun i hi=>?_⟩⟩
  have hc:=World.ownsRow.cells (g:=g) h rfl
  have h1:=shVals_at l i hi
  have e1:=hc (i*2) _ h1.1
  have e2:=hc (i*2+1) _ h1.2
  rw [Addr.add_lit] at e1 e2
  exact ⟨e1,by rw [Nat.add_assoc];exact e2⟩
def OwnT (w:World) (B:Nat) (v:Value) (l:List ByteArray):Prop:=OwnV w B 9 v (l.map Value.string)
theorem OwnT.nil (w:World) (B:Nat):OwnT w B (.slice none 0 0) []:=OwnV.nil w B _
theorem OwnT.block {w:World} {B:Nat} {v:Value} {l:List ByteArray} (h:OwnT w B v l) {k:Nat} (hk:v.ownBlock=some k):B<=k/\k < w.heap.size:=OwnV.block h hk
theorem OwnT.form {w:World} {B:Nat} {v:Value} {l:List ByteArray} (h:OwnT w B v l):∃ p c,v=.slice p l.length c/\Strs w p l/\l.length<=c/\(p=none->c=0)/\∀ b o,p=some ⟨b,o,none⟩->B<=b/\b < w.heap.size:=by
 have hcell:=OwnV.cells h
 have h0:w.ownsRow B 9 1 v (l.map Value.string).length (l.map Value.string):=h
 rcases h0.2 with ⟨rfl,hz⟩ | ⟨g,cap,cur,rfl,hb,hg,hnc,hcm,hcs,htake⟩
 ·have e:l=[]:=by simpa using hz
  subst e
  exact ⟨none,0,rfl,Or.inl rfl,Nat.le_refl _,fun _=>rfl,fun _ _ h=>by cases h⟩
 ·rw [List.length_map] at hnc ⊢
  have hlt:g < w.heap.size:=(Array.getElem?_eq_some_iff.1 hg).1
  refine ⟨some ⟨g,0,none⟩,cap,rfl,Or.inr ⟨g,0,rfl,hlt,fun i hi=>?_⟩,hnc,fun h=>(by cases h),fun b o h=>?_⟩
  ·rcases hcell with ⟨h1,_⟩ | ⟨g',cap',hv,_,_,hc⟩
   ·cases h1
   ·have hgg : g = g' := by
     have:=congrArg Value.ownBlock hv
     simpa [Value.ownBlock] using this
    subst hgg
    rw [Nat.zero_add,hc i (.string (txt l i)) (by rw [List.getElem?_map,List.getElem?_eq_getElem hi,txt_getElem l i hi];rfl)]
  ·obtain ⟨rfl,rfl⟩:g=b/\0=o:=by simpa using h
   exact ⟨hb,hlt⟩
section
variable {w:World}
theorem wpList_append_strs {ops:Array Oper} {rest:List Oper} {o:Oper} {a:Act} {Q:Exit->Act->World->Prop} (hgd:o.guard=none) (s x:Operand)
 (ho:o.op=.call { callee:=.builtin .append,args:=#[s,x],argTypes:=#[22,22] })
 (B:Nat) (v:Value) (l:List ByteArray) (hs:a.eval s=v) (hown:OwnT w B v l) (q:Option Addr) (r:List ByteArray) (c:Nat) (hx:a.eval x=.slice q r.length c) (hq:Strs w q r) (hc0:q=none->r=[]/\c=0) (hl:l.length+r.length<=8796093022208) (hbase:B<=w.heap.size)
 (h:∀ v' w',OwnT w' B v' (l ++ r)->Below B w w'->wpList Tryz.prog ops Q rest (a.put o.dst v') w'):wpList Tryz.prog ops Q (o :: rest) a w:=by
 obtain ⟨i0,hi0,hz0,hz1,hzb⟩:=info_parts (P:=Tryz.prog) (e:=9) (z:=.string ⟨#[]⟩) (size:=1) (bytes:=16) (by kernel_rfl)
 have hfin:∀ v' w',w'.ownsRow B 9 1 v' ((l.map Value.string).length+r.length) (l.map Value.string ++ r.map Value.string)->w.grownBy w' v.ownBlock->wpList Tryz.prog ops Q rest (a.put o.dst v') w':=fun v' w' h1 h2=>by
  refine h v' w' ?_ ((Below.refl _ _).grown h2 hbase (fun k hk=>(hown.block hk).1))
  unfold OwnT OwnV
  have e:(l.map Value.string ++ r.map Value.string).length=(l.map Value.string).length+r.length:=by simp
  rw [List.map_append,e]
  exact h1
 cases q with
 | none =>
  obtain ⟨hr,hc⟩:=hc0 rfl
  subst hr hc
  refine wpList_append_own_none hgd s x _ ho B 9 i0 1 Tryz.underlying22 hi0 v (l.map Value.string).length (l.map Value.string) hs hown hx ?_
  have:=h v w (by rw [List.append_nil];exact hown) (Below.refl _ _)
  exact this
 | some ad =>
  refine wpList_append_own w hgd s x _ ho B 9 i0 (.string ⟨#[]⟩) 1 16 Tryz.underlying22 hi0 hz0 hz1 hzb rfl (by decide) v (l.map Value.string).length (l.map Value.string) hs hown ad r.length c (r.map Value.string) hx (by simp) ?_ ?_ (by rw [List.length_map];unfold maxLen;omega) (by rw [List.length_map];omega) hbase (fun v' w' h1 h2 _=>hfin v' w' h1 h2)
  ·intro j u hj
   rw [List.getElem?_map] at hj
   obtain ⟨y,hy1,hy2⟩:=Option.map_eq_some_iff.1 hj
   have hjl:j < r.length:=(List.getElem?_eq_some_iff.1 hy1).1
   rcases hq with h0 | ⟨b,o',hp,_,hcell⟩
   ·rw [h0] at hjl;exact absurd hjl (Nat.not_lt_zero _)
   ·obtain rfl:ad=⟨b,o',none⟩:=by simpa using hp
    rw [Addr.add_lit,hcell j hjl,txt_getElem r j hjl,<- hy2,(List.getElem?_eq_some_iff.1 hy1).2]
  ·intro u hu
   obtain ⟨y,_,rfl⟩:=List.mem_map.1 hu
   rfl
end
end Go.Proofs.YtghpdhegfnhmkaaGreatDoor
namespace Go.Proofs.YtghpdhegfnhmkaaGreatDoor
open Go.RowKit
def cfgA (c:Cfg) (lv:Value):Value:=.agg #[.int .i64 c.n,.int .i64 c.k,lv]
structure ErrsQ (w:World) (ad:Nat->Addr):Prop where
 c1:w.cell? ⟨2,0,none⟩=some (.iface 218 (.pointer (some (ad 1))))
 c2:w.cell? ⟨6,0,none⟩=some (.iface 218 (.pointer (some (ad 2))))
 c3:w.cell? ⟨1,0,none⟩=some (.iface 218 (.pointer (some (ad 3))))
 c4:w.cell? ⟨5,0,none⟩=some (.iface 218 (.pointer (some (ad 4))))
 c5:w.cell? ⟨3,0,none⟩=some (.iface 218 (.pointer (some (ad 5))))
theorem ErrsQ.below {w w':World} {ad:Nat->Addr} (h:ErrsQ w ad) (hb:Below w.heap.size w w'):ErrsQ w' ad where
 c1:=(hb.cell (lt_of_cellE h.c1)).trans h.c1
 c2:=(hb.cell (lt_of_cellE h.c2)).trans h.c2
 c3:=(hb.cell (lt_of_cellE h.c3)).trans h.c3
 c4:=(hb.cell (lt_of_cellE h.c4)).trans h.c4
 c5:=(hb.cell (lt_of_cellE h.c5)).trans h.c5
def CfgIn (c:Cfg):Prop:=(-9223372036854775808<=c.n/\c.n<=9223372036854775807)/\-9223372036854775808<=c.k/\c.k<=9223372036854775807
structure CfgAt (w:World) (c:Cfg) (p:Option Addr) (cap:Nat):Prop where
 strs:Strs w p c.L
 room:c.L.length<=cap
 empty:p=none->c.L=[]/\cap=0
 len:c.L.length<=1000
 size:∀ x ∈ c.L,x.size<=1000
 ints:CfgIn c
theorem CfgAt.below {w w':World} {c:Cfg} {p:Option Addr} {cap:Nat} (h:CfgAt w c p cap) (hb:Below w.heap.size w w'):CfgAt w' c p cap:=⟨h.strs.below hb,h.room,h.empty,h.len,h.size,h.ints⟩
theorem one_cfg:cfgF ⟨1,1,[⟨#[97]⟩]⟩=(0,-1):=by decide +kernel
theorem ErrIs.isNil {w:World} {ad:Nat->Addr} {ev:Value} {at_:Int} (h:ErrIs w ad ev 0 at_):ev=.nilIface:=by
 rcases h with ⟨h,_⟩ | ⟨i,_,_,h,_⟩ | ⟨i,_,_,_,h,_⟩
 ·exact h
 ·omega
 ·omega
theorem Sent.errsQ {w:World} {ad:Nat->Addr} (h:Sent w ad):ErrsQ w ad:=⟨h.c1,h.c2,h.c3,h.c4,h.c5⟩
theorem ErrIs.setInt {w:World} {ad:Nat->Addr} {ev:Value} {c at_:Int} {b:Nat} {z:Int} (h:ErrIs w ad ev c at_) (hz:w.cell? ⟨b,1,none⟩=Option.some (Value.int .i64 z)) (i:Nat) (v:Value):ErrIs (w.setCell ⟨b,i,none⟩ v) ad ev c at_:=by
 rcases h with h | h | ⟨k,fb,hk,he,hc,h0,h1⟩
 ·exact Or.inl h
 ·exact Or.inr (Or.inl h)
 ·have hne : fb ≠ b := fun e => by
   subst e
   rw [hz] at h1
   cases h1
  exact Or.inr (Or.inr ⟨k,fb,hk,he,hc,(World.cell?_setCell_other _ _ _ _ (fun e=>hne (congrArg Addr.block e).symm)).trans h0,(World.cell?_setCell_other _ _ _ _ (fun e=>hne (congrArg Addr.block e).symm)).trans h1⟩)
structure TxsIn (w:World) (l:List ByteArray) (p:Option Addr) (cap:Nat):Prop where
 strs:Strs w p l
 room:l.length<=cap
 empty:p=none->l=[]/\cap=0
 len:l.length<=maxLen
 size:∀ x ∈ l,x.size<=maxLen
end Go.Proofs.YtghpdhegfnhmkaaGreatDoor
namespace Go.Proofs.YtghpdhegfnhmkaaGreatDoor
open Go.ChangeShapes Go.WideShapes Go.ChangeAt Go.RowKit
theorem cfgLaidOut:laidOutB Tryz.prog=true:=by kernel_rfl
theorem qCfgFields:∃ f0 f1 f2,Tryz.prog.underlying 24=some (.struct #[f0,f1,f2])/\f0.offset=0/\f1.offset=1/\f2.offset=2/\f0.type=3/\f1.type=3/\f2.type=22:=⟨_,_,_,Tryz.underlying24,rfl,rfl,rfl,rfl,rfl,rfl⟩
theorem qCellsInt:Tryz.prog.cellsOf 3=1:=by kernel_rfl
theorem qCellsStrs:Tryz.prog.cellsOf 22=1:=by kernel_rfl
theorem qCellsCfg:Tryz.prog.cellsOf 24=3:=by kernel_rfl
set_option maxRecDepth 100000 in
theorem strs_arg8 {H:Type} {enc:TypeId×Value->H} {W:World} {fuel:Nat} {v:Value} {y:DataW H×List MemPlace} (h:DataW.trod enc Tryz.prog W 0 (fun _=>true) true fuel 22 [v]=some y):∃ p l cap,v=.slice p l.length cap/\TxsIn W l p cap:=by
 rcases Deep.open_strs Tryz.underlying22 Tryz.underlying9 (by kernel_rfl) h with ⟨hcs,_⟩ | ⟨a,len0,cap0,m,Sx,hcs,_,hle,hcm,hm,hd,hx⟩
 ·simp at hcs
  subst hcs
  exact ⟨none,[],0,rfl,⟨Or.inl rfl,Nat.le_refl _,fun _=>⟨rfl,rfl⟩,Nat.zero_le _,fun x hx=>by cases hx⟩⟩
 ·simp at hcs
  subst hcs
  have hlm:len0<=m:=by rw [hm];split <;> omega
  have hlen:((List.range len0).map Sx).length=len0:=by simp
  have hat:∀ i,i < len0->txt ((List.range len0).map Sx) i=Sx i:=fun i hi=>by
   rw [txt_getElem _ i (by rw [hlen];exact hi)]
   simp
  refine ⟨some a,(List.range len0).map Sx,cap0,by rw [hlen],⟨?_,by rw [hlen];exact hle,(fun e=>by cases e),by rw [hlen];omega,fun x hxm=>?_⟩⟩
  ·by_cases h0:len0=0
   ·exact Or.inl (List.length_eq_zero_iff.1 (by rw [hlen];exact h0))
   ·have hx0:=(hx 0 (by omega)).1
    obtain ⟨b,off,sp⟩:=a
    have hsp:sp=none:=by
     cases sp with
     | none=>rfl
     | some q =>
      exfalso
      simp [Addr.add,World.cell?] at hx0
      revert hx0
      split <;> intro h9 <;> cases h9
    subst hsp
    refine Or.inr ⟨b,off,rfl,?_,fun i hi=>?_⟩
    ·rw [Addr.add_lit] at hx0
     rcases Nat.lt_or_ge b W.heap.size with h' | h'
     ·exact h'
     ·simp [World.cell?,Array.getElem?_eq_none h'] at hx0
    ·rw [hlen] at hi
     have:=(hx i (by omega)).1
     rw [Addr.add_lit] at this
     rw [hat i hi]
     exact this
  ·obtain ⟨i,hi,rfl⟩:=List.mem_map.1 hxm
   exact (hx i (by have:=List.mem_range.1 hi;omega)).2
set_option maxRecDepth 100000 in
theorem cfg_arg8 {H:Type} {enc:TypeId×Value->H} {W:World} {base:Nat} {v:Value} {d:DataW H} {ps:List MemPlace} (hok:Value.okWide Tryz.prog W .any base 24 v) (h:DataW.Trod enc Tryz.prog W 0 (fun _=>true) true 24 v d ps) :
 ∃ c p cap,v=cfgA c (.slice p c.L.length cap)/\TxsIn W c.L p cap/\CfgIn c:=by
 obtain ⟨f0,f1,f2,hst,o0,o1,o2,t0,t1,t2⟩:=qCfgFields
 obtain ⟨cs,rfl,hsz⟩:=okWide_struct hst hok
 rw [qCellsCfg] at hsz
 obtain ⟨fuel,hf⟩:=h
 obtain ⟨csl,hcsl⟩:∃ csl,csl=cs.toList:=⟨_,rfl⟩
 have hcl:csl.length=3:=by rw [hcsl];simpa using hsz
 have hce:cs=csl.toArray:=by rw [hcsl]
 subst hce
 have hf2:DataW.trod enc Tryz.prog W 0 (fun _=>true) true fuel 24 csl=some (d,ps):=by
  have e:(Value.agg csl.toArray).cells.toList=csl:=by simp [Value.cells]
  rw [<- e]
  exact hf
 obtain ⟨z0,z1,z2,n2,_,hlen,k0,k1,k2⟩:=Deep.trod_struct3 hst hf2
 match csl,hcl with
 | [v0,v1,v2],_ =>
  rw [t0,o0,qCellsInt] at k0
  rw [t1,o1,qCellsInt] at k1
  rw [t2,o2,qCellsStrs] at k2
  obtain ⟨cn,hn,_,wn⟩:=DataW.trod_int Tryz.underlying3 k0
  obtain ⟨ck,hk,_,wk⟩:=DataW.trod_int Tryz.underlying3 k1
  obtain ⟨p,l,cap,hl,htx⟩:=strs_arg8 (show DataW.trod _ _ _ _ _ _ _ _ [v2]=some z2 from k2)
  simp at hn hk
  subst hn hk hl
  exact ⟨⟨cn,ck,l⟩,p,cap,rfl,htx,bounds_i64 wn,bounds_i64 wk⟩
end Go.Proofs.YtghpdhegfnhmkaaGreatDoor
namespace Go.Proofs.YtghpdhegfnhmkaaGreatDoor
open Go.RowKit
theorem Seg.kept {w w':World} {q:Option Addr} {l:List Nat} {row:Option Nat} (h:Seg w q l) (hg:w.grownBy w' row) (hne:∀ ad,q=some ad->some ad.block≠row):Seg w' q l:=by
 refine ⟨h.lt,?_⟩
 rcases h.cells with h | ⟨b,o,hp,hlt,hc⟩
 ·exact Or.inl h
 ·refine Or.inr ⟨b,o,hp,Nat.lt_of_lt_of_le hlt hg.size,fun i hi=>?_⟩
  exact (World.cell?_of_block (a:=⟨b,o+i,none⟩) (hg.block b hlt (hne _ hp))).trans (hc i hi)
def OwnMatV (B:Nat) (w:World) (e:TypeId) (v:Value) (vs:List Value) (M:List (List Nat)):Prop :=
 OwnV w B e v vs/\vs.length=M.length/\∀ i,i < M.length->∃ q c,vs[i]?=some (.slice q (rowOf M i).length c)/\Seg w q (rowOf M i)/\(q=none->c=0)/\∀ ad,q=some ad->B<=ad.block/\ad.block < w.heap.size/\v.ownBlock≠some ad.block
def OwnMat (B:Nat) (w:World) (e:TypeId) (v:Value) (M:List (List Nat)):Prop:=∃ vs,OwnMatV B w e v vs M
theorem OwnMat.nil (B:Nat) (w:World) (e:TypeId):OwnMat B w e (.slice none 0 0) []:=⟨[],OwnV.nil w B e,rfl,fun _ hi=>absurd hi (Nat.not_lt_zero _)⟩
theorem Own.form {w:World} {B:Nat} {e:TypeId} {v:Value} {l:List Nat} (h:Own w B e v l) (hl:Gf.Bytes l):∃ q c,v=.slice q l.length c/\Seg w q l/\(q=none->c=0)/\∀ ad,q=some ad->B<=ad.block/\ad.block < w.heap.size:=by
 rcases h.2 with ⟨rfl,h0⟩ | ⟨g,cap,cur,rfl,hb,hg,hnc,hcm,hcs,htake⟩
 ·have:l=[]:=List.length_eq_zero_iff.1 h0
  subst this
  exact ⟨none,0,rfl,⟨hl,Or.inl rfl⟩,fun _=>rfl,fun ad h=>by cases h⟩
 ·refine ⟨some ⟨g,0,none⟩,cap,rfl,?_,(fun h=>by cases h),(fun ad h=>by injection h with h;subst h;exact ⟨hb,(Array.getElem?_eq_some_iff.1 hg).1⟩)⟩
  obtain ⟨p,c,hv,hs⟩:=h.seg hl
  injection hv with h1 h2 h3
  subst h1
  exact hs
theorem OwnMatV.snoc {B:Nat} {w w1 w3:World} {T E:TypeId} {v v' r:Value} {vs:List Value} {M:List (List Nat)} {row:List Nat} {o:Obj} (h:OwnMatV B w T v vs M) (hB:B<=w.heap.size) (hr:Own w1 w.heap.size E r row) (hrow:Gf.Bytes row) (hb:Below w.heap.size w w1)
 (hv:OwnV w3 B T v' (vs ++ [r]))
 (hg:(w1.alloc o).grownBy w3 v.ownBlock) (hw:v'.ownBlock=v.ownBlock∨v'.ownBlock=some (w1.alloc o).heap.size):OwnMatV B w3 T v' (vs ++ [r]) (M ++ [row]):=by
 obtain ⟨hvs,hlen,hall⟩:=h
 have hz:=hb.size
 have hsz:(w1.alloc o).heap.size=w1.heap.size+1:=by simp
 have hvb:∀ k,v.ownBlock=some k->k < w.heap.size:=fun k hk=>(hvs.block hk).2
 have hg1:w1.grownBy w3 v.ownBlock:=⟨hg.os,hg.tape,hg.output,by have:=hg.size;omega,fun k hk hne=>(hg.block k (by omega) hne).trans (Below.heap_alloc w1 o k hk)⟩
 refine ⟨hv,by simp [hlen],fun i hi=>?_⟩
 rw [List.length_append,List.length_singleton] at hi
 by_cases hlt:i < M.length
 ·obtain ⟨q,c,h1,h2,h3,h4⟩:=hall i hlt
  rw [rowOf_append_lt M row i hlt]
  refine ⟨q,c,by rw [List.getElem?_append_left (by omega)];exact h1,(h2.below hb).kept hg1 (fun ad hq=>fun e=>(h4 ad hq).2.2 e.symm),h3,fun ad hq=>?_⟩
  have:=h4 ad hq
  refine ⟨this.1,by have:=hg1.size;omega,?_⟩
  rcases hw with hw | hw
  ·rw [hw];exact this.2.2
  ·rw [hw,hsz];intro e;have:=Option.some.inj e;omega
 ·obtain rfl:i=M.length:=by omega
  rw [rowOf_append_eq]
  obtain ⟨q,c,h1,h2,h3,h4⟩:=hr.form hrow
  refine ⟨q,c,by rw [List.getElem?_append_right (by omega),hlen,Nat.sub_self,h1];rfl,h2.kept hg1 (fun ad hq=>?_),h3,fun ad hq=>?_⟩
  ·have:=h4 ad hq
   intro e
   have:=hvb _ e.symm
   omega
  ·have:=h4 ad hq
   refine ⟨by omega,by have:=hg1.size;omega,?_⟩
   rcases hw with hw | hw
   ·rw [hw];intro e;have:=hvb _ e;omega
   ·rw [hw,hsz];intro e;have:=Option.some.inj e;omega
theorem OwnMat.mat {B:Nat} {w:World} {T:TypeId} {v:Value} {M:List (List Nat)} (h:OwnMat B w T v M):∃ p c,v=.slice p M.length c/\Mat w p M:=by
 obtain ⟨vs,hvs,hlen,hall⟩:=h
 rcases hvs.cells with ⟨rfl,rfl⟩ | ⟨g,cap,rfl,hB,hg,hcell⟩
 ·have:M=[]:=List.length_eq_zero_iff.1 (by simpa using hlen.symm)
  subst this
  exact ⟨none,0,rfl,Or.inl rfl⟩
 ·refine ⟨some ⟨g,0,none⟩,cap,by rw [hlen],Or.inr ⟨g,0,rfl,hg,fun i hi=>?_⟩⟩
  obtain ⟨q,c,h1,h2,h3,_⟩:=hall i hi
  refine ⟨q,c,?_,h2,h3⟩
  rw [Nat.zero_add]
  exact hcell i _ h1
theorem rowinfo:(Tryz.prog.info? 76).map (fun i=>(i.zero,i.size,i.bytes))=some (some (.slice none 0 0),1,24):=by kernel_rfl
def OwnN (w:World) (B:Nat) (E:TypeId) (g n:Nat) (l:List Nat):Prop:=w.ownsRow B E 1 (.slice (some ⟨g,0,none⟩) n n) n (l.map byteV)
theorem OwnN.made (w:World) (B:Nat) (E:TypeId) (n:Nat) (hB:B<=w.heap.size) (hn:n<=1000000):OwnN (w.alloc (.cells (madeCells #[byteV 0] n) E)) B E w.heap.size n (rowFn n fun _=>0):=by
 have h:=World.ownsRow_lit (base:=B) (e:=E) (size:=1) w (madeCells #[byteV 0] n) n hB (by unfold maxLen;omega) (by have:=congrArg List.length (toList_madeCells_one (byteV 0) n);simpa using this)
 rw [toList_madeCells_one] at h
 have e:(rowFn n fun _=>0).map byteV=List.replicate n (byteV 0):=by
  simp [rowFn,List.map_const']
 unfold OwnN
 rw [e]
 exact h
theorem OwnN.cell {w:World} {B:Nat} {E:TypeId} {g n:Nat} {l:List Nat} (h:OwnN w B E g n l) (j:Nat) (hj:j < n) (hl:l.length=n):w.cell? ⟨g,j,none⟩=some (.int .u8 ((Gf.nth l j:Nat):Int)):=by
 rw [World.ownsRow.cellAt (w:=w) h j (by omega),List.getElem?_map,List.getElem?_eq_getElem (by omega),Gf.nth_getElem l j (by omega)]
 rfl
theorem OwnN.free {w:World} {B:Nat} {E:TypeId} {g n:Nat} {l:List Nat} (h:OwnN w B E g n l) (j:Nat):w.frozen? ⟨g,j,none⟩=false:=World.ownsRow.frozenAt (w:=w) h j
theorem OwnN.set {w:World} {B:Nat} {E:TypeId} {g n:Nat} {f:Nat->Nat} (h:OwnN w B E g n (rowFn n f)) (j v:Nat):OwnN (w.setCell ⟨g,j,none⟩ (.int .u8 (v:Int))) B E g n (rowFn n (fun i=>if i=j then v else f i)):=by
 have:=(World.ownsRow.stored (w:=w) h j (byteV v)).1
 rw [<- List.map_set,rowFn_set] at this
 exact this
theorem OwnN.drewN {w:World} {B:Nat} {E:TypeId} {g n:Nat} {l:List Nat} (h:OwnN w B E g n l) (m:Nat):OwnN (w.drewN m) B E g n l:=World.ownsRow.kept h (grownBy_drewN w m none) (Or.inr (by simp [Value.ownBlock]))
theorem OwnN.own {w:World} {B:Nat} {E:TypeId} {g n:Nat} {l:List Nat} (h:OwnN w B E g n l) (hl:l.length=n):Own w B E (.slice (some ⟨g,0,none⟩) n n) l:=by
 unfold Own
 rw [hl]
 exact h
theorem OwnN.lt {w:World} {B:Nat} {E:TypeId} {g n:Nat} {l:List Nat} (h:OwnN w B E g n l):B<=g/\g < w.heap.size:=World.ownsRow.lt h g rfl
def dotN (A B:List (List Nat)) (i j:Nat):Nat->Nat
 | 0=>0
 | k+1=>dotN A B i j k ^^^ Gf.mul (Gf.nth (rowOf A i) k) (Gf.nth (rowOf B k) j)
def prodM (A B:List (List Nat)) (m:Nat):List (List Nat):=(List.range m).map fun i=>rowFn (rowOf B 0).length fun j=>dotN A B i j B.length
def BytesM (M:List (List Nat)):Prop:=∀ i,Gf.Bytes (rowOf M i)
theorem dotN_lt (A B:List (List Nat)) (hA:BytesM A) (i j:Nat):∀ k,dotN A B i j k < 256
 | 0=>by show 0 < 256;decide
 | k+1=>Gf.xlt (dotN_lt A B hA i j k) (Gf.mul_lt (hA i k) _)
theorem Mat.row {w:World} {p:Option Addr} {M:List (List Nat)} (h:Mat w p M) {i:Nat} (hi:i < M.length) (hne:0 < (rowOf M i).length) :
 ∃ b o b1 o1 c,p=some ⟨b,o,none⟩/\b < w.heap.size/\b1 < w.heap.size/\w.cell? ⟨b,o+i,none⟩=some (.slice (some ⟨b1,o1,none⟩) (rowOf M i).length c)/\∀ j,j < (rowOf M i).length->w.cell? ⟨b1,o1+j,none⟩=some (.int .u8 ((Gf.nth (rowOf M i) j:Nat):Int)):=by
 rcases h with h | ⟨b,o,hp,hb,hc⟩
 ·rw [h] at hi;exact absurd hi (Nat.not_lt_zero _)
 ·obtain ⟨q,c,h1,h2,_⟩:=hc i hi
  rcases h2.cells with h3 | ⟨b1,o1,hq,hb1,hc1⟩
  ·rw [h3] at hne;exact absurd hne (Nat.lt_irrefl _)
  ·subst hq
   exact ⟨b,o,b1,o1,c,hp,hb,hb1,h1,hc1⟩
theorem OwnT.setC {w:World} {B b:Nat} {v:Value} {l:List ByteArray} (h:OwnT w B v l) (hb:b < B) (i:Nat) (x:Value):OwnT (w.setCell ⟨b,i,none⟩ x) B v l :=
 World.ownsRow.kept (row:=some b) h ⟨rfl,rfl,rfl,by simp,fun k _ hne=>Deep.blk_setCell_other _ _ _ _ (fun e=>hne (by rw [e]))⟩ (Or.inr fun e=>by have:=(h.block e).1;omega)
set_option maxRecDepth 10000 in
set_option maxHeartbeats 2000000 in
theorem ownConfig_any (c:Cfg) (p:Option Addr) (cap:Nat) (w:World) (hl:c.L.length<=8796093021952) (hs:Strs w p c.L) (hn:p=none->c.L=[]/\cap=0) :
 Calls Tryz.prog 12 #[cfgA c (.slice p c.L.length cap)] w fun e w'=>(∃ q d,e=.returned (cfgA c (.slice q c.L.length d))/\Strs w' q c.L/\c.L.length<=d/\(q=none->c.L=[]/\d=0))/\Below w.heap.size w w':=by
 obtain ⟨cn,ck,cL⟩:=c
 unfold cfgA
 simp only [] at *
 obtain ⟨w1,hw1⟩:∃ w1,w1=(w.alloc (.cells #[.int .i64 cn,.int .i64 ck,.slice p cL.length cap] 24)).alloc (.cells #[.int .i64 0,.int .i64 0,.slice none 0 0] 24):=⟨_,rfl⟩
 have HW1:Hid (w1=(w.alloc (.cells #[.int .i64 cn,.int .i64 ck,.slice p cL.length cap] 24)).alloc (.cells #[.int .i64 0,.int .i64 0,.slice none 0 0] 24)):=hw1
 have hb1:Below w.heap.size w w1:=by rw [hw1];exact ((Below.refl _ _).alloc (Nat.le_refl _) _).alloc (by simp) _
 have e2:(w.alloc (.cells #[.int .i64 cn,.int .i64 ck,.slice p cL.length cap] 24)).heap.size=w.heap.size+1:=by simp
 have hx1:w1.heap[w.heap.size]?=some (.cells #[.int .i64 cn,.int .i64 ck,.slice p cL.length cap] 24 (0,0)):=by
  rw [hw1,heap_alloc_old _ _ (by rw [e2];omega)]
  exact heap_alloc_new _ _
 have hy1:w1.heap[w.heap.size+1]?=some (.cells #[.int .i64 0,.int .i64 0,.slice none 0 0] 24 (0,0)):=by
  rw [hw1,<- e2]
  exact heap_alloc_new _ _
 have hs1:w1.heap.size=w.heap.size+2:=by rw [hw1];simp
 have HS1:Hid (Strs w1 p cL):=hs.below hb1
 have HF1:Hid (w1.heap[w.heap.size]?=some (.cells #[.int .i64 cn,.int .i64 ck,.slice p cL.length cap] 24 (0,0))/\w1.heap[w.heap.size+1]?=some (.cells #[.int .i64 0,.int .i64 0,.slice none 0 0] 24 (0,0))/\Below w.heap.size w w1/\w1.heap.size=w.heap.size+2):=⟨hx1,hy1,hb1,hs1⟩
 have q2:w1.cell? ⟨w.heap.size,2,none⟩=some (.slice p cL.length cap):=by simp [World.cell?,hx1]
 clear hw1 hb1 e2 hx1 hy1 hs1 hs
 go_enter Tryz.func12,Tryz.ntmps12
 go_wp2_with (first | (at_builtin;rw [<- HW1.out];refine wpList_append_strs rfl (.tmp 4) (.tmp 6) rfl w1.heap.size (.slice none 0 0) [] rfl (OwnT.nil _ _) p cL cap rfl HS1.out hn (by show 0+cL.length<=_;omega) (Nat.le_refl _) ?_;intro v2 w2 hO2 hb2;rw [List.nil_append] at hO2;obtain ⟨q,d,hv2,hS2,hd2,hn2,hbk2⟩:=hO2.form;subst hv2;have hx2:=(hb2.block _ (by have:=HF1.out.2.2.2;omega)).trans HF1.out.1;have hy2:=(hb2.block _ (by have:=HF1.out.2.2.2;omega)).trans HF1.out.2.1;have HN2:Hid (q=none->cL=[]/\d=0):=(fun e=>⟨(by rcases hS2 with h | ⟨b,o,hq,_⟩;exact h;rw [e] at hq;cases hq),hn2 e⟩);have HO2:Hid (OwnT w2 w1.heap.size (.slice q cL.length d) cL/\cL.length<=d/\Below w.heap.size w w2):=⟨hO2,hd2,HF1.out.2.2.1.trans (hb2.mono HF1.out.2.2.1.size)⟩;have k0:w2.cell? ⟨w.heap.size,0,none⟩=some (.int .i64 cn):=(by simp [World.cell?,hx2]);have k1:w2.cell? ⟨w.heap.size,1,none⟩=some (.int .i64 ck):=(by simp [World.cell?,hx2]);have k2:w2.cell? ⟨w.heap.size,2,none⟩=some (.slice p cL.length cap):=(by simp [World.cell?,hx2]);have k3:w2.frozen? ⟨w.heap.size,2,none⟩=false:=(by simp [World.frozen?,hx2]);have z0:w2.cell? ⟨w.heap.size+1,0,none⟩=some (.int .i64 0):=(by simp [World.cell?,hy2]);have z1:w2.cell? ⟨w.heap.size+1,1,none⟩=some (.int .i64 0):=(by simp [World.cell?,hy2]);have z2:w2.cell? ⟨w.heap.size+1,2,none⟩=some (.slice none 0 0):=(by simp [World.cell?,hy2]);have z3:∀ i,w2.frozen? ⟨w.heap.size+1,i,none⟩=false:=(fun i=>by simp [World.frozen?,hy2]);clear hO2 hb2 hS2 hd2 hn2 hbk2 hx2 hy2 q2))
 refine bodyPost_ret (v:=.agg #[.int .i64 cn,.int .i64 ck,.slice q cL.length d]) (by simp [results,Tryz.results12,go_sem,z0,z1,z2]) rfl ?_
 have hsz:=HF1.out.2.2.2
 have ho:=(((HO2.out.1.setC (b:=w.heap.size) (by omega) 2 (.slice q cL.length d)).setC (b:=w.heap.size+1) (by omega) 0 (.int .i64 cn)).setC (b:=w.heap.size+1) (by omega) 1 (.int .i64 ck)).setC (b:=w.heap.size+1) (by omega) 2 (.slice q cL.length d)
 obtain ⟨q',d',hv,hS,_⟩:=ho.form
 injection hv with e1 _ e2
 subst e1 e2
 exact ⟨⟨q,d,rfl,hS,HO2.out.2.1,HN2.out⟩,(((HO2.out.2.2.setCell (p:=⟨w.heap.size,2,none⟩) (Nat.le_refl _) _).setCell (p:=⟨w.heap.size+1,0,none⟩) (by show w.heap.size<=w.heap.size+1;omega) _).setCell (p:=⟨w.heap.size+1,1,none⟩) (by show w.heap.size<=w.heap.size+1;omega) _).setCell (p:=⟨w.heap.size+1,2,none⟩) (by show w.heap.size<=w.heap.size+1;omega) _⟩
theorem grown_trans {a b c:World} {row:Option Nat} (h:a.grownBy b row) (k:b.grownBy c row):a.grownBy c row :=
 ⟨k.os.trans h.os,k.tape.trans h.tape,k.output.trans h.output,Nat.le_trans h.size k.size,fun i hi hne=>(k.block i (Nat.lt_of_lt_of_le hi h.size) hne).trans (h.block i hi hne)⟩
theorem below_grown {w w':World} (h:Below w.heap.size w w') (row:Option Nat):w.grownBy w' row:=⟨h.os,h.tape,h.output,h.size,fun i hi _=>h.block i hi⟩
theorem grown_set (w:World) (g j:Nat) (v:Value):w.grownBy (w.setCell ⟨g,j,none⟩ v) (some g) :=
 ⟨rfl,rfl,rfl,by simp [World.setCell],fun i _ hne=>Below.heap_setCell w _ v i (fun e=>hne (by rw [e]))⟩
theorem OwnN.below {w w':World} {B:Nat} {E:TypeId} {g n:Nat} {l:List Nat} (h:OwnN w B E g n l) (hb:Below w.heap.size w w'):OwnN w' B E g n l:=World.ownsRow.kept h (below_grown hb none) (Or.inr (by simp [Value.ownBlock]))
set_option maxRecDepth 10000 in
set_option maxHeartbeats 2000000 in
theorem change_any (g n B:Nat) (old val:Nat->Nat) (fn:FuncId) (caps:Array Value) (w:World) (hn:n<=1000) (hent:∀ args W,Sem.run Tryz.prog (callFunc fn args) W=.ok (.enter fn args) W) (hO:OwnN w B 5 g n (rowFn n old))
 (hc:∀ j,j < n->∀ w1,w.grownBy w1 (some g)->OwnN w1 B 5 g n (rowFn n (fun i=>if i < j then val i else old i)) ->
  Calls Tryz.prog fn (#[.int .i64 (j:Int)] ++ caps) w1 fun e w2=>e=.returned (.int .u8 ((val j:Nat):Int))/\Below w1.heap.size w1 w2) :
 Calls Tryz.prog 130 #[.slice (some ⟨g,0,none⟩) n n,.func (.func fn) #[] caps] w fun e w'=>e=.returned (.tuple #[])/\OwnN w' B 5 g n (rowFn n val)/\w.grownBy w' (some g):=by
 go_enter Tryz.func130,Tryz.ntmps130
 go_wp2
 go_loopw [7] (fun x wr=>∃ k:Nat,k<=n/\x=.int .i64 k/\OwnN wr B 5 g n (rowFn n (fun i=>if i < k then val i else old i))/\w.grownBy wr (some g)) (fun x _=>n - (intOf x).toNat)
 case atStart=>exact ⟨0,by omega,rfl,by simpa using hO,below_grown (Below.refl _ _) _⟩
 case round =>
  obtain ⟨k,hk,rfl,hO1,hg1⟩:=hrel
  by_cases hlt:k < n
  ·have HC:=hc k hlt wr hg1 hO1
   have HO:Hid (OwnN wr B 5 g n (rowFn n (fun i=>if i < k then val i else old i))):=hO1
   have HG:Hid (w.grownBy wr (some g)):=hg1
   clear hO1 hg1 hc hO
   go_wp2_with fail
   refine HC.mono ?_
   rintro e w2 ⟨rfl,hb2⟩
   have hO2:=HO.out.below hb2
   have hf:w2.frozen? ⟨g,k,none⟩=false:=hO2.free k
   have hcl:=hO2.cell k hlt (rowFn_length _ _)
   have hO3:=hO2.set k (val k)
   rw [rowFn_congr n _ (fun i=>if i < k+1 then val i else old i) (fun i _=>by by_cases e:i=k <;> by_cases e':i < k <;> simp [e,e'] <;> omega)] at hO3
   have HO3:Hid (OwnN (w2.setCell ⟨g,k,none⟩ (.int .u8 ((val k:Nat):Int))) B 5 g n (rowFn n (fun i=>if i < k+1 then val i else old i))):=hO3
   have HG3:Hid (w.grownBy (w2.setCell ⟨g,k,none⟩ (.int .u8 ((val k:Nat):Int))) (some g)):=grown_trans (grown_trans HG.out (below_grown hb2 _)) (grown_set _ _ _ _)
   clear hO2 hO3 hb2 HC HO HG hent
   go_wp2
   go_roundw
   case rel=>exact ⟨k+1,by omega,by go_num,HO3.out,HG3.out⟩
   case measure=>simp [intOf];omega
  ·have hke:k=n:=by omega
   subst hke
   go_wp2
   go_end0
   refine ⟨rfl,?_,hg1⟩
   rw [rowFn_congr k val (fun i=>if i < k then val i else old i) (fun i hi=>by simp [hi])]
   exact hO1
set_option maxRecDepth 10000 in
set_option maxHeartbeats 2000000 in
theorem sum_any (n:Nat) (val:Nat->Nat) (fn:FuncId) (caps:Array Value) (w:World) (hn:n<=1000) (hval:∀ l,val l < 256) (hent:∀ args W,Sem.run Tryz.prog (callFunc fn args) W=.ok (.enter fn args) W)
 (tot:Nat->Nat) (ht0:tot 0=0) (hts:∀ l,tot (l+1)=tot l ^^^ val l) (htl:∀ l,tot l < 256)
 (hc:∀ l,l < n->∀ w1,Below w.heap.size w w1->Calls Tryz.prog fn (#[.int .i64 (l:Int)] ++ caps) w1 fun e w2=>e=.returned (.int .u8 ((val l:Nat):Int))/\Below w1.heap.size w1 w2) :
 Calls Tryz.prog 139 #[.int .i64 (n:Int),.func (.func fn) #[] caps] w fun e w'=>e=.returned (.int .u8 ((tot n:Nat):Int))/\Below w.heap.size w w':=by
 have HT0:Hid (tot 0=0):=ht0
 have HTS:Hid (∀ l,tot (l+1)=tot l ^^^ val l):=hts
 clear ht0 hts
 go_enter Tryz.func139,Tryz.ntmps139
 go_wp2
 go_loopw [5,8] (fun s x wr=>∃ k:Nat,k<=n/\x=.int .i64 k/\s=.int .u8 ((tot k:Nat):Int)/\Below w.heap.size w wr) (fun _ x _=>n - (intOf x).toNat)
 case atStart=>exact ⟨0,by omega,rfl,by rw [HT0.out];rfl,Below.refl _ _⟩
 case round =>
  obtain ⟨k,hk,rfl,rfl,hb⟩:=hrel
  by_cases hlt:k < n
  ·have HC:=hc k hlt wr hb
   have HB:Hid (Below w.heap.size w wr):=hb
   have hz:w.heap.size<=wr.heap.size:=hb.size
   have lt:=htl k
   have lv:=hval k
   have HS:Hid (tot (k+1)=tot k ^^^ val k):=HTS.out k
   clear hb hc HTS HT0 hval htl
   generalize tot k=t at HS lt ⊢
   generalize val k=v at HS lv HC
   go_wp2_with fail
   refine HC.mono ?_
   rintro e w2 ⟨rfl,hb2⟩
   have HB2:Hid (Below w.heap.size w w2):=HB.out.trans (hb2.mono hz)
   clear hb2 HC HB hent
   go_wp2_with (go_at_call 112;refine (add_any t v _ lt lv).mono ?_;rintro e w' ⟨rfl,rfl⟩)
   go_roundw
   case rel=>exact ⟨k+1,by omega,by go_num,by rw [HS.out],HB2.out⟩
   case measure=>simp [intOf];omega
  ·have hke:k=n:=by omega
   subst hke
   go_wp2
   go_ret
   exact ⟨rfl,hb⟩
theorem fits_any (n:Nat) (w:World) (hn:n < 2 ^ 62):Calls Tryz.prog 129 #[.int .i64 (n:Int)] w fun e w'=>e=.returned (.bool (decide (1<=n/\n<=16)))/\w'=w:=by
 by_cases h1:1<=n
 ·by_cases h2:n<=16
  ·have HD:Hid (decide (1<=n/\n<=16)=true):=decide_eq_true ⟨h1,h2⟩
   go_enter Tryz.func129,Tryz.ntmps129
   go_wp2
   go_ret
   exact ⟨ret_bool ((decide_eq_true (by omega)).trans HD.out.symm),rfl⟩
  ·have HD:Hid (decide (1<=n/\n<=16)=false):=decide_eq_false (fun h=>h2 h.2)
   go_enter Tryz.func129,Tryz.ntmps129
   go_wp2
   go_ret
   exact ⟨ret_bool ((decide_eq_false (by omega)).trans HD.out.symm),rfl⟩
 ·rw [decide_eq_false (fun h=>h1 h.1:¬ (1<=n/\n<=16))]
  go_enter Tryz.func129,Tryz.ntmps129
  go_wp2
  go_ret
  exact ⟨rfl,rfl⟩
theorem fits_yes (n:Nat) (w:World) (h1:1<=n) (h2:n<=16):Calls Tryz.prog 129 #[.int .i64 (n:Int)] w fun e w'=>e=.returned (.bool true)/\w'=w:=by
 have:=fits_any n w (by omega)
 rw [decide_eq_true (⟨h1,h2⟩:1<=n/\n<=16)] at this
 exact this
set_option maxRecDepth 10000 in
set_option maxHeartbeats 2000000 in
theorem check_ok (p:Option Addr) (M:List (List Nat)) (cap:Nat) (w:World) (hM:IsMat M) (h:Mat w p M) :
 Calls Tryz.prog 117 #[.slice p M.length cap] w fun e w'=>e=.returned .nilIface/\w'=w:=by
 have HM:Hid (IsMat M):=hM
 have l1:1<=M.length:=hM.1
 have l2:M.length<=16:=hM.2.1
 have n1:1<=(rowOf M 0).length:=(hM.2.2 0 (by omega)).1
 have n2:(rowOf M 0).length<=16:=(hM.2.2 0 (by omega)).2.1
 clear hM
 rcases h with h | ⟨b,o,rfl,hb,hc⟩
 ·rw [h] at l1;simp at l1
 obtain ⟨q0,c0,hc0,_⟩:=hc 0 (by omega)
 have hc0':w.cell? ⟨b,o,none⟩=some (.slice q0 (rowOf M 0).length c0):=hc0
 have HC:Hid (∀ i,i < M.length->∃ q c,w.cell? ⟨b,o+i,none⟩=some (.slice q (rowOf M 0).length c)):=fun i hi=>by
  obtain ⟨q,c,h1,_⟩:=hc i hi
  rw [(HM.out.2.2 i hi).2.2] at h1
  exact ⟨q,c,h1⟩
 clear hc hc0
 generalize (rowOf M 0).length=n at *
 go_enter Tryz.func117,Tryz.ntmps117
 go_wp2_with (first | (go_at_call 129;with_reducible refine (fits_yes M.length _ l1 l2).mono ?_;rintro e w' ⟨rfl,rfl⟩) | (go_at_call 129;refine (fits_yes n _ n1 n2).mono ?_;rintro e w' ⟨rfl,rfl⟩))
 go_loop [20] (fun j=>∃ k:Nat,k<=M.length/\j=.int .i64 k) (fun j=>M.length - (intOf j).toNat)
 case atStart=>exact ⟨0,by omega,rfl⟩
 case round =>
  obtain ⟨k,hk,rfl⟩:=hrel
  by_cases hlt:k < M.length
  ·obtain ⟨q,c,hq⟩:=HC.out k hlt
   go_wp2
   go_round
   case rel=>exact ⟨k+1,by omega,by go_num⟩
   case measure=>simp [intOf];omega
  ·go_wp2
   go_ret
   exact ⟨rfl,rfl⟩
end Go.Proofs.YtghpdhegfnhmkaaGreatDoor
