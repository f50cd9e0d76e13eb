/- Texts laid together. -/
import Derived.Test.YtmikbldbfnlfjaaGreatDoorRows
import Derived.ProofKit
import Derived.LaidLaws
import Derived.LaidHandle
import Derived.LaidMore
import Derived.Stop.LaidErr
import Derived.Test.YtmikbldbfnlfjaaGreatDoorCs0
import Derived.WalkSmall
import Derived.OwnWalk
import Derived.Laws.AppendOwn
import Derived.Laws.AppendOwnNone
import Derived.Laws.BitsAllLaws
import Derived.Laws.BitsLemmas
import Derived.Laws.BytesArg
import Derived.BigQuiet
import Derived.Deep.QuietTactic
import Derived.Shelf.Abstract
set_option maxRecDepth 10000
set_option maxHeartbeats 4000000
namespace Go.Proofs.YtmikbldbfnlfjaaGreatDoor
open Go.Proofs.Tryz
open Go.RowKit
variable {P:Int×ByteArray->Bool}{W w w':World}{K:List Oper}{b B k i j size:Nat}{o:Oper}{v U:Value}{p:Option Addr}{T e:TypeId}{J:Array Oper}{a:Act}{Q:Exit->Act->World->Prop}{l:List ByteArray}{x s:ByteArray}{row:Option Nat}
section
open Go.ChangeShapes Go.WideShapes Go.RowKit
def GZ (text:List UInt8):DataW Unit:=.iface "*errors.errorString" (.ptr (.agg [.lit (.string text)]))
theorem UX {P:Program} {ti K M N:TypeId} {ms:Array (String×TypeId)} {f:Field}
 (hi:P.underlying ti=some (.interface ms)) (b1:∀ u,P.typeName? 3 u=some "*errors.errorString"->u=K)
 (hp:P.underlying K=some (.pointer M)) (he:P.underlying M=some (.struct #[f])) (b2:f.type=N) (b3:f.offset=0) (hs:P.underlying N=some .string) (hc:P.cellsOf M=1) (b4:P.cellsOf N=1) :
 ∀ (L:List (String×List UInt8)) (ps:List MemPlace),DataW.LaidVars P W (L.map fun x=>(x.1,GZ x.2)) ps ->
  (∀ x ∈ L,∃ g,P.globalNamed x.1=some g/\(P.globals[g]?).map (·.type)=some ti) ->
  (∀ b J,MemPlace.cell b J ∈ ps->(∃ c t,W.heap[b]?=some (.cells c t (0,0)))/\∀ u v,W.cell? ⟨b,J,none⟩=some (.iface u v)->Value.okWide P W .any 0 u v) ->
  ∃ ad:Nat->Addr,(∀ i x,L[i]?=some x->MemPlace.cell (ad i).block (ad i).off ∈ ps/\W.var? P x.1=some #[.iface K (.pointer (some (ad i)))]) /\
   (ps.Nodup->∀ i j,i < L.length->j < L.length->i≠j->ad i≠ad j):=by
 intro L
 induction L with
 | nil =>
  intro ps _ _ _
  exact ⟨fun _=>⟨0,0,none⟩,fun i x h=>by simp at h,fun _ i j h=>by simp at h⟩
 | cons x r ih =>
  intro ps hl O Q
  obtain ⟨g0,t0,a2,f0,p0,U,X,a3,Y,a4,hq,rfl⟩:=hl
  obtain ⟨g,hg,ht⟩:=O x (List.mem_cons_self ..)
  obtain rfl:=Option.some.inj (hg.symm.trans X)
  obtain rfl:=Option.some.inj (ht.symm.trans a3)
  obtain ⟨ad,Z,h2⟩:=ih U hq (fun y G=>O y (List.mem_cons_of_mem _ G)) (fun b J I=>Q b J (List.mem_append_right _ I))
  obtain ⟨l0⟩:=a2
  have a5:∀ u v,l0=[.iface u v]->Value.okWide P W .any 0 u v:=fun u v e=>by
   subst e
   exact (Q g 0 (by simp [MemPlace.row])).2 u v (by simpa using World.var?_cell X Y 0)
  obtain ⟨a0,s0,rfl,b5,b6,b7,rfl⟩:=errorString_of_trod hi b1 hp he b2 b3 hs hc b4 a4 a5
  refine ⟨fun i=>match i with | 0=>a0 | k+1=>ad k,?_,?_⟩
  ·intro i y G
   match i with
   | 0 =>
    obtain rfl:x=y:=by simpa using G
    exact ⟨by simp [MemPlace.row],Y⟩
   | k+1 =>
    have:=Z k y (by simpa using G)
    exact ⟨List.mem_append_right _ this.1,this.2⟩
  ·intro a1 i j a6 a7 a8
   have a9:U.Nodup:=List.Nodup.sublist (List.sublist_append_right _ _) a1
   have hd:∀ k,k < r.length->a0≠ad k:=by
    intro k D e
    obtain ⟨y,G⟩:∃ y,r[k]?=some y:=⟨r[k],List.getElem?_eq_getElem D⟩
    have I:=(Z k y G).1
    rw [<- e] at I
    have b0:=(List.nodup_append.1 a1).2.2
    exact b0 _ (List.mem_append_right _ (by simp [MemPlace.row])) _ I rfl
   match i,j,a6,a7,a8 with
   | 0,0,_,_,h=>exact absurd rfl h
   | 0,k+1,_,D,_=>exact hd k (by simpa using D)
   | k+1,0,D,_,_=>exact (hd k (by simpa using D)).symm
   | k+1,m+1,D,I,hne=>exact h2 a9 k m (by simpa using D) (by simpa using I) (fun e=>hne (by rw [e]))
theorem AY {P:Program} {W:World}:∀ (L M:List (String×DataW Unit)) (ps:List MemPlace),DataW.LaidVars P W (L ++ M) ps->∃ p q,ps=p ++ q/\DataW.LaidVars P W M q
 | [],_,ps,h=>⟨[],ps,rfl,h⟩
 | x :: L,M,ps,h=>by
  obtain ⟨G,I,J,f0,K,j,N,O,Q,U,y,rfl⟩:=h
  obtain ⟨p,q,rfl,D⟩:=AY L M j y
  exact ⟨_,q,(List.append_assoc _ _ _).symm,D⟩
theorem ID : "*" ++ "errors.errorString" = "*errors.errorString":=by kernel_rfl
theorem JtW (u:TypeId) (h:prog.typeName? 3 u=some "*errors.errorString"):u=252 :=
 typeName_ptr_named (nm := "errors.errorString") (by rw [ID];kernel_rfl) (by kernel_rfl) (by decide) u (by rw [ID];exact h)
end
section
open Go.Extern.Stop Go.Stop Go.Extern
structure O4 (w:World) (ad:Nat->Addr):Prop where
 c0:w.cell? ⟨1,0,none⟩=some (.iface 252 (.pointer (some (ad 0))))
 c1:w.cell? ⟨0,0,none⟩=some (.iface 252 (.pointer (some (ad 1))))
 c2:w.cell? ⟨2,0,none⟩=some (.iface 252 (.pointer (some (ad 2))))
 c3:w.cell? ⟨3,0,none⟩=some (.iface 252 (.pointer (some (ad 3))))
 c4:w.cell? ⟨4,0,none⟩=some (.iface 252 (.pointer (some (ad 4))))
 c5:w.cell? ⟨5,0,none⟩=some (.iface 252 (.pointer (some (ad 5))))
 c6:w.cell? ⟨6,0,none⟩=some (.iface 252 (.pointer (some (ad 6))))
 c7:w.cell? ⟨7,0,none⟩=some (.iface 252 (.pointer (some (ad 7))))
 c8:w.cell? ⟨8,0,none⟩=some (.iface 252 (.pointer (some (ad 8))))
 c9:w.cell? ⟨9,0,none⟩=some (.iface 252 (.pointer (some (ad 9))))
 wH:w.cell? ⟨10,0,none⟩=some (.iface 252 (.pointer (some (ad 10))))
 x8:w.cell? ⟨11,0,none⟩=some (.iface 252 (.pointer (some (ad 11))))
 typ:w.cell? ⟨12,0,none⟩=some (.iface 190 (.agg #[.pointer (some ⟨17,33,none⟩)]))
 row:∀ i,i < 12->∃ c t,w.heap[(ad i).block]?=some (.cells c t (0,0))
 ne:∀ i j,i < 12->j < 12->i≠j->ad i≠ad j
theorem Qf {o:Nat} (h:w.cell? ⟨b,o,none⟩=some v):b < w.heap.size:=by
 rcases Nat.lt_or_ge b w.heap.size with j | j
 ·exact j
 ·simp [World.cell?,Array.getElem?_eq_none j] at h
theorem L2  {o:Obj} (h:w.heap[b]?=some o):b < w.heap.size:=by
 rcases Nat.lt_or_ge b w.heap.size with j | j
 ·exact j
 ·rw [Array.getElem?_eq_none j] at h;cases h
theorem O4.below {ad:Nat->Addr} (h:O4 w ad) (j:Below w.heap.size w w'):O4 w' ad where
 c0:=(j.cell (Qf h.c0)).trans h.c0
 c1:=(j.cell (Qf h.c1)).trans h.c1
 c2:=(j.cell (Qf h.c2)).trans h.c2
 c3:=(j.cell (Qf h.c3)).trans h.c3
 c4:=(j.cell (Qf h.c4)).trans h.c4
 c5:=(j.cell (Qf h.c5)).trans h.c5
 c6:=(j.cell (Qf h.c6)).trans h.c6
 c7:=(j.cell (Qf h.c7)).trans h.c7
 c8:=(j.cell (Qf h.c8)).trans h.c8
 c9:=(j.cell (Qf h.c9)).trans h.c9
 wH:=(j.cell (Qf h.wH)).trans h.wH
 x8:=(j.cell (Qf h.x8)).trans h.x8
 typ:=(j.cell (Qf h.typ)).trans h.typ
 row:=fun i D=>by
  obtain ⟨c,t,y⟩:=h.row i D
  exact ⟨c,t,(j.block _ (L2 y)).trans y⟩
 ne:=h.ne
theorem Jee (w:World):Calls prog 38 #[.nilIface] w fun e w'=>e=.returned (.tuple #[.int .i64 0,.int .i64 (-1)])/\w'=w:=by
 go_enter func38,ntmps38
 go_wp2
 go_ret2
 exact ⟨rfl,rfl⟩
def O6 (ad:Nat->Addr):Array Value:=#[.iface 252 (.pointer (some (ad 0))),.iface 252 (.pointer (some (ad 1))),.iface 252 (.pointer (some (ad 2))),.iface 252 (.pointer (some (ad 3))),.iface 252 (.pointer (some (ad 4))),.iface 252 (.pointer (some (ad 5))),.iface 252 (.pointer (some (ad 6))),.iface 252 (.pointer (some (ad 7))),.iface 252 (.pointer (some (ad 8))),.iface 252 (.pointer (some (ad 9))),.iface 252 (.pointer (some (ad 10))),.iface 252 (.pointer (some (ad 11)))]
theorem Jbp (ad:Nat->Addr) (w:World):∀ k,k < 12->(w.alloc (.cells (O6 ad) 33)).cell? ⟨w.heap.size,k,none⟩=some (.iface 252 (.pointer (some (ad k)))):=by
 intro k j
 have e:(O6 ad)[k]?=some (.iface 252 (.pointer (some (ad k)))):=by
  match k,j with
  | 0,_ | 1,_ | 2,_ | 3,_ | 4,_ | 5,_ | 6,_ | 7,_ | 8,_ | 9,_ | 10,_ | 11,_=>rfl
 rw [World.cell?_alloc_at _ _ _ _ (by simp)]
 exact e
theorem JdT (ad:Nat->Addr) (i:Nat) (hi:i < 12) (w:World) (hS:O4 w ad) :
 Calls prog 38 #[.iface 252 (.pointer (some (ad i)))] w fun e w'=>e=.returned (.tuple #[.int .i64 ((i+1:Nat):Int),.int .i64 (-1)])/\Below w.heap.size w w':=by
 have Q:Below w.heap.size w (w.alloc (.cells #[.pointer none] 112)):=(Below.refl _ _).alloc (Nat.le_refl _) _
 have J:=hS.below Q
 go_enter func38,ntmps38
 go_wp2_with fail
 refine (JeF _ _ _ J.typ).mono ?_
 rintro e j ⟨rfl,G⟩
 have K:=J.below G
 have a3:=K
 obtain ⟨c0,c1,c2,c3,c4,c5,c6,c7,c8,c9,wH,x8,_,_,_⟩:=a3
 go_wp2
 clear c0 c1 c2 c3 c4 c5 c6 c7 c8 c9 wH x8 Q J hS
 have M:Below j.heap.size j (j.alloc (.cells (O6 ad) 33)):=(Below.refl _ _).alloc (Nat.le_refl _) _
 have D:=K.below M
 have I:=Jbp ad j
 have N:Hid (Below w.heap.size w (j.alloc (.cells (O6 ad) 33))):=(((Below.refl _ _).alloc (Nat.le_refl _) _).trans (G.mono (by simp))).trans (M.mono (by have:=G.size;simp at this;omega))
 have e3:(j.alloc (.cells (O6 ad) 33)).heap.size=j.heap.size+1:=by simp
 unfold O6 at D I N
 generalize j.alloc (.cells _ 33)=U at D I N ⊢
 clear G M K e3
 go_loop [3,30] (fun y x=>y=.int .i64 (-1)/\∃ k:Nat,k<=i/\x=.int .i64 k) (fun _ x=>12 - (intOf x).toNat)
 case atStart=>exact ⟨rfl,0,by omega,rfl⟩
 case round =>
  obtain ⟨rfl,k,hk,rfl⟩:=hrel
  have O:k < 12:=by omega
  have hc:=I k O
  obtain ⟨W,X,Y⟩:=D.row i hi
  obtain ⟨Z,tb,a0⟩:=D.row k O
  clear I
  by_cases a1:k=i
  ·subst a1
   go_wp2_with (go_at_call 60;refine (JeE (ad k) _).mono ?_;rintro e w' ⟨rfl,rfl⟩)
   go_ret2
   exact ⟨by simp,N.out⟩
  ·have a2:=D.ne i k hi O (fun h=>a1 h.symm)
   have HN:Hid (ad i≠ad k):=a2
   have HA:Hid (U.heap[(ad i).block]?=some (.cells W X (0,0))):=Y
   have HB:Hid (U.heap[(ad k).block]?=some (.cells Z tb (0,0))):=a0
   clear a2 Y a0
   go_wp2_with (go_at_call 60;refine (Jek (ad i) (ad k) W Z X tb _ HN.out HA.out HB.out).mono ?_;rintro e w' ⟨rfl,rfl⟩)
   go_round
   case rel=>exact ⟨rfl,k+1,by omega,by go_num⟩
   case measure=>simp [intOf];omega
end
section
open Go.ChangeShapes Go.WideShapes Go.RowKit
def MD:List (String×List UInt8):=(Rows.carryHearsRow.laid.drop (0+1)).map fun x=>(x.1,match x.2 with | .iface _ (.ptr (.agg [.lit (.string t)]))=>t | _=>[])
theorem Jdr (W:World):laidMetH prog Rows.carryHearsRow.laid W=(laidMet prog (Rows.carryHearsRow.laid.take 0 ++ MD.map fun x=>(x.1,GZ x.2)) W/\handlesMet prog ((Rows.carryHearsRow.laid.drop 0).take 1) W):=by kernel_rfl
theorem Jd0:(MD.all fun x=>match prog.globalNamed x.1 with | some g=>(prog.globals[g]?).map (·.type)==some 33 | none=>false)=true:=by kernel_rfl
theorem g12:MD.map (fun x=>prog.globalNamed x.1)=[some 1,some 0,some 2,some 3,some 4,some 5,some 6,some 7,some 8,some 9,some 10,some 11]:=by kernel_rfl
theorem JeG:prog.globalNamed "errors.errorType"=some 12:=by kernel_rfl
theorem Jd1:((List.range 283).filter fun t=>prog.rowNamed t [101,114,114,111,114])=[33]:=by kernel_rfl
theorem Jd2:prog.types.size=283:=by kernel_rfl
theorem JcH (h:laidMetH prog Rows.carryHearsRow.laid W):∃ ad,O4 W ad:=by
 rw [Jdr] at h
 obtain ⟨⟨a5,K,M,N⟩,Y⟩:=h
 obtain ⟨pp,ps,rfl,Z⟩:=AY _ _ _ K
 have a0:ps.Nodup:=List.Nodup.sublist (List.sublist_append_right _ _) M
 have O:=fun b Q (G:MemPlace.cell b Q ∈ ps)=>N b Q (List.mem_append_right _ G)
 clear K M N
 have hn:∀ x ∈ MD,∃ g,prog.globalNamed x.1=some g/\(prog.globals[g]?).map (·.type)=some 33:=by
  intro x D
  have:=List.all_eq_true.1 Jd0 x D
  split at this
  ·rename_i g J
   exact ⟨g,J,by simpa using this⟩
  ·cases this
 have a1:prog.cellsOf 271=1:=by kernel_rfl
 have c9:prog.cellsOf 9=1:=by kernel_rfl
 obtain ⟨ad,U,h2⟩:=UX underlying33 JtW underlying252 underlying271 rfl rfl underlying9 a1 c9 MD ps Z hn O
 have a2:∀ i g x,MD[i]?=some x->prog.globalNamed x.1=some g->W.cell? ⟨g,0,none⟩=some (.iface 252 (.pointer (some (ad i)))):=by
  intro i g x D J
  simpa using World.var?_cell J (U i x D).2 0
 have y:∀ i g,(MD.map (fun x=>prog.globalNamed x.1))[i]?=some (some g)->W.cell? ⟨g,0,none⟩=some (.iface 252 (.pointer (some (ad i)))):=by
  intro i g D
  rw [List.getElem?_map] at D
  obtain ⟨x,a3,a4⟩:=Option.map_eq_some_iff.1 D
  exact a2 i g x a3 a4
 rw [g12] at y
 have len:MD.length=12:=rfl
 refine ⟨ad,y 0 _ rfl,y 1 _ rfl,y 2 _ rfl,y 3 _ rfl,y 4 _ rfl,y 5 _ rfl,y 6 _ rfl,y 7 _ rfl,y 8 _ rfl,y 9 _ rfl,y 10 _ rfl,y 11 _ rfl,?_,?_,fun i j I hj=>h2 a0 i j (by rw [len];exact I) (by rw [len];exact hj)⟩
 ·obtain ⟨name,u,ty,e1,e2,e3,e4,X⟩:=Y _ (List.mem_singleton.2 rfl)
  have en:name=[101,114,114,111,114]:=(Option.some.inj e1).symm
  subst en
  obtain rfl:190=u:=Option.some.inj ((show _=some 190 by kernel_rfl).symm.trans e2)
  have G:ty ∈ (List.range 283).filter fun t=>prog.rowNamed t [101,114,114,111,114]:=List.mem_filter.2 ⟨List.mem_range.2 (by rw [<- Jd2];exact e3),e4⟩
  rw [Jd1] at G
  obtain rfl:=List.mem_singleton.1 G
  have hh:typeHandle prog 33=.pointer (some ⟨17,33,none⟩):=by kernel_rfl
  rw [hh] at X
  simpa using World.var?_cell JeG X 0
 ·intro i I
  obtain ⟨x,D⟩:∃ x,MD[i]?=some x:=⟨MD[i]'(by rw [len];exact I),List.getElem?_eq_getElem (by rw [len];exact I)⟩
  exact (O _ _ (U i x D).1).1
theorem own:ownKnob prog.godebug=none:=by kernel_rfl
end
section
structure eW (α:Type) where
 k:Nat
 pos:0 < k
 enc:α->List Value
 len:∀ x,(enc x).length=k
 one:∀ x,∀ u ∈ enc x,u.oneCell'=true
variable {α:Type} {E:eW α}
def Qb (E:eW α) (l:List α):List Value:=l.flatMap E.enc
theorem Qr (E:eW α):∀ l:List α,(Qb E l).length=l.length*E.k
 | []=>by simp [Qb]
 | x :: l=>by
  have:=Qr E l
  unfold Qb at this ⊢
  rw [List.flatMap_cons,List.length_append,this,E.len,List.length_cons,Nat.add_mul,Nat.one_mul,Nat.add_comm]
theorem Qj (E:eW α) (l m:List α):Qb E (l ++ m)=Qb E l ++ Qb E m:=by unfold Qb;rw [List.flatMap_append]
theorem qK (E:eW α) (x:α):Qb E [x]=E.enc x:=by simp [Qb]
theorem uH (E:eW α):∀ (l:List α) (i:Nat) (x:α),l[i]?=some x->∀ j u,(E.enc x)[j]?=some u->(Qb E l)[i*E.k+j]?=some u
 | [],i,x,h,_,_,_=>by simp at h
 | y :: l,0,x,h,j,u,hj=>by
  obtain rfl:y=x:=by simpa using h
  unfold Qb
  rw [List.flatMap_cons,Nat.zero_mul,Nat.zero_add,List.getElem?_append_left (List.getElem?_eq_some_iff.1 hj).1]
  exact hj
 | y :: l,i+1,x,h,j,u,hj=>by
  have ih:=uH E l i x (by simpa using h) j u hj
  unfold Qb at ih ⊢
  rw [List.flatMap_cons,List.getElem?_append_right (by rw [E.len];have:=Nat.le_mul_of_pos_left E.k (show 0 < i+1 by omega);omega),E.len]
  have e:(i+1)*E.k+j - E.k=i*E.k+j:=by rw [Nat.add_mul,Nat.one_mul];omega
  rw [e]
  exact ih
def Ql (E:eW α) (w:World) (p:Option Addr) (l:List α):Prop :=
 l=[]∨∃ b o,p=some ⟨b,o,none⟩/\b < w.heap.size/\∀ i x,l[i]?=some x->∀ j u,(E.enc x)[j]?=some u->w.cell? ⟨b,o+i*E.k+j,none⟩=some u
theorem Ql.nil (w:World) (p:Option Addr):Ql E w p []:=Or.inl rfl
theorem Ql.drewN  {l:List α} (h:Ql E w p l) (n:Nat):Ql E (w.drewN n) p l:=h
theorem Ql.below  {l:List α} (h:Ql E w p l) (D:Below w.heap.size w w'):Ql E w' p l:=by
 rcases h with h | ⟨b,o,G,y,I⟩
 ·exact Or.inl h
 ·exact Or.inr ⟨b,o,G,Nat.lt_of_lt_of_le y D.size,fun i x J j u K=>(D.cell (p:=⟨b,o+i*E.k+j,none⟩) y).trans (I i x J j u K)⟩
def Zc (E:eW α) (T:TypeId) (w:World) (B:Nat) (v:Value) (l:List α):Prop:=w.ownsRow B T E.k v l.length (Qb E l)
theorem Zc.nil (T:TypeId) (w:World) (B:Nat):Zc E T w B (.slice none 0 0) []:=World.ownsRow_nil w B T E.k
theorem Zc.block   {l:List α} (h:Zc E T w B v l) (j:v.ownBlock=some k):B<=k/\k < w.heap.size:=World.ownsRow.lt h k j
theorem Zc.kept   {l:List α} (h:Zc E T w B v l) (j:Below w.heap.size w w'):Zc E T w' B v l :=
 World.ownsRow.kept (row:=none) h ⟨j.os,j.tape,j.output,j.size,fun k y _=>j.block k y⟩ (by cases v.ownBlock <;> simp)
theorem Zc.base  {y:Nat} {l:List α} (h:Zc E T w B v l) (N:y<=B):Zc E T w y v l:=by
 obtain ⟨D,j⟩:=h
 refine ⟨D,?_⟩
 rcases j with j | ⟨g,G,I,J,K,M⟩
 ·exact Or.inl j
 ·exact Or.inr ⟨g,G,I,J,Nat.le_trans N K,M⟩
theorem Zc.form   {l:List α} (h:Zc E T w B v l):∃ p c,v=.slice p l.length c/\Ql E w p l/\l.length<=c/\(p=none->l=[]/\c=0)/\∀ b o,p=some ⟨b,o,none⟩->B<=b/\b < w.heap.size:=by
 have y:w.ownsRow B T E.k v l.length (Qb E l):=h
 rcases y.2 with ⟨rfl,I⟩ | ⟨g,J,U,rfl,K,M,N,W,X,Y⟩
 ·have e:l=[]:=List.length_eq_zero_iff.1 I
  subst e
  exact ⟨none,0,rfl,Or.inl rfl,Nat.le_refl _,fun _=>⟨rfl,rfl⟩,fun _ _ h=>by cases h⟩
 ·have D:g < w.heap.size:=(Array.getElem?_eq_some_iff.1 M).1
  refine ⟨some ⟨g,0,none⟩,J,rfl,Or.inr ⟨g,0,rfl,D,fun i x O j u Q=>?_⟩,N,fun h=>(by cases h),fun b o h=>?_⟩
  ·have G:=World.ownsRow.cells (g:=g) y rfl (i*E.k+j) u (uH E l i x O j u Q)
   rw [Addr.add_lit] at G
   rw [Nat.add_assoc]
   exact G
  ·obtain ⟨rfl,rfl⟩:g=b/\0=o:=by simpa using h
   exact ⟨K,D⟩
theorem Zz (E:eW α) (l:List α):∀ u ∈ Qb E l,u.oneCell'=true:=fun u j=>by
 obtain ⟨x,_,y⟩:=List.mem_flatMap.1 j
 exact E.one x u y
theorem Ql.cells {o:Nat} {l:List α} (U:∀ i x,l[i]?=some x->∀ j u,(E.enc x)[j]?=some u->w.cell? ⟨b,o+i*E.k+j,none⟩=some u):∀ j u,(Qb E l)[j]?=some u->w.cell? ((⟨b,o,none⟩:Addr).add j)=some u:=by
 intro j u y
 have D:j < (Qb E l).length:=(List.getElem?_eq_some_iff.1 y).1
 rw [Qr] at D
 have G:=E.pos
 have Q:j / E.k < l.length:=(Nat.div_lt_iff_lt_mul G).2 D
 have I:j % E.k < E.k:=Nat.mod_lt _ G
 have J:l[j / E.k]?=some l[j / E.k]:=List.getElem?_eq_getElem Q
 have K:(E.enc l[j / E.k])[j % E.k]?=some ((E.enc l[j / E.k])[j % E.k]'(by rw [E.len];exact I)):=List.getElem?_eq_getElem (by rw [E.len];exact I)
 have M:=uH E l (j / E.k) _ J (j % E.k) _ K
 have N:=U (j / E.k) _ J (j % E.k) _ K
 have O:j / E.k*E.k+j % E.k=j:=by rw [Nat.mul_comm];exact Nat.div_add_mod j E.k
 rw [O] at M
 rw [Nat.add_assoc,O] at N
 rw [Addr.add_lit,N,<- M,y]
section
variable {w:World}
theorem F4   (O:o.guard=none) (s x:Operand) (t T:TypeId)
 (U:o.op=.call { callee:=.builtin .append,args:=#[s,x],argTypes:=#[t,t] }) (z:Value) (bytes:Nat) (W:prog.underlying t=some (.slice T))
 (a5:(prog.info? T).map (fun i=>(i.zero,i.size,i.bytes))=some (some z,E.k,bytes)) (a6:z.cells.size=E.k)
 (B:Nat) (v:Value) (l:List α) (X:a.eval s=v) (D:Zc E T w B v l) (q:Option Addr) (r:List α) (c:Nat) (Y:a.eval x=.slice q r.length c) (hq:Ql E w q r) (a7:q=none->r=[]/\c=0) (hl:l.length+r.length<=maxLen) (a8:(l.length+r.length)*bytes<=140737488355328) (Z:B<=w.heap.size)
 (h:∀ y w',Zc E T w' B y (l ++ r)->Below B w w'->wpList prog J Q K (a.put o.dst y) w'):wpList prog J Q (o :: K) a w:=by
 obtain ⟨M,N,a0,a1,a2⟩:=info_parts a5
 have a3:∀ y w',w'.ownsRow B T E.k y (l.length+r.length) (Qb E l ++ Qb E r)->w.grownBy w' v.ownBlock->wpList prog J Q K (a.put o.dst y) w':=fun y w' G I=>by
  refine h y w' ?_ ((Below.refl _ _).grown I Z (fun k hk=>(D.block hk).1))
  unfold Zc
  rw [Qj,List.length_append]
  exact G
 cases q with
 | none =>
  obtain ⟨hr,hc⟩:=a7 rfl
  subst hr hc
  refine wpList_append_own_none O s x _ U B T M E.k W N v l.length (Qb E l) X D Y ?_
  have:=h v w (by rw [List.append_nil];exact D) (Below.refl _ _)
  exact this
 | some ad =>
  refine wpList_append_own w O s x _ U B T M z E.k bytes W N a0 a1 a2 a6 E.pos v l.length (Qb E l) X D ad r.length c (Qb E r) Y (Qr E r) ?_ (Zz E r) hl a8 Z (fun y w' G I _=>a3 y w' G I)
  rcases hq with h0 | ⟨b,o',hp,_,a4⟩
  ·subst h0
   intro j u hj
   simp [Qb] at hj
  ·obtain rfl:ad=⟨b,o',none⟩:=by simpa using hp
   exact Ql.cells a4
theorem wJ   (N:o.guard=none) (s x:Operand) (t T:TypeId)
 (O:o.op=.call { callee:=.builtin .append,args:=#[s,x],argTypes:=#[t,t] }) (z:Value) (bytes:Nat) (U:prog.underlying t=some (.slice T))
 (W:(prog.info? T).map (fun i=>(i.zero,i.size,i.bytes))=some (some z,E.k,bytes)) (X:z.cells.size=E.k)
 (B:Nat) (v:Value) (l:List α) (Y:a.eval s=v) (Z:Zc E T w B v l) (b D c:Nat) (y:α) (hx:a.eval x=.slice (some ⟨b,D,none⟩) 1 c) (hq:∀ j u,(E.enc y)[j]?=some u->w.cell? ⟨b,D+j,none⟩=some u) (hl:l.length+1<=maxLen) (a0:(l.length+1)*bytes<=140737488355328) (a1:B<=w.heap.size) (a2:b < w.heap.size)
 (h:∀ I w',Zc E T w' B I (l ++ [y])->Below B w w'->wpList prog J Q K (a.put o.dst I) w'):wpList prog J Q (o :: K) a w :=
 F4 (E:=E) N s x t T O z bytes U W X B v l Y Z (some ⟨b,D,none⟩) [y] c hx (Or.inr ⟨b,D,rfl,a2,fun i x G j u M=>by
  match i,G with
  | 0,G =>
   obtain rfl:y=x:=by simpa using G
   rw [Nat.zero_mul,Nat.add_zero]
   exact hq j u M⟩) (fun e=>by cases e) hl a0 a1 h
end
end
theorem l4 {k:IntKind} {a b:Int} (h:a=b):Ending.returned (.int k a)=.returned (.int k b):=by rw [h]
theorem sB {a b:Bool} (h:a=b):Ending.returned (.bool a)=.returned (.bool b):=by rw [h]
theorem Jq5 (b k:Nat) (G:b < 256):(bits BinOp.and IntKind.u8 ((b:Int) / 2 ^ k) 1==1)=decide (Gf.bT b k=1):=by
 have j:((b:Int) / 2 ^ k)=((b / 2 ^ k:Nat):Int):=by simp
 have y:b / 2 ^ k < 256:=Nat.lt_of_le_of_lt (Nat.div_le_self _ _) G
 have D:bits BinOp.and IntKind.u8 ((b / 2 ^ k:Nat):Int) 1=((b / 2 ^ k % 2:Nat):Int):=by
  have:=u8_and_nat (b / 2 ^ k) 1 y (by decide)
  rw [Nat.and_one_is_mod] at this
  exact this
 rw [j,D]
 unfold Gf.bT
 rcases Nat.mod_two_eq_zero_or_one (b / 2 ^ k) with h | h <;> rw [h] <;> rfl
theorem Jnr (b k:Nat) (G:b < 256):(bits BinOp.and IntKind.i64 ((b:Int) / 2 ^ k) 1==1)=decide (Gf.bT b k=1):=by
 have j:((b:Int) / 2 ^ k)=((b / 2 ^ k:Nat):Int):=by simp
 have y:b / 2 ^ k < 256:=Nat.lt_of_le_of_lt (Nat.div_le_self _ _) G
 have D:bits BinOp.and IntKind.i64 ((b / 2 ^ k:Nat):Int) 1=((b / 2 ^ k % 2:Nat):Int):=by
  have:=bits_mask IntKind.i64 8 (by decide) (fun n I j=>by rw [IntKind.wrap_i64];omega) 1 (by decide) ((b / 2 ^ k:Nat):Int) (Int.natCast_nonneg _) (by exact_mod_cast y)
  rw [show ((2:Int) ^ 1 - 1)=1 from rfl] at this
  rw [this]
  rfl
 rw [j,D]
 unfold Gf.bT
 rcases Nat.mod_two_eq_zero_or_one (b / 2 ^ k) with h | h <;> rw [h] <;> rfl
def red (n:Int):Nat:=(n % 255).toNat
theorem M4 (n:Int):((red n:Nat):Int)=n % 255:=by unfold red;omega
theorem UP (n:Int):red n < 255:=by unfold red;omega
theorem Jq7 (n:Int):n.tmod 255=-((-n).tmod 255):=by rw [Int.neg_tmod,Int.neg_neg]
theorem Jbz (a b:Nat) (j:a < 2 ^ 62) (y:b < 2 ^ 62):bits .xor .i64 (a:Int) (b:Int)=((a ^^^ b:Nat):Int):=by
 have D:a ^^^ b < 2 ^ 62:=Nat.xor_lt_two_pow j y
 show IntKind.i64.wrap ((BitVec.ofInt 64 (a:Int) ^^^ BitVec.ofInt 64 (b:Int)).toNat:Int)=_
 rw [BitVec.toNat_xor,BitVec.ofInt_natCast,BitVec.ofInt_natCast,BitVec.toNat_ofNat,BitVec.toNat_ofNat,Nat.mod_eq_of_lt (by omega),Nat.mod_eq_of_lt (by omega),IntKind.wrap_i64]
 omega
theorem Jj6 (n:Nat) (h:n < 2 ^ 62):wrap64 (n:Int)=(n:Int):=by
 unfold wrap64;omega
theorem Jch (b k:Nat):(((b:Int) / 2 ^ k).tmod 2==1)=decide (Gf.bT b k=1):=by
 have j:((b:Int) / 2 ^ k)=((b / 2 ^ k:Nat):Int):=by simp
 rw [j,Int.tmod_eq_emod_of_nonneg (Int.natCast_nonneg _)]
 unfold Gf.bT
 have y:(((b / 2 ^ k:Nat):Int) % 2)=((b / 2 ^ k % 2:Nat):Int):=by simp
 rw [y]
 rcases Nat.mod_two_eq_zero_or_one (b / 2 ^ k) with h | h <;> rw [h] <;> rfl
def Jp (l:List Nat):ByteArray:=strOfNums (l.map Int.ofNat)
def Zj (s:ByteArray):List Nat:=s.data.toList.map UInt8.toNat
theorem xK (s:ByteArray):Gf.Bytes (Zj s):=fun i=>by
 by_cases j:i < (Zj s).length
 ·rw [Gf.aK _ i j]
  simp only [Zj,List.getElem_map]
  exact UInt8.toNat_lt _
 ·show (Zj s).getD i 0 < 256
  rw [List.getD_eq_getElem?_getD,List.getElem?_eq_none (by omega)]
  decide
theorem uD (s:ByteArray) (i:Nat) (h:i < s.size):Gf.nth (Zj s) i=(s[i]'h).toNat:=by
 rw [Gf.aK _ i (by simpa [Zj] using h)]
 simp only [Zj,List.getElem_map]
 rfl
theorem tZ (s:ByteArray):(Zj s).length=s.size:=by simp [Zj]
theorem xG (l:List Nat):(Jp l).size=l.length:=by
 unfold Jp
 rw [strOfNums_size,List.length_map]
theorem EP (s:ByteArray) (i:Nat) (h:i < s.size) (W:World):Sem.run prog (Instr.index 9 (.string s) (.int .i64 (i:Int))) W=.ok (.int .u8 ((Gf.nth (Zj s) i:Nat):Int)) W:=by
 rw [run_index_string W 9 s .i64 _ underlying9,dif_pos ⟨by omega,by omega⟩,uD s i h]
 congr 3
theorem BO {l m:List Nat} (D:l.length=m.length) (h:∀ i,i < l.length->Gf.nth l i=Gf.nth m i):l=m:=by
 refine List.ext_getElem D fun i j y=>?_
 rw [<- Gf.aK l i j,<- Gf.aK m i y]
 exact h i j
theorem F0 {l:List Nat} (h:l.length<=i):Gf.nth l i=0:=by
 show l.getD i 0=0
 rw [List.getD_eq_getElem?_getD,List.getElem?_eq_none h]
 rfl
def Yc (l:List ByteArray) (i:Nat):ByteArray:=l.getD i ⟨#[]⟩
theorem Xk (l:List ByteArray) (i:Nat) (h:i < l.length):Yc l i=l[i]:=by
 unfold Yc
 rw [List.getD_eq_getElem?_getD,List.getElem?_eq_getElem h]
 rfl
theorem oQ  (h:i < l.length):Yc l i ∈ l:=by
 rw [Xk l i h]
 exact List.getElem_mem h
theorem tF  (h:x ∈ l):∃ i,i < l.length/\Yc l i=x:=by
 obtain ⟨i,j,e⟩:=List.getElem_of_mem h
 exact ⟨i,j,by rw [Xk l i j,e]⟩
theorem Jrb  (h:j < i):Yc (l.take i) j=Yc l j:=by
 unfold Yc
 rw [List.getD_eq_getElem?_getD,List.getD_eq_getElem?_getD,List.getElem?_take_of_lt h]
def Strs (w:World) (p:Option Addr) (l:List ByteArray):Prop :=
 l=[]∨∃ b o,p=some ⟨b,o,none⟩/\b < w.heap.size/\∀ i,i < l.length->w.cell? ⟨b,o+i,none⟩=some (.string (Yc l i))
theorem Strs.drewN  (h:Strs w p l) (n:Nat):Strs (w.drewN n) p l:=h
theorem Strs.below  (h:Strs w p l) (y:Below w.heap.size w w'):Strs w' p l:=by
 rcases h with h | ⟨b,o,D,j,G⟩
 ·exact Or.inl h
 ·exact Or.inr ⟨b,o,D,Nat.lt_of_lt_of_le j y.size,fun i I=>(y.cell (p:=⟨b,o+i,none⟩) j).trans (G i I)⟩
theorem Strs.hY   (h:Strs w p l) (y:Below B w w') (hB:∀ b o,p=some ⟨b,o,none⟩->b < B):Strs w' p l:=by
 rcases h with h | ⟨b,o,j,D,G⟩
 ·exact Or.inl h
 ·exact Or.inr ⟨b,o,j,Nat.lt_of_lt_of_le D y.size,fun i I=>(y.cell (p:=⟨b,o+i,none⟩) (hB b o j)).trans (G i I)⟩
theorem Strs.take  (h:Strs w p l) (i:Nat):Strs w p (l.take i):=by
 rcases h with h | ⟨b,o,y,D,G⟩
 ·exact Or.inl (by rw [h,List.take_nil])
 ·refine Or.inr ⟨b,o,y,D,fun j I=>?_⟩
  rw [List.length_take] at I
  rw [G j (by omega),Jrb (by omega)]
theorem XT {a b:ByteArray} (h:a≠b):¬ a.toList=b.toList:=fun e=>h (by
 rw [ByteArray.toList_eq,ByteArray.toList_eq] at e
 exact ByteArray.ext (Array.toList_inj.1 e))
theorem YT {a b:ByteArray} (h:a≠b):(a.toList==b.toList)=false:=by simpa using XT h
theorem Y8 {a b:ByteArray} (h:a≠b):(a==b)=false:=by rw [beq_toListBytes];exact YT h
structure Yb where
 n:Int
 dT:Int
 size:Int
 at_:Int
 text:ByteArray
deriving DecidableEq
def JL (v:Yb):List Value:=[.int .i64 v.n,.int .i64 v.dT,.int .i64 v.size,.int .i64 v.at_,.string v.text]
def Ze:eW Yb:=⟨5,by decide,JL,fun _=>rfl,fun x u j=>by simp [JL] at j;rcases j with rfl | rfl | rfl | rfl | rfl <;> rfl⟩
theorem Zn {o:Nat} (h:w.cell? ⟨b,o,none⟩=some v):b < w.heap.size:=by
 rcases Nat.lt_or_ge b w.heap.size with j | j
 ·exact j
 ·simp [World.cell?,Array.getElem?_eq_none j] at h
structure Zb where
 from_:ByteArray
 aP:ByteArray
 kind:ByteArray
 key:ByteArray
 op:Int
 config:Int
 shut:Bool
 L:List Yb
def Z1 (m:Zb) (lv:Value):Value:=.agg #[.string m.from_,.string m.aP,.string m.kind,.string m.key,.int .i64 m.op,.int .i64 m.config,.bool m.shut,lv]
def ZJ (l:List ByteArray) (s:ByteArray):Nat:=l.findIdx fun x=>decide (x=s)
theorem DQ  (y:i < l.length) (h:Yc l i=s) (G:∀ j,j < i->Yc l j≠s):ZJ l s=i:=by
 unfold ZJ
 rw [List.findIdx_eq y]
 refine ⟨decide_eq_true (by rw [<- Xk l i y];exact h),fun j D=>decide_eq_false ?_⟩
 rw [<- Xk l j (by omega)]
 exact G j D
def Xr (c:Nat):Bool:=decide (97<=c/\c<=122) || decide (48<=c/\c<=57) || decide (c=45)
def Jo (s:ByteArray):Bool:=decide (1<=s.size/\s.size<=16) && (Zj s).all Xr
theorem QF (h:Jo s=true):1<=s.size/\s.size<=16:=by
 unfold Jo at h
 rw [Bool.and_eq_true] at h
 exact of_decide_eq_true h.1
theorem Jes (G:1<=s.size) (I:s.size<=16) (h:∀ j,j < s.size->Xr (Gf.nth (Zj s) j)=true):Jo s=true:=by
 unfold Jo
 rw [decide_eq_true ⟨G,I⟩,Bool.true_and,List.all_eq_true]
 intro x D
 obtain ⟨j,y,rfl⟩:=List.getElem_of_mem D
 rw [<- Gf.aK _ j y]
 exact h j (by rw [tZ] at y;exact y)
theorem Jet  (D:j < s.size) (h:Xr (Gf.nth (Zj s) j)=false):Jo s=false:=by
 unfold Jo
 rw [Bool.and_eq_false_iff]
 refine Or.inr (List.all_eq_false.2 ⟨Gf.nth (Zj s) j,?_,by rw [h];decide⟩)
 have y:j < (Zj s).length:=by rw [tZ];exact D
 rw [Gf.aK _ j y]
 exact List.getElem_mem y
theorem CT (h:¬ (1<=s.size/\s.size<=16)):Jo s=false:=by
 unfold Jo
 rw [decide_eq_false h,Bool.false_and]
def Xu (l:List ByteArray) (x:ByteArray):Bool:=l.any fun y=>decide (y=x)
theorem Zl :Xu l x=true↔x ∈ l:=by
 unfold Xu
 rw [List.any_eq_true]
 exact ⟨fun ⟨y,j,e⟩=>by rw [<- of_decide_eq_true e];exact j,fun h=>⟨x,h,decide_eq_true rfl⟩⟩
def Yu (l:List ByteArray) (i:Nat):Nat:=if Jo (Yc l i) then (if Xu (l.take i) (Yc l i) then 6 else 0) else 4
theorem Jj1  (h:Jo (Yc l i)=false):Yu l i=4:=by
 unfold Yu
 rw [h,if_neg (by decide)]
theorem TL  (h:Jo (Yc l i)=true) (j:Yc l i ∈ l.take i):Yu l i=6:=by
 unfold Yu
 rw [if_pos h,if_pos (Zl.2 j)]
theorem ET  (h:Jo (Yc l i)=true) (y:Yc l i ∉ l.take i):Yu l i=0:=by
 unfold Yu
 rw [if_pos h,if_neg (fun j=>y (Zl.1 j))]
def XO (l:List ByteArray):Nat->Nat->Int×Int
 | _,0=>(0,-1)
 | i,m+1=>if Yu l i=0 then XO l (i+1) m else ((Yu l i:Nat),(i:Nat))
def Xj (l:List ByteArray):Int×Int:=if l.length < 1∨16 < l.length then (2,-1) else XO l 0 l.length
theorem E7 (h:l.length < 1∨16 < l.length):Xj l=(2,-1):=if_pos h
theorem AB (j:¬ l.length < 1) (y:¬ 16 < l.length):Xj l=XO l 0 l.length:=if_neg (by omega)
theorem GC {l:List ByteArray}:∀ (m i:Nat),XO l i m=(0,-1)->∀ j,i<=j->j < i+m->Yu l j=0
 | 0,i,_,j,h1,h2=>by omega
 | m+1,i,h,j,h1,h2=>by
  have y:(if Yu l i=0 then XO l (i+1) m else (((Yu l i:Nat):Int),(i:Int)))=(0,-1):=h
  by_cases e:Yu l i=0
  ·rw [if_pos e] at y
   by_cases D:j=i
   ·rw [D];exact e
   ·exact GC m (i+1) y j (by omega) (by omega)
  ·rw [if_neg e] at y
   have G:=congrArg Prod.fst y
   have I:((Yu l i:Nat):Int)=0:=G
   omega
theorem EG {l:List ByteArray}:∀ (m i:Nat),(XO l i m).1<=0->XO l i m=(0,-1)
 | 0,_,_=>rfl
 | m+1,i,h=>by
  show (if Yu l i=0 then XO l (i+1) m else (((Yu l i:Nat):Int),(i:Int)))=(0,-1)
  have j:(if Yu l i=0 then XO l (i+1) m else (((Yu l i:Nat):Int),(i:Int))).1<=0:=h
  by_cases e:Yu l i=0
  ·rw [if_pos e] at j ⊢
   exact EG m (i+1) j
  ·rw [if_neg e] at j
   have y:((Yu l i:Nat):Int)<=0:=j
   omega
theorem QV (h:(Xj l).1<=0):Xj l=(0,-1)/\1<=l.length/\l.length<=16:=by
 by_cases j:l.length < 1∨16 < l.length
 ·rw [E7 j] at h
  exact absurd h (by decide)
 ·have y:Xj l=XO l 0 l.length:=if_neg j
  rw [y] at h ⊢
  exact ⟨EG _ _ h,by omega,by omega⟩
theorem YP (h:(Xj l).1<=0):(∀ x ∈ l,Jo x=true)/\l.Nodup:=by
 obtain ⟨D,K,M⟩:=QV h
 rw [AB (by omega) (by omega)] at D
 have G:=GC l.length 0 D
 have key:∀ j,j < l.length->Jo (Yc l j)=true/\Yc l j ∉ l.take j:=fun j y=>by
  have:=G j (Nat.zero_le _) (by omega)
  unfold Yu at this
  by_cases e:Jo (Yc l j)=true
  ·rw [if_pos e] at this
   refine ⟨e,fun I=>?_⟩
   rw [if_pos (Zl.2 I)] at this
   omega
  ·rw [if_neg e] at this
   omega
 refine ⟨fun x J=>?_,?_⟩
 ·obtain ⟨j,y,rfl⟩:=tF J
  exact (key j y).1
 ·rw [List.nodup_iff_pairwise_ne,List.pairwise_iff_getElem]
  intro i j N y O e
  refine (key j y).2 ?_
  rw [Xk l j y,<- e,List.mem_take_iff_getElem]
  exact ⟨i,by omega,rfl⟩
def Qd (a b:Int×Int):Bool:=decide (a.1 < b.1) || (decide (a.1=b.1) && decide (a.2 < b.2))
theorem qS:(prog.info? 76).map (fun i=>(i.zero,i.size,i.bytes))=some (some (.agg #[.int .i64 0,.int .i64 0,.int .i64 0,.int .i64 0,.string ⟨#[]⟩]),5,48):=by kernel_rfl
def Xd (L:List Yb) (i:Nat):Yb:=L.getD i ⟨0,0,0,0,⟨#[]⟩⟩
theorem Xx {L:List Yb} (j:i < L.length):L[i]?=some (Xd L i):=by
 unfold Xd
 rw [List.getD_eq_getElem?_getD,List.getElem?_eq_getElem j]
 rfl
theorem Jex {l m:List Yb} (y:l.length=m.length) (h:∀ i,i < l.length->Xd l i=Xd m i):l=m:=by
 refine List.ext_getElem? fun i=>?_
 by_cases j:i < l.length
 ·rw [Xx j,Xx (show i < m.length by omega),h i j]
 ·rw [List.getElem?_eq_none (by omega),List.getElem?_eq_none (by omega)]
theorem QU  {L:List Yb} (h:Ql Ze w p L) (D:i < L.length):∃ b o,p=some ⟨b,o,none⟩/\b < w.heap.size/\w.cell? ⟨b,o+i*5,none⟩=some (.int .i64 (Xd L i).n)/\w.cell? ⟨b,o+i*5+1,none⟩=some (.int .i64 (Xd L i).dT)/\w.cell? ⟨b,o+i*5+2,none⟩=some (.int .i64 (Xd L i).size)/\w.cell? ⟨b,o+i*5+3,none⟩=some (.int .i64 (Xd L i).at_)/\w.cell? ⟨b,o+i*5+4,none⟩=some (.string (Xd L i).text):=by
 rcases h with h | ⟨b,o,G,I,j⟩
 ·rw [h] at D;exact absurd D (Nat.not_lt_zero _)
 ·have y:=Xx D
  exact ⟨b,o,G,I,j i _ y 0 _ rfl,j i _ y 1 _ rfl,j i _ y 2 _ rfl,j i _ y 3 _ rfl,j i _ y 4 _ rfl⟩
def k9 (n dT:Int):Bool:=decide (0<=n) && decide (n<=1099511627776) && decide (0<=dT) && decide (dT<=1099511627776)
structure Yd (S S':Nat->Prop) (w w':World):Prop where
 os:w'.os=w.os
 tape:w'.tape=w.tape
 output:w'.output=w.output
 size:w.heap.size<=w'.heap.size
 block:∀ k,k < w.heap.size->¬ S k->w'.heap[k]?=w.heap[k]?
 new:∀ k,S' k->S k∨w.heap.size<=k
theorem Yd.aJ {S:Nat->Prop} (j:Below w.heap.size w w'):Yd S S w w':=⟨j.os,j.tape,j.output,j.size,fun k y _=>j.block k y,fun _ h=>Or.inl h⟩
theorem JdW (n dT:Int) (w:World) :
 Calls prog 126 #[.agg #[.int .i64 n,.int .i64 dT]] w fun e w'=>e=.returned (.bool (k9 n dT))/\Below w.heap.size w w':=by
 have I:Hid (Below w.heap.size w (w.alloc (.cells #[.int .i64 n,.int .i64 dT] 46))):=(Below.refl _ _).alloc (Nat.le_refl _) _
 have J:(decide (0<=n)=false)∨(0<=n)/\((decide (n<=1099511627776)=false)∨n<=1099511627776/\((decide (0<=dT)=false)∨0<=dT/\((decide (dT<=1099511627776)=false)∨dT<=1099511627776))):=by
  by_cases j:0<=n
  ·by_cases y:n<=1099511627776
   ·by_cases D:0<=dT
    ·by_cases G:dT<=1099511627776
     ·exact Or.inr ⟨j,Or.inr ⟨y,Or.inr ⟨D,Or.inr G⟩⟩⟩
     ·exact Or.inr ⟨j,Or.inr ⟨y,Or.inr ⟨D,Or.inl (decide_eq_false G)⟩⟩⟩
    ·exact Or.inr ⟨j,Or.inr ⟨y,Or.inl (decide_eq_false D)⟩⟩
   ·exact Or.inr ⟨j,Or.inl (decide_eq_false y)⟩
  ·exact Or.inl (decide_eq_false j)
 have K:Hid (k9 n dT=(decide (0<=n) && decide (n<=1099511627776) && decide (0<=dT) && decide (dT<=1099511627776))):=by show _=_;rfl
 generalize k9 n dT=r at *
 rcases J with g | ⟨M,g | ⟨N,g | ⟨O,g | Q⟩⟩⟩
 all_goals
  go_enter func126,ntmps126
  go_wp2
  go_ret
  exact ⟨by rw [K.out];simp [*],I.out⟩
def Jk (k size:Nat):Nat:=(size+(k - 1)) / k
theorem RS (j:1<=k) (h:i*k < size):i < Jk k size:=by
 unfold Jk
 rw [Nat.lt_iff_add_one_le,Nat.le_div_iff_mul_le (by omega),Nat.add_mul]
 omega
theorem Jra (j:1<=k) (h:¬ i*k < size):Jk k size<=i:=by
 unfold Jk
 rw [<- Nat.lt_add_one_iff,Nat.div_lt_iff_lt_mul (by omega),Nat.add_mul]
 omega
theorem xR (j:1<=k):Jk k size<=size:=Jra j (by
 have:size*1<=size*k:=Nat.mul_le_mul_left size j
 omega)
theorem Ja1 (k size:Nat) (w:World) (y:1<=k) (J:k<=1000) (Q:size<=1000000) :
 Calls prog 89 #[.int .i64 (k:Int),.int .i64 (size:Int)] w fun e w'=>e=.returned (.int .i64 ((Jk k size:Nat):Int))/\w'=w:=by
 have K:=xR (size:=size) y
 go_enter func89,ntmps89
 go_wp2
 go_loop [5] (fun x=>∃ i:Nat,i<=Jk k size/\x=.int .i64 i) (fun x=>Jk k size - (intOf x).toNat)
 case atStart=>exact ⟨0,Nat.zero_le _,rfl⟩
 case round =>
  obtain ⟨i,M,rfl⟩:=hrel
  have D:i*k<=1000000*1000:=Nat.mul_le_mul (by omega) J
  have N:(0:Int)<=(i:Int)*(k:Int):=by rw [<- Int.natCast_mul];omega
  have O:(i:Int)*(k:Int)<=1000000000:=by rw [<- Int.natCast_mul];omega
  by_cases j:i*k < size
  ·have G:=RS y j
   have I:(i:Int)*(k:Int) < (size:Int):=by rw [<- Int.natCast_mul];omega
   clear j D
   go_wp2
   go_round
   case rel=>exact ⟨i+1,by omega,by go_num⟩
   case measure=>simp [intOf];omega
  ·have G:=Jra y j
   have I:¬ (i:Int)*(k:Int) < (size:Int):=by rw [<- Int.natCast_mul];omega
   obtain rfl:i=Jk k size:=by omega
   clear j D
   go_wp2
   go_ret
   exact ⟨rfl,rfl⟩
def YO (n k:Nat) (v:Yb):Bool:=k9 v.n v.dT && decide (0<=v.size/\v.size<=1000/\0<=v.at_/\v.at_ < n/\v.text.size=Jk k v.size.toNat)
theorem JdE (n k:Nat) (p:Option Addr) (ln a5:Nat) (v:Yb) (w:World) (b6:1<=k) (hk:k<=12) :
 Calls prog 98 #[.agg #[.int .i64 (n:Int),.int .i64 (k:Int),.slice p ln a5],.agg #[.int .i64 v.n,.int .i64 v.dT,.int .i64 v.size,.int .i64 v.at_,.string v.text]] w fun e w'=>e=.returned (.bool (YO n k v))/\Below w.heap.size w w':=by
 obtain ⟨wc,D⟩:∃ wc,wc=w.alloc (.cells #[.int .i64 (n:Int),.int .i64 (k:Int),.slice p ln a5] 24):=⟨_,rfl⟩
 have G:wc.heap.size=w.heap.size+1:=by rw [D];simp
 obtain ⟨j,y⟩:∃ j,j=wc.alloc (.cells #[.int .i64 v.n,.int .i64 v.dT,.int .i64 v.size,.int .i64 v.at_,.string v.text] 76):=⟨_,rfl⟩
 have N:Below w.heap.size w wc:=by rw [D];exact (Below.refl _ _).alloc (Nat.le_refl _) _
 have J:Below wc.heap.size wc j:=by rw [y];exact (Below.refl _ _).alloc (Nat.le_refl _) _
 have a6:Hid (Below w.heap.size w j):=N.trans (J.mono N.size)
 have O:j.cell? ⟨w.heap.size,0,none⟩=some (.int .i64 (n:Int)):=(J.cell (p:=⟨w.heap.size,0,none⟩) (by show w.heap.size < _;omega)).trans (by rw [D,World.cell?_alloc_at _ _ _ _ rfl];rfl)
 have a1:j.cell? ⟨w.heap.size,1,none⟩=some (.int .i64 (k:Int)):=(J.cell (p:=⟨w.heap.size,1,none⟩) (by show w.heap.size < _;omega)).trans (by rw [D,World.cell?_alloc_at _ _ _ _ rfl];rfl)
 have b0:j.cell? ⟨w.heap.size+1,0,none⟩=some (.int .i64 v.n):=by rw [y,World.cell?_alloc_at _ _ _ _ G.symm];rfl
 have b1:j.cell? ⟨w.heap.size+1,1,none⟩=some (.int .i64 v.dT):=by rw [y,World.cell?_alloc_at _ _ _ _ G.symm];rfl
 have b2:j.cell? ⟨w.heap.size+1,2,none⟩=some (.int .i64 v.size):=by rw [y,World.cell?_alloc_at _ _ _ _ G.symm];rfl
 have b3:j.cell? ⟨w.heap.size+1,3,none⟩=some (.int .i64 v.at_):=by rw [y,World.cell?_alloc_at _ _ _ _ G.symm];rfl
 have b4:j.cell? ⟨w.heap.size+1,4,none⟩=some (.string v.text):=by rw [y,World.cell?_alloc_at _ _ _ _ G.symm];rfl
 have a9:Hid (∀ W,Below j.heap.size j W->W.cell? ⟨w.heap.size,0,none⟩=some (.int .i64 (n:Int))/\W.cell? ⟨w.heap.size,1,none⟩=some (.int .i64 (k:Int))/\W.cell? ⟨w.heap.size+1,2,none⟩=some (.int .i64 v.size)/\W.cell? ⟨w.heap.size+1,3,none⟩=some (.int .i64 v.at_)/\W.cell? ⟨w.heap.size+1,4,none⟩=some (.string v.text)):=fun W I=>by
  have Q:w.heap.size+1 < j.heap.size:=Zn b0
  have hy:w.heap.size < j.heap.size:=Zn O
  exact ⟨(I.cell (p:=⟨w.heap.size,0,none⟩) hy).trans O,(I.cell (p:=⟨w.heap.size,1,none⟩) hy).trans a1,(I.cell (p:=⟨w.heap.size+1,2,none⟩) Q).trans b2,(I.cell (p:=⟨w.heap.size+1,3,none⟩) Q).trans b3,(I.cell (p:=⟨w.heap.size+1,4,none⟩) Q).trans b4⟩
 have b5:Hid (j=(w.alloc (.cells #[.int .i64 (n:Int),.int .i64 (k:Int),.slice p ln a5] 24)).alloc (.cells #[.int .i64 v.n,.int .i64 v.dT,.int .i64 v.size,.int .i64 v.at_,.string v.text] 76)):=by rw [<- D];exact y
 have a7:Hid (∀ W,Calls prog 126 #[.agg #[.int .i64 v.n,.int .i64 v.dT]] W fun e w'=>e=.returned (.bool (k9 v.n v.dT))/\Below W.heap.size W w'):=fun W=>JdW v.n v.dT W
 have HW:Hid ((k9 v.n v.dT=false/\YO n k v=false)∨k9 v.n v.dT=true/\((v.size < 0/\YO n k v=false)∨¬ v.size < 0/\((1000 < v.size/\YO n k v=false)∨¬ 1000 < v.size/\((v.at_ < 0/\YO n k v=false)∨¬ v.at_ < 0/\(((n:Int)<=v.at_/\YO n k v=false)∨¬ (n:Int)<=v.at_/\YO n k v=decide (v.text.size=Jk k v.size.toNat)))))):=by
  show _∨_
  unfold YO
  cases hT:k9 v.n v.dT with
  | false=>exact Or.inl ⟨rfl,rfl⟩
  | true =>
   refine Or.inr ⟨rfl,?_⟩
   rw [Bool.true_and]
   by_cases U:v.size < 0
   ·exact Or.inl ⟨U,decide_eq_false (by omega)⟩
   refine Or.inr ⟨U,?_⟩
   by_cases X:1000 < v.size
   ·exact Or.inl ⟨X,decide_eq_false (by omega)⟩
   refine Or.inr ⟨X,?_⟩
   by_cases Y:v.at_ < 0
   ·exact Or.inl ⟨Y,decide_eq_false (by omega)⟩
   refine Or.inr ⟨Y,?_⟩
   by_cases Z:(n:Int)<=v.at_
   ·exact Or.inl ⟨Z,decide_eq_false (by omega)⟩
   refine Or.inr ⟨Z,?_⟩
   congr 1
   exact propext ⟨fun h=>h.2.2.2.2,fun h=>⟨by omega,by omega,by omega,by omega,h⟩⟩
 have a8:Hid (∀ W (z:Nat),(z:Int)=v.size->z<=1000->Calls prog 89 #[.int .i64 (k:Int),.int .i64 v.size] W fun e w'=>e=.returned (.int .i64 ((Jk k z:Nat):Int))/\w'=W):=fun W z K h2=>by
  rw [<- K]
  exact Ja1 k z W b6 (by omega) (by omega)
 clear D y N J G b2 b3 b4 O a1
 generalize k9 v.n v.dT=tb at *
 generalize YO n k v=r at *
 rcases HW.out with ⟨rfl,rfl⟩ | ⟨rfl,⟨g,rfl⟩ | ⟨U,⟨g,rfl⟩ | ⟨X,⟨g,rfl⟩ | ⟨Y,⟨g,rfl⟩ | ⟨Z,hr⟩⟩⟩⟩⟩
 all_goals
  go_enter func98,ntmps98
  go_wp2_with (rw [<- b5.out])
  refine (a7.out _).mono ?_
  rintro e w1 ⟨rfl,a2⟩
  obtain ⟨m0,m1,m3,m4,m5⟩:=a9.out w1 a2
  have a3:Hid (Below w.heap.size w w1):=a6.out.trans (a2.mono a6.out.size)
  clear a7 a2 b0 b1
  try (go_wp2;go_ret;exact ⟨rfl,a3.out⟩)
 have M:Hid (r=decide (v.text.size=Jk k v.size.toNat)):=hr
 have K:((v.size.toNat:Nat):Int)=v.size:=by omega
 have HC:Hid (∀ W,Calls prog 89 #[.int .i64 (k:Int),.int .i64 v.size] W fun e w'=>e=.returned (.int .i64 ((Jk k v.size.toNat:Nat):Int))/\w'=W):=fun W=>a8.out W v.size.toNat K (by omega)
 clear hr K a8 HW
 generalize Jk k v.size.toNat=wd at *
 by_cases hq:v.text.size=wd
 ·have a4:Hid (r=true):=by show _=_;rw [M.out];exact decide_eq_true hq
  clear M
  subst hq
  go_wp2
  go_quiet ((go_at_call 89;exact Calls.quiet_of_same (HC.out _)))
  go_wp2
  go_ret
  exact ⟨by rw [a4.out];simp,below_drewN a3.out _⟩
 ·have a4:Hid (r=false):=by show _=_;rw [M.out];exact decide_eq_false hq
  clear M
  have d:(((v.text.size:Nat):Int)==(wd:Int))=false:=by rw [beq_eq_false_iff_ne];omega
  go_wp2
  go_quiet ((go_at_call 89;exact Calls.quiet_of_same (HC.out _)))
  go_wp2
  go_ret
  exact ⟨by rw [a4.out];rfl,below_drewN a3.out _⟩
def Ji (l:List (Int×ByteArray)) (i:Nat):Int×ByteArray:=l.getD i (0,⟨#[]⟩)
def fE (w:World) (p:Option Addr) (l:List (Int×ByteArray)):Prop :=
 l=[]∨∃ b o,p=some ⟨b,o,none⟩/\b < w.heap.size/\∀ i,i < l.length->w.cell? ⟨b,o+i*2,none⟩=some (.int .i64 (Ji l i).1)/\w.cell? ⟨b,o+i*2+1,none⟩=some (.string (Ji l i).2)
theorem fE.below  {l:List (Int×ByteArray)} (h:fE w p l) (y:Below w.heap.size w w'):fE w' p l:=by
 rcases h with h | ⟨b,o,I,j,D⟩
 ·exact Or.inl h
 ·exact Or.inr ⟨b,o,I,Nat.lt_of_lt_of_le j y.size,fun i G=>⟨(y.cell (p:=⟨b,o+i*2,none⟩) j).trans (D i G).1,(y.cell (p:=⟨b,o+i*2+1,none⟩) j).trans (D i G).2⟩⟩
def tK (w:World) (D:FuncId) (G:Array Value) (l:List (Int×ByteArray)) (P:Int×ByteArray->Bool):Prop :=
 ∀ i,i < l.length->∀ j,Below w.heap.size w j->Calls prog D (#[.agg #[.int .i64 (Ji l i).1,.string (Ji l i).2]] ++ G) j fun e y=>e=.returned (.bool (P (Ji l i)))/\Below j.heap.size j y
theorem sE {l:List (Int×ByteArray)} (h:i < l.length):Ji l i ∈ l:=by
 unfold Ji
 rw [List.getD_eq_getElem?_getD,List.getElem?_eq_getElem h]
 exact List.getElem_mem h
theorem XG {l:List (Int×ByteArray)} {x:Int×ByteArray} (h:x ∈ l):∃ i,i < l.length/\Ji l i=x:=by
 obtain ⟨i,j,rfl⟩:=List.getElem_of_mem h
 refine ⟨i,j,?_⟩
 unfold Ji
 rw [List.getD_eq_getElem?_getD,List.getElem?_eq_getElem j]
 rfl
theorem Jpm {l:List (Int×ByteArray)}  (h:i < l.length) (j:P (Ji l i)=true):l.any P=true:=List.any_eq_true.2 ⟨_,sE h,j⟩
theorem Jnt {l:List (Int×ByteArray)} (h:∀ i,i < l.length->P (Ji l i)=false):l.any P=false:=by
 rw [List.any_eq_false]
 intro x j
 obtain ⟨i,y,rfl⟩:=XG j
 rw [h i y]
 decide
theorem Jpn (p:Option Addr) (l:List (Int×ByteArray)) (a3:Nat) (J:FuncId) (U:Array Value) (P:Int×ByteArray->Bool) (w:World) (hl:l.length<=100000) (hs:fE w p l)
 (a4:∀ args W,Sem.run prog (callFunc J args) W=.ok (.enter J args) W) (hc:tK w J U l P) :
 Calls prog 135 #[.slice p l.length a3,.func (.func J) #[] U] w fun e w'=>(∃ r:Int,e=.returned (.int .i64 r)/\(0<=r/\l.any P=true∨r=-1/\l.any P=false))/\Below w.heap.size w w':=by
 have HS:Hid (fE w p l):=hs
 have HC:Hid (tK w J U l P):=hc
 clear hs hc
 go_enter func135,ntmps135
 go_wp2
 go_loopw [8] (fun x wr=>∃ i:Nat,i<=l.length/\x=.int .i64 i/\(∀ j,j < i->P (Ji l j)=false)/\Below w.heap.size w wr) (fun x _=>l.length - (intOf x).toNat)
 case atStart=>exact ⟨0,by omega,rfl,fun j M=>absurd M (Nat.not_lt_zero _),Below.refl _ _⟩
 case round =>
  obtain ⟨i,hi,rfl,X,hB⟩:=hrel
  have Y:Hid (∀ j,j < i->P (Ji l j)=false):=X
  have D:Hid (Below w.heap.size w wr):=hB
  clear X hB
  by_cases G:i < l.length
  ·rcases (HS.out.below D.out) with h0 | ⟨b1,o1,rfl,_,Z⟩
   ·rw [h0] at G;simp at G
   obtain ⟨N,O⟩:=Z i G
   have y:=HC.out i G wr D.out
   clear Z
   have a0:Hid (∀ v,P (Ji l i)=v->v=P (Ji l i)):=fun v h=>h.symm
   by_cases I:P (Ji l i)=true
   ·have HA:Hid (l.any P=true):=Jpm G I
    rw [I] at y
    clear I a0
    generalize (Ji l i).1=x at N y
    generalize (Ji l i).2=t at O y
    go_wp2_with fail
    refine y.mono ?_
    rintro e w2 ⟨rfl,K⟩
    clear y
    go_wp2
    go_ret
    exact ⟨⟨(i:Int),rfl,Or.inl ⟨by omega,HA.out⟩⟩,D.out.trans (K.mono D.out.size)⟩
   ·have Q:P (Ji l i)=false:=by simpa using I
    have a1:Hid (P (Ji l i)=false):=Q
    rw [Q] at y
    clear I Q a0
    generalize (Ji l i).1=x at N y
    generalize (Ji l i).2=t at O y
    go_wp2_with fail
    refine y.mono ?_
    rintro e w2 ⟨rfl,K⟩
    have a2:Hid (Below w.heap.size w w2):=D.out.trans (K.mono D.out.size)
    clear y K N O
    go_wp2
    go_roundw
    case rel =>
     refine ⟨i+1,by omega,by go_num,fun j M=>?_,a2.out⟩
     by_cases e:j=i
     ·rw [e];exact a1.out
     ·exact Y.out j (by omega)
    case measure=>simp [intOf];omega
  ·have HN:Hid (l.any P=false):=Jnt fun j M=>Y.out j (by omega)
   go_wp2
   go_ret
   exact ⟨⟨-1,rfl,Or.inr ⟨rfl,HN.out⟩⟩,D.out⟩
theorem JaT (p:Option Addr) (l:List (Int×ByteArray)) (M:Nat) (y:FuncId) (I:Array Value) (P:Int×ByteArray->Bool) (w:World) (U:l.length<=100000) (N:fE w p l)
 (O:∀ args W,Sem.run prog (callFunc y args) W=.ok (.enter y args) W) (Q:tK w y I l P) :
 Calls prog 111 #[.slice p l.length M,.func (.func y) #[] I] w fun e w'=>e=.returned (.bool (l.any P))/\Below w.heap.size w w':=by
 have J:=Jpn p l M y I P w U N O Q
 clear N Q O
 go_enter func111,ntmps111
 go_wp2_with fail
 refine J.mono ?_
 rintro e X ⟨⟨r,rfl,D⟩,K⟩
 clear J
 rcases D with ⟨D,j⟩ | ⟨D,j⟩
 ·have G:Hid (l.any P=true):=j
  clear j
  go_wp2
  go_ret
  exact ⟨sB (by rw [G.out]),K⟩
 ·have G:Hid (l.any P=false):=j
  subst D
  clear j
  go_wp2
  go_ret
  exact ⟨sB (by rw [G.out]),K⟩
structure jU (w:World) (p:Option Addr) (l:List Nat):Prop where
 lt:Gf.Bytes l
 cells:l=[]∨∃ b o,p=some ⟨b,o,none⟩/\b < w.heap.size/\∀ i,i < l.length->w.cell? ⟨b,o+i,none⟩=some (.int .u8 ((Gf.nth l i:Nat):Int))
theorem jU.below  {l:List Nat} (h:jU w p l) (y:Below w.heap.size w w'):jU w' p l:=by
 refine ⟨h.lt,?_⟩
 rcases h.cells with h | ⟨b,o,D,j,G⟩
 ·exact Or.inl h
 ·exact Or.inr ⟨b,o,D,Nat.lt_of_lt_of_le j y.size,fun i I=>(y.cell (p:=⟨b,o+i,none⟩) j).trans (G i I)⟩
section
def ZM (n:Nat):Value:=.int .u8 (n:Int)
def pA (w:World) (B:Nat) (e:TypeId) (v:Value) (l:List Nat):Prop:=w.ownsRow B e 1 v l.length (l.map ZM)
theorem pA.nil (w:World) (B:Nat) (e:TypeId):pA w B e (.slice none 0 0) []:=World.ownsRow_nil w B e 1
theorem pA.kept   {l:List Nat} (h:pA w B e v l) (j:w.grownBy w' row) (y:v.ownBlock=none∨v.ownBlock≠row):pA w' B e v l:=World.ownsRow.kept h j y
theorem pA.block   {l:List Nat} (h:pA w B e v l) (j:v.ownBlock=some k):B<=k/\k < w.heap.size:=World.ownsRow.lt h k j
theorem JO (w:World) (n:Nat) (row:Option Nat):w.grownBy (w.drewN n) row:=⟨rfl,rfl,rfl,Nat.le_refl _,fun _ _ _=>rfl⟩
theorem pA.seg   {l:List Nat} (h:pA w B e v l) (G:Gf.Bytes l):∃ p j,v=.slice p l.length j/\jU w p l:=by
 rcases h.2 with ⟨rfl,I⟩ | ⟨g,j,K,rfl,M,J,N,O,Q,U⟩
 ·have:l=[]:=List.length_eq_zero_iff.1 I
  subst this
  exact ⟨none,0,rfl,G,Or.inl rfl⟩
 ·refine ⟨some ⟨g,0,none⟩,j,rfl,G,Or.inr ⟨g,0,rfl,(Array.getElem?_eq_some_iff.1 J).1,fun i y=>?_⟩⟩
  have D:=World.ownsRow.cells (g:=g) h rfl i (ZM (Gf.nth l i)) (by rw [List.getElem?_map,List.getElem?_eq_getElem y,Gf.aK l i y];rfl)
  rw [Addr.add_lit] at D
  exact D
section
variable {P:Program} {w:World}
theorem Jcz (B:Nat) (t I e:TypeId) (i:TypeInfo) (z:Value) (N:P.underlying t=some (.slice e)) (O:P.info? e=some i) (Y:i.zero=some z) (G:i.size=1) (Z:i.bytes=1)
 (v:Value) (l:List Nat) (Q:pA w B e v l) (ad:Addr) (c b:Nat) (hb:w.cell? ad=some (ZM b)) (hl:l.length+1<=1000000) 
 (y:(Builtin.append_ #[t,t] I #[v,.slice (some ad) 1 c]).run P w=.ok U w'):U.ownBlock=v.ownBlock∨U.ownBlock=some w.heap.size:=by
 have J:∀ j u,[ZM b][j]?=some u->w.cell? (ad.add j)=some u:=by
  intro j u K
  match j,K with
  | 0,K =>
   obtain rfl:ZM b=u:=by simpa using K
   simpa [Addr.add] using hb
 rcases Q.2 with ⟨rfl,h0⟩ | ⟨g,M,a0,rfl,a2,hg,a3,a4,a1,a5⟩
 ·have:=run_append_nil (P:=P) w t I e i z N O Y ad 1 c [ZM b] (by rw [G];rfl) J (by decide) (by decide) (by rw [Z];decide)
  rw [this] at y
  injection y with D W
  subst D
  exact Or.inr rfl
 ·by_cases X:l.length+1<=M
  ·have:=run_append_room (P:=P) w t I e i N O g l.length M a0 hg ad 1 c [ZM b] (by rw [G];rfl) J (fun u hu=>by rw [List.mem_singleton.1 hu];rfl) X (by rw [G,a1];simpa using X)
   rw [this] at y
   injection y with D W
   subst D
   exact Or.inl rfl
  ·have:=run_append_grow (P:=P) w t I e i z N O Y ⟨g,0,none⟩ l.length M (l.map ZM) (by rw [G];exact Q.1) (World.ownsRow.cells (g:=g) Q rfl) ad 1 c [ZM b] (by rw [G];rfl) J (by omega) (by omega) (growslice_fits (by omega) (by rw [Z];omega))
   rw [this] at y
   injection y with D W
   subst D
   exact Or.inr rfl
theorem Jb9  {K:Act->World->Prop} (s x:Operand) (t:TypeId)
 (ho:o.op=.call { callee:=.builtin .append,args:=#[s,x],argTypes:=#[t,t] })
 (B:Nat) (e:TypeId) (i:TypeInfo) (I:P.underlying t=some (.slice e)) (J:P.info? e=some i) (M:i.zero=some (ZM 0)) (N:i.size=1) (O:i.bytes=1)
 (v:Value) (l:List Nat) (hs:a.eval s=v) (U:pA w B e v l) (ad:Addr) (c b:Nat) (hx:a.eval x=.slice (some ad) 1 c) (W:w.cell? ad=some (ZM b)) (hl:l.length+1<=1000000) (a0:B<=w.heap.size)
 (h:∀ y w',pA w' B e y (l ++ [b])->w.grownBy w' v.ownBlock->(y.ownBlock=v.ownBlock∨y.ownBlock=some w.heap.size)->K (a.put o.dst y) w'):o.wp P a w K Q:=by
 have X:∀ j u,[ZM b][j]?=some u->w.cell? (ad.add j)=some u:=by
  intro j u D
  match j,D with
  | 0,D =>
   obtain rfl:ZM b=u:=by simpa using D
   simpa [Addr.add] using W
 obtain ⟨y,w',G,Y,Z,_⟩:=run_append_own (P:=P) w B t o.type e i (ZM 0) 1 1 I J M N O rfl (by decide) v l.length (l.map ZM) U ad 1 c [ZM b] rfl X (fun u hu=>by rw [List.mem_singleton.1 hu];rfl) (by unfold maxLen;omega) (by omega) a0
 have h4:=Jcz B t o.type e i (ZM 0) I J M N O v l U ad c b W hl G
 have h5:pA w' B e y (l ++ [b]):=by
  unfold pA
  rw [List.length_append,List.map_append]
  exact Y
 unfold Oper.wp execOp
 simp only [ho,resolve,invoke,builtin,Sem.run_bind,Sem.run_pure,Result.andThen_ok,List.map_toArray,List.map_cons,List.map_nil,hs,hx,G]
 exact h y w' h5 Z h4
theorem Jar {y:Array Oper} {D:List Oper}  (M:o.guard=none) (s x:Operand) (t:TypeId)
 (N:o.op=.call { callee:=.builtin .append,args:=#[s,x],argTypes:=#[t,t] })
 (B:Nat) (e:TypeId) (i:TypeInfo) (O:P.underlying t=some (.slice e)) (U:P.info? e=some i) (W:i.zero=some (ZM 0)) (X:i.size=1) (Y:i.bytes=1)
 (v:Value) (l:List Nat) (Z:a.eval s=v) (a0:pA w B e v l) (ad:Addr) (c b:Nat) (hx:a.eval x=.slice (some ad) 1 c) (hb:w.cell? ad=some (ZM b)) (hl:l.length+1<=1000000) (a1:B<=w.heap.size)
 (h:∀ j w',pA w' B e j (l ++ [b])->w.grownBy w' v.ownBlock->(j.ownBlock=v.ownBlock∨j.ownBlock=some w.heap.size)->wpList P y Q D (a.put o.dst j) w'):wpList P y Q (o :: D) a w :=
 wpList_plain M fun _ G=>Jb9 s x t N B e i O U W X Y v l Z a0 ad c b hx hb hl a1 fun j w' I J K=>G _ _ (h j w' I J K)
end
end
section
def JM (w:World) (B:Nat) (e:TypeId) (v:Value) (j:List Value):Prop:=w.ownsRow B e 1 v j.length j
theorem JM.nil (w:World) (B:Nat) (e:TypeId):JM w B e (.slice none 0 0) []:=World.ownsRow_nil w B e 1
theorem JM.kept   {l:List Value} (h:JM w B e v l) (j:w.grownBy w' row) (y:v.ownBlock=none∨v.ownBlock≠row):JM w' B e v l:=World.ownsRow.kept h j y
theorem JM.block   {l:List Value} (h:JM w B e v l) (j:v.ownBlock=some k):B<=k/\k < w.heap.size:=World.ownsRow.lt h k j
theorem JM.cells   {l:List Value} (h:JM w B e v l):v=.slice none 0 0/\l=[]∨∃ g j,v=.slice (some ⟨g,0,none⟩) l.length j/\B<=g/\g < w.heap.size/\∀ i u,l[i]?=some u->w.cell? ⟨g,i,none⟩=some u:=by
 rcases h.2 with ⟨rfl,D⟩ | ⟨g,j,K,rfl,G,I,M,N,O,Q⟩
 ·exact Or.inl ⟨rfl,List.length_eq_zero_iff.1 D⟩
 ·refine Or.inr ⟨g,j,rfl,G,(Array.getElem?_eq_some_iff.1 I).1,fun i u J=>?_⟩
  have y:=World.ownsRow.cells (g:=g) h rfl i u J
  rw [Addr.add_lit,Nat.zero_add] at y
  exact y
section
variable {P:Program} {w:World}
theorem Jgr (B:Nat) (t I e:TypeId) (i:TypeInfo) (z:Value) (bytes:Nat) (N:P.underlying t=some (.slice e)) (O:P.info? e=some i) (Y:i.zero=some z) (G:i.size=1) (Z:i.bytes=bytes) (a2:bytes<=64)
 (v:Value) (l:List Value) (Q:JM w B e v l) (ad:Addr) (c:Nat) (u:Value) (hu:u.oneCell'=true) (hb:w.cell? ad=some u) (hl:l.length+1<=1000000) 
 (y:(Builtin.append_ #[t,t] I #[v,.slice (some ad) 1 c]).run P w=.ok U w'):U.ownBlock=v.ownBlock∨U.ownBlock=some w.heap.size:=by
 have J:∀ j x,[u][j]?=some x->w.cell? (ad.add j)=some x:=by
  intro j x K
  match j,K with
  | 0,K =>
   obtain rfl:u=x:=by simpa using K
   simpa [Addr.add] using hb
 rcases Q.2 with ⟨rfl,h0⟩ | ⟨g,M,a0,rfl,a3,hg,a4,a5,a1,a6⟩
 ·have:=run_append_nil (P:=P) w t I e i z N O Y ad 1 c [u] (by rw [G];rfl) J (by decide) (by decide) (by rw [Z];omega)
  rw [this] at y
  injection y with D W
  subst D
  exact Or.inr rfl
 ·by_cases X:l.length+1<=M
  ·have:=run_append_room (P:=P) w t I e i N O g l.length M a0 hg ad 1 c [u] (by rw [G];rfl) J (fun x hx=>by rw [List.mem_singleton.1 hx];exact hu) X (by rw [G,a1];simpa using X)
   rw [this] at y
   injection y with D W
   subst D
   exact Or.inl rfl
  ·have a7:(l.length+1)*bytes<=1000000*64:=Nat.mul_le_mul hl a2
   have:=run_append_grow (P:=P) w t I e i z N O Y ⟨g,0,none⟩ l.length M l (by rw [G];exact Q.1) (World.ownsRow.cells (g:=g) Q rfl) ad 1 c [u] (by rw [G];rfl) J (by omega) (by omega) (growslice_fits (by omega) (by rw [Z];omega))
   rw [this] at y
   injection y with D W
   subst D
   exact Or.inr rfl
theorem yL {M:List Oper}  (a1:o.guard=none) (s x:Operand) (t:TypeId)
 (ho:o.op=.call { callee:=.builtin .append,args:=#[s,x],argTypes:=#[t,t] })
 (B:Nat) (e:TypeId) (i:TypeInfo) (z:Value) (bytes:Nat) (N:P.underlying t=some (.slice e)) (O:P.info? e=some i) (U:i.zero=some z) (a2:z.cells.size=1) (W:i.size=1) (X:i.bytes=bytes) (Y:bytes<=64)
 (v:Value) (l:List Value) (hs:a.eval s=v) (Z:JM w B e v l) (ad:Addr) (c:Nat) (u:Value) (hu:u.oneCell'=true) (G:a.eval x=.slice (some ad) 1 c) (hb:w.cell? ad=some u) (hl:l.length+1<=1000000) (a3:B<=w.heap.size)
 (h:∀ y w',JM w' B e y (l ++ [u])->w.grownBy w' v.ownBlock->(y.ownBlock=v.ownBlock∨y.ownBlock=some w.heap.size)->wpList P J Q M (a.put o.dst y) w'):wpList P J Q (o :: M) a w:=by
 have a0:∀ j x,[u][j]?=some x->w.cell? (ad.add j)=some x:=by
  intro j x D
  match j,D with
  | 0,D =>
   obtain rfl:u=x:=by simpa using D
   simpa [Addr.add] using hb
 have a4:(l.length+1)*bytes<=1000000*64:=Nat.mul_le_mul hl Y
 refine wpList_plain a1 fun K hK=>?_
 obtain ⟨y,w',I,h2,h3,_⟩:=run_append_own (P:=P) w B t o.type e i z 1 bytes N O U W X a2 (by decide) v l.length l Z ad 1 c [u] rfl a0 (fun x G=>by rw [List.mem_singleton.1 G];exact hu) (by unfold maxLen;omega) (by omega) a3
 have h4:=Jgr B t o.type e i z bytes N O U W X Y v l Z ad c u hu hb hl I
 have h5:JM w' B e y (l ++ [u]):=by
  unfold JM
  rw [List.length_append]
  exact h2
 unfold Oper.wp execOp
 simp only [ho,resolve,invoke,builtin,Sem.run_bind,Sem.run_pure,Result.andThen_ok,List.map_toArray,List.map_cons,List.map_nil,hs,G,I]
 exact hK _ _ (h y w' h5 h3 h4)
end
end
end Go.Proofs.YtmikbldbfnlfjaaGreatDoor
