import Derived.Test.YtghpdhegfnhmkaaGreatDoorS31
import Derived.DeepKeys4
import Derived.Maps.RangeWalk
import Derived.Maps.OwnOps
import Derived.Maps.OwnSet
namespace Go.Proofs.YtghpdhegfnhmkaaGreatDoor
open Go.RowKit
def tagV (t:Int×Int):Value:=.agg #[.int .i64 t.1,.int .i64 t.2]
def litT (t:Int×Int):Lit:=.string (keyBytes [.int .i64 t.1,.int .i64 t.2])
def TagIn (t:Int×Int):Prop:=(-9223372036854775808<=t.1/\t.1<=9223372036854775807)/\-9223372036854775808<=t.2/\t.2<=9223372036854775807
theorem qbLaidOut:laidOutB Tryz.prog=true:=by kernel_rfl
theorem qbRow:(43:TypeId) < Tryz.prog.types.size:=of_decide_eq_true (by kernel_rfl)
theorem qbWide:(match Tryz.prog.underlying 43 with | some (.array _ _) | some (.struct _)=>true | _=>false)=true:=by rw [Tryz.underlying43]
set_option maxRecDepth 100000 in
theorem keyedT:Maps.Keyed Tryz.prog 43:=Maps.Keyed.of_law (deep_law_laid qbLaidOut (m:=3) (by omega) qbRow (by kernel_rfl) qbWide)
theorem qbKeyType:Tryz.prog.keyType 43=true:=by kernel_rfl
theorem qbCells:Tryz.prog.cellsOf 43=2:=by kernel_rfl
theorem qbCellsI:Tryz.prog.cellsOf 3=1:=by kernel_rfl
theorem qbSize:Tryz.prog.types.size=250:=by kernel_rfl
theorem wf_i64 {a:Int}:(Lit.int .i64 a).wf=true↔-9223372036854775808<=a/\a<=9223372036854775807:=by
 simp [Lit.wf,IntKind.min,IntKind.max,IntKind.bits,IntKind.signed]
set_option maxRecDepth 100000 in
theorem lits_int (m:Nat) (c:Value) (ls:List Lit):Tryz.prog.keyLits (m+1) 3 [c]=some ls↔∃ a,c=.int .i64 a/\(Lit.int .i64 a).wf=true/\ls=[.int .i64 a]:=by
 constructor
 ·intro h
  cases c <;> simp [Program.keyLits,Tryz.underlying3] at h
  obtain ⟨⟨rfl,h2⟩,rfl⟩:=h
  exact ⟨_,rfl,h2,rfl⟩
 ·rintro ⟨a,rfl,h,rfl⟩
  simp [Program.keyLits,Tryz.underlying3,h]
set_option maxRecDepth 100000 in
theorem lits_tag (c0 c1:Value) (ls:List Lit):Tryz.prog.keyLits (Tryz.prog.types.size+1) 43 [c0,c1]=some ls↔∃ a b,c0=.int .i64 a/\c1=.int .i64 b/\(Lit.int .i64 a).wf=true/\(Lit.int .i64 b).wf=true/\ls=[.int .i64 a,.int .i64 b]:=by
 obtain ⟨m,hm⟩:∃ m,Tryz.prog.types.size=m+1:=⟨250 - 1,by rw [qbSize]⟩
 rw [hm]
 unfold Program.keyLits
 rw [Tryz.underlying43]
 simp only [List.length_cons,List.length_nil,qbCells,qbCellsI,List.mapM_cons,List.mapM_nil,List.drop_zero,List.take_succ_cons,List.take_zero,List.drop_succ_cons]
 constructor
 ·intro h
  cases h0:Tryz.prog.keyLits (m+1) 3 [c0] with
  | none=>simp [h0] at h
  | some l0 =>
   cases h1:Tryz.prog.keyLits (m+1) 3 [c1] with
   | none=>simp [h0,h1] at h
   | some l1 =>
    obtain ⟨a,rfl,wa,rfl⟩:=(lits_int m c0 l0).1 h0
    obtain ⟨b,rfl,wb,rfl⟩:=(lits_int m c1 l1).1 h1
    simp [h0,h1] at h
    exact ⟨a,b,rfl,rfl,wa,wb,h.symm⟩
 ·rintro ⟨a,b,rfl,rfl,wa,wb,rfl⟩
  simp [(lits_int m _ _).2 ⟨a,rfl,wa,rfl⟩,(lits_int m _ _).2 ⟨b,rfl,wb,rfl⟩]
set_option maxRecDepth 100000 in
theorem keyOfT {t:Int×Int} (h:TagIn t):keyOf Tryz.prog 43 (tagV t)=some (litT t):=by
 have hf:(tagV t).formed Tryz.prog 43=true:=by simp [tagV,Value.formed,Tryz.underlying43,qbCells]
 have hl:=(lits_tag (.int .i64 t.1) (.int .i64 t.2) _).2 ⟨t.1,t.2,rfl,rfl,wf_i64.2 h.1,wf_i64.2 h.2,rfl⟩
 have hc:(tagV t).cells.toList=[.int .i64 t.1,.int .i64 t.2]:=by simp [tagV,Value.cells]
 unfold keyOf
 rw [Tryz.underlying43]
 simp only [qbKeyType,hf,Bool.and_self,if_true,hc,hl]
 rfl
set_option maxRecDepth 100000 in
theorem keyOfT_inv {v:Value} {l:Lit} (h:keyOf Tryz.prog 43 v=some l):∃ t,v=tagV t/\l=litT t/\TagIn t:=by
 unfold keyOf at h
 rw [Tryz.underlying43] at h
 simp only [qbKeyType,Bool.true_and] at h
 split at h
 ·rename_i hf
  obtain ⟨ls,hls,rfl⟩:=Option.map_eq_some_iff.1 h
  cases v <;> simp [Value.formed,Tryz.underlying43,qbCells] at hf
  rename_i cs
  obtain ⟨cl⟩:=cs
  match cl,hf with
  | [c0,c1],_ =>
   have hls':Tryz.prog.keyLits (Tryz.prog.types.size+1) 43 [c0,c1]=some ls:=by simpa [Value.cells] using hls
   obtain ⟨a,b,rfl,rfl,wa,wb,rfl⟩:=(lits_tag c0 c1 ls).1 hls'
   exact ⟨(a,b),rfl,rfl,wf_i64.1 wa,wf_i64.1 wb⟩
 ·cases h
theorem litT_inj {t u:Int×Int} (ht:TagIn t) (hu:TagIn u) (h:litT t=litT u):t=u:=by
 have:=keyedT.inj (keyOfT ht) (by rw [h];exact keyOfT hu)
 unfold tagV at this
 simp at this
 exact Prod.ext this.1 this.2
theorem litT_key (t:Int×Int):WideAt.IsKeyLit (litT t):=trivial
def toldR:Value->Option (DataW Value×List MemPlace)
 | .agg ⟨[.int .i64 z,.slice p n c]⟩=>some (.held (.agg #[.int .i64 z,.slice p n c]),[])
 | _=>none
def toldV (x:Int×Option Addr×Nat×Nat):Value:=.agg #[.int .i64 x.1,.slice x.2.1 x.2.2.1 x.2.2.2]
theorem toldR_mk (x:Int×Option Addr×Nat×Nat):toldR (toldV x)=some (.held (toldV x),[]):=rfl
theorem toldR_inv {v:Value} {y:DataW Value×List MemPlace} (h:toldR v=some y):∃ x,v=toldV x/\y=(.held (toldV x),[]):=by
 unfold toldR at h
 split at h
 ·rename_i z p n c
  injection h with h
  exact ⟨(z,p,n,c),rfl,h.symm⟩
 ·cases h
abbrev OwnTM (w:World) (b m:Nat) (D:DataW Value):Prop:=w.ownsMap Tryz.prog 43 toldR b m D
theorem OwnTM.same {w w':World} {b n:Nat} {D:DataW Value} (h:OwnTM w b n D) (hb:w'.heap[b]?=w.heap[b]?):OwnTM w' b n D:=by
 obtain ⟨es,clock,h1,h2⟩:=h
 exact ⟨es,clock,hb.trans h1,h2⟩
theorem qbRanges_same {w w':World} {b r n cnt:Nat} {D:DataW Value} {left:Lit->Bool} (h:w.ranges Tryz.prog 43 toldR b r n D left cnt) (h1:w'.heap[b]?=w.heap[b]?) (h2:w'.heap[r]?=w.heap[r]?):w'.ranges Tryz.prog 43 toldR b r n D left cnt:=by
 obtain ⟨es,clock,since,seen,c0,hb,F,hs,hD,hr,rest⟩:=h
 exact ⟨es,clock,since,seen,c0,h1.trans hb,F,hs,hD,h2.trans hr,rest⟩
structure TbAt (w:World) (B b n k:Nat) (L:List Ver) (D:DataW Value) (row:Int×Int->Value) (blk:Int×Int->Nat):Prop where
 map:∃ m,m<=L.length/\OwnTM w b m D
 inB:B<=b
 has:∀ t,TagIn t->Maps.has D (litT t)=decide ((shOf n k t L).2≠[])
 at_:∀ t,TagIn t->(shOf n k t L).2≠[]->∀ z,D.atKey (litT t) z=.held (.agg #[.int .i64 (shOf n k t L).1,row t])
 own:∀ t,TagIn t->w.ownsRow B 45 2 (row t) (shOf n k t L).2.length (shVals (shOf n k t L).2)
 nil_:∀ t,TagIn t->(shOf n k t L).2=[]->row t=.slice none 0 0
 blk_:∀ t,TagIn t->(shOf n k t L).2≠[]->(row t).ownBlock=some (blk t)/\blk t≠b
 apart:∀ t u,TagIn t->TagIn u->(shOf n k t L).2≠[]->(shOf n k u L).2≠[]->t≠u->blk t≠blk u
variable {w w':World} {B b n k:Nat} {L:List Ver} {D:DataW Value} {row:Int×Int->Value} {blk:Int×Int->Nat}
theorem TbAt.lt (h:TbAt w B b n k L D row blk):b < w.heap.size:=by
 obtain ⟨m,_,h1⟩:=h.map
 exact World.ownsMap.lt h1
theorem TbAt.below (h:TbAt w B b n k L D row blk) (hb:Below w.heap.size w w'):TbAt w' B b n k L D row blk:=by
 obtain ⟨m,hm,h1⟩:=h.map
 refine ⟨⟨m,hm,h1.same (hb.block b h.lt)⟩,h.inB,h.has,h.at_,fun t ht=>World.ownsRow.kept (row:=none) (h.own t ht) (below_grown hb none) (by cases (row t).ownBlock <;> simp),h.nil_,h.blk_,h.apart⟩
theorem tb_made (w:World) (n k:Nat):TbAt (w.alloc (.map #[] 0)) w.heap.size w.heap.size n k [] (.map []) (fun _=>.slice none 0 0) (fun _=>0):=by
 refine ⟨⟨0,Nat.le_refl _,World.ownsMap_made w _ _ _⟩,Nat.le_refl _,fun t _=>rfl,fun t _ h=>absurd rfl h,fun t _=>World.ownsRow_nil _ _ _ _,fun _ _ _=>rfl,fun t _ h=>absurd rfl h,fun t _ _ _ h=>absurd rfl h⟩
def sizeT (S:Int×List (Int×ByteArray)):Int:=if S.2=[] then 0 else S.1
set_option maxRecDepth 10000 in
theorem TbAt.look (h:TbAt w B b n k L D row blk) {t:Int×Int} (ht:TagIn t):(Instr.lookup 163 (.map (some b)) (tagV t) false).run Tryz.prog w=.ok (.agg #[.int .i64 (sizeT (shOf n k t L)),row t]) w:=by
 have hz:(zeroValue 166).run Tryz.prog w=.ok (toldV (0,none,0,0)) w:=by kernel_rfl
 obtain ⟨m,_,h3⟩:=h.map
 obtain ⟨v,ps,hrun,hR⟩:=World.ownsMap.lookup h3 keyedT Tryz.underlying163 hz (zd:=.held (toldV (0,none,0,0))) (zp:=[]) (toldR_mk _) (keyOfT ht)
 rw [hrun]
 obtain ⟨x,rfl,hx⟩:=toldR_inv hR
 have e:D.atKey (litT t) (.held (toldV (0,none,0,0)))=.held (toldV x):=congrArg Prod.fst hx
 unfold sizeT
 by_cases hg:(shOf n k t L).2=[]
 ·rw [Maps.atKey_of_not_has (by rw [h.has t ht];simp [hg])] at e
  injection e with e
  rw [if_pos hg,h.nil_ t ht hg,<- e]
  rfl
 ·rw [h.at_ t ht hg] at e
  injection e with e
  rw [if_neg hg,e]
theorem own_some {w:World} {B:Nat} {T:TypeId} {v:Value} {l:List (Int×ByteArray)} (h:w.ownsRow B T 2 v l.length (shVals l)) (hl:l≠[]):∃ g,v.ownBlock=some g/\B<=g/\g < w.heap.size:=by
 rcases h.2 with ⟨_,h0⟩ | ⟨g,cap,cur,rfl,hb,hg,_⟩
 ·exact absurd (List.length_eq_zero_iff.1 h0) hl
 ·exact ⟨g,rfl,hb,(Array.getElem?_eq_some_iff.1 hg).1⟩
theorem TbAt.pass (h:TbAt w B b n k L D row blk) {v:Ver} (hv:canB n k v=false):TbAt w B b n k (L ++ [v]) D row blk:=by
 have e:∀ t,shOf n k t (L ++ [v])=shOf n k t L:=fun t=>by rw [shOf_snoc,shStep_no (fun hh=>by rw [hv] at hh;cases hh.2.2)]
 obtain ⟨m,hm,h1⟩:=h.map
 refine ⟨⟨m,by rw [List.length_append];omega,h1⟩,h.inB,?_,?_,?_,?_,?_,?_⟩
 ·intro t;rw [e];exact h.has t
 ·intro t;rw [e];exact h.at_ t
 ·intro t;rw [e];exact h.own t
 ·intro t;rw [e];exact h.nil_ t
 ·intro t;rw [e];exact h.blk_ t
 ·intro t u;rw [e,e];exact h.apart t u
theorem shStep_some {n k:Nat} {t:Int×Int} {S:Int×List (Int×ByteArray)} {v:Ver} (hS:S.1 < 0↔S.2=[]) (hy:v.n=t.1/\v.who=t.2/\canB n k v=true):(shStep n k t S v).2≠[]:=by
 by_cases hz:S.1 < 0
 ·rw [shStep_yes (z:=v.size) hy (by rw [if_pos hz]),hS.1 hz]
  simp
 ·rw [shStep_yes (z:=S.1) hy (by rw [if_neg hz])]
  have hne:S.2≠[]:=fun e=>hz (hS.2 e)
  try dsimp only
  split
  ·simp
  ·exact hne
theorem TbAt.put (h:TbAt w B b n k L D row blk) {v:Ver} (hc:canB n k v=true) (ht:TagIn (v.n,v.who)) (hB:B<=w.heap.size) {w1:World} {row':Value} {S':Int×List (Int×ByteArray)} (hS:S'=shStep n k (v.n,v.who) (shOf n k (v.n,v.who) L) v)
 (hg1:w.grownBy w1 (row (v.n,v.who)).ownBlock) (hown:w1.ownsRow B 45 2 row' S'.2.length (shVals S'.2)) (hblk:row'.ownBlock=(row (v.n,v.who)).ownBlock∨∃ g,row'.ownBlock=some g/\w.heap.size<=g) (hrow:∃ p c,row'=.slice p S'.2.length c) (hlen:L.length < 1000000) :
 ∃ w2,(Instr.mapUpdate 163 (.map (some b)) (tagV (v.n,v.who)) (.agg #[.int .i64 S'.1,row'])).run Tryz.prog w1=.ok () w2/\Below B w w2/\∃ D' row'' blk',TbAt w2 B b n k (L ++ [v]) D' row'' blk':=by
 obtain ⟨m,hm,h3⟩:=h.map
 have hne':S'.2≠[]:=by rw [hS];exact shStep_some (shOf_size L) ⟨rfl,rfl,hc⟩
 have hbn:some b≠(row (v.n,v.who)).ownBlock:=by
  by_cases hg:(shOf n k (v.n,v.who) L).2=[]
  ·rw [h.nil_ _ ht hg];simp [Value.ownBlock]
  ·obtain ⟨e1,e2⟩:=h.blk_ _ ht hg
   rw [e1]
   simp
   exact fun e=>e2 e.symm
 obtain ⟨p,c,rfl⟩:=hrow
 have h31:OwnTM w1 b m D:=World.ownsMap.kept h3 hg1 hbn
 obtain ⟨w2,hrun,hown2,hg2⟩:=World.ownsMap.update h31 keyedT Tryz.underlying163 (by show m < maxLen;unfold maxLen;omega) (keyOfT ht) (toldR_mk (S'.1,p,S'.2.length,c))
 have hsz1:=hg1.size
 have hbelow:Below B w w2:=by
  have hb1:Below B w w1:=(Below.refl _ _).grown hg1 hB (fun j hj=>by
   by_cases hg:(shOf n k (v.n,v.who) L).2=[]
   ·rw [h.nil_ _ ht hg] at hj;cases hj
   ·obtain ⟨g,e1,e2,_⟩:=own_some (h.own _ ht) hg
    rw [e1] at hj
    cases hj
    exact e2)
  exact hb1.trans ((Below.refl _ _).grown hg2 (Nat.le_trans hB hsz1) (fun j hj=>by cases hj;exact h.inB))
 obtain ⟨g',hg'1,hg'2,hg'3⟩:=own_some hown hne'
 have hg'b:g'≠b:=by
  rcases hblk with e | ⟨g,e1,e2⟩
  ·rw [hg'1] at e
   exact fun e2=>hbn (by rw [<- e,e2])
  ·rw [hg'1] at e1
   cases e1
   have:=h.lt
   omega
 have e1:shOf n k (v.n,v.who) (L ++ [v])=S':=by rw [shOf_snoc,hS]
 have e2:∀ u,u≠(v.n,v.who)->shOf n k u (L ++ [v])=shOf n k u L:=fun u hu=>by rw [shOf_snoc,shStep_no (fun hh=>hu (Prod.ext hh.1.symm hh.2.1.symm))]
 refine ⟨w2,hrun,hbelow,D.put (litT (v.n,v.who)) (.held (toldV (S'.1,p,S'.2.length,c))),fun u=>if u=(v.n,v.who) then .slice p S'.2.length c else row u,fun u=>if u=(v.n,v.who) then g' else blk u,⟨⟨m+1,by rw [List.length_append,List.length_singleton];omega,hown2⟩,h.inB,?_,?_,?_,?_,?_,?_⟩⟩
 ·intro u hu
  by_cases e:u=(v.n,v.who)
  ·rw [e,Maps.has_put_same (World.ownsMap.isMap h3) (litT_key _),e1]
   simp [hne']
  ·rw [Maps.has_put_other (fun e'=>e (litT_inj hu ht e')),e2 u e]
   exact h.has u hu
 ·intro u hu hg z
  by_cases e:u=(v.n,v.who)
  ·subst e
   rw [Maps.atKey_put_same (World.ownsMap.isMap h3) (litT_key _),e1,if_pos rfl]
   rfl
  ·rw [e2 u e] at hg ⊢
   rw [Maps.atKey_put_other (fun e'=>e (litT_inj hu ht e')),if_neg e]
   exact h.at_ u hu hg z
 ·intro u hu
  try dsimp only
  by_cases e:u=(v.n,v.who)
  ·subst e
   rw [e1,if_pos rfl]
   refine World.ownsRow.kept hown hg2 ?_
   rw [hg'1]
   refine Or.inr fun e=>hg'b ?_
   injection e
  ·rw [e2 u e,if_neg e]
   have hk1:w1.ownsRow B 45 2 (row u) (shOf n k u L).2.length (shVals (shOf n k u L).2):=by
    refine World.ownsRow.kept (h.own u hu) hg1 ?_
    by_cases hgu:(shOf n k u L).2=[]
    ·rw [h.nil_ u hu hgu];exact Or.inl rfl
    ·refine Or.inr ?_
     rw [(h.blk_ u hu hgu).1]
     by_cases hgt:(shOf n k (v.n,v.who) L).2=[]
     ·rw [h.nil_ _ ht hgt];simp [Value.ownBlock]
     ·rw [(h.blk_ _ ht hgt).1]
      intro e'
      injection e' with e'
      exact h.apart u _ hu ht hgu hgt e e'
   refine World.ownsRow.kept hk1 hg2 ?_
   by_cases hgu:(shOf n k u L).2=[]
   ·rw [h.nil_ u hu hgu];exact Or.inl rfl
   ·refine Or.inr ?_
    rw [(h.blk_ u hu hgu).1]
    intro e'
    injection e' with e'
    exact (h.blk_ u hu hgu).2 e'
 ·intro u hu hg
  try dsimp only
  by_cases e:u=(v.n,v.who)
  ·subst e
   rw [e1] at hg
   exact absurd hg hne'
  ·rw [e2 u e] at hg
   rw [if_neg e]
   exact h.nil_ u hu hg
 ·intro u hu hg
  try dsimp only
  by_cases e:u=(v.n,v.who)
  ·subst e
   rw [if_pos rfl,if_pos rfl]
   exact ⟨hg'1,hg'b⟩
  ·rw [e2 u e] at hg
   rw [if_neg e,if_neg e]
   exact h.blk_ u hu hg
 ·intro u x hu hx hgu hgx hne
  try dsimp only
  have hnew:∀ y,TagIn y->y≠(v.n,v.who)->(shOf n k y L).2≠[]->blk y≠g':=fun y hy hyt hgy e=>by
   obtain ⟨g,q1,q2,q3⟩:=own_some (h.own y hy) hgy
   rw [(h.blk_ y hy hgy).1] at q1
   injection q1 with q1
   rcases hblk with e' | ⟨g2,e',e''⟩
   ·by_cases hgt:(shOf n k (v.n,v.who) L).2=[]
    ·rw [h.nil_ _ ht hgt,hg'1] at e';cases e'
    ·rw [hg'1,(h.blk_ _ ht hgt).1] at e'
     injection e' with e'
     exact h.apart y _ hy ht hgy hgt hyt (e.trans e')
   ·rw [hg'1] at e'
    injection e' with e'
    omega
  by_cases eu:u=(v.n,v.who)
  ·have ex:x≠(v.n,v.who):=fun e=>hne (eu.trans e.symm)
   rw [if_pos eu,if_neg ex]
   rw [e2 x ex] at hgx
   exact fun e=>hnew x hx ex hgx e.symm
  ·rw [e2 u eu] at hgu
   rw [if_neg eu]
   by_cases ex:x=(v.n,v.who)
   ·rw [if_pos ex]
    exact hnew u hu eu hgu
   ·rw [e2 x ex] at hgx
    rw [if_neg ex]
    exact h.apart u x hu hx hgu hgx hne
end Go.Proofs.YtghpdhegfnhmkaaGreatDoor
