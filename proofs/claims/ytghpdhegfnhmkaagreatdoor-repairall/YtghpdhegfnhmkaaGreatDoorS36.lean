import Derived.Test.YtghpdhegfnhmkaaGreatDoorS25
import Derived.Lib.AppendZerosOnto
import Derived.Lib.Overlaps
import Derived.Laws.CopyRow
import Derived.Laws.Externs
import Derived.Deep.RegionLaw
namespace Go.Proofs.YtghpdhegfnhmkaaGreatDoor
open Go.RowKit
theorem run_copy_k {P:Program} (w:World) (dT sT ty elem:TypeId) (g o dLen dCap:Nat) (a:Addr) (sLen sCap:Nat) (cur:Array Value) (t:TypeId) (cs:List Value) (k:Nat)
 (hu:P.underlying dT=some (.slice elem)) (hs:(P.info? elem).map (·.size)=some k) (hg:w.heap[g]?=some (.cells cur t (0,0))) (hn:cs.length=Nat.min sLen dLen*k)
 (hsrc:∀ j v,cs[j]?=some v->w.cell? (a.add j)=some v) (hfit:o+cs.length<=cur.size) (h1:∀ v ∈ cs,v.oneCell'=true) :
 (Builtin.copy_ #[dT,sT] ty #[.slice (some ⟨g,o,none⟩) dLen dCap,.slice (some a) sLen sCap]).run P w=.ok (goInt (Nat.min sLen dLen)) (w.setRow g (cur.toList.take o ++ cs ++ cur.toList.drop (o+cs.length)).toArray):=by
 have hl:=run_loadCells_list (P:=P) w a cs hsrc
 have hst:=run_storeCells_at P g o t cs 0 cur w hg (by simpa using hfit) h1
 cases hq:P.info? elem with
 | none=>simp [hq] at hs
 | some i =>
  have hi:i.size=k:=by simpa [hq] using hs
  simp [Builtin.copy_,run_underlying hu,Builtin.lenOf,Builtin.firstCells,sizeOf,typeInfo,hq,hi,<- hn,hl,hst]
theorem step_copy_k {P:Program} {ops:Array Oper} {o:Oper} {a:Act} {w:World} {K:Act->World->Prop} {Q:Exit->Act->World->Prop} {E:Prop} (hgd:o.guard=none) (d s:Operand) (dT sT:TypeId)
 (ho:o.op=.call { callee:=.builtin .copy,args:=#[d,s],argTypes:=#[dT,sT] }) (v u:Value) (hd:a.eval d=v) (hs:a.eval s=u) {v':Value} {w':World} (hr:∀ ty,(Builtin.copy_ #[dT,sT] ty #[v,u]).run P w=.ok v' w') (hK:K (a.put o.dst v') w') :
 if Region.wanted o (yielded ops a.tmps)=true then Oper.wp P o a w K Q else E:=by
 rw [if_pos (by simp [Region.wanted,hgd])]
 unfold Oper.wp
 simp [execOp,ho,resolve,invoke,builtin,hd,hs,hr,Result.andThen]
 exact hK
theorem wpList_copy_k {P:Program} {w:World} {ops:Array Oper} {rest:List Oper} {o:Oper} {a:Act} {Q:Exit->Act->World->Prop} (hgd:o.guard=none) (d s:Operand) (dT sT:TypeId)
 (ho:o.op=.call { callee:=.builtin .copy,args:=#[d,s],argTypes:=#[dT,sT] }) (v u:Value) (hd:a.eval d=v) (hs:a.eval s=u) {v':Value} {w':World} (hr:∀ ty,(Builtin.copy_ #[dT,sT] ty #[v,u]).run P w=.ok v' w')
 (h:wpList P ops Q rest (a.put o.dst v') w'):wpList P ops Q (o :: rest) a w:=by
 refine wpList_plain hgd fun K hK=>?_
 unfold Oper.wp
 simp [execOp,ho,resolve,invoke,builtin,hd,hs,hr,Result.andThen]
 exact hK _ _ h
theorem plain_block {w:World} {b:Nat} {cs:Array Value} {t:TypeId} (h:w.heap[b]?=some (.cells cs t (0,0))):w.shape? b=some (t,cs.size)/\∀ o,w.frozen? ⟨b,o,none⟩=false:=by
 constructor
 ·simp [World.shape?,h]
 ·intro o
  simp [World.frozen?,h]
theorem versize:(Tryz.prog.info? 47).map (·.size)=some 5:=by
 obtain ⟨i0,hi0,h0,h1,h2⟩:=info_parts verinfo
 rw [hi0]
 simp [h1]
def insV (l:List Ver) (i:Nat) (x:Ver):List Ver:=l.take i ++ [x] ++ l.drop i
theorem insV_length {l:List Ver} {i:Nat} (hi:i<=l.length) (x:Ver):(insV l i x).length=l.length+1:=by
 unfold insV
 simp
 omega
theorem recVals_ins (l:List Ver) (i:Nat) (x:Ver):recVals verE (insV l i x)=recVals verE (l.take i) ++ (verC x ++ recVals verE (l.drop i)):=by
 unfold insV
 rw [recVals_append,recVals_append,recVals_one,List.append_assoc]
 rfl
theorem len5 (l:List Ver):(recVals verE l).length=l.length*5:=recVals_length verE l
def InsOk (w w':World) (v:Value) (l:List Ver) (i:Nat) (x:Ver) (e:Ending):Prop :=
 ∃ v',e=.returned v'/\OwnR verE 47 w' 0 v' (insV l i x)/\w.grownBy w' v.ownBlock/\((v'.ownBlock=v.ownBlock/\v.ownBlock≠none)∨∃ k,v'.ownBlock=some k/\w.heap.size<=k)
theorem splice_shift {α:Type} (A B R X:List α) (k:Nat) (hX:X.length=k) (hR:k<=R.length) (cur:List α) (hc:cur=A ++ (B ++ R)) :
 (((cur.take (A.length+k) ++ B ++ cur.drop (A.length+k+B.length)).take A.length) ++ X ++ ((cur.take (A.length+k) ++ B ++ cur.drop (A.length+k+B.length)).drop (A.length+X.length))).take (A.length+k+B.length)=A ++ (X ++ B):=by
 subst hc
 have e1:(A ++ (B ++ R)).take (A.length+k)=A ++ (B ++ R).take k:=by rw [List.take_append,List.take_of_length_le (Nat.le_add_right _ _),Nat.add_sub_cancel_left]
 have e2:((B ++ R).take k).length=k:=by rw [List.length_take,List.length_append];omega
 rw [e1]
 have e3:(A ++ (B ++ R).take k ++ B ++ (A ++ (B ++ R)).drop (A.length+k+B.length)).take A.length=A:=by
  rw [List.append_assoc,List.append_assoc,List.take_left]
 have e4:(A ++ (B ++ R).take k ++ B ++ (A ++ (B ++ R)).drop (A.length+k+B.length)).drop (A.length+X.length)=B ++ (A ++ (B ++ R)).drop (A.length+k+B.length):=by
  rw [List.append_assoc (A ++ (B ++ R).take k)]
  exact List.drop_left' (by rw [List.length_append,e2,hX])
 rw [e3,e4,<- List.append_assoc,List.take_append_of_le_length (by simp only [List.length_append];omega),List.take_of_length_le (by simp only [List.length_append];omega),List.append_assoc]
theorem splice_grow {α:Type} (A B Z X:List α) (k:Nat) (hX:X.length=k) :
 ((((A ++ Z).take A.length ++ X ++ (A ++ Z).drop (A.length+X.length)).take (A.length+k)) ++ B ++ (((A ++ Z).take A.length ++ X ++ (A ++ Z).drop (A.length+X.length)).drop (A.length+k+B.length))).take (A.length+k+B.length)=A ++ (X ++ B):=by
 have e1:(A ++ Z).take A.length=A:=by rw [List.take_left]
 rw [e1]
 have e2:(A ++ X ++ (A ++ Z).drop (A.length+X.length)).take (A.length+k)=A ++ X:=List.take_left' (by rw [List.length_append,hX])
 rw [e2,List.take_append_of_le_length (by simp only [List.length_append];omega),List.take_of_length_le (by simp only [List.length_append];omega),List.append_assoc]
theorem append_at (w:World) (v:Value) (l:List Ver) (x:Ver) (hl:l.length<=1000) (hO:OwnR verE 47 w 0 v l) (vb vc:Nat) (hx:∀ j u,(verC x)[j]?=some u->w.cell? ⟨vb,j,none⟩=some u) :
 ∃ v' w',(∀ ty,(Builtin.append_ #[62,62] ty #[v,.slice (some ⟨vb,0,none⟩) 1 vc]).run Tryz.prog w=.ok v' w')/\OwnR verE 47 w' 0 v' (l ++ [x])/\w.grownBy w' v.ownBlock/\((v'.ownBlock=v.ownBlock/\v.ownBlock≠none)∨∃ k,v'.ownBlock=some k/\w.heap.size<=k):=by
 obtain ⟨i0,hi0,hz0,hz1,hzb⟩:=info_parts verinfo
 have hnl:(verC x).length=1*5:=rfl
 have hne:∀ j u,(verC x)[j]?=some u->w.cell? ((⟨vb,0,none⟩:Addr).add j)=some u:=fun j u hj=>by rw [Addr.add_lit,Nat.zero_add];exact hx j u hj
 have h1:∀ u ∈ verC x,u.oneCell'=true:=verE.one x
 obtain ⟨v',w',hr,ho,hg,hnil⟩:=run_append_own (P:=Tryz.prog) w 0 62 0 47 i0 _ 5 48 Tryz.underlying62 hi0 hz0 hz1 hzb rfl (by decide) v l.length (recVals verE l) hO ⟨vb,0,none⟩ 1 vc (verC x) hnl hne h1 (by unfold maxLen;omega) (by omega) (Nat.zero_le _)
 refine ⟨v',w',fun ty=>?_,?_,hg,?_⟩
 ·have:∀ ty,(Builtin.append_ #[62,62] ty #[v,.slice (some ⟨vb,0,none⟩) 1 vc]).run Tryz.prog w=(Builtin.append_ #[62,62] 0 #[v,.slice (some ⟨vb,0,none⟩) 1 vc]).run Tryz.prog w:=fun _=>rfl
  rw [this,hr]
 ·show World.ownsRow _ _ _ _ _ _ _
  rw [recVals_append,recVals_one,List.length_append]
  exact ho
 ·rcases hO.2 with ⟨rfl,hz⟩ | ⟨g,cap,cur,rfl,hbg,hgb,hnc,hcm,hcs,htake⟩
  ·refine Or.inr ?_
   have hl0:l=[]:=List.length_eq_zero_iff.1 hz
   subst hl0
   have hr2:=run_append_nil (P:=Tryz.prog) w 62 0 47 i0 _ Tryz.underlying62 hi0 hz0 ⟨vb,0,none⟩ 1 vc (verC x) (by rw [hz1];rfl) hne (by omega) (by omega) (by rw [hzb];omega)
   rw [hr] at hr2
   injection hr2 with h2 _
   rw [h2]
   exact ⟨_,rfl,Nat.le_refl _⟩
  ·by_cases hroom:l.length+1<=cap
   ·have hr2:=run_append_room (P:=Tryz.prog) w 62 0 47 i0 Tryz.underlying62 hi0 g l.length cap cur hgb ⟨vb,0,none⟩ 1 vc (verC x) (by rw [hz1];rfl) hne h1 hroom (by rw [hz1,hcs];show l.length*5+5<=cap*verE.k;have:verE.k=5:=rfl;rw [this];omega)
    rw [hr] at hr2
    injection hr2 with h2 _
    rw [h2]
    exact Or.inl ⟨rfl,by simp [Value.ownBlock]⟩
   ·refine Or.inr ?_
    have hr2:=run_append_grow (P:=Tryz.prog) w 62 0 47 i0 _ Tryz.underlying62 hi0 hz0 ⟨g,0,none⟩ l.length cap (recVals verE l) (by rw [hz1];exact recVals_length verE l) (World.ownsRow.cells hO rfl) ⟨vb,0,none⟩ 1 vc (verC x) (by rw [hz1];rfl) hne (by omega) (by omega) (by rw [hzb];exact growslice_fits (by omega) (by omega))
    rw [hr] at hr2
    injection hr2 with h2 _
    rw [h2]
    exact ⟨_,rfl,Nat.le_refl _⟩
theorem wpList_append_runV {P:Program} {w:World} {ops:Array Oper} {rest:List Oper} {o:Oper} {a:Act} {Q:Exit->Act->World->Prop} (hgd:o.guard=none) (s x:Operand) (t t2:TypeId)
 (ho:o.op=.call { callee:=.builtin .append,args:=#[s,x],argTypes:=#[t,t2] }) (v u:Value) (hs:a.eval s=v) (hx:a.eval x=u) {v':Value} {w':World} (hr:∀ ty,(Builtin.append_ #[t,t2] ty #[v,u]).run P w=.ok v' w')
 (h:wpList P ops Q rest (a.put o.dst v') w'):wpList P ops Q (o :: rest) a w:=by
 refine wpList_plain hgd fun K hK=>?_
 unfold Oper.wp
 simp [execOp,ho,resolve,invoke,builtin,hs,hx,hr,Result.andThen]
 exact hK _ _ h
set_option maxRecDepth 10000 in
set_option maxHeartbeats 4000000 in
theorem insert_end (v:Value) (l:List Ver) (x:Ver) (vb vc:Nat) (w:World) (hl:l.length<=1000) (hO:OwnR verE 47 w 0 v l) (hx:∀ j u,(verC x)[j]?=some u->w.cell? ⟨vb,j,none⟩=some u) :
 Calls Tryz.prog 38 #[v,.int .i64 (l.length:Int),.slice (some ⟨vb,0,none⟩) 1 vc] w fun e w'=>InsOk w w' v l l.length x e:=by
 obtain ⟨v',w',hr,ho,hg,hwh⟩:=append_at w v l x hl hO vb vc hx
 have HI:Hid (InsOk w w' v l l.length x (.returned v')):=⟨v',rfl,by unfold insV;rw [List.take_length,List.drop_length,List.append_nil];exact ho,hg,hwh⟩
 obtain ⟨p,c,hv,_,hlc,hpn,_⟩:=hO.form
 clear ho hg hwh hx hO
 generalize l.length=n at *
 subst hv
 have HPN:Hid (p=none->n=0/\c=0):=fun h=>⟨by have:=(hpn h).2;omega,(hpn h).2⟩
 clear hpn
 have hb1:(0:Int)<=(n:Int):=by omega
 cases p with
 | none =>
  obtain ⟨h1,h2⟩:=HPN.out rfl
  subst h1 h2
  go_enter Tryz.func38,Tryz.ntmps38
  go_wp2_with (at_builtin;refine wpList_append_runV rfl _ _ _ _ rfl _ _ rfl rfl hr ?_)
  go_ret
  exact HI.out
 | some a =>
  obtain ⟨ab,ao,asp⟩:=a
  go_enter Tryz.func38,Tryz.ntmps38
  go_wp2_with (at_builtin;refine wpList_append_runV rfl _ _ _ _ rfl _ _ rfl rfl hr ?_)
  all_goals (go_ret;exact HI.out)
set_option maxRecDepth 10000 in
set_option maxHeartbeats 4000000 in
theorem insert_shift (g c i:Nat) (l:List Ver) (x:Ver) (vb vc:Nat) (vcs:Array Value) (vt:TypeId) (w:World) (hl:l.length<=1000) (hi:i < l.length) (hroom:l.length+1<=c) (hO:OwnR verE 47 w 0 (.slice (some ⟨g,0,none⟩) l.length c) l) (hx:∀ j u,(verC x)[j]?=some u->w.cell? ⟨vb,j,none⟩=some u)
 (hvb:vb≠g) (hvh:w.heap[vb]?=some (.cells vcs vt (0,0))) :
 Calls Tryz.prog 38 #[.slice (some ⟨g,0,none⟩) l.length c,.int .i64 (i:Int),.slice (some ⟨vb,0,none⟩) 1 vc] w fun e w'=>InsOk w w' (.slice (some ⟨g,0,none⟩) l.length c) l i x e:=by
 obtain ⟨n,hn⟩:∃ n,n=l.length:=⟨_,rfl⟩
 rcases hO.2 with ⟨h0,_⟩ | ⟨g',cap,cur,hv,hbg,hgb,hnc,hcm,hcs,htake⟩
 ·cases h0
 obtain ⟨h1,_,h3⟩:=Value.slice.inj hv
 obtain rfl:g=g':=congrArg Addr.block (Option.some.inj h1)
 subst h3
 have hk5:verE.k=5:=rfl
 rw [hk5] at hcs htake
 rw [<- hn] at hi hroom hl hnc htake
 have hA:(recVals verE (l.take i)).length=i*5:=by rw [len5,List.length_take];congr 1;omega
 have hB:(recVals verE (l.drop i)).length=(n - i)*5:=by rw [len5,List.length_drop,<- hn]
 have hcur:cur.toList=recVals verE (l.take i) ++ (recVals verE (l.drop i) ++ cur.toList.drop (n*5)):=by
  conv=>lhs;rw [<- List.take_append_drop (n*5) cur.toList,htake,<- List.take_append_drop i l,recVals_append,List.append_assoc]
 have hcl:cur.toList.length=c*5:=by rw [Array.length_toList];exact hcs
 have hR:5<=(cur.toList.drop (n*5)).length:=by rw [List.length_drop,hcl];omega
 have hX:(verC x).length=5:=rfl
 obtain ⟨cur1,hc1⟩:∃ cur1,cur1=(cur.toList.take ((i+1)*5) ++ recVals verE (l.drop i) ++ cur.toList.drop ((i+1)*5+(recVals verE (l.drop i)).length)).toArray:=⟨_,rfl⟩
 have hs1:cur1.size=c*5:=by
  rw [hc1]
  simp only [List.size_toArray,List.length_append,List.length_take,List.length_drop,hcl,hB]
  omega
 obtain ⟨cur2,hc2⟩:∃ cur2,cur2=(cur1.toList.take (i*5) ++ verC x ++ cur1.toList.drop (i*5+(verC x).length)).toArray:=⟨_,rfl⟩
 have hs2:cur2.size=c*5:=by
  rw [hc2]
  simp only [List.size_toArray,List.length_append,List.length_take,List.length_drop,Array.length_toList,hs1,hX]
  omega
 have hfin:cur2.toList.take ((n+1)*5)=recVals verE (insV l i x):=by
  have:=splice_shift (recVals verE (l.take i)) (recVals verE (l.drop i)) (cur.toList.drop (n*5)) (verC x) 5 hX hR cur.toList hcur
  rw [hA,hB] at this
  rw [recVals_ins,<- this,hc2,hc1,hB]
  have e1:(i+1)*5=i*5+5:=by omega
  have e2:(n+1)*5=i*5+5+(n - i)*5:=by omega
  rw [e1,e2]
 have hcell:∀ j u,(recVals verE l)[j]?=some u->w.cell? ⟨g,j,none⟩=some u:=fun j u hj=>by
  have:=World.ownsRow.cells (g:=g) hO rfl j u hj
  rw [Addr.add_lit,Nat.zero_add] at this
  exact this
 have hsrc1:∀ j u,(recVals verE (l.drop i))[j]?=some u->w.drew.cell? ((⟨g,i*5,none⟩:Addr).add j)=some u:=fun j u hj=>by
  rw [Addr.add_lit]
  refine hcell (i*5+j) u ?_
  rw [<- List.take_append_drop i l,recVals_append,List.getElem?_append_right (by rw [hA];omega),hA,Nat.add_sub_cancel_left]
  exact hj
 have hcp1:∀ ty dc sc,(Builtin.copy_ #[62,62] ty #[.slice (some ⟨g,(i+1)*5,none⟩) (n - i) dc,.slice (some ⟨g,i*5,none⟩) (n+1 - i) sc]).run Tryz.prog w.drew=.ok (goInt (n - i)) (w.drew.setRow g cur1):=fun ty dc sc=>by
  have:=run_copy_k (P:=Tryz.prog) w.drew 62 62 ty 47 g ((i+1)*5) (n - i) dc ⟨g,i*5,none⟩ (n+1 - i) sc cur 47 (recVals verE (l.drop i)) 5 Tryz.underlying62 versize hgb (by rw [hB];congr 1;simp only [Nat.min_def];split <;> omega) hsrc1 (by rw [hB,hcs];omega) (recVals_one' verE _)
  rw [this,hc1]
  congr 2
  simp only [Nat.min_def];split <;> omega
 have hgb1:(w.drew.setRow g cur1).heap[g]?=some (.cells cur1 47 (0,0)):=setRow_heap w.drew g cur _ 47 _ hgb
 obtain ⟨W1,hW1⟩:∃ W1,W1=w.drew.setRow g cur1:=⟨_,rfl⟩
 rw [<- hW1] at hcp1 hgb1
 have hsrc2:∀ j u,(verC x)[j]?=some u->W1.cell? ((⟨vb,0,none⟩:Addr).add j)=some u:=fun j u hj=>by
  rw [Addr.add_lit,Nat.zero_add,<- hx j u hj]
  have:W1.heap[vb]?=w.heap[vb]?:=by rw [hW1];exact setRow_other w.drew g vb _ hvb
  exact World.cell?_of_block (a:=⟨vb,j,none⟩) this
 have hcp2:∀ ty dc,(Builtin.copy_ #[62,62] ty #[.slice (some ⟨g,i*5,none⟩) (n+1 - i) dc,.slice (some ⟨vb,0,none⟩) 1 vc]).run Tryz.prog W1=.ok (goInt 1) (W1.setRow g cur2):=fun ty dc=>by
  have:=run_copy_k (P:=Tryz.prog) W1 62 62 ty 47 g (i*5) (n+1 - i) dc ⟨vb,0,none⟩ 1 vc cur1 47 (verC x) 5 Tryz.underlying62 versize hgb1 (by rw [hX];simp only [Nat.min_def];split <;> omega) hsrc2 (by rw [hX,hs1];omega) (verE.one x)
  rw [this,hc2]
  congr 2
  simp only [Nat.min_def];split <;> omega
 have HI:Hid (InsOk w (W1.setRow g cur2) (.slice (some ⟨g,0,none⟩) n c) l i x (.returned (.slice (some ⟨g,0,none⟩) (n+1) c))):=by
  have hlen:(insV l i x).length=n+1:=by rw [insV_length (by omega),hn]
  refine ⟨_,rfl,⟨by rw [len5];rfl,Or.inr ⟨g,c,cur2,by rw [hlen],Nat.zero_le _,setRow_heap W1 g cur1 _ 47 _ hgb1,by rw [hlen];exact hroom,hcm,by rw [hk5];exact hs2,by rw [hlen,hk5];exact hfin⟩⟩,?_,Or.inl ⟨rfl,by simp [Value.ownBlock]⟩⟩
  rw [hW1]
  refine ⟨rfl,rfl,rfl,by simp [World.setRow],fun k hk hne=>?_⟩
  have hkg:k≠g:=fun e=>hne (by rw [e];rfl)
  rw [setRow_other _ g k _ hkg,setRow_other _ g k _ hkg]
  rfl
 have hov:∀ lb cb,(callFunc 58 #[.slice (some ⟨vb,0,none⟩) 1 vc,.slice (some ⟨g,(i+1)*5,none⟩) lb cb]).run Tryz.prog w=.ok (.value (.bool false)) w:=fun lb cb=>by
  obtain ⟨hsa,hfa⟩:=plain_block hvh
  obtain ⟨hsb,_⟩:=plain_block hgb
  rw [run_callFunc_extern Tryz.func58 (by kernel_rfl) (by kernel_rfl) (by kernel_rfl) (e:=Extern.SlicesOverlaps.overlaps #[62,62] #[4]) (by kernel_rfl),
   Lib.run_overlaps_apart w 62 4 47 Tryz.underlying62 5 (fun w=>by kernel_rfl) ⟨vb,0,none⟩ ⟨g,(i+1)*5,none⟩ 1 vc lb cb hvb _ _ _ _ hsa hsb (by rw [hcs];omega) (hfa 0) (hfa _)]
  rfl
 rw [<- hn]
 clear hW1 hn hfin hs2 hc2 hs1 hc1 hX hR hcl hcur hB hA htake hcs hgb hgb1 hsrc1 hsrc2 hcell hv h1 hO hx hvh hnc hk5 hbg
 have hz2:¬ ((i:Int)=(n:Int)):=by omega
 have hw1:IntKind.i64.wrap ((i:Int)+1)=(i:Int)+1:=by rw [IntKind.wrap_i64];omega
 have hb0:(0:Int)<=(i:Int):=by omega
 have hb1:(0:Int)<=(i:Int)+1:=by omega
 have hin:i<=n:=by omega
 have htn:((i:Int)+1).toNat=i+1:=by omega
 have hb2:¬ (c=i+1):=by omega
 have hb3:(i:Int)<=(n:Int)+1:=by omega
 have hb4:¬ (c=i):=by omega
 have hb5:(i:Int)+1<=(n:Int)+1:=by omega
 have hb6:((n:Int)+1).toNat=n+1:=by omega
 have hb7:(0:Int)<=(n:Int)+1:=by omega
 have hb8:(n:Int)+1<=(c:Int):=by omega
 have hb9:¬ ((c:Int) < (n:Int)+1):=by omega
 have hb10:IntKind.i64.wrap ((n:Int)+1)=(n:Int)+1:=by rw [IntKind.wrap_i64];omega
 have hb11:(i:Int)<=(n:Int):=by omega
 go_enter Tryz.func38,Tryz.ntmps38
 go_wp2_with (simp only [hov])
 go_region_law (refine step_copy_k rfl _ _ 62 62 rfl _ _ (by simp [Act.eval,Act.put];rfl) (by simp [Act.eval,Act.put];rfl) (fun ty=>hcp1 ty _ _) ?_)
 go_wp2_with (at_builtin;refine wpList_copy_k rfl _ _ 62 62 rfl _ _ rfl rfl (fun ty=>hcp2 ty _) ?_)
 go_ret
 exact HI.out
set_option maxRecDepth 10000 in
set_option maxHeartbeats 4000000 in
theorem insert_grow (g c i:Nat) (l:List Ver) (x:Ver) (vb vc:Nat) (w:World) (hl:l.length<=1000) (hi:i < l.length) (hroom:¬ l.length+1<=c) (hO:OwnR verE 47 w 0 (.slice (some ⟨g,0,none⟩) l.length c) l) (hx:∀ j u,(verC x)[j]?=some u->w.cell? ⟨vb,j,none⟩=some u) (hvb:vb < w.heap.size) :
 Calls Tryz.prog 38 #[.slice (some ⟨g,0,none⟩) l.length c,.int .i64 (i:Int),.slice (some ⟨vb,0,none⟩) 1 vc] w fun e w'=>InsOk w w' (.slice (some ⟨g,0,none⟩) l.length c) l i x e:=by
 obtain ⟨n,hn⟩:∃ n,n=l.length:=⟨_,rfl⟩
 have hglt:g < w.heap.size:=(hO.block (k:=g) rfl).2
 obtain ⟨i0,hi0,hz0,hz1,hzb⟩:=info_parts verinfo
 have hnc:n<=c:=by
  obtain ⟨_,_,hvf,_,hnc,_,_⟩:=hO.form
  obtain ⟨_,_,hvf3⟩:=Value.slice.inj hvf
  rw [<- hvf3,<- hn] at hnc
  exact hnc
 have hk5:verE.k=5:=rfl
 have hcell:∀ j u,(recVals verE l)[j]?=some u->w.cell? ⟨g,j,none⟩=some u:=fun j u hj=>by
  have:=World.ownsRow.cells (g:=g) hO rfl j u hj
  rw [Addr.add_lit,Nat.zero_add] at this
  exact this
 rw [<- hn] at hi hroom hl
 have hA:(recVals verE (l.take i)).length=i*5:=by rw [len5,List.length_take];congr 1;omega
 have hB:(recVals verE (l.drop i)).length=(n - i)*5:=by rw [len5,List.length_drop,<- hn]
 have hX:(verC x).length=5:=rfl
 have hcA:∀ j u,(recVals verE (l.take i))[j]?=some u->w.drew.cell? ((⟨g,0,none⟩:Addr).add j)=some u:=fun j u hj=>by
  rw [Addr.add_lit,Nat.zero_add]
  refine hcell j u ?_
  rw [<- List.take_append_drop i l,recVals_append,List.getElem?_append_left (List.getElem?_eq_some_iff.1 hj).1]
  exact hj
 have hold:(Builtin.firstCells i0.size i (.slice (some ⟨g,0,none⟩) i c)).run Tryz.prog w.drew=.ok (recVals verE (l.take i)).toArray w.drew:=by
  rw [hz1]
  exact run_firstCells_some w.drew 5 i ⟨g,0,none⟩ i c _ hA hcA
 have hik:i+(n+1 - i)=n+1:=by omega
 have hrz:∀ ty,(Builtin.append_ #[62,3] ty #[.slice (some ⟨g,0,none⟩) i c,.int .i64 (((n+1 - i:Nat)):Int)]).run Tryz.prog w=_:=fun ty =>
  Lib.run_append_grow_zeros w 62 3 ty 47 i0 _ .i64 .i64 Tryz.underlying62 Tryz.underlying3 hi0 hz0 (some ⟨g,0,none⟩) i c (recVals verE (l.take i)) hold (n+1 - i) (by omega) (by rw [hz1];decide) (by omega) (by omega) (by rw [hzb];omega) (by rw [hzb];exact growslice_fits (by omega) (by omega))
 rw [hik] at hrz
 have hGn:n+1<=grownCap w (n+1) c 47:=grownCap_ge w _ _ _
 have hGm:grownCap w (n+1) c 47<=maxLen:=grownCap_le_maxLen w (n+1) c 47 (by unfold maxLen;omega)
 generalize hG:grownCap w (n+1) c 47=G at *
 clear hG
 have hG63:G<=9223372036854775807:=by unfold maxLen at hGm;omega
 obtain ⟨Z,hZ⟩:∃ Z:List Value,Z=(Builtin.zeroCells (Value.agg #[.int .i64 0,.int .i64 0,.int .i64 0,.int .i64 0,.string ⟨#[]⟩]).cells (n+1 - i) ++ Builtin.zeroCells (Value.agg #[.int .i64 0,.int .i64 0,.int .i64 0,.int .i64 0,.string ⟨#[]⟩]).cells (G - (n+1))).toList:=⟨_,rfl⟩
 have hZl:Z.length=(G - i)*5:=by
  have e5:(Value.agg #[.int .i64 0,.int .i64 0,.int .i64 0,.int .i64 0,.string ⟨#[]⟩]).cells.size=5:=rfl
  rw [hZ]
  simp [size_zeroCells,e5]
  omega
 obtain ⟨cur,hcur⟩:∃ cur:Array Value,cur=(recVals verE (l.take i) ++ Z).toArray:=⟨_,rfl⟩
 have hcs:cur.size=G*5:=by rw [hcur];simp only [List.size_toArray,List.length_append,hA,hZl];omega
 have hrz2:∀ ty,(Builtin.append_ #[62,3] ty #[.slice (some ⟨g,0,none⟩) i c,.int .i64 (((n+1 - i:Nat)):Int)]).run Tryz.prog w=.ok (.slice (some ⟨w.heap.size,0,none⟩) (n+1) G) (w.drew.alloc (.cells cur 47)):=fun ty=>by
  rw [hrz ty,hcur,hZ]
  congr 3
  simp
 clear hrz hold hZ
 obtain ⟨W0,hW0⟩:∃ W0,W0=w.drew.alloc (.cells cur 47):=⟨_,rfl⟩
 rw [<- hW0] at hrz2
 have hg0:W0.heap[w.heap.size]?=some (.cells cur 47 (0,0)):=by rw [hW0];exact heap_alloc_new w.drew _
 have hold0:∀ k,k < w.heap.size->W0.heap[k]?=w.heap[k]?:=fun k hk=>by rw [hW0];exact heap_alloc_old w.drew _ hk
 have hsz0:W0.heap.size=w.heap.size+1:=by rw [hW0];simp
 obtain ⟨cur1,hc1⟩:∃ cur1,cur1=(cur.toList.take (i*5) ++ verC x ++ cur.toList.drop (i*5+(verC x).length)).toArray:=⟨_,rfl⟩
 have hs1:cur1.size=G*5:=by
  rw [hc1]
  simp only [List.size_toArray,List.length_append,List.length_take,List.length_drop,Array.length_toList,hcs,hX]
  omega
 have hsrc1:∀ j u,(verC x)[j]?=some u->W0.cell? ((⟨vb,0,none⟩:Addr).add j)=some u:=fun j u hj=>by
  rw [Addr.add_lit,Nat.zero_add,<- hx j u hj]
  exact World.cell?_of_block (a:=⟨vb,j,none⟩) (hold0 vb hvb)
 have hcp1:∀ ty dc,(Builtin.copy_ #[62,62] ty #[.slice (some ⟨w.heap.size,i*5,none⟩) (n+1 - i) dc,.slice (some ⟨vb,0,none⟩) 1 vc]).run Tryz.prog W0=.ok (goInt 1) (W0.setRow w.heap.size cur1):=fun ty dc=>by
  have:=run_copy_k (P:=Tryz.prog) W0 62 62 ty 47 w.heap.size (i*5) (n+1 - i) dc ⟨vb,0,none⟩ 1 vc cur 47 (verC x) 5 Tryz.underlying62 versize hg0 (by rw [hX];simp only [Nat.min_def];split <;> omega) hsrc1 (by rw [hX,hcs];omega) (verE.one x)
  rw [this,hc1]
  congr 2
  simp only [Nat.min_def];split <;> omega
 have hg1:(W0.setRow w.heap.size cur1).heap[w.heap.size]?=some (.cells cur1 47 (0,0)):=setRow_heap W0 w.heap.size cur _ 47 _ hg0
 obtain ⟨W1,hW1⟩:∃ W1,W1=W0.setRow w.heap.size cur1:=⟨_,rfl⟩
 rw [<- hW1] at hcp1 hg1
 have hold1:∀ k,k < w.heap.size->W1.heap[k]?=w.heap[k]?:=fun k hk=>by rw [hW1,setRow_other _ _ _ _ (by omega)];exact hold0 k hk
 obtain ⟨cur2,hc2⟩:∃ cur2,cur2=(cur1.toList.take ((i+1)*5) ++ recVals verE (l.drop i) ++ cur1.toList.drop ((i+1)*5+(recVals verE (l.drop i)).length)).toArray:=⟨_,rfl⟩
 have hs2:cur2.size=G*5:=by
  rw [hc2]
  simp only [List.size_toArray,List.length_append,List.length_take,List.length_drop,Array.length_toList,hs1,hB]
  omega
 have hsrc2:∀ j u,(recVals verE (l.drop i))[j]?=some u->W1.drew.cell? ((⟨g,i*5,none⟩:Addr).add j)=some u:=fun j u hj=>by
  rw [Addr.add_lit]
  have h1:=hcell (i*5+j) u (by
   rw [<- List.take_append_drop i l,recVals_append,List.getElem?_append_right (by rw [hA];omega),hA,Nat.add_sub_cancel_left]
   exact hj)
  rw [<- h1]
  exact World.cell?_of_block (a:=⟨g,i*5+j,none⟩) (w':=W1.drew) (hold1 g hglt)
 have hcp2:∀ ty dc sc,(Builtin.copy_ #[62,62] ty #[.slice (some ⟨w.heap.size,(i+1)*5,none⟩) (n - i) dc,.slice (some ⟨g,i*5,none⟩) (n - i) sc]).run Tryz.prog W1.drew=.ok (goInt ((n - i:Nat):Int)) (W1.drew.setRow w.heap.size cur2):=fun ty dc sc=>by
  have:=run_copy_k (P:=Tryz.prog) W1.drew 62 62 ty 47 w.heap.size ((i+1)*5) (n - i) dc ⟨g,i*5,none⟩ (n - i) sc cur1 47 (recVals verE (l.drop i)) 5 Tryz.underlying62 versize hg1 (by rw [hB];congr 1;simp only [Nat.min_def];split <;> omega) hsrc2 (by rw [hB,hs1];omega) (recVals_one' verE _)
  rw [this,hc2]
  congr 3
  simp only [Nat.min_def];split <;> omega
 have hfin:cur2.toList.take ((n+1)*5)=recVals verE (insV l i x):=by
  have:=splice_grow (recVals verE (l.take i)) (recVals verE (l.drop i)) Z (verC x) 5 hX
  rw [hA,hB] at this
  rw [recVals_ins,<- this,hc2,hc1,hcur,hB]
  have e1:(i+1)*5=i*5+5:=by omega
  have e2:(n+1)*5=i*5+5+(n - i)*5:=by omega
  rw [e1,e2]
 have HI:Hid (InsOk w (W1.drew.setRow w.heap.size cur2) (.slice (some ⟨g,0,none⟩) n c) l i x (.returned (.slice (some ⟨w.heap.size,0,none⟩) (n+1) G))):=by
  have hlen:(insV l i x).length=n+1:=by rw [insV_length (by omega),hn]
  refine ⟨_,rfl,⟨by rw [len5];rfl,Or.inr ⟨w.heap.size,G,cur2,by rw [hlen],Nat.zero_le _,setRow_heap W1.drew w.heap.size cur1 _ 47 _ hg1,by rw [hlen];exact hGn,hGm,by rw [hk5];exact hs2,by rw [hlen,hk5];exact hfin⟩⟩,?_,Or.inr ⟨_,rfl,Nat.le_refl _⟩⟩
  refine ⟨by rw [hW1,hW0];rfl,by rw [hW1,hW0];rfl,by rw [hW1,hW0];rfl,?_,fun k hk hne=>?_⟩
  ·rw [hW1]
   show w.heap.size<=_
   simp [World.setRow]
   omega
  ·rw [setRow_other _ _ k _ (by omega)]
   exact hold1 k hk
 rw [<- hn]
 clear hold0 hold1 hW0 hsz0 hg0 hcs hZl hcur hcA hglt hi0 hz0 hz1 hzb hvb hW1 hn hfin hs2 hc2 hs1 hc1 hX hB hA hg1 hsrc1 hsrc2 hcell hO hx hk5 hGm
 have hz2:¬ ((i:Int)=(n:Int)):=by omega
 have hw1:IntKind.i64.wrap ((i:Int)+1)=(i:Int)+1:=by rw [IntKind.wrap_i64];omega
 have hb0:(0:Int)<=(i:Int):=by omega
 have hb1:(0:Int)<=(i:Int)+1:=by omega
 have hin:i<=n:=by omega
 have htn:((i:Int)+1).toNat=i+1:=by omega
 have hb2:¬ (G=i+1):=by omega
 have hb3:(i:Int)<=(n:Int)+1:=by omega
 have hb4:¬ (c=i):=by omega
 have hb4':¬ (G=i):=by omega
 have hb5:(i:Int)+1<=(n:Int)+1:=by omega
 have hb9:decide ((c:Int) < (n:Int)+1)=true:=decide_eq_true (by omega)
 have hb10:IntKind.i64.wrap ((n:Int)+1)=(n:Int)+1:=by rw [IntKind.wrap_i64];omega
 have hb11:(i:Int)<=(n:Int):=by omega
 have hb12:(i:Int)<=(c:Int):=by omega
 have eK:(((n+1 - i:Nat)):Int)=(n:Int)+1 - (i:Int):=by omega
 rw [eK] at hrz2
 clear eK
 go_enter Tryz.func38,Tryz.ntmps38
 go_wp2_with (first | (at_builtin;refine wpList_append_runV rfl _ _ _ _ rfl _ _ rfl rfl hrz2 ?_) | (at_builtin;refine wpList_copy_k rfl _ _ 62 62 rfl _ _ rfl rfl (fun ty=>hcp1 ty _) ?_))
 go_region_law (refine step_copy_k rfl _ _ 62 62 rfl _ _ (by simp [Act.eval,Act.put];rfl) (by simp [Act.eval,Act.put];rfl) (fun ty=>hcp2 ty _ _) ?_)
 go_wp2
 go_ret
 exact HI.out
theorem insert_any (v:Value) (l:List Ver) (i:Nat) (x:Ver) (vb vc:Nat) (vcs:Array Value) (vt:TypeId) (w:World) (hl:l.length<=1000) (hi:i<=l.length) (hO:OwnR verE 47 w 0 v l) (hx:∀ j u,(verC x)[j]?=some u->w.cell? ⟨vb,j,none⟩=some u)
 (hvb:∀ k,v.ownBlock=some k->vb≠k) (hvh:w.heap[vb]?=some (.cells vcs vt (0,0))) :
 Calls Tryz.prog 38 #[v,.int .i64 (i:Int),.slice (some ⟨vb,0,none⟩) 1 vc] w fun e w'=>InsOk w w' v l i x e:=by
 by_cases he:i=l.length
 ·subst he
  exact insert_end v l x vb vc w hl hO hx
 ·have hi':i < l.length:=by omega
  rcases hO.2 with ⟨_,h0⟩ | ⟨g,cap,cur,rfl,_⟩
  ·omega
  ·by_cases hroom:l.length+1<=cap
   ·exact insert_shift g cap i l x vb vc vcs vt w hl hi' hroom hO hx (hvb g rfl) hvh
   ·exact insert_grow g cap i l x vb vc w hl hi' hroom hO hx (Array.getElem?_eq_some_iff.1 hvh).1
end Go.Proofs.YtghpdhegfnhmkaaGreatDoor
