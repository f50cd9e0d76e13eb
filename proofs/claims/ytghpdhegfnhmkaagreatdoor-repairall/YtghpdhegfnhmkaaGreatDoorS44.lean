import Derived.Test.YtghpdhegfnhmkaaGreatDoorS25
import Derived.Test.YtghpdhegfnhmkaaGreatDoorS43
import Derived.Test.YtghpdhegfnhmkaaGreatDoorS5
import Derived.BigQuiet
import Derived.Test.YtghpdhegfnhmkaaGreatDoorS31
import Derived.Test.YtghpdhegfnhmkaaGreatDoorS8
import Derived.Test.YtghpdhegfnhmkaaGreatDoorS32
import Derived.Test.YtghpdhegfnhmkaaGreatDoorS21
import Derived.Deep.RegionHeld3
namespace Go.Proofs.YtghpdhegfnhmkaaGreatDoor
open Go.RowKit
theorem wpList_append_run {ops:Array Oper} {rest:List Oper} {o:Oper} {a:Act} {Q:Exit->Act->World->Prop} {w w':World} {v u v':Value} (hgd:o.guard=none) (s x:Operand) (t:TypeId)
 (ho:o.op=.call { callee:=.builtin .append,args:=#[s,x],argTypes:=#[t,t] }) (hs:a.eval s=v) (hx:a.eval x=u) (hr:∀ ty,(Builtin.append_ #[t,t] ty #[v,u]).run Tryz.prog w=.ok v' w')
 (h:wpList Tryz.prog ops Q rest (a.put o.dst v') w'):wpList Tryz.prog ops Q (o :: rest) a w:=by
 refine wpList_plain hgd fun K hK=>?_
 unfold Oper.wp execOp
 simp only [ho,resolve,invoke,builtin,Sem.run_bind,Sem.run_pure,Result.andThen_ok,List.map_toArray,List.map_cons,List.map_nil,hs,hx,hr]
 exact hK _ _ h
section
variable {W W':World} {B:Nat} {Ka Kb:List (Option (List Kep))} {hp hm:Nat->Nat} {O:Nat->Option Nat} {Pa Pb:List (Option Nat)} {va vb:Value}
theorem set_snoc {α:Type} (l:List α) (x y:α):(l ++ [x]).set l.length y=l ++ [y]:=by
 rw [List.set_append_right _ _ (Nat.le_refl _),Nat.sub_self]
 rfl
theorem get_snoc {α:Type} (l:List α) (x:α):(l ++ [x])[l.length]?=some x:=by
 rw [List.getElem?_append_right (Nat.le_refl _),Nat.sub_self]
 rfl
end
end Go.Proofs.YtghpdhegfnhmkaaGreatDoor
namespace Go.Proofs.YtghpdhegfnhmkaaGreatDoor
open Go.RowKit
end Go.Proofs.YtghpdhegfnhmkaaGreatDoor
