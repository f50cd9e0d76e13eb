/- The law MatrixSpread returns true for all numbers n and k and changes nothing: Powers and Spread are the document's, errors included. Condition: package-level variables hold what the program's own text lays (the card ties it). -/
import Derived.Test.YtaaahibncffcmaaDoorTie
import Derived.Test.YtaaahibncffcmaaDoorCards
import Derived.Test.YtaaahibncffcmaaDoorCc3
import Derived.OpenShut
import Derived.ChangeOld
import Derived.Stop.Joined
import Derived.SevenTiedAt
set_option maxRecDepth 100000
namespace Go.Proofs.YtaaahibncffcmaaDoor
open Go.Proofs.Tryd
open Go.RowKit
section
open Go.ChangeShapes Go.WideShapes Go.ChangeAt Go.WideMaps Go.WideElems Go.RowKit
theorem BL:ownKnob prog.godebug=none:=by kernel_rfl
theorem y0 (os:Os) (args:Array Value):laidMetH prog Rows.matrixSpreadRow.laid ((World.doorLaid prog 244 os).forCall (fun _ _=>0) ⟨#[],args,[]⟩).memory :=
 laidMetH_of_parts3 (fuel:=8) (laidMet_of_run' 8 (by kernel_rfl) (by kernel_rfl)) (by kernel_rfl) (by kernel_rfl)
theorem X3 (os:Os) (Y:os.Started) (H:Type) (enc:TypeId×Value->H) :
 ReturnsInHanded {} checked os 3 .any (fun w args=>(Rows.matrixSpreadSpec.pre enc prog f3 [] false w args/\laidMetH prog Rows.matrixSpreadRow.laid w)/\sizedMet enc prog f3 (OpenSpec.ofChange Rows.matrixSpreadSpec) false w args)
  (Rows.matrixSpreadSpec.post enc prog f3 false true false false):=by
 refine returnsInHanded_of_change_and (C:=checked) (X:=fun w _=>laidMetH prog Rows.matrixSpreadRow.laid w) (fun _ _ _ B h=>h.of_heap B) BL Y (by kernel_rfl) func3
  (ChangeSpec.witness_shaped (enc:=enc) (C:=checked) (os:=os) (X:=fun w _=>laidMetH prog Rows.matrixSpreadRow.laid w) false (World.doorLaid prog 244 os) #[.int .i64 0,.int .i64 0] 8 rfl (World.shaped_of_RefB (by kernel_rfl) (by kernel_rfl)) (by kernel_rfl) (by kernel_rfl) (by kernel_rfl) (y0 os _)) ?_
 intro W base args D Z a0 o r _ _ E _
 have d:∀ (j:Nat) t v,f3.params[j]?=some t->args[j]?=some v->Value.okWide prog W .any base t v:=o
 have G:=r
 obtain ⟨p,q,s,I,rfl,a1,a2⟩:=r
 have u:DataW.TrodAll enc prog W 0 (fun _=>true) true f3.params.toList args.toList D p:=s
 rw [params3] at u d
 obtain ⟨y,a3,d0,a4,p0,q0,a5,rfl,rfl,J,K⟩:=trodAll_cons u
 obtain ⟨z,a6,d1,a7,p1,q1,rfl,rfl,rfl,L,M⟩:=trodAll_cons K
 obtain ⟨rfl,rfl,rfl⟩:=trodAll_nil M
 obtain rfl:args=#[y,z]:=by cases args;simp_all
 obtain ⟨rfl,rfl⟩:=trodVars_none I
 obtain ⟨n,rfl,rfl,rfl,N⟩:=open_int underlying3 (d 0 3 y rfl rfl) J
 obtain ⟨k,rfl,rfl,rfl,O⟩:=open_int underlying3 (d 1 3 z rfl rfl) L
 clear s o
 obtain ⟨ad,A⟩:=u2 E
 have all:Calls prog 3 #[.int .i64 n,.int .i64 k] W fun e w'=>e=.returned (.bool true)/\Below W.heap.size W w':=by
  by_cases h:1<=k/\k<=n/\n<=12
  ·obtain ⟨Q,R⟩:=Int.eq_ofNat_of_zero_le (show 0<=n by omega)
   obtain ⟨S,T⟩:=Int.eq_ofNat_of_zero_le (show 0<=k by omega)
   subst R T
   exact n3 Q S ad W (by omega) (by omega) (by omega) A
  ·exact x0 n k ad W h A
 refine (all).mono fun e W' ⟨U,V⟩=>?_
 subst U
 exact ⟨_,rfl,_,_,_,[],_,[],G,trodAll_mk1 (shut_bool underlying4 _),(trodAll_cons_mk (shut_int underlying3 N) (trodAll_cons_mk (shut_int underlying3 O) trodAll_mk0)),rfl,V.frame _,fun h=>by cases h⟩
theorem HJ:Rows.MatrixSpreadSaid :=
 OpenClaim.holds_of_wide 3 f3 rfl rfl rfl rfl rfl rfl rfl ⟨rfl,rfl,rfl,rfl,rfl⟩ rfl rfl rfl rfl rfl (by kernel_rfl) func3 (by kernel_rfl)
  (of_decide_eq_true (by kernel_rfl)) (by unfold Func.isWrapper;rw [if_neg (of_decide_eq_false (by kernel_rfl))];exact ⟨rfl,rfl⟩)
  (fun os d H enc _=>X3 os d H enc)
theorem matrixSpread_holds:Rows.MatrixSpreadCardSaid :=
 Claim7.holds_tied_plain_at .later [] [.handle, .sentinel, .sentinel, .sentinel, .sentinel, .sentinel, .sentinel, .sentinel, .sentinel, .sentinel, .sentinel, .sentinel, .sentinel] true (true, "4c72d764ccd0429460d9a697c353a879389a77f7e62fe219fe0eac8be47ebed3") true
  HJ (fun _ h=>by cases h) (by kernel_rfl) (fun _ h=>by cases h) matrixSpread_row_tie rfl ⟨rfl,rfl⟩ (by kernel_rfl) rfl
  (fun f k o r=>by
   obtain rfl:f=3:=Option.some.inj ((show _=some 3 by kernel_rfl).symm.trans o) |>.symm
   obtain rfl:k=f3:=(Option.some.inj (func3.symm.trans r)).symm
   exact ⟨by kernel_rfl,fun j t d=>by
    rw [params3] at d
    have s:t ∈ [3,3]:=by simpa using Array.mem_of_getElem? d
    have y:([3,3].all fun u=>!prog.wantsStandIn u)=true:=by kernel_rfl
    exact (show prog.wantsStandIn t=false by simpa using List.all_eq_true.1 y t s)⟩)
  (by kernel_rfl)
#print axioms matrixSpread_holds
end
end Go.Proofs.YtaaahibncffcmaaDoor
