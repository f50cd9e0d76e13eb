/- The law MatrixAny returns true for all numbers n, k and lists of numbers and changes nothing: any k rows of Spread have an inverse and the rank k. Condition: package-level variables hold what the program's own text lays (the card ties it). -/
import Derived.Test.YtaaahibncffcmaaDoorTie
import Derived.Test.YtaaahibncffcmaaDoorCards
import Derived.Test.YtaaahibncffcmaaDoorCd3
import Derived.Stop.Joined
import Derived.SevenTiedAt
set_option maxRecDepth 100000
namespace Go.Proofs.YtaaahibncffcmaaDoor
open Go.Proofs.Tryd
open Go.RowKit
section
open Go.ChangeShapes Go.WideShapes Go.ChangeAt Go.WideMaps Go.WideElems Go.RowKit
theorem X2:ownKnob prog.godebug=none:=by kernel_rfl
theorem Jy (os:Os) (args:Array Value):laidMetH prog Rows.matrixAnyRow.laid ((World.doorLaid prog 244 os).forCall (fun _ _=>0) ⟨#[],args,[]⟩).memory :=
 laidMetH_of_parts3 (fuel:=8) (laidMet_of_run' 8 (by kernel_rfl) (by kernel_rfl)) (by kernel_rfl) (by kernel_rfl)
theorem Qu (os:Os) (a7:os.Started) (H:Type) (enc:TypeId×Value->H) :
 ReturnsInHanded {} checked os 4 .any (fun w args=>(Rows.matrixAnySpec.pre enc prog f4 [] false w args/\laidMetH prog Rows.matrixAnyRow.laid w)/\sizedMet enc prog f4 (OpenSpec.ofChange Rows.matrixAnySpec) false w args)
  (Rows.matrixAnySpec.post enc prog f4 false true false false):=by
 refine returnsInHanded_of_change_and (C:=checked) (X:=fun w _=>laidMetH prog Rows.matrixAnyRow.laid w) (fun _ _ _ L h=>h.of_heap L) X2 a7 (by kernel_rfl) func4
  (ChangeSpec.witness_shaped (enc:=enc) (C:=checked) (os:=os) (X:=fun w _=>laidMetH prog Rows.matrixAnyRow.laid w) false (World.doorLaid prog 244 os) #[.int .i64 0,.int .i64 0,.slice none 0 0] 8 rfl (World.shaped_of_RefB (by kernel_rfl) (by kernel_rfl)) (by kernel_rfl) (by kernel_rfl) (by kernel_rfl) (Jy os _)) ?_
 intro W base args M gs a8 s u _ _ N _
 have d:∀ (j:Nat) t v,f4.params[j]?=some t->args[j]?=some v->Value.okWide prog W .any base t v:=s
 have O:=u
 obtain ⟨p,q,y,Q,rfl,a9,b1⟩:=u
 have A:DataW.TrodAll enc prog W 0 (fun _=>true) true f4.params.toList args.toList M p:=y
 rw [params4] at A d
 obtain ⟨B,b2,d0,b3,p0,q0,b4,rfl,rfl,R,S⟩:=trodAll_cons A
 obtain ⟨D,b5,d1,b6,p1,q1,rfl,rfl,rfl,T,U⟩:=trodAll_cons S
 obtain ⟨E,b7,d2,b8,V,q2,rfl,rfl,rfl,G,Y⟩:=trodAll_cons U
 obtain ⟨rfl,rfl,rfl⟩:=trodAll_nil Y
 obtain rfl:args=#[B,D,E]:=by cases args;simp_all
 obtain ⟨rfl,rfl⟩:=trodVars_none Q
 obtain ⟨n,rfl,rfl,rfl,Z⟩:=open_int underlying3 (d 0 3 B rfl rfl) R
 obtain ⟨k,rfl,rfl,rfl,a0⟩:=open_int underlying3 (d 1 3 D rfl rfl) T
 have I:=G
 have a1:∀ x ∈ V,x.block < W.heap.size:=by obtain ⟨m,hm⟩:=I;exact DataW.trod_lt m _ _ _ hm
 obtain ⟨o,l,r,rfl,a2,a3,a4⟩:=o0 (d 2 35 E rfl rfl) G
 clear y s
 unfold maxLen at a3
 obtain ⟨z,J⟩:=X5 N
 have all:Calls prog 4 #[.int .i64 n,.int .i64 k,.slice o l.length r] W fun e w'=>e=.returned (.bool true)/\Below W.heap.size W w':=by
  by_cases h:1<=k/\k<=n/\n<=12/\l.length<=40
  ·obtain ⟨n',a5⟩:=Int.eq_ofNat_of_zero_le (show 0<=n by omega)
   obtain ⟨k',a6⟩:=Int.eq_ofNat_of_zero_le (show 0<=k by omega)
   subst a5 a6
   exact k5 n' k' o l r z W (by omega) (by omega) (by omega) h.2.2.2 a2 a4 J
  ·exact hN n k o l.length r z W (by omega) h J
 refine (all).mono fun e W' ⟨he,K⟩=>?_
 subst he
 exact ⟨_,rfl,_,_,_,[],_,[],O,trodAll_mk1 (shut_bool underlying4 _),(trodAll_cons_mk (shut_int underlying3 Z) (trodAll_cons_mk (shut_int underlying3 a0) (trodAll_cons_mk (Below.trod k6 (by kernel_rfl) (of_decide_eq_true (by kernel_rfl)) I K a1) trodAll_mk0))),rfl,K.frame _,fun h=>by cases h⟩
theorem X3:Rows.MatrixAnySaid :=
 OpenClaim.holds_of_wide 4 f4 rfl rfl rfl rfl rfl rfl rfl ⟨rfl,rfl,rfl,rfl,rfl⟩ rfl rfl rfl rfl rfl (by kernel_rfl) func4 (by kernel_rfl)
  (of_decide_eq_true (by kernel_rfl)) (by unfold Func.isWrapper;rw [if_neg (of_decide_eq_false (by kernel_rfl))];exact ⟨rfl,rfl⟩)
  (fun os d H enc _=>Qu os d H enc)
theorem matrixAny_holds:Rows.MatrixAnyCardSaid :=
 Claim7.holds_tied_plain_at .later [] [.sentinel, .sentinel, .sentinel] true (true, "4c72d764ccd0429460d9a697c353a879389a77f7e62fe219fe0eac8be47ebed3") true
  X3 (fun _ h=>by cases h) (by kernel_rfl) (fun _ h=>by cases h) matrixAny_row_tie rfl ⟨rfl,rfl⟩ (by kernel_rfl) rfl
  (fun f k o r=>by
   obtain rfl:f=4:=Option.some.inj ((show _=some 4 by kernel_rfl).symm.trans o) |>.symm
   obtain rfl:k=f4:=(Option.some.inj (func4.symm.trans r)).symm
   exact ⟨by kernel_rfl,fun j t d=>by
    rw [params4] at d
    have s:t ∈ [3,3,35]:=by simpa using Array.mem_of_getElem? d
    have y:([3,3,35].all fun u=>!prog.wantsStandIn u)=true:=by kernel_rfl
    exact (show prog.wantsStandIn t=false by simpa using List.all_eq_true.1 y t s)⟩)
  (by kernel_rfl)
#print axioms matrixAny_holds
end
end Go.Proofs.YtaaahibncffcmaaDoor
