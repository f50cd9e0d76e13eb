/- The law CoderWrong returns true for all numbers n, k, places, texts and bytes and changes nothing: one shard that is wrong among more than k does not agree. Condition: package-level variables hold what the program's own text lays (the card ties it). -/
import Derived.Test.YtaaahibncffcmaaDoorTie
import Derived.Test.YtaaahibncffcmaaDoorCards
import Derived.Test.YtaaahibncffcmaaDoorCe6
import Derived.Stop.Joined
import Derived.SevenTiedAt
import Derived.ChangeMaps5
set_option maxRecDepth 100000
open Go renaming trodAll_cons_mk->aa,laidMetH->za
namespace Go.Proofs.YtaaahibncffcmaaDoor
open Go.Proofs.Tryd
open Go.RowKit
section
open Go.ChangeShapes Go.WideShapes Go.ChangeAt Go.WideMaps Go.WideElems Go.RowKit
theorem JaY:ownKnob prog.godebug=none:=by kernel_rfl
theorem x3 (os:Os) (args:Array Value):za prog Rows.coderWrongRow.laid ((World.doorLaid prog 244 os).forCall (fun _ _=>0) ⟨#[],args,[]⟩).memory :=
 laidMetH_of_parts3 (fuel:=8) (laidMet_of_run' 8 (by kernel_rfl) (by kernel_rfl)) (by kernel_rfl) (by kernel_rfl)
theorem L2 (os:Os) (a6:os.Started) (H:Type) (enc:TypeId×Value->H) :
 ReturnsInHanded {} checked os 7 .any (fun w args=>(Rows.coderWrongSpec.pre enc prog f7 [] false w args/\za prog Rows.coderWrongRow.laid w)/\sizedMet enc prog f7 (OpenSpec.ofChange Rows.coderWrongSpec) false w args)
  (Rows.coderWrongSpec.post enc prog f7 false true false false):=by
 refine returnsInHanded_of_change_and (C:=checked) (X:=fun w _=>za prog Rows.coderWrongRow.laid w) (fun _ _ _ N h=>h.of_heap N) JaY a6 (by kernel_rfl) func7
  (ChangeSpec.witness_shaped (enc:=enc) (C:=checked) (os:=os) (X:=fun w _=>za prog Rows.coderWrongRow.laid w) false (World.doorLaid prog 244 os) #[.int .i64 0,.int .i64 0,.string ⟨#[]⟩,.int .i64 0,.int .i64 0,.int .u8 0] 8 rfl (World.shaped_of_RefB (by kernel_rfl) (by kernel_rfl)) (by kernel_rfl) (by kernel_rfl) (by kernel_rfl) (x3 os _)) ?_
 intro W base args O gs a7 o y _ _ Q _
 have d:∀ (j:Nat) t v,f7.params[j]?=some t->args[j]?=some v->Value.okWide prog W .any base t v:=o
 have S:=y
 obtain ⟨p,q,A,T,rfl,a8,a9⟩:=y
 have B:DataW.TrodAll enc prog W 0 (fun _=>true) true f7.params.toList args.toList O p:=A
 rw [params7] at B d
 obtain ⟨D,b1,d0,b2,p0,q0,b3,rfl,rfl,U,V⟩:=trodAll_cons B
 obtain ⟨E,b4,d1,b5,p1,q1,rfl,rfl,rfl,Y,Z⟩:=trodAll_cons V
 obtain ⟨G,b6,d2,b7,p2,q2,rfl,rfl,rfl,h2,r2⟩:=trodAll_cons Z
 obtain ⟨I,b8,d3,d6,p3,q3,rfl,rfl,rfl,h3,r3⟩:=trodAll_cons r2
 obtain ⟨J,d7,d4,d8,p4,q4,rfl,rfl,rfl,h4,r4⟩:=trodAll_cons r3
 obtain ⟨K,d9,d5,e1,p5,q5,rfl,rfl,rfl,h5,r5⟩:=trodAll_cons r4
 obtain ⟨rfl,rfl,rfl⟩:=trodAll_nil r5
 obtain rfl:args=#[D,E,G,I,J,K]:=by cases args;simp_all
 obtain ⟨rfl,rfl⟩:=trodVars_none T
 obtain ⟨n,rfl,rfl,rfl,a0⟩:=open_int underlying3 (d 0 3 D rfl rfl) U
 obtain ⟨k,rfl,rfl,rfl,a1⟩:=open_int underlying3 (d 1 3 E rfl rfl) Y
 obtain ⟨s,rfl,rfl,rfl,L⟩:=ChangeMaps.open_string underlying9 (d 2 9 G rfl rfl) h2
 obtain ⟨at_,rfl,rfl,rfl,a2⟩:=open_int underlying3 (d 3 3 I rfl rfl) h3
 obtain ⟨bt,rfl,rfl,rfl,a3⟩:=open_int underlying3 (d 4 3 J rfl rfl) h4
 obtain ⟨x5,rfl,rfl,rfl,M⟩:=open_int underlying5 (d 5 5 K rfl rfl) h5
 have a4:=bounds_u8 M
 obtain ⟨a5,rfl⟩:=Int.eq_ofNat_of_zero_le a4.1
 clear A o
 obtain ⟨z,hz⟩:=BL Q
 refine (JbH n k s at_ bt a5 z W L (by omega) hz).mono fun e W' ⟨he,hb⟩=>?_
 subst he
 exact ⟨_,rfl,_,_,_,[],_,[],S,trodAll_mk1 (shut_bool underlying4 _),(aa (shut_int underlying3 a0) (aa (shut_int underlying3 a1) (aa (ChangeMaps.shut_string underlying9 L) (aa (shut_int underlying3 a2) (aa (shut_int underlying3 a3) (aa (shut_int underlying5 M) trodAll_mk0)))))),rfl,hb.frame _,fun h=>by cases h⟩
theorem V3:Rows.CoderWrongSaid :=
 OpenClaim.holds_of_wide 7 f7 rfl rfl rfl rfl rfl rfl rfl ⟨rfl,rfl,rfl,rfl,rfl⟩ rfl rfl rfl rfl rfl (by kernel_rfl) func7 (by kernel_rfl)
  (of_decide_eq_true (by kernel_rfl)) (by unfold Func.isWrapper;rw [if_neg (of_decide_eq_false (by kernel_rfl))];exact ⟨rfl,rfl⟩)
  (fun os d H enc _=>L2 os d H enc)
theorem coderWrong_holds:Rows.CoderWrongCardSaid :=
 Claim7.holds_tied_plain_at .later [] [.sentinel, .sentinel, .sentinel, .sentinel] true (true, "4c72d764ccd0429460d9a697c353a879389a77f7e62fe219fe0eac8be47ebed3") true
  V3 (fun _ h=>by cases h) (by kernel_rfl) (fun _ h=>by cases h) coderWrong_row_tie rfl ⟨rfl,rfl⟩ (by kernel_rfl) rfl
  (fun f o s y=>by
   obtain rfl:f=7:=Option.some.inj ((show _=some 7 by kernel_rfl).symm.trans s) |>.symm
   obtain rfl:o=f7:=(Option.some.inj (func7.symm.trans y)).symm
   exact ⟨by kernel_rfl,fun j t d=>by
    rw [params7] at d
    have z:t ∈ [3,3,9,3,3,5]:=by simpa using Array.mem_of_getElem? d
    have A:([3,3,9,3,3,5].all fun u=>!prog.wantsStandIn u)=true:=by kernel_rfl
    exact (show prog.wantsStandIn t=false by simpa using List.all_eq_true.1 A t z)⟩)
  (by kernel_rfl)
#print axioms coderWrong_holds
end
end Go.Proofs.YtaaahibncffcmaaDoor
