/- The law CoderAny returns true for all numbers n, k, places, texts and lists of numbers and changes nothing: any k of an object's shards tell it and any other shard, and all agree. Condition: package-level variables hold what the program's own text lays (the card ties it). -/
import Derived.Test.YtaaahibncffcmaaDoorTie
import Derived.Test.YtaaahibncffcmaaDoorCards
import Derived.Test.YtaaahibncffcmaaDoorCf6
import Derived.Stop.Joined
import Derived.SevenTiedAt
import Derived.ChangeMaps5
set_option maxRecDepth 100000
open Go renaming trodAll_cons_mk->aa,laidMetH->za
namespace Go.Proofs.YtaaahibncffcmaaDoor
open Go.Proofs.Tryd
open Go.RowKit
section
open Go.ChangeShapes Go.WideShapes Go.ChangeAt Go.WideMaps Go.WideElems Go.RowKit
theorem Jbu:ownKnob prog.godebug=none:=by kernel_rfl
theorem RC (os:Os) (args:Array Value):za prog Rows.coderAnyRow.laid ((World.doorLaid prog 244 os).forCall (fun _ _=>0) ⟨#[],args,[]⟩).memory :=
 laidMetH_of_parts3 (fuel:=8) (laidMet_of_run' 8 (by kernel_rfl) (by kernel_rfl)) (by kernel_rfl) (by kernel_rfl)
theorem LW (os:Os) (a7:os.Started) (H:Type) (enc:TypeId×Value->H) :
 ReturnsInHanded {} checked os 8 .any (fun w args=>(Rows.coderAnySpec.pre enc prog f8 [] false w args/\za prog Rows.coderAnyRow.laid w)/\sizedMet enc prog f8 (OpenSpec.ofChange Rows.coderAnySpec) false w args)
  (Rows.coderAnySpec.post enc prog f8 false true false false):=by
 refine returnsInHanded_of_change_and (C:=checked) (X:=fun w _=>za prog Rows.coderAnyRow.laid w) (fun _ _ _ O h=>h.of_heap O) Jbu a7 (by kernel_rfl) func8
  (ChangeSpec.witness_shaped (enc:=enc) (C:=checked) (os:=os) (X:=fun w _=>za prog Rows.coderAnyRow.laid w) false (World.doorLaid prog 244 os) #[.int .i64 0,.int .i64 0,.string ⟨#[]⟩,.slice none 0 0,.int .i64 0] 8 rfl (World.shaped_of_RefB (by kernel_rfl) (by kernel_rfl)) (by kernel_rfl) (by kernel_rfl) (by kernel_rfl) (RC os _)) ?_
 intro W base args Q gs a8 o y _ _ S _
 have d:∀ (j:Nat) t v,f8.params[j]?=some t->args[j]?=some v->Value.okWide prog W .any base t v:=o
 have T:=y
 obtain ⟨p,q,A,U,rfl,a9,b1⟩:=y
 have B:DataW.TrodAll enc prog W 0 (fun _=>true) true f8.params.toList args.toList Q p:=A
 rw [params8] at B d
 obtain ⟨D,b2,d0,b3,p0,q0,b4,rfl,rfl,V,Y⟩:=trodAll_cons B
 obtain ⟨E,b5,d1,b6,p1,q1,rfl,rfl,rfl,Z,r1⟩:=trodAll_cons Y
 obtain ⟨G,b7,d2,b8,p2,q2,rfl,rfl,rfl,h2,r2⟩:=trodAll_cons r1
 obtain ⟨I,d5,d3,d6,p3,q3,rfl,rfl,rfl,J,r3⟩:=trodAll_cons r2
 obtain ⟨K,d7,d4,d8,p4,q4,rfl,rfl,rfl,h4,r4⟩:=trodAll_cons r3
 obtain ⟨rfl,rfl,rfl⟩:=trodAll_nil r4
 obtain rfl:args=#[D,E,G,I,K]:=by cases args;simp_all
 obtain ⟨rfl,rfl⟩:=trodVars_none U
 obtain ⟨n,rfl,rfl,rfl,a0⟩:=open_int underlying3 (d 0 3 D rfl rfl) V
 obtain ⟨k,rfl,rfl,rfl,a1⟩:=open_int underlying3 (d 1 3 E rfl rfl) Z
 obtain ⟨s,rfl,rfl,rfl,L⟩:=ChangeMaps.open_string underlying9 (d 2 9 G rfl rfl) h2
 have M:=J
 have a2:∀ x ∈ p3,x.block < W.heap.size:=by obtain ⟨m,hm⟩:=M;exact DataW.trod_lt m _ _ _ hm
 obtain ⟨pl,l,cl,rfl,a3,a4,a5⟩:=Jcg (d 3 35 I rfl rfl) J
 obtain ⟨at_,rfl,rfl,rfl,a6⟩:=open_int underlying3 (d 4 3 K rfl rfl) h4
 clear A o
 obtain ⟨z,hz⟩:=JbK S
 refine (C2 n k s pl l cl at_ z W L a4 a3 a5 hz).mono fun e W' ⟨he,N⟩=>?_
 subst he
 exact ⟨_,rfl,_,_,_,[],_,[],T,trodAll_mk1 (shut_bool underlying4 _),(aa (shut_int underlying3 a0) (aa (shut_int underlying3 a1) (aa (ChangeMaps.shut_string underlying9 L) (aa (Below.trod RR (by kernel_rfl) (of_decide_eq_true (by kernel_rfl)) M N a2) (aa (shut_int underlying3 a6) trodAll_mk0))))),rfl,N.frame _,fun h=>by cases h⟩
theorem Jbv:Rows.CoderAnySaid :=
 OpenClaim.holds_of_wide 8 f8 rfl rfl rfl rfl rfl rfl rfl ⟨rfl,rfl,rfl,rfl,rfl⟩ rfl rfl rfl rfl rfl (by kernel_rfl) func8 (by kernel_rfl)
  (of_decide_eq_true (by kernel_rfl)) (by unfold Func.isWrapper;rw [if_neg (of_decide_eq_false (by kernel_rfl))];exact ⟨rfl,rfl⟩)
  (fun os d H enc _=>LW os d H enc)
theorem coderAny_holds:Rows.CoderAnyCardSaid :=
 Claim7.holds_tied_plain_at .later [] [.sentinel, .sentinel, .sentinel, .sentinel] true (true, "4c72d764ccd0429460d9a697c353a879389a77f7e62fe219fe0eac8be47ebed3") true
  Jbv (fun _ h=>by cases h) (by kernel_rfl) (fun _ h=>by cases h) coderAny_row_tie rfl ⟨rfl,rfl⟩ (by kernel_rfl) rfl
  (fun f o s y=>by
   obtain rfl:f=8:=Option.some.inj ((show _=some 8 by kernel_rfl).symm.trans s) |>.symm
   obtain rfl:o=f8:=(Option.some.inj (func8.symm.trans y)).symm
   exact ⟨by kernel_rfl,fun j t d=>by
    rw [params8] at d
    have z:t ∈ [3,3,9,35,3]:=by simpa using Array.mem_of_getElem? d
    have A:([3,3,9,35,3].all fun u=>!prog.wantsStandIn u)=true:=by kernel_rfl
    exact (show prog.wantsStandIn t=false by simpa using List.all_eq_true.1 A t z)⟩)
  (by kernel_rfl)
#print axioms coderAny_holds
end
end Go.Proofs.YtaaahibncffcmaaDoor
