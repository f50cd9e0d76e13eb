/- The law RingPrefers returns true for all nodes, keys and numbers and changes nothing: Check and Prefer answer as the document does, errors and their places included. Condition: package-level variables hold what the program's own text lays (the card ties it). -/
import Derived.Test.YtppcijpgalaohaaGreatDoorTie
import Derived.Test.YtppcijpgalaohaaGreatDoorCards
import Derived.Test.YtppcijpgalaohaaGreatDoorGc4
import Derived.Stop.Joined
import Derived.SevenTiedAt
import Derived.ChangeMaps5
set_option maxRecDepth 100000
namespace Go.Proofs.YtppcijpgalaohaaGreatDoor
open Go.Proofs.Tryz
open Go.RowKit
section
open Go.ChangeShapes Go.WideShapes Go.ChangeAt Go.WideMaps Go.WideElems Go.RowKit
theorem JaX:ownKnob prog.godebug=none:=by kernel_rfl
theorem V0 (os:Os) (args:Array Value):laidMetH prog Rows.ringPrefersRow.laid ((World.doorLaid prog 259 os).forCall (fun _ _=>0) ⟨#[],args,[]⟩).memory :=
 laidMetH_of_parts3 (fuel:=8) (laidMet_of_run' 8 (by kernel_rfl) (by kernel_rfl)) (by kernel_rfl) (by kernel_rfl)
theorem JaK (os:Os) (b2:os.Started) (H:Type) (enc:TypeId×Value->H) :
 ReturnsInHanded {} checked os 3 .any (fun w args=>(Rows.ringPrefersSpec.pre enc prog f3 [] false w args/\laidMetH prog Rows.ringPrefersRow.laid w)/\sizedMet enc prog f3 (OpenSpec.ofChange Rows.ringPrefersSpec) false w args)
  (Rows.ringPrefersSpec.post enc prog f3 false true false false):=by
 refine returnsInHanded_of_change_and (C:=checked) (X:=fun w _=>laidMetH prog Rows.ringPrefersRow.laid w) (fun _ _ _ N h=>h.of_heap N) JaX b2 (by kernel_rfl) func3
  (ChangeSpec.witness_shaped (enc:=enc) (C:=checked) (os:=os) (X:=fun w _=>laidMetH prog Rows.ringPrefersRow.laid w) false (World.doorLaid prog 259 os) #[.slice none 0 0,.string ⟨#[]⟩,.int .i64 0] 8 rfl (World.shaped_of_RefB (by kernel_rfl) (by kernel_rfl)) (by kernel_rfl) (by kernel_rfl) (by kernel_rfl) (V0 os _)) ?_
 intro W O args Q gs b7 o s _ _ R _
 have d:∀ (j:Nat) t v,f3.params[j]?=some t->args[j]?=some v->Value.okWide prog W .any O t v:=o
 have S:=s
 obtain ⟨p,q,A,T,rfl,b8,d3⟩:=s
 have B:DataW.TrodAll enc prog W 0 (fun _=>true) true f3.params.toList args.toList Q p:=A
 rw [params3] at B d
 obtain ⟨D,d4,d0,d5,U,q0,d6,rfl,rfl,G,V⟩:=trodAll_cons B
 obtain ⟨I,d7,d1,d8,p1,q1,rfl,rfl,rfl,Y,Z⟩:=trodAll_cons V
 obtain ⟨J,d9,d2,e0,p2,q2,rfl,rfl,rfl,h2,r2⟩:=trodAll_cons Z
 obtain ⟨rfl,rfl,rfl⟩:=trodAll_nil r2
 obtain rfl:args=#[D,I,J]:=by cases args;simp_all
 obtain ⟨rfl,rfl⟩:=trodVars_none T
 have K:=G
 have a0:∀ x ∈ U,x.block < W.heap.size:=by obtain ⟨m,hm⟩:=K;exact DataW.trod_lt m _ _ _ hm
 obtain ⟨pl,l,cl,rfl,a2,a3,a4,a5,a8,e1⟩:=O6 (d 0 22 D rfl rfl) G
 obtain ⟨a9,rfl,rfl,rfl,L⟩:=ChangeMaps.open_string underlying9 (d 1 9 I rfl rfl) Y
 obtain ⟨n,rfl,rfl,rfl,b1⟩:=open_int underlying3 (d 2 3 J rfl rfl) h2
 clear A o
 obtain ⟨ad,hS⟩:=Jbo R
 refine (Jbm pl l cl a9 n ad W a3 a4 L a5 a8 a2 (FU ad) hS).mono fun e W' ⟨he,M⟩=>?_
 subst he
 exact ⟨_,rfl,_,_,_,[],_,[],S,trodAll_mk1 (shut_bool underlying4 _),(trodAll_cons_mk (Below.trod JbF (by kernel_rfl) (of_decide_eq_true (by kernel_rfl)) K M a0) (trodAll_cons_mk (ChangeMaps.shut_string underlying9 L) (trodAll_cons_mk (shut_int underlying3 b1) trodAll_mk0))),rfl,M.frame _,fun h=>by cases h⟩
theorem JaY:Rows.RingPrefersSaid :=
 OpenClaim.holds_of_wide 3 f3 rfl rfl rfl rfl rfl rfl rfl ⟨rfl,rfl,rfl,rfl,rfl⟩ rfl rfl rfl rfl rfl (by kernel_rfl) func3 (by kernel_rfl)
  (of_decide_eq_true (by kernel_rfl)) (by unfold Func.isWrapper;rw [if_neg (of_decide_eq_false (by kernel_rfl))];exact ⟨rfl,rfl⟩)
  (fun os d H enc _=>JaK os d H enc)
theorem ringPrefers_holds:Rows.RingPrefersCardSaid :=
 Claim7.holds_tied_plain_at .later [] [.data, .data, .data, .handle, .sentinel, .sentinel, .sentinel, .sentinel, .sentinel, .sentinel, .sentinel, .sentinel, .sentinel, .sentinel, .sentinel, .sentinel] true (true, "a65d37238eff9b7b0ff2ace68ca031d8aea835c8dc571fee8cf8f6bf954d2e90") true
  JaY (fun _ h=>by cases h) (by kernel_rfl) (fun _ h=>by cases h) ringPrefers_row_tie rfl ⟨rfl,rfl⟩ (by kernel_rfl) rfl
  (fun f o q s=>by
   obtain rfl:f=3:=Option.some.inj ((show _=some 3 by kernel_rfl).symm.trans q) |>.symm
   obtain rfl:o=f3:=(Option.some.inj (func3.symm.trans s)).symm
   exact ⟨by kernel_rfl,fun j t d=>by
    rw [params3] at d
    have A:t ∈ [22,9,3]:=by simpa using Array.mem_of_getElem? d
    have B:([22,9,3].all fun u=>!prog.wantsStandIn u)=true:=by kernel_rfl
    exact (show prog.wantsStandIn t=false by simpa using List.all_eq_true.1 B t A)⟩)
  (by kernel_rfl)
#print axioms ringPrefers_holds
end
end Go.Proofs.YtppcijpgalaohaaGreatDoor
