/- The law RingComes returns true for all nodes, one more, all keys and numbers and changes nothing: where one node comes more, at most one of the preferred goes, the others stay in their order. Condition: package-level variables hold what the program's own text lays (the card ties it). -/
import Derived.Test.YtppcijpgalaohaaDoorTie
import Derived.Test.YtppcijpgalaohaaDoorCards
import Derived.Test.YtppcijpgalaohaaDoorGa3
import Derived.Stop.Joined
import Derived.SevenTiedAt
import Derived.ChangeMaps5
set_option maxRecDepth 100000
namespace Go.Proofs.YtppcijpgalaohaaDoor
open Go.Proofs.Tryd
open Go.RowKit
section
open Go.ChangeShapes Go.WideShapes Go.ChangeAt Go.WideMaps Go.WideElems Go.RowKit
theorem BA:ownKnob prog.godebug=none:=by kernel_rfl
theorem x0 (os:Os) (args:Array Value):laidMetH prog Rows.ringComesRow.laid ((World.doorLaid prog 259 os).forCall (fun _ _=>0) ⟨#[],args,[]⟩).memory :=
 laidMetH_of_parts3 (fuel:=8) (laidMet_of_run' 8 (by kernel_rfl) (by kernel_rfl)) (by kernel_rfl) (by kernel_rfl)
theorem y7 (os:Os) (b8:os.Started) (H:Type) (enc:TypeId×Value->H) :
 ReturnsInHanded {} checked os 4 .any (fun w args=>(Rows.ringComesSpec.pre enc prog f4 [] false w args/\laidMetH prog Rows.ringComesRow.laid w)/\sizedMet enc prog f4 (OpenSpec.ofChange Rows.ringComesSpec) false w args)
  (Rows.ringComesSpec.post enc prog f4 false true false false):=by
 refine returnsInHanded_of_change_and (C:=checked) (X:=fun w _=>laidMetH prog Rows.ringComesRow.laid w) (fun _ _ _ Q h=>h.of_heap Q) BA b8 (by kernel_rfl) func4
  (ChangeSpec.witness_shaped (enc:=enc) (C:=checked) (os:=os) (X:=fun w _=>laidMetH prog Rows.ringComesRow.laid w) false (World.doorLaid prog 259 os) #[.slice none 0 0,.string ⟨#[]⟩,.string ⟨#[]⟩,.int .i64 0] 8 rfl (World.shaped_of_RefB (by kernel_rfl) (by kernel_rfl)) (by kernel_rfl) (by kernel_rfl) (by kernel_rfl) (x0 os _)) ?_
 intro W R args S gs c2 o s _ _ T _
 have d:∀ (j:Nat) t v,f4.params[j]?=some t->args[j]?=some v->Value.okWide prog W .any R t v:=o
 have U:=s
 obtain ⟨p,q,A,V,rfl,c4,c9⟩:=s
 have B:DataW.TrodAll enc prog W 0 (fun _=>true) true f4.params.toList args.toList S p:=A
 rw [params4] at B d
 obtain ⟨D,d4,d0,d5,Y,q0,d6,rfl,rfl,G,Z⟩:=trodAll_cons B
 obtain ⟨I,d7,d1,d8,p1,q1,rfl,rfl,rfl,h1,r1⟩:=trodAll_cons Z
 obtain ⟨J,d9,d2,e1,p2,q2,rfl,rfl,rfl,h2,r2⟩:=trodAll_cons r1
 obtain ⟨K,e2,d3,e3,p3,q3,rfl,rfl,rfl,h3,r3⟩:=trodAll_cons r2
 obtain ⟨rfl,rfl,rfl⟩:=trodAll_nil r3
 obtain rfl:args=#[D,I,J,K]:=by cases args;simp_all
 obtain ⟨rfl,rfl⟩:=trodVars_none V
 have L:=G
 have a0:∀ x ∈ Y,x.block < W.heap.size:=by obtain ⟨m,hm⟩:=L;exact DataW.trod_lt m _ _ _ hm
 obtain ⟨pl,l,cl,rfl,a2,a3,a4,a5,a8,f0⟩:=p5 (d 0 41 D rfl rfl) G
 obtain ⟨a9,rfl,rfl,rfl,M⟩:=ChangeMaps.open_string underlying9 (d 1 9 I rfl rfl) h1
 obtain ⟨b1,rfl,rfl,rfl,N⟩:=ChangeMaps.open_string underlying9 (d 2 9 J rfl rfl) h2
 obtain ⟨n,rfl,rfl,rfl,b2⟩:=open_int underlying3 (d 3 3 K rfl rfl) h3
 clear A o
 obtain ⟨ad,hS⟩:=k5 T
 refine (wX pl l cl a9 b1 n ad W a3 a4 M N a5 a8 a2 (FU ad) hS).mono fun e W' ⟨he,O⟩=>?_
 subst he
 exact ⟨_,rfl,_,_,_,[],_,[],U,trodAll_mk1 (shut_bool underlying4 _),(trodAll_cons_mk (Below.trod oP (by kernel_rfl) (of_decide_eq_true (by kernel_rfl)) L O a0) (trodAll_cons_mk (ChangeMaps.shut_string underlying9 M) (trodAll_cons_mk (ChangeMaps.shut_string underlying9 N) (trodAll_cons_mk (shut_int underlying3 b2) trodAll_mk0)))),rfl,O.frame _,fun h=>by cases h⟩
theorem o0:Rows.RingComesSaid :=
 OpenClaim.holds_of_wide 4 f4 rfl rfl rfl rfl rfl rfl rfl ⟨rfl,rfl,rfl,rfl,rfl⟩ rfl rfl rfl rfl rfl (by kernel_rfl) func4 (by kernel_rfl)
  (of_decide_eq_true (by kernel_rfl)) (by unfold Func.isWrapper;rw [if_neg (of_decide_eq_false (by kernel_rfl))];exact ⟨rfl,rfl⟩)
  (fun os d H enc _=>y7 os d H enc)
theorem ringComes_holds:Rows.RingComesCardSaid :=
 Claim7.holds_tied_plain_at .later [] [.data, .data, .data, .sentinel, .sentinel, .sentinel, .sentinel] true (true, "09a252f1ba224f0aa1295c81cab5b8730edd5864e5c060c1488efd0e392cb0e4") true
  o0 (fun _ h=>by cases h) (by kernel_rfl) (fun _ h=>by cases h) ringComes_row_tie rfl ⟨rfl,rfl⟩ (by kernel_rfl) rfl
  (fun f o q s=>by
   obtain rfl:f=4:=Option.some.inj ((show _=some 4 by kernel_rfl).symm.trans q) |>.symm
   obtain rfl:o=f4:=(Option.some.inj (func4.symm.trans s)).symm
   exact ⟨by kernel_rfl,fun j t d=>by
    rw [params4] at d
    have A:t ∈ [41,9,9,3]:=by simpa using Array.mem_of_getElem? d
    have B:([41,9,9,3].all fun u=>!prog.wantsStandIn u)=true:=by kernel_rfl
    exact (show prog.wantsStandIn t=false by simpa using List.all_eq_true.1 B t A)⟩)
  (by kernel_rfl)
#print axioms ringComes_holds
end
end Go.Proofs.YtppcijpgalaohaaDoor
