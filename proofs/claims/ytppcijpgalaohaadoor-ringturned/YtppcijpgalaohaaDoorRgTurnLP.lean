/- The law RingTurned returns true for all nodes, turns, keys and numbers and changes nothing: the order in which nodes are told makes no difference; who prefers fewer prefers the first of them. Condition: package-level variables hold what the program's own text lays (the card ties it). -/
import Derived.Test.YtppcijpgalaohaaDoorTie
import Derived.Test.YtppcijpgalaohaaDoorCards
import Derived.Test.YtppcijpgalaohaaDoorGb3
import Derived.Stop.Joined
import Derived.SevenTiedAt
import Derived.ChangeMaps5
set_option maxRecDepth 100000
namespace Go.Proofs.YtppcijpgalaohaaDoor
open Go.Proofs.Tryd
open Go.RowKit
section
open Go.ChangeShapes Go.WideShapes Go.ChangeAt Go.WideMaps Go.WideElems Go.RowKit
theorem mE:ownKnob prog.godebug=none:=by kernel_rfl
theorem q9 (os:Os) (args:Array Value):laidMetH prog Rows.ringComesRow.laid ((World.doorLaid prog 259 os).forCall (fun _ _=>0) ⟨#[],args,[]⟩).memory :=
 laidMetH_of_parts3 (fuel:=8) (laidMet_of_run' 8 (by kernel_rfl) (by kernel_rfl)) (by kernel_rfl) (by kernel_rfl)
theorem y2 (os:Os) (c9:os.Started) (H:Type) (enc:TypeId×Value->H) :
 ReturnsInHanded {} checked os 5 .any (fun w args=>(Rows.ringTurnedSpec.pre enc prog f5 [] false w args/\laidMetH prog Rows.ringComesRow.laid w)/\sizedMet enc prog f5 (OpenSpec.ofChange Rows.ringTurnedSpec) false w args)
  (Rows.ringTurnedSpec.post enc prog f5 false true false false):=by
 refine returnsInHanded_of_change_and (C:=checked) (X:=fun w _=>laidMetH prog Rows.ringComesRow.laid w) (fun _ _ _ Q h=>h.of_heap Q) mE c9 (by kernel_rfl) func5
  (ChangeSpec.witness_shaped (enc:=enc) (C:=checked) (os:=os) (X:=fun w _=>laidMetH prog Rows.ringComesRow.laid w) false (World.doorLaid prog 259 os) #[.slice none 0 0,.int .i64 0,.string ⟨#[]⟩,.int .i64 0,.int .i64 0] 8 rfl (World.shaped_of_RefB (by kernel_rfl) (by kernel_rfl)) (by kernel_rfl) (by kernel_rfl) (by kernel_rfl) (q9 os _)) ?_
 intro W R args S gs d5 o s _ _ T _
 have d:∀ (j:Nat) t v,f5.params[j]?=some t->args[j]?=some v->Value.okWide prog W .any R t v:=o
 have U:=s
 obtain ⟨p,q,A,V,rfl,d6,d7⟩:=s
 have B:DataW.TrodAll enc prog W 0 (fun _=>true) true f5.params.toList args.toList S p:=A
 rw [params5] at B d
 obtain ⟨D,d8,d0,d9,Y,q0,e1,rfl,rfl,G,Z⟩:=trodAll_cons B
 obtain ⟨I,e2,d1,e3,p1,q1,rfl,rfl,rfl,h1,r1⟩:=trodAll_cons Z
 obtain ⟨J,f0,d2,f1,p2,q2,rfl,rfl,rfl,h2,r2⟩:=trodAll_cons r1
 obtain ⟨K,f2,d3,f3,p3,q3,rfl,rfl,rfl,h3,r3⟩:=trodAll_cons r2
 obtain ⟨L,f4,d4,f5,p4,q4,rfl,rfl,rfl,h4,r4⟩:=trodAll_cons r3
 obtain ⟨rfl,rfl,rfl⟩:=trodAll_nil r4
 obtain rfl:args=#[D,I,J,K,L]:=by cases args;simp_all
 obtain ⟨rfl,rfl⟩:=trodVars_none V
 have M:=G
 have a0:∀ x ∈ Y,x.block < W.heap.size:=by obtain ⟨m,hm⟩:=M;exact DataW.trod_lt m _ _ _ hm
 obtain ⟨pl,l,cl,rfl,a2,a3,a4,a5,a8,f6⟩:=v8 (d 0 41 D rfl rfl) G
 obtain ⟨a9,rfl,rfl,rfl,b1⟩:=open_int underlying3 (d 1 3 I rfl rfl) h1
 obtain ⟨b2,rfl,rfl,rfl,N⟩:=ChangeMaps.open_string underlying9 (d 2 9 J rfl rfl) h2
 obtain ⟨n,rfl,rfl,rfl,b8⟩:=open_int underlying3 (d 3 3 K rfl rfl) h3
 obtain ⟨c2,rfl,rfl,rfl,c4⟩:=open_int underlying3 (d 4 3 L rfl rfl) h4
 clear A o
 obtain ⟨ad,hS⟩:=qA T
 refine (x2 pl l cl a9 b2 n c2 ad W a3 a4 N a5 a8 a2 (FU ad) hS).mono fun e W' ⟨he,O⟩=>?_
 subst he
 exact ⟨_,rfl,_,_,_,[],_,[],U,trodAll_mk1 (shut_bool underlying4 _),(trodAll_cons_mk (Below.trod x5 (by kernel_rfl) (of_decide_eq_true (by kernel_rfl)) M O a0) (trodAll_cons_mk (shut_int underlying3 b1) (trodAll_cons_mk (ChangeMaps.shut_string underlying9 N) (trodAll_cons_mk (shut_int underlying3 b8) (trodAll_cons_mk (shut_int underlying3 c4) trodAll_mk0))))),rfl,O.frame _,fun h=>by cases h⟩
theorem y1:Rows.RingTurnedSaid :=
 OpenClaim.holds_of_wide 5 f5 rfl rfl rfl rfl rfl rfl rfl ⟨rfl,rfl,rfl,rfl,rfl⟩ rfl rfl rfl rfl rfl (by kernel_rfl) func5 (by kernel_rfl)
  (of_decide_eq_true (by kernel_rfl)) (by unfold Func.isWrapper;rw [if_neg (of_decide_eq_false (by kernel_rfl))];exact ⟨rfl,rfl⟩)
  (fun os d H enc _=>y2 os d H enc)
theorem ringTurned_holds:Rows.RingTurnedCardSaid :=
 Claim7.holds_tied_plain_at .later [] [.data, .data, .data, .sentinel, .sentinel, .sentinel, .sentinel] true (true, "09a252f1ba224f0aa1295c81cab5b8730edd5864e5c060c1488efd0e392cb0e4") true
  y1 (fun _ h=>by cases h) (by kernel_rfl) (fun _ h=>by cases h) ringTurned_row_tie rfl ⟨rfl,rfl⟩ (by kernel_rfl) rfl
  (fun f o q s=>by
   obtain rfl:f=5:=Option.some.inj ((show _=some 5 by kernel_rfl).symm.trans q) |>.symm
   obtain rfl:o=f5:=(Option.some.inj (func5.symm.trans s)).symm
   exact ⟨by kernel_rfl,fun j t d=>by
    rw [params5] at d
    have A:t ∈ [41,3,9,3,3]:=by simpa using Array.mem_of_getElem? d
    have B:([41,3,9,3,3].all fun u=>!prog.wantsStandIn u)=true:=by kernel_rfl
    exact (show prog.wantsStandIn t=false by simpa using List.all_eq_true.1 B t A)⟩)
  (by kernel_rfl)
#print axioms ringTurned_holds
end
end Go.Proofs.YtppcijpgalaohaaDoor
