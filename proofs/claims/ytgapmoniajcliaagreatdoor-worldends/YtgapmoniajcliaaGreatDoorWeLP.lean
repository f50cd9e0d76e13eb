/- The law WorldEnds returns true for all nodes, every N and K, all texts and all changes of members, and changes nothing: where all that is sent comes, and nobody is down, what is put is got, behind any changes. Condition: package-level variables hold what the program's own text lays (the card ties it). -/
import Derived.Test.YtgapmoniajcliaaGreatDoorTie
import Derived.Test.YtgapmoniajcliaaGreatDoorCards
import Derived.Test.YtgapmoniajcliaaGreatDoorV24
import Derived.Stop.Joined
import Derived.SevenTiedAt
import Derived.ChangeMaps5
set_option maxRecDepth 100000
open Go renaming trodAll_cons_mk->aa,laidMetH->af
namespace Go.Proofs.YtgapmoniajcliaaGreatDoor
open Go.Proofs.Tryz
open Go.RowKit
section
open Go.ChangeShapes Go.WideShapes Go.ChangeAt Go.WideMaps Go.WideElems Go.RowKit
theorem Ja9:ownKnob prog.godebug=none:=by kernel_rfl
theorem JaZ (os:Os)(args:Array Value):af prog Rows.worldEndsRow.laid ((World.doorLaid prog 214 os).forCall (fun _ _=>0) ⟨#[],args,[]⟩).memory :=
 laidMetH_of_parts3 (fuel:=8) (laidMet_of_run' 8 (by kernel_rfl) (by kernel_rfl)) (by kernel_rfl) (by kernel_rfl)
theorem DZ:laidOutB prog=true:=by kernel_rfl
theorem JaM (os:Os)(b6:os.Started)(H:Type)(enc:TypeId×Value->H):
 ReturnsInHanded {} checked os 3 .any (fun w args=>(Rows.worldEndsSpec.pre enc prog f3 [] false w args/\af prog Rows.worldEndsRow.laid w)/\sizedMet enc prog f3 (OpenSpec.ofChange Rows.worldEndsSpec) false w args)
  (Rows.worldEndsSpec.post enc prog f3 false true false false):=by
 refine returnsInHanded_of_change_and (C:=checked) (X:=fun w _=>af prog Rows.worldEndsRow.laid w) (fun _ _ _ hh h=>h.of_heap hh) Ja9 b6 (by kernel_rfl) func3
  (ChangeSpec.witness_shaped (enc:=enc) (C:=checked) (os:=os) (X:=fun w _=>af prog Rows.worldEndsRow.laid w) false (World.doorLaid prog 214 os) #[.slice none 0 0,.int .i64 0,.int .i64 0,.slice none 0 0,.slice none 0 0] 8 rfl (World.shaped_of_RefB (by kernel_rfl) (by kernel_rfl)) (by kernel_rfl) (by kernel_rfl) (by kernel_rfl) (JaZ os _)) ?_
 intro W base args ds gs b7 a0 hW _ _ hL _;have B:∀(j:Nat) t v,f3.params[j]?=some t->args[j]?=some v->Value.okWide prog W .any base t v:=a0;have a2:=hW;obtain⟨p,q,a3,hV,rfl,b8,c8⟩:=hW;have hA:DataW.TrodAll enc prog W 0 (fun _=>true) true f3.params.toList args.toList ds p:=a3;rw[params3]at hA B;obtain⟨v0,d5,d0,d6,p0,q0,d7,rfl,rfl,h0,r0⟩:=trodAll_cons hA;obtain⟨v1,d8,d1,d9,p1,q1,rfl,rfl,rfl,h1,r1⟩:=trodAll_cons r0;obtain⟨v2,e0,d2,e1,p2,q2,rfl,rfl,rfl,h2,r2⟩:=trodAll_cons r1;obtain⟨v3,e2,d3,e3,p3,q3,rfl,rfl,rfl,h3,r3⟩:=trodAll_cons r2;obtain⟨v4,e4,d4,e5,p4,q4,rfl,rfl,rfl,h4,r4⟩:=trodAll_cons r3;obtain⟨rfl,rfl,rfl⟩:=trodAll_nil r4;obtain rfl:args=#[v0,v1,v2,v3,v4]:=by cases args;simp_all
 obtain⟨rfl,rfl⟩:=trodVars_none hV;have k0:=h0;have a6:∀x∈p0,x.block<W.heap.size:=by obtain⟨m,D⟩:=k0;exact DataW.trod_lt m _ _ _ D
 have k3:=h3;have a7:∀x∈p3,x.block<W.heap.size:=by obtain⟨m,D⟩:=k3;exact DataW.trod_lt m _ _ _ D
 have K:=h4;have a8:∀x∈p4,x.block<W.heap.size:=by obtain⟨m,D⟩:=K;exact DataW.trod_lt m _ _ _ D
 obtain⟨n,rfl,rfl,rfl,O⟩:=open_int underlying3 (B 1 3 v1 rfl rfl) h1;obtain⟨k,rfl,rfl,rfl,U⟩:=open_int underlying3 (B 2 3 v2 rfl rfl) h2;obtain⟨pl,l,cl,a9,I⟩:=M5 (B 0 22 v0 rfl rfl) h0;obtain⟨pt,T,ct,b0,Z⟩:=M5 (B 3 22 v3 rfl rfl) h3;obtain⟨a4,e6,e7,rfl⟩:=okWide_slice underlying23 (B 4 23 v4 rfl rfl);obtain⟨fuel,hf⟩:=h4;obtain⟨q,C,c4,a5,b1,b2,b3⟩:=Jb8 hf;subst a9 b0;rw[a5];clear a3 a0;obtain⟨ad,hE⟩:=JkN hL;rw[a5]at a2 K;have b4:Zt n:=by
  simp[Lit.wf,IntKind.min,IntKind.max,IntKind.bits,IntKind.signed]at O;exact O
 have b5:Zt k:=by
  simp[Lit.wf,IntKind.min,IntKind.max,IntKind.bits,IntKind.signed]at U;exact U
 have e8:maxLen=9223372036854775807:=rfl;refine(Jbc (Jb5 ad) l n k T C pl cl pt ct q c4 W (by have:=I.len;omega) (fun x hx=>by have:=I.size x hx;omega) I.strs I.empty b4 b5 Z.strs (fun x hx=>by have:=Z.size x hx;omega) (by have:=Z.len;omega) b1 b2 b3 (fun V _ hk=>⟨(hE.fO hk).q,hE.fO hk⟩)).mono fun e W' ⟨he,J⟩=>?_
 subst he;exact⟨_,rfl,_,_,_,[],_,[],a2,trodAll_mk1 (shut_bool underlying4 _),(aa (Below.trod DZ (by kernel_rfl) (of_decide_eq_true (by kernel_rfl)) k0 J a6) (aa (shut_int underlying3 O) (aa (shut_int underlying3 U) (aa (Below.trod DZ (by kernel_rfl) (of_decide_eq_true (by kernel_rfl)) k3 J a7) (aa (Below.trod DZ (by kernel_rfl) (of_decide_eq_true (by kernel_rfl)) K J a8) trodAll_mk0))))),rfl,J.frame _,fun h=>by cases h⟩
theorem Jba:Rows.WorldEndsSaid :=
 OpenClaim.holds_of_wide 3 f3 rfl rfl rfl rfl rfl rfl rfl ⟨rfl,rfl,rfl,rfl,rfl⟩ rfl rfl rfl rfl rfl (by kernel_rfl) func3 Jb3
  (of_decide_eq_true (by kernel_rfl)) (by unfold Func.isWrapper;rw[if_neg (of_decide_eq_false (by kernel_rfl))];exact⟨rfl,rfl⟩)
  (fun os B H enc _=>JaM os B H enc)
theorem worldEnds_holds:Rows.WorldEndsCardSaid :=
 Claim7.holds_tied_plain_at .later [] [.data, .data, .data, .sentinel, .sentinel, .sentinel, .sentinel, .sentinel, .sentinel, .sentinel, .sentinel, .sentinel, .sentinel] true (true, "6c99ddcf5346f4ce81cb18bd383dbf1d75c8cbf5746ba321fd22eda3eeb206fb") true
  Jba (fun _ h=>by cases h) (by kernel_rfl) (fun _ h=>by cases h) worldEnds_row_tie rfl ⟨rfl,rfl⟩ (by kernel_rfl) rfl
  (fun f D H I=>by
   obtain rfl:f=3:=Option.some.inj ((show _=some 3 by kernel_rfl).symm.trans H) |>.symm;obtain rfl:D=f3:=(Option.some.inj (func3.symm.trans I)).symm;exact⟨by kernel_rfl,fun j t B=>by
    rw[params3]at B;have J:t∈ [22,3,3,22,23]:=by simpa using Array.mem_of_getElem? B
    have K:([22,3,3,22,23].all fun u=>!prog.wantsStandIn u)=true:=by kernel_rfl
    exact(show prog.wantsStandIn t=false by simpa using List.all_eq_true.1 K t J)⟩)
  (by kernel_rfl)
#print axioms worldEnds_holds
end
end Go.Proofs.YtgapmoniajcliaaGreatDoor
