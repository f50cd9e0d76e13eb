/- The law WorldOrder returns true for all nodes, every N and K and all steps, and changes nothing: whatever is lost, doubled, turned around, whoever goes down, however often the members change, what is done is in order. Condition: package-level variables hold what the program's own text lays (the card ties it). -/
import Derived.Test.YtflpelnbjekjbaaGreatDoorTie
import Derived.Test.YtflpelnbjekjbaaGreatDoorCards
import Derived.Test.YtflpelnbjekjbaaGreatDoorZ25
import Derived.Stop.Joined
import Derived.SevenTiedAt
import Derived.ChangeMaps5
set_option maxRecDepth 100000
open Go renaming trodAll_cons_mk->aa,laidMetH->ae
namespace Go.Proofs.YtflpelnbjekjbaaGreatDoor
open Go.Proofs.Tryz
open Go.RowKit
section
open Go.ChangeShapes Go.WideShapes Go.ChangeAt Go.WideMaps Go.WideElems Go.RowKit
theorem TM:ownKnob prog.godebug=none:=by kernel_rfl
theorem PT (os:Os)(args:Array Value):ae prog Rows.worldOrderRow.laid ((World.doorLaid prog 214 os).forCall (fun _ _=>0) ⟨#[],args,[]⟩).memory :=
 laidMetH_of_parts3 (fuel:=8) (laidMet_of_run' 8 (by kernel_rfl) (by kernel_rfl)) (by kernel_rfl) (by kernel_rfl)
theorem DZ:laidOutB prog=true:=by kernel_rfl
theorem MJ (os:Os)(b4:os.Started)(H:Type)(enc:TypeId×Value->H):
 ReturnsInHanded {} checked os 3 .any (fun w args=>(Rows.worldOrderSpec.pre enc prog f3 [] false w args/\ae prog Rows.worldOrderRow.laid w)/\sizedMet enc prog f3 (OpenSpec.ofChange Rows.worldOrderSpec) false w args)
  (Rows.worldOrderSpec.post enc prog f3 false true false false):=by
 refine returnsInHanded_of_change_and (C:=checked) (X:=fun w _=>ae prog Rows.worldOrderRow.laid w) (fun _ _ _ hh h=>h.of_heap hh) TM b4 (by kernel_rfl) func3
  (ChangeSpec.witness_shaped (enc:=enc) (C:=checked) (os:=os) (X:=fun w _=>ae prog Rows.worldOrderRow.laid w) false (World.doorLaid prog 214 os) #[.slice none 0 0,.int .i64 0,.int .i64 0,.slice none 0 0] 8 rfl (World.shaped_of_RefB (by kernel_rfl) (by kernel_rfl)) (by kernel_rfl) (by kernel_rfl) (by kernel_rfl) (PT os _)) ?_
 intro W base args ds gs b5 a0 hW _ _ hL _;have D:=a0;have a2:=hW;obtain⟨p,q,a4,hV,rfl,b6,b7⟩:=hW;have hA:=a4;rw[params3]at hA D;obtain⟨v0,b8,d0,c8,p0,q0,d4,rfl,rfl,h0,r0⟩:=trodAll_cons hA;obtain⟨v1,d5,d1,d6,p1,q1,rfl,rfl,rfl,h1,r1⟩:=trodAll_cons r0;obtain⟨v2,d7,d2,d8,p2,q2,rfl,rfl,rfl,h2,r2⟩:=trodAll_cons r1;obtain⟨v3,d9,d3,e0,p3,q3,rfl,rfl,rfl,h3,r3⟩:=trodAll_cons r2;obtain⟨rfl,rfl,rfl⟩:=trodAll_nil r3;obtain rfl:args=#[v0,v1,v2,v3]:=by cases args;simp_all
 obtain⟨rfl,rfl⟩:=trodVars_none hV;have k0:=h0;have a6:∀x∈p0,x.block<W.heap.size:=by obtain⟨m,K⟩:=k0;exact DataW.trod_lt m _ _ _ K
 have O:=h3;have a7:∀x∈p3,x.block<W.heap.size:=by obtain⟨m,K⟩:=O;exact DataW.trod_lt m _ _ _ K
 obtain⟨n,rfl,rfl,rfl,U⟩:=open_int underlying3 (D 1 3 v1 rfl rfl) h1;obtain⟨k,rfl,rfl,rfl,Z⟩:=open_int underlying3 (D 2 3 v2 rfl rfl) h2;obtain⟨pl,l,cl,a9,J⟩:=M5 (D 0 22 v0 rfl rfl) h0;obtain⟨a3,e1,e2,rfl⟩:=okWide_slice underlying23 (D 3 23 v3 rfl rfl);obtain⟨fuel,hf⟩:=h3;obtain⟨q,L,c3,a5,b0,I,b1⟩:=JpL hf;subst a9;rw[a5];clear a4 a0;obtain⟨ad,hE⟩:=JkN hL;rw[a5]at a2 O;have b2:Zt n:=by
  simp[Lit.wf,IntKind.min,IntKind.max,IntKind.bits,IntKind.signed]at U;exact U
 have b3:Zt k:=by
  simp[Lit.wf,IntKind.min,IntKind.max,IntKind.bits,IntKind.signed]at Z;exact Z
 have e3:maxLen=9223372036854775807:=rfl;refine(PY (Jrw ad) l n k L pl cl q c3 W (by have:=J.len;omega) (fun x B=>by have:=J.size x B;omega) J.strs J.empty b2 b3 b1 (fun x B=>(I x B).2.1) (fun x B=>⟨(I x B).2.2.1,(I x B).2.2.2.1,(I x B).2.2.2.2⟩) ⟨b0,fun x B=>(I x B).1⟩ (fun V _ hk=>⟨(hE.fO hk).q,hE.fO hk⟩)).mono fun e W' ⟨he,hb⟩=>?_
 subst he;exact⟨_,rfl,_,_,_,[],_,[],a2,trodAll_mk1 (shut_bool underlying4 _),(aa (Below.trod DZ (by kernel_rfl) (of_decide_eq_true (by kernel_rfl)) k0 hb a6) (aa (shut_int underlying3 U) (aa (shut_int underlying3 Z) (aa (Below.trod DZ (by kernel_rfl) (of_decide_eq_true (by kernel_rfl)) O hb a7) trodAll_mk0)))),rfl,hb.frame _,fun h=>by cases h⟩
theorem TY:Rows.WorldOrderSaid :=
 OpenClaim.holds_of_wide 3 f3 rfl rfl rfl rfl rfl rfl rfl ⟨rfl,rfl,rfl,rfl,rfl⟩ rfl rfl rfl rfl rfl (by kernel_rfl) func3 SV
  (of_decide_eq_true (by kernel_rfl)) (by unfold Func.isWrapper;rw[if_neg (of_decide_eq_false (by kernel_rfl))];exact⟨rfl,rfl⟩)
  (fun os B H enc _=>MJ os B H enc)
theorem worldOrder_holds:Rows.WorldOrderCardSaid :=
 Claim7.holds_tied_plain_at .later [] [.data, .data, .data, .sentinel, .sentinel, .sentinel, .sentinel, .sentinel, .sentinel, .sentinel, .sentinel, .sentinel, .sentinel] true (true, "72b713046ee5758d64c8031b7eed80b2a4b03281b96cf7cc329e1d1783c3c949") true
  TY (fun _ h=>by cases h) (by kernel_rfl) (fun _ h=>by cases h) worldOrder_row_tie rfl ⟨rfl,rfl⟩ (by kernel_rfl) rfl
  (fun f D H I=>by
   obtain rfl:f=3:=Option.some.inj ((show _=some 3 by kernel_rfl).symm.trans H) |>.symm;obtain rfl:D=f3:=(Option.some.inj (func3.symm.trans I)).symm;exact⟨by kernel_rfl,fun j t B=>by
    rw[params3]at B;have J:t∈ [22,3,3,23]:=by simpa using Array.mem_of_getElem? B
    have K:([22,3,3,23].all fun u=>!prog.wantsStandIn u)=true:=by kernel_rfl
    exact(show prog.wantsStandIn t=false by simpa using List.all_eq_true.1 K t J)⟩)
  (by kernel_rfl)
#print axioms worldOrder_holds
end
end Go.Proofs.YtflpelnbjekjbaaGreatDoor
