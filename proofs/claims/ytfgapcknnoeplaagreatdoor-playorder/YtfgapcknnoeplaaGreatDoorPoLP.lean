/- The law PlayOrder returns true for all nodes, every N and K and all scripts, and changes nothing: whatever is played in a world, what is done is in order. Condition: package-level variables hold what the program's own text lays (the card ties it). -/
import Derived.Test.YtfgapcknnoeplaaGreatDoorTie
import Derived.Test.YtfgapcknnoeplaaGreatDoorCards
import Derived.Test.YtfgapcknnoeplaaGreatDoorY23
import Derived.Stop.Joined
import Derived.SevenTiedAt
import Derived.ChangeMaps5
set_option maxRecDepth 100000
open Go renaming trodAll_cons_mk->aa,laidMetH->af
namespace Go.Proofs.YtfgapcknnoeplaaGreatDoor
open Go.Proofs.Tryz
open Go.RowKit
section
open Go.ChangeShapes Go.WideShapes Go.ChangeAt Go.WideMaps Go.WideElems Go.RowKit
theorem JaB:ownKnob prog.godebug=none:=by kernel_rfl
theorem Jaw (os:Os)(args:Array Value):af prog Rows.playOrderRow.laid ((World.doorLaid prog 259 os).forCall (fun _ _=>0) ⟨#[],args,[]⟩).memory :=
 laidMetH_of_parts3 (fuel:=8) (laidMet_of_run' 8 (by kernel_rfl) (by kernel_rfl)) (by kernel_rfl) (by kernel_rfl)
theorem DZ:laidOutB prog=true:=by kernel_rfl
theorem Jat (os:Os)(b3:os.Started)(H:Type)(enc:TypeId×Value->H):
 ReturnsInHanded {} checked os 3 .any (fun w args=>(Rows.playOrderSpec.pre enc prog f3 [] false w args/\af prog Rows.playOrderRow.laid w)/\sizedMet enc prog f3 (OpenSpec.ofChange Rows.playOrderSpec) false w args)
  (Rows.playOrderSpec.post enc prog f3 false true false false):=by
 refine returnsInHanded_of_change_and (C:=checked) (X:=fun w _=>af prog Rows.playOrderRow.laid w) (fun _ _ _ hh h=>h.of_heap hh) JaB b3 (by kernel_rfl) func3
  (ChangeSpec.witness_shaped (enc:=enc) (C:=checked) (os:=os) (X:=fun w _=>af prog Rows.playOrderRow.laid w) false (World.doorLaid prog 259 os) #[.slice none 0 0,.int .i64 0,.int .i64 0,.slice none 0 0] 8 rfl (World.shaped_of_RefB (by kernel_rfl) (by kernel_rfl)) (by kernel_rfl) (by kernel_rfl) (by kernel_rfl) (Jaw os _)) ?_
 intro W base args ds gs b4 a0 hW _ _ hL _;have B:∀(j:Nat) t v,f3.params[j]?=some t->args[j]?=some v->Value.okWide prog W .any base t v:=a0;have a2:=hW;obtain⟨p,q,a3,I,rfl,b5,b6⟩:=hW;have hA:DataW.TrodAll enc prog W 0 (fun _=>true) true f3.params.toList args.toList ds p:=a3;rw[params3]at hA B;obtain⟨v0,b7,d0,b8,p0,q0,c8,rfl,rfl,h0,r0⟩:=trodAll_cons hA;obtain⟨v1,d4,d1,d5,p1,q1,rfl,rfl,rfl,h1,r1⟩:=trodAll_cons r0;obtain⟨v2,d6,d2,d7,p2,q2,rfl,rfl,rfl,h2,r2⟩:=trodAll_cons r1;obtain⟨v3,d8,d3,d9,p3,q3,rfl,rfl,rfl,h3,r3⟩:=trodAll_cons r2;obtain⟨rfl,rfl,rfl⟩:=trodAll_nil r3;obtain rfl:args=#[v0,v1,v2,v3]:=by cases args;simp_all
 obtain⟨rfl,rfl⟩:=trodVars_none I;have k0:=h0;have a5:∀x∈p0,x.block<W.heap.size:=by obtain⟨m,J⟩:=k0;exact DataW.trod_lt m _ _ _ J
 have K:=h3;have a6:∀x∈p3,x.block<W.heap.size:=by obtain⟨m,J⟩:=K;exact DataW.trod_lt m _ _ _ J
 obtain⟨n,rfl,rfl,rfl,O⟩:=open_int underlying3 (B 1 3 v1 rfl rfl) h1;obtain⟨k,rfl,rfl,rfl,U⟩:=open_int underlying3 (B 2 3 v2 rfl rfl) h2;obtain⟨pl,l,cl,a7,D⟩:=M5 (B 0 22 v0 rfl rfl) h0;obtain⟨q,L,c3,a4,hI,a8,a9,b0⟩:=Ja4 (B 3 23 v3 rfl rfl) h3;subst a7;rw[a4];clear a3 a0;obtain⟨ad,hE⟩:=JkN hL;rw[a4]at a2 K;have b1:Zt n:=by
  simp[Lit.wf,IntKind.min,IntKind.max,IntKind.bits,IntKind.signed]at O;exact O
 have b2:Zt k:=by
  simp[Lit.wf,IntKind.min,IntKind.max,IntKind.bits,IntKind.signed]at U;exact U
 have e0:maxLen=9223372036854775807:=rfl;refine(JaD (Jbp ad) (fun V _ I=>I.sv.eZ.c9) l n k L pl cl q c3 W (by have:=D.len;omega) (fun x Z=>by have:=D.size x Z;omega) D.strs D.empty b1 b2 a8 hI a9 (fun x Z=>by
  obtain⟨i,hi,rfl⟩:=List.getElem_of_mem Z;have h:=b0 i;rw[List.getD_eq_getElem?_getD,List.getElem?_eq_getElem hi]at h;have h:-9223372036854775808<=L[i]/\L[i]<9223372036854775808:=h;exact⟨h.1,by omega⟩) (fun V _ hk=>⟨(hE.fO hk).q,hE.fO hk⟩)).mono fun e W' ⟨he,hb⟩=>?_
 subst he;exact⟨_,rfl,_,_,_,[],_,[],a2,trodAll_mk1 (shut_bool underlying4 _),(aa (Below.trod DZ (by kernel_rfl) (of_decide_eq_true (by kernel_rfl)) k0 hb a5) (aa (shut_int underlying3 O) (aa (shut_int underlying3 U) (aa (Below.trod DZ (by kernel_rfl) (of_decide_eq_true (by kernel_rfl)) K hb a6) trodAll_mk0)))),rfl,hb.frame _,fun h=>by cases h⟩
theorem JaC:Rows.PlayOrderSaid :=
 OpenClaim.holds_of_wide 3 f3 rfl rfl rfl rfl rfl rfl rfl ⟨rfl,rfl,rfl,rfl,rfl⟩ rfl rfl rfl rfl rfl (by kernel_rfl) func3 Jbm
  (of_decide_eq_true (by kernel_rfl)) (by unfold Func.isWrapper;rw[if_neg (of_decide_eq_false (by kernel_rfl))];exact⟨rfl,rfl⟩)
  (fun os B H enc _=>Jat os B H enc)
theorem playOrder_holds:Rows.PlayOrderCardSaid :=
 Claim7.holds_tied_plain_at .later [] [.data, .data, .data, .sentinel, .sentinel, .sentinel, .sentinel, .sentinel, .sentinel, .sentinel, .sentinel, .sentinel, .sentinel] true (true, "b51a865077bac93ed93bac1918d3f81760abc2fae770d3ebb6e506e7a40126e0") true
  JaC (fun _ h=>by cases h) (by kernel_rfl) (fun _ h=>by cases h) playOrder_row_tie rfl ⟨rfl,rfl⟩ (by kernel_rfl) rfl
  (fun f D H I=>by
   obtain rfl:f=3:=Option.some.inj ((show _=some 3 by kernel_rfl).symm.trans H) |>.symm;obtain rfl:D=f3:=(Option.some.inj (func3.symm.trans I)).symm;exact⟨by kernel_rfl,fun j t B=>by
    rw[params3]at B;have J:t∈ [22,3,3,23]:=by simpa using Array.mem_of_getElem? B
    have K:([22,3,3,23].all fun u=>!prog.wantsStandIn u)=true:=by kernel_rfl
    exact(show prog.wantsStandIn t=false by simpa using List.all_eq_true.1 K t J)⟩)
  (by kernel_rfl)
#print axioms playOrder_holds
end
end Go.Proofs.YtfgapcknnoeplaaGreatDoor
