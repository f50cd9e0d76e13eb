/- The law PlayTells returns true for all lists of events, and changes nothing: whether they are in order, and which is not, the program tells as the document's own answer does. Condition: package-level variables hold what the program's own text lays (the card ties it). -/
import Derived.Test.YtfgapcknnoeplaaGreatDoorTie
import Derived.Test.YtfgapcknnoeplaaGreatDoorCards
import Derived.Test.YtfgapcknnoeplaaGreatDoorX25
import Derived.Stop.Joined
import Derived.SevenTiedAt
import Derived.ChangeMaps5
set_option maxRecDepth 100000
namespace Go.Proofs.YtfgapcknnoeplaaGreatDoor
open Go.Proofs.Tryz
open Go.RowKit
section
open Go.ChangeShapes Go.WideShapes Go.ChangeAt Go.WideMaps Go.WideElems Go.RowKit
theorem Jbg:ownKnob prog.godebug=none:=by kernel_rfl
theorem Ja8 (os:Os)(args:Array Value):laidMetH prog Rows.playTellsRow.laid ((World.doorLaid prog 259 os).forCall (fun _ _=>0) ⟨#[],args,[]⟩).memory :=
 laidMetH_of_parts3 (fuel:=8) (laidMet_of_run' 8 (by kernel_rfl) (by kernel_rfl)) (by kernel_rfl) (by kernel_rfl)
theorem DZ:laidOutB prog=true:=by kernel_rfl
theorem JaU (os:Os)(a7:os.Started)(H:Type)(enc:TypeId×Value->H):
 ReturnsInHanded {} checked os 4 .any (fun w args=>(Rows.playTellsSpec.pre enc prog f4 [] false w args/\laidMetH prog Rows.playTellsRow.laid w)/\sizedMet enc prog f4 (OpenSpec.ofChange Rows.playTellsSpec) false w args)
  (Rows.playTellsSpec.post enc prog f4 false true false false):=by
 refine returnsInHanded_of_change_and (C:=checked) (X:=fun w _=>laidMetH prog Rows.playTellsRow.laid w) (fun _ _ _ hh h=>h.of_heap hh) Jbg a7 (by kernel_rfl) func4
  (ChangeSpec.witness_shaped (enc:=enc) (C:=checked) (os:=os) (X:=fun w _=>laidMetH prog Rows.playTellsRow.laid w) false (World.doorLaid prog 259 os) #[.slice none 0 0] 8 rfl (World.shaped_of_RefB (by kernel_rfl) (by kernel_rfl)) (by kernel_rfl) (by kernel_rfl) (by kernel_rfl) (Ja8 os _)) ?_
 intro W base args ds gs a8 I J _ _ hL _;have K:∀(j:Nat) t v,f4.params[j]?=some t->args[j]?=some v->Value.okWide prog W .any base t v:=I;have O:=J;obtain⟨p,q,U,B,rfl,a9,b0⟩:=J;have Z:DataW.TrodAll enc prog W 0 (fun _=>true) true f4.params.toList args.toList ds p:=U;rw[params4]at Z K;obtain⟨v0,b1,d0,b2,p0,q0,b3,rfl,rfl,h0,r0⟩:=trodAll_cons Z;obtain⟨rfl,rfl,rfl⟩:=trodAll_nil r0;obtain rfl:args=#[v0]:=by cases args;simp_all
 obtain⟨rfl,rfl⟩:=trodVars_none B;have D:=h0;have a3:∀x∈p0,x.block<W.heap.size:=by obtain⟨m,hm⟩:=D;exact DataW.trod_lt m _ _ _ hm
 obtain⟨a0,b4,b5,rfl⟩:=okWide_slice underlying37 (K 0 37 v0 rfl rfl);obtain⟨fuel,hf⟩:=h0;obtain⟨pl,L,cl,a2,a4,a5,a6⟩:=Jcz hf;rw[a2];clear U I;obtain⟨ad,hS,hE⟩:=Jbo hL;rw[a2]at O D;refine(Jbf (Jcw ad) (fun V _ B=>B.sv.eZ.c9) L pl cl W a6 a4 a5 hS (fun V _ hk=>⟨(hE.fO hk).q,hE.fO hk⟩)).mono fun e W' ⟨he,hb⟩=>?_
 subst he;exact⟨_,rfl,_,_,_,[],_,[],O,trodAll_mk1 (shut_bool underlying4 _),(trodAll_cons_mk (Below.trod DZ (by kernel_rfl) (of_decide_eq_true (by kernel_rfl)) D hb a3) trodAll_mk0),rfl,hb.frame _,fun h=>by cases h⟩
theorem Jbh:Rows.PlayTellsSaid :=
 OpenClaim.holds_of_wide 4 f4 rfl rfl rfl rfl rfl rfl rfl ⟨rfl,rfl,rfl,rfl,rfl⟩ rfl rfl rfl rfl rfl (by kernel_rfl) func4 Jcu
  (of_decide_eq_true (by kernel_rfl)) (by unfold Func.isWrapper;rw[if_neg (of_decide_eq_false (by kernel_rfl))];exact⟨rfl,rfl⟩)
  (fun os B H enc _=>JaU os B H enc)
theorem playTells_holds:Rows.PlayTellsCardSaid :=
 Claim7.holds_tied_plain_at .later [] [.data, .data, .data, .handle, .sentinel, .sentinel, .sentinel, .sentinel, .sentinel, .sentinel, .sentinel, .sentinel, .sentinel, .sentinel, .sentinel, .sentinel] true (true, "b51a865077bac93ed93bac1918d3f81760abc2fae770d3ebb6e506e7a40126e0") true
  Jbh (fun _ h=>by cases h) (by kernel_rfl) (fun _ h=>by cases h) playTells_row_tie rfl ⟨rfl,rfl⟩ (by kernel_rfl) rfl
  (fun f D H I=>by
   obtain rfl:f=4:=Option.some.inj ((show _=some 4 by kernel_rfl).symm.trans H) |>.symm;obtain rfl:D=f4:=(Option.some.inj (func4.symm.trans I)).symm;exact⟨by kernel_rfl,fun j t B=>by
    rw[params4]at B;have J:t∈ [37]:=by simpa using Array.mem_of_getElem? B
    have K:([37].all fun u=>!prog.wantsStandIn u)=true:=by kernel_rfl
    exact(show prog.wantsStandIn t=false by simpa using List.all_eq_true.1 K t J)⟩)
  (by kernel_rfl)
#print axioms playTells_holds
end
end Go.Proofs.YtfgapcknnoeplaaGreatDoor
