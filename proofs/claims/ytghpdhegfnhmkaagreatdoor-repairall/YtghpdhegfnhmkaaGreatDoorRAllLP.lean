/- The law RepairAll returns true for every configuration, every key, every text and all lists of lost members, and changes nothing: where at least K shards of an object are left all come back, and as many may be lost as at first. Condition: package-level variables hold what the program's own text lays (the card ties it). -/
import Derived.Test.YtghpdhegfnhmkaaGreatDoorTie
import Derived.Test.YtghpdhegfnhmkaaGreatDoorCards
import Derived.Test.YtghpdhegfnhmkaaGreatDoorS2
import Derived.Test.YtghpdhegfnhmkaaGreatDoorS49
import Derived.Test.YtghpdhegfnhmkaaGreatDoorS0
import Derived.Test.YtghpdhegfnhmkaaGreatDoorS6
import Derived.ProofKit
import Derived.LaidMore
import Derived.OpenShut
import Derived.ChangeOld
import Derived.Stop.Joined
import Derived.SevenTiedAt
import Derived.ChangeMaps5
namespace Go.Proofs.YtghpdhegfnhmkaaGreatDoor
open Go.ChangeShapes Go.WideShapes Go.ChangeAt Go.WideMaps Go.WideElems Go.RowKit
theorem repairAll_own:ownKnob Tryz.prog.godebug=none:=by kernel_rfl
theorem repairAll_door (os:Os) (args:Array Value):laidMetH Tryz.prog Rows.repairAllRow.laid ((World.doorLaid Tryz.prog 244 os).forCall (fun _ _=>0) ⟨#[],args,[]⟩).memory :=
 laidMetH_of_parts3 (fuel:=8) (laidMet_of_run' 8 (by kernel_rfl) (by kernel_rfl)) (by kernel_rfl) (by kernel_rfl)
set_option maxRecDepth 100000 in
theorem repairAll_lifted (os:Os) (started:os.Started) (H:Type) (enc:TypeId×Value->H) :
 ReturnsInHanded {} Tryz.checked os 3 .any (fun w args=>(Rows.repairAllSpec.pre enc Tryz.prog Tryz.f3 [] false w args/\laidMetH Tryz.prog Rows.repairAllRow.laid w)/\sizedMet enc Tryz.prog Tryz.f3 (OpenSpec.ofChange Rows.repairAllSpec) false w args)
  (Rows.repairAllSpec.post enc Tryz.prog Tryz.f3 false true false false):=by
 refine returnsInHanded_of_change_and (C:=Tryz.checked) (X:=fun w _=>laidMetH Tryz.prog Rows.repairAllRow.laid w) (fun _ _ _ hh h=>h.of_heap hh) repairAll_own started (by kernel_rfl) Tryz.func3
  (ChangeSpec.witness_shaped (enc:=enc) (C:=Tryz.checked) (os:=os) (X:=fun w _=>laidMetH Tryz.prog Rows.repairAllRow.laid w) false (World.doorLaid Tryz.prog 244 os) #[.agg #[.int .i64 0,.int .i64 0,.slice none 0 0],.string ⟨#[]⟩,.string ⟨#[]⟩,.slice none 0 0] 8 rfl (World.shaped_of_RefB (by kernel_rfl) (by kernel_rfl)) (by kernel_rfl) (by kernel_rfl) (by kernel_rfl) (repairAll_door os _)) ?_
 intro W base args ds gs before hval0 hW _ _ hL _
 have hval:∀ (j:Nat) t v,Tryz.f3.params[j]?=some t->args[j]?=some v->Value.okWide Tryz.prog W .any base t v:=hval0
 have hW':=hW
 obtain ⟨p,q,hA0,hV,rfl,hfz,hnd⟩:=hW
 have hA:DataW.TrodAll enc Tryz.prog W 0 (fun _=>true) true Tryz.f3.params.toList args.toList ds p:=hA0
 rw [Tryz.params3] at hA hval
 obtain ⟨v0,vs0,d0,ds0,p0,q0,hargs,rfl,rfl,h0,r0⟩:=trodAll_cons hA
 obtain ⟨v1,vs1,d1,ds1,p1,q1,rfl,rfl,rfl,h1,r1⟩:=trodAll_cons r0
 obtain ⟨v2,vs2,d2,ds2,p2,q2,rfl,rfl,rfl,h2,r2⟩:=trodAll_cons r1
 obtain ⟨v3,vs3,d3,ds3,p3,q3,rfl,rfl,rfl,h3,r3⟩:=trodAll_cons r2
 obtain ⟨rfl,rfl,rfl⟩:=trodAll_nil r3
 obtain rfl:args=#[v0,v1,v2,v3]:=by cases args;simp_all
 obtain ⟨rfl,rfl⟩:=trodVars_none hV
 have k0:=h0
 have lt0:∀ x ∈ p0,x.block < W.heap.size:=by obtain ⟨m,hm⟩:=k0;exact DataW.trod_lt m _ _ _ hm
 have k3:=h3
 have lt3:∀ x ∈ p3,x.block < W.heap.size:=by obtain ⟨m,hm⟩:=k3;exact DataW.trod_lt m _ _ _ hm
 obtain ⟨c,pc,cc,rfl,hsc,hic⟩:=cfg_arg8 (hval 0 24 v0 rfl rfl) h0
 obtain ⟨key,rfl,rfl,rfl,wsn⟩:=ChangeMaps.open_string Tryz.underlying9 (hval 1 9 v1 rfl rfl) h1
 obtain ⟨text,rfl,rfl,rfl,wst⟩:=ChangeMaps.open_string Tryz.underlying9 (hval 2 9 v2 rfl rfl) h2
 obtain ⟨pl,l,cl,rfl,hsl,_,_⟩:=ints_arg (hval 3 25 v3 rfl rfl) h3
 clear hA0 hval0
 obtain ⟨ad,hS⟩:=sent_of_laid (show laidMetH Tryz.prog Rows.repairAllRow.laid W from hL)
 refine (repairAll_any ad c pc cc key text l pl cl W hsc hic wsn hsl (fun V hb=>hS.keepBlocks (fun k hk=>hb.block k hk))).mono fun e W' ⟨he,hb⟩=>?_
 subst he
 exact ⟨_,rfl,_,_,_,[],_,[],hW',trodAll_mk1 (shut_bool Tryz.underlying4 _),(trodAll_cons_mk (Below.trod cfgLaidOut (by kernel_rfl) (of_decide_eq_true (by kernel_rfl)) k0 hb lt0) (trodAll_cons_mk (ChangeMaps.shut_string Tryz.underlying9 wsn) (trodAll_cons_mk (ChangeMaps.shut_string Tryz.underlying9 wst) (trodAll_cons_mk (Below.trod cfgLaidOut (by kernel_rfl) (of_decide_eq_true (by kernel_rfl)) k3 hb lt3) trodAll_mk0)))),rfl,hb.frame _,fun h=>by cases h⟩
theorem repairAll_row:Rows.RepairAllSaid :=
 OpenClaim.holds_of_wide 3 Tryz.f3 rfl rfl rfl rfl rfl rfl rfl ⟨rfl,rfl,rfl,rfl,rfl⟩ rfl rfl rfl rfl rfl (by kernel_rfl) Tryz.func3 (by kernel_rfl)
  (of_decide_eq_true (by kernel_rfl)) (by unfold Func.isWrapper;rw [if_neg (of_decide_eq_false (by kernel_rfl))];exact ⟨rfl,rfl⟩)
  (fun os started H enc _=>repairAll_lifted os started H enc)
theorem repairAll_holds:Rows.RepairAllCardSaid :=
 Claim7.holds_tied_plain_at .later [] [.handle, .sentinel, .sentinel, .sentinel, .sentinel, .sentinel, .sentinel, .sentinel, .sentinel, .sentinel, .sentinel, .sentinel, .sentinel] true (true, "57a297c845526f5ee17acfd6d01192da23fbd5db29dde7e514aca12dee2482ba") true
  repairAll_row (fun _ h=>by cases h) (by kernel_rfl) (fun _ h=>by cases h) repairAll_row_tie rfl ⟨rfl,rfl⟩ (by kernel_rfl) rfl
  (fun f fn hf hfn=>by
   obtain rfl:f=3:=Option.some.inj ((show _=some 3 by kernel_rfl).symm.trans hf) |>.symm
   obtain rfl:fn=Tryz.f3:=(Option.some.inj (Tryz.func3.symm.trans hfn)).symm
   exact ⟨by kernel_rfl,fun j t ht=>by
    rw [Tryz.params3] at ht
    have hm:t ∈ [24,9,9,25]:=by simpa using Array.mem_of_getElem? ht
    have hall:([24,9,9,25].all fun u=>!Tryz.prog.wantsStandIn u)=true:=by kernel_rfl
    exact (show Tryz.prog.wantsStandIn t=false by simpa using List.all_eq_true.1 hall t hm)⟩)
  (by kernel_rfl)
#print axioms repairAll_holds
end Go.Proofs.YtghpdhegfnhmkaaGreatDoor
