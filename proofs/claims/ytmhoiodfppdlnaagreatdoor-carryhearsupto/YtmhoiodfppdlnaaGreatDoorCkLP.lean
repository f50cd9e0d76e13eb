/- The law CarryHears returns true for every two configurations, every key and numbers and all messages that hold together, with all that they reach, at most 1048576 values and letters, and changes nothing: a mover is made or refused as the document says, and says, at each message, what the document's own says; its state and its answer are the document's, too. Condition: package-level variables hold what the program's own text lays (the card ties it). -/
import Derived.Test.YtmhoiodfppdlnaaGreatDoorTie
import Derived.Test.YtmhoiodfppdlnaaGreatDoorCards
import Derived.Test.YtmhoiodfppdlnaaGreatDoorCy0
import Derived.Test.YtmhoiodfppdlnaaGreatDoorCy45
import Derived.Test.YtmhoiodfppdlnaaGreatDoorCy47
import Derived.Test.YtmhoiodfppdlnaaGreatDoorCy7
import Derived.Test.YtmhoiodfppdlnaaGreatDoorCy5
import Derived.ProofKit
import Derived.LaidMore
import Derived.OpenShut
import Derived.ChangeOld
import Derived.Stop.Joined
import Derived.SevenTiedAt
import Derived.ChangeMaps5
import Derived.Deep.DeepHandedRow
import Derived.Deep.DeepWitnessRowRef
namespace Go.Proofs.YtmhoiodfppdlnaaGreatDoor
open Go.ChangeShapes Go.WideShapes Go.ChangeAt Go.WideMaps Go.WideElems Go.RowKit
theorem carryHears_own:ownKnob Tryz.prog.godebug=none:=by kernel_rfl
theorem bulkAll_sum {H:Type} (l:List (DataW H)):Rows.uptoBulkAll l=(l.map Rows.uptoBulk).sum:=by
 induction l with
 | nil=>rfl
 | cons x r ih=>simp only [Rows.uptoBulkAll,List.map_cons,List.sum_cons,ih]
theorem isBulk {H:Type}:IsBulk (Rows.uptoBulk (H:=H)) where
 one:=fun d=>by
  cases d with
  | lit l=>cases l <;> simp [Rows.uptoBulk]
  | nil=>simp [Rows.uptoBulk]
  | ptr d=>simp [Rows.uptoBulk]
  | slice elems spare=>simp [Rows.uptoBulk]
  | agg parts=>simp [Rows.uptoBulk]
  | iface t d=>simp [Rows.uptoBulk]
  | map entries=>simp [Rows.uptoBulk]
  | held h=>simp [Rows.uptoBulk]
 str:=fun l=>by simp only [Rows.uptoBulk];omega
 agg:=fun l=>by simp only [Rows.uptoBulk,bulkAll_sum];omega
 slice:=fun es sp=>by simp only [Rows.uptoBulk,bulkAll_sum];omega
def noCfg:Value:=.agg #[.int .i64 0,.int .i64 0,.slice none 0 0]
theorem carryHears_door (os:Os) (args:Array Value):laidMetH Tryz.prog Rows.carryHearsUptoRow.laid ((World.doorLaid Tryz.prog 259 os).forCall (fun _ _=>0) ⟨#[],args,[]⟩).memory :=
 laidMetH_of_parts3 (fuel:=8) (laidMet_of_run' 8 (by kernel_rfl) (by kernel_rfl)) (by kernel_rfl) (by kernel_rfl)
theorem carryHears_reads (os:Os) {H:Type} (enc:TypeId×Value->H):DataW.whole enc Tryz.prog ((World.doorLaid Tryz.prog 259 os).forCall (fun _ _=>0) ⟨#[],#[.int .i64 0,noCfg,noCfg,.int .i64 0,.string ⟨#[]⟩,.slice none 0 0],[]⟩).memory Tryz.f4.params.toList Rows.carryHearsSpec.vars false #[.int .i64 0,noCfg,noCfg,.int .i64 0,.string ⟨#[]⟩,.slice none 0 0].toList 8 =
 some ([.lit (.int .i64 0),.agg [.lit (.int .i64 0),.lit (.int .i64 0),.nil],.agg [.lit (.int .i64 0),.lit (.int .i64 0),.nil],.lit (.int .i64 0),.lit (.string []),.nil],[],[]):=by kernel_rfl
theorem aLaidOut:laidOutB Tryz.prog=true:=by kernel_rfl
set_option maxRecDepth 100000 in
theorem carryHears_contract (H:Type) (enc:TypeId×Value->H) (W:World) (base:Nat) (args:Array Value) (ds gs:List (DataW H)) (before:List MemPlace)
 (hval0:∀ (j:Nat) t v,Tryz.f4.params[j]?=some t->args[j]?=some v->Value.okWide Tryz.prog W .any base t v)
 (hW:DataW.Whole enc Tryz.prog Tryz.f4.params.toList Rows.carryHearsSpec.vars false W args.toList ds gs before) (hL:laidMetH Tryz.prog Rows.carryHearsUptoRow.laid W) (hk:Rows.uptoSmall H (ds ++ gs)=true) :
 Calls Tryz.prog 4 args W fun e W'=>∃ v,e=.returned v/\Rows.carryHearsSpec.post enc Tryz.prog Tryz.f4 false true false false W args v W':=by
 have hval:∀ (j:Nat) t v,Tryz.f4.params[j]?=some t->args[j]?=some v->Value.okWide Tryz.prog W .any base t v:=hval0
 have hW':=hW
 obtain ⟨p,q,hA0,hV,rfl,hfz,hnd⟩:=hW
 have hA:DataW.TrodAll enc Tryz.prog W 0 (fun _=>true) true Tryz.f4.params.toList args.toList ds p:=hA0
 rw [Tryz.params4] at hA hval
 obtain ⟨v0,vs0,d0,ds0,p0,q0,hargs,rfl,rfl,h0,r0⟩:=trodAll_cons hA
 obtain ⟨v1,vs1,d1,ds1,p1,q1,rfl,rfl,rfl,h1,r1⟩:=trodAll_cons r0
 obtain ⟨v2,vs2,d2,ds2,p2,q2,rfl,rfl,rfl,h2,r2⟩:=trodAll_cons r1
 obtain ⟨v3,vs3,d3,ds3,p3,q3,rfl,rfl,rfl,h3,r3⟩:=trodAll_cons r2
 obtain ⟨v4,vs4,d4,ds4,p4,q4,rfl,rfl,rfl,h4,r4⟩:=trodAll_cons r3
 obtain ⟨v5,vs5,d5,ds5,p5,q5,rfl,rfl,rfl,h5,r5⟩:=trodAll_cons r4
 obtain ⟨rfl,rfl,rfl⟩:=trodAll_nil r5
 obtain rfl:args=#[v0,v1,v2,v3,v4,v5]:=by cases args;simp_all
 obtain ⟨rfl,rfl⟩:=trodVars_none hV
 have k1:=h1
 have lt1:∀ x ∈ p1,x.block < W.heap.size:=by obtain ⟨m,hm⟩:=k1;exact DataW.trod_lt m _ _ _ hm
 have k2:=h2
 have lt2:∀ x ∈ p2,x.block < W.heap.size:=by obtain ⟨m,hm⟩:=k2;exact DataW.trod_lt m _ _ _ hm
 have k5:=h5
 have lt5:∀ x ∈ p5,x.block < W.heap.size:=by obtain ⟨m,hm⟩:=k5;exact DataW.trod_lt m _ _ _ hm
 obtain ⟨op,rfl,rfl,rfl,wx0⟩:=open_int Tryz.underlying3 (hval 0 3 v0 rfl rfl) h0
 obtain ⟨cf,pf,qf,rfl,hsf,hif⟩:=cfg_arg8 (hval 1 24 v1 rfl rfl) h1
 obtain ⟨ct,pt,qt,rfl,hst,hit⟩:=cfg_arg8 (hval 2 24 v2 rfl rfl) h2
 obtain ⟨cn,rfl,rfl,rfl,wx3⟩:=open_int Tryz.underlying3 (hval 3 3 v3 rfl rfl) h3
 obtain ⟨key,rfl,rfl,rfl,wsk⟩:=ChangeMaps.open_string Tryz.underlying9 (hval 4 9 v4 rfl rfl) h4
 obtain ⟨a5,len5,cap5,rfl⟩:=okWide_slice Tryz.underlying27 (hval 5 27 v5 rfl rfl)
 obtain ⟨fuel,hf⟩:=h5
 obtain ⟨pl,l,cl,hvv,hms,hvi,hwt⟩:=msgs_arg9 isBulk hf
 rw [hvv]
 have hB:Rows.uptoBulk d5<=1048576:=by
  have e1:Rows.uptoBulkAll ([.lit (.int .i64 op),d1,d2,.lit (.int .i64 cn),.lit (.string key.data.toList),d5] ++ ([]:List (DataW H)))<=1048576:=of_decide_eq_true hk
  simp only [List.append_nil,Rows.uptoBulkAll] at e1
  omega
 dsimp only at hwt
 clear hA0 hval0
 obtain ⟨ad,hS⟩:=sent_of_laid hL
 rw [hvv] at hW' k5
 have hcell:∀ (V:World),(∀ k,k < W.heap.size->V.heap[k]?=W.heap[k]?)->∀ (g:Nat) (v:Value),W.cell? ⟨g,0,none⟩=some v->V.cell? ⟨g,0,none⟩=some v:=fun V hk g v h=>(World.cell?_of_block (a:=⟨g,0,none⟩) (hk g (lt_of_cellH h))).trans h
 have hi64:∀ x:Int,(Lit.int .i64 x).wf=true->I64 x:=fun x hx=>by
  simp [Lit.wf,IntKind.min,IntKind.max,IntKind.bits,IntKind.signed] at hx
  exact hx
 have hin:LiftIn ad (fun w=>∃ z,w.cell? ⟨11,0,none⟩=some (.iface 252 (.pointer (some z)))) ⟨op,cf,ct,cn,key⟩ pf qf pt qt l pl W :=
  ⟨fun V _ hk=>⟨⟨hcell V hk _ _ hS.c1,hcell V hk _ _ hS.c2,hcell V hk _ _ hS.c3,hcell V hk _ _ hS.c4,hcell V hk _ _ hS.c5⟩,⟨_,hcell V hk _ _ hS.c11⟩⟩,fun V hb=>hS.below hb,hsf.strs,hsf.room,hsf.empty,hif,hsf.len,hsf.size,hst.strs,hst.room,hst.empty,hit,hst.len,hst.size,hi64 op wx0,hi64 cn wx3,by omega,hms,fun x hx=>(hvi x hx).1⟩
 refine (carryHears_any (carryOk ad) ⟨op,cf,ct,cn,key⟩ pf qf pt qt l pl cl W hin).mono fun e W' ⟨he,hb⟩=>?_
 subst he
 exact ⟨_,rfl,_,_,_,[],_,[],hW',trodAll_mk1 (shut_bool Tryz.underlying4 _),(trodAll_cons_mk (shut_int Tryz.underlying3 wx0) (trodAll_cons_mk (Below.trod aLaidOut (by kernel_rfl) (of_decide_eq_true (by kernel_rfl)) k1 hb lt1) (trodAll_cons_mk (Below.trod aLaidOut (by kernel_rfl) (of_decide_eq_true (by kernel_rfl)) k2 hb lt2) (trodAll_cons_mk (shut_int Tryz.underlying3 wx3) (trodAll_cons_mk (ChangeMaps.shut_string Tryz.underlying9 wsk) (trodAll_cons_mk (Below.trod aLaidOut (by kernel_rfl) (of_decide_eq_true (by kernel_rfl)) k5 hb lt5) trodAll_mk0)))))),rfl,hb.frame _,fun h=>by cases h⟩
set_option maxRecDepth 100000 in
theorem carryHears_lifted (os:Os) (started:os.Started) (H:Type) (enc:TypeId×Value->H) (F:Stop.Interp) :
 ReturnsInHanded {} Tryz.checked os 4 .any ((Rows.OpenSpec.upto Rows.carryHearsSpec).preRow enc Tryz.prog Tryz.f4 Rows.carryHearsUptoRow.domain false Rows.carryHearsUptoRow.laid) (((Rows.OpenSpec.upto Rows.carryHearsSpec).at F).post enc Tryz.prog Tryz.f4 false true false false):=by
 refine returnsInHanded_of_row (C:=Tryz.checked) (s:=Rows.OpenSpec.upto Rows.carryHearsSpec) carryHears_own started (by kernel_rfl) Tryz.func4
  (witness_row_atRef (enc:=enc) (C:=Tryz.checked) false (World.doorLaid Tryz.prog 259 os) #[.int .i64 0,noCfg,noCfg,.int .i64 0,.string ⟨#[]⟩,.slice none 0 0] rfl (by kernel_rfl) (by kernel_rfl) (by kernel_rfl)
   (OpenSpec.preRow_of_cond 8 (carryHears_reads os enc) (by kernel_rfl) (fun k hk=>by cases hk;kernel_rfl) (by kernel_rfl) (carryHears_door os _))) ?_
 intro W base args ds gs before hval hW _ hcond _ hL _ _
 exact carryHears_contract H enc W base args ds gs before hval hW hL (hcond _ rfl)
theorem carryHears_row:Rows.CarryHearsUptoSaid :=
 OpenClaim.holds_of_cond 4 Tryz.f4 rfl rfl rfl rfl rfl rfl rfl ⟨rfl,rfl,rfl,rfl,rfl⟩ rfl rfl rfl rfl rfl (by kernel_rfl) Tryz.func4 (by kernel_rfl)
  (of_decide_eq_true (by kernel_rfl)) (by unfold Func.isWrapper;rw [if_neg (of_decide_eq_false (by kernel_rfl))];exact ⟨rfl,rfl⟩)
  (fun os started H enc _ F=>by rw [OpenClaim.pre_eq_preRow];exact carryHears_lifted os started H enc F)
theorem carryHearsUpto_holds:Rows.CarryHearsUptoCardSaid :=
 Claim7.holds_tied_plain_at .later [] [.handle, .sentinel, .sentinel, .sentinel, .sentinel, .sentinel, .sentinel, .sentinel, .sentinel, .sentinel, .sentinel, .sentinel, .sentinel] true (true, "98b307f98bfa162864e6065101111a27621e8f28e61ebae87912d67d21f6ad8d") true
  carryHears_row (fun _ h=>by cases h) (by kernel_rfl) (fun _ h=>by cases h) carryHearsUpto_row_tie rfl ⟨rfl,rfl⟩ (by kernel_rfl) rfl
  (fun f fn hf hfn=>by
   obtain rfl:f=4:=Option.some.inj ((show _=some 4 by kernel_rfl).symm.trans hf) |>.symm
   obtain rfl:fn=Tryz.f4:=(Option.some.inj (Tryz.func4.symm.trans hfn)).symm
   exact ⟨by kernel_rfl,fun j t ht=>by
    rw [Tryz.params4] at ht
    have hm:t ∈ [3,24,24,3,9,27]:=by simpa using Array.mem_of_getElem? ht
    have hall:([3,24,24,3,9,27].all fun u=>!Tryz.prog.wantsStandIn u)=true:=by kernel_rfl
    exact (show Tryz.prog.wantsStandIn t=false by simpa using List.all_eq_true.1 hall t hm)⟩)
  (by kernel_rfl)
#print axioms carryHearsUpto_holds
end Go.Proofs.YtmhoiodfppdlnaaGreatDoor
