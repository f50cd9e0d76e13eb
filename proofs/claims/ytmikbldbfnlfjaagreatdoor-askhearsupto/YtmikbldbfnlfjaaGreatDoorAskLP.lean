/- The law AskHears returns true for every bid and all messages that hold together, with all that they reach, at most 1048576 values and letters, and changes nothing: an ask is made or refused as the document says, and says, at each message, what the document's own says; its state and its answer are the document's, too. Condition: package-level variables hold what the program's own text lays (the card ties it). -/
import Derived.Test.YtmikbldbfnlfjaaGreatDoorTie
import Derived.Test.YtmikbldbfnlfjaaGreatDoorCards
import Derived.Test.YtmikbldbfnlfjaaGreatDoorAs21
import Derived.Stop.Joined
import Derived.SevenTiedAt
import Derived.ChangeMaps5
import Derived.Deep.DeepHandedRow
import Derived.Deep.DeepWitnessRowRef
set_option maxRecDepth 100000
namespace Go.Proofs.YtmikbldbfnlfjaaGreatDoor
open Go.Proofs.Tryz
open Go.RowKit
variable {H:Type}
section
open Go.ChangeShapes Go.WideShapes Go.ChangeAt Go.WideMaps Go.WideElems Go.RowKit
theorem Jcp:ownKnob prog.godebug=none:=by kernel_rfl
theorem Jbv (l:List (DataW H)):Rows.uptoBulkAll l=(l.map Rows.uptoBulk).sum:=by
 induction l with
 | nil=>rfl
 | cons x r ih=>simp only [Rows.uptoBulkAll,List.map_cons,List.sum_cons,ih]
theorem JeH :u5 (Rows.uptoBulk (H:=H)) where
 one:=fun d=>by
  cases d with
  | lit l=>cases l <;> simp [Rows.uptoBulk]
  | nil=>simp [Rows.uptoBulk]
  | ptr d=>simp [Rows.uptoBulk]
  | slice j y=>simp [Rows.uptoBulk]
  | agg D=>simp [Rows.uptoBulk]
  | iface t d=>simp [Rows.uptoBulk]
  | map G=>simp [Rows.uptoBulk]
  | held h=>simp [Rows.uptoBulk]
 str:=fun l=>by simp only [Rows.uptoBulk];omega
 agg:=fun l=>by simp only [Rows.uptoBulk,Jbv];omega
 slice:=fun I J=>by simp only [Rows.uptoBulk,Jbv];omega
def JcW:Value:=.agg #[.bool false,.int .i64 0,.int .i64 0,.int .i64 0,.int .i64 0,.int .i64 0,.slice none 0 0,.string ⟨#[]⟩,.string ⟨#[]⟩]
theorem Jce (os:Os) (args:Array Value):laidMetH prog Rows.askHearsUptoRow.laid ((World.doorLaid prog 259 os).forCall (fun _ _=>0) ⟨#[],args,[]⟩).memory :=
 laidMetH_of_parts3 (fuel:=8) (laidMet_of_run' 8 (by kernel_rfl) (by kernel_rfl)) (by kernel_rfl) (by kernel_rfl)
theorem JbZ (os:Os) (enc:TypeId×Value->H):DataW.whole enc prog ((World.doorLaid prog 259 os).forCall (fun _ _=>0) ⟨#[],#[JcW,.slice none 0 0],[]⟩).memory f3.params.toList Rows.askHearsSpec.vars false #[JcW,.slice none 0 0].toList 8 =
 some ([.agg [.lit (.bool false),.lit (.int .i64 0),.lit (.int .i64 0),.lit (.int .i64 0),.agg [.lit (.int .i64 0),.lit (.int .i64 0),.nil],.lit (.string []),.lit (.string [])],.nil],[],[]):=by kernel_rfl
theorem DZ:laidOutB prog=true:=by kernel_rfl
theorem Jbt (H:Type) (enc:TypeId×Value->H) (W:World) (base:Nat) (args:Array Value) (O gs:List (DataW H)) (b4:List MemPlace)
 (a2:∀ (j:Nat) t v,f3.params[j]?=some t->args[j]?=some v->Value.okWide prog W .any base t v)
 (hW:DataW.Whole enc prog f3.params.toList Rows.askHearsSpec.vars false W args.toList O gs b4) (hL:laidMetH prog Rows.askHearsUptoRow.laid W) (y:Rows.uptoSmall H (O ++ gs)=true) :
 Calls prog 3 args W fun e Q=>∃ v,e=.returned v/\Rows.askHearsSpec.post enc prog f3 false true false false W args v Q:=by
 have K:∀ (j:Nat) t v,f3.params[j]?=some t->args[j]?=some v->Value.okWide prog W .any base t v:=a2
 have U:=hW
 obtain ⟨p,q,X,hV,rfl,b5,b6⟩:=hW
 have Y:DataW.TrodAll enc prog W 0 (fun _=>true) true f3.params.toList args.toList O p:=X
 rw [params3] at Y K
 obtain ⟨Z,b7,d0,d2,p0,q0,d3,rfl,rfl,h0,r0⟩:=trodAll_cons Y
 obtain ⟨v1,d4,d1,d5,p1,q1,rfl,rfl,rfl,h1,r1⟩:=trodAll_cons r0
 obtain ⟨rfl,rfl,rfl⟩:=trodAll_nil r1
 obtain rfl:args=#[Z,v1]:=by cases args;simp_all
 obtain ⟨rfl,rfl⟩:=trodVars_none hV
 have k0:=h0
 have a3:∀ x ∈ p0,x.block < W.heap.size:=by obtain ⟨m,M⟩:=k0;exact DataW.trod_lt m _ _ _ M
 have N:=h1
 have a4:∀ x ∈ p1,x.block < W.heap.size:=by obtain ⟨m,M⟩:=N;exact DataW.trod_lt m _ _ _ M
 obtain ⟨bd,pc,cc,rfl,I,a5,a6,a7,a8⟩:=Jd7 (K 0 26 Z rfl rfl) h0
 obtain ⟨a1,d6,d7,rfl⟩:=okWide_slice underlying27 (K 1 27 v1 rfl rfl)
 obtain ⟨fuel,hf⟩:=h1
 obtain ⟨pl,l,cl,a0,a9,b0,b1⟩:=JdB JeH hf
 rw [a0]
 have hB:Rows.uptoBulk d1<=1048576:=by
  have e1:Rows.uptoBulkAll ([d0,d1] ++ ([]:List (DataW H)))<=1048576:=of_decide_eq_true y
  simp only [List.append_nil,Rows.uptoBulkAll] at e1
  omega
 dsimp only at b1
 clear X a2
 obtain ⟨ad,D⟩:=Jcw hL
 have b2:=Jcf hL
 rw [a0] at U N
 have G:∀ (V:World),(∀ k,k < W.heap.size->V.heap[k]?=W.heap[k]?)->∀ (g:Nat) (v:Value),W.cell? ⟨g,0,none⟩=some v->V.cell? ⟨g,0,none⟩=some v:=fun V y g v h=>(World.cell?_of_block (a:=⟨g,0,none⟩) (y g (Zn h))).trans h
 have b3:sS ad qO bd pc cc l pl W :=
  ⟨fun V _ y=>⟨⟨G V y _ _ D.c1,G V y _ _ D.c2,G V y _ _ D.c3,G V y _ _ D.c4,G V y _ _ D.c5⟩,⟨⟨_,G V y _ _ D.oP⟩,TabIs.dJ b2 y⟩⟩,fun V J=>D.below J,I.strs,I.room,I.empty,a5,a6,a7,a8,I.len,I.size,by omega,a9,b0⟩
 refine (Jcz (eL ad) (fun hc=>hc.2) bd pc cc l pl cl W b3).mono fun e Q ⟨he,J⟩=>?_
 subst he
 exact ⟨_,rfl,_,_,_,[],_,[],U,trodAll_mk1 (shut_bool underlying4 _),(trodAll_cons_mk (Below.trod DZ (by kernel_rfl) (of_decide_eq_true (by kernel_rfl)) k0 J a3) (trodAll_cons_mk (Below.trod DZ (by kernel_rfl) (of_decide_eq_true (by kernel_rfl)) N J a4) trodAll_mk0)),rfl,J.frame _,fun h=>by cases h⟩
theorem JbH (os:Os) (N:os.Started) (H:Type) (enc:TypeId×Value->H) (F:Stop.Interp) :
 ReturnsInHanded {} checked os 3 .any ((Rows.OpenSpec.upto Rows.askHearsSpec).preRow enc prog f3 Rows.askHearsUptoRow.domain false Rows.askHearsUptoRow.laid) (((Rows.OpenSpec.upto Rows.askHearsSpec).at F).post enc prog f3 false true false false):=by
 refine returnsInHanded_of_row (C:=checked) (s:=Rows.OpenSpec.upto Rows.askHearsSpec) Jcp N (by kernel_rfl) func3
  (witness_row_atRef (enc:=enc) (C:=checked) false (World.doorLaid prog 259 os) #[JcW,.slice none 0 0] rfl (by kernel_rfl) (by kernel_rfl) (by kernel_rfl)
   (OpenSpec.preRow_of_cond 8 (JbZ os enc) (by kernel_rfl) (fun k j=>by cases j;kernel_rfl) (by kernel_rfl) (Jce os _))) ?_
 intro W base args y D G I J _ K _ M _ _
 exact Jbt H enc W base args y D G I J M (K _ rfl)
theorem Jcq:Rows.AskHearsUptoSaid :=
 OpenClaim.holds_of_cond 3 f3 rfl rfl rfl rfl rfl rfl rfl ⟨rfl,rfl,rfl,rfl,rfl⟩ rfl rfl rfl rfl rfl (by kernel_rfl) func3 (by kernel_rfl)
  (of_decide_eq_true (by kernel_rfl)) (by unfold Func.isWrapper;rw [if_neg (of_decide_eq_false (by kernel_rfl))];exact ⟨rfl,rfl⟩)
  (fun os j H enc _ F=>by rw [OpenClaim.pre_eq_preRow];exact JbH os j H enc F)
theorem askHearsUpto_holds:Rows.AskHearsUptoCardSaid :=
 Claim7.holds_tied_plain_at .later [] [.data, .data, .data, .handle, .sentinel, .sentinel, .sentinel, .sentinel, .sentinel, .sentinel, .sentinel, .sentinel, .sentinel, .sentinel, .sentinel, .sentinel] true (true, "98b307f98bfa162864e6065101111a27621e8f28e61ebae87912d67d21f6ad8d") true
  Jcq (fun _ h=>by cases h) (by kernel_rfl) (fun _ h=>by cases h) askHearsUpto_row_tie rfl ⟨rfl,rfl⟩ (by kernel_rfl) rfl
  (fun f D G I=>by
   obtain rfl:f=3:=Option.some.inj ((show _=some 3 by kernel_rfl).symm.trans G) |>.symm
   obtain rfl:D=f3:=(Option.some.inj (func3.symm.trans I)).symm
   exact ⟨by kernel_rfl,fun j t y=>by
    rw [params3] at y
    have J:t ∈ [26,27]:=by simpa using Array.mem_of_getElem? y
    have K:([26,27].all fun u=>!prog.wantsStandIn u)=true:=by kernel_rfl
    exact (show prog.wantsStandIn t=false by simpa using List.all_eq_true.1 K t J)⟩)
  (by kernel_rfl)
#print axioms askHearsUpto_holds
end
end Go.Proofs.YtmikbldbfnlfjaaGreatDoor
