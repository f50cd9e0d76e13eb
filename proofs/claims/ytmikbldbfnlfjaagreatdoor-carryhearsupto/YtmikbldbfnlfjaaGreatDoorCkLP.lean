/- The law CarryHears returns true for every two configurations, every key and numbers and all messages that hold together, with all that they reach, at most 1048576 values and letters, and changes nothing: a mover is made or refused as the document says, and says, at each message, what the document's own says; its state and its answer are the document's, too. Condition: package-level variables hold what the program's own text lays (the card ties it). -/
import Derived.Test.YtmikbldbfnlfjaaGreatDoorTie
import Derived.Test.YtmikbldbfnlfjaaGreatDoorCards
import Derived.Test.YtmikbldbfnlfjaaGreatDoorCs20
import Derived.Stop.Joined
import Derived.SevenTiedAt
import Derived.ChangeMaps5
import Derived.Deep.DeepHandedRow
import Derived.Deep.DeepWitnessRowRef
set_option maxRecDepth 100000
namespace Go.Proofs.YtmikbldbfnlfjaaGreatDoor
open Go.Proofs.Tryz
open Go.RowKit
variable {H:Type}
section
open Go.ChangeShapes Go.WideShapes Go.ChangeAt Go.WideMaps Go.WideElems Go.RowKit
theorem Jb7:ownKnob prog.godebug=none:=by kernel_rfl
theorem Jbx (l:List (DataW H)):Rows.uptoBulkAll l=(l.map Rows.uptoBulk).sum:=by
 induction l with
 | nil=>rfl
 | cons x r ih=>simp only [Rows.uptoBulkAll,List.map_cons,List.sum_cons,ih]
theorem JeI :RC (Rows.uptoBulk (H:=H)) where
 one:=fun d=>by
  cases d with
  | lit l=>cases l <;> simp [Rows.uptoBulk]
  | nil=>simp [Rows.uptoBulk]
  | ptr d=>simp [Rows.uptoBulk]
  | slice j y=>simp [Rows.uptoBulk]
  | agg D=>simp [Rows.uptoBulk]
  | iface t d=>simp [Rows.uptoBulk]
  | map G=>simp [Rows.uptoBulk]
  | held h=>simp [Rows.uptoBulk]
 str:=fun l=>by simp only [Rows.uptoBulk];omega
 agg:=fun l=>by simp only [Rows.uptoBulk,Jbx];omega
 slice:=fun I J=>by simp only [Rows.uptoBulk,Jbx];omega
def Jbr:Value:=.agg #[.int .i64 0,.int .i64 0,.slice none 0 0]
theorem JbQ (os:Os) (args:Array Value):laidMetH prog Rows.carryHearsUptoRow.laid ((World.doorLaid prog 259 os).forCall (fun _ _=>0) ⟨#[],args,[]⟩).memory :=
 laidMetH_of_parts3 (fuel:=8) (laidMet_of_run' 8 (by kernel_rfl) (by kernel_rfl)) (by kernel_rfl) (by kernel_rfl)
theorem JbG (os:Os) (enc:TypeId×Value->H):DataW.whole enc prog ((World.doorLaid prog 259 os).forCall (fun _ _=>0) ⟨#[],#[.int .i64 0,Jbr,Jbr,.int .i64 0,.string ⟨#[]⟩,.slice none 0 0],[]⟩).memory f4.params.toList Rows.carryHearsSpec.vars false #[.int .i64 0,Jbr,Jbr,.int .i64 0,.string ⟨#[]⟩,.slice none 0 0].toList 8 =
 some ([.lit (.int .i64 0),.agg [.lit (.int .i64 0),.lit (.int .i64 0),.nil],.agg [.lit (.int .i64 0),.lit (.int .i64 0),.nil],.lit (.int .i64 0),.lit (.string []),.nil],[],[]):=by kernel_rfl
theorem DZ:laidOutB prog=true:=by kernel_rfl
theorem Jbh (H:Type) (enc:TypeId×Value->H) (W:World) (base:Nat) (args:Array Value) (X gs:List (DataW H)) (b7:List MemPlace)
 (a6:∀ (j:Nat) t v,f4.params[j]?=some t->args[j]?=some v->Value.okWide prog W .any base t v)
 (hW:DataW.Whole enc prog f4.params.toList Rows.carryHearsSpec.vars false W args.toList X gs b7) (hL:laidMetH prog Rows.carryHearsUptoRow.laid W) (y:Rows.uptoSmall H (X ++ gs)=true) :
 Calls prog 4 args W fun e Y=>∃ v,e=.returned v/\Rows.carryHearsSpec.post enc prog f4 false true false false W args v Y:=by
 have D:∀ (j:Nat) t v,f4.params[j]?=some t->args[j]?=some v->Value.okWide prog W .any base t v:=a6
 have Z:=hW
 obtain ⟨p,q,a0,hV,rfl,d6,d7⟩:=hW
 have hA:DataW.TrodAll enc prog W 0 (fun _=>true) true f4.params.toList args.toList X p:=a0
 rw [params4] at hA D
 obtain ⟨v0,d8,d0,d9,p0,q0,e0,rfl,rfl,h0,r0⟩:=trodAll_cons hA
 obtain ⟨v1,e2,d1,e3,p1,q1,rfl,rfl,rfl,h1,r1⟩:=trodAll_cons r0
 obtain ⟨v2,e4,d2,e5,p2,q2,rfl,rfl,rfl,h2,r2⟩:=trodAll_cons r1
 obtain ⟨v3,e6,d3,e7,p3,q3,rfl,rfl,rfl,h3,r3⟩:=trodAll_cons r2
 obtain ⟨v4,e8,d4,e9,p4,q4,rfl,rfl,rfl,h4,r4⟩:=trodAll_cons r3
 obtain ⟨v5,f3,d5,f4,p5,q5,rfl,rfl,rfl,h5,r5⟩:=trodAll_cons r4
 obtain ⟨rfl,rfl,rfl⟩:=trodAll_nil r5
 obtain rfl:args=#[v0,v1,v2,v3,v4,v5]:=by cases args;simp_all
 obtain ⟨rfl,rfl⟩:=trodVars_none hV
 have k1:=h1
 have a7:∀ x ∈ p1,x.block < W.heap.size:=by obtain ⟨m,K⟩:=k1;exact DataW.trod_lt m _ _ _ K
 have k2:=h2
 have a8:∀ x ∈ p2,x.block < W.heap.size:=by obtain ⟨m,K⟩:=k2;exact DataW.trod_lt m _ _ _ K
 have U:=h5
 have a9:∀ x ∈ p5,x.block < W.heap.size:=by obtain ⟨m,K⟩:=U;exact DataW.trod_lt m _ _ _ K
 obtain ⟨op,rfl,rfl,rfl,a1⟩:=open_int underlying3 (D 0 3 v0 rfl rfl) h0
 obtain ⟨cf,pf,qf,rfl,M,b0⟩:=JcC (D 1 24 v1 rfl rfl) h1
 obtain ⟨ct,pt,qt,rfl,N,b1⟩:=JcC (D 2 24 v2 rfl rfl) h2
 obtain ⟨O,rfl,rfl,rfl,a2⟩:=open_int underlying3 (D 3 3 v3 rfl rfl) h3
 obtain ⟨key,rfl,rfl,rfl,b2⟩:=ChangeMaps.open_string underlying9 (D 4 9 v4 rfl rfl) h4
 obtain ⟨a5,f5,f6,rfl⟩:=okWide_slice underlying27 (D 5 27 v5 rfl rfl)
 obtain ⟨fuel,hf⟩:=h5
 obtain ⟨pl,l,cl,a3,b3,b4,b5⟩:=Jdz JeI hf
 rw [a3]
 have hB:Rows.uptoBulk d5<=1048576:=by
  have e1:Rows.uptoBulkAll ([.lit (.int .i64 op),d1,d2,.lit (.int .i64 O),.lit (.string key.data.toList),d5] ++ ([]:List (DataW H)))<=1048576:=of_decide_eq_true y
  simp only [List.append_nil,Rows.uptoBulkAll] at e1
  omega
 dsimp only at b5
 clear a0 a6
 obtain ⟨ad,G⟩:=JcH hL
 rw [a3] at Z U
 have I:∀ (V:World),(∀ k,k < W.heap.size->V.heap[k]?=W.heap[k]?)->∀ (g:Nat) (v:Value),W.cell? ⟨g,0,none⟩=some v->V.cell? ⟨g,0,none⟩=some v:=fun V y g v h=>(World.cell?_of_block (a:=⟨g,0,none⟩) (y g (Zn h))).trans h
 have a4:∀ x:Int,(Lit.int .i64 x).wf=true->Zt x:=fun x Q=>by
  simp [Lit.wf,IntKind.min,IntKind.max,IntKind.bits,IntKind.signed] at Q
  exact Q
 have b6:z8 ad (fun w=>∃ z,w.cell? ⟨11,0,none⟩=some (.iface 252 (.pointer (some z)))) ⟨op,cf,ct,O,key⟩ pf qf pt qt l pl W :=
  ⟨fun V _ y=>⟨⟨I V y _ _ G.c1,I V y _ _ G.c2,I V y _ _ G.c3,I V y _ _ G.c4,I V y _ _ G.c5⟩,⟨_,I V y _ _ G.x8⟩⟩,fun V J=>G.below J,M.strs,M.room,M.empty,b0,M.len,M.size,N.strs,N.room,N.empty,b1,N.len,N.size,a4 op a1,a4 O a2,by omega,b3,fun x Q=>(b4 x Q).1⟩
 refine (Jcd (Jey ad) ⟨op,cf,ct,O,key⟩ pf qf pt qt l pl cl W b6).mono fun e Y ⟨he,J⟩=>?_
 subst he
 exact ⟨_,rfl,_,_,_,[],_,[],Z,trodAll_mk1 (shut_bool underlying4 _),(trodAll_cons_mk (shut_int underlying3 a1) (trodAll_cons_mk (Below.trod DZ (by kernel_rfl) (of_decide_eq_true (by kernel_rfl)) k1 J a7) (trodAll_cons_mk (Below.trod DZ (by kernel_rfl) (of_decide_eq_true (by kernel_rfl)) k2 J a8) (trodAll_cons_mk (shut_int underlying3 a2) (trodAll_cons_mk (ChangeMaps.shut_string underlying9 b2) (trodAll_cons_mk (Below.trod DZ (by kernel_rfl) (of_decide_eq_true (by kernel_rfl)) U J a9) trodAll_mk0)))))),rfl,J.frame _,fun h=>by cases h⟩
theorem Jbw (os:Os) (N:os.Started) (H:Type) (enc:TypeId×Value->H) (F:Stop.Interp) :
 ReturnsInHanded {} checked os 4 .any ((Rows.OpenSpec.upto Rows.carryHearsSpec).preRow enc prog f4 Rows.carryHearsUptoRow.domain false Rows.carryHearsUptoRow.laid) (((Rows.OpenSpec.upto Rows.carryHearsSpec).at F).post enc prog f4 false true false false):=by
 refine returnsInHanded_of_row (C:=checked) (s:=Rows.OpenSpec.upto Rows.carryHearsSpec) Jb7 N (by kernel_rfl) func4
  (witness_row_atRef (enc:=enc) (C:=checked) false (World.doorLaid prog 259 os) #[.int .i64 0,Jbr,Jbr,.int .i64 0,.string ⟨#[]⟩,.slice none 0 0] rfl (by kernel_rfl) (by kernel_rfl) (by kernel_rfl)
   (OpenSpec.preRow_of_cond 8 (JbG os enc) (by kernel_rfl) (fun k j=>by cases j;kernel_rfl) (by kernel_rfl) (JbQ os _))) ?_
 intro W base args y D G I J _ K _ M _ _
 exact Jbh H enc W base args y D G I J M (K _ rfl)
theorem Jb8:Rows.CarryHearsUptoSaid :=
 OpenClaim.holds_of_cond 4 f4 rfl rfl rfl rfl rfl rfl rfl ⟨rfl,rfl,rfl,rfl,rfl⟩ rfl rfl rfl rfl rfl (by kernel_rfl) func4 (by kernel_rfl)
  (of_decide_eq_true (by kernel_rfl)) (by unfold Func.isWrapper;rw [if_neg (of_decide_eq_false (by kernel_rfl))];exact ⟨rfl,rfl⟩)
  (fun os j H enc _ F=>by rw [OpenClaim.pre_eq_preRow];exact Jbw os j H enc F)
theorem carryHearsUpto_holds:Rows.CarryHearsUptoCardSaid :=
 Claim7.holds_tied_plain_at .later [] [.handle, .sentinel, .sentinel, .sentinel, .sentinel, .sentinel, .sentinel, .sentinel, .sentinel, .sentinel, .sentinel, .sentinel, .sentinel] true (true, "98b307f98bfa162864e6065101111a27621e8f28e61ebae87912d67d21f6ad8d") true
  Jb8 (fun _ h=>by cases h) (by kernel_rfl) (fun _ h=>by cases h) carryHearsUpto_row_tie rfl ⟨rfl,rfl⟩ (by kernel_rfl) rfl
  (fun f D G I=>by
   obtain rfl:f=4:=Option.some.inj ((show _=some 4 by kernel_rfl).symm.trans G) |>.symm
   obtain rfl:D=f4:=(Option.some.inj (func4.symm.trans I)).symm
   exact ⟨by kernel_rfl,fun j t y=>by
    rw [params4] at y
    have J:t ∈ [3,24,24,3,9,27]:=by simpa using Array.mem_of_getElem? y
    have K:([3,24,24,3,9,27].all fun u=>!prog.wantsStandIn u)=true:=by kernel_rfl
    exact (show prog.wantsStandIn t=false by simpa using List.all_eq_true.1 K t J)⟩)
  (by kernel_rfl)
#print axioms carryHearsUpto_holds
end
end Go.Proofs.YtmikbldbfnlfjaaGreatDoor
