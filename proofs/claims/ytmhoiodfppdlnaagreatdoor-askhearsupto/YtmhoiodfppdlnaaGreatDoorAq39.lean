import Derived.Test.YtmhoiodfppdlnaaGreatDoorAq18
import Derived.Test.YtmhoiodfppdlnaaGreatDoorAq5
import Derived.Test.YtmhoiodfppdlnaaGreatDoorAq38
import Derived.ProofKit
import Derived.OpenShut
import Derived.ChangeOld
import Derived.Deep.SlicePairs
import Derived.Lib.SmallJoins
set_option maxRecDepth 100000
namespace Go.Proofs.YtmhoiodfppdlnaaGreatDoor
open Go.ChangeShapes Go.WideShapes Go.ChangeAt Go.RowKit
theorem aCellsBid:Tryz.prog.cellsOf 26=9:=by kernel_rfl
theorem aBidFields:∃ f0 f1 f2 f3 f4 f5 f6,Tryz.prog.underlying 26=some (.struct #[f0,f1,f2,f3,f4,f5,f6])/\(f0.offset=0/\f1.offset=1/\f2.offset=2/\f3.offset=3/\f4.offset=4/\f5.offset=7/\f6.offset=8)/\f0.type=4/\f1.type=3/\f2.type=3/\f3.type=3/\f4.type=24/\f5.type=9/\f6.type=9:=⟨_,_,_,_,_,_,_,Tryz.underlying26,⟨rfl,rfl,rfl,rfl,rfl,rfl,rfl⟩,rfl,rfl,rfl,rfl,rfl,rfl,rfl⟩
theorem msgs_arg8 {H:Type}{m:DataW H->Nat}(hb:IsBulk m){enc:TypeId×Value->H}{W:World}{fuel:Nat}{v:Value}{y:DataW H×List MemPlace}(h:DataW.trod enc Tryz.prog W 0 (fun _=>true) true fuel 27 [v]=some y) :
 ∃ p l cap,v=.slice p l.length cap/\MsgsAt W p l/\(∀ x ∈ l,∀ v ∈ x.L,VerI64 v)/\weighM l<=60*m y.1:=by
 obtain⟨p,l,cap,h1,h2,h3,h4⟩:=msgs_arg9 hb h
 exact⟨p,l,cap,h1,h2,fun x hx=>(h3 x hx).1,h4⟩
theorem bid_arg8 {H:Type}{enc:TypeId×Value->H}{W:World}{base:Nat}{v:Value}{d:DataW H}{ps:List MemPlace}(hok:Value.okWide Tryz.prog W .any base 26 v)(h:DataW.Trod enc Tryz.prog W 0 (fun _=>true) true 26 v d ps) :
 ∃ (b:Bid) (p:Option Addr) (cap:Nat),v=.agg #[.bool b.put,.int .i64 b.who,.int .i64 b.op,.int .i64 b.config,.int .i64 b.c.n,.int .i64 b.c.k,.slice p b.c.L.length cap,.string b.key,.string b.text]/\TxsIn W b.c.L p cap/\CfgIn b.c/\I64 b.who/\I64 b.op/\I64 b.config:=by
 obtain⟨f0,f1,f2,f3,f4,f5,f6,hst,⟨o0,o1,o2,o3,o4,o5,o6⟩,t0,t1,t2,t3,t4,t5,t6⟩:=aBidFields
 obtain⟨g0,g1,g2,hcst,oo0,oo1,oo2,tt0,tt1,tt2⟩:=qCfgFields
 obtain⟨cs,rfl,hsz⟩:=okWide_struct hst hok
 rw [aCellsBid] at hsz
 obtain⟨fuel,hf⟩:=h
 obtain⟨xs,n,_,hx,_,hlen,hr⟩:=DataW.trod_struct hst hf
 obtain⟨csl,hcsl⟩:∃ csl,csl=cs.toList:=⟨_,rfl⟩
 have hcl:csl.length=9:=by rw [hcsl];simpa using hsz
 have hce:cs=csl.toArray:=by rw [hcsl]
 subst hce
 match csl,hcl,xs,hlen with
 | [v0,v1,v2,v3,v4,v5,v6,v7,v8],_,[y0,y1,y2,y3,y4,y5,y6],_ =>
  have r0:=hr 0 f0 rfl
  have r1:=hr 1 f1 rfl
  have r2:=hr 2 f2 rfl
  have r3:=hr 3 f3 rfl
  have r4:=hr 4 f4 rfl
  have r5:=hr 5 f5 rfl
  have r6:=hr 6 f6 rfl
  rw [t0,o0,aCellsBool] at r0
  rw [t1,o1,qCellsInt] at r1
  rw [t2,o2,qCellsInt] at r2
  rw [t3,o3,qCellsInt] at r3
  rw [t4,o4,qCellsCfg] at r4
  rw [t5,o5,qCellsStr] at r5
  rw [t6,o6,qCellsStr] at r6
  obtain⟨z0,z1,z2,n2,_,_,k0,k1,k2⟩:=Deep.trod_struct3 hcst (show DataW.trod _ _ _ _ _ _ _ _ [v4,v5,v6]=some y4 from r4)
  rw [tt0,oo0,qCellsInt] at k0
  rw [tt1,oo1,qCellsInt] at k1
  rw [tt2,oo2,qCellsStrs] at k2
  obtain⟨cn,hn,_,wn⟩:=DataW.trod_int Tryz.underlying3 k0
  obtain⟨ck,hk,_,wk⟩:=DataW.trod_int Tryz.underlying3 k1
  obtain⟨p,l,cap,hl,htx⟩:=strs_arg8 (show DataW.trod _ _ _ _ _ _ _ _ [v6]=some z2 from k2)
  obtain⟨m0,h0,_⟩:=DataW.trod_bool Tryz.underlying4 (show DataW.trod _ _ _ _ _ _ _ _ [v0]=some y0 from r0)
  obtain⟨m1,h1,_,w1⟩:=DataW.trod_int Tryz.underlying3 (show DataW.trod _ _ _ _ _ _ _ _ [v1]=some y1 from r1)
  obtain⟨m2,h2,_,w2⟩:=DataW.trod_int Tryz.underlying3 (show DataW.trod _ _ _ _ _ _ _ _ [v2]=some y2 from r2)
  obtain⟨m3,h3,_,w3⟩:=DataW.trod_int Tryz.underlying3 (show DataW.trod _ _ _ _ _ _ _ _ [v3]=some y3 from r3)
  obtain⟨m5,h5,_,_⟩:=DataW.trod_string Tryz.underlying9 (show DataW.trod _ _ _ _ _ _ _ _ [v7]=some y5 from r5)
  obtain⟨m6,h6,_,_⟩:=DataW.trod_string Tryz.underlying9 (show DataW.trod _ _ _ _ _ _ _ _ [v8]=some y6 from r6)
  simp at hn hk
  simp only [List.cons.injEq,and_true] at h0 h1 h2 h3 h5 h6
  subst hn hk hl h0 h1 h2 h3 h5 h6
  exact⟨⟨m0,m1,m2,m3,⟨cn,ck,l⟩,m5,m6⟩,p,cap,rfl,htx,⟨bounds_i64 wn,bounds_i64 wk⟩,bounds_i64 w1,bounds_i64 w2,bounds_i64 w3⟩
end Go.Proofs.YtmhoiodfppdlnaaGreatDoor
