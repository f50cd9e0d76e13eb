import Derived.Test.YtghpdhegfnhmkaaGreatDoorR26
import Derived.BigQuiet
import Derived.Test.YtghpdhegfnhmkaaGreatDoorR9
import Derived.ProofKit
import Derived.OpenShut
import Derived.ChangeOld
import Derived.Deep.SlicePairs
import Derived.Lib.SmallJoins
namespace Go.Proofs.YtghpdhegfnhmkaaGreatDoor
open Go.RowKit
set_option maxRecDepth 10000 in
set_option maxHeartbeats 4000000 in
theorem shelvesFit_any (p:Option Addr) (l:List Shl) (cap:Nat) (w:World) (hl:l.length<=140737488355328) (hx:∀ x ∈ l,x.L.length<=140737488355328/\∀ v ∈ x.L,v.text.size<=140737488355328) (hS:ShlsAt w p l) :
 Calls Tryz.prog 15 #[.slice p l.length cap] w fun e w'=>(∃ r,e=.returned (.bool r))/\Below w.heap.size w w':=by
 have HS:Hid (ShlsAt w p l):=hS
 have HX:Hid (∀ i,i < l.length->(shlAt l i).L.length<=140737488355328/\∀ j,j < (shlAt l i).L.length->(verAt (shlAt l i).L j).text.size<=140737488355328):=fun i hi=>by
  have h1:=hx _ (List.mem_of_getElem? (shlAt_get hi))
  exact ⟨h1.1,fun j hj=>h1.2 _ (List.mem_of_getElem? (verAt_get hj))⟩
 clear hS hx
 go_enter Tryz.func15,Tryz.ntmps15
 go_wp2
 go_loopw [3,4] (fun z x wr=>(∃ n:Int,z=.int .i64 n)/\∃ i:Nat,i<=l.length/\x=.int .i64 i/\Below w.heap.size w wr) (fun _ x _=>l.length - (intOf x).toNat)
 case atStart=>exact ⟨⟨0,rfl⟩,0,Nat.zero_le _,rfl,Below.refl _ _⟩
 case round =>
  obtain ⟨⟨n,rfl⟩,i,hi,rfl,hB⟩:=hrel
  obtain ⟨w1,rfl⟩:∃ w1,w1=wr:=⟨_,rfl⟩
  have HB:Hid (Below w.heap.size w w1):=hB
  clear hB
  by_cases hil:i < l.length
  ·obtain ⟨b,o,rfl,hlt,_,c1,hrec⟩:=shl_cells (HS.out.below HB.out) hil
   obtain ⟨hLl,hTx⟩:=HX.out i hil
   have HR:Hid (Rec verE w1 (shlAt l i).lp (shlAt l i).L):=hrec
   have HTX:Hid (∀ j,j < (shlAt l i).L.length->(verAt (shlAt l i).L j).text.size<=140737488355328):=hTx
   clear hrec hTx
   generalize (shlAt l i).lp=lp at *
   generalize (shlAt l i).lc=lc at *
   generalize (shlAt l i).L=L at *
   have HC:Hid (∀ W,Below w1.heap.size w1 W->W.cell? ⟨b,o+i*2+1,none⟩=some (.slice lp L.length lc)):=fun W hW=>(hW.cell (p:=⟨b,o+i*2+1,none⟩) hlt).trans c1
   clear c1
   go_wp2
   go_loopw [3,5] (fun z x wr=>(∃ n:Int,z=.int .i64 n)/\∃ k:Nat,k<=L.length/\x=.int .i64 k/\Below w1.heap.size w1 wr) (fun _ x _=>L.length - (intOf x).toNat)
   case atStart=>exact ⟨⟨_,rfl⟩,0,Nat.zero_le _,rfl,Below.refl _ _⟩
   case round =>
    obtain ⟨⟨n2,rfl⟩,k,hk,rfl,hB2⟩:=hrel
    obtain ⟨w2,rfl⟩:∃ w2,w2=wr:=⟨_,rfl⟩
    have HB2:Hid (Below w1.heap.size w1 w2):=hB2
    have c2:=HC.out w2 hB2
    clear hB2
    by_cases hkl:k < L.length
    ·obtain ⟨b2,o2,rfl,hlt2,a0,a1,a2,a3,a4⟩:=ver_cells (HR.out.below HB2.out) hkl
     have htx:=HTX.out k hkl
     generalize verAt L k=v at *
     obtain ⟨vn,vw,vs,va,vt⟩:=v
     dsimp only at a0 a1 a2 a3 a4 htx
     have HBA:Hid (Below w1.heap.size w1 (w2.alloc (.cells #[.int .i64 vn,.int .i64 vw,.int .i64 vs,.int .i64 va,.string vt] 47))):=HB2.out.alloc HB2.out.size _
     have HBW:Hid (Below w.heap.size w (w2.alloc (.cells #[.int .i64 vn,.int .i64 vw,.int .i64 vs,.int .i64 va,.string vt] 47))):=HB.out.trans (HBA.out.mono HB.out.size)
     by_cases h1:200 < vs
     ·by_cases h2:vs<=1000
      ·go_wp2
       go_ret
       exact ⟨⟨_,rfl⟩,HBW.out⟩
      ·go_wp2
       go_roundw
       case rel=>exact ⟨⟨_,rfl⟩,k+1,by omega,by go_num,HBA.out⟩
       case measure=>simp [intOf];omega
     ·go_wp2
      go_roundw
      case rel=>exact ⟨⟨_,rfl⟩,k+1,by omega,by go_num,HBA.out⟩
      case measure=>simp [intOf];omega
    ·have HB3:Hid (Below w.heap.size w w2):=HB.out.trans (HB2.out.mono HB.out.size)
     go_wp2
     go_roundw
     case rel=>exact ⟨⟨_,rfl⟩,i+1,by omega,by go_num,HB3.out⟩
     case measure=>simp [intOf];omega
  ·go_wp2
   go_ret
   exact ⟨⟨_,rfl⟩,HB.out⟩
end Go.Proofs.YtghpdhegfnhmkaaGreatDoor
namespace Go.Proofs.YtghpdhegfnhmkaaGreatDoor
open Go.ChangeShapes Go.WideShapes Go.ChangeAt Go.RowKit
theorem lCellsBool:Tryz.prog.cellsOf 4=1:=by kernel_rfl
theorem lCellsShl:Tryz.prog.cellsOf 92=2:=by kernel_rfl
theorem lShlFields:∃ f0 f1,Tryz.prog.underlying 92=some (.struct #[f0,f1])/\(f0.offset=0/\f1.offset=1)/\f0.type=4/\f1.type=62:=⟨_,_,Tryz.underlying92,⟨rfl,rfl⟩,rfl,rfl⟩
theorem wBytesShl:Tryz.prog.bytesOf 92=32:=by kernel_rfl
def ShlR (x:Shl):Prop:=x.L.length<=140737488355328/\∀ v ∈ x.L,v.text.size<=140737488355328
set_option maxRecDepth 100000 in
theorem shl_elemW {H:Type} {enc:TypeId×Value->H} {W:World} {fuel:Nat} {cs:List Value} {y:DataW H×List MemPlace} (h:DataW.trod enc Tryz.prog W 0 (fun _=>true) true fuel 92 cs=some y) (hcl:cs.length=2):∃ x:Shl,cs=shlC x/\Rec verE W x.lp x.L/\(WtOk 92 y.1->ShlR x):=by
 obtain ⟨f0,f1,hst,⟨o0,o1⟩,t0,t1⟩:=lShlFields
 obtain ⟨xs,n,_,hx,_,hlen,hr⟩:=DataW.trod_struct hst h
 match cs,hcl,xs,hlen with
 | [v0,v1],_,[y0,y1],_ =>
  have r0:=hr 0 f0 rfl
  have r1:=hr 1 f1 rfl
  rw [t0,o0,lCellsBool] at r0
  rw [t1,o1,qCellsVers] at r1
  obtain ⟨m0,h0,_⟩:=DataW.trod_bool Tryz.underlying4 (show DataW.trod _ _ _ _ _ _ _ _ [v0]=some y0 from r0)
  obtain ⟨p,L,c,h1,hrec,_,_,_,hll⟩:=vers_argW (show DataW.trod _ _ _ _ _ _ _ _ [v1]=some y1 from r1)
  simp only [List.cons.injEq,and_true] at h0 h1
  subst h0 h1
  refine ⟨⟨m0,L,p,c⟩,rfl,hrec,fun hw=>?_⟩
  have hd:y.1=.agg [y0.1,y1.1]:=by rw [hx];rfl
  rw [hd] at hw
  have g1:WtOk f1.type y1.1:=wt_agg (i:=1) hst hw rfl rfl
  rw [t1] at g1
  obtain ⟨k1,k2⟩:=hll g1
  exact ⟨by show L.length<=_;omega,fun v hv=>by have:=k2 v hv;omega⟩
set_option maxRecDepth 100000 in
theorem shls_argW {H:Type} {enc:TypeId×Value->H} {W:World} {fuel:Nat} {v:Value} {y:DataW H×List MemPlace} (h:DataW.trod enc Tryz.prog W 0 (fun _=>true) true fuel 53 [v]=some y) :
 ∃ p l cap,v=.slice p l.length cap/\ShlsAt W p l/\(WtOk 53 y.1->l.length<=4398046511104/\∀ x ∈ l,ShlR x):=by
 rcases Deep.open_slice Tryz.underlying53 h with ⟨hcs,_⟩ | ⟨a,len0,cap0,m0,nn,D,Pl,hcs,_,hle,hcm,hm,hy,hx⟩
 ·simp at hcs
  subst hcs
  exact ⟨none,[],0,rfl,⟨Or.inl rfl,(fun x hx=>by cases hx)⟩,fun _=>⟨Nat.zero_le _,fun x hx=>by cases hx⟩⟩
 ·simp at hcs
  subst hcs
  have hlm:len0<=m0:=by rw [hm];split <;> omega
  have hsub:WtOk 53 y.1->len0*32<=140737488351232/\∀ i,i < len0->WtOk 92 (D i):=fun hw=>by
   rw [hy] at hw
   obtain ⟨h1,h2⟩:=wt_slice Tryz.underlying53 hw
   rw [wBytesShl,List.length_map,List.length_range] at h1
   exact ⟨by omega,fun i hi=>h2 _ (List.mem_map.2 ⟨i,List.mem_range.2 hi,rfl⟩)⟩
  have hv:∀ i,∃ x:Shl,i < len0->(∀ j u,(shlC x)[j]?=some u->W.cell? ((a.add (i*2)).add j)=some u)/\Rec verE W x.lp x.L/\(WtOk 92 (D i)->ShlR x):=fun i=>by
   by_cases hi:i < len0
   ·obtain ⟨cs',h1,h2⟩:=hx i (by omega)
    rw [lCellsShl] at h1
    obtain ⟨_,hlen,hcell⟩:=World.cells?_some h1
    obtain ⟨x,hcx,hfx,hbx⟩:=shl_elemW h2 hlen
    refine ⟨x,fun _=>⟨fun j u hj=>?_,hfx,hbx⟩⟩
    have hj2:j < 2:=(List.getElem?_eq_some_iff.1 hj).1
    have:=hcell j (by omega)
    rw [this,hcx]
    exact hj
   ·exact ⟨⟨true,[],none,0⟩,fun h=>absurd h hi⟩
  obtain ⟨R,hR⟩:∃ R:Nat->Shl,∀ i,i < len0->(∀ j u,(shlC (R i))[j]?=some u->W.cell? ((a.add (i*2)).add j)=some u)/\Rec verE W (R i).lp (R i).L/\(WtOk 92 (D i)->ShlR (R i)):=⟨fun i=>Classical.choose (hv i),fun i=>Classical.choose_spec (hv i)⟩
  clear hv
  have hlen:((List.range len0).map R).length=len0:=by simp
  have hat:∀ i,i < len0->((List.range len0).map R)[i]?=some (R i):=fun i hi=>by
   rw [List.getElem?_map,List.getElem?_range hi]
   rfl
  refine ⟨some a,(List.range len0).map R,cap0,by rw [hlen],⟨?_,fun x hxm=>?_⟩,fun hw=>⟨by rw [hlen];have:=(hsub hw).1;omega,fun x hxm=>?_⟩⟩
  ·by_cases h0:len0=0
   ·exact Or.inl (List.length_eq_zero_iff.1 (by rw [hlen];exact h0))
   ·obtain ⟨u0,hx0⟩:∃ u,W.cell? ((a.add (0*2)).add 0)=some u:=⟨_,(hR 0 (by omega)).1 0 _ rfl⟩
    obtain ⟨b,off,sp⟩:=a
    have hsp:sp=none:=by
     cases sp with
     | none=>rfl
     | some q =>
      exfalso
      simp [Addr.add,World.cell?] at hx0
      revert hx0
      split <;> intro h9 <;> cases h9
    subst hsp
    refine Or.inr ⟨b,off,rfl,?_,fun i x hxi j u hj=>?_⟩
    ·rw [Addr.add_lit,Addr.add_lit] at hx0
     rcases Nat.lt_or_ge b W.heap.size with h' | h'
     ·exact h'
     ·simp [World.cell?,Array.getElem?_eq_none h'] at hx0
    ·have hi:i < len0:=by have:=(List.getElem?_eq_some_iff.1 hxi).1;rw [hlen] at this;exact this
     rw [hat i hi] at hxi
     have e:=Option.some.inj hxi
     have hc:=(hR i hi).1 j u (by rw [e];exact hj)
     rw [Addr.add_lit,Addr.add_lit] at hc
     exact hc
  ·obtain ⟨i,hi,rfl⟩:=List.mem_map.1 hxm
   exact (hR i (List.mem_range.1 hi)).2.1
  ·obtain ⟨i,hi,rfl⟩:=List.mem_map.1 hxm
   exact (hR i (List.mem_range.1 hi)).2.2 ((hsub hw).2 i (List.mem_range.1 hi))
end Go.Proofs.YtghpdhegfnhmkaaGreatDoor
