import Derived.Test.YtghpdhegfnhmkaaGreatDoorS31
import Derived.Test.YtghpdhegfnhmkaaGreatDoorS25
import Derived.Test.YtghpdhegfnhmkaaGreatDoorS27
import Derived.Test.YtghpdhegfnhmkaaGreatDoorS0
import Derived.RegionTactic
import Derived.BigRegion
namespace Go.Proofs.YtghpdhegfnhmkaaGreatDoor
open Go.RowKit
def OwnSV (w:World) (B gm r:Nat) (vf:Nat->Value):Prop:=w.ownsRow B 62 1 (.slice (some ⟨gm,0,none⟩) r r) r ((List.range r).map vf)
theorem OwnSV.made (w:World) (B r:Nat) (hB:B<=w.heap.size) (hr:r<=1000000):OwnSV (w.alloc (.cells (madeCells #[.slice none 0 0] r) 62)) B w.heap.size r (fun _=>.slice none 0 0):=by
 have h:=World.ownsRow_lit (base:=B) (e:=62) (size:=1) w (madeCells #[.slice none 0 0] r) r hB (by unfold maxLen;omega) (by have:=congrArg List.length (toList_madeCells_one (.slice none 0 0) r);simpa using this)
 rw [toList_madeCells_one] at h
 unfold OwnSV
 rw [List.map_const',List.length_range]
 exact h
theorem OwnSV.cell {w:World} {B gm r:Nat} {vf:Nat->Value} (h:OwnSV w B gm r vf) (j:Nat) (hj:j < r):w.cell? ⟨gm,j,none⟩=some (vf j):=by
 rw [World.ownsRow.cellAt (w:=w) h j (by omega),List.getElem?_map,List.getElem?_range hj]
 rfl
theorem OwnSV.free {w:World} {B gm r:Nat} {vf:Nat->Value} (h:OwnSV w B gm r vf) (j:Nat):w.frozen? ⟨gm,j,none⟩=false:=World.ownsRow.frozenAt (w:=w) h j
theorem OwnSV.set {w:World} {B gm r:Nat} {vf:Nat->Value} (h:OwnSV w B gm r vf) (j:Nat) (v:Value):OwnSV (w.setCell ⟨gm,j,none⟩ v) B gm r (fun i=>if i=j then v else vf i):=by
 have:=(World.ownsRow.stored (w:=w) h j v).1
 rw [map_range_set] at this
 exact this
theorem OwnSV.below {w w':World} {B gm r:Nat} {vf:Nat->Value} (h:OwnSV w B gm r vf) (hb:Below w.heap.size w w'):OwnSV w' B gm r vf :=
 World.ownsRow.kept h (row:=none) ⟨hb.os,hb.tape,hb.output,hb.size,fun k hk _=>hb.block k hk⟩ (Or.inr (by simp [Value.ownBlock]))
theorem OwnSV.lt {w:World} {B gm r:Nat} {vf:Nat->Value} (h:OwnSV w B gm r vf):B<=gm/\gm < w.heap.size:=World.ownsRow.lt h gm rfl
structure TelAt (w:World) (B g n:Nat) (LL:List (List Ver)) (i:Nat) (vf:Nat->Value):Prop where
 own:OwnSV w B g n vf
 done:∀ j,j < i->∃ q c,vf j=.slice q (LL.getD j []).length c/\Rec verE w q (LL.getD j [])/\(LL.getD j []).length<=c/\(q=none->LL.getD j []=[]/\c=0)/\∀ b o,q=some ⟨b,o,none⟩->b≠g
 left:∀ j,i<=j->vf j=.slice none 0 0
theorem TelAt.start (w:World) (n:Nat) (LL:List (List Ver)) (hr:n<=1000000):TelAt (w.alloc (.cells (madeCells #[.slice none 0 0] n) 62)) w.heap.size w.heap.size n LL 0 (fun _=>.slice none 0 0) :=
 ⟨OwnSV.made w _ n (Nat.le_refl _) hr,fun _ hj=>absurd hj (Nat.not_lt_zero _),fun _ _=>rfl⟩
theorem TelAt.below {w w':World} {B g n i:Nat} {LL:List (List Ver)} {vf:Nat->Value} (h:TelAt w B g n LL i vf) (hb:Below w.heap.size w w'):TelAt w' B g n LL i vf :=
 ⟨h.own.below hb,fun j hj=>by obtain ⟨q,c,h1,h2,h3⟩:=h.done j hj;exact ⟨q,c,h1,h2.below hb,h3⟩,h.left⟩
theorem TelAt.pass {w:World} {B g n i:Nat} {LL:List (List Ver)} {vf:Nat->Value} (h:TelAt w B g n LL i vf) (he:LL.getD i []=[]):TelAt w B g n LL (i+1) vf:=by
 refine ⟨h.own,fun j hj=>?_,fun j hj=>h.left j (by omega)⟩
 by_cases hji:j < i
 ·exact h.done j hji
 ·obtain rfl:j=i:=by omega
  refine ⟨none,0,by rw [h.left j (Nat.le_refl _),he];rfl,by rw [he];exact Rec.nil _ _,by rw [he];exact Nat.zero_le _,fun _=>⟨he,rfl⟩,fun b o e=>by cases e⟩
theorem TelAt.step {w w':World} {B g n i:Nat} {LL:List (List Ver)} {vf:Nat->Value} (h:TelAt w B g n LL i vf) {v:Value} (hb:Below w.heap.size w w') (hv:OwnR verE 47 w' w.heap.size v (LL.getD i [])):TelAt (w'.setCell ⟨g,i,none⟩ v) B g n LL (i+1) (fun j=>if j=i then v else vf j):=by
 have h1:=h.below hb
 have hgl:=h.own.lt.2
 have hsz:=hb.size
 have kp:∀ (q:Option Addr) (l:List Ver),Rec verE w' q l->(∀ b o,q=some ⟨b,o,none⟩->b≠g)->Rec verE (w'.setCell ⟨g,i,none⟩ v) q l:=fun q l hr hne=>by
  rcases hr with hr | ⟨b,o,hq,hlt,hc⟩
  ·exact Or.inl hr
  ·exact Or.inr ⟨b, o, hq, by simpa using hlt, fun x y hx z u hu => by
    rw [World.cell?_setCell_other _ _ _ _ (fun e=>hne b o hq (congrArg Addr.block e).symm)]
    exact hc x y hx z u hu⟩
 refine ⟨h1.own.set i v,fun j hj=>?_,fun j hj=>?_⟩
 ·by_cases hji:j < i
  ·obtain ⟨q,c,e1,e2,e3,e4,e5⟩:=h1.done j hji
   exact ⟨q,c,by rw [if_neg (by omega)];exact e1,kp q _ e2 e5,e3,e4,e5⟩
  ·obtain rfl:j=i:=by omega
   obtain ⟨q,c,e1,e2,e3,e4,e5⟩:=hv.form
   have hne:∀ b o,q=some ⟨b,o,none⟩->b≠g:=fun b o e=>by have:=(e5 b o e).1;omega
   exact ⟨q,c,by rw [if_pos rfl];exact e1,kp q _ e2 hne,e3,e4,hne⟩
 ·rw [if_neg (by omega)]
  exact h1.left j (by omega)
theorem TelAt.vss {w:World} {B g n:Nat} {LL:List (List Ver)} {vf:Nat->Value} (h:TelAt w B g n LL n vf) (hl:LL.length=n):Vss w (some ⟨g,0,none⟩) LL:=by
 refine Or.inr ⟨g,0,rfl,h.own.lt.2,fun i hi=>?_⟩
 obtain ⟨q,c,e1,e2,e3,e4,_⟩:=h.done i (by omega)
 refine ⟨q,c,?_,e2,e3,e4⟩
 rw [Nat.zero_add,h.own.cell i (by omega),e1]
theorem pto_cell {w:World} {p:Option Addr} {hp:Nat->Nat} {Ks:List (Option (List Kep))} {i:Nat} {x:Option (List Kep)} (h:Rec ptoE w p (ptL hp Ks)) (hx:Ks[i]?=some x):∃ b o,p=some ⟨b,o,none⟩/\b < w.heap.size/\w.cell? ⟨b,o+i,none⟩=some (.pointer (x.map fun _=>⟨hp i,0,none⟩)):=by
 have hi:i < Ks.length:=(List.getElem?_eq_some_iff.1 hx).1
 rcases h with h | ⟨b,o,hq,hlt,hc⟩
 ·have:=congrArg List.length h
  rw [ptL_length] at this
  simp only [List.length_nil] at this
  omega
 ·refine ⟨b,o,hq,hlt,?_⟩
  have:=hc i _ (ptL_at hx) 0 (.pointer ((x.map fun _=>hp i).map fun b=>⟨b,0,none⟩)) rfl
  rw [show o+i*ptoE.k+0=o+i by show o+i*1+0=o+i;omega] at this
  rw [this]
  cases x <;> rfl
set_option maxRecDepth 10000 in
set_option maxHeartbeats 4000000 in
theorem rptell_any (p:Option Addr) (Ks:List (Option (List Kep))) (hp:Nat->Nat) (cap:Nat) (key:ByteArray) (w:World) (hk:key.size<=maxLen) (hl:Ks.length<=1000) (hr:Rec ptoE w p (ptL hp Ks)) (ho:∀ i L,Ks[i]?=some (some L)->∃ S,HdOf w (hp i) S L false) :
 Calls Tryz.prog 61 #[.string key,.slice p Ks.length cap] w fun e w'=>(∃ g,e=.returned (.slice (some ⟨g,0,none⟩) Ks.length Ks.length)/\Vss w' (some ⟨g,0,none⟩) (tellL key Ks))/\Below w.heap.size w w':=by
 obtain ⟨i1,hi1,hy0,hy1,hy2⟩:=info_parts versinfo
 have hmk:∀ W:World,Sem.run Tryz.prog (Instr.makeSlice 96 (.int .i64 (Ks.length:Int)) (.int .i64 (Ks.length:Int))) W=.ok (.slice (some ⟨W.heap.size,0,none⟩) Ks.length Ks.length) (W.alloc (.cells (madeCells #[.slice none 0 0] Ks.length) 62)):=fun W=>run_make_row (P:=Tryz.prog) 96 62 i1 (.slice none 0 0) Tryz.underlying96 hi1 hy0 hy1 rfl .i64 .i64 Ks.length (by rw [hy2];omega) (by omega) W
 have HCELL:Hid (∀ W i,Below w.heap.size w W->i < Ks.length->∃ b o x,p=some ⟨b,o,none⟩/\W.cell? ⟨b,o+i,none⟩=some (.pointer x)/\(x=none->(tellL key Ks).getD i []=[])/\∀ ad,x=some ad->Calls Tryz.prog 24 #[.pointer (some ad),.string key] W fun e w'=>(∃ v,e=.returned v/\OwnR verE 47 w' W.heap.size v ((tellL key Ks).getD i []))/\Below W.heap.size W w'):=fun W i hW hi=>by
  obtain ⟨x,hx⟩:∃ x,Ks[i]?=some x:=⟨_,List.getElem?_eq_getElem hi⟩
  obtain ⟨b,o,h1,_,h3⟩:=pto_cell (hr.below hW) hx
  rw [tellL_at hx]
  refine ⟨b,o,_,h1,h3,fun e=>?_,fun ad e=>?_⟩
  ·cases x with
   | none=>rfl
   | some L=>cases e
  ·cases x with
   | none=>cases e
   | some L =>
    obtain rfl:=Option.some.inj e
    obtain ⟨S,hd⟩:=ho i L hx
    obtain ⟨m,D,row,blk,hd'⟩:=hd.below hW
    exact getO_any hd' key hk
 have HLL:Hid ((tellL key Ks).length=Ks.length):=tellL_length _ _
 clear hr ho hi1 hy0 hy1 hy2
 generalize tellL key Ks=LL at *
 generalize Ks.length=n at *
 go_enter Tryz.func61,Tryz.ntmps61
 go_wp2
 have hT0:=TelAt.start w n LL (by omega)
 have hB0:Below w.heap.size w (w.alloc (.cells (madeCells #[.slice none 0 0] n) 62)):=(Below.refl _ _).alloc (Nat.le_refl _) _
 generalize w.alloc (.cells (madeCells #[.slice none 0 0] n) 62)=w5 at hT0 hB0 ⊢
 have HT0:Hid (TelAt w5 w.heap.size w.heap.size n LL 0 (fun _=>.slice none 0 0)):=hT0
 have HB0:Hid (Below w.heap.size w w5):=hB0
 clear hT0 hB0 hmk
 go_loopw [13] (fun x wr=>∃ i:Nat,i<=n/\x=.int .i64 i/\(∃ vf,TelAt wr w.heap.size w.heap.size n LL i vf)/\Below w.heap.size w wr) (fun x _=>n - (intOf x).toNat)
 case atStart=>exact ⟨0,by omega,rfl,⟨_,HT0.out⟩,HB0.out⟩
 case round =>
  obtain ⟨i,hi,rfl,⟨vf,hT⟩,hB⟩:=hrel
  obtain ⟨w6,rfl⟩:∃ w6,w6=wr:=⟨_,rfl⟩
  have HT:Hid (TelAt w6 w.heap.size w.heap.size n LL i vf):=hT
  have HB:Hid (Below w.heap.size w w6):=hB
  clear hT hB HT0 HB0
  by_cases hil:i < n
  ·obtain ⟨b,o,x,rfl,hc,hx1,hx2⟩:=HCELL.out w6 i HB.out hil
   cases x with
   | none =>
    have HE:Hid (LL.getD i []=[]):=hx1 rfl
    clear hx1 hx2
    go_wp2
    go_roundw
    case rel=>exact ⟨i+1,by omega,by go_num,⟨_,HT.out.pass HE.out⟩,HB.out⟩
    case measure=>simp [intOf];omega
   | some ad =>
    have HG:=hx2 ad rfl
    clear hx1 hx2
    go_wp2_with fail
    refine HG.mono ?_
    rintro e w7 ⟨⟨v,rfl,hv⟩,hb7⟩
    have hT7:=HT.out.below hb7
    have c7:w7.cell? ⟨w.heap.size,i,none⟩=some (.slice none 0 0):=by rw [hT7.own.cell i hil,hT7.left i (Nat.le_refl _)]
    have f7:w7.frozen? ⟨w.heap.size,i,none⟩=false:=hT7.own.free i
    have HT8:Hid (TelAt (w7.setCell ⟨w.heap.size,i,none⟩ v) w.heap.size w.heap.size n LL (i+1) (fun j=>if j=i then v else vf j)):=HT.out.step hb7 hv
    have HB8:Hid (Below w.heap.size w (w7.setCell ⟨w.heap.size,i,none⟩ v)):=(HB.out.trans (hb7.mono HB.out.size)).setCell (Nat.le_refl _) _
    obtain ⟨q7,c7',rfl,_⟩:=hv.form
    clear hv hb7 hT7 HG hc
    go_wp2
    go_roundw
    case rel=>exact ⟨i+1,by omega,by go_num,⟨_,HT8.out⟩,HB8.out⟩
    case measure=>simp [intOf];omega
  ·obtain rfl:i=n:=by omega
   have HV:Hid (Vss w6 (some ⟨w.heap.size,0,none⟩) LL):=HT.out.vss HLL.out
   go_wp2
   go_ret
   exact ⟨⟨_,rfl,HV.out⟩,HB.out⟩
end Go.Proofs.YtghpdhegfnhmkaaGreatDoor
