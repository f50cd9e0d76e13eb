import Derived.Test.YtghpdhegfnhmkaaGreatDoorS1
import Derived.Test.YtghpdhegfnhmkaaGreatDoorS0
import Derived.Deep.QuietTactic
import Derived.BigQuiet
import Derived.WalkSmall
import Derived.Test.YtghpdhegfnhmkaaGreatDoorRows
import Derived.ProofKit
import Derived.LaidLaws
import Derived.LaidHandle
import Derived.LaidMore
import Derived.Stop.LaidErr
namespace Go.Proofs.YtghpdhegfnhmkaaGreatDoor
open Go.RowKit Go.Extern.Stop Go.Stop Go.Extern
structure Sent (w:World) (ad:Nat->Addr):Prop where
 c0:w.cell? ⟨7,0,none⟩=some (.iface 218 (.pointer (some (ad 0))))
 c1:w.cell? ⟨2,0,none⟩=some (.iface 218 (.pointer (some (ad 1))))
 c2:w.cell? ⟨6,0,none⟩=some (.iface 218 (.pointer (some (ad 2))))
 c3:w.cell? ⟨1,0,none⟩=some (.iface 218 (.pointer (some (ad 3))))
 c4:w.cell? ⟨5,0,none⟩=some (.iface 218 (.pointer (some (ad 4))))
 c5:w.cell? ⟨3,0,none⟩=some (.iface 218 (.pointer (some (ad 5))))
 c6:w.cell? ⟨4,0,none⟩=some (.iface 218 (.pointer (some (ad 6))))
 c7:w.cell? ⟨8,0,none⟩=some (.iface 218 (.pointer (some (ad 7))))
 c8:w.cell? ⟨9,0,none⟩=some (.iface 218 (.pointer (some (ad 8))))
 c9:w.cell? ⟨0,0,none⟩=some (.iface 218 (.pointer (some (ad 9))))
 c10:w.cell? ⟨10,0,none⟩=some (.iface 218 (.pointer (some (ad 10))))
 c11:w.cell? ⟨11,0,none⟩=some (.iface 218 (.pointer (some (ad 11))))
 typ:w.cell? ⟨12,0,none⟩=some (.iface 174 (.agg #[.pointer (some ⟨14,40,none⟩)]))
 row:∀ i,i < 12->∃ c t,w.heap[(ad i).block]?=some (.cells c t (0,0))
 ne:∀ i j,i < 12->j < 12->i≠j->ad i≠ad j
theorem lt_of_cell {w:World} {b o:Nat} {v:Value} (h:w.cell? ⟨b,o,none⟩=some v):b < w.heap.size:=by
 rcases Nat.lt_or_ge b w.heap.size with h' | h'
 ·exact h'
 ·simp [World.cell?,Array.getElem?_eq_none h'] at h
theorem lt_of_row {w:World} {b:Nat} {o:Obj} (h:w.heap[b]?=some o):b < w.heap.size:=by
 rcases Nat.lt_or_ge b w.heap.size with h' | h'
 ·exact h'
 ·rw [Array.getElem?_eq_none h'] at h;cases h
theorem Sent.below {w w':World} {ad:Nat->Addr} (h:Sent w ad) (hb:Below w.heap.size w w'):Sent w' ad where
 c0:=(hb.cell (lt_of_cell h.c0)).trans h.c0
 c1:=(hb.cell (lt_of_cell h.c1)).trans h.c1
 c2:=(hb.cell (lt_of_cell h.c2)).trans h.c2
 c3:=(hb.cell (lt_of_cell h.c3)).trans h.c3
 c4:=(hb.cell (lt_of_cell h.c4)).trans h.c4
 c5:=(hb.cell (lt_of_cell h.c5)).trans h.c5
 c6:=(hb.cell (lt_of_cell h.c6)).trans h.c6
 c7:=(hb.cell (lt_of_cell h.c7)).trans h.c7
 c8:=(hb.cell (lt_of_cell h.c8)).trans h.c8
 c9:=(hb.cell (lt_of_cell h.c9)).trans h.c9
 c10:=(hb.cell (lt_of_cell h.c10)).trans h.c10
 c11:=(hb.cell (lt_of_cell h.c11)).trans h.c11
 typ:=(hb.cell (lt_of_cell h.typ)).trans h.typ
 row:=fun i hi=>by
  obtain ⟨c,t,hc⟩:=h.row i hi
  exact ⟨c,t,(hb.block _ (lt_of_row hc)).trans hc⟩
 ne:=h.ne
theorem code_nil (w:World):Calls Tryz.prog 41 #[.nilIface] w fun e w'=>e=.returned (.tuple #[.int .i64 0,.int .i64 (-1)])/\w'=w:=by
 go_enter Tryz.func41,Tryz.ntmps41
 go_wp2
 go_ret2
 exact ⟨rfl,rfl⟩
def sentRow (ad:Nat->Addr):Array Value:=#[.iface 218 (.pointer (some (ad 0))),.iface 218 (.pointer (some (ad 1))),.iface 218 (.pointer (some (ad 2))),.iface 218 (.pointer (some (ad 3))),.iface 218 (.pointer (some (ad 4))),.iface 218 (.pointer (some (ad 5))),.iface 218 (.pointer (some (ad 6))),.iface 218 (.pointer (some (ad 7))),.iface 218 (.pointer (some (ad 8))),.iface 218 (.pointer (some (ad 9))),.iface 218 (.pointer (some (ad 10))),.iface 218 (.pointer (some (ad 11)))]
theorem sentRow_cell (ad:Nat->Addr) (w:World):∀ k,k < 12->(w.alloc (.cells (sentRow ad) 40)).cell? ⟨w.heap.size,k,none⟩=some (.iface 218 (.pointer (some (ad k)))):=by
 intro k hk
 have e:(sentRow ad)[k]?=some (.iface 218 (.pointer (some (ad k)))):=by
  match k,hk with
  | 0,_ | 1,_ | 2,_ | 3,_ | 4,_ | 5,_ | 6,_ | 7,_ | 8,_ | 9,_ | 10,_ | 11,_=>rfl
 rw [World.cell?_alloc_at _ _ _ _ (by simp)]
 exact e
set_option maxRecDepth 10000 in
set_option maxHeartbeats 4000000 in
theorem code_sent (ad:Nat->Addr) (i:Nat) (hi:i < 12) (w:World) (hS:Sent w ad) :
 Calls Tryz.prog 41 #[.iface 218 (.pointer (some (ad i)))] w fun e w'=>e=.returned (.tuple #[.int .i64 ((i+1:Nat):Int),.int .i64 (-1)])/\Below w.heap.size w w':=by
 have hb1:Below w.heap.size w (w.alloc (.cells #[.pointer none] 121)):=(Below.refl _ _).alloc (Nat.le_refl _) _
 have hS1:=hS.below hb1
 go_enter Tryz.func41,Tryz.ntmps41
 go_wp2_with fail
 refine (as_miss _ _ _ hS1.typ).mono ?_
 rintro e w2 ⟨rfl,hb2⟩
 have hS2:=hS1.below hb2
 have hS2':=hS2
 obtain ⟨c0,c1,c2,c3,c4,c5,c6,c7,c8,c9,c10,c11,_,_,_⟩:=hS2'
 go_wp2
 clear c0 c1 c2 c3 c4 c5 c6 c7 c8 c9 c10 c11 hb1 hS1 hS
 have hb3:Below w2.heap.size w2 (w2.alloc (.cells (sentRow ad) 40)):=(Below.refl _ _).alloc (Nat.le_refl _) _
 have hS3:=hS2.below hb3
 have hrow:=sentRow_cell ad w2
 have hb4:Hid (Below w.heap.size w (w2.alloc (.cells (sentRow ad) 40))):=(((Below.refl _ _).alloc (Nat.le_refl _) _).trans (hb2.mono (by simp))).trans (hb3.mono (by have:=hb2.size;simp at this;omega))
 have e3:(w2.alloc (.cells (sentRow ad) 40)).heap.size=w2.heap.size+1:=by simp
 unfold sentRow at hS3 hrow hb4
 generalize w2.alloc (.cells _ 40)=w3 at hS3 hrow hb4 ⊢
 clear hb2 hb3 hS2 e3
 go_loop [3,30] (fun y x=>y=.int .i64 (-1)/\∃ k:Nat,k<=i/\x=.int .i64 k) (fun _ x=>12 - (intOf x).toNat)
 case atStart=>exact ⟨rfl,0,by omega,rfl⟩
 case round =>
  obtain ⟨rfl,k,hk,rfl⟩:=hrel
  have hk12:k < 12:=by omega
  have hc:=hrow k hk12
  obtain ⟨ca,ta,hra⟩:=hS3.row i hi
  obtain ⟨cb,tb,hrb⟩:=hS3.row k hk12
  clear hrow
  by_cases hki:k=i
  ·subst hki
   go_wp2_with (go_at_call 65;refine (is_same (ad k) _).mono ?_;rintro e w' ⟨rfl,rfl⟩)
   go_ret2
   exact ⟨by simp,hb4.out⟩
  ·have hne:=hS3.ne i k hi hk12 (fun h=>hki h.symm)
   have HN:Hid (ad i≠ad k):=hne
   have HA:Hid (w3.heap[(ad i).block]?=some (.cells ca ta (0,0))):=hra
   have HB:Hid (w3.heap[(ad k).block]?=some (.cells cb tb (0,0))):=hrb
   clear hne hra hrb
   go_wp2_with (go_at_call 65;refine (is_other (ad i) (ad k) ca cb ta tb _ HN.out HA.out HB.out).mono ?_;rintro e w' ⟨rfl,rfl⟩)
   go_round
   case rel=>exact ⟨rfl,k+1,by omega,by go_num⟩
   case measure=>simp [intOf];omega
end Go.Proofs.YtghpdhegfnhmkaaGreatDoor
namespace Go.Proofs.YtghpdhegfnhmkaaGreatDoor
open Go.RowKit Go.Extern.Stop Go.Stop Go.Extern
end Go.Proofs.YtghpdhegfnhmkaaGreatDoor
namespace Go.Proofs.YtghpdhegfnhmkaaGreatDoor
open Go.RowKit Go.Extern.Stop Go.Stop Go.Extern
end Go.Proofs.YtghpdhegfnhmkaaGreatDoor
namespace Go.Proofs.YtghpdhegfnhmkaaGreatDoor
open Go.RowKit Go.Extern.Stop Go.Stop Go.Extern
end Go.Proofs.YtghpdhegfnhmkaaGreatDoor
namespace Go.Proofs.YtghpdhegfnhmkaaGreatDoor
open Go.RowKit Go.Extern.Stop Go.Stop Go.Extern
end Go.Proofs.YtghpdhegfnhmkaaGreatDoor
namespace Go.Proofs.YtghpdhegfnhmkaaGreatDoor
open Go.RowKit
theorem Sent.keepBlocks {W V:World} {ad:Nat->Addr} (h:Sent W ad) (hk:∀ k,k < W.heap.size->V.heap[k]?=W.heap[k]?):Sent V ad where
 c0:=(World.cell?_of_block (w:=W) (w':=V) (hk _ (lt_of_cell h.c0))).trans h.c0
 c1:=(World.cell?_of_block (w:=W) (w':=V) (hk _ (lt_of_cell h.c1))).trans h.c1
 c2:=(World.cell?_of_block (w:=W) (w':=V) (hk _ (lt_of_cell h.c2))).trans h.c2
 c3:=(World.cell?_of_block (w:=W) (w':=V) (hk _ (lt_of_cell h.c3))).trans h.c3
 c4:=(World.cell?_of_block (w:=W) (w':=V) (hk _ (lt_of_cell h.c4))).trans h.c4
 c5:=(World.cell?_of_block (w:=W) (w':=V) (hk _ (lt_of_cell h.c5))).trans h.c5
 c6:=(World.cell?_of_block (w:=W) (w':=V) (hk _ (lt_of_cell h.c6))).trans h.c6
 c7:=(World.cell?_of_block (w:=W) (w':=V) (hk _ (lt_of_cell h.c7))).trans h.c7
 c8:=(World.cell?_of_block (w:=W) (w':=V) (hk _ (lt_of_cell h.c8))).trans h.c8
 c9:=(World.cell?_of_block (w:=W) (w':=V) (hk _ (lt_of_cell h.c9))).trans h.c9
 c10:=(World.cell?_of_block (w:=W) (w':=V) (hk _ (lt_of_cell h.c10))).trans h.c10
 c11:=(World.cell?_of_block (w:=W) (w':=V) (hk _ (lt_of_cell h.c11))).trans h.c11
 typ:=(World.cell?_of_block (w:=W) (w':=V) (hk _ (lt_of_cell h.typ))).trans h.typ
 row:=fun i hi=>by
  obtain ⟨c,t,hc⟩:=h.row i hi
  exact ⟨c,t,(hk _ (lt_of_row hc)).trans hc⟩
 ne:=h.ne
end Go.Proofs.YtghpdhegfnhmkaaGreatDoor
namespace Go.Proofs.YtghpdhegfnhmkaaGreatDoor
open Go.ChangeShapes Go.WideShapes Go.RowKit
def L12:List (String×List UInt8):=(Rows.repairAllRow.laid.drop (0+1)).map fun x=>(x.1,match x.2 with | .iface _ (.ptr (.agg [.lit (.string t)]))=>t | _=>[])
theorem laid_split (W:World):laidMetH Tryz.prog Rows.repairAllRow.laid W=(laidMet Tryz.prog (Rows.repairAllRow.laid.take 0 ++ L12.map fun x=>(x.1,errD x.2)) W/\handlesMet Tryz.prog ((Rows.repairAllRow.laid.drop 0).take 1) W):=by kernel_rfl
theorem L12_named:(L12.all fun x=>match Tryz.prog.globalNamed x.1 with | some g=>(Tryz.prog.globals[g]?).map (·.type)==some 40 | none=>false)=true:=by kernel_rfl
theorem g12:L12.map (fun x=>Tryz.prog.globalNamed x.1)=[some 7,some 2,some 6,some 1,some 5,some 3,some 4,some 8,some 9,some 0,some 10,some 11]:=by kernel_rfl
theorem etNamed:Tryz.prog.globalNamed "errors.errorType"=some 12:=by kernel_rfl
theorem errOneRow:((List.range 250).filter fun t=>Tryz.prog.rowNamed t [101,114,114,111,114])=[40]:=by kernel_rfl
theorem typesSize:Tryz.prog.types.size=250:=by kernel_rfl
theorem sent_of_laid {W:World} (h:laidMetH Tryz.prog Rows.repairAllRow.laid W):∃ ad,Sent W ad:=by
 rw [laid_split] at h
 obtain ⟨⟨ps0,hl0,hnd0,hr0⟩,hH⟩:=h
 obtain ⟨pp,ps,rfl,hl⟩:=laid_peel _ _ _ hl0
 have hnd:ps.Nodup:=List.Nodup.sublist (List.sublist_append_right _ _) hnd0
 have hr:=fun b off (hm:MemPlace.cell b off ∈ ps)=>hr0 b off (List.mem_append_right _ hm)
 clear hl0 hnd0 hr0
 have hn:∀ x ∈ L12,∃ g,Tryz.prog.globalNamed x.1=some g/\(Tryz.prog.globals[g]?).map (·.type)=some 40:=by
  intro x hx
  have:=List.all_eq_true.1 L12_named x hx
  split at this
  ·rename_i g hg
   exact ⟨g,hg,by simpa using this⟩
  ·cases this
 have c57:Tryz.prog.cellsOf 238=1:=by kernel_rfl
 have c9:Tryz.prog.cellsOf 9=1:=by kernel_rfl
 obtain ⟨ad,h1,h2⟩:=sents Tryz.underlying40 row_es Tryz.underlying218 Tryz.underlying238 rfl rfl Tryz.underlying9 c57 c9 L12 ps hl hn hr
 have cell:∀ i g x,L12[i]?=some x->Tryz.prog.globalNamed x.1=some g->W.cell? ⟨g,0,none⟩=some (.iface 218 (.pointer (some (ad i)))):=by
  intro i g x hx hg
  simpa using World.var?_cell hg (h1 i x hx).2 0
 have cellg:∀ i g,(L12.map (fun x=>Tryz.prog.globalNamed x.1))[i]?=some (some g)->W.cell? ⟨g,0,none⟩=some (.iface 218 (.pointer (some (ad i)))):=by
  intro i g hx
  rw [List.getElem?_map] at hx
  obtain ⟨x,hx1,hx2⟩:=Option.map_eq_some_iff.1 hx
  exact cell i g x hx1 hx2
 rw [g12] at cellg
 have len:L12.length=12:=rfl
 refine ⟨ad,cellg 0 _ rfl,cellg 1 _ rfl,cellg 2 _ rfl,cellg 3 _ rfl,cellg 4 _ rfl,cellg 5 _ rfl,cellg 6 _ rfl,cellg 7 _ rfl,cellg 8 _ rfl,cellg 9 _ rfl,cellg 10 _ rfl,cellg 11 _ rfl,?_,?_,fun i j hi hj=>h2 hnd i j (by rw [len];exact hi) (by rw [len];exact hj)⟩
 ·obtain ⟨name,u,ty,e1,e2,e3,e4,e5⟩:=hH _ (List.mem_singleton.2 rfl)
  have en:name=[101,114,114,111,114]:=(Option.some.inj e1).symm
  subst en
  obtain rfl:174=u:=Option.some.inj ((show _=some 174 by kernel_rfl).symm.trans e2)
  have hm:ty ∈ (List.range 250).filter fun t=>Tryz.prog.rowNamed t [101,114,114,111,114]:=List.mem_filter.2 ⟨List.mem_range.2 (by rw [<- typesSize];exact e3),e4⟩
  rw [errOneRow] at hm
  obtain rfl:=List.mem_singleton.1 hm
  have hh:typeHandle Tryz.prog 40=.pointer (some ⟨14,40,none⟩):=by kernel_rfl
  rw [hh] at e5
  simpa using World.var?_cell etNamed e5 0
 ·intro i hi
  obtain ⟨x,hx⟩:∃ x,L12[i]?=some x:=⟨L12[i]'(by rw [len];exact hi),List.getElem?_eq_getElem (by rw [len];exact hi)⟩
  exact (hr _ _ (h1 i x hx).1).1
theorem own:ownKnob Tryz.prog.godebug=none:=by kernel_rfl
end Go.Proofs.YtghpdhegfnhmkaaGreatDoor
