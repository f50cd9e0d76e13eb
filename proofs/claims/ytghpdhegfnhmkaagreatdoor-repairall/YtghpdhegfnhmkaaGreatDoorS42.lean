import Derived.Test.YtghpdhegfnhmkaaGreatDoorS41
namespace Go.Proofs.YtghpdhegfnhmkaaGreatDoor
open Go.RowKit
set_option maxRecDepth 10000 in
set_option maxHeartbeats 2000000 in
theorem mended_any (ad:Nat->Addr) (z:Addr) (w:World) (hE:ErrsQ w ad) (hZ:w.cell? ⟨11,0,none⟩=some (.iface 218 (.pointer (some z)))) :
 Calls Tryz.prog 5 #[] w fun e w'=>e=.returned (.bool true)/\Below w.heap.size w w':=by
 obtain ⟨w1,hw1⟩:∃ w1,w1=w.alloc (.cells #[.string ⟨#[97]⟩] 9):=⟨_,rfl⟩
 obtain ⟨w2,hw2⟩:∃ w2,w2=w1.alloc (.cells #[.int .i64 1,.int .i64 1,.slice (some ⟨w.heap.size,0,none⟩) 1 1] 24):=⟨_,rfl⟩
 obtain ⟨w3,hw3⟩:∃ w3,w3=w2.alloc (.cells #[.pointer none] 35):=⟨_,rfl⟩
 have e1:w1.heap.size=w.heap.size+1:=by rw [hw1];simp
 have e2:w2.heap.size=w.heap.size+1+1:=by rw [hw2,<- e1];simp
 have hb1:Below w.heap.size w w1:=by rw [hw1];exact (Below.refl _ _).alloc (Nat.le_refl _) _
 have hb2:Below w1.heap.size w1 w2:=by rw [hw2];exact (Below.refl _ _).alloc (Nat.le_refl _) _
 have hb3:Below w2.heap.size w2 w3:=by rw [hw3];exact (Below.refl _ _).alloc (Nat.le_refl _) _
 have hb:Below w.heap.size w w3:=(hb1.trans (hb2.mono hb1.size)).trans (hb3.mono (Nat.le_trans hb1.size hb2.size))
 have c1:w1.cell? ⟨w.heap.size,0,none⟩=some (.string ⟨#[97]⟩):=by rw [hw1,World.cell?_alloc_at _ _ _ _ rfl];rfl
 have c3:=(hb3.cell (p:=⟨w.heap.size,0,none⟩) (by show w.heap.size < _;omega)).trans ((hb2.cell (p:=⟨w.heap.size,0,none⟩) (by show w.heap.size < _;omega)).trans c1)
 have d3:w3.cell? ⟨w.heap.size+1+1,0,none⟩=some (.pointer none):=by rw [hw3,World.cell?_alloc_at _ _ _ _ e2.symm];rfl
 have hlt3:w.heap.size+1+1 < w3.heap.size:=by rw [hw3];simp;omega
 have hI:LookIn w3 ad z ⟨1,1,[⟨#[97]⟩]⟩ (some ⟨w.heap.size,0,none⟩) 1 [none] (fun _=>0) (some ⟨w.heap.size+1+1,0,none⟩):=by
  refine ⟨⟨Or.inr ⟨w.heap.size,0,rfl,by omega,fun i hi=>?_⟩,Nat.le_refl _,(fun e=>by cases e),by decide,fun x hx=>?_,⟨⟨by decide,by decide⟩,by decide,by decide⟩⟩,Or.inr ⟨w.heap.size+1+1,0,rfl,hlt3,fun i x hi j u hu=>?_⟩,fun i L hi=>?_,hE.below hb,(hb.cell (p:=⟨11,0,none⟩) (lt_of_cellE hZ)).trans hZ⟩
  ·obtain rfl:i=0:=by simp at hi;omega
   exact c3
  ·simp at hx;subst hx;decide
  ·cases i with
   | zero =>
    have hx:x=none:=by
     have:(ptL (fun _=>0) [none])[0]?=some none:=rfl
     rw [this] at hi
     exact (Option.some.inj hi).symm
    subst hx
    cases j with
    | zero =>
     have hu':(Value.pointer none)=u:=by simpa [ptoE] using hu
     rw [<- hu']
     exact d3
    | succ j=>simp [ptoE] at hu
   | succ i=>simp [ptL] at hi
  ·cases i with
   | zero=>simp at hi
   | succ i=>simp at hi
 have hm:=missing_any ad z ⟨1,1,[⟨#[97]⟩]⟩ (some ⟨w.heap.size,0,none⟩) 1 ⟨#[107]⟩ [none] (fun _=>0) (some ⟨w.heap.size+1+1,0,none⟩) 1 w3 (by decide) hI
 have h1:lookE ⟨1,1,[⟨#[97]⟩]⟩ ([none]:List (Option (List Kep))).length=(0,-1):=by unfold lookE;rw [one_cfg];rfl
 have h2:lookW ⟨1,1,[⟨#[97]⟩]⟩ (tellL ⟨#[107]⟩ [none])=[]:=by
  rw [lookW_fine (by rw [tellL_length,h1];decide)]
  rfl
 rw [h1,h2] at hm
 have HM:Hid (Calls Tryz.prog 17 #[.agg #[.int .i64 1,.int .i64 1,.slice (some ⟨w.heap.size,0,none⟩) 1 1],.string ⟨#[107]⟩,.slice (some ⟨w.heap.size+1+1,0,none⟩) 1 1] w3 fun e w'=>(∃ q d,e=.returned (.tuple #[.slice q 0 d,.nilIface]))/\Below w3.heap.size w3 w'):=by
  refine hm.mono fun e w' hq=>?_
  obtain ⟨⟨ev,q,d,g1,_,g3⟩,g4⟩:=hq
  obtain rfl:=ErrIs.isNil g3
  exact ⟨⟨q,d,g1⟩,g4⟩
 have HW:Hid (w3=((w.alloc (.cells #[.string ⟨#[97]⟩] 9)).alloc (.cells #[.int .i64 1,.int .i64 1,.slice (some ⟨w.heap.size,0,none⟩) 1 1] 24)).alloc (.cells #[.pointer none] 35)):=by show _=_;rw [hw3,hw2,hw1]
 have HB:Hid (Below w.heap.size w w3):=hb
 clear hw1 hw2 hw3 e1 e2 hb1 hb2 hb3 hb c1 c3 d3 hlt3 hI hm h1 h2 hE hZ
 go_enter Tryz.func5,Tryz.ntmps5
 go_wp2_with fail
 rw [<- HW.out]
 refine HM.out.mono ?_
 rintro e w4 ⟨⟨q,d,rfl⟩,hb4⟩
 have HB4:Hid (Below w.heap.size w w4):=HB.out.trans (hb4.mono HB.out.size)
 clear hb4 HM HW
 go_wp2
 go_ret
 exact ⟨rfl,HB4.out⟩
end Go.Proofs.YtghpdhegfnhmkaaGreatDoor
