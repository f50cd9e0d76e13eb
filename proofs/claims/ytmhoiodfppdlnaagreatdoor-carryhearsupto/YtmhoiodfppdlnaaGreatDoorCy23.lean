import Derived.Test.YtmhoiodfppdlnaaGreatDoorCy22
import Derived.Test.YtmhoiodfppdlnaaGreatDoorCy13
import Derived.StillTailTactics
import Derived.Deep.RegionHeld3
import Derived.Deep.CutRange
namespace Go.Proofs.YtmhoiodfppdlnaaGreatDoor
open Go.RowKit
set_option maxRecDepth 10000 in
set_option maxHeartbeats 4000000 in
theorem keep1_any (ob sb g n i:Nat) (t1 t2:Int) (tx et:ByteArray) (c:Nat) (w:World) (hi:i < n) (s0:w.cell? ⟨sb,0,none⟩=some (.slice (some ⟨g,0,none⟩) n c))
 (h12:w.cell? ⟨ob,0,none⟩=some (.int .i64 t1)) (h13:w.cell? ⟨ob,1,none⟩=some (.int .i64 t2)) (h14:w.cell? ⟨ob,2,none⟩=some (.string tx)) (g0:w.cell? ⟨g,i*2,none⟩=some (.int .i64 (i:Int))) (g1:w.cell? ⟨g,i*2+1,none⟩=some (.string et)) :
 Calls Tryz.prog 125 (#[.int .i64 (i:Int)] ++ #[.pointer (some ⟨ob,0,none⟩),.pointer (some ⟨sb,0,none⟩)]) w fun e w'=>e=.returned (.slice (some ⟨w.heap.size,0,none⟩) 1 1)/\∃ m,w'=(w.drewN m).alloc (.cells #[.int .i64 t1,.int .i64 t2,.int .i64 (tx.size:Int),.int .i64 (i:Int),.string et] 76):=by
 show Calls Tryz.prog 125 #[.int .i64 (i:Int),.pointer (some ⟨ob,0,none⟩),.pointer (some ⟨sb,0,none⟩)] w _
 go_enter Tryz.func125,Tryz.ntmps125
 go_wp2
 refine wp_region_still_tail 10 (by kernel_rfl) (by kernel_rfl) ?_
 simp only [List.take_succ_cons,List.take_zero,List.drop_succ_cons,List.drop_zero]
 still_step
 still_step
 still_step
 still_step
 still_step
 still_step
 still_step
 still_step
 still_step
 still_step
 refine wpStill_nil ?_
 go_wp2
 go_ret
 exact ⟨rfl,1,rfl⟩
set_option maxRecDepth 10000 in
set_option maxHeartbeats 8000000 in
theorem pkeep_any {X:TypeId} {w:World} {B h:Nat} {S S0:Nat->Prop} {a:MAsk} {P F T:Plc} {asks:ByteArray} {cv:Value} {aw:ByteArray} {m:Option Nat} {D:DataW Value} {row:ByteArray->Value} (hp:PEr X w B h S S0 a P F T asks cv aw m D row) (hst:a.st=.keeping) (z:Addr) (hZ:w.cell? ⟨11,0,none⟩=some (.iface 252 (.pointer (some z)))):Calls Tryz.prog 97 #[.pointer (some ⟨h,0,none⟩)] w fun e w'=>(∃ p c,e=.returned (.slice p (a.send wKeep true).length c)/\MsgsN w.heap.size w' p (a.send wKeep true))/\Below w.heap.size w w':=by
 obtain ⟨_,hTc,hTn⟩:=hp.plc.pl2 hst
 obtain ⟨n,k,hcn,hck,hk1,hkn,hn12,hL,hsz⟩:=cfg_fine_all hp.fine.cfg
 obtain ⟨p,cp,hmv,hmst,_,_,_⟩:=hp.stat.to_.mem
 rw [hTc] at hmv hmst
 rw [hL] at hmv
 have hobj:a.obj=(a.tag.1,a.tag.2,a.text,true):=if_pos ⟨Or.inl hst,hp.fine.keep hst⟩
 have hck':a.c.k.toNat=k:=by rw [hck];rfl
 have hse:a.send wKeep true=(List.range n).map fun i=>(⟨a.name,txt a.c.L i,wKeep,a.key,a.op,a.config,false,[⟨a.tag.1,a.tag.2,(a.text.size:Int),(i:Int),encT k a.text i⟩]⟩:Msg):=by
  unfold MAsk.send MAsk.ver
  rw [hL,hck']
  rfl
 have hlen:(a.send wKeep true).length=n:=by rw [hse];simp
 obtain ⟨w1,hw1⟩:∃ w1,w1=w.alloc (.cells #[.int .i64 a.tag.1,.int .i64 a.tag.2,.string a.text,.bool true] 80):=⟨_,rfl⟩
 have hb1:Below w.heap.size w w1:=by rw [hw1];exact (Below.refl _ _).alloc (Nat.le_refl _) _
 have hz1:w1.heap.size=w.heap.size+1:=by rw [hw1];simp
 have hP1:=hp.below hb1
 have b0:w1.heap[w.heap.size]?=some (.cells #[.int .i64 a.tag.1,.int .i64 a.tag.2,.string a.text,.bool true] 80 (0,0)):=by
  rw [hw1]
  show (w.heap.push _)[w.heap.size]?=_
  simp
 have htx:a.text.size<=1000:=hp.fine.text
 obtain ⟨tx,htxe⟩:∃ tx,tx=a.text:=⟨_,rfl⟩
 rw [<- htxe] at htx
 have HS:Hid (∀ W:World,Below w1.heap.size w1 W->(W.cell? ⟨h,14,none⟩=some (.int .i64 (n:Int))/\W.cell? ⟨h,15,none⟩=some (.int .i64 (k:Int))/\W.cell? ⟨w.heap.size,2,none⟩=some (.string tx)/\Below w1.heap.size w1 W)):=fun W hW=>by
  have hq:=hP1.below hW
  have hq0:=(hW.block w.heap.size (by omega)).trans b0
  refine ⟨?_,?_,?_,hW⟩
  ·rw [hq.cell 14,<- hcn,<- hTc];rfl
  ·rw [hq.cell 15,<- hck,<- hTc];rfl
  ·rw [htxe];simp [World.cell?,hq0]
 have HEN:Hid (∀ W:World,(W.cell? ⟨h,14,none⟩=some (.int .i64 (n:Int))/\W.cell? ⟨h,15,none⟩=some (.int .i64 (k:Int))/\W.cell? ⟨w.heap.size,2,none⟩=some (.string tx)/\Below w1.heap.size w1 W)->Calls Tryz.prog 124 #[.int .i64 (n:Int),.int .i64 (k:Int),.string tx] W fun e w'=>∃ g,e=.returned (.tuple #[.slice (some ⟨g,0,none⟩) n n,.nilIface])/\Hid (W.heap.size<=g/\ShRow w' g n (encS k tx))/\Hid (Below W.heap.size W w')/\(w'.cell? ⟨h,14,none⟩=some (.int .i64 (n:Int))/\w'.cell? ⟨h,15,none⟩=some (.int .i64 (k:Int))/\w'.cell? ⟨w.heap.size,2,none⟩=some (.string tx)/\Below w1.heap.size w1 w')):=fun W hW=>(encode_ok n k tx z W hk1 hkn hn12 htx ((hb1.trans (hW.2.2.2.mono hb1.size)).cell (p:=⟨11,0,none⟩) (lt_cellE hZ) |>.trans hZ)).mono fun e w' hq=>by
  obtain ⟨⟨g,h1,h2,h3⟩,h4⟩:=hq
  exact ⟨g,h2,⟨h1,h3⟩,h4,HS.out w' (hW.2.2.2.trans (h4.mono hW.2.2.2.size))⟩
 have HS0:=HS.out w1.drew (Below.refl _ _).drew
 have HW1:Hid (w1=w.alloc (.cells #[.int .i64 a.tag.1,.int .i64 a.tag.2,.string a.text,.bool true] 80)):=hw1
 have HSA:=HS.out (w1.alloc (.cells #[.slice none 0 0] 123)).drew (((Below.refl _ _).alloc (Nat.le_refl _) _).drew)
 have HENA:Hid (Calls Tryz.prog 124 #[.int .i64 (n:Int),.int .i64 (k:Int),.string tx] w1.drew fun e w'=>∃ g,e=.returned (.tuple #[.slice (some ⟨g,0,none⟩) n n,.nilIface])/\Hid (ShRow w' g n (encS k tx))/\(w'.cell? ⟨h,14,none⟩=some (.int .i64 (n:Int))/\w'.cell? ⟨h,15,none⟩=some (.int .i64 (k:Int))/\w'.cell? ⟨w.heap.size,2,none⟩=some (.string tx)/\Below w1.heap.size w1 w')):=(HEN.out w1.drew HS0).mono fun e w' hq=>by
  obtain ⟨g,h1,h2,h3,h4⟩:=hq
  exact ⟨g,h1,h2.out.2,h4⟩
 have HENB:Hid (Calls Tryz.prog 124 #[.int .i64 (n:Int),.int .i64 (k:Int),.string tx] (w1.alloc (.cells #[.slice none 0 0] 123)).drew fun e w'=>∃ g,e=.returned (.tuple #[.slice (some ⟨g,0,none⟩) n n,.nilIface])/\Hid (ShRow w' g n (encS k tx)/\g≠w1.heap.size)/\(w'.cell? ⟨h,14,none⟩=some (.int .i64 (n:Int))/\w'.cell? ⟨h,15,none⟩=some (.int .i64 (k:Int))/\w'.cell? ⟨w.heap.size,2,none⟩=some (.string tx)/\Below w1.heap.size w1 w')/\w'.cell? ⟨w1.heap.size,0,none⟩=some (.slice none 0 0)/\w'.frozen? ⟨w1.heap.size,0,none⟩=false):=(HEN.out _ HSA).mono fun e w' hq=>by
  obtain ⟨g,h1,h2,h3,h4⟩:=hq
  have hlt:w1.heap.size < (w1.alloc (.cells #[.slice none 0 0] 123)).drew.heap.size:=by show w1.heap.size < (w1.alloc _).heap.size;simp
  refine ⟨g,h1,⟨h2.out.2,by have:=h2.out.1;omega⟩,h4,(h3.out.cell (p:=⟨w1.heap.size,0,none⟩) hlt).trans ?_,(h3.out.frozen (p:=⟨w1.heap.size,0,none⟩) hlt).trans ?_⟩
  ·show (w1.alloc _).cell? _=_
   rw [World.cell?_alloc_at _ _ _ _ rfl]
   rfl
  ·show (w1.alloc _).frozen? _=_
   exact World.frozen?_alloc_at _ _ _ _ rfl
 have HSD:Hid (∀ W:World,Below w1.heap.size w1 W->∀ sb g,W.cell? ⟨sb,0,none⟩=some (.slice (some ⟨g,0,none⟩) n n)->ShRow W g n (encS k tx)->Calls Tryz.prog 63 #[.pointer (some ⟨h,0,none⟩),.agg #[.int .i64 T.c.n,.int .i64 T.c.k,.slice p n cp,.int .i64 T.num],.string ⟨#[107,101,101,112]⟩,.func (.func 125) #[] #[.pointer (some ⟨w.heap.size,0,none⟩),.pointer (some ⟨sb,0,none⟩)]] W fun e w'=>(∃ p c,e=.returned (.slice p n c)/\MsgsN w.heap.size w' p (a.send wKeep true))/\Below w.heap.size w w'/\Below w1.heap.size w1 w'):=fun W hW sb g hsb hrow=>by
  have hq:=hP1.below hW
  refine (psend_any h n a.name a.key wKeep a.op T.c.n T.c.k T.num a.c.L p cp 125 _ (fun i=>(⟨a.name,txt a.c.L i,wKeep,a.key,a.op,a.config,false,[⟨a.tag.1,a.tag.2,(a.text.size:Int),(i:Int),encT k a.text i⟩]⟩:Msg)) W (hq.cell 0) (hq.cell 1) (hq.cell 2) hL ((hmst.below hb1).below hW) (by omega) (by have:=hp.fine.name;omega) (by have:=hp.fine.key;omega) (fun x hx=>by have:=hsz x hx;omega) (fun i _=>⟨rfl,rfl,rfl,rfl,rfl,hTn.symm,rfl⟩) (fun args W=>by kernel_rfl) (fun i hi W2 hW2=>?_)).mono fun e w' hq2=>⟨by rw [hse];obtain ⟨⟨p,c,e1,e2⟩,_⟩:=hq2;exact ⟨p,c,e1,e2.mono (Nat.le_trans hb1.size hW.size)⟩,hb1.trans ((hW.trans (hq2.2.mono hW.size)).mono hb1.size),hW.trans (hq2.2.mono hW.size)⟩
  have hrow2:=hrow.below hW2
  have hq0:=((hW.trans (hW2.mono hW.size)).block w.heap.size (by omega)).trans b0
  have c12:W2.cell? ⟨w.heap.size,0,none⟩=some (.int .i64 a.tag.1):=by simp [World.cell?,hq0]
  have c13:W2.cell? ⟨w.heap.size,1,none⟩=some (.int .i64 a.tag.2):=by simp [World.cell?,hq0]
  have c14:W2.cell? ⟨w.heap.size,2,none⟩=some (.string a.text):=by simp [World.cell?,hq0]
  have r0:W2.cell? ⟨g,i*2,none⟩=some (.int .i64 (i:Int)):=hrow2.at_ hi
  have r1:W2.cell? ⟨g,i*2+1,none⟩=some (.string (encT k a.text i)):=by rw [<- htxe];exact hrow2.text hi
  refine (keep1_any w.heap.size sb g n i a.tag.1 a.tag.2 a.text (encT k a.text i) n W2 hi ((hW2.cell (p:=⟨sb,0,none⟩) (lt_cellE hsb)).trans hsb) c12 c13 c14 r0 r1).mono fun e w' hq3=>?_
  obtain ⟨he,mm,hw'⟩:=hq3
  have hbw:Below W2.heap.size W2 w':=by rw [hw'];exact (below_drewN (Below.refl _ _) mm).alloc (Nat.le_refl _) _
  refine ⟨⟨(some ⟨W2.heap.size,0,none⟩,1,1),he,⟨rfl,Or.inr ⟨W2.heap.size,0,rfl,by rw [hw'];simp,fun j x hx jj u hu=>?_⟩,Nat.le_refl _,(fun e=>by cases e)⟩,fun b o e=>?_⟩,hbw⟩
  ·match j,hx with
   | 0,hx =>
    obtain rfl:(⟨a.tag.1,a.tag.2,(a.text.size:Int),(i:Int),encT k a.text i⟩:Ver)=x:=by simpa using hx
    have e0:0+0*verE.k+jj=jj:=by simp
    rw [e0,hw',World.cell?_alloc_at (w:=W2.drewN mm) _ _ W2.heap.size _ rfl]
    simpa [verE,verC] using hu
  ·obtain rfl:W2.heap.size=b:=by injection e with e1;injection e1
   exact ⟨Nat.le_refl _,by rw [hw'];simp⟩
 have HBB:Hid (Below w.heap.size w w1):=hb1
 have HPL:Hid (∀ W:World,Below w1.heap.size w1 W->(W.cell? ⟨h,14,none⟩=some (.int .i64 T.c.n)/\W.cell? ⟨h,15,none⟩=some (.int .i64 T.c.k)/\W.cell? ⟨h,16,none⟩=some (.slice p n cp)/\W.cell? ⟨h,17,none⟩=some (.int .i64 T.num)/\Below w1.heap.size w1 W)):=fun W hW=>by
  have hq:=hP1.below hW
  exact ⟨hq.cell 14,hq.cell 15,by rw [<- hmv];exact hq.cell 16,hq.cell 17,hW⟩
 have HOB:Hid (w.cell? ⟨h,21,none⟩=some (.int .i64 a.tag.1)/\w.cell? ⟨h,22,none⟩=some (.int .i64 a.tag.2)/\w.cell? ⟨h,23,none⟩=some (.string a.text)/\w.cell? ⟨h,24,none⟩=some (.bool true)):=by
  refine ⟨?_,?_,?_,?_⟩
  ·rw [hp.cell 21];unfold erCells;rw [hobj];rfl
  ·rw [hp.cell 22];unfold erCells;rw [hobj];rfl
  ·rw [hp.cell 23];unfold erCells;rw [hobj];rfl
  ·rw [hp.cell 24];unfold erCells;rw [hobj];rfl
 obtain ⟨o0,o1,o2,o3⟩:=HOB.out
 rw [hlen]
 clear hp hP1 hse hlen hmst hsz hw1 hb1 b0 hobj hZ htxe hz1 HOB hmv hTn hTc hcn hck hck' hk1 hkn hn12 hL
 go_enter Tryz.func97,Tryz.ntmps97
 go_wp2_with (first | rw [<- HW1.out] | fail)
 go_cut [4] from 10 to 27 (fun v W=>∃ sb g,v=.pointer (some ⟨sb,0,none⟩)/\W.cell? ⟨sb,0,none⟩=some (.slice (some ⟨g,0,none⟩) n n)/\ShRow W g n (encS k tx)/\Below w1.heap.size w1 W)
 case first =>
  go_region_held3 (fun W=>(W.cell? ⟨h,14,none⟩=some (.int .i64 (n:Int))/\W.cell? ⟨h,15,none⟩=some (.int .i64 (k:Int))/\W.cell? ⟨w.heap.size,2,none⟩=some (.string tx)/\Below w1.heap.size w1 W)) (first | with_reducible assumption | with_reducible exact HS0 | with_reducible exact HSA | (with_reducible exact HS.out _ (hS2.2.2.2.alloc hS2.2.2.2.size _)) | (with_reducible exact HS.out _ (hS2.2.2.2.setCell (Nat.le_refl _) _))) (first | (go_at_call 124;with_reducible refine HENA.out.mono ?_;rintro e w2 ⟨g,rfl,hGA,hS2⟩) | (go_at_call 124;with_reducible refine HENB.out.mono ?_;rintro e w2 ⟨g,rfl,hGB,hS2,x1,x2⟩))
  all_goals (go_wp2_with fail;go_meet)
  ·exact ⟨w2.heap.size,g,rfl,by rw [World.cell?_alloc_at _ _ _ _ rfl];rfl,hGA.out.below ((Below.refl _ _).alloc (Nat.le_refl _) _),hS2.2.2.2.alloc hS2.2.2.2.size _⟩
  ·exact ⟨w1.heap.size,g,rfl,World.cell?_setCell_same _ _ _ x1,World.rowIs.of_block hGB.out.1 (Below.heap_setCell _ _ _ _ hGB.out.2),hS2.2.2.2.setCell (Nat.le_refl _) _⟩
 case rest =>
  obtain ⟨sb,g,rfl,hsb,hrow,hbw⟩:=hcut
  have HXX:Hid (∀ W,Below wc.heap.size wc W->Calls Tryz.prog 63 #[.pointer (some ⟨h,0,none⟩),.agg #[.int .i64 T.c.n,.int .i64 T.c.k,.slice p n cp,.int .i64 T.num],.string ⟨#[107,101,101,112]⟩,.func (.func 125) #[] #[.pointer (some ⟨w.heap.size,0,none⟩),.pointer (some ⟨sb,0,none⟩)]] W fun e w'=>(∃ p c,e=.returned (.slice p n c)/\Hid (MsgsN w.heap.size w' p (a.send wKeep true)))/\(w'.cell? ⟨h,14,none⟩=some (.int .i64 T.c.n)/\w'.cell? ⟨h,15,none⟩=some (.int .i64 T.c.k)/\w'.cell? ⟨h,16,none⟩=some (.slice p n cp)/\w'.cell? ⟨h,17,none⟩=some (.int .i64 T.num)/\Below w1.heap.size w1 w')):=fun W hW=>by
   have hbW:=hbw.trans (hW.mono hbw.size)
   refine (HSD.out W hbW sb g ((hW.cell (p:=⟨sb,0,none⟩) (lt_cellE hsb)).trans hsb) (hrow.below hW)).mono fun e w' hq=>?_
   obtain ⟨⟨p2,c2,e1,e2⟩,e3,e4⟩:=hq
   exact ⟨⟨p2,c2,e1,e2⟩,HPL.out w' e4⟩
  obtain ⟨k14,k15,k16,k17,_⟩:=HPL.out wc hbw
  have HX9:=HXX.out wc.drew (Below.refl _ _).drew
  clear hsb hrow hbw HSD HS HEN HENA HENB HS0 HSA HXX HPL
  go_wp2
  refine wp_region_still_tail 8 (by kernel_rfl) (by kernel_rfl) ?_
  simp only [List.take_succ_cons,List.take_zero,List.drop_succ_cons,List.drop_zero]
  still_step
  still_step
  still_step
  still_step
  still_step
  still_step
  still_step
  still_step
  refine wpStill_nil ?_
  go_wp2_with fail
  refine HX9.mono ?_
  rintro e w9 ⟨⟨p9,c9,rfl,hm9⟩,hS10⟩
  have HB9:Hid (Below w.heap.size w w9):=HBB.out.trans (hS10.2.2.2.2.mono HBB.out.size)
  clear HX9 hS10
  go_wp2
  go_ret
  exact ⟨⟨p9,c9,rfl,hm9.out⟩,HB9.out⟩
end Go.Proofs.YtmhoiodfppdlnaaGreatDoor
