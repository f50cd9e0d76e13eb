import Derived.Test.YtmhoiodfppdlnaaGreatDoorAq3
import Derived.Test.YtmhoiodfppdlnaaGreatDoorAq4
import Derived.Deep.QuietTactic
import Derived.BigQuiet
import Derived.StillTailTactics
import Derived.Test.YtmhoiodfppdlnaaGreatDoorAq0
import Derived.Test.YtmhoiodfppdlnaaGreatDoorAq5
set_option maxRecDepth 10000
set_option maxHeartbeats 4000000
namespace Go.Proofs.YtmhoiodfppdlnaaGreatDoor
open Go.RowKit
theorem wireOf_any (m:Msg)(p:Option Addr)(c:Nat)(w:World)(hl:m.L.length<=2932031007317)(hr:Rec verE w p m.L)(hc:p=none->m.L=[]/\c=0) :
 Calls Tryz.prog 19 #[msgA m (.slice p m.L.length c)] w fun e w'=>(∃ lv,e=.returned (msgA m lv)/\OwnR verE 76 w' w.heap.size lv m.L)/\Below w.heap.size w w':=by
 obtain⟨m1,m2,m3,m4,m5,m6,m7,mL⟩:=m
 unfold msgA
 simp only [] at *
 have hb1:Below w.heap.size w (((w.alloc (.cells #[.string m1,.string m2,.string m3,.string m4,.int .i64 m5,.int .i64 m6,.bool m7,.slice p mL.length c] 59)).alloc (.cells #[.string ⟨#[]⟩,.string ⟨#[]⟩,.string ⟨#[]⟩,.string ⟨#[]⟩,.int .i64 0,.int .i64 0,.bool false,.slice none 0 0] 57)).alloc (.cells #[.string m1,.string m2,.string m3,.string m4,.int .i64 m5,.int .i64 m6,.bool m7,.slice none 0 0] 57)):=(((Below.refl _ _).alloc (Nat.le_refl _) _).alloc (by simp) _).alloc (by simp;omega) _
 have he1:(((w.alloc (.cells #[.string m1,.string m2,.string m3,.string m4,.int .i64 m5,.int .i64 m6,.bool m7,.slice p mL.length c] 59)).alloc (.cells #[.string ⟨#[]⟩,.string ⟨#[]⟩,.string ⟨#[]⟩,.string ⟨#[]⟩,.int .i64 0,.int .i64 0,.bool false,.slice none 0 0] 57)).alloc (.cells #[.string m1,.string m2,.string m3,.string m4,.int .i64 m5,.int .i64 m6,.bool m7,.slice none 0 0] 57)).heap[w.heap.size+1]?=some (.cells #[.string ⟨#[]⟩,.string ⟨#[]⟩,.string ⟨#[]⟩,.string ⟨#[]⟩,.int .i64 0,.int .i64 0,.bool false,.slice none 0 0] 57 (0,0)):=by
  have e:w.heap.size+1=(w.alloc (.cells #[.string m1,.string m2,.string m3,.string m4,.int .i64 m5,.int .i64 m6,.bool m7,.slice p mL.length c] 59)).heap.size:=by simp
  rw [heap_alloc_old _ _ (by simp),e]
  exact heap_alloc_new _ _
 have he2:(((w.alloc (.cells #[.string m1,.string m2,.string m3,.string m4,.int .i64 m5,.int .i64 m6,.bool m7,.slice p mL.length c] 59)).alloc (.cells #[.string ⟨#[]⟩,.string ⟨#[]⟩,.string ⟨#[]⟩,.string ⟨#[]⟩,.int .i64 0,.int .i64 0,.bool false,.slice none 0 0] 57)).alloc (.cells #[.string m1,.string m2,.string m3,.string m4,.int .i64 m5,.int .i64 m6,.bool m7,.slice none 0 0] 57)).heap[w.heap.size+2]?=some (.cells #[.string m1,.string m2,.string m3,.string m4,.int .i64 m5,.int .i64 m6,.bool m7,.slice none 0 0] 57 (0,0)):=by
  have e:w.heap.size+2=((w.alloc (.cells #[.string m1,.string m2,.string m3,.string m4,.int .i64 m5,.int .i64 m6,.bool m7,.slice p mL.length c] 59)).alloc (.cells #[.string ⟨#[]⟩,.string ⟨#[]⟩,.string ⟨#[]⟩,.string ⟨#[]⟩,.int .i64 0,.int .i64 0,.bool false,.slice none 0 0] 57)).heap.size:=by simp
  rw [e]
  exact heap_alloc_new _ _
 have HBK:Hid ((((w.alloc (.cells #[.string m1,.string m2,.string m3,.string m4,.int .i64 m5,.int .i64 m6,.bool m7,.slice p mL.length c] 59)).alloc (.cells #[.string ⟨#[]⟩,.string ⟨#[]⟩,.string ⟨#[]⟩,.string ⟨#[]⟩,.int .i64 0,.int .i64 0,.bool false,.slice none 0 0] 57)).alloc (.cells #[.string m1,.string m2,.string m3,.string m4,.int .i64 m5,.int .i64 m6,.bool m7,.slice none 0 0] 57)).heap[w.heap.size+1]?=some (.cells #[.string ⟨#[]⟩,.string ⟨#[]⟩,.string ⟨#[]⟩,.string ⟨#[]⟩,.int .i64 0,.int .i64 0,.bool false,.slice none 0 0] 57 (0,0))/\(((w.alloc (.cells #[.string m1,.string m2,.string m3,.string m4,.int .i64 m5,.int .i64 m6,.bool m7,.slice p mL.length c] 59)).alloc (.cells #[.string ⟨#[]⟩,.string ⟨#[]⟩,.string ⟨#[]⟩,.string ⟨#[]⟩,.int .i64 0,.int .i64 0,.bool false,.slice none 0 0] 57)).alloc (.cells #[.string m1,.string m2,.string m3,.string m4,.int .i64 m5,.int .i64 m6,.bool m7,.slice none 0 0] 57)).heap[w.heap.size+2]?=some (.cells #[.string m1,.string m2,.string m3,.string m4,.int .i64 m5,.int .i64 m6,.bool m7,.slice none 0 0] 57 (0,0))/\Below w.heap.size w (((w.alloc (.cells #[.string m1,.string m2,.string m3,.string m4,.int .i64 m5,.int .i64 m6,.bool m7,.slice p mL.length c] 59)).alloc (.cells #[.string ⟨#[]⟩,.string ⟨#[]⟩,.string ⟨#[]⟩,.string ⟨#[]⟩,.int .i64 0,.int .i64 0,.bool false,.slice none 0 0] 57)).alloc (.cells #[.string m1,.string m2,.string m3,.string m4,.int .i64 m5,.int .i64 m6,.bool m7,.slice none 0 0] 57))):=⟨he1,he2,hb1⟩
 have HR:Hid (Rec verE (((w.alloc (.cells #[.string m1,.string m2,.string m3,.string m4,.int .i64 m5,.int .i64 m6,.bool m7,.slice p mL.length c] 59)).alloc (.cells #[.string ⟨#[]⟩,.string ⟨#[]⟩,.string ⟨#[]⟩,.string ⟨#[]⟩,.int .i64 0,.int .i64 0,.bool false,.slice none 0 0] 57)).alloc (.cells #[.string m1,.string m2,.string m3,.string m4,.int .i64 m5,.int .i64 m6,.bool m7,.slice none 0 0] 57)) p mL):=hr.below hb1
 have hsz:w.heap.size+3<=(((w.alloc (.cells #[.string m1,.string m2,.string m3,.string m4,.int .i64 m5,.int .i64 m6,.bool m7,.slice p mL.length c] 59)).alloc (.cells #[.string ⟨#[]⟩,.string ⟨#[]⟩,.string ⟨#[]⟩,.string ⟨#[]⟩,.int .i64 0,.int .i64 0,.bool false,.slice none 0 0] 57)).alloc (.cells #[.string m1,.string m2,.string m3,.string m4,.int .i64 m5,.int .i64 m6,.bool m7,.slice none 0 0] 57)).heap.size:=by simp
 have HC:Hid (p=none->mL=[]/\c=0):=hc
 clear hb1 he1 he2 hr hc
 go_enter Tryz.func19,Tryz.ntmps19
 go_wp2_with (first | (at_builtin;refine wpList_append_recs (E:=verE) rfl (.tmp 20) (.tmp 22) 55 76 rfl (.agg #[.int .i64 0,.int .i64 0,.int .i64 0,.int .i64 0,.string ⟨#[]⟩]) 48 Tryz.underlying55 verinfo rfl (w.heap.size+3) (.slice none 0 0) [] rfl (OwnR.nil _ _ _) p mL c rfl HR.out HC.out (by unfold maxLen;simp;omega) (by simp;omega) hsz ?_;intro v3 w3 hO3 hb3;obtain⟨p3,c3,hv3,_⟩:=hO3.form;rw [List.nil_append] at hv3 hO3;subst hv3;have e1:=(hb3.block (w.heap.size+1) (by omega)).trans HBK.out.1;have e2:=(hb3.block (w.heap.size+2) (by omega)).trans HBK.out.2.1;have HB3:Hid (Below w.heap.size w w3):=(HBK.out.2.2.trans (hb3.mono (by omega)));have HO3:Hid (OwnR verE 76 w3 (w.heap.size+3) (.slice p3 mL.length c3) mL):=hO3;have z0:w3.cell? ⟨w.heap.size+1,0,none⟩=some (.string ⟨#[]⟩):=(by simp [World.cell?,e1]);have z1:w3.cell? ⟨w.heap.size+1,1,none⟩=some (.string ⟨#[]⟩):=(by simp [World.cell?,e1]);have z2:w3.cell? ⟨w.heap.size+1,2,none⟩=some (.string ⟨#[]⟩):=(by simp [World.cell?,e1]);have z3:w3.cell? ⟨w.heap.size+1,3,none⟩=some (.string ⟨#[]⟩):=(by simp [World.cell?,e1]);have z4:w3.cell? ⟨w.heap.size+1,4,none⟩=some (.int .i64 0):=(by simp [World.cell?,e1]);have z5:w3.cell? ⟨w.heap.size+1,5,none⟩=some (.int .i64 0):=(by simp [World.cell?,e1]);have z6:w3.cell? ⟨w.heap.size+1,6,none⟩=some (.bool false):=(by simp [World.cell?,e1]);have z7:w3.cell? ⟨w.heap.size+1,7,none⟩=some (.slice none 0 0):=(by simp [World.cell?,e1]);have y0:w3.cell? ⟨w.heap.size+2,0,none⟩=some (.string m1):=(by simp [World.cell?,e2]);have y1:w3.cell? ⟨w.heap.size+2,1,none⟩=some (.string m2):=(by simp [World.cell?,e2]);have y2:w3.cell? ⟨w.heap.size+2,2,none⟩=some (.string m3):=(by simp [World.cell?,e2]);have y3:w3.cell? ⟨w.heap.size+2,3,none⟩=some (.string m4):=(by simp [World.cell?,e2]);have y4:w3.cell? ⟨w.heap.size+2,4,none⟩=some (.int .i64 m5):=(by simp [World.cell?,e2]);have y5:w3.cell? ⟨w.heap.size+2,5,none⟩=some (.int .i64 m6):=(by simp [World.cell?,e2]);have y6:w3.cell? ⟨w.heap.size+2,6,none⟩=some (.bool m7):=(by simp [World.cell?,e2]);have y7:w3.cell? ⟨w.heap.size+2,7,none⟩=some (.slice none 0 0):=(by simp [World.cell?,e2]);have g1:∀ o,w3.frozen? ⟨w.heap.size+1,o,none⟩=false:=(fun o=>by simp [World.frozen?,e1]);have g2:∀ o,w3.frozen? ⟨w.heap.size+2,o,none⟩=false:=(fun o=>by simp [World.frozen?,e2]);clear e1 e2 hO3 hb3))
 refine bodyPost_ret (v:=.agg #[.string m1,.string m2,.string m3,.string m4,.int .i64 m5,.int .i64 m6,.bool m7,.slice p3 mL.length c3]) (by simp [results,Tryz.results19,go_sem,z0,z1,z2,z3,z4,z5,z6,z7]) rfl ⟨⟨_,rfl,?_⟩,?_⟩
 ·exact OwnR.base (((((((((HO3.out.setC (b:=w.heap.size+2) (by omega) 7 _).setC (b:=w.heap.size+1) (by omega) 0 _).setC (b:=w.heap.size+1) (by omega) 1 _).setC (b:=w.heap.size+1) (by omega) 2 _).setC (b:=w.heap.size+1) (by omega) 3 _).setC (b:=w.heap.size+1) (by omega) 4 _).setC (b:=w.heap.size+1) (by omega) 5 _).setC (b:=w.heap.size+1) (by omega) 6 _).setC (b:=w.heap.size+1) (by omega) 7 _) (by omega)
 ·exact(((((((((HB3.out.setCell (p:=⟨w.heap.size+2,7,none⟩) (by show w.heap.size<=w.heap.size+2;omega) _).setCell (p:=⟨w.heap.size+1,0,none⟩) (by show w.heap.size<=w.heap.size+1;omega) _).setCell (p:=⟨w.heap.size+1,1,none⟩) (by show w.heap.size<=w.heap.size+1;omega) _).setCell (p:=⟨w.heap.size+1,2,none⟩) (by show w.heap.size<=w.heap.size+1;omega) _).setCell (p:=⟨w.heap.size+1,3,none⟩) (by show w.heap.size<=w.heap.size+1;omega) _).setCell (p:=⟨w.heap.size+1,4,none⟩) (by show w.heap.size<=w.heap.size+1;omega) _).setCell (p:=⟨w.heap.size+1,5,none⟩) (by show w.heap.size<=w.heap.size+1;omega) _).setCell (p:=⟨w.heap.size+1,6,none⟩) (by show w.heap.size<=w.heap.size+1;omega) _).setCell (p:=⟨w.heap.size+1,7,none⟩) (by show w.heap.size<=w.heap.size+1;omega) _)
theorem backWires_any (B:Nat)(p:Option Addr)(l:List Msg)(cap:Nat)(w:World)(hl:l.length<=1000)(hB0:B<=w.heap.size)(h:MsgsN B w p l) :
 Calls Tryz.prog 15 #[.slice p l.length cap] w fun e w'=>(∃ p' c',e=.returned (.slice p' l.length c')/\MsgsN B w' p' l)/\Below w.heap.size w w':=by
 obtain⟨ml,hml,hr,hh,_⟩:=h
 have hlen:l.length=ml.length:=by rw [<- hml,List.length_map]
 rw [hlen] at hl ⊢
 have HR:Hid (Rec mE w p ml):=hr
 have HH:Hid (∀ x ∈ ml,HasL w x/\∀ b o,x.2.1=some ⟨b,o,none⟩->B<=b):=hh
 have HB0:Hid (B<=w.heap.size):=hB0
 clear hB0
 have HML:Hid (ml.map Prod.fst=l):=hml
 have HBK:Hid (∀ (m:Msg) (h:Lv) W,Calls Tryz.prog 41 #[.agg #[.string m.from_,.string m.to_,.string m.kind,.string m.key,.int .i64 m.op,.int .i64 m.config,.bool m.shut,.slice h.1 h.2.1 h.2.2]] W fun e w'=>e=.returned (.agg #[.string m.from_,.string m.to_,.string m.kind,.string m.key,.int .i64 m.op,.int .i64 m.config,.bool m.shut,.slice h.1 h.2.1 h.2.2])/\Below W.heap.size W w'):=fun m h W=>backWire_any m h.1 h.2.1 h.2.2 W
 clear hr hh hml hlen
 go_enter Tryz.func15,Tryz.ntmps15
 go_wp2
 go_loopw [3,4] (fun v x wr=>∃ i:Nat,i<=ml.length/\x=.int .i64 i/\OwnR mE 59 wr w.heap.size v (ml.take i)/\Below w.heap.size w wr) (fun _ x _=>ml.length - (intOf x).toNat)
 case atStart=>exact⟨0,Nat.zero_le _,rfl,OwnR.nil _ _ _,Below.refl _ _⟩
 case round =>
  obtain⟨i,hi,rfl,hO,hB⟩:=hrel
  obtain⟨w1,rfl⟩:∃ w1,w1=wr:=⟨_,rfl⟩
  obtain⟨pv,cv,rfl,hms,hcv,hpn,hpb⟩:=hO.form
  have HPB:Hid (∀ b o,pv=some ⟨b,o,none⟩->w.heap.size<=b/\b < w1.heap.size):=hpb
  clear hpb
  have HO:Hid (OwnR mE 59 w1 w.heap.size (.slice pv (ml.take i).length cv) (ml.take i)):=hO
  have HB:Hid (Below w.heap.size w w1):=hB
  have HMS:Hid (Rec mE w1 pv (ml.take i)):=hms
  have htl:(ml.take i).length<=1000:=by rw [List.length_take];omega
  clear hO hms hpn
  by_cases hil:i < ml.length
  ·have HT:Hid (ml.take (i+1)=ml.take i ++ [msgAt ml i]):=msg_take hil
   obtain⟨b,o,hpp,hblt,d0,d1,d2,d3,d4,d5,d6,d7⟩:=msg_cells (HR.out.below hB) hil
   subst hpp
   rw [msgAt_get hil] at d0 d1 d2 d3 d4 d5 d6 d7
   have HBX:=HBK.out (msgAt ml i).1 (msgAt ml i).2
   clear hB
   generalize msgAt ml i=x at *
   generalize ml.take i=done at *
   obtain⟨⟨m1,m2,m3,m4,m5,m6,m7,mL⟩,lp,ln,lc⟩:=x
   dsimp only at d0 d1 d2 d3 d4 d5 d6 d7 HBX
   have HBY:Hid (∀ W,Calls Tryz.prog 41 #[.agg #[.string m1,.string m2,.string m3,.string m4,.int .i64 m5,.int .i64 m6,.bool m7,.slice lp ln lc]] W fun e w'=>e=.returned (.agg #[.string m1,.string m2,.string m3,.string m4,.int .i64 m5,.int .i64 m6,.bool m7,.slice lp ln lc])/\Below W.heap.size W w'):=HBX
   clear HBX
   go_wp2_with fail
   refine(HBY.out _).mono ?_
   rintro e w2 ⟨rfl,hb2⟩
   have HO2:Hid (OwnR mE 59 w2 w.heap.size (.slice pv done.length cv) done):=HO.out.kept hb2
   have HB2:Hid (Below w.heap.size w w2):=HB.out.trans (hb2.mono HB.out.size)
   have hz2:w.heap.size<=w2.heap.size:=HB2.out.size
   obtain⟨w4,hw4⟩:∃ w4,w4=(w2.alloc (.cells #[.string m1,.string m2,.string m3,.string m4,.int .i64 m5,.int .i64 m6,.bool m7,.slice lp ln lc] 59)).alloc (.cells #[.string m1,.string m2,.string m3,.string m4,.int .i64 m5,.int .i64 m6,.bool m7,.slice lp ln lc] 59):=⟨_,rfl⟩
   have hb24:Below w2.heap.size w2 w4:=by rw [hw4];exact((Below.refl _ _).alloc (Nat.le_refl _) _).alloc (by simp) _
   have HN4:Hid (∀ j u,(mE.enc (⟨m1,m2,m3,m4,m5,m6,m7,mL⟩,lp,ln,lc))[j]?=some u->w4.cell? ⟨w2.heap.size+1,0+j,none⟩=some u):=fun j u hj=>by
    rw [hw4,World.cell?_alloc_at _ _ _ _ (by simp),Nat.zero_add]
    simpa [mE,msgC] using hj
   have HW4:Hid (w4=(w2.alloc (.cells #[.string m1,.string m2,.string m3,.string m4,.int .i64 m5,.int .i64 m6,.bool m7,.slice lp ln lc] 59)).alloc (.cells #[.string m1,.string m2,.string m3,.string m4,.int .i64 m5,.int .i64 m6,.bool m7,.slice lp ln lc] 59)):=hw4
   have HO4:Hid (OwnR mE 59 w4 w.heap.size (.slice pv done.length cv) done):=HO2.out.kept hb24
   have HB4:Hid (Below w.heap.size w w4):=HB2.out.trans (hb24.mono HB2.out.size)
   have HS4:Hid (w.heap.size<=w4.heap.size/\w2.heap.size+1 < w4.heap.size):=by
    have e:w4.heap.size=w2.heap.size+1+1:=by rw [hw4];simp
    exact⟨by omega,by omega⟩
   clear hb2 HO HB HBY d0 d1 d2 d3 d4 d5 d6 d7 hw4 hb24 HO2 HB2 HMS
   go_wp2_with (first | rw [<- HW4.out] | (at_builtin;refine wpList_append_rec (E:=mE) rfl (.tmp 17) (.tmp 19) 27 59 rfl (.agg #[.string ⟨#[]⟩,.string ⟨#[]⟩,.string ⟨#[]⟩,.string ⟨#[]⟩,.int .i64 0,.int .i64 0,.bool false,.slice none 0 0]) 112 Tryz.underlying27 minfoR rfl w.heap.size (.slice pv done.length cv) done rfl HO4.out (w2.heap.size+1) 0 1 (⟨m1,m2,m3,m4,m5,m6,m7,mL⟩,lp,ln,lc) rfl HN4.out (by unfold maxLen;omega) (by omega) HS4.out.1 HS4.out.2 ?_;intro v5 w5 hO5 hb5))
   have HO5:Hid (OwnR mE 59 w5 w.heap.size v5 (done ++ [(⟨m1,m2,m3,m4,m5,m6,m7,mL⟩,lp,ln,lc)])):=hO5
   have HB5:Hid (Below w.heap.size w w5):=HB4.out.trans hb5
   clear hO5 hb5 HO4 HB4
   go_wp2
   go_roundw
   case rel=>exact⟨i+1,by omega,by go_num,by rw [HT.out];exact HO5.out,HB5.out⟩
   case measure=>simp [intOf];omega
  ·have hie:i=ml.length:=by omega
   have HE:Hid (ml.take i=ml):=by show _=_;rw [hie,List.take_length]
   rw [HE.out] at HMS
   rw [HE.out]
   clear hie htl
   go_wp2
   go_ret
   exact⟨⟨pv,cv,rfl,ml,HML.out,HMS.out,fun x hx=>⟨(HH.out x hx).1.below HB.out,(HH.out x hx).2⟩,fun b o e=>Nat.le_trans HB0.out (HPB.out b o e).1⟩,HB.out⟩
theorem sameMsgs_yes (pa pb:Option Addr)(l:List Msg)(ca cb:Nat)(w:World)(hl:l.length<=1000)(hv:∀ m ∈ l,m.L.length<=1000000)(ha:MsgsAt w pa l)(hb:MsgsAt w pb l) :
 Calls Tryz.prog 14 #[.slice pa l.length ca,.slice pb l.length cb] w fun e w'=>e=.returned (.bool true)/\Below w.heap.size w w':=by
 obtain⟨al,hal,har,hah⟩:=ha
 obtain⟨bl,hbl,hbr,hbh⟩:=hb
 have hla:al.length=l.length:=by rw [<- hal,List.length_map]
 have hlb:bl.length=l.length:=by rw [<- hbl,List.length_map]
 have HAR:Hid (Rec mE w pa al):=har
 have HBR:Hid (Rec mE w pb bl):=hbr
 have HAH:Hid (∀ x ∈ al,HasL w x):=hah
 have HBH:Hid (∀ x ∈ bl,HasL w x):=hbh
 have HLA:Hid (al.length=l.length):=hla
 have HLB:Hid (bl.length=l.length):=hlb
 have HEQ:Hid (∀ i,i < l.length->(msgAt al i).1=(msgAt bl i).1/\(msgAt al i).1.L.length<=1000000):=fun i hi=>by
  have e1:(msgAt al i).1=l[i]:=by rw [<- msgAt_get (by omega)];simp only [<- hal,List.getElem_map]
  have e2:(msgAt bl i).1=l[i]:=by rw [<- msgAt_get (by omega)];simp only [<- hbl,List.getElem_map]
  exact⟨e1.trans e2.symm,by rw [e1];exact hv _ (List.getElem_mem hi)⟩
 have HSM:Hid (∀ (m:Msg) (p1 p2:Option Addr) (c1 c2:Nat) W,m.L.length<=1000000->Rec verE W p1 m.L->Rec verE W p2 m.L->Calls Tryz.prog 40 #[.agg #[.string m.from_,.string m.to_,.string m.kind,.string m.key,.int .i64 m.op,.int .i64 m.config,.bool m.shut,.slice p1 m.L.length c1],.agg #[.string m.from_,.string m.to_,.string m.kind,.string m.key,.int .i64 m.op,.int .i64 m.config,.bool m.shut,.slice p2 m.L.length c2]] W fun e w'=>e=.returned (.bool true)/\Below W.heap.size W w'):=fun m p1 p2 c1 c2 W h1 h2 h3=>sameMsg_yes m p1 p2 c1 c2 W h1 h2 h3
 clear har hah hbr hbh hla hlb hal hbl hv
 go_enter Tryz.func14,Tryz.ntmps14
 go_wp2
 go_loopw [5] (fun x wr=>∃ i:Nat,i<=l.length/\x=.int .i64 i/\Below w.heap.size w wr) (fun x _=>l.length - (intOf x).toNat)
 case atStart=>exact⟨0,Nat.zero_le _,rfl,Below.refl _ _⟩
 case round =>
  obtain⟨i,hi,rfl,hB⟩:=hrel
  obtain⟨w1,rfl⟩:∃ w1,w1=wr:=⟨_,rfl⟩
  have HB:Hid (Below w.heap.size w w1):=hB
  by_cases hil:i < l.length
  ·have hia:i < al.length:=by rw [HLA.out];exact hil
   have hib:i < bl.length:=by rw [HLB.out];exact hil
   obtain⟨b1,o1,hp1,hlt1,a0,a1,a2,a3,a4,a5,a6,a7⟩:=msg_cells (HAR.out.below hB) hia
   obtain⟨b2,o2,hp2,hlt2,c0,c1,c2,c3,c4,c5,c6,c7⟩:=msg_cells (HBR.out.below hB) hib
   rw [msgAt_get hia] at a0 a1 a2 a3 a4 a5 a6 a7
   rw [msgAt_get hib] at c0 c1 c2 c3 c4 c5 c6 c7
   obtain⟨he,hle⟩:=HEQ.out i hil
   have hA:=(HAH.out _ (msgAt_mem hia)).below hB
   have hC:=(HBH.out _ (msgAt_mem hib)).below hB
   rw [<- he] at c0 c1 c2 c3 c4 c5 c6
   have l1:=hA.len
   have l2:=hC.len
   have r1:=hA.recs
   have r2:=hC.recs
   rw [<- he] at l2 r2
   rw [l1] at a7
   rw [l2] at c7
   have HX:Hid (∀ W,Below w1.heap.size w1 W->Calls Tryz.prog 40 #[.agg #[.string (msgAt al i).1.from_,.string (msgAt al i).1.to_,.string (msgAt al i).1.kind,.string (msgAt al i).1.key,.int .i64 (msgAt al i).1.op,.int .i64 (msgAt al i).1.config,.bool (msgAt al i).1.shut,.slice (msgAt al i).2.1 (msgAt al i).1.L.length (msgAt al i).2.2.2],.agg #[.string (msgAt al i).1.from_,.string (msgAt al i).1.to_,.string (msgAt al i).1.kind,.string (msgAt al i).1.key,.int .i64 (msgAt al i).1.op,.int .i64 (msgAt al i).1.config,.bool (msgAt al i).1.shut,.slice (msgAt bl i).2.1 (msgAt al i).1.L.length (msgAt bl i).2.2.2]] W fun e w'=>e=.returned (.bool true)/\Below W.heap.size W w'):=fun W hW=>HSM.out (msgAt al i).1 _ _ _ _ W hle (r1.below hW) (r2.below hW)
   subst hp1 hp2
   clear hA hC l1 l2 r1 r2 he hle hB
   generalize (msgAt al i).1=m at *
   generalize (msgAt al i).2=ha at *
   generalize (msgAt bl i).2=hb at *
   obtain⟨m1,m2,m3,m4,m5,m6,m7,mL⟩:=m
   obtain⟨p1,n1,k1⟩:=ha
   obtain⟨p2,n2,k2⟩:=hb
   dsimp only at *
   go_wp2
   refine wp_region_still_tail 8 (by kernel_rfl) (by kernel_rfl) ?_
   simp only [List.take_succ_cons,List.take_zero,List.drop_succ_cons,List.drop_zero]
   still_step
   still_step
   still_step
   still_step
   still_step
   still_step
   still_step
   still_step
   refine wpStill_nil ?_
   go_wp2_with (go_at_call 40;refine(HX.out _ (Below.refl _ _).drew).mono ?_;rintro e w2 ⟨rfl,hb2⟩;have HB2:Hid (Below w.heap.size w w2):=HB.out.trans (((Below.refl _ _).drew.trans hb2).mono HB.out.size);clear hb2)
   go_roundw
   case rel=>exact⟨i+1,by omega,by go_num,HB2.out⟩
   case measure=>simp [intOf];omega
  ·go_wp2
   go_ret
   exact⟨rfl,HB.out⟩
theorem bare_any (c:Int)(w:World):Calls Tryz.prog 27 #[.int .i64 c] w fun e w'=>e=.returned (.agg #[.int .i64 c,.int .i64 (-1)])/\Below w.heap.size w w':=by
 go_enter Tryz.func27,Tryz.ntmps27
 go_wp2
 refine bodyPost_ret (v:=.agg #[.int .i64 c,.int .i64 (-1)]) (by simp [results,Tryz.results27,go_sem]) rfl ⟨rfl,?_⟩
 exact(Below.refl _ _).alloc (Nat.le_refl _) _
theorem fine_any (w:World):Calls Tryz.prog 77 #[] w fun e w'=>e=.returned (.agg #[.int .i64 0,.int .i64 (-1)])/\Below w.heap.size w w':=by
 go_enter Tryz.func77,Tryz.ntmps77
 go_wp2
 refine bodyPost_ret (v:=.agg #[.int .i64 0,.int .i64 (-1)]) (by simp [results,Tryz.results77,go_sem]) rfl ⟨rfl,?_⟩
 exact(Below.refl _ _).alloc (Nat.le_refl _) _
theorem pair_kept (w:World)(t:TypeId)(wq:World)(hb:Below (w.alloc (.cells #[.int .i64 0,.int .i64 0] t)).heap.size (w.alloc (.cells #[.int .i64 0,.int .i64 0] t)) wq) :
 wq.cell? ⟨w.heap.size,0,none⟩=some (.int .i64 0)/\wq.cell? ⟨w.heap.size,1,none⟩=some (.int .i64 0)/\wq.frozen? ⟨w.heap.size,0,none⟩=false/\wq.frozen? ⟨w.heap.size,1,none⟩=false:=by
 have hlt:w.heap.size < (w.alloc (.cells #[.int .i64 0,.int .i64 0] t)).heap.size:=by simp
 refine⟨(hb.cell (p:=⟨w.heap.size,0,none⟩) hlt).trans ?_,(hb.cell (p:=⟨w.heap.size,1,none⟩) hlt).trans ?_,(hb.frozen (p:=⟨w.heap.size,0,none⟩) hlt).trans ?_,(hb.frozen (p:=⟨w.heap.size,1,none⟩) hlt).trans ?_⟩
 ·rw [World.cell?_alloc_at _ _ _ _ rfl];rfl
 ·rw [World.cell?_alloc_at _ _ _ _ rfl];rfl
 ·unfold World.frozen?;rw [heap_alloc_new];rfl
 ·unfold World.frozen?;rw [heap_alloc_new];rfl
theorem pair_below {w wq:World}{t:TypeId}(hb:Below (w.alloc (.cells #[.int .i64 0,.int .i64 0] t)).heap.size (w.alloc (.cells #[.int .i64 0,.int .i64 0] t)) wq):Below w.heap.size w wq :=
 ((Below.refl _ w).alloc (Nat.le_refl _) _).trans (hb.mono (by simp))
theorem pair_set {w wq:World}(hb:Below w.heap.size w wq)(a b:Value):Below w.heap.size w ((wq.setCell ⟨w.heap.size,0,none⟩ a).setCell ⟨w.heap.size,1,none⟩ b):=by
 refine(hb.setCell ?_ _).setCell ?_ _ <;> exact Nat.le_refl _
theorem nodesFault_bound (p:Option Addr)(l:List ByteArray)(c:Nat)(w:World)(hl:l.length<=1000000)(h:l.length < 1∨16 < l.length) :
 Calls Tryz.prog 54 #[.slice p l.length c] w fun e w'=>e=.returned (.agg #[.int .i64 2,.int .i64 (-1)])/\Below w.heap.size w w':=by
 rcases h with h | h
 ·go_enter Tryz.func54,Tryz.ntmps54
  go_wp2_with fail
  refine(bare_any 2 _).mono ?_
  rintro e w1 ⟨rfl,hb1⟩
  obtain⟨q1,q2,f1,f2⟩:=pair_kept w _ w1 hb1
  have HB:Hid (Below w.heap.size w w1):=pair_below hb1
  clear hb1
  go_wp2
  refine bodyPost_ret (v:=.agg #[.int .i64 2,.int .i64 (-1)]) (by simp [results,Tryz.results54,go_sem,q1,q2]) rfl ⟨rfl,pair_set HB.out _ _⟩
 ·go_enter Tryz.func54,Tryz.ntmps54
  go_wp2_with fail
  refine(bare_any 2 _).mono ?_
  rintro e w1 ⟨rfl,hb1⟩
  obtain⟨q1,q2,f1,f2⟩:=pair_kept w _ w1 hb1
  have HB:Hid (Below w.heap.size w w1):=pair_below hb1
  clear hb1
  go_wp2
  refine bodyPost_ret (v:=.agg #[.int .i64 2,.int .i64 (-1)]) (by simp [results,Tryz.results54,go_sem,q1,q2]) rfl ⟨rfl,pair_set HB.out _ _⟩
theorem nodesFault_scan (p:Option Addr)(l:List ByteArray)(c:Nat)(w:World)(h1:¬ l.length < 1)(h2:¬ 16 < l.length)(hc:l.length<=c)(ht:∀ x ∈ l,x.size<=1000000)(hs:Strs w p l) :
 Calls Tryz.prog 54 #[.slice p l.length c] w fun e w'=>e=.returned (.agg #[.int .i64 (scanF l 0 l.length).1,.int .i64 (scanF l 0 l.length).2])/\Below w.heap.size w w':=by
 have HT:Hid (∀ i,i < l.length->(txt l i).size<=1000000):=fun i hi=>ht _ (txt_mem hi)
 have HS:Hid (Strs w p l):=hs
 have g1:decide ((l.length:Int) < 1)=false:=decide_eq_false (by omega)
 have g2:decide (16 < (l.length:Int))=false:=decide_eq_false (by omega)
 obtain⟨b,o,rfl⟩:∃ b o,p=some ⟨b,o,none⟩:=by
  rcases hs with h0 | ⟨b,o,hp,_⟩
  ·rw [h0] at h1;exact absurd (by decide) h1
  ·exact⟨b,o,hp⟩
 clear hs ht
 obtain⟨R,hR⟩:∃ R,R=scanF l 0 l.length:=⟨_,rfl⟩
 rw [<- hR]
 have HR:Hid (R=scanF l 0 l.length):=hR
 clear hR
 go_enter Tryz.func54,Tryz.ntmps54
 go_wp2
 have HB0:Hid (Below (w.alloc (.cells #[.int .i64 0,.int .i64 0] 39)).heap.size (w.alloc (.cells #[.int .i64 0,.int .i64 0] 39)) (w.alloc (.cells #[.int .i64 0,.int .i64 0] 39))):=Below.refl _ _
 have HK:Hid (∀ wq,Below (w.alloc (.cells #[.int .i64 0,.int .i64 0] 39)).heap.size (w.alloc (.cells #[.int .i64 0,.int .i64 0] 39)) wq->(wq.cell? ⟨w.heap.size,0,none⟩=some (.int .i64 0)/\wq.cell? ⟨w.heap.size,1,none⟩=some (.int .i64 0)/\wq.frozen? ⟨w.heap.size,0,none⟩=false/\wq.frozen? ⟨w.heap.size,1,none⟩=false)/\Below w.heap.size w wq):=fun wq h=>⟨pair_kept w _ wq h,pair_below h⟩
 generalize w.alloc (.cells #[.int .i64 0,.int .i64 0] 39)=w0 at HB0 HK ⊢
 go_loopw [3] (fun x wq=>∃ i:Nat,i<=l.length/\x=.int .i64 i/\scanF l i (l.length - i)=R/\Below w0.heap.size w0 wq) (fun x _=>l.length - (intOf x).toNat)
 case atStart=>exact⟨0,Nat.zero_le _,rfl,HR.out.symm,HB0.out⟩
 case round =>
  obtain⟨i,hi,rfl,hsc,hbq⟩:=hrel
  obtain⟨w1,rfl⟩:∃ w1,w1=wr:=⟨_,rfl⟩
  have HSC:Hid (scanF l i (l.length - i)=R):=hsc
  have HBQ:Hid (Below w0.heap.size w0 w1):=hbq
  obtain⟨⟨q1,q2,f1,f2⟩,hbw⟩:=HK.out w1 hbq
  have HBW:Hid (Below w.heap.size w w1):=hbw
  have HS1:Hid (Strs w1 (some ⟨b,o,none⟩) l):=HS.out.below hbw
  clear hsc hbq hbw HR
  by_cases hil:i < l.length
  ·have q3 : w1.cell? ⟨b, o + i, none⟩ = some (.string (txt l i)) := by
    rcases HS1.out with h0 | ⟨b',o',hp,_,hcell⟩
    ·rw [h0] at hil;exact absurd hil (Nat.not_lt_zero _)
    ·obtain⟨rfl,rfl⟩:b=b'/\o=o':=by simpa using hp
     exact hcell i hil
   have HNAME:Hid (∀ W,Calls Tryz.prog 26 #[.string (txt l i)] W fun e w'=>e=.returned (.bool (isN (txt l i)))/\w'=W):=fun W=>isName_any _ W (HT.out i hil)
   have HTAKE:Hid ((l.take i).length=i):=by show _=_;rw [List.length_take];omega
   have HSUC:Hid (scanF l i (l.length - i)=if faultAt l i=0 then scanF l (i+1) (l.length - (i+1)) else (((faultAt l i:Nat):Int),(i:Int))):=by
    show _=_
    rw [show l.length - i=(l.length - (i+1))+1 by omega]
    rfl
   by_cases hN:isN (txt l i)=true
   ·by_cases hM:txt l i ∈ l.take i
    ·have HA : Hid (R = (6, (i : Int))) := by
      show _=_
      rw [<- HSC.out,HSUC.out,faultAt_twice hN hM,if_neg (by decide)]
      rfl
     have HIX:Hid (∀ W,Strs W (some ⟨b,o,none⟩) (l.take i)->Calls Tryz.prog 46 #[.slice (some ⟨b,o,none⟩) (l.take i).length c,.string (txt l i)] W fun e w'=>e=.returned (.int .i64 ((idxN (l.take i) (txt l i):Nat):Int))/\w'=W):=fun W hW=>index_hit _ _ c _ W (by rw [List.length_take];omega) hW hM
     rw [hN] at HNAME
     rw [HTAKE.out] at HIX
     have HST:Hid (Strs w1 (some ⟨b,o,none⟩) (l.take i)):=HS1.out.take i
     clear HSC HSUC HT HTAKE hN hM
     generalize idxN (l.take i) (txt l i)=k at *
     generalize txt l i=t at *
     go_wp2_with fail
     refine(HNAME.out _).mono ?_
     rintro e w2 ⟨rfl,hw2⟩
     rw [hw2]
     clear hw2 w2 HNAME
     go_wp2
     go_quiet ((go_at_call 46;exact Calls.quiet_of_same (HIX.out _ (HST.out.drewN _))))
     go_wp2
     refine bodyPost_ret (v:=.agg #[.int .i64 R.1,.int .i64 R.2]) (by rw [HA.out];simp [results,Tryz.results54,go_sem,q1,q2]) rfl ⟨rfl,?_⟩
     exact pair_set (below_drewN HBW.out _) _ _
    ·have HA : Hid (scanF l (i + 1) (l.length - (i + 1)) = R) := by
      show _=_
      rw [<- HSC.out,HSUC.out,faultAt_fine hN hM,if_pos rfl]
     have HIX:Hid (∀ W,Strs W (some ⟨b,o,none⟩) (l.take i)->Calls Tryz.prog 46 #[.slice (some ⟨b,o,none⟩) (l.take i).length c,.string (txt l i)] W fun e w'=>e=.returned (.int .i64 (-1))/\w'=W):=fun W hW=>index_miss _ _ c _ W (by rw [List.length_take];omega) hW hM
     rw [hN] at HNAME
     rw [HTAKE.out] at HIX
     have HST:Hid (Strs w1 (some ⟨b,o,none⟩) (l.take i)):=HS1.out.take i
     clear HSC HSUC HT HTAKE hN hM
     generalize txt l i=t at *
     go_wp2_with fail
     refine(HNAME.out _).mono ?_
     rintro e w2 ⟨rfl,hw2⟩
     rw [hw2]
     clear hw2 w2 HNAME
     go_wp2
     go_quiet ((go_at_call 46;exact Calls.quiet_of_same (HIX.out _ (HST.out.drewN _))))
     go_wp2
     go_roundw
     case rel=>exact⟨i+1,by omega,by go_num,HA.out,below_drewN HBQ.out _⟩
     case measure=>simp [intOf];omega
   ·have hN':isN (txt l i)=false:=Bool.eq_false_iff.2 hN
    have HA:Hid (R=(4,(i:Int))):=by
     show _=_
     rw [<- HSC.out,HSUC.out,faultAt_name hN',if_neg (by decide)]
     rfl
    rw [hN'] at HNAME
    clear HSC HSUC HT HTAKE hN hN'
    generalize txt l i=t at *
    go_wp2_with fail
    refine(HNAME.out _).mono ?_
    rintro e w2 ⟨rfl,hw2⟩
    rw [hw2]
    clear hw2 w2 HNAME
    go_wp2
    refine bodyPost_ret (v:=.agg #[.int .i64 R.1,.int .i64 R.2]) (by rw [HA.out];simp [results,Tryz.results54,go_sem,q1,q2]) rfl ⟨rfl,?_⟩
    exact pair_set HBW.out _ _
  ·have hie:i=l.length:=by omega
   subst hie
   have HA:Hid (R=(0,-1)):=by
    show _=_
    rw [<- HSC.out,Nat.sub_self]
    rfl
   clear HSC
   go_wp2_with fail
   refine(fine_any _).mono ?_
   rintro e w2 ⟨rfl,hb2⟩
   obtain⟨⟨r1,r2,e1,e2⟩,hbw⟩:=HK.out w2 (HBQ.out.trans (hb2.mono HBQ.out.size))
   clear q1 q2 f1 f2 hb2
   go_wp2
   refine bodyPost_ret (v:=.agg #[.int .i64 R.1,.int .i64 R.2]) (by rw [HA.out];simp [results,Tryz.results54,go_sem,r1,r2]) rfl ⟨rfl,?_⟩
   exact pair_set hbw _ _
theorem nodesFault_any (p:Option Addr)(l:List ByteArray)(c:Nat)(w:World)(hl:l.length<=1000000)(hc:l.length<=c)(ht:∀ x ∈ l,x.size<=1000000)(hs:Strs w p l) :
 Calls Tryz.prog 54 #[.slice p l.length c] w fun e w'=>e=.returned (.agg #[.int .i64 (nodesF l).1,.int .i64 (nodesF l).2])/\Below w.heap.size w w':=by
 by_cases h:l.length < 1∨16 < l.length
 ·rw [nodesF_bound h]
  exact nodesFault_bound p l c w hl h
 ·rw [nodesF_scan (by omega) (by omega)]
  exact nodesFault_scan p l c w (by omega) (by omega) hc ht hs
theorem box_set {w wq:World}(hb:Below w.heap.size w wq)(a b:Value):Below w.heap.size w ((wq.setCell ⟨w.heap.size+1,0,none⟩ a).setCell ⟨w.heap.size+1,1,none⟩ b) :=
 (hb.setCell (p:=⟨w.heap.size+1,0,none⟩) (by show w.heap.size<=w.heap.size+1;omega) _).setCell (p:=⟨w.heap.size+1,1,none⟩) (by show w.heap.size<=w.heap.size+1;omega) _
theorem rcfg_any (c:Cfg)(p:Option Addr)(cap:Nat)(w:World)(hc:CfgAt w c p cap) :
 Calls Tryz.prog 25 #[cfgA c (.slice p c.L.length cap)] w fun e w'=>e=.returned (.agg #[.int .i64 (cfgF c).1,.int .i64 (cfgF c).2])/\Below w.heap.size w w':=by
 obtain⟨hs,hcap,hnn,hlen,hsz,hin⟩:=hc
 obtain⟨w1,hw1⟩:∃ w1,w1=(w.alloc (.cells #[.int .i64 c.n,.int .i64 c.k,.slice p c.L.length cap] 24)).alloc (.cells #[.int .i64 0,.int .i64 0] 39):=⟨_,rfl⟩
 have HW1:Hid (w1=(w.alloc (.cells #[.int .i64 c.n,.int .i64 c.k,.slice p c.L.length cap] 24)).alloc (.cells #[.int .i64 0,.int .i64 0] 39)):=hw1
 have e2:(w.alloc (.cells #[.int .i64 c.n,.int .i64 c.k,.slice p c.L.length cap] 24)).heap.size=w.heap.size+1:=by simp
 have hb1:Below w.heap.size w w1:=by rw [hw1];exact((Below.refl _ _).alloc (Nat.le_refl _) _).alloc (by rw [e2];omega) _
 have hx1:w1.heap[w.heap.size]?=some (.cells #[.int .i64 c.n,.int .i64 c.k,.slice p c.L.length cap] 24 (0,0)):=by
  rw [hw1,heap_alloc_old _ _ (by rw [e2];omega)]
  exact heap_alloc_new _ _
 have hy1:w1.heap[w.heap.size+1]?=some (.cells #[.int .i64 0,.int .i64 0] 39 (0,0)):=by
  rw [hw1,<- e2]
  exact heap_alloc_new _ _
 have hl1:=(Array.getElem?_eq_some_iff.1 hy1).1
 have HKE:Hid (∀ W,Below w1.heap.size w1 W->W.cell? ⟨w.heap.size+1,0,none⟩=some (.int .i64 0)/\W.cell? ⟨w.heap.size+1,1,none⟩=some (.int .i64 0)/\(∀ i,W.frozen? ⟨w.heap.size+1,i,none⟩=false)/\Below w.heap.size w W):=fun W hW=>by
  have hy:=(hW.block _ hl1).trans hy1
  exact⟨by simp [World.cell?,hy],by simp [World.cell?,hy],fun i=>by simp [World.frozen?,hy],hb1.trans (hW.mono hb1.size)⟩
 have q0:w1.cell? ⟨w.heap.size,0,none⟩=some (.int .i64 c.n):=by simp [World.cell?,hx1]
 have q1:w1.cell? ⟨w.heap.size,1,none⟩=some (.int .i64 c.k):=by simp [World.cell?,hx1]
 have q2:w1.cell? ⟨w.heap.size,2,none⟩=some (.slice p c.L.length cap):=by simp [World.cell?,hx1]
 have HBA:Hid (∀ (x:Int) (W:World),Calls Tryz.prog 27 #[.int .i64 x] W fun e w'=>e=.returned (.agg #[.int .i64 x,.int .i64 (-1)])/\Below W.heap.size W w'):=fun x W=>bare_any x W
 by_cases h1:1<=c.k/\c.k<=c.n/\c.n<=12
 ·have HIS:Hid (Calls Tryz.prog 53 #[.int .i64 c.n,.int .i64 c.k] w1 fun e w'=>e=.returned (.bool true)/\w'=w1):=isSpread_yes c.n c.k w1 h1.1 h1.2.1 h1.2.2
  by_cases h2:(c.L.length:Int)=c.n
  ·have HNF:Hid (Calls Tryz.prog 54 #[.slice p c.L.length cap] w1 fun e w'=>e=.returned (.agg #[.int .i64 (nodesF c.L).1,.int .i64 (nodesF c.L).2])/\Below w1.heap.size w1 w'):=nodesFault_any p c.L cap w1 (by omega) hcap (fun x hx=>by have:=hsz x hx;omega) (hs.below hb1)
   rw [cfgF_nodes h1 h2]
   clear hw1 hb1 hx1 hy1 hl1 e2 hs hin HBA
   generalize nodesF c.L=F at *
   obtain⟨cn,ck,L⟩:=c
   obtain⟨F1,F2⟩:=F
   unfold cfgA
   simp only [] at *
   have d1:((L.length:Int)==cn)=true:=by simpa using h2
   go_enter Tryz.func25,Tryz.ntmps25
   go_wp2_with fail
   rw [<- HW1.out]
   refine HIS.out.mono ?_
   rintro e w2 ⟨rfl,hw2⟩
   rw [hw2]
   clear hw2 w2 HIS
   go_wp2_with fail
   refine HNF.out.mono ?_
   rintro e w3 ⟨rfl,hb3⟩
   obtain⟨z0,z1,z2,hlow⟩:=HKE.out w3 hb3
   have HB3:Hid (Below w.heap.size w w3):=hlow
   clear hb3 hlow HNF
   go_wp2
   refine bodyPost_ret (v:=.agg #[.int .i64 F1,.int .i64 F2]) (by simp [results,Tryz.results25,go_sem,z0,z1]) rfl ⟨rfl,box_set HB3.out _ _⟩
  ·rw [cfgF_shape h1 h2]
   clear hw1 hb1 hx1 hy1 hl1 e2 hs hin
   obtain⟨cn,ck,L⟩:=c
   unfold cfgA
   simp only [] at *
   have d1:((L.length:Int)==cn)=false:=by simpa using h2
   have d2:((L.length:Int) != cn)=true:=by simpa using h2
   go_enter Tryz.func25,Tryz.ntmps25
   go_wp2_with fail
   rw [<- HW1.out]
   refine HIS.out.mono ?_
   rintro e w2 ⟨rfl,hw2⟩
   rw [hw2]
   clear hw2 w2 HIS
   go_wp2_with fail
   refine(HBA.out 3 w1).mono ?_
   rintro e w3 ⟨rfl,hb3⟩
   obtain⟨z0,z1,z2,hlow⟩:=HKE.out w3 hb3
   have HB3:Hid (Below w.heap.size w w3):=hlow
   clear hb3 hlow
   go_wp2
   refine bodyPost_ret (v:=.agg #[.int .i64 3,.int .i64 (-1)]) (by simp [results,Tryz.results25,go_sem,z0,z1]) rfl ⟨rfl,box_set HB3.out _ _⟩
 ·have HIS:Hid (Calls Tryz.prog 53 #[.int .i64 c.n,.int .i64 c.k] w1 fun e w'=>e=.returned (.bool false)/\w'=w1):=isSpread_no c.n c.k w1 h1
  rw [cfgF_bound h1]
  clear hw1 hb1 hx1 hy1 hl1 e2 hs hin h1
  obtain⟨cn,ck,L⟩:=c
  unfold cfgA
  simp only [] at *
  go_enter Tryz.func25,Tryz.ntmps25
  go_wp2_with fail
  rw [<- HW1.out]
  refine HIS.out.mono ?_
  rintro e w2 ⟨rfl,hw2⟩
  rw [hw2]
  clear hw2 w2 HIS
  go_wp2_with fail
  refine(HBA.out 2 w1).mono ?_
  rintro e w3 ⟨rfl,hb3⟩
  obtain⟨z0,z1,z2,hlow⟩:=HKE.out w3 hb3
  have HB3:Hid (Below w.heap.size w w3):=hlow
  clear hb3 hlow
  go_wp2
  refine bodyPost_ret (v:=.agg #[.int .i64 2,.int .i64 (-1)]) (by simp [results,Tryz.results25,go_sem,z0,z1]) rfl ⟨rfl,box_set HB3.out _ _⟩
theorem renough_any (c:Cfg)(lv:Value)(hlv:∃ p n d,lv=.slice p n d)(w:World)(h:1<=c.k/\c.k<=c.n/\c.n<=12) :
 Calls Tryz.prog 47 #[cfgA c lv] w fun e w'=>e=.returned (.int .i64 ((enoughN c:Nat):Int))/\Below w.heap.size w w':=by
 obtain⟨p,nn,d,rfl⟩:=hlv
 obtain⟨w1,hw1⟩:∃ w1,w1=w.alloc (.cells #[.int .i64 c.n,.int .i64 c.k,.slice p nn d] 24):=⟨_,rfl⟩
 have HW1:Hid (w1=w.alloc (.cells #[.int .i64 c.n,.int .i64 c.k,.slice p nn d] 24)):=hw1
 have HB1:Hid (Below w.heap.size w w1):=zBe hw1
 have q0:w1.cell? ⟨w.heap.size,0,none⟩=some (.int .i64 c.n):=zAc hw1 rfl
 have q1:w1.cell? ⟨w.heap.size,1,none⟩=some (.int .i64 c.k):=zAc hw1 rfl
 have HE:Hid (enoughN c=(c.n.toNat+c.k.toNat+1) / 2):=by show _=_;rfl
 generalize enoughN c=E at *
 obtain⟨cn,ck,L⟩:=c
 unfold cfgA
 simp only [] at *
 obtain⟨nn',rfl⟩:=Int.eq_ofNat_of_zero_le (show 0<=cn by omega)
 obtain⟨kk,rfl⟩:=Int.eq_ofNat_of_zero_le (show 0<=ck by omega)
 have hE:E=(nn'+kk+1) / 2:=HE.out
 clear hw1 HE
 go_enter Tryz.func47,Tryz.ntmps47
 go_wp2
 rw [show w.alloc (.cells #[.int .i64 (nn':Int),.int .i64 (kk:Int),.slice p nn d] 24)=w1 from HW1.out.symm]
 clear HW1
 have hn12:nn'<=12:=by omega
 have hk12:kk<=12:=by omega
 go_loopw [3] (fun x wr=>∃ i:Nat,i<=E/\x=.int .i64 i/\wr=w1) (fun x _=>E - (intOf x).toNat)
 case atStart=>exact⟨0,Nat.zero_le _,rfl,rfl⟩
 case round =>
  obtain⟨i,hi,rfl,hwr⟩:=hrel
  subst hwr
  by_cases hil:i < E
  ·have d1:decide (2*(i:Int) < (nn':Int)+(kk:Int))=true:=decide_eq_true (by omega)
   go_wp2
   go_roundw
   case rel=>exact⟨i+1,by omega,by go_num,trivial⟩
   case measure=>simp [intOf];omega
  ·obtain rfl:i=E:=by omega
   have d1:decide (2*(i:Int) < (nn':Int)+(kk:Int))=false:=decide_eq_false (by omega)
   go_wp2
   go_ret
   exact⟨rfl,HB1.out⟩
theorem rencode_any (n k:Nat)(s:ByteArray)(w:World)(hk1:1<=k)(hkn:k<=n)(hn:n<=12)(hs:s.size<=3000) :
 Calls Tryz.prog 65 #[.int .i64 (n:Int),.int .i64 (k:Int),.string s] w fun e w'=>(∃ v,e=.returned v/\OwnSh w' w.heap.size v ((List.range n).map fun i=>(i,encRow (bytesOf s) k (wideN k s.size) i)))/\Below w.heap.size w w':=by
 obtain⟨i1,hi1,hy0,hy1,hy2⟩:=info_parts shinfo
 obtain⟨i0,hi0,hz0,hz1,hzb⟩:=info_parts u8info
 have hwd:=wideN_le (size:=s.size) hk1
 go_enter Tryz.func65,Tryz.ntmps65
 go_wp2_with fail
 refine(rwide_any k s.size _ hk1 (by omega) (by omega)).mono ?_
 rintro e w' ⟨rfl,hww⟩
 rw [hww]
 clear hww w'
 go_wp2_with fail
 refine(rspread_any n k _ (by omega) hk1 (by omega)).mono ?_
 rintro e w2 ⟨⟨p2,c2,rfl,hm2⟩,hb2⟩
 have HM2:Hid (Mat w2 p2 (spreadM k n)):=hm2
 have HB2:Hid (Below w.heap.size w w2):=hb2
 have hs2:w.heap.size<=w2.heap.size:=hb2.size
 clear hm2 hb2
 generalize hwe:wideN k s.size=wd at *
 have HWE:Hid (wideN k s.size=wd):=hwe
 clear hwe
 go_wp2
 have hsz:(bytesOf s).length=s.size:=by simp [bytesOf]
 go_loopw [9,10] (fun v x wr=>∃ i:Nat,i<=n/\x=.int .i64 i/\OwnSh wr w2.heap.size v ((List.range i).map fun i=>(i,encRow (bytesOf s) k wd i))/\Below w2.heap.size w2 wr) (fun _ x _=>n - (intOf x).toNat)
 case atStart=>exact⟨0,by omega,rfl,World.ownsRow_nil _ _ _ _,Below.refl _ _⟩
 case round =>
  obtain⟨i,hi,rfl,hO,hB⟩:=hrel
  obtain⟨w3,rfl⟩:∃ w3,w3=wr:=⟨_,rfl⟩
  have HO:Hid (OwnSh w3 w2.heap.size u9 ((List.range i).map fun i=>(i,encRow (bytesOf s) k wd i))):=hO
  have HB:Hid (Below w2.heap.size w2 w3):=hB
  have hz3:w2.heap.size<=w3.heap.size:=hB.size
  clear hO hB
  by_cases hil:i < n
  ·go_wp2_with (first | (at_make;refine wpList_make_row _ rfl (.tmp 26) (.tmp 26) 138 rfl 5 i0 (byteV 0) Tryz.underlying138 hi0 hz0 hz1 rfl .i64 .i64 wd rfl rfl (by rw [hzb];omega) (by omega) ?_))
   have hmk:OwnN (w3.alloc (.cells (madeCells #[byteV 0] wd) 5)) w3.heap.size 5 w3.heap.size wd (rowFn wd (fun c=>if c < 0 then encN (bytesOf s) k wd i c k else 0)):=by
    have:=OwnN.made w3 w3.heap.size 5 wd (Nat.le_refl _) (by omega)
    rw [rowFn_congr wd _ (fun c=>if c < 0 then encN (bytesOf s) k wd i c k else 0) (fun c _=>by rw [if_neg (Nat.not_lt_zero _)])] at this
    exact this
   have hbk:Below w3.heap.size w3 (w3.alloc (.cells (madeCells #[byteV 0] wd) 5)):=(Below.refl _ _).alloc (Nat.le_refl _) _
   generalize w3.alloc (.cells (madeCells #[byteV 0] wd) 5)=w4 at hmk hbk ⊢
   have HMK:Hid (OwnN w4 w3.heap.size 5 w3.heap.size wd (rowFn wd (fun c=>if c < 0 then encN (bytesOf s) k wd i c k else 0))):=hmk
   have HBK:Hid (Below w3.heap.size w3 w4):=hbk
   clear hmk hbk
   go_loopw [12] (fun x wq=>∃ c:Nat,c<=wd/\x=.int .i64 c/\OwnN wq w3.heap.size 5 w3.heap.size wd (rowFn wd (fun d=>if d < c then encN (bytesOf s) k wd i d k else 0))/\Below w3.heap.size w3 wq) (fun x _=>wd - (intOf x).toNat)
   case atStart=>exact⟨0,by omega,rfl,HMK.out,HBK.out⟩
   case round =>
    obtain⟨c,hc,rfl,hON,hBq⟩:=hrel
    obtain⟨w5,rfl⟩:∃ w5,w5=wr:=⟨_,rfl⟩
    have HON:Hid (OwnN w5 w3.heap.size 5 w3.heap.size wd (rowFn wd (fun d=>if d < c then encN (bytesOf s) k wd i d k else 0))):=hON
    have HBq:Hid (Below w3.heap.size w3 w5):=hBq
    clear hON hBq HMK HBK
    by_cases hcl:c < wd
    ·go_wp2
     go_loopw [13] (fun x wq=>∃ j:Nat,j<=k/\x=.int .i64 j/\OwnN wq w3.heap.size 5 w3.heap.size wd (rowFn wd (fun d=>if d < c then encN (bytesOf s) k wd i d k else if d=c then encN (bytesOf s) k wd i c j else 0))/\Below w3.heap.size w3 wq) (fun x _=>k - (intOf x).toNat)
     case atStart =>
      refine⟨0,by omega,rfl,?_,HBq.out⟩
      rw [rowFn_congr wd _ (fun d=>if d < c then encN (bytesOf s) k wd i d k else 0) (fun d _=>by by_cases e:d=c <;> simp [e,encN])]
      exact HON.out
     case round =>
      obtain⟨j,hjk,rfl,hON2,hBq2⟩:=hrel
      obtain⟨w6,rfl⟩:∃ w6,w6=wr:=⟨_,rfl⟩
      have HON2:Hid (OwnN w6 w3.heap.size 5 w3.heap.size wd (rowFn wd (fun d=>if d < c then encN (bytesOf s) k wd i d k else if d=c then encN (bytesOf s) k wd i c j else 0))):=hON2
      have HBq2:Hid (Below w3.heap.size w3 w6):=hBq2
      clear hON2 hBq2 HON HBq
      by_cases hjl:j < k
      ·have hb:j*wd<=12*3000:=Nat.mul_le_mul (by omega) (by omega)
       have hp0:(0:Int)<=(j:Int)*(wd:Int):=by rw [<- Int.natCast_mul];omega
       have hp1:(j:Int)*(wd:Int)<=36000:=by rw [<- Int.natCast_mul];omega
       by_cases hin:j*wd+c < s.size
       ·have h2:(j:Int)*(wd:Int)+(c:Int) < (s.size:Int):=by rw [<- Int.natCast_mul];omega
        have hlr:(rowOf (spreadM k n) i).length=k:=by rw [spreadM_row k n i hil,rowFn_length]
        obtain⟨bm,om,b1,o1,c1,hpm,hbm,hb1,hcM,hdM⟩:=HM2.out.row (i:=i) (by rw [spreadM_length];exact hil) (by rw [hlr];omega)
        subst hpm
        rw [hlr] at hcM hdM
        have toW6:∀ b o,b < w2.heap.size->w6.cell? ⟨b,o,none⟩=w2.cell? ⟨b,o,none⟩:=fun b o hb=>(HBq2.out.cell (p:=⟨b,o,none⟩) (by show b < _;omega)).trans (HB.out.cell (p:=⟨b,o,none⟩) hb)
        have q1:w6.cell? ⟨bm,om+i,none⟩=some (.slice (some ⟨b1,o1,none⟩) k c1):=(toW6 _ _ hbm).trans hcM
        have q2:w6.cell? ⟨b1,o1+j,none⟩=some (.int .u8 ((Gf.shareOf (upToL k) j i:Nat):Int)):=by rw [toW6 _ _ hb1,hdM j hjl,spreadM_row k n i hil,nth_rowFn _ _ j hjl]
        have q5:w6.cell? ⟨w3.heap.size,c,none⟩=some (.int .u8 ((encN (bytesOf s) k wd i c j:Nat):Int)):=by rw [HON2.out.cell c hcl (rowFn_length _ _),nth_rowFn _ _ c hcl,if_neg (Nat.lt_irrefl _),if_pos rfl]
        have q6:w6.frozen? ⟨w3.heap.size,c,none⟩=false:=HON2.out.free c
        have lx:=Gf.shareOf_lt (upToL k) j i
        have ly:=bytesOf_lt s (j*wd+c)
        have ls:=encN_lt (bytesOf s) k wd i c j
        have lm:=Gf.mul_lt lx (Gf.nth (bytesOf s) (j*wd+c))
        have h0:(0:Int)<=(j:Int)*(wd:Int)+(c:Int):=by omega
        have hidx:∀ W,Sem.run Tryz.prog (Instr.index 9 (.string s) (.int .i64 ((j:Int)*(wd:Int)+(c:Int)))) W=.ok (.int .u8 ((Gf.nth (bytesOf s) (j*wd+c):Nat):Int)) W:=fun W=>by
         rw [run_index_string W 9 s .i64 _ Tryz.underlying9,dif_pos ⟨h0,h2⟩]
         rw [bytesOf_nth s (j*wd+c) hin]
         congr 3
        have HX:Hid (bits .xor .u8 ((encN (bytesOf s) k wd i c j:Nat):Int) ((Gf.mul (Gf.shareOf (upToL k) j i) (Gf.nth (bytesOf s) (j*wd+c)):Nat):Int)=((encN (bytesOf s) k wd i c (j+1):Nat):Int)):=by
         show _=_
         rw [u8_xor_nat _ _ ls lm]
         show _=(((if j*wd+c < (bytesOf s).length then _ else _):Nat):Int)
         rw [if_pos (by omega)]
        have hw1:IntKind.i64.wrap ((j:Int)*(wd:Int))=(j:Int)*(wd:Int):=by rw [IntKind.wrap_i64];omega
        have hw2:IntKind.i64.wrap ((j:Int)*(wd:Int)+(c:Int))=(j:Int)*(wd:Int)+(c:Int):=by rw [IntKind.wrap_i64];omega
        have n1:w3.heap.size≠bm:=by omega
        have n2:w3.heap.size≠b1:=by omega
        clear toW6 hcM hdM hin hb
        generalize Gf.shareOf (upToL k) j i=x at q2 lx lm HX
        generalize Gf.nth (bytesOf s) (j*wd+c)=y at hidx ly lm HX
        have HON2':Hid (OwnN w6 w3.heap.size 5 w3.heap.size wd (rowFn wd (fun d=>if d < c then encN (bytesOf s) k wd i d k else if d=c then encN (bytesOf s) k wd i c j else 0))):=HON2.out
        generalize encN (bytesOf s) k wd i c j=sacc at q5 ls HX HON2'
        go_wp2
        refine wp_region_still_tail 23 (by kernel_rfl) (by kernel_rfl) ?_
        simp only [List.take_succ_cons,List.take_zero,List.drop_succ_cons,List.drop_zero]
        repeat still_step
        still_call (rmul_any x y _ lx ly)
        repeat still_step
        refine wpStill_nil ?_
        rw [HX.out]
        have HO7:Hid (OwnN (w6.drewN 1) w3.heap.size 5 w3.heap.size wd (rowFn wd (fun d=>if d < c then encN (bytesOf s) k wd i d k else if d=c then sacc else 0))):=HON2'.out.drewN 1
        have HB7:Hid (Below w3.heap.size w3 (w6.drewN 1)):=below_drewN HBq2.out 1
        have q5':(w6.drewN 1).cell? ⟨w3.heap.size,c,none⟩=some (.int .u8 (sacc:Int)):=q5
        have q6':(w6.drewN 1).frozen? ⟨w3.heap.size,c,none⟩=false:=q6
        change wpList _ _ _ _ _ (w6.drewN 1)
        generalize w6.drewN 1=w7 at HO7 HB7 q5' q6' ⊢
        clear q1 q2 q5 q6 HON2 HON2' HBq2 hidx hw1 hw2 h0 h2
        go_wp2
        go_roundw
        case rel =>
         refine⟨j+1,by omega,by go_num,?_,HB7.out.setCell (Nat.le_refl _) _⟩
         have:=HO7.out.set c (encN (bytesOf s) k wd i c (j+1))
         rw [rowFn_congr wd (fun d=>if d < c then encN (bytesOf s) k wd i d k else if d=c then encN (bytesOf s) k wd i c (j+1) else 0) (fun d=>if d=c then encN (bytesOf s) k wd i c (j+1) else if d < c then encN (bytesOf s) k wd i d k else if d=c then sacc else 0) (fun d _=>by
          by_cases e:d=c
          ·subst e;rw [if_neg (Nat.lt_irrefl _),if_pos rfl,if_pos rfl]
          ·rw [if_neg e,if_neg e,if_neg e])]
         exact this
        case measure=>simp [intOf];omega
       ·have h2:¬ (j:Int)*(wd:Int)+(c:Int) < (s.size:Int):=by rw [<- Int.natCast_mul];omega
        have HE:Hid (encN (bytesOf s) k wd i c (j+1)=encN (bytesOf s) k wd i c j):=by
         show(if j*wd+c < (bytesOf s).length then _ else _)=_
         rw [if_neg (by omega)]
        clear hb hin
        go_wp2
        go_roundw
        case rel=>exact⟨j+1,by omega,by go_num,by rw [HE.out];exact HON2.out,HBq2.out⟩
        case measure=>simp [intOf];omega
      ·have hke:j=k:=by omega
       subst hke
       go_wp2
       go_roundw
       case rel =>
        refine⟨c+1,by omega,by go_num,?_,HBq2.out⟩
        rw [rowFn_congr wd _ (fun d=>if d < c then encN (bytesOf s) j wd i d j else if d=c then encN (bytesOf s) j wd i c j else 0) (fun d _=>by
         by_cases e:d < c
         ·rw [if_pos (by omega),if_pos e]
         ·by_cases e':d=c
          ·subst e';rw [if_pos (by omega),if_neg e,if_pos rfl]
          ·rw [if_neg (by omega),if_neg e,if_neg e'])]
        exact HON2.out
       case measure=>simp [intOf];omega
    ·have hce:c=wd:=by omega
     subst hce
     have hN5:OwnN w5 w3.heap.size 5 w3.heap.size c (encRow (bytesOf s) k c i):=by
      unfold encRow
      rw [rowFn_congr c _ (fun d=>if d < c then encN (bytesOf s) k c i d k else 0) (fun d hd=>by rw [if_pos hd])]
      exact HON.out
     have hcv:Sem.run Tryz.prog (convert 138 9 (.slice (some ⟨w3.heap.size,0,none⟩) c c)) w5=.ok (.string (strOf (encRow (bytesOf s) k c i))) w5:=by
      have hsg:Seg w5 (some ⟨w3.heap.size,0,none⟩) (encRow (bytesOf s) k c i):=⟨rowFn_bytes _ _ (fun d=>encN_lt _ _ _ _ _ _),Or.inr ⟨w3.heap.size,0,rfl,hN5.lt.2,fun d hd=>by
       have hd':d < c:=by unfold encRow at hd;rw [rowFn_length] at hd;exact hd
       rw [Nat.zero_add]
       exact hN5.cell d hd' (rowFn_length _ _)⟩⟩
      have:=conv_seg hsg c
      rw [show(encRow (bytesOf s) k c i).length=c from rowFn_length _ _] at this
      exact this
     have hz5:w3.heap.size<=w5.heap.size:=HBq.out.size
     have HO5:Hid (OwnSh w5 w2.heap.size u9 ((List.range i).map fun i=>(i,encRow (bytesOf s) k c i))):=World.ownsRow.kept HO.out (⟨HBq.out.os,HBq.out.tape,HBq.out.output,HBq.out.size,fun k hk _=>HBq.out.block k hk⟩:w3.grownBy w5 none) (by cases hv:u9.ownBlock <;> simp)
     have HW5:Hid (Below w2.heap.size w2 w5):=HB.out.trans (HBq.out.mono hz3)
     have HL:Hid (((List.range i).map fun i=>(i,encRow (bytesOf s) k c i)).length=i):=by show _=_;simp
     clear hN5 HON
     have HR:Hid ((List.range (i+1)).map (fun i=>(i,encRow (bytesOf s) k c i))=((List.range i).map fun i=>(i,encRow (bytesOf s) k c i)) ++ [(i,encRow (bytesOf s) k c i)]):=by show _=_;simp [List.range_succ]
     generalize encRow (bytesOf s) k c i=row at hcv HR
     generalize ((List.range i).map fun i=>(i,encRow (bytesOf s) k c i))=pre at HO5 HL HR
     go_wp2_with (first | (at_builtin;refine wpList_append_own _ rfl (.tmp 69) (.tmp 74) 123 rfl w2.heap.size 74 i1 (.agg #[.int .i64 0,.string ⟨#[]⟩]) 2 24 Tryz.underlying123 hi1 hy0 hy1 hy2 rfl (by decide) u9 pre.length (shCells pre) rfl (World.ownsRow.alloc HO5.out _) ⟨w5.heap.size,0,none⟩ 1 1 [.int .i64 (i:Int),.string (strOf row)] rfl rfl (fun j u hj=>by match j,hj with | 0,hj=>(simp at hj;subst hj;simp [Addr.add]) | 1,hj=>(simp at hj;subst hj;simp [Addr.add])) (fun u hu=>by simp at hu;rcases hu with rfl | rfl <;> rfl) (by rw [HL.out];unfold maxLen;omega) (by rw [HL.out];omega) (by simp;omega) ?_;intro v' w8 hown' hg' _))
     have hb8:Below w2.heap.size w2 w8:=(HW5.out.alloc (by omega) _).grown hg' (by simp;omega) (fun g hg=>(World.ownsRow.lt HO5.out g hg).1)
     have hO8:=OwnSh.snoc hown' rfl
     go_roundw
     case rel=>exact⟨i+1,by omega,by go_num,by rw [HR.out];exact hO8,hb8⟩
     case measure=>simp [intOf];omega
  ·have hie:i=n:=by omega
   subst hie
   have HF:Hid (OwnSh w3 w.heap.size u9 ((List.range i).map fun j=>(j,encRow (bytesOf s) k (wideN k s.size) j))):=by
    show OwnSh _ _ _ _
    rw [HWE.out]
    obtain⟨h1,h2⟩:=HO.out
    refine⟨h1,?_⟩
    rcases h2 with h2 | ⟨g',cap,cur,e,hbb,rest⟩
    ·exact Or.inl h2
    ·exact Or.inr ⟨g',cap,cur,e,Nat.le_trans hs2 hbb,rest⟩
   have HBF:Hid (Below w.heap.size w w3):=HB2.out.trans (HB.out.mono hs2)
   clear HO HB
   go_wp2
   go_ret
   exact⟨⟨_,rfl,HF.out⟩,HBF.out⟩
end Go.Proofs.YtmhoiodfppdlnaaGreatDoor
