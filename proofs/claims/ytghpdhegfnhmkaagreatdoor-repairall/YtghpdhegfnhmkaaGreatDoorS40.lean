import Derived.Test.YtghpdhegfnhmkaaGreatDoorS32
import Derived.Test.YtghpdhegfnhmkaaGreatDoorS39
import Derived.Test.YtghpdhegfnhmkaaGreatDoorS8
import Derived.StillTailTactics
namespace Go.Proofs.YtghpdhegfnhmkaaGreatDoor
open Go.RowKit
theorem ErrIs.setSl {w:World} {ad:Nat->Addr} {ev:Value} {c at_:Int} {b:Nat} {p:Option Addr} {n m:Nat} (h:ErrIs w ad ev c at_) (hz:w.cell? ⟨b,1,none⟩=Option.some (Value.slice p n m)) (i:Nat) (v:Value):ErrIs (w.setCell ⟨b,i,none⟩ v) ad ev c at_:=by
 rcases h with h | h | ⟨k,fb,hk,he,hc,h0,h1⟩
 ·exact Or.inl h
 ·exact Or.inr (Or.inl h)
 ·have hne : fb ≠ b := fun e => by
   subst e
   rw [hz] at h1
   cases h1
  exact Or.inr (Or.inr ⟨k,fb,hk,he,hc,(World.cell?_setCell_other _ _ _ _ (fun e=>hne (congrArg Addr.block e).symm)).trans h0,(World.cell?_setCell_other _ _ _ _ (fun e=>hne (congrArg Addr.block e).symm)).trans h1⟩)
theorem goodK_of {w:World} {Ks:List (Option (List Kep))} {hp:Nat->Nat} (ho:∀ i L,Ks[i]?=some (some L)->∃ S,HdOf w (hp i) S L false):GoodK Ks:=fun L hL=>by
 obtain ⟨i,hi,e⟩:=List.getElem_of_mem hL
 obtain ⟨S,m,D,row,blk,hd⟩:=ho i L (by rw [List.getElem?_eq_getElem hi,e])
 exact ⟨hd.few,hd.fits⟩
structure LkAt (W:World) (w5:World) (q1:Option Addr) (n1 d1:Nat) (vM:Value) (l:List Nat):Prop where
 two:TwoC W w5.heap.size (.slice q1 n1 d1) vM
 own:OwnR natE 3 W (w5.heap.size+1) vM l
 low:Below w5.heap.size w5 W
theorem LkAt.below {W W' w5:World} {q1:Option Addr} {n1 d1:Nat} {vM:Value} {l:List Nat} (h:LkAt W w5 q1 n1 d1 vM l) (hb:Below W.heap.size W W'):LkAt W' w5 q1 n1 d1 vM l :=
 ⟨h.two.below hb,h.own.kept hb,h.low.trans (hb.mono h.low.size)⟩
theorem LkAt.put {W W' w5:World} {q1:Option Addr} {n1 d1:Nat} {vM v':Value} {l l':List Nat} (h:LkAt W w5 q1 n1 d1 vM l) (hO:OwnR natE 3 W' (w5.heap.size+1) v' l') (hb:Below (w5.heap.size+1) W W'):LkAt (W'.setCell ⟨w5.heap.size,1,none⟩ v') w5 q1 n1 d1 v' l':=by
 have hblk:=hb.block w5.heap.size (Nat.lt_succ_self _)
 have h2:TwoC W' w5.heap.size (.slice q1 n1 d1) vM:=⟨(World.cell?_of_block (a:=⟨w5.heap.size,0,none⟩) hblk).trans h.two.c0,(World.cell?_of_block (a:=⟨w5.heap.size,1,none⟩) hblk).trans h.two.c1,(World.frozen?_of_block (a:=⟨w5.heap.size,0,none⟩) hblk).trans h.two.f0,(World.frozen?_of_block (a:=⟨w5.heap.size,1,none⟩) hblk).trans h.two.f1⟩
 refine ⟨h2.set1 v',hO.sameE fun k hk=>?_,(h.low.trans (hb.mono (Nat.le_succ _))).setCell (Nat.le_refl _) _⟩
 have:=(hO.block hk).1
 exact Deep.blk_setCell_other _ _ _ _ (show k≠w5.heap.size by omega)
set_option maxRecDepth 10000 in
set_option maxHeartbeats 8000000 in
theorem rplook_any (ad:Nat->Addr) (c:Cfg) (p:Option Addr) (cap:Nat) (key:ByteArray) (Ks:List (Option (List Kep))) (hp:Nat->Nat) (ph:Option Addr) (ch:Nat) (w:World) (hc:CfgAt w c p cap) (hk:key.size<=maxLen) (hr:Rec ptoE w ph (ptL hp Ks)) (ho:∀ i L,Ks[i]?=some (some L)->∃ S,HdOf w (hp i) S L false) (hE:ErrsQ w ad) (z:Addr) (hZ:w.cell? ⟨11,0,none⟩=some (.iface 218 (.pointer (some z)))) :
 Calls Tryz.prog 40 #[cfgA c (.slice p c.L.length cap),.string key,.slice ph Ks.length ch] w fun e w'=>(∃ ev q1 d1 q2 d2,e=.returned (.tuple #[.agg #[.slice q1 (lookW c (tellL key Ks)).length d1,.slice q2 (missF (lookW c (tellL key Ks)) (tellL key Ks)).length d2],ev])/\Rec verE w' q1 (lookW c (tellL key Ks))/\Rec natE w' q2 (missF (lookW c (tellL key Ks)) (tellL key Ks))/\(∀ b o,q1=some ⟨b,o,none⟩->w.heap.size<=b)/\(∀ b o,q2=some ⟨b,o,none⟩->w.heap.size<=b)/\ErrIs w' ad ev (lookE c Ks.length).1 (lookE c Ks.length).2)/\Below w.heap.size w w':=by
 have hgood:=goodK_of ho
 have hLL:(tellL key Ks).length=Ks.length:=tellL_length _ _
 obtain ⟨w0,hw0⟩:∃ w0,w0=w.alloc (.cells #[.int .i64 c.n,.int .i64 c.k,.slice p c.L.length cap] 24):=⟨_,rfl⟩
 obtain ⟨w1,hw1⟩:∃ w1,w1=w0.alloc (.cells #[.slice none 0 0,.slice none 0 0] 86):=⟨_,rfl⟩
 have e0:w0.heap.size=w.heap.size+1:=by rw [hw0];simp
 have e1:w1.heap.size=w.heap.size+1+1:=by rw [hw1,<- e0];simp
 have hb0:Below w.heap.size w w0:=by rw [hw0];exact (Below.refl _ _).alloc (Nat.le_refl _) _
 have hb01:Below w0.heap.size w0 w1:=by rw [hw1];exact (Below.refl _ _).alloc (Nat.le_refl _) _
 have hb1:Below w.heap.size w w1:=hb0.trans (hb01.mono hb0.size)
 have hx0:CfgBox w0 w.heap.size c (.slice p c.L.length cap):=by rw [hw0];exact cfgBox_made w c _ _
 have hx1:=hx0.below hb01
 have hT1:TwoC w1 (w.heap.size+1) (.slice none 0 0) (.slice none 0 0):=by
  rw [hw1]
  exact ⟨by rw [World.cell?_alloc_at _ _ _ _ e0.symm];rfl,by rw [World.cell?_alloc_at _ _ _ _ e0.symm];rfl,World.frozen?_alloc_at _ _ _ _ e0.symm,World.frozen?_alloc_at _ _ _ _ e0.symm⟩
 have HCK:=qcheck_any ad c p cap w1 (hc.below hb1) (hE.below hb1)
 have HW1:Hid (w1=(w.alloc (.cells #[.int .i64 c.n,.int .i64 c.k,.slice p c.L.length cap] 24)).alloc (.cells #[.slice none 0 0,.slice none 0 0] 86)):=by show _=_;rw [hw1,hw0]
 have HB1:Hid (Below w.heap.size w w1):=hb1
 have HS1:Hid (w1.heap.size=w.heap.size+1+1):=e1
 have HX1:Hid (CfgBox w1 w.heap.size c (.slice p c.L.length cap)):=hx1
 have HT1:Hid (TwoC w1 (w.heap.size+1) (.slice none 0 0) (.slice none 0 0)):=hT1
 have HE1:Hid (ErrsQ w1 ad):=hE.below hb1
 have HSG:Hid (6 < w.heap.size):=lt_of_cellE hE.c2
 have f0:=hx1.f0
 have f1:=hx1.f1
 have f2:=hx1.f2
 have hHB:∀ W,Below w.heap.size w W->Rec ptoE W ph (ptL hp Ks)/\(∀ i L,Ks[i]?=some (some L)->∃ S,HdOf W (hp i) S L false)/\CfgAt W c p cap/\ErrsQ W ad/\W.cell? ⟨11,0,none⟩=some (.iface 218 (.pointer (some z))):=fun W hW=>⟨hr.below hW,fun i L hi=>by obtain ⟨S,hd⟩:=ho i L hi;exact ⟨S,hd.below hW⟩,hc.below hW,hE.below hW,(hW.cell (p:=⟨11,0,none⟩) (lt_of_cellE hZ)).trans hZ⟩
 by_cases hpc:0 < (cfgF c).1
 ·have hle:=lookE_bad (m:=Ks.length) hpc
  have hlw:lookW c (tellL key Ks)=[]:=lookW_bad (by rw [hLL,hle];exact hpc)
  rw [hlw,hle]
  have HP:Hid (0 < (cfgF c).1):=hpc
  clear hpc hle hlw hHB hgood hLL hw0 hw1 hb0 hb01 hb1 hx0 hx1 hT1 hc hr ho hE hZ e0 e1
  generalize cfgF c=R at *
  generalize tellL key Ks=LL
  have HM0:Hid (missF [] LL=[]):=by show missF [] LL=[];rfl
  rw [HM0.out]
  obtain ⟨n,k,L⟩:=c
  unfold cfgA at *
  dsimp only at *
  go_enter Tryz.func40,Tryz.ntmps40
  go_wp2_with (rw [<- HW1.out])
  refine HCK.mono ?_
  rintro e w3 ⟨⟨ev,rfl,hev⟩,hb3⟩
  have hT3:=HT1.out.below hb3
  have t0:=hT3.c0
  have t1:=hT3.c1
  have tf0:=hT3.f0
  have tf1:=hT3.f1
  have hT4:=(hT3.set0 (.slice none 0 0)).set1 (.slice none 0 0)
  have k0:=hT4.c0
  have k1:=hT4.c1
  have HEV:Hid (ErrIs ((w3.setCell ⟨w.heap.size+1,0,none⟩ (.slice none 0 0)).setCell ⟨w.heap.size+1,1,none⟩ (.slice none 0 0)) ad ev R.1 R.2):=(hev.setSl hT3.c1 0 _).setSl (hT3.set0 (.slice none 0 0)).c1 1 _
  have HB4:Hid (Below w.heap.size w ((w3.setCell ⟨w.heap.size+1,0,none⟩ (.slice none 0 0)).setCell ⟨w.heap.size+1,1,none⟩ (.slice none 0 0))):=((HB1.out.trans (hb3.mono HB1.out.size)).setCell (by show w.heap.size<=w.heap.size+1;omega) _).setCell (by show w.heap.size<=w.heap.size+1;omega) _
  obtain ⟨et,eu,rfl⟩:=hev.some HP.out
  clear hev hb3 HCK f0 f1 f2 hT3 hT4
  go_wp2
  exact bodyPost_ret (v:=.tuple #[.agg #[.slice none 0 0,.slice none 0 0],.iface et eu]) (by simp [results,Tryz.results40,go_sem,k0,k1]) rfl ⟨⟨_,none,0,none,0,rfl,Rec.nil _ _,Rec.nil _ _,(fun _ _ e=>by cases e),(fun _ _ e=>by cases e),HEV.out⟩,HB4.out⟩
 ·obtain ⟨hf,hn,h0,_,_⟩:=cfgF_fine hpc
  rw [h0] at HCK
  by_cases hln:(Ks.length:Int)=c.n
  ·have hle:=lookE_fine (m:=Ks.length) hpc hln
   have hlw:lookW c (tellL key Ks)=wholeF c.n.toNat c.k.toNat (tellL key Ks):=lookW_fine (by rw [hLL,hle];exact Int.lt_irrefl 0)
   rw [hle,hlw]
   have hfl:=tellL_flat_len key hgood
   have HTELL:Hid (∀ W,Below w.heap.size w W->Calls Tryz.prog 61 #[.string key,.slice ph Ks.length ch] W fun e w'=>(∃ g,e=.returned (.slice (some ⟨g,0,none⟩) Ks.length Ks.length)/\Vss w' (some ⟨g,0,none⟩) (tellL key Ks))/\Below W.heap.size W w'):=fun W hW=>rptell_any ph Ks hp ch key W hk (by omega) (hHB W hW).1 (hHB W hW).2.1
   have HALL:Hid (∀ W g,Below w.heap.size w W->Vss W (some ⟨g,0,none⟩) (tellL key Ks)->Calls Tryz.prog 62 #[cfgA c (.slice p c.L.length cap),.slice (some ⟨g,0,none⟩) (tellL key Ks).length Ks.length] W fun e w'=>(∃ q d,e=.returned (.tuple #[.slice q (wholeF c.n.toNat c.k.toNat (tellL key Ks)).length d,.nilIface])/\Rec verE w' q (wholeF c.n.toNat c.k.toNat (tellL key Ks))/\∀ b o,q=some ⟨b,o,none⟩->W.heap.size<=b)/\Below W.heap.size W w'):=fun W g hW hV=>rpall_any ad c p cap (tellL key Ks) (some ⟨g,0,none⟩) Ks.length W (hHB W hW).2.2.1 hpc (by rw [hLL];exact hln) hV (by omega) (fun v hv=>(tellL_i64 hgood v hv).1) (hHB W hW).2.2.2.1 z (hHB W hW).2.2.2.2
   rw [hLL] at HALL
   have HWLEN:Hid ((wholeF c.n.toNat c.k.toNat (tellL key Ks)).length<=Ks.length):=by
    have:=wholeF_len c.n.toNat c.k.toNat (tellL key Ks)
    show _<=_
    omega
   have hK12:Ks.length<=12:=by omega
   have HRL:Hid (∀ i,i < Ks.length->((tellL key Ks).getD i []).length<=1000):=fun i hi=>by
    have h1:=flatten_at_le (tellL key Ks) (i:=i) (by omega)
    omega
   have HLL:Hid ((tellL key Ks).length=Ks.length):=hLL
   clear hpc hn h0 hle hlw hHB hgood hLL hw0 hw1 hb0 hb01 hb1 hx0 hx1 hT1 hc hr ho hE hZ e0 e1 hfl
   generalize tellL key Ks=LL at *
   generalize Ks.length=m at *
   obtain ⟨cn,ck,L⟩:=c
   unfold cfgA at *
   dsimp only at *
   obtain ⟨WL,hWL⟩:∃ WL,WL=wholeF cn.toNat ck.toNat LL:=⟨_,rfl⟩
   rw [<- hWL]
   rw [<- hWL] at HALL HWLEN
   clear hWL
   subst hln
   go_enter Tryz.func40,Tryz.ntmps40
   go_wp2_with (rw [<- HW1.out])
   refine HCK.mono ?_
   rintro e w2 ⟨⟨ev,rfl,hev⟩,hb2⟩
   obtain rfl:=ErrIs.isNil hev
   have hx2:=HX1.out.below hb2
   have HX2:Hid (CfgBox w2 w.heap.size ⟨(m:Int),ck,L⟩ (.slice p L.length cap)):=hx2
   have HT2:Hid (TwoC w2 (w.heap.size+1) (.slice none 0 0) (.slice none 0 0)):=HT1.out.below hb2
   have HB2:Hid (Below w.heap.size w w2):=HB1.out.trans (hb2.mono HB1.out.size)
   have g0:=hx2.f0
   dsimp only at g0
   have HTL:=HTELL.out w2 HB2.out
   clear hev hb2 hx2 HCK f0 f1 f2 HX1 HT1 HTELL HE1
   go_wp2_with fail
   refine HTL.mono ?_
   rintro e w3 ⟨⟨g,rfl,hv3⟩,hb3⟩
   have hx3:=HX2.out.below hb3
   have HX3:Hid (CfgBox w3 w.heap.size ⟨(m:Int),ck,L⟩ (.slice p L.length cap)):=hx3
   have HT3:Hid (TwoC w3 (w.heap.size+1) (.slice none 0 0) (.slice none 0 0)):=HT2.out.below hb3
   have HB3:Hid (Below w.heap.size w w3):=HB2.out.trans (hb3.mono HB2.out.size)
   have HV3:Hid (Vss w3 (some ⟨g,0,none⟩) LL):=hv3
   have HAL:=HALL.out w3 g HB3.out hv3
   have j0:=hx3.f0
   have j1:=hx3.f1
   have j2:=hx3.f2
   dsimp only at j0 j1 j2
   clear hv3 hb3 hx3 g0 HX2 HT2 HB2 HTL HALL
   go_wp2_with fail
   refine HAL.mono ?_
   rintro e w5 ⟨⟨q1,d1,rfl,hr5,hq5⟩,hb5⟩
   have HT5:Hid (TwoC w5 (w.heap.size+1) (.slice none 0 0) (.slice none 0 0)):=HT3.out.below hb5
   have HB5:Hid (Below w.heap.size w w5):=HB3.out.trans (hb5.mono HB3.out.size)
   have HV5:Hid (Vss w5 (some ⟨g,0,none⟩) LL):=HV3.out.below hb5
   have HR5:Hid (Rec verE w5 q1 WL):=hr5
   have HQ1:Hid (∀ b o,q1=some ⟨b,o,none⟩->b≠w.heap.size+1/\w.heap.size<=b):=fun b o e=>by have h1:=hq5 b o e;have h2:=lt_of_cellE HT3.out.c0;have h2:w.heap.size+1 < w3.heap.size:=h2;omega
   clear hq5
   have hrb:w.heap.size+1 < w5.heap.size:=lt_of_cellE HT5.out.c0
   clear hr5 hb5 j0 j1 j2 HX3 HT3 HB3 HV3 HAL
   have hL0:LkAt (w5.alloc (.cells #[.slice q1 WL.length d1,.slice none 0 0] 86)) w5 q1 WL.length d1 (.slice none 0 0) []:=⟨⟨by rw [World.cell?_alloc_at _ _ _ _ rfl];rfl,by rw [World.cell?_alloc_at _ _ _ _ rfl];rfl,World.frozen?_alloc_at _ _ _ _ rfl,World.frozen?_alloc_at _ _ _ _ rfl⟩,OwnR.nil _ _ _,(Below.refl _ _).alloc (Nat.le_refl _) _⟩
   go_wp2
   generalize w5.alloc (.cells #[.slice q1 WL.length d1,.slice none 0 0] 86)=w6 at hL0 ⊢
   have HL0:Hid (LkAt w6 w5 q1 WL.length d1 (.slice none 0 0) []):=hL0
   clear hL0
   go_loopw [45] (fun x wr=>∃ (i:Nat) (vM:Value),i<=WL.length/\x=.int .i64 i/\LkAt wr w5 q1 WL.length d1 vM (missN WL LL i)) (fun x _=>WL.length - (intOf x).toNat)
   case atStart=>exact ⟨0,_,Nat.zero_le _,rfl,HL0.out⟩
   case round =>
    obtain ⟨i,vM,hi,rfl,hL⟩:=hrel
    obtain ⟨w7,rfl⟩:∃ w7,w7=wr:=⟨_,rfl⟩
    have HL:Hid (LkAt w7 w5 q1 WL.length d1 vM (missN WL LL i)):=hL
    have hwl:=HWLEN.out
    clear hL HL0
    by_cases hil:i < WL.length
    ·have hlow:Below w5.heap.size w5 w7:=HL.out.low
     obtain ⟨b1,o1,rfl,hlt1,a0,a1,a2,a3,a4⟩:=ver_cells (HR5.out.below hlow) hil
     have him:i < m:=by omega
     have hvss:=HV5.out.below hlow
     have HROW:Hid (∃ q c,w7.cell? ⟨g,i,none⟩=some (.slice q (LL.getD i []).length c)/\Rec verE w7 q (LL.getD i [])):=by
      rcases hvss with h0 | ⟨b,o,hbo,hltb,hcc⟩
      ·exact absurd (by rw [HLL.out] at *;exact him) (by have:=congrArg List.length h0;rw [HLL.out] at this;simp only [List.length_nil] at this;omega)
      ·obtain ⟨rfl,rfl⟩:g=b/\0=o:=by simpa using hbo
       obtain ⟨q,c,e1,e2,_⟩:=hcc i (by rw [HLL.out];exact him)
       rw [Nat.zero_add] at e1
       exact ⟨q,c,e1,e2⟩
     obtain ⟨qi,ci,hci,hreci⟩:=HROW.out
     have HCON:Hid (∀ W,Below w7.heap.size w7 W->Calls Tryz.prog 63 #[.slice qi (LL.getD i []).length ci,verA (verAt WL i)] W fun e w'=>e=.returned (.bool (decide (verAt WL i ∈ LL.getD i [])))/\Below W.heap.size W w'):=fun W hW=>vcont_any qi (LL.getD i []) ci (verAt WL i) W (by have:=HRL.out i him;omega) (hreci.below hW)
     have HYES:Hid (decide (verAt WL i ∈ LL.getD i [])=true->missN WL LL (i+1)=missN WL LL i):=fun h=>missN_no (by unfold lackB;rw [h];rfl)
     have HNO:Hid (decide (verAt WL i ∈ LL.getD i [])=false->missN WL LL (i+1)=missN WL LL i ++ [i]):=fun h=>missN_yes (by unfold lackB;rw [h];rfl)
     have hml:(missN WL LL i).length<=12:=by have:=missN_le WL LL i;omega
     have him64:i<=12:=by omega
     clear hlow hvss HROW hreci
     generalize decide (verAt WL i ∈ LL.getD i [])=inb at *
     generalize verAt WL i=v at *
     generalize (LL.getD i []).length=li at *
     obtain ⟨vn,vw,vs,va,vt⟩:=v
     unfold verA at *
     dsimp only at a0 a1 a2 a3 a4 HCON
     obtain ⟨w8,hw8⟩:∃ w8,w8=w7.alloc (.cells #[.int .i64 vn,.int .i64 vw,.int .i64 vs,.int .i64 va,.string vt] 47):=⟨_,rfl⟩
     have hb8:Below w7.heap.size w7 w8:=by rw [hw8];exact (Below.refl _ _).alloc (Nat.le_refl _) _
     have HW8:Hid (w8=w7.alloc (.cells #[.int .i64 vn,.int .i64 vw,.int .i64 vs,.int .i64 va,.string vt] 47)):=hw8
     have b0:w8.cell? ⟨w7.heap.size,0,none⟩=some (.int .i64 vn):=by rw [hw8,World.cell?_alloc_at _ _ _ _ rfl];rfl
     have b1':w8.cell? ⟨w7.heap.size,1,none⟩=some (.int .i64 vw):=by rw [hw8,World.cell?_alloc_at _ _ _ _ rfl];rfl
     have b2:w8.cell? ⟨w7.heap.size,2,none⟩=some (.int .i64 vs):=by rw [hw8,World.cell?_alloc_at _ _ _ _ rfl];rfl
     have b3:w8.cell? ⟨w7.heap.size,3,none⟩=some (.int .i64 va):=by rw [hw8,World.cell?_alloc_at _ _ _ _ rfl];rfl
     have b4:w8.cell? ⟨w7.heap.size,4,none⟩=some (.string vt):=by rw [hw8,World.cell?_alloc_at _ _ _ _ rfl];rfl
     have r8:w8.cell? ⟨g,i,none⟩=some (.slice qi li ci):=(hb8.cell (p:=⟨g,i,none⟩) (lt_of_cellE hci)).trans hci
     have HB8:Hid (Below w7.heap.size w7 w8):=hb8
     clear hw8 hb8
     go_wp2
     rw [<- HW8.out]
     clear a0 a1 a2 a3 a4 hci HW8
     refine wp_region_still_tail 5 (by kernel_rfl) (by kernel_rfl) ?_
     simp only [List.take_succ_cons,List.take_zero,List.drop_succ_cons,List.drop_zero]
     still_step
     still_step
     still_step
     still_step
     still_step
     refine wpStill_nil ?_
     have hbd:Below w8.heap.size w8 (w8.drewN 1):=below_drewN (Below.refl _ _) 1
     change wpList _ _ _ _ _ (w8.drewN 1)
     generalize w8.drewN 1=w9 at hbd ⊢
     have HB9:Hid (Below w7.heap.size w7 w9):=HB8.out.trans (hbd.mono HB8.out.size)
     have HC9:=HCON.out w9 HB9.out
     clear hbd HCON b0 b1' b2 b3 b4 r8
     go_wp2_with fail
     refine HC9.mono ?_
     rintro e w10 ⟨rfl,hb10⟩
     have HB10:Hid (Below w7.heap.size w7 w10):=HB9.out.trans (hb10.mono HB9.out.size)
     have hL10:=HL.out.below HB10.out
     have HL10:Hid (LkAt w10 w5 (some ⟨b1,o1,none⟩) WL.length d1 vM (missN WL LL i)):=hL10
     clear hb10 HC9 HB9 HB8
     cases inb with
     | true =>
      have HNX:=HYES.out rfl
      clear HYES HNO
      go_wp2
      go_roundw
      case rel=>exact ⟨i+1,vM,by omega,by go_num,by rw [HNX];exact HL10.out⟩
      case measure=>simp [intOf];omega
     | false =>
      have HNX:Hid (missN WL LL (i+1)=missN WL LL i ++ [i]):=HNO.out rfl
      have t0:=hL10.two.c0
      have t1:=hL10.two.c1
      have tf1:=hL10.two.f1
      obtain ⟨pM,cM,hvM,_⟩:=hL10.own.form
      have HO11:Hid (OwnR natE 3 (w10.alloc (.cells #[.int .i64 (i:Int)] 3)) (w5.heap.size+1) vM (missN WL LL i)):=hL10.own.kept ((Below.refl _ _).alloc (Nat.le_refl _) _)
      have hz10:w5.heap.size+1<=w10.heap.size:=lt_of_cellE t0
      have HNW:Hid (∀ j u,(natE.enc i)[j]?=some u->(w10.alloc (.cells #[.int .i64 (i:Int)] 3)).cell? ⟨w10.heap.size,0+j,none⟩=some u):=fun j u hj=>by
       rw [Nat.zero_add,World.cell?_alloc_at _ _ _ _ rfl]
       match j,hj with
       | 0,hj=>exact hj
      clear HYES HNO hL10
      generalize missN WL LL i=gs at *
      subst hvM
      have tA:(w10.alloc (.cells #[.int .i64 (i:Int)] 3)).cell? ⟨w5.heap.size,1,none⟩=some (.slice pM gs.length cM):=by rw [World.cell?_alloc_past _ _ _ (show w5.heap.size < w10.heap.size by omega)];exact t1
      go_wp2_with (first | (at_builtin;refine wpList_append_rec rfl (.tmp 58) (.tmp 60) 25 3 rfl (.int .i64 0) 8 Tryz.underlying25 intinfoR rfl (w5.heap.size+1) (.slice pM gs.length cM) gs rfl HO11.out w10.heap.size 0 1 i rfl HNW.out (by unfold maxLen;omega) (by omega) (by simp;omega) (by simp) ?_;intro v9 w11 hO11 hb11;have hb12:Below (w5.heap.size+1) w10 w11:=((Below.refl _ w10).alloc hz10 _).trans hb11;have HL12:Hid (LkAt (w11.setCell ⟨w5.heap.size,1,none⟩ v9) w5 (some ⟨b1,o1,none⟩) WL.length d1 v9 (gs ++ [i])):=HL10.out.put hO11 hb12;have hblk:=hb12.block w5.heap.size (Nat.lt_succ_self _);have s1:w11.cell? ⟨w5.heap.size,1,none⟩=some (.slice pM gs.length cM):=(World.cell?_of_block (a:=⟨w5.heap.size,1,none⟩) hblk).trans t1;have sf1:w11.frozen? ⟨w5.heap.size,1,none⟩=false:=(World.frozen?_of_block (a:=⟨w5.heap.size,1,none⟩) hblk).trans tf1;obtain ⟨p9,c9,rfl,_⟩:=hO11.form;clear hO11 hb11 hb12 hblk t0 t1 tf1 tA HO11 HNW HL10))
      go_roundw
      case rel=>exact ⟨i+1,_,by omega,by go_num,by rw [HNX.out];have h:=HL12.out;simp only [List.length_append,List.length_singleton] at h;exact h⟩
      case measure=>simp [intOf];omega
    ·have hie:i=WL.length:=by omega
     subst hie
     have HLE:Hid (LkAt w7 w5 q1 WL.length d1 vM (missF WL LL)):=HL.out
     have t0:=HLE.out.two.c0
     have t1:=HLE.out.two.c1
     obtain ⟨pM,cM,rfl,hrm,_,_,hbm⟩:=HLE.out.own.form
     have hT7:=HT5.out.below (HLE.out.low)
     have k0:=hT7.c0
     have k1:=hT7.c1
     have kf0:=hT7.f0
     have kf1:=hT7.f1
     have hT8:=(hT7.set0 (.slice q1 WL.length d1)).set1 (.slice pM (missF WL LL).length cM)
     have l0:=hT8.c0
     have l1:=hT8.c1
     obtain ⟨w8,hw8⟩:∃ w8,w8=(w7.setCell ⟨w.heap.size+1,0,none⟩ (.slice q1 WL.length d1)).setCell ⟨w.heap.size+1,1,none⟩ (.slice pM (missF WL LL).length cM):=⟨_,rfl⟩
     have hnb:∀ b,b≠w.heap.size+1->w8.heap[b]?=w7.heap[b]?:=fun b hb=>by rw [hw8,Deep.blk_setCell_other _ _ _ _ hb,Deep.blk_setCell_other _ _ _ _ hb]
     have HRM2:Hid (Rec natE ((w7.setCell ⟨w.heap.size+1,0,none⟩ (.slice q1 WL.length d1)).setCell ⟨w.heap.size+1,1,none⟩ (.slice pM (missF WL LL).length cM)) pM (missF WL LL)):=by
      show Rec _ _ _ _
      rw [<- hw8]
      rcases hrm with h | ⟨b,o,hq,hlt,hcc⟩
      ·exact Or.inl h
      ·exact Or.inr ⟨b,o,hq,by rw [hw8];simpa using hlt,fun x y hx j u hu=>(World.cell?_of_block (a:=⟨b,o+x*natE.k+j,none⟩) (hnb b (by have:=(hbm b o hq).1;omega))).trans (hcc x y hx j u hu)⟩
     have HRL2:Hid (Rec verE ((w7.setCell ⟨w.heap.size+1,0,none⟩ (.slice q1 WL.length d1)).setCell ⟨w.heap.size+1,1,none⟩ (.slice pM (missF WL LL).length cM)) q1 WL):=by
      show Rec _ _ _ _
      rw [<- hw8]
      rcases HR5.out.below HLE.out.low with h | ⟨b,o,hq,hlt,hcc⟩
      ·exact Or.inl h
      ·exact Or.inr ⟨b,o,hq,by rw [hw8];simpa using hlt,fun x y hx j u hu=>(World.cell?_of_block (a:=⟨b,o+x*verE.k+j,none⟩) (hnb b (HQ1.out b o hq).1)).trans (hcc x y hx j u hu)⟩
     clear hw8 hnb
     have HQM:Hid (∀ b o,pM=some ⟨b,o,none⟩->w.heap.size<=b):=fun b o e=>by have:=(hbm b o e).1;omega
     have HB8:Hid (Below w.heap.size w ((w7.setCell ⟨w.heap.size+1,0,none⟩ (.slice q1 WL.length d1)).setCell ⟨w.heap.size+1,1,none⟩ (.slice pM (missF WL LL).length cM))):=((HB5.out.trans (HLE.out.low.mono HB5.out.size)).setCell (by show w.heap.size<=w.heap.size+1;omega) _).setCell (by show w.heap.size<=w.heap.size+1;omega) _
     clear hT7 hT8 hrm hbm HT5 HR5 HV5 HRL
     go_wp2
     exact bodyPost_ret (v:=.tuple #[.agg #[.slice q1 WL.length d1,.slice pM (missF WL LL).length cM],.nilIface]) (by simp [results,Tryz.results40,go_sem,l0,l1]) rfl ⟨⟨.nilIface,q1,d1,pM,cM,rfl,HRL2.out,HRM2.out,(fun b o e=>(HQ1.out b o e).2),(fun b o e=>HQM.out b o e),ErrIs.nil _ _⟩,HB8.out⟩
  ·have hle:=lookE_shape (m:=Ks.length) hpc hln
   have hlw:lookW c (tellL key Ks)=[]:=lookW_bad (by rw [hLL,hle];decide)
   rw [hlw,hle]
   clear hpc hn h0 hle hlw hHB hgood hLL hw0 hw1 hb0 hb01 hb1 hx0 hx1 hT1 hc hr ho hE hZ e0 e1 hf
   generalize tellL key Ks=LL
   have HM0:Hid (missF [] LL=[]):=by show missF [] LL=[];rfl
   rw [HM0.out]
   obtain ⟨n,k,L⟩:=c
   unfold cfgA at *
   dsimp only at *
   generalize Ks.length=m at *
   go_enter Tryz.func40,Tryz.ntmps40
   go_wp2_with (rw [<- HW1.out])
   refine HCK.mono ?_
   rintro e w3 ⟨⟨ev,rfl,hev⟩,hb3⟩
   obtain rfl:=ErrIs.isNil hev
   have hT3:=HT1.out.below hb3
   have t0:=hT3.c0
   have t1:=hT3.c1
   have tf0:=hT3.f0
   have tf1:=hT3.f1
   have hT4:=(hT3.set0 (.slice none 0 0)).set1 (.slice none 0 0)
   have k0:=hT4.c0
   have k1:=hT4.c1
   have q2:=(HE1.out.below hb3).c2
   have hgs:(⟨w.heap.size+1,0,none⟩:Addr)≠⟨6,0,none⟩:=fun e=>by have h1:w.heap.size+1=6:=congrArg Addr.block e;have:=HSG.out;omega
   have hgt:(⟨w.heap.size+1,1,none⟩:Addr)≠⟨6,0,none⟩:=fun e=>by have h1:w.heap.size+1=6:=congrArg Addr.block e;have:=HSG.out;omega
   have q3:(w3.setCell ⟨w.heap.size+1,0,none⟩ (.slice none 0 0)).cell? ⟨6,0,none⟩=some (.iface 218 (.pointer (some (ad 2)))):=(World.cell?_setCell_other _ _ _ _ hgs).trans q2
   have q4:((w3.setCell ⟨w.heap.size+1,0,none⟩ (.slice none 0 0)).setCell ⟨w.heap.size+1,1,none⟩ (.slice none 0 0)).cell? ⟨6,0,none⟩=some (.iface 218 (.pointer (some (ad 2)))):=(World.cell?_setCell_other _ _ _ _ hgt).trans q3
   have HB4:Hid (Below w.heap.size w ((w3.setCell ⟨w.heap.size+1,0,none⟩ (.slice none 0 0)).setCell ⟨w.heap.size+1,1,none⟩ (.slice none 0 0))):=((HB1.out.trans (hb3.mono HB1.out.size)).setCell (by show w.heap.size<=w.heap.size+1;omega) _).setCell (by show w.heap.size<=w.heap.size+1;omega) _
   have hx3:=HX1.out.below hb3
   have g0:=hx3.f0
   dsimp only at g0
   clear hev hb3 HCK f0 f1 f2 hT3 hT4 hx3
   go_wp2
   go_region
   go_wp2
   exact bodyPost_ret (v:=.tuple #[.agg #[.slice none 0 0,.slice none 0 0],.iface 218 (.pointer (some (ad 2)))]) (by simp [results,Tryz.results40,go_sem,k0,k1]) rfl ⟨⟨_,none,0,none,0,rfl,Rec.nil _ _,Rec.nil _ _,(fun _ _ e=>by cases e),(fun _ _ e=>by cases e),ErrIs.sent 2 (by decide)⟩,by first | exact HB4.out | exact HB4.out.drew⟩
end Go.Proofs.YtghpdhegfnhmkaaGreatDoor
