import Derived.Test.YtghpdhegfnhmkaaGreatDoorS40
namespace Go.Proofs.YtghpdhegfnhmkaaGreatDoor
open Go.RowKit
structure LookIn (w:World) (ad:Nat->Addr) (z:Addr) (c:Cfg) (p:Option Addr) (cap:Nat) (Ks:List (Option (List Kep))) (hp:Nat->Nat) (ph:Option Addr):Prop where
 cfg:CfgAt w c p cap
 ptr:Rec ptoE w ph (ptL hp Ks)
 own:∀ i L,Ks[i]?=some (some L)->∃ S,HdOf w (hp i) S L false
 errs:ErrsQ w ad
 zero:w.cell? ⟨11,0,none⟩=some (.iface 218 (.pointer (some z)))
theorem LookIn.below {w w':World} {ad:Nat->Addr} {z:Addr} {c:Cfg} {p:Option Addr} {cap:Nat} {Ks:List (Option (List Kep))} {hp:Nat->Nat} {ph:Option Addr} (h:LookIn w ad z c p cap Ks hp ph) (hb:Below w.heap.size w w'):LookIn w' ad z c p cap Ks hp ph :=
 ⟨h.cfg.below hb,h.ptr.below hb,fun i L hi=>by obtain ⟨S,hd⟩:=h.own i L hi;exact ⟨S,hd.below hb⟩,h.errs.below hb,(hb.cell (p:=⟨11,0,none⟩) (lt_of_cellE h.zero)).trans h.zero⟩
theorem missF_len (WL:List Ver) (LL:List (List Ver)):(missF WL LL).length<=WL.length:=missN_le _ _ _
set_option maxRecDepth 10000 in
set_option maxHeartbeats 4000000 in
theorem missing_any (ad:Nat->Addr) (z:Addr) (c:Cfg) (p:Option Addr) (cap:Nat) (key:ByteArray) (Ks:List (Option (List Kep))) (hp:Nat->Nat) (ph:Option Addr) (ch:Nat) (w:World) (hk:key.size<=maxLen) (hI:LookIn w ad z c p cap Ks hp ph) :
 Calls Tryz.prog 17 #[cfgA c (.slice p c.L.length cap),.string key,.slice ph Ks.length ch] w fun e w'=>(∃ ev q d,e=.returned (.tuple #[.slice q (missF (lookW c (tellL key Ks)) (tellL key Ks)).length d,ev])/\Rec natE w' q (missF (lookW c (tellL key Ks)) (tellL key Ks))/\ErrIs w' ad ev (lookE c Ks.length).1 (lookE c Ks.length).2)/\Below w.heap.size w w':=by
 obtain ⟨w0,hw0⟩:∃ w0,w0=w.alloc (.cells #[.int .i64 c.n,.int .i64 c.k,.slice p c.L.length cap] 24):=⟨_,rfl⟩
 have hb0:Below w.heap.size w w0:=by rw [hw0];exact (Below.refl _ _).alloc (Nat.le_refl _) _
 have hx0:CfgBox w0 w.heap.size c (.slice p c.L.length cap):=by rw [hw0];exact cfgBox_made w c _ _
 have h0:=hI.below hb0
 have HLK:=rplook_any ad c p cap key Ks hp ph ch w0 h0.cfg hk h0.ptr h0.own h0.errs z h0.zero
 have HW0:Hid (w0=w.alloc (.cells #[.int .i64 c.n,.int .i64 c.k,.slice p c.L.length cap] 24)):=hw0
 have HB0:Hid (Below w.heap.size w w0):=hb0
 have f0:=hx0.f0
 have f1:=hx0.f1
 have f2:=hx0.f2
 clear hw0 hb0 hx0 h0 hI
 generalize lookE c Ks.length=E at *
 generalize missF (lookW c (tellL key Ks)) (tellL key Ks)=M at *
 generalize lookW c (tellL key Ks)=WL at *
 generalize Ks.length=m at *
 obtain ⟨n,k,L⟩:=c
 unfold cfgA at *
 dsimp only at *
 go_enter Tryz.func17,Tryz.ntmps17
 go_wp2_with fail
 rw [<- HW0.out]
 refine HLK.mono ?_
 rintro e w2 ⟨⟨ev,q1,d1,q2,d2,rfl,hr1,hr2,hq1,hq2,hev⟩,hb2⟩
 have hbA:Below w2.heap.size w2 (w2.alloc (.cells #[.slice q1 WL.length d1,.slice q2 M.length d2] 86)):=(Below.refl _ _).alloc (Nat.le_refl _) _
 have HR:Hid (Rec natE (w2.alloc (.cells #[.slice q1 WL.length d1,.slice q2 M.length d2] 86)) q2 M):=hr2.below hbA
 have HEV:Hid (ErrIs (w2.alloc (.cells #[.slice q1 WL.length d1,.slice q2 M.length d2] 86)) ad ev E.1 E.2):=hev.below hbA
 have HB:Hid (Below w.heap.size w (w2.alloc (.cells #[.slice q1 WL.length d1,.slice q2 M.length d2] 86))):=(HB0.out.trans (hb2.mono HB0.out.size)).alloc (Nat.le_trans HB0.out.size hb2.size) _
 clear hr1 hr2 hq1 hq2 hev hb2 hbA HLK f0 f1 f2
 go_wp2
 go_ret2
 exact ⟨⟨ev,q2,d2,rfl,HR.out,HEV.out⟩,HB.out⟩
def standN (c:Cfg) (M:List Nat):Int:=max 0 (c.n - (M.length:Int) - c.k)
def standE (c:Cfg) (m:Nat) (WL:List Ver):Int×Int:=if 0 < (lookE c m).1 then lookE c m else if WL=[] then (5,-1) else (0,-1)
def standT (c:Cfg) (m:Nat) (WL:List Ver) (M:List Nat):Int:=if 0 < (standE c m WL).1 then 0 else standN c M
set_option maxRecDepth 10000 in
set_option maxHeartbeats 4000000 in
theorem stand_any (ad:Nat->Addr) (z:Addr) (c:Cfg) (p:Option Addr) (cap:Nat) (key:ByteArray) (Ks:List (Option (List Kep))) (hp:Nat->Nat) (ph:Option Addr) (ch:Nat) (w:World) (hk:key.size<=maxLen) (hI:LookIn w ad z c p cap Ks hp ph) :
 Calls Tryz.prog 11 #[cfgA c (.slice p c.L.length cap),.string key,.slice ph Ks.length ch] w fun e w'=>(∃ ev,e=.returned (.tuple #[.int .i64 (standT c Ks.length (lookW c (tellL key Ks)) (missF (lookW c (tellL key Ks)) (tellL key Ks))),ev])/\ErrIs w' ad ev (standE c Ks.length (lookW c (tellL key Ks))).1 (standE c Ks.length (lookW c (tellL key Ks))).2/\(¬ 0 < (lookE c Ks.length).1->BareIs ad ev (standE c Ks.length (lookW c (tellL key Ks))).1))/\Below w.heap.size w w':=by
 obtain ⟨w0,hw0⟩:∃ w0,w0=w.alloc (.cells #[.int .i64 c.n,.int .i64 c.k,.slice p c.L.length cap] 24):=⟨_,rfl⟩
 have hb0:Below w.heap.size w w0:=by rw [hw0];exact (Below.refl _ _).alloc (Nat.le_refl _) _
 have hx0:CfgBox w0 w.heap.size c (.slice p c.L.length cap):=by rw [hw0];exact cfgBox_made w c _ _
 have h0:=hI.below hb0
 have HLK:=rplook_any ad c p cap key Ks hp ph ch w0 h0.cfg hk h0.ptr h0.own h0.errs z h0.zero
 have HW0:Hid (w0=w.alloc (.cells #[.int .i64 c.n,.int .i64 c.k,.slice p c.L.length cap] 24)):=hw0
 have HB0:Hid (Below w.heap.size w w0):=hb0
 have HX0:Hid (CfgBox w0 w.heap.size c (.slice p c.L.length cap)):=hx0
 have HE0:Hid (ErrsQ w0 ad):=h0.errs
 have f0:=hx0.f0
 have f1:=hx0.f1
 have f2:=hx0.f2
 have hml:=missF_len (lookW c (tellL key Ks)) (tellL key Ks)
 have HFIN:Hid (¬ 0 < (lookE c Ks.length).1->(1<=c.k/\c.k<=c.n/\c.n<=12)/\lookE c Ks.length=(0,-1)/\((lookW c (tellL key Ks)).length:Int)<=c.n):=fun h=>by
  by_cases hb:0 < (cfgF c).1
  ·rw [lookE_bad hb] at h;exact absurd hb h
  by_cases hs:(Ks.length:Int)=c.n
  ·obtain ⟨g1,g2,g3,_⟩:=cfgF_fine hb
   refine ⟨g1,lookE_fine hb hs,?_⟩
   rw [lookW_fine (by rw [tellL_length,lookE_fine hb hs];exact Int.lt_irrefl 0)]
   have:=wholeF_len c.n.toNat c.k.toNat (tellL key Ks)
   omega
  ·rw [lookE_shape hb hs] at h;exact absurd (by decide) h
 have HSE:Hid (standE c Ks.length (lookW c (tellL key Ks))=if 0 < (lookE c Ks.length).1 then lookE c Ks.length else if lookW c (tellL key Ks)=[] then (5,-1) else (0,-1)):=rfl
 have HST:Hid (standT c Ks.length (lookW c (tellL key Ks)) (missF (lookW c (tellL key Ks)) (tellL key Ks))=if 0 < (standE c Ks.length (lookW c (tellL key Ks))).1 then 0 else standN c (missF (lookW c (tellL key Ks)) (tellL key Ks))):=rfl
 have HSN:Hid (standN c (missF (lookW c (tellL key Ks)) (tellL key Ks))=max 0 (c.n - ((missF (lookW c (tellL key Ks)) (tellL key Ks)).length:Int) - c.k)):=rfl
 clear hw0 hb0 hx0 h0 hI
 generalize standT c Ks.length (lookW c (tellL key Ks)) (missF (lookW c (tellL key Ks)) (tellL key Ks))=ST at *
 generalize standN c (missF (lookW c (tellL key Ks)) (tellL key Ks))=SN at *
 generalize standE c Ks.length (lookW c (tellL key Ks))=SE at *
 generalize lookE c Ks.length=E at *
 generalize missF (lookW c (tellL key Ks)) (tellL key Ks)=M at *
 generalize lookW c (tellL key Ks)=WL at *
 generalize Ks.length=m at *
 obtain ⟨n,k,L⟩:=c
 unfold cfgA at *
 dsimp only at *
 by_cases he:0 < E.1
 ·have h1:=HSE.out
  rw [if_pos he] at h1
  subst h1
  have h2:=HST.out
  rw [if_pos he] at h2
  subst h2
  have HP:Hid (0 < SE.1):=he
  clear he HSE HST HSN HFIN hml
  go_enter Tryz.func11,Tryz.ntmps11
  go_wp2_with fail
  rw [<- HW0.out]
  refine HLK.mono ?_
  rintro e w2 ⟨⟨ev,q1,d1,q2,d2,rfl,hr1,hr2,hq1,hq2,hev⟩,hb2⟩
  have hbA:Below w2.heap.size w2 (w2.alloc (.cells #[.slice q1 WL.length d1,.slice q2 M.length d2] 86)):=(Below.refl _ _).alloc (Nat.le_refl _) _
  have HEV:Hid (ErrIs (w2.alloc (.cells #[.slice q1 WL.length d1,.slice q2 M.length d2] 86)) ad ev SE.1 SE.2):=hev.below hbA
  have HB:Hid (Below w.heap.size w (w2.alloc (.cells #[.slice q1 WL.length d1,.slice q2 M.length d2] 86))):=(HB0.out.trans (hb2.mono HB0.out.size)).alloc (Nat.le_trans HB0.out.size hb2.size) _
  obtain ⟨et,eu,rfl⟩:=hev.some HP.out
  clear hr1 hr2 hq1 hq2 hev hb2 hbA HLK f0 f1 f2
  go_wp2
  go_ret2
  exact ⟨⟨_,rfl,HEV.out,fun h=>absurd HP.out (Int.not_lt.2 (by omega))⟩,HB.out⟩
 ·obtain ⟨hf,hE0,hWn⟩:=HFIN.out he
  have h1:=HSE.out
  rw [if_neg he] at h1
  rw [hE0] at HLK
  by_cases hW:WL=[]
  ·subst hW
   rw [if_pos rfl] at h1
   subst h1
   have h2:=HST.out
   rw [if_pos (by decide)] at h2
   subst h2
   clear he HSE HST HSN HFIN hml hf hE0 hWn
   go_enter Tryz.func11,Tryz.ntmps11
   go_wp2_with fail
   rw [<- HW0.out]
   refine HLK.mono ?_
   rintro e w2 ⟨⟨ev,q1,d1,q2,d2,rfl,hr1,hr2,hq1,hq2,hev⟩,hb2⟩
   obtain rfl:=ErrIs.isNil hev
   obtain ⟨w3,hw3⟩:∃ w3,w3=w2.alloc (.cells #[.slice q1 0 d1,.slice q2 M.length d2] 86):=⟨_,rfl⟩
   have hb3:Below w2.heap.size w2 w3:=by rw [hw3];exact (Below.refl _ _).alloc (Nat.le_refl _) _
   have HW3:Hid (w3=w2.alloc (.cells #[.slice q1 0 d1,.slice q2 M.length d2] 86)):=hw3
   have g0:w3.cell? ⟨w2.heap.size,0,none⟩=some (.slice q1 0 d1):=by rw [hw3,World.cell?_alloc_at _ _ _ _ rfl];rfl
   have q4:=((HE0.out.below hb2).below hb3).c4
   have HB:Hid (Below w.heap.size w w3):=(HB0.out.trans (hb2.mono HB0.out.size)).trans (hb3.mono (Nat.le_trans HB0.out.size hb2.size))
   clear hr1 hr2 hq1 hq2 hev hb2 hb3 hw3 HLK f0 f1 f2 HE0 HX0 HW0
   simp only [List.length_nil]
   go_wp2_with (first | rw [<- HW3.out] | fail)
   go_quiet (fail)
   go_wp2
   go_ret2
   exact ⟨⟨_,rfl,ErrIs.sent 4 (by decide),fun _=>Or.inr ⟨4,by decide,rfl,rfl⟩⟩,by first | exact HB.out | exact below_drewN HB.out _ | exact HB.out.drew⟩
  ·have hW1:0 < WL.length:=List.length_pos_iff.2 hW
   rw [if_neg hW] at h1
   subst h1
   have h2:=HST.out
   rw [if_neg (by decide),HSN.out] at h2
   have hk1:1<=k:=hf.1
   have hkn:k<=n:=hf.2.1
   have hn12:n<=12:=hf.2.2
   have hM12:(M.length:Int)<=12:=by omega
   have hM0:(0:Int)<=(M.length:Int):=by omega
   have hv1:IntKind.i64.wrap (n - (M.length:Int))=n - (M.length:Int):=by rw [IntKind.wrap_i64];omega
   have hv2:IntKind.i64.wrap (n - (M.length:Int) - k)=n - (M.length:Int) - k:=by rw [IntKind.wrap_i64];omega
   have HS3:Hid (ST=max 0 (n - (M.length:Int) - k)):=h2
   have hW0:((WL.length:Int)==0)=false:=by rw [beq_eq_false_iff_ne];omega
   clear he HSE HST HSN HFIN hml hf hE0 hWn h2 hW
   go_enter Tryz.func11,Tryz.ntmps11
   go_wp2_with fail
   rw [<- HW0.out]
   refine HLK.mono ?_
   rintro e w2 ⟨⟨ev,q1,d1,q2,d2,rfl,hr1,hr2,hq1,hq2,hev⟩,hb2⟩
   obtain rfl:=ErrIs.isNil hev
   obtain ⟨w3,hw3⟩:∃ w3,w3=w2.alloc (.cells #[.slice q1 WL.length d1,.slice q2 M.length d2] 86):=⟨_,rfl⟩
   have hb3:Below w2.heap.size w2 w3:=by rw [hw3];exact (Below.refl _ _).alloc (Nat.le_refl _) _
   have HW3:Hid (w3=w2.alloc (.cells #[.slice q1 WL.length d1,.slice q2 M.length d2] 86)):=hw3
   have g0:w3.cell? ⟨w2.heap.size,0,none⟩=some (.slice q1 WL.length d1):=by rw [hw3,World.cell?_alloc_at _ _ _ _ rfl];rfl
   have g1:w3.cell? ⟨w2.heap.size,1,none⟩=some (.slice q2 M.length d2):=by rw [hw3,World.cell?_alloc_at _ _ _ _ rfl];rfl
   have hx3:=(HX0.out.below hb2).below hb3
   have j0:=hx3.f0
   have j1:=hx3.f1
   dsimp only at j0 j1
   have HB:Hid (Below w.heap.size w w3):=(HB0.out.trans (hb2.mono HB0.out.size)).trans (hb3.mono (Nat.le_trans HB0.out.size hb2.size))
   clear hr1 hr2 hq1 hq2 hev hb2 hb3 hw3 HLK f0 f1 f2 HE0 HX0 HW0 hx3
   go_wp2_with (first | rw [<- HW3.out] | fail)
   go_ret2
   exact ⟨⟨_,by rw [HS3.out];rfl,ErrIs.nil _ _,fun _=>Or.inl ⟨rfl,rfl⟩⟩,HB.out⟩
end Go.Proofs.YtghpdhegfnhmkaaGreatDoor
