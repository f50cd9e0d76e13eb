import Derived.Test.YtghpdhegfnhmkaaGreatDoorS35
import Derived.Test.YtghpdhegfnhmkaaGreatDoorS8
import Derived.Test.YtghpdhegfnhmkaaGreatDoorS31
import Derived.Test.YtghpdhegfnhmkaaGreatDoorS6
import Derived.Test.YtghpdhegfnhmkaaGreatDoorS30
import Derived.Deep.RegionHeld3
namespace Go.Proofs.YtghpdhegfnhmkaaGreatDoor
open Go.RowKit Go.Sort
theorem below_growB (w:World) (n:Nat) (os:Array Obj):RowKit.Below w.heap.size w (grow (w.drewN n) os):=⟨rfl,rfl,rfl,by show w.heap.size<=(w.heap ++ os).size;rw [Array.size_append];omega,fun _ hj=>heap_grow_old (w.drewN n) os hj⟩
theorem pless_any (a b:Int×Int) (w:World):Calls Tryz.prog 93 #[.agg #[.int .i64 a.1,.int .i64 a.2],.agg #[.int .i64 b.1,.int .i64 b.2]] w fun e w'=>e=.returned (.bool (lessB a b))/\RowKit.Below w.heap.size w w':=(less_any a b w).mono fun e w' ⟨he,q,os,hw⟩=>⟨he,by rw [hw];exact below_growB w q os⟩
structure MaxInv (n k:Nat) (L:List Ver) (left:Lit->Bool) (t:Int×Int) (found:Bool):Prop where
 no:found=false->t=(0,0)/\∀ u,TagIn u->left (litT u)=false->¬ GoodT n k L u
 yes:found=true->TagIn t/\GoodT n k L t/\∀ u,TagIn u->left (litT u)=false->GoodT n k L u->lessB t u=false
theorem good_in {n k:Nat} {L:List Ver} {u:Int×Int} (hk:1<=k) (hin:∀ v ∈ L,TagIn (v.n,v.who)) (h:GoodT n k L u):TagIn u:=by
 obtain ⟨v,hv,e⟩:=good_told hk h
 rw [<- e]
 exact hin v hv
theorem good_some {n k:Nat} {L:List Ver} {u:Int×Int} (hk:1<=k) (h:GoodT n k L u):(shOf n k u L).2≠[]:=fun e=>by
 unfold GoodT at h
 rw [e] at h
 simp at h
 omega
theorem maxInv_start {w:World} {B b n k:Nat} {L:List Ver} {D:DataW Value} {row:Int×Int->Value} {blk:Int×Int->Nat} (hk:1<=k) (h:TbAt w B b n k L D row blk):MaxInv n k L (Maps.has D) (0,0) false :=
 ⟨fun _=>⟨rfl,fun u hu hl hg=>by
  rw [h.has u hu] at hl
  exact of_decide_eq_false hl (good_some hk hg)⟩,fun e=>by cases e⟩
theorem left_split {left:Lit->Bool} {t u:Int×Int} (ht:TagIn t) (hu:TagIn u) (h:(left (litT u) && !(litT u).sameKey (litT t))=false):left (litT u)=false∨u=t:=by
 cases hl:left (litT u) with
 | false=>exact Or.inl rfl
 | true =>
  rw [hl] at h
  right
  have hs:(litT u).sameKey (litT t)=true:=by
   cases hs:(litT u).sameKey (litT t) with
   | true=>rfl
   | false=>rw [hs] at h;cases h
  exact litT_inj hu ht (WideAt.sameKey_eq hs)
theorem maxInv_pass {n k:Nat} {L:List Ver} {left:Lit->Bool} {t u:Int×Int} {found:Bool} (h:MaxInv n k L left t found) (hu:TagIn u) (hp:¬ GoodT n k L u∨found=true/\lessB t u=false):MaxInv n k L (fun z=>left z && !z.sameKey (litT u)) t found:=by
 refine ⟨fun e=>⟨(h.no e).1,fun x hx hl hg=>?_⟩,fun e=>⟨(h.yes e).1,(h.yes e).2.1,fun x hx hl hg=>?_⟩⟩
 ·rcases left_split hu hx hl with h1 | h1
  ·exact (h.no e).2 x hx h1 hg
  ·subst h1
   rcases hp with h2 | h2
   ·exact h2 hg
   ·rw [e] at h2;cases h2.1
 ·rcases left_split hu hx hl with h1 | h1
  ·exact (h.yes e).2.2 x hx h1 hg
  ·subst h1
   rcases hp with h2 | h2
   ·exact absurd hg h2
   ·exact h2.2
theorem maxInv_take {n k:Nat} {L:List Ver} {left:Lit->Bool} {t u:Int×Int} {found:Bool} (h:MaxInv n k L left t found) (hu:TagIn u) (hg:GoodT n k L u) (hp:found=true->lessB t u=true):MaxInv n k L (fun z=>left z && !z.sameKey (litT u)) u true:=by
 refine ⟨fun e=>(by cases e),fun _=>⟨hu,hg,fun x hx hl hgx=>?_⟩⟩
 rcases left_split hu hx hl with h1 | h1
 ·cases hf:found with
  | false=>exact absurd hgx ((h.no hf).2 x hx h1)
  | true =>
   have h2:=(h.yes hf).2.2 x hx h1 hgx
   cases hq:lessB u x with
   | false=>rfl
   | true=>rw [less_trans (hp hf) hq] at h2;cases h2
 ·subst h1
  simp [lessB]
theorem maxInv_end {n k:Nat} {L:List Ver} {left:Lit->Bool} {t:Int×Int} {found:Bool} (hk:1<=k) (hin:∀ v ∈ L,TagIn (v.n,v.who)) (h:MaxInv n k L left t found) (hl:∀ z,left z=false):bestF n k L L=(t,if found then decOf n k L t else ⟨#[]⟩,found):=by
 cases found with
 | false =>
  obtain ⟨rfl,h2⟩:=h.no rfl
  rw [best_none (fun v hv=>h2 _ (hin v hv) (hl _))]
  rfl
 | true =>
  obtain ⟨_,h1,h2⟩:=h.yes rfl
  rw [best_is hk h1 (fun u hu=>h2 u (good_in hk hin hu) (hl _) hu)]
  rfl
theorem TbAt.entry {w:World} {B b n k:Nat} {L:List Ver} {D:DataW Value} {row:Int×Int->Value} {blk:Int×Int->Nat} (h:TbAt w B b n k L D row blk) {left:Lit->Bool} (hsub:∀ z,left z=true->Maps.has D z=true) {x:Int×Int} {c:Int×Option Addr×Nat×Nat} {kl:Lit} {y:DataW Value×List MemPlace} (hkey:keyOf Tryz.prog 43 (tagV x)=some kl) (hlk:left kl=true) (hv:toldR (toldV c)=some y) (hat:∀ zd,D.atKey kl zd=y.1) :
 TagIn x/\kl=litT x/\c.2.2.1=(shOf n k x L).2.length:=by
 obtain ⟨t,ht,rfl,hin⟩:=keyOfT_inv hkey
 have hx:x=t:=by
  unfold tagV at ht
  simp at ht
  exact Prod.ext ht.1 ht.2
 subst hx
 have hh:=hsub _ hlk
 rw [h.has x hin] at hh
 have hne:=of_decide_eq_true hh
 have e1:=h.at_ x hin hne (.held (toldV c))
 rw [hat] at e1
 have e2:y=(.held (toldV c),[]):=by rw [toldR_mk] at hv;exact (Option.some.inj hv).symm
 rw [e2] at e1
 have e3:toldV c=.agg #[.int .i64 (shOf n k x L).1,row x]:=by injection e1
 obtain ⟨p,cp,hr,_⟩:=shs_of_own (h.own x hin)
 rw [hr] at e3
 unfold toldV at e3
 simp at e3
 exact ⟨hin,rfl,e3.2.2.1⟩
theorem tab_ranges {w:World} {b r n cnt:Nat} {D:DataW Value} {left:Lit->Bool} (h:w.ranges Tryz.prog 43 toldR b r n D left cnt):r < w.heap.size/\b < w.heap.size:=⟨World.ranges.lt h,World.ownsMap.lt (World.ranges.owns h)⟩
structure BAt (W:World) (a:Nat) (n k:Nat) (lv:Value) (t:Int×Int) (B b:Nat) (L:List Ver) (D:DataW Value) (row:Int×Int->Value) (blk:Int×Int->Nat):Prop where
 c0:W.cell? ⟨a,0,none⟩=some (.int .i64 (n:Int))
 c1:W.cell? ⟨a,1,none⟩=some (.int .i64 (k:Int))
 T:TwoC W (a+1) (.int .i64 t.1) (.int .i64 t.2)
 tab:TbAt W B b n k L D row blk
 hB:a+1+1<=B
theorem BAt.below {W W':World} {a n k:Nat} {lv:Value} {t:Int×Int} {B b:Nat} {L:List Ver} {D:DataW Value} {row:Int×Int->Value} {blk:Int×Int->Nat} (h:BAt W a n k lv t B b L D row blk) (hb:Below W.heap.size W W'):BAt W' a n k lv t B b L D row blk :=
 ⟨(hb.cell (p:=⟨a,0,none⟩) (lt_of_cell h.c0)).trans h.c0,(hb.cell (p:=⟨a,1,none⟩) (lt_of_cell h.c0)).trans h.c1,h.T.below hb,h.tab.below hb,h.hB⟩
theorem BAt.set {W:World} {a n k:Nat} {lv:Value} {t:Int×Int} {B b:Nat} {L:List Ver} {D:DataW Value} {row:Int×Int->Value} {blk:Int×Int->Nat} (h:BAt W a n k lv t B b L D row blk) (u:Int×Int):BAt ((W.setCell ⟨a+1,0,none⟩ (.int .i64 u.1)).setCell ⟨a+1,1,none⟩ (.int .i64 u.2)) a n k lv u B b L D row blk:=by
 have hg:W.grownBy ((W.setCell ⟨a+1,0,none⟩ (.int .i64 u.1)).setCell ⟨a+1,1,none⟩ (.int .i64 u.2)) (some (a+1)):=⟨rfl,rfl,rfl,by simp [World.setCell],fun j _ hne=>by
  have hj:j≠a+1:=fun e=>hne (by rw [e])
  rw [Below.heap_setCell _ _ _ _ hj,Below.heap_setCell _ _ _ _ hj]⟩
 have hbk:=hg.block a (lt_of_cell h.c0) (by simp)
 have hBB:=h.hB
 refine ⟨(World.cell?_of_block (a:=⟨a,0,none⟩) hbk).trans h.c0,(World.cell?_of_block (a:=⟨a,1,none⟩) hbk).trans h.c1,(h.T.set0 _).set1 _,?_,h.hB⟩
 obtain ⟨m,hm,h1⟩:=h.tab.map
 have hbb:=h.tab.inB
 refine ⟨⟨m,hm,World.ownsMap.kept h1 hg (by simp;omega)⟩,h.tab.inB,h.tab.has,h.tab.at_,fun t ht=>World.ownsRow.kept (h.tab.own t ht) hg ?_,h.tab.nil_,h.tab.blk_,h.tab.apart⟩
 cases hv:(row t).ownBlock with
 | none=>exact Or.inl rfl
 | some g =>
  refine Or.inr fun e=>?_
  injection e with e
  have:=(World.ownsRow.lt (h.tab.own t ht) g hv).1
  omega
theorem BAt.grown {W W':World} {a n k:Nat} {lv:Value} {t:Int×Int} {B b r:Nat} {L:List Ver} {D:DataW Value} {row:Int×Int->Value} {blk:Int×Int->Nat} (h:BAt W a n k lv t B b L D row blk) (hg:W.grownBy W' (some r)) (h1:a+1 < r) (h2:b < r) (h3:∀ t,TagIn t->∀ g,(row t).ownBlock=some g->g < r):BAt W' a n k lv t B b L D row blk:=by
 have hbk:=hg.block a (lt_of_cell h.c0) (by simp;omega)
 obtain ⟨m,hm,h4⟩:=h.tab.map
 refine ⟨(World.cell?_of_block (a:=⟨a,0,none⟩) hbk).trans h.c0,(World.cell?_of_block (a:=⟨a,1,none⟩) hbk).trans h.c1,h.T.grown hg (by simp;omega),⟨⟨m,hm,World.ownsMap.kept h4 hg (by simp;omega)⟩,h.tab.inB,h.tab.has,h.tab.at_,fun t ht=>World.ownsRow.kept (h.tab.own t ht) hg ?_,h.tab.nil_,h.tab.blk_,h.tab.apart⟩,h.hB⟩
 cases hv:(row t).ownBlock with
 | none=>exact Or.inl rfl
 | some g =>
  refine Or.inr fun e=>?_
  injection e with e
  have:=h3 t ht g hv
  omega
theorem vers_in {v:Ver} (h:VerI64 v):TagIn (v.n,v.who):=⟨h.1,h.2.1⟩
set_option maxRecDepth 10000 in
set_option maxHeartbeats 8000000 in
theorem best_any (ad:Nat->Addr) (c:Cfg) (p:Option Addr) (cap:Nat) (LL:List (List Ver)) (pl:Option Addr) (cl:Nat) (w:World) (hc:CfgAt w c p cap) (hL:Vss w pl LL) (hm1:LL.length<=1000) (hm2:LL.flatten.length<=1000) (hin:∀ v ∈ LL.flatten,VerI64 v) (hE:ErrsQ w ad) (z:Addr) (hZ:w.cell? ⟨11,0,none⟩=some (.iface 218 (.pointer (some z)))) :
 Calls Tryz.prog 77 #[cfgA c (.slice p c.L.length cap),.slice pl LL.length cl] w fun e w'=>(∃ ev,e=.returned (.tuple #[.agg #[.int .i64 (bestT c LL).1.1,.int .i64 (bestT c LL).1.2],.string (bestT c LL).2.1,.bool (bestT c LL).2.2,ev])/\ErrIs w' ad ev (bestE c LL).1 (bestE c LL).2)/\Below w.heap.size w w':=by
 obtain ⟨w0,hw0⟩:∃ w0,w0=w.alloc (.cells #[.int .i64 c.n,.int .i64 c.k,.slice p c.L.length cap] 24):=⟨_,rfl⟩
 obtain ⟨w1,hw1⟩:∃ w1,w1=w0.alloc (.cells #[.int .i64 0,.int .i64 0] 43):=⟨_,rfl⟩
 have e0:w0.heap.size=w.heap.size+1:=by rw [hw0];simp
 have e1:w1.heap.size=w.heap.size+1+1:=by rw [hw1,<- e0];simp
 have hb0:Below w.heap.size w w0:=by rw [hw0];exact (Below.refl _ _).alloc (Nat.le_refl _) _
 have hb01:Below w0.heap.size w0 w1:=by rw [hw1];exact (Below.refl _ _).alloc (Nat.le_refl _) _
 have hb1:Below w.heap.size w w1:=hb0.trans (hb01.mono hb0.size)
 have hx0:CfgBox w0 w.heap.size c (.slice p c.L.length cap):=by rw [hw0];exact cfgBox_made w c _ _
 have hx1:=hx0.below hb01
 have hT1:TwoC w1 (w.heap.size+1) (.int .i64 0) (.int .i64 0):=by
  rw [hw1]
  exact ⟨by rw [World.cell?_alloc_at _ _ _ _ e0.symm];rfl,by rw [World.cell?_alloc_at _ _ _ _ e0.symm];rfl,World.frozen?_alloc_at _ _ _ _ e0.symm,World.frozen?_alloc_at _ _ _ _ e0.symm⟩
 have HCK:=qcheck_any ad c p cap w1 (hc.below hb1) (hE.below hb1)
 have HW1:Hid (w1=(w.alloc (.cells #[.int .i64 c.n,.int .i64 c.k,.slice p c.L.length cap] 24)).alloc (.cells #[.int .i64 0,.int .i64 0] 43)):=by show _=_;rw [hw1,hw0]
 have HB1:Hid (Below w.heap.size w w1):=hb1
 have HS1:Hid (w1.heap.size=w.heap.size+1+1):=e1
 have HX1:Hid (CfgBox w1 w.heap.size c (.slice p c.L.length cap)):=hx1
 have HT1:Hid (TwoC w1 (w.heap.size+1) (.int .i64 0) (.int .i64 0)):=hT1
 have HE1:Hid (ErrsQ w1 ad):=hE.below hb1
 have HL1:Hid (Vss w1 pl LL):=hL.below hb1
 have HZ1:Hid (w1.cell? ⟨11,0,none⟩=some (.iface 218 (.pointer (some z)))):=(hb1.cell (p:=⟨11,0,none⟩) (lt_of_cell hZ)).trans hZ
 have HIN:Hid (∀ v ∈ LL.flatten,TagIn (v.n,v.who)):=fun v hv=>vers_in (hin v hv)
 have HSG:Hid (6 < w.heap.size):=lt_of_cellE hE.c2
 have HZ0:Hid (w.cell? ⟨11,0,none⟩=some (.iface 218 (.pointer (some z)))):=hZ
 have f0:=hx1.f0
 have f1:=hx1.f1
 have f2:=hx1.f2
 unfold cfgA at HCK ⊢
 clear hw0 hw1 hb0 hb01 hb1 hx0 hx1 hT1 hc hL hin hE hZ e0 e1
 by_cases hp:0 < (cfgF c).1
 ·obtain ⟨hbe,hbt⟩:=bestE_bad (LL:=LL) hp
  rw [hbe,hbt]
  have HP:Hid (0 < (cfgF c).1):=hp
  clear hp hbe hbt HIN
  generalize cfgF c=R at *
  obtain ⟨n,k,L⟩:=c
  dsimp only at *
  go_enter Tryz.func77,Tryz.ntmps77
  go_wp2_with (rw [<- HW1.out])
  refine HCK.mono ?_
  rintro e w3 ⟨⟨ev,rfl,hev⟩,hb3⟩
  have hT3:=HT1.out.below hb3
  have t0:=hT3.c0
  have t1:=hT3.c1
  have tf0:=hT3.f0
  have tf1:=hT3.f1
  have hT4:=(hT3.set0 (.int .i64 0)).set1 (.int .i64 0)
  have k0:=hT4.c0
  have k1:=hT4.c1
  have HEV:Hid (ErrIs ((w3.setCell ⟨w.heap.size+1,0,none⟩ (.int .i64 0)).setCell ⟨w.heap.size+1,1,none⟩ (.int .i64 0)) ad ev R.1 R.2):=(hev.setInt hT3.c1 0 _).setInt (hT3.set0 (.int .i64 0)).c1 1 _
  have HB4:Hid (Below w.heap.size w ((w3.setCell ⟨w.heap.size+1,0,none⟩ (.int .i64 0)).setCell ⟨w.heap.size+1,1,none⟩ (.int .i64 0))):=((HB1.out.trans (hb3.mono HB1.out.size)).setCell (by show w.heap.size<=w.heap.size+1;omega) _).setCell (by show w.heap.size<=w.heap.size+1;omega) _
  obtain ⟨et,eu,rfl⟩:=hev.some HP.out
  clear hev hb3 HCK f0 f1 f2 hT3 hT4
  go_wp2
  exact bodyPost_ret (v:=.tuple #[.agg #[.int .i64 0,.int .i64 0],.string ⟨#[]⟩,.bool false,.iface et eu]) (by simp [results,Tryz.results77,go_sem,k0,k1]) rfl ⟨⟨_,rfl,HEV.out⟩,HB4.out⟩
 ·obtain ⟨hf,hn,h0,_,_⟩:=cfgF_fine hp
  rw [h0] at HCK
  by_cases hmany:c.n < (LL.length:Int)
  ·obtain ⟨hbe,hbt⟩:=bestE_many (LL:=LL) hp hmany
   rw [hbe,hbt]
   clear hp hn h0 hf hbe hbt HIN
   obtain ⟨n,k,L⟩:=c
   dsimp only at *
   go_enter Tryz.func77,Tryz.ntmps77
   go_wp2_with (rw [<- HW1.out])
   refine HCK.mono ?_
   rintro e w3 ⟨⟨ev,rfl,hev⟩,hb3⟩
   obtain rfl:=ErrIs.isNil hev
   have hT3:=HT1.out.below hb3
   have t0:=hT3.c0
   have t1:=hT3.c1
   have tf0:=hT3.f0
   have tf1:=hT3.f1
   have hT4:=(hT3.set0 (.int .i64 0)).set1 (.int .i64 0)
   have k0:=hT4.c0
   have k1:=hT4.c1
   have q2:=(HE1.out.below hb3).c2
   have hgs:(⟨w.heap.size+1,0,none⟩:Addr)≠⟨6,0,none⟩:=fun e=>by have h1:w.heap.size+1=6:=congrArg Addr.block e;have:=HSG.out;omega
   have hgt:(⟨w.heap.size+1,1,none⟩:Addr)≠⟨6,0,none⟩:=fun e=>by have h1:w.heap.size+1=6:=congrArg Addr.block e;have:=HSG.out;omega
   have q3:(w3.setCell ⟨w.heap.size+1,0,none⟩ (.int .i64 0)).cell? ⟨6,0,none⟩=some (.iface 218 (.pointer (some (ad 2)))):=(World.cell?_setCell_other _ _ _ _ hgs).trans q2
   have q4:((w3.setCell ⟨w.heap.size+1,0,none⟩ (.int .i64 0)).setCell ⟨w.heap.size+1,1,none⟩ (.int .i64 0)).cell? ⟨6,0,none⟩=some (.iface 218 (.pointer (some (ad 2)))):=(World.cell?_setCell_other _ _ _ _ hgt).trans q3
   have HB4:Hid (Below w.heap.size w ((w3.setCell ⟨w.heap.size+1,0,none⟩ (.int .i64 0)).setCell ⟨w.heap.size+1,1,none⟩ (.int .i64 0))):=((HB1.out.trans (hb3.mono HB1.out.size)).setCell (by show w.heap.size<=w.heap.size+1;omega) _).setCell (by show w.heap.size<=w.heap.size+1;omega) _
   have hx3:=HX1.out.below hb3
   have g0:=hx3.f0
   dsimp only at g0
   clear hev hb3 HCK f0 f1 f2 hT3 hT4 hx3
   go_wp2
   go_region
   go_wp2
   exact bodyPost_ret (v:=.tuple #[.agg #[.int .i64 0,.int .i64 0],.string ⟨#[]⟩,.bool false,.iface 218 (.pointer (some (ad 2)))]) (by simp [results,Tryz.results77,go_sem,k0,k1]) rfl ⟨⟨_,rfl,ErrIs.sent 2 (by decide)⟩,by first | exact HB4.out | exact HB4.out.drew⟩
  ·obtain ⟨hbe,hbt⟩:=bestE_fine (LL:=LL) hp hmany
   obtain ⟨cn,ck,L⟩:=c
   dsimp only at *
   obtain ⟨n,rfl⟩:=Int.eq_ofNat_of_zero_le (show 0<=cn by omega)
   obtain ⟨k,rfl⟩:=Int.eq_ofNat_of_zero_le (show 0<=ck by omega)
   rw [Int.toNat_natCast,Int.toNat_natCast] at hbt
   rw [hbe]
   have hk1:1<=k:=by omega
   have hkn:k<=n:=by omega
   have hn12:n<=12:=by omega
   obtain ⟨RR,hRR⟩:∃ RR,RR=bestT ⟨n,k,L⟩ LL:=⟨_,rfl⟩
   rw [<- hRR]
   have HRR:Hid (RR=bestF n k LL.flatten LL.flatten):=hRR.trans hbt
   have dmany:¬ (n:Int) < (LL.length:Int):=hmany
   have HBY:Hid (∀ W,Vss W pl LL->Calls Tryz.prog 92 #[.agg #[.int .i64 (n:Int),.int .i64 (k:Int),.slice p L.length cap],.slice pl LL.length cl] W fun e w'=>(∃ b,e=.returned (.map (some b))/\TbOf w' (W.heap.size+1) b n k LL.flatten)/\Below W.heap.size W w'):=fun W hW=>byTag_any n k p L.length cap pl LL cl W hk1 hkn hn12 (by omega) (by omega) hW HIN.out
   have HEND:Hid (∀ left t found,MaxInv n k LL.flatten left t found->(∀ z,left z=false)->RR=(t,if found then decOf n k LL.flatten t else ⟨#[]⟩,found)):=fun left t found h hl=>HRR.out.trans (maxInv_end hk1 HIN.out h hl)
   have HFIT:Hid (∀ t,GoodT n k LL.flatten t->(((shOf n k t LL.flatten).1.toNat:Nat):Int)=(shOf n k t LL.flatten).1/\(shOf n k t LL.flatten).1.toNat<=1000/\Fits n k (shOf n k t LL.flatten).1.toNat (shOf n k t LL.flatten).2/\(shOf n k t LL.flatten).2.length<=1000):=fun t hg=>by
    obtain ⟨a1,a2,a3,_⟩:=shOf_fits (n:=n) (k:=k) (t:=t) (L:=LL.flatten) hk1 (by unfold GoodT at hg;omega)
    have:=shOf_le (n:=n) (k:=k) (t:=t) LL.flatten LL.flatten.length
    rw [List.take_length] at this
    exact ⟨a1,a2,a3,by omega⟩
   clear hp hn h0 hf hbe hbt hRR hmany HIN HRR
   generalize LL.flatten=VV at *
   go_enter Tryz.func77,Tryz.ntmps77
   go_wp2_with (rw [<- HW1.out])
   refine HCK.mono ?_
   rintro e w2 ⟨⟨ev,rfl,hev⟩,hb2⟩
   obtain rfl:=ErrIs.isNil hev
   have hx2:=HX1.out.below hb2
   have g0:=hx2.f0
   have g1:=hx2.f1
   have g2:=hx2.f2
   dsimp only at g0 g1 g2
   have HX2:Hid (CfgBox w2 w.heap.size ⟨(n:Int),(k:Int),L⟩ (.slice p L.length cap)):=hx2
   have HT2:Hid (TwoC w2 (w.heap.size+1) (.int .i64 0) (.int .i64 0)):=HT1.out.below hb2
   have HB2:Hid (Below w.heap.size w w2):=HB1.out.trans (hb2.mono HB1.out.size)
   have HS2:Hid (w.heap.size+1+1<=w2.heap.size):=by show _<=_;rw [<- HS1.out];exact hb2.size
   have HZ2:Hid (w2.cell? ⟨11,0,none⟩=some (.iface 218 (.pointer (some z)))):=(hb2.cell (p:=⟨11,0,none⟩) (lt_of_cell HZ1.out)).trans HZ1.out
   have HBY2:=HBY.out w2 (HL1.out.below hb2)
   clear hev hb2 HCK f0 f1 f2 hx2 HX1 HT1 HB1 HS1 HZ1 HE1 HL1 HBY HW1
   go_wp2_with fail
   refine HBY2.mono ?_
   rintro e w3 ⟨⟨b,rfl,D,row,blk,htb⟩,hb3⟩
   have HAT3:Hid (BAt w3 w.heap.size n k (.slice p L.length cap) (0,0) (w2.heap.size+1) b VV D row blk):=⟨(HX2.out.below hb3).f0,(HX2.out.below hb3).f1,HT2.out.below hb3,htb,by have:=HS2.out;omega⟩
   have HB3:Hid (Below w.heap.size w w3):=HB2.out.trans (hb3.mono HB2.out.size)
   have HZ3:Hid (w3.cell? ⟨11,0,none⟩=some (.iface 218 (.pointer (some z)))):=(hb3.cell (p:=⟨11,0,none⟩) (lt_of_cell HZ2.out)).trans HZ2.out
   have H0:Hid (MaxInv n k VV (Maps.has D) (0,0) false):=maxInv_start hk1 htb
   obtain ⟨m,hm,hown⟩:=htb.map
   have hblt:b < w3.heap.size:=htb.lt
   clear hb3 HBY2 g0 g1 g2 HX2 HT2 HB2 HZ2 htb hm
   go_wp2_with (first
    | (at_range;refine wpList_range_own _ rfl _ 163 rfl 43 166 keyedT Tryz.underlying163 toldR b m D rfl hown ?_;intro w4 hrg0 hg0 hs0)
    | go_in)
   go_frame
   have HB34:Hid (Below w3.heap.size w3 w4):=⟨hg0.os,hg0.tape,hg0.output,hg0.size,fun k hk=>hg0.block k hk (by simp)⟩
   have HRG4:Hid (w4.ranges Tryz.prog 43 toldR b w3.heap.size m D (Maps.has D) (Maps.size D)):=hrg0
   have HAT4:Hid (BAt w4 w.heap.size n k (.slice p L.length cap) (0,0) (w2.heap.size+1) b VV D row blk):=HAT3.out.below HB34.out
   have HZB:Hid (∀ W,Below (w.heap.size+1) w4 W->Below w.heap.size w W/\W.cell? ⟨11,0,none⟩=some (.iface 218 (.pointer (some z)))):=fun W hW=>by
    have h0:Below w.heap.size w W:=(HB3.out.trans (HB34.out.mono HB3.out.size)).trans (hW.mono (by omega))
    exact ⟨h0,(h0.cell (p:=⟨11,0,none⟩) (lt_of_cell HZ0.out)).trans HZ0.out⟩
   have HROW:Hid (∀ t,TagIn t->∀ g,(row t).ownBlock=some g->g < w3.heap.size):=fun t ht g hg=>(World.ownsRow.lt (HAT3.out.tab.own t ht) g hg).2
   have HR3:Hid (w.heap.size+1 < w3.heap.size):=by
    show _ < _
    have h1:=HAT3.out.tab.lt
    have h2:=HAT3.out.tab.inB
    have h3:=HS2.out
    omega
   clear hrg0 hg0 hs0 hown
   go_loopw [6] (fun fo wr=>∃ (left:Lit->Bool) (cnt:Nat) (t:Int×Int) (found:Bool),fo=.bool found/\wr.ranges Tryz.prog 43 toldR b w3.heap.size m D left cnt/\MaxInv n k VV left t found/\(∀ z,left z=true->Maps.has D z=true)/\BAt wr w.heap.size n k (.slice p L.length cap) t (w2.heap.size+1) b VV D row blk/\Below (w.heap.size+1) w4 wr) (fun _ wr=>wr.rangeLeft b w3.heap.size)
   case atStart=>exact ⟨Maps.has D,Maps.size D,(0,0),false,rfl,HRG4.out,H0.out,fun z hz=>hz,HAT4.out,Below.refl _ _⟩
   case round =>
    obtain ⟨left,cnt,t,found,rfl,hrg,hinv,hsub,hat,hB⟩:=hrel
    obtain ⟨w5,rfl⟩:∃ w5,w5=wr:=⟨_,rfl⟩
    have HINV:Hid (MaxInv n k VV left t found):=hinv
    have HSUB:Hid (∀ z,left z=true->Maps.has D z=true):=hsub
    have HAT:Hid (BAt w5 w.heap.size n k (.slice p L.length cap) t (w2.heap.size+1) b VV D row blk):=hat
    have HB:Hid (Below (w.heap.size+1) w4 w5):=hB
    clear hinv hsub hat hB HRG4 HAT4 H0 HAT3
    go_wp2_with (first
     | (at_next;refine wpList_next_ranges (α:=Int×Int) (β:=Int×Option Addr×Nat×Nat) _ rfl _ rfl 43 keyedT toldR tagV toldV (fun key kl hk=>by obtain ⟨x,hx,_⟩:=keyOfT_inv hk;exact ⟨x,hx⟩) (fun v y hv=>by obtain ⟨x,hx,_⟩:=toldR_inv hv;exact ⟨x,hx⟩) b w3.heap.size m D left cnt rfl hrg ?_ ?_)
     | go_in)
    ·intro _ hl0
     have HRES:Hid (RR=(t,if found then decOf n k VV t else ⟨#[]⟩,found)):=HEND.out left t found HINV.out hl0
     have hT:=HAT.out.T
     clear hl0 hrg HEND HSUB HROW
     cases found with
     | false =>
      have t0:=hT.c0
      have t1:=hT.c1
      have tf0:=hT.f0
      have tf1:=hT.f1
      have hT4:=(hT.set0 (.int .i64 t.1)).set1 (.int .i64 t.2)
      have k0:=hT4.c0
      have k1:=hT4.c1
      have HB9:Hid (Below w.heap.size w ((w5.setCell ⟨w.heap.size+1,0,none⟩ (.int .i64 t.1)).setCell ⟨w.heap.size+1,1,none⟩ (.int .i64 t.2))):=((HZB.out w5 HB.out).1.setCell (by show w.heap.size<=w.heap.size+1;omega) _).setCell (by show w.heap.size<=w.heap.size+1;omega) _
      clear hT hT4 HINV HAT HFIT HZB
      go_wp2
      exact bodyPost_ret (v:=.tuple #[.agg #[.int .i64 t.1,.int .i64 t.2],.string ⟨#[]⟩,.bool false,.nilIface]) (by simp [results,Tryz.results77,go_sem,k0,k1]) rfl ⟨⟨_,by rw [HRES.out];rfl,ErrIs.nil _ _⟩,HB9.out⟩
     | true =>
      obtain ⟨htin,hgood,_⟩:=HINV.out.yes rfl
      obtain ⟨q1,q2,q3,q4⟩:=HFIT.out t hgood
      have hne:=good_some hk1 hgood
      have hlk:=(HAT.out.tab.below (Below.refl _ _).drew).look htin
      obtain ⟨p6,c6,hrow,hshs⟩:=shs_of_own (HAT.out.tab.own t htin)
      unfold sizeT at hlk
      rw [if_neg hne,hrow,<- q1] at hlk
      have HRES2:Hid (RR=(t,decT k (shOf n k t VV).1.toNat (pickN k (shOf n k t VV).2 (shOf n k t VV).2.length),true)):=HRES.out
      have HDC:Hid (∀ W,Below w5.heap.size w5 W->Calls Tryz.prog 94 #[.int .i64 (n:Int),.int .i64 (k:Int),.int .i64 (((shOf n k t VV).1.toNat:Nat):Int),.slice p6 (shOf n k t VV).2.length c6] W fun e w'=>e=.returned (.tuple #[.string (decT k (shOf n k t VV).1.toNat (pickN k (shOf n k t VV).2 (shOf n k t VV).2.length)),.nilIface])/\Below W.heap.size W w'):=fun W hW=>decode_ok n k (shOf n k t VV).1.toNat p6 (shOf n k t VV).2 c6 z W hk1 hkn hn12 q2 q4 q3 (hshs.below hW) ((hW.cell (p:=⟨11,0,none⟩) (lt_of_cell (HZB.out w5 HB.out).2)).trans (HZB.out w5 HB.out).2)
      have t0:=hT.c0
      have t1:=hT.c1
      have g0:=HAT.out.c0
      have g1:=HAT.out.c1
      have HSS:Hid (∀ W,Below w5.heap.size w5 W->(W.cell? ⟨w.heap.size,0,none⟩=some (.int .i64 (n:Int))/\W.cell? ⟨w.heap.size,1,none⟩=some (.int .i64 (k:Int))/\W.cell? ⟨w.heap.size+1,0,none⟩=some (.int .i64 t.1)/\W.cell? ⟨w.heap.size+1,1,none⟩=some (.int .i64 t.2)/\(Instr.lookup 163 (.map (some b)) (.agg #[.int .i64 t.1,.int .i64 t.2]) false).run Tryz.prog W=.ok (.agg #[.int .i64 (((shOf n k t VV).1.toNat:Nat):Int),.slice p6 (shOf n k t VV).2.length c6]) W/\Below w5.heap.size w5 W)):=fun W hW=>by
       have hat:=HAT.out.below hW
       have hl:=hat.tab.look htin
       unfold sizeT at hl
       rw [if_neg hne,hrow,<- q1] at hl
       exact ⟨hat.c0,hat.c1,hat.T.c0,hat.T.c1,hl,hW⟩
      have hf0:∀ W,(Instr.field 166 (.agg #[.int .i64 (((shOf n k t VV).1.toNat:Nat):Int),.slice p6 (shOf n k t VV).2.length c6]) 0).run Tryz.prog W=.ok (.int .i64 (((shOf n k t VV).1.toNat:Nat):Int)) W:=fun W=>by kernel_rfl
      have hf1:∀ W,(Instr.field 166 (.agg #[.int .i64 (((shOf n k t VV).1.toNat:Nat):Int),.slice p6 (shOf n k t VV).2.length c6]) 1).run Tryz.prog W=.ok (.slice p6 (shOf n k t VV).2.length c6) W:=fun W=>by kernel_rfl
      clear hlk hrow hshs hne q1 q2 q3 q4 hgood htin hT HINV HRES HFIT t0 t1 g0 g1
      generalize decT k (shOf n k t VV).1.toNat (pickN k (shOf n k t VV).2 (shOf n k t VV).2.length)=dt at *
      generalize (shOf n k t VV).1.toNat=sz at *
      generalize (shOf n k t VV).2.length=ln at *
      have HDC2:Hid (∀ W,(W.cell? ⟨w.heap.size,0,none⟩=some (.int .i64 (n:Int))/\W.cell? ⟨w.heap.size,1,none⟩=some (.int .i64 (k:Int))/\W.cell? ⟨w.heap.size+1,0,none⟩=some (.int .i64 t.1)/\W.cell? ⟨w.heap.size+1,1,none⟩=some (.int .i64 t.2)/\(Instr.lookup 163 (.map (some b)) (.agg #[.int .i64 t.1,.int .i64 t.2]) false).run Tryz.prog W=.ok (.agg #[.int .i64 (sz:Int),.slice p6 ln c6]) W/\Below w5.heap.size w5 W)->Calls Tryz.prog 94 #[.int .i64 (n:Int),.int .i64 (k:Int),.int .i64 (sz:Int),.slice p6 ln c6] W fun e w'=>e=.returned (.tuple #[.string dt,.nilIface])/\(w'.cell? ⟨w.heap.size,0,none⟩=some (.int .i64 (n:Int))/\w'.cell? ⟨w.heap.size,1,none⟩=some (.int .i64 (k:Int))/\w'.cell? ⟨w.heap.size+1,0,none⟩=some (.int .i64 t.1)/\w'.cell? ⟨w.heap.size+1,1,none⟩=some (.int .i64 t.2)/\(Instr.lookup 163 (.map (some b)) (.agg #[.int .i64 t.1,.int .i64 t.2]) false).run Tryz.prog w'=.ok (.agg #[.int .i64 (sz:Int),.slice p6 ln c6]) w'/\Below w5.heap.size w5 w')):=fun W hW=>(HDC.out W hW.2.2.2.2.2).mono fun e w' ⟨he,hb⟩=>⟨he,HSS.out w' (hW.2.2.2.2.2.trans (hb.mono hW.2.2.2.2.2.size))⟩
      have hS0:=HSS.out w5 (Below.refl _ _)
      clear HDC
      go_wp2
      go_region_held3 (fun W=>(W.cell? ⟨w.heap.size,0,none⟩=some (.int .i64 (n:Int))/\W.cell? ⟨w.heap.size,1,none⟩=some (.int .i64 (k:Int))/\W.cell? ⟨w.heap.size+1,0,none⟩=some (.int .i64 t.1)/\W.cell? ⟨w.heap.size+1,1,none⟩=some (.int .i64 t.2)/\(Instr.lookup 163 (.map (some b)) (.agg #[.int .i64 t.1,.int .i64 t.2]) false).run Tryz.prog W=.ok (.agg #[.int .i64 (sz:Int),.slice p6 ln c6]) W/\Below w5.heap.size w5 W)) (first | assumption | exact HSS.out _ (Below.refl _ _).drew) (first | (go_at_call 94;refine (HDC2.out _ (by assumption)).mono ?_;rintro e w6 ⟨rfl,hS6⟩))
      all_goals
       have hB6:Below w5.heap.size w5 w6:=hS6.2.2.2.2.2
       have hT6:=HAT.out.T.below hB6
       have t0:=hT6.c0
       have t1:=hT6.c1
       have tf0:=hT6.f0
       have tf1:=hT6.f1
       have hT4:=(hT6.set0 (.int .i64 t.1)).set1 (.int .i64 t.2)
       have k0:=hT4.c0
       have k1:=hT4.c1
       have HB9:Hid (Below w.heap.size w ((w6.setCell ⟨w.heap.size+1,0,none⟩ (.int .i64 t.1)).setCell ⟨w.heap.size+1,1,none⟩ (.int .i64 t.2))):=((HZB.out w6 (HB.out.trans (hB6.mono (by have:=lt_of_cell HAT.out.T.c0;omega)))).1.setCell (by show w.heap.size<=w.heap.size+1;omega) _).setCell (by show w.heap.size<=w.heap.size+1;omega) _
       clear hB6 hT6 hT4 hS6 HSS HDC2 hS0 hf0 hf1
       go_wp2
       exact bodyPost_ret (v:=.tuple #[.agg #[.int .i64 t.1,.int .i64 t.2],.string dt,.bool true,.nilIface]) (by simp [results,Tryz.results77,go_sem,k0,k1]) rfl ⟨⟨_,by rw [HRES2.out],ErrIs.nil _ _⟩,HB9.out⟩
    ·intro x1 x2 cz cp cn cc4 kl yd yp w6 cnt2 hkey hlk hv hatk hrg2 hlt2 hg2 hs2 hen
     obtain ⟨hxin,rfl,hlen⟩:=HAT.out.tab.entry HSUB.out hkey hlk hv hatk
     dsimp only at hlen
     have hr3:w.heap.size+1 < w3.heap.size:=HR3.out
     have hat6:=HAT.out.grown hg2 hr3 hblt HROW.out
     have hb6:Below (w.heap.size+1) w4 w6:=HB.out.trans ⟨hg2.os,hg2.tape,hg2.output,hg2.size,fun j hj=>hg2.block j (by have:=(tab_ranges hrg).1;omega) (fun e=>by injection e with e;omega)⟩
     obtain ⟨w7,hw7⟩:∃ w7,w7=(w6.alloc (.cells #[.int .i64 x1,.int .i64 x2] 43)).alloc (.cells #[.int .i64 cz,.slice cp cn cc4] 166):=⟨_,rfl⟩
     have hb67:Below w6.heap.size w6 w7:=by rw [hw7];exact ((Below.refl _ _).alloc (Nat.le_refl _) _).alloc (by simp) _
     have x0:w7.cell? ⟨w6.heap.size,0,none⟩=some (.int .i64 x1):=by rw [hw7];simp
     have x1':w7.cell? ⟨w6.heap.size,1,none⟩=some (.int .i64 x2):=by rw [hw7];simp
     have y1:w7.cell? ⟨w6.heap.size+1,1,none⟩=some (.slice cp cn cc4):=by rw [hw7];simp
     have HW7:Hid (w7=(w6.alloc (.cells #[.int .i64 x1,.int .i64 x2] 43)).alloc (.cells #[.int .i64 cz,.slice cp cn cc4] 166)):=hw7
     have hat7:=hat6.below hb67
     have HAT7:Hid (BAt w7 w.heap.size n k (.slice p L.length cap) t (w2.heap.size+1) b VV D row blk):=hat7
     have HB7:Hid (Below (w.heap.size+1) w4 w7):=hb6.trans (hb67.mono (by have:=hb6.size;have:=(tab_ranges hrg2).1;omega))
     have hrg7:=qbRanges_same hrg2 (hb67.block b (tab_ranges hrg2).2) (hb67.block w3.heap.size (tab_ranges hrg2).1)
     have HRG7:Hid (w7.ranges Tryz.prog 43 toldR b w3.heap.size m D (fun z=>left z && !z.sameKey (litT (x1,x2))) cnt2):=hrg7
     have HLT:Hid (cnt2 < cnt):=hlt2
     have HRG0:Hid (w5.ranges Tryz.prog 43 toldR b w3.heap.size m D left cnt):=hrg
     have HS2:Hid (∀ z,(left z && !z.sameKey (litT (x1,x2)))=true->Maps.has D z=true):=fun z hz=>HSUB.out z (by simp only [Bool.and_eq_true] at hz;exact hz.1)
     have HXI:Hid (TagIn (x1,x2)):=hxin
     have HGD:Hid (GoodT n k VV (x1,x2)↔k<=cn):=by show _↔_;unfold GoodT;rw [hlen]
     have HLS:Hid (∀ W,Calls Tryz.prog 93 #[.agg #[.int .i64 t.1,.int .i64 t.2],.agg #[.int .i64 x1,.int .i64 x2]] W fun e w'=>e=.returned (.bool (lessB t (x1,x2)))/\RowKit.Below W.heap.size W w'):=fun W=>pless_any t (x1,x2) W
     have g1:=hat7.c1
     have t0:=hat7.T.c0
     have t1:=hat7.T.c1
     have tf0:=hat7.T.f0
     have tf1:=hat7.T.f1
     have HPASS:Hid (∀ W,Below w7.heap.size w7 W->(¬ k<=cn∨found=true/\lessB t (x1,x2)=false)->W.ranges Tryz.prog 43 toldR b w3.heap.size m D (fun z=>left z && !z.sameKey (litT (x1,x2))) cnt2/\MaxInv n k VV (fun z=>left z && !z.sameKey (litT (x1,x2))) t found/\BAt W w.heap.size n k (.slice p L.length cap) t (w2.heap.size+1) b VV D row blk/\Below (w.heap.size+1) w4 W):=fun W hW hcond =>
      ⟨qbRanges_same HRG7.out (hW.block b (tab_ranges HRG7.out).2) (hW.block w3.heap.size (tab_ranges HRG7.out).1),maxInv_pass HINV.out HXI.out (by rcases hcond with h | h;exact Or.inl fun hg=>h (HGD.out.1 hg);exact Or.inr h),HAT7.out.below hW,HB7.out.trans (hW.mono (by have:=HB7.out.size;have:=(tab_ranges HRG7.out).1;omega))⟩
     have HTAKE:Hid (∀ W,Below w7.heap.size w7 W->k<=cn->(found=true->lessB t (x1,x2)=true)->((W.setCell ⟨w.heap.size+1,0,none⟩ (.int .i64 x1)).setCell ⟨w.heap.size+1,1,none⟩ (.int .i64 x2)).ranges Tryz.prog 43 toldR b w3.heap.size m D (fun z=>left z && !z.sameKey (litT (x1,x2))) cnt2/\MaxInv n k VV (fun z=>left z && !z.sameKey (litT (x1,x2))) (x1,x2) true/\BAt ((W.setCell ⟨w.heap.size+1,0,none⟩ (.int .i64 x1)).setCell ⟨w.heap.size+1,1,none⟩ (.int .i64 x2)) w.heap.size n k (.slice p L.length cap) (x1,x2) (w2.heap.size+1) b VV D row blk/\Below (w.heap.size+1) w4 ((W.setCell ⟨w.heap.size+1,0,none⟩ (.int .i64 x1)).setCell ⟨w.heap.size+1,1,none⟩ (.int .i64 x2))):=fun W hW hk hp=>by
      have hWr:=qbRanges_same HRG7.out (hW.block b (tab_ranges HRG7.out).2) (hW.block w3.heap.size (tab_ranges HRG7.out).1)
      have hBW:=HAT7.out.below hW
      have hbb:=hBW.tab.inB
      have hBB:=hBW.hB
      have hne1:b≠w.heap.size+1:=by omega
      have hne2:w3.heap.size≠w.heap.size+1:=by have:=HR3.out;omega
      refine ⟨qbRanges_same hWr ?_ ?_,maxInv_take HINV.out HXI.out (HGD.out.2 hk) hp,hBW.set (x1,x2),?_⟩
      ·rw [Below.heap_setCell _ _ _ _ hne1,Below.heap_setCell _ _ _ _ hne1]
      ·rw [Below.heap_setCell _ _ _ _ hne2,Below.heap_setCell _ _ _ _ hne2]
      ·exact ((HB7.out.trans (hW.mono (by have:=HB7.out.size;have:=(tab_ranges HRG7.out).1;omega))).setCell (Nat.le_refl _) _).setCell (Nat.le_refl _) _
     clear hkey hlk hv hatk hrg2 hlt2 hg2 hs2 hlen hxin hat6 hb6 hw7 hb67 hat7 hrg7 hrg HSUB HINV HAT HB HAT7 HGD
     unfold tagV toldV at hen ⊢
     by_cases hkc:k<=cn
     ·have d1:decide (k<=cn)=true:=decide_eq_true hkc
      cases found with
      | false =>
       have hps:=HTAKE.out w7 (Below.refl _ _) hkc (fun h=>by cases h)
       clear HPASS HTAKE HLS
       go_wp2_with (first | rw [<- HW7.out] | fail)
       exact ⟨⟨_,cnt2,(x1,x2),true,rfl,hps.1,hps.2.1,HS2.out,hps.2.2.1,hps.2.2.2⟩,by rw [World.ranges.left_eq hps.1,World.ranges.left_eq HRG0.out];exact HLT.out⟩
      | true =>
       cases hls:lessB t (x1,x2) with
       | false =>
        rw [hls] at HLS
        have HPS:Hid (∀ W,Below w7.heap.size w7 W->W.ranges Tryz.prog 43 toldR b w3.heap.size m D (fun z=>left z && !z.sameKey (litT (x1,x2))) cnt2/\MaxInv n k VV (fun z=>left z && !z.sameKey (litT (x1,x2))) t true/\BAt W w.heap.size n k (.slice p L.length cap) t (w2.heap.size+1) b VV D row blk/\Below (w.heap.size+1) w4 W):=fun W hW=>HPASS.out W hW (Or.inr ⟨rfl,hls⟩)
        clear HPASS HTAKE hls
        go_wp2_with (first | rw [<- HW7.out] | fail)
        refine (HLS.out _).mono ?_
        rintro e w8 ⟨rfl,hb8⟩
        have hps:=HPS.out w8 hb8
        clear HPS HLS hb8
        go_wp2
        exact ⟨⟨_,cnt2,t,true,rfl,hps.1,hps.2.1,HS2.out,hps.2.2.1,hps.2.2.2⟩,by rw [World.ranges.left_eq hps.1,World.ranges.left_eq HRG0.out];exact HLT.out⟩
       | true =>
        rw [hls] at HLS
        have HPS:Hid (∀ W,Below w7.heap.size w7 W->((W.cell? ⟨w6.heap.size,0,none⟩=some (.int .i64 x1)/\W.cell? ⟨w6.heap.size,1,none⟩=some (.int .i64 x2))/\TwoC W (w.heap.size+1) (.int .i64 t.1) (.int .i64 t.2))/\((W.setCell ⟨w.heap.size+1,0,none⟩ (.int .i64 x1)).setCell ⟨w.heap.size+1,1,none⟩ (.int .i64 x2)).ranges Tryz.prog 43 toldR b w3.heap.size m D (fun z=>left z && !z.sameKey (litT (x1,x2))) cnt2/\MaxInv n k VV (fun z=>left z && !z.sameKey (litT (x1,x2))) (x1,x2) true/\BAt ((W.setCell ⟨w.heap.size+1,0,none⟩ (.int .i64 x1)).setCell ⟨w.heap.size+1,1,none⟩ (.int .i64 x2)) w.heap.size n k (.slice p L.length cap) (x1,x2) (w2.heap.size+1) b VV D row blk/\Below (w.heap.size+1) w4 ((W.setCell ⟨w.heap.size+1,0,none⟩ (.int .i64 x1)).setCell ⟨w.heap.size+1,1,none⟩ (.int .i64 x2))):=fun W hW=>⟨⟨⟨(hW.cell (p:=⟨w6.heap.size,0,none⟩) (lt_of_cell x0)).trans x0,(hW.cell (p:=⟨w6.heap.size,1,none⟩) (lt_of_cell x0)).trans x1'⟩,TwoC.below ⟨t0,t1,tf0,tf1⟩ hW⟩,HTAKE.out W hW hkc (fun _=>hls)⟩
        clear HPASS HTAKE hls
        go_wp2_with (first | rw [<- HW7.out] | fail)
        refine (HLS.out _).mono ?_
        rintro e w8 ⟨rfl,hb8⟩
        obtain ⟨⟨⟨z0,z1⟩,hT8⟩,hps⟩:=HPS.out w8 hb8
        clear t0 t1 tf0 tf1
        have t0:=hT8.c0
        have t1:=hT8.c1
        have tf0:=hT8.f0
        have tf1:=hT8.f1
        clear HPS HLS hb8 hT8 x0 x1' y1
        go_wp2
        exact ⟨⟨_,cnt2,(x1,x2),true,rfl,hps.1,hps.2.1,HS2.out,hps.2.2.1,hps.2.2.2⟩,by rw [World.ranges.left_eq hps.1,World.ranges.left_eq HRG0.out];exact HLT.out⟩
     ·have d1:decide (k<=cn)=false:=decide_eq_false hkc
      have hps:=HPASS.out w7 (Below.refl _ _) (Or.inl hkc)
      clear HPASS HTAKE HLS
      go_wp2_with (first | rw [<- HW7.out] | fail)
      exact ⟨⟨_,cnt2,t,found,rfl,hps.1,hps.2.1,HS2.out,hps.2.2.1,hps.2.2.2⟩,by rw [World.ranges.left_eq hps.1,World.ranges.left_eq HRG0.out];exact HLT.out⟩
end Go.Proofs.YtghpdhegfnhmkaaGreatDoor
