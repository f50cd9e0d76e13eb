import Derived.Test.YtmhoiodfppdlnaaGreatDoorAq15
import Derived.Test.YtmhoiodfppdlnaaGreatDoorAq3
import Derived.Test.YtmhoiodfppdlnaaGreatDoorAq4
import Derived.Test.YtmhoiodfppdlnaaGreatDoorAq32
import Derived.Test.YtmhoiodfppdlnaaGreatDoorAq18
import Derived.Test.YtmhoiodfppdlnaaGreatDoorAq30
set_option maxRecDepth 10000
set_option maxHeartbeats 4000000
namespace Go.Proofs.YtmhoiodfppdlnaaGreatDoor
open Go.RowKit
def clientN (who:Int):ByteArray:=strOf [99,48+who.toNat]
def Bid.ask (b:Bid):MAsk:=⟨clientN b.who,b.key,b.who,b.op,b.config,b.c,⟨0,0,[]⟩,b.put,false,.looking,[],[],(0,0),if b.put then b.text else ⟨#[]⟩,false⟩
def AskMade (Ak:World->Nat->Nat->(Nat->Prop)->MAsk->Prop)(ad:Nat->Addr)(b:Bid)(B:Nat)(e:Ending)(w':World):Prop :=
 ∃ ev,ErrIs w' ad ev (bidF b).1 (bidF b).2/\((0 < (bidF b).1/\e=.returned (.tuple #[.pointer none,ev]))∨¬ 0 < (bidF b).1/\∃ h S,e=.returned (.tuple #[.pointer (some ⟨h,0,none⟩),ev])/\Ak w' B h S b.ask)
structure AskOk (ad:Nat->Addr) (X:World->Prop) (Ak:World->Nat->Nat->(Nat->Prop)->MAsk->Prop):Prop where
 inS:∀ {w B h S a},Ak w B h S a->∀ k,S k->B<=k/\k < w.heap.size
 keep:∀ {w w' B h S a},Ak w B h S a->Below B w w'->(∀ k,S k->w'.heap[k]?=w.heap[k]?)->Ak w' B h S a
 put:∀ (b:Bid) (p:Option Addr) (cap:Nat) (w:World),CfgAt w b.c p cap->b.put=true->b.key.size<=1000->b.text.size<=3000->I64 b.who->I64 b.op->I64 b.config->ErrsQ w ad->X w->Calls Tryz.prog 8 #[.int .i64 b.who,.int .i64 b.op,cfgA b.c (.slice p b.c.L.length cap),.int .i64 b.config,.string b.key,.string b.text] w fun e w'=>AskMade Ak ad b w.heap.size e w'/\Below w.heap.size w w'
 get:∀ (b:Bid) (p:Option Addr) (cap:Nat) (w:World),CfgAt w b.c p cap->b.put=false->b.key.size<=1000->I64 b.who->I64 b.op->I64 b.config->ErrsQ w ad->X w->Calls Tryz.prog 10 #[.int .i64 b.who,.int .i64 b.op,cfgA b.c (.slice p b.c.L.length cap),.int .i64 b.config,.string b.key] w fun e w'=>AskMade Ak ad b w.heap.size e w'/\Below w.heap.size w w'
 begin:∀ {w B h S a},Ak w B h S a->X w->Calls Tryz.prog 16 #[.pointer (some ⟨h,0,none⟩)] w fun e w'=>(∃ p c,e=.returned (.slice p a.begin.length c)/\MsgsN w.heap.size w' p a.begin)/\∃ S',Ak w' B h S' a/\Upd S S' w w'
 hear:∀ {w B h S a} (x:Msg×Lv),Ak w B h S a->HasL w x->a.small x.1->(∀ v ∈ x.1.L,VerI64 v)->(∀ W:World,w.heap.size<=W.heap.size->(∀ k,k < w.heap.size->¬ S k->W.heap[k]?=w.heap[k]?)->ErrsQ W ad/\X W)->Calls Tryz.prog 18 #[.pointer (some ⟨h,0,none⟩),msgA x.1 (lvV x.2)] w fun e w'=>(∃ p c,e=.returned (.slice p (a.hear x.1).2.length c)/\MsgsN w.heap.size w' p (a.hear x.1).2)/\∃ S',Ak w' B h S' (a.hear x.1).1/\Upd S S' w w'
 state:∀ {w B h S a},Ak w B h S a->Calls Tryz.prog 21 #[.pointer (some ⟨h,0,none⟩)] w fun e w'=>e=.returned (.string a.st.word)/\Below w.heap.size w w'
 answer:∀ {w B h S a},Ak w B h S a->Calls Tryz.prog 22 #[.pointer (some ⟨h,0,none⟩)] w fun e w'=>e=.returned (if a.st=.done/\a.found=true then .tuple #[.agg #[.int .i64 a.tag.1,.int .i64 a.tag.2],.string a.text,.bool true] else .tuple #[.agg #[.int .i64 0,.int .i64 0],.string ⟨#[]⟩,.bool false])/\Below w.heap.size w w'
def bid0:Bid:=⟨false,0,0,0,⟨1,1,[⟨#[97]⟩]⟩,⟨#[107]⟩,⟨#[]⟩⟩
theorem bid0_fine:bidF bid0=(0,-1):=by decide +kernel
theorem bid0_begin:bid0.ask.begin=[⟨⟨#[99,48]⟩,⟨#[97]⟩,⟨#[108,111,111,107]⟩,⟨#[107]⟩,0,0,false,[]⟩]:=by
 have e1:clientN 0=⟨#[99,48]⟩:=by decide +kernel
 unfold MAsk.begin MAsk.send Bid.ask bid0
 simp only [e1]
 rfl
theorem asked_any {ad:Nat->Addr}{X:World->Prop}{Ak:World->Nat->Nat->(Nat->Prop)->MAsk->Prop}(hO:AskOk ad X Ak)(w:World)(hS:∀ W,Below w.heap.size w W->ErrsQ W ad)(hX:∀ W,Below w.heap.size w W->X W) :
 Calls Tryz.prog 5 #[] w fun e w'=>e=.returned (.bool true)/\Below w.heap.size w w':=by
 obtain⟨w1,hw1⟩:∃ w1,w1=(w.alloc (.cells #[.string ⟨#[97]⟩] 9)).alloc (.cells #[.int .i64 1,.int .i64 1,.slice (some ⟨w.heap.size,0,none⟩) 1 1] 24):=⟨_,rfl⟩
 have HW1:Hid (w1=(w.alloc (.cells #[.string ⟨#[97]⟩] 9)).alloc (.cells #[.int .i64 1,.int .i64 1,.slice (some ⟨w.heap.size,0,none⟩) 1 1] 24)):=hw1
 have hb1:Below w.heap.size w w1:=by rw [hw1];exact((Below.refl _ _).alloc (Nat.le_refl _) _).alloc (by simp) _
 have hbx:Below (w.alloc (.cells #[.string ⟨#[97]⟩] 9)).heap.size (w.alloc (.cells #[.string ⟨#[97]⟩] 9)) w1:=zBe hw1
 have ex:(w.alloc (.cells #[.string ⟨#[97]⟩] 9)).heap.size=w.heap.size+1:=by simp
 have hc1:w1.cell? ⟨w.heap.size,0,none⟩=some (.string ⟨#[97]⟩):=by rw [hbx.cell (p:=⟨w.heap.size,0,none⟩) (by show w.heap.size < _;omega),World.cell?_alloc_at _ _ _ _ rfl];rfl
 have g0:w1.cell? ⟨w.heap.size+1,0,none⟩=some (.int .i64 1):=by rw [hw1,World.cell?_alloc_at _ _ _ _ ex.symm];rfl
 have g1:w1.cell? ⟨w.heap.size+1,1,none⟩=some (.int .i64 1):=by rw [hw1,World.cell?_alloc_at _ _ _ _ ex.symm];rfl
 have g2:w1.cell? ⟨w.heap.size+1,2,none⟩=some (.slice (some ⟨w.heap.size,0,none⟩) 1 1):=by rw [hw1,World.cell?_alloc_at _ _ _ _ ex.symm];rfl
 have hat:CfgAt w1 bid0.c (some ⟨w.heap.size,0,none⟩) 1:=⟨Or.inr ⟨w.heap.size,0,rfl,by have:=hbx.size;omega,fun i hi=>by
  obtain rfl:i=0:=by simpa [bid0] using hi
  exact hc1⟩,Nat.le_refl _,(fun e=>by cases e),by decide,(fun x hx=>by simp [bid0] at hx;subst hx;decide),⟨by decide,by decide⟩,by decide,by decide⟩
 have hg:=hO.get bid0 (some ⟨w.heap.size,0,none⟩) 1 w1 hat rfl (by decide) ⟨by decide,by decide⟩ ⟨by decide,by decide⟩ ⟨by decide,by decide⟩ (hS w1 hb1) (hX w1 hb1)
 have HG:Hid (Calls Tryz.prog 10 #[.int .i64 0,.int .i64 0,.agg #[.int .i64 1,.int .i64 1,.slice (some ⟨w.heap.size,0,none⟩) 1 1],.int .i64 0,.string ⟨#[107]⟩] w1 fun e w'=>(∃ h S,e=.returned (.tuple #[.pointer (some ⟨h,0,none⟩),.nilIface])/\Ak w' w1.heap.size h S bid0.ask)/\Below w1.heap.size w1 w'):=hg.mono fun e w' hp=>by
  obtain⟨⟨ev,h1,h2⟩,h3⟩:=hp
  rw [bid0_fine] at h1 h2
  obtain rfl:=h1.isNil
  rcases h2 with ⟨h4,_⟩ | ⟨_,h,S,he,hA⟩
  ·exact absurd h4 (by decide)
  ·exact⟨⟨h,S,he,hA⟩,h3⟩
 have HB1:Hid (Below w.heap.size w w1):=hb1
 have HO:Hid (AskOk ad X Ak):=hO
 have HX:Hid (∀ W,Below w.heap.size w W->X W):=hX
 clear hg hat hc1 hb1 hw1 hS hO hX hbx ex
 go_enter Tryz.func5,Tryz.ntmps5
 go_wp2_with (first | rw [<- HW1.out] | fail)
 refine HG.out.mono ?_
 rintro e w2 ⟨⟨h,S,rfl,hA⟩,hb2⟩
 have HB2:Hid (Below w.heap.size w w2):=HB1.out.trans (hb2.mono HB1.out.size)
 have HBG:=HO.out.begin hA (HX.out w2 HB2.out)
 have hin:=HO.out.inS hA
 have HIN:Hid (∀ k,S k->w1.heap.size<=k/\k < w2.heap.size):=hin
 have HS1:Hid (w.heap.size<=w1.heap.size):=HB1.out.size
 clear hA hb2 HG hin
 go_wp2_with fail
 refine HBG.mono ?_
 rintro e w3 ⟨⟨p,c,rfl,hm⟩,S',hA3,hu⟩
 rw [bid0_begin] at hm ⊢
 have HB3:Hid (Below w.heap.size w w3):=HB2.out.trans ⟨hu.os,hu.tape,hu.output,hu.size,fun k hk=>hu.block k (Nat.lt_of_lt_of_le hk HB2.out.size) (fun hs=>by have:=(HIN.out k hs).1;have:=HS1.out;omega)⟩
 obtain⟨ml,hml,hr,_⟩:=hm
 obtain⟨x,rfl⟩:∃ x,ml=[x]:=List.length_eq_one_iff.1 (by have:=congrArg List.length hml;simpa using this)
 have hx:x.1=⟨⟨#[99,48]⟩,⟨#[97]⟩,⟨#[108,111,111,107]⟩,⟨#[107]⟩,0,0,false,[]⟩:=by simpa using hml
 obtain⟨b,o,hpp,hblt,d0,d1,d2,d3,d4,d5,d6,d7⟩:=msg_cells hr (i:=0) (by simp)
 simp only [List.getElem_cons_zero,hx,Nat.zero_mul,Nat.add_zero] at d0 d2
 have HST:=HO.out.state hA3
 have HSW:Hid (Calls Tryz.prog 21 #[.pointer (some ⟨h,0,none⟩)] w3 fun e w'=>e=.returned (.string ⟨#[108,111,111,107,105,110,103]⟩)/\Below w3.heap.size w3 w'):=HST
 subst hpp
 clear hr hml hx d1 d3 d4 d5 d6 d7 HST hA3 hu HBG
 go_wp2_with fail
 refine HSW.out.mono ?_
 rintro e w4 ⟨rfl,hb4⟩
 have HB4:Hid (Below w.heap.size w w4):=HB3.out.trans (hb4.mono HB3.out.size)
 clear hb4 HSW
 go_wp2
 go_ret
 exact⟨rfl,HB4.out⟩
def AkOf (w:World)(B:Nat)(h:Nat)(S:Nat->Prop)(a:MAsk):Prop:=PErOf 95 w B h S a/\AFine a
theorem hear_afine {a:MAsk}(h:AFine a)(m:Msg)(hv:∀ v ∈ m.L,VerI64 v):AFine (a.hear m).1:=by
 by_cases ht:a.takes m=true
 ·cases hs:m.shut with
  | true =>
   rw [hear_shut ht hs h.st]
   exact h.ended (Or.inr rfl)
  | false =>
   have hh:=h.heard ht hv
   rcases(takes_facts h.st ht).1 with e | e
   ·rw [hear_told ht hs e]
    unfold tolR
    split
    ·exact hh
    ·split
     ·exact(hh.found e).ended (Or.inl rfl)
     ·exact(hh.found e).keeps (by simp_all)
   ·rw [hear_kept ht hs e]
    split
    ·exact hh
    ·exact hh.ended (Or.inl rfl)
 ·rw [hear_no (Bool.eq_false_iff.2 ht)]
  exact h
theorem astate_any {w:World}{B h:Nat}{S:Nat->Prop}{a:MAsk}(hc:AkOf w B h S a):Calls Tryz.prog 21 #[.pointer (some ⟨h,0,none⟩)] w fun e w'=>e=.returned (.string a.st.word)/\Below w.heap.size w w':=by
 obtain⟨⟨_,_,_,_,_,_,_,_,_,_,hp⟩,_⟩:=hc
 have HST:=pstate_any hp
 clear hp
 generalize a.st.word=sw at *
 go_enter Tryz.func21,Tryz.ntmps21
 go_wp2_with fail
 refine HST.mono ?_
 rintro e w1 ⟨rfl,hb1⟩
 go_wp2
 go_ret
 exact⟨rfl,hb1⟩
theorem aanswer_any {w:World}{B h:Nat}{S:Nat->Prop}{a:MAsk}(hc:AkOf w B h S a):Calls Tryz.prog 22 #[.pointer (some ⟨h,0,none⟩)] w fun e w'=>e=.returned (if a.st=.done/\a.found=true then .tuple #[.agg #[.int .i64 a.tag.1,.int .i64 a.tag.2],.string a.text,.bool true] else .tuple #[.agg #[.int .i64 0,.int .i64 0],.string ⟨#[]⟩,.bool false])/\Below w.heap.size w w':=by
 obtain⟨⟨_,_,_,_,_,_,_,_,_,_,hp⟩,_⟩:=hc
 obtain⟨w1,hw1⟩:∃ w1,w1=w.alloc (.cells #[.int .i64 0,.int .i64 0] 46):=⟨_,rfl⟩
 have hb1:Below w.heap.size w w1:=zBe hw1
 have hlt1:w.heap.size < w1.heap.size:=by rw [hw1];simp
 have hk1:w1.heap[w.heap.size]?=some (.cells #[.int .i64 0,.int .i64 0] 46 (0,0)):=by
  rw [hw1]
  show(w.heap.push _)[w.heap.size]?=_
  simp
 have HAN:=panswer_any (hp.below hb1)
 obtain⟨o1,o2,o3,o4,ho⟩:∃ o1 o2 o3 o4,(if a.st=.done/\a.found=true then (.tuple #[.agg #[.int .i64 a.tag.1,.int .i64 a.tag.2],.string a.text,.bool true]:Value) else .tuple #[.agg #[.int .i64 0,.int .i64 0],.string ⟨#[]⟩,.bool false])=.tuple #[.agg #[.int .i64 o1,.int .i64 o2],.string o3,.bool o4]:=by
  split
  ·exact⟨_,_,_,_,rfl⟩
  ·exact⟨_,_,_,_,rfl⟩
 rw [ho] at HAN ⊢
 have HAX:Hid (Calls Tryz.prog 51 #[.pointer (some ⟨h,0,none⟩)] w1 fun e w'=>e=.returned (.tuple #[.agg #[.int .i64 o1,.int .i64 o2],.string o3,.bool o4])/\Hid (Below w.heap.size w w')/\w'.heap[w.heap.size]?=some (.cells #[.int .i64 0,.int .i64 0] 46 (0,0))):=HAN.mono fun e w' hq=>⟨hq.1,hb1.trans (hq.2.mono hb1.size),(hq.2.block _ hlt1).trans hk1⟩
 have HW1:Hid (w1=w.alloc (.cells #[.int .i64 0,.int .i64 0] 46)):=hw1
 clear hp hw1 hb1 hlt1 hk1 HAN ho
 go_enter Tryz.func22,Tryz.ntmps22
 go_wp2_with (first | rw [<- HW1.out] | fail)
 refine HAX.out.mono ?_
 rintro e w2 ⟨rfl,hB2,hk2⟩
 have k0:=(blk_cell hk2 0).1
 have k1:=(blk_cell hk2 1).1
 have f0:=(blk_cell hk2 0).2
 have f1:=(blk_cell hk2 1).2
 clear HAX hk2
 go_wp2
 exact bodyPost_ret (v:=.tuple #[.agg #[.int .i64 o1,.int .i64 o2],.string o3,.bool o4]) (by simp [results,Tryz.results22,go_sem,k0,k1]) rfl ⟨rfl,(hB2.out.setCell (Nat.le_refl _) _).setCell (Nat.le_refl _) _⟩
theorem abegin_any {w:World}{B h:Nat}{S:Nat->Prop}{a:MAsk}(hc:AkOf w B h S a):Calls Tryz.prog 16 #[.pointer (some ⟨h,0,none⟩)] w fun e w'=>(∃ p c,e=.returned (.slice p a.begin.length c)/\MsgsN w.heap.size w' p a.begin)/\Below w.heap.size w w':=by
 obtain⟨⟨S0,P,F,T,asks,cv,aw,m,D,row,hp⟩,hf⟩:=hc
 have hm:=hf.still
 have hbe:a.begin=begL a F asks:=by
  obtain⟨e1,e2⟩:=hp.plc.beg hm
  have e3:=hp.plc.kind
  rw [hm] at e3
  unfold MAsk.begin begL MAsk.send
  rw [hm,e1,e2,e3]
  rfl
 rw [hbe]
 have HBG:=pbegin_any hp
 clear hp hbe hm hf
 generalize begL a F asks=R at *
 go_enter Tryz.func16,Tryz.ntmps16
 go_wp2_with fail
 refine HBG.mono ?_
 rintro e w2 ⟨⟨p2,c2,rfl,hm2⟩,hb2⟩
 clear HBG
 go_wp2
 go_ret
 exact⟨⟨p2,c2,rfl,hm2⟩,hb2⟩
theorem ahear_on {w:World}{h:Nat}(m1 m2 m3 m4:ByteArray)(m5 m6:Int)(m7:Bool)(lp:Option Addr)(ln lc:Nat){Q:Ending->World->Prop}(hq:Calls Tryz.prog 44 #[.pointer (some ⟨h,0,none⟩),.agg #[.string m1,.string m2,.string m3,.string m4,.int .i64 m5,.int .i64 m6,.bool m7,.slice lp ln lc]] (w.alloc (.cells #[.string m1,.string m2,.string m3,.string m4,.int .i64 m5,.int .i64 m6,.bool m7,.slice lp ln lc] 57)).drew fun e w'=>(∃ p n c,e=.returned (.slice p n c))/\Q e w') :
 Calls Tryz.prog 18 #[.pointer (some ⟨h,0,none⟩),.agg #[.string m1,.string m2,.string m3,.string m4,.int .i64 m5,.int .i64 m6,.bool m7,.slice lp ln lc]] w Q:=by
 obtain⟨w2,hw2⟩:∃ w2,w2=w.alloc (.cells #[.string m1,.string m2,.string m3,.string m4,.int .i64 m5,.int .i64 m6,.bool m7,.slice lp ln lc] 57):=⟨_,rfl⟩
 rw [<- hw2] at hq
 have hk2:w2.heap[w.heap.size]?=some (.cells #[.string m1,.string m2,.string m3,.string m4,.int .i64 m5,.int .i64 m6,.bool m7,.slice lp ln lc] 57 (0,0)):=by
  rw [hw2]
  show(w.heap.push _)[w.heap.size]?=_
  simp
 have g0:=(blk_cell hk2 0).1
 have g1:=(blk_cell hk2 1).1
 have g2:=(blk_cell hk2 2).1
 have g3:=(blk_cell hk2 3).1
 have g4:=(blk_cell hk2 4).1
 have g5:=(blk_cell hk2 5).1
 have g6:=(blk_cell hk2 6).1
 have g7:=(blk_cell hk2 7).1
 have HW2:Hid (w2=w.alloc (.cells #[.string m1,.string m2,.string m3,.string m4,.int .i64 m5,.int .i64 m6,.bool m7,.slice lp ln lc] 57)):=hw2
 clear hw2 hk2
 go_enter Tryz.func18,Tryz.ntmps18
 go_wp2
 rw [<- HW2.out]
 refine wp_region_still_tail 4 (by kernel_rfl) (by kernel_rfl) ?_
 simp only [List.take_succ_cons,List.take_zero,List.drop_succ_cons,List.drop_zero]
 still_step
 still_step
 still_step
 still_step
 refine wpStill_nil ?_
 go_wp2_with fail
 refine hq.mono ?_
 rintro e w3 ⟨⟨p3,n3,c3,rfl⟩,hQ3⟩
 clear hq g0 g1 g2 g3 g4 g5 g6 g7
 go_wp2
 exact hQ3
theorem ahear_any (ad:Nat->Addr){w:World}{B h:Nat}{S:Nat->Prop}{a:MAsk}(hc:AkOf w B h S a)(x:Msg×Lv)(hL:HasL w x)(hsm:a.small x.1)(hv:∀ v ∈ x.1.L,VerI64 v)(hG:∀ W:World,w.heap.size<=W.heap.size->(∀ k,k < w.heap.size->¬ S k->W.heap[k]?=w.heap[k]?)->ErrsQ W ad/\∃ z,W.cell? ⟨11,0,none⟩=some (.iface 252 (.pointer (some z)))) :
 Calls Tryz.prog 18 #[.pointer (some ⟨h,0,none⟩),msgA x.1 (lvV x.2)] w fun e w'=>(∃ p c,e=.returned (.slice p (a.hear x.1).2.length c)/\MsgsN w.heap.size w' p (a.hear x.1).2)/\∃ S',AkOf w' B h S' (a.hear x.1).1/\Upd S S' w w':=by
 obtain⟨⟨S0,P,F,T,asks,cv,aw,m,D,row,hp⟩,hf⟩:=hc
 obtain⟨⟨m1,m2,m3,m4,m5,m6,m7,mL⟩,lp,ln,lc⟩:=x
 refine ahear_on m1 m2 m3 m4 m5 m6 m7 lp ln lc ?_
 have hba:Below w.heap.size w (w.alloc (.cells #[.string m1,.string m2,.string m3,.string m4,.int .i64 m5,.int .i64 m6,.bool m7,.slice lp ln lc] 57)).drew:=((Below.refl _ _).alloc (Nat.le_refl _) _).drew
 generalize (w.alloc (.cells #[.string m1,.string m2,.string m3,.string m4,.int .i64 m5,.int .i64 m6,.bool m7,.slice lp ln lc] 57)).drew=w2 at *
 have:=ehear_any ad (hp.below hba) (⟨m1,m2,m3,m4,m5,m6,m7,mL⟩,(lp,ln,lc)) (fun _ h2=>absurd h2 hf.st) (hL.below hba) hsm hv (fun W hs hk=>hG W (Nat.le_trans hba.size hs) (fun k hk1 hk2=>(hk k (Nat.lt_of_lt_of_le hk1 hba.size) hk2).trans (hba.block k hk1)))
 refine this.mono fun e w' hq=>?_
 obtain⟨⟨p,c,e1,e2⟩,S',h2,h3⟩:=hq
 exact⟨⟨p,_,c,e1⟩,⟨p,c,e1,e2.mono hba.size⟩,S',⟨h2,hear_afine hf _ hv⟩,h3.since hba⟩
end Go.Proofs.YtmhoiodfppdlnaaGreatDoor
