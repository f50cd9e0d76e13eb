import Derived.Test.YtghpdhegfnhmkaaGreatDoorR45
import Derived.Test.YtghpdhegfnhmkaaGreatDoorR46
import Derived.Test.YtghpdhegfnhmkaaGreatDoorR43
import Derived.Test.YtghpdhegfnhmkaaGreatDoorR47
import Derived.Test.YtghpdhegfnhmkaaGreatDoorR8
import Derived.Test.YtghpdhegfnhmkaaGreatDoorR9
import Derived.Test.YtghpdhegfnhmkaaGreatDoorR4
import Derived.Test.YtghpdhegfnhmkaaGreatDoorR7
namespace Go.Proofs.YtghpdhegfnhmkaaGreatDoor
open Go.RowKit
theorem OwnR.atBlock {α:Type} {E:Enc α} {T:TypeId} {w:World} {B n c:Nat} {p:Option Addr} {l:List α} (h:OwnR E T w B (.slice p n c) l):Rec E w p l/\∀ b o,p=some ⟨b,o,none⟩->(Value.slice p n c).ownBlock=some b:=by
 obtain ⟨q,d,hv,hr,_⟩:=h.form
 obtain ⟨rfl,_,_⟩:=Value.slice.inj hv
 refine ⟨hr,fun b o e=>?_⟩
 rcases h.2 with ⟨h1,_⟩ | ⟨g,cap,cur,h1,_⟩
 ·obtain ⟨h2,_,_⟩:=Value.slice.inj h1
  rw [h2] at e;cases e
 ·obtain ⟨h2,_,_⟩:=Value.slice.inj h1
  rw [h2] at e ⊢
  obtain ⟨rfl,rfl⟩:g=b/\0=o:=by simpa using e
  rfl
structure StAt (wB W:World) (Ks Ka Kb:List (Option (List Kep))) (hp hm:Nat->Nat) (O:Nat->Option Nat) (pa pb:Option Addr) (ca cb:Nat):Prop where
 sv:SvAt W wB.heap.size Ka Kb hp hm O (ptL hp Ks) (ptL hm Ks) (.slice pa Ks.length ca) (.slice pb Ks.length cb)
 low:Below wB.heap.size wB W
section
variable {wB W W':World} {Ks Ka Kb:List (Option (List Kep))} {hp hm:Nat->Nat} {O:Nat->Option Nat} {pa pb:Option Addr} {ca cb:Nat}
theorem StAt.below (h:StAt wB W Ks Ka Kb hp hm O pa pb ca cb) (hb:Below W.heap.size W W'):StAt wB W' Ks Ka Kb hp hm O pa pb ca cb:=⟨h.sv.below hb,h.low.trans (hb.mono h.low.size)⟩
theorem StAt.recA (h:StAt wB W Ks Ka Kb hp hm O pa pb ca cb):Rec ptoE W pa (ptL hp Ks)/\∀ b o,pa=some ⟨b,o,none⟩->O b=none:=⟨h.sv.ra.atBlock.1,fun b o e=>h.sv.oa b (h.sv.ra.atBlock.2 b o e)⟩
theorem StAt.recB (h:StAt wB W Ks Ka Kb hp hm O pa pb ca cb):Rec ptoE W pb (ptL hm Ks)/\∀ b o,pb=some ⟨b,o,none⟩->O b=none:=⟨h.sv.rb.atBlock.1,fun b o e=>h.sv.ob b (h.sv.rb.atBlock.2 b o e)⟩
theorem StAt.turn (h:StAt wB W Ks Ka Kb hp hm O pa pb ca cb) {Ka' Kb':List (Option (List Kep))} {O':Nat->Option Nat} (hs:ShAt W' wB.heap.size Ka' Kb' hp hm O') (hU:Shf O O' W W'):StAt wB W' Ks Ka' Kb' hp hm O' pa pb ca cb :=
 ⟨h.sv.turn hs hU,h.low.trans (hU.low h.sv.base (fun k j e=>(h.sv.sh.dom k j e).1))⟩
theorem StAt.look {ad:Nat->Addr} {c:Cfg} {q:Option Addr} {d:Nat} (h:StAt wB W Ks Ks Kb hp hm O pa pb ca cb) (hc:CfgAt W c q d) (hS:Sent W ad):LookIn W ad (ad 11) c q d Ks hp pa :=
 ⟨hc,h.recA.1,fun i L hi=>⟨_,h.sv.sh.own i L hi⟩,hS.errsQ,hS.c11⟩
theorem Sent.herrsR {w:World} {ad:Nat->Addr} (h:Sent w ad):HErrs w ad:=⟨h.c1,h.c3,h.c5,h.c6,h.c9⟩
theorem st_own {c:Cfg} {p:Option Addr} {cap:Nat} (h:StAt wB W Ks Ka Kb hp hm O pa pb ca cb) (hC:TxsIn wB c.L p cap) (hin:CfgIn c) (hl:c.L.length<=30) (hx:∀ x ∈ c.L,x.size<=100) :
 Calls Tryz.prog 12 #[cfgA c (.slice p c.L.length cap)] W fun e w'=>(∃ q d,e=.returned (cfgA c (.slice q c.L.length d))/\CfgAt w' c q d)/\StAt wB w' Ks Ka Kb hp hm O pa pb ca cb/\Below W.heap.size W w' :=
 (ownConfig_any c p cap W (by omega) (hC.strs.below h.low) hC.empty).mono fun e w' hq=>by
  obtain ⟨⟨q,d,h1,h2,h3,h4⟩,h5⟩:=hq
  exact ⟨⟨q,d,h1,h2,h3,h4,by omega,fun x hxx=>by have:=hx x hxx;omega,hin⟩,h.below h5,h5⟩
theorem st_mend {ad:Nat->Addr} {c:Cfg} {q:Option Addr} {d:Nat} {key:ByteArray} (hk:key.size<=maxLen) (h:StAt wB W Ks Ks Kb hp hm O pa pb ca cb) (hc:CfgAt W c q d) (hS:∀ W,Below wB.heap.size wB W->Sent W ad) (he:¬ 0 < (lookE c Ks.length).1) :
 Calls Tryz.prog 14 #[cfgA c (.slice q c.L.length d),.string key,.slice pa Ks.length ca] W fun e w'=>∃ ev,e=.returned (.tuple #[.int .i64 ((mendT (mendOf key c Ks):Nat):Int),ev])/\BareIs ad ev (mendOf key c Ks).1/\∃ O',StAt wB w' Ks (mendOf key c Ks).2.2 Kb hp hm O' pa pb ca cb :=
 (mend_any ad (ad 11) c q d key Ks Kb hp hm O wB.heap.size pa ca W hk (h.look hc (hS W h.low)) h.sv.sh h.sv.base h.recA.2 (fun O' W2 hU=>(hS W2 (h.low.trans (hU.low h.sv.base (fun k j e=>(h.sv.sh.dom k j e).1)))).herrsR) he).mono fun e w' hq=>by
  obtain ⟨ev,O',h1,h2,h3,h4⟩:=hq
  exact ⟨ev,h1,h2,O',h.turn h3 h4⟩
theorem putR_nonneg (L:List Kep) (s:Bool) (key:ByteArray) (v:Ver):0<=(putR L s key v).1:=by
 unfold putR
 split
 ·exact Int.le_refl 0
 ·split
  ·exact Int.le_refl 0
  ·dsimp only;omega
theorem mendN_nonneg {key:ByteArray} {WL:List Ver} {M:List Nat} (m:Nat):0<=(mendN key WL Ks M m).1:=by
 unfold mendN
 have go:∀ (l:List Nat) (S:Int×Nat×List (Option (List Kep))),0<=S.1->0<=(l.foldl (mStep key WL) S).1:=by
  intro l
  induction l with
  | nil=>exact fun S h=>h
  | cons i l ih =>
   intro S h
   refine ih _ ?_
   unfold mStep
   split
   ·split
    ·exact h
    ·exact putR_nonneg _ _ _ _
   ·exact h
 exact go _ _ (Int.le_refl 0)
theorem putR_len (L:List Kep) (s:Bool) (key:ByteArray) (v:Ver):(putR L s key v).2.length<=L.length+1:=by
 unfold putR
 split
 ·have:=placeN_le L key v
  show (putL L key v).length<=_
  unfold putL
  simp only [List.length_append,List.length_take,List.length_drop,List.length_singleton]
  omega
 ·split
  ·exact Nat.le_succ _
  ·exact Nat.le_succ _
theorem mendN_len {key:ByteArray} {WL:List Ver} {M:List Nat} (hg:GoodK Ks) (m:Nat) (L:List Kep) (hL:some L ∈ (mendN key WL Ks M m).2.2):L.length<=60+M.length:=by
 unfold mendN at hL
 have go:∀ (l:List Nat) (S:Int×Nat×List (Option (List Kep))) (b:Nat),(∀ L,some L ∈ S.2.2->L.length<=b)->∀ L,some L ∈ (l.foldl (mStep key WL) S).2.2->L.length<=b+l.length:=by
  intro l
  induction l with
  | nil=>exact fun S b h L hL=>h L hL
  | cons i l ih =>
   intro S b h L hL
   rw [List.foldl_cons] at hL
   have h1:∀ L,some L ∈ (mStep key WL S i).2.2->L.length<=b+1:=fun L hL=>by
    unfold mStep at hL
    split at hL
    ·split at hL
     ·exact Nat.le_succ_of_le (h L hL)
     ·rename_i L0 hL0
      dsimp only at hL
      rcases List.mem_or_eq_of_mem_set hL with h2 | h2
      ·exact Nat.le_succ_of_le (h L h2)
      ·obtain rfl:=Option.some.inj h2
       have hm:some L0 ∈ S.2.2:=by
        rw [List.getD_eq_getElem?_getD] at hL0
        cases hx:S.2.2[i]? with
        | none=>rw [hx] at hL0;cases hL0
        | some y =>
         rw [hx] at hL0
         obtain rfl:y=some L0:=hL0
         exact List.mem_of_getElem? hx
       exact Nat.le_trans (putR_len _ _ _ _) (Nat.succ_le_succ (h L0 hm))
    ·exact Nat.le_succ_of_le (h L hL)
   have:=ih _ _ h1 L hL
   rw [List.length_cons]
   omega
 have:=go (M.take m) (0,0,Ks) 60 (fun L hL=>(hg L hL).1) L hL
 rw [List.length_take] at this
 omega
def MmAt (wB w3:World) (Ks:List (Option (List Kep))) (hp hm:Nat->Nat) (O:Nat->Option Nat) (pa pb:Option Addr) (ca cb:Nat) (S:Int×Nat×List (Option (List Kep))) (W:World):Prop:=∃ O',StAt wB W Ks Ks S.2.2 hp hm O' pa pb ca cb/\Shf O O' w3 W
theorem mmend_round {w3:World} {q1 q2:Option Addr} {key:ByteArray} {WL:List Ver} {M:List Nat} {F:Nat->Int×Nat×List (Option (List Kep))}
 (hst:StAt wB w3 Ks Ks Ks hp hm O pa pb ca cb) (hq1:∀ b o,q1=some ⟨b,o,none⟩->O b=none) (hq2:∀ b o,q2=some ⟨b,o,none⟩->O b=none)
 (hr1:Rec verE w3 q1 WL) (hr2:Rec natE w3 q2 M)
 (hFS:∀ m i,M[m]?=some i->F (m+1)=mStep key WL (F m) i) (hFH:∀ m,(F m).2.2.length=Ks.length/\∀ j:Nat,((F m).2.2[j]?=some none↔Ks[j]?=some none)) (hTX:∀ i,i < WL.length->(verAt WL i).text.size<=maxLen) (hFG:∀ m L,some L ∈ (F m).2.2->L.length<=900000)
 {j i:Nat} (hM:M[j]?=some i) (hi:i < WL.length) (hiK:i < Ks.length) (hz:(F j).1=0) {W:World} (hD:MmAt wB w3 Ks hp hm O pa pb ca cb (F j) W) :
 ∃ bq oq bh oh x,q2=some ⟨bq,oq,none⟩/\W.cell? ⟨bq,oq+j,none⟩=some (.int .i64 (i:Int))/\pb=some ⟨bh,oh,none⟩/\W.cell? ⟨bh,oh+i,none⟩=some (.pointer x)/\(x=none->F (j+1)=F j) /\
  ∀ a,x=some a->∃ b1 o1,q1=some ⟨b1,o1,none⟩/\W.cell? ⟨b1,o1+i*5,none⟩=some (.int .i64 (verAt WL i).n)/\W.cell? ⟨b1,o1+i*5+1,none⟩=some (.int .i64 (verAt WL i).who)/\W.cell? ⟨b1,o1+i*5+2,none⟩=some (.int .i64 (verAt WL i).size)/\W.cell? ⟨b1,o1+i*5+3,none⟩=some (.int .i64 (verAt WL i).at_)/\W.cell? ⟨b1,o1+i*5+4,none⟩=some (.string (verAt WL i).text) /\
   Calls Tryz.prog 22 #[.pointer (some a),.string key,.agg #[.int .i64 (verAt WL i).n,.int .i64 (verAt WL i).who,.int .i64 (verAt WL i).size,.int .i64 (verAt WL i).at_,.string (verAt WL i).text]] W fun e w4=>e=.returned (.int .i64 (F (j+1)).1)/\((F (j+1)).1=0->(F (j+1)).2.1=(F j).2.1+1)/\((F (j+1)).1≠0->(F (j+1)).2.1=(F j).2.1)/\MmAt wB w3 Ks hp hm O pa pb ca cb (F (j+1)) w4:=by
 obtain ⟨O1,hS,hU⟩:=hD
 obtain ⟨bq,oq,e1,_,c1⟩:=nat_cell hr2 hM
 obtain ⟨x0,hx0⟩:∃ x0,Ks[i]?=some x0:=⟨_,List.getElem?_eq_getElem hiK⟩
 obtain ⟨bh,oh,e2,_,c2⟩:=pto_cell hst.recB.1 hx0
 obtain ⟨y,hy,hyx⟩:=ptL_shape (hp:=hm) (hFH j).1.symm (fun k=>((hFH j).2 k).symm) hx0
 refine ⟨bq,oq,bh,oh,_,e1,mend_cell hU c1 (hq2 _ _ e1),e2,mend_cell hU c2 (hst.recB.2 _ _ e2),fun hn=>?_,fun a ha=>?_⟩
 ·rw [hFS j i hM]
  cases y with
  | none=>exact mStep_none hz hy
  | some L=>cases x0 with
   | none=>simp at hyx
   | some L'=>simp at hn
 ·obtain ⟨b1,o1,e3,_,a0,a1,a2,a3,a4⟩:=ver_cells hr1 hi
  have hn1:=hq1 _ _ e3
  refine ⟨b1,o1,e3,mend_cell hU a0 hn1,mend_cell hU a1 hn1,mend_cell hU a2 hn1,mend_cell hU a3 hn1,mend_cell hU a4 hn1,?_⟩
  cases x0 with
  | none=>simp at ha
  | some L'=>cases y with
   | none=>simp at hyx
   | some L =>
    obtain rfl:(⟨hm i,0,none⟩:Addr)=a:=by simpa using ha
    refine (rput_any (hm i) L false key (verAt WL i) W (hFG j L (List.mem_of_getElem? hy)) (hTX i hi) (hS.sv.sh.model i L hy).1).mono fun e w4 hq=>?_
    obtain ⟨h1,h2,h3⟩:=hq
    obtain ⟨O2,g1,g2⟩:=hS.sv.sh.mput hS.sv.base hy h2 h3
    rw [hFS j i hM,mStep_some hz hy]
    exact ⟨h1,fun h=>by dsimp only at h ⊢;rw [if_pos h],fun h=>by dsimp only at h ⊢;rw [if_neg h],O2,hS.turn g1 g2,hU.trans g2⟩
end
end Go.Proofs.YtghpdhegfnhmkaaGreatDoor
