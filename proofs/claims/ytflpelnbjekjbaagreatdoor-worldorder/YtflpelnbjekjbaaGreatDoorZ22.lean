/- Texts laid together. -/
import Derived.Test.YtflpelnbjekjbaaGreatDoorZ21
import Derived.Lib.LaidTab
import Derived.JoinedOf
set_option maxRecDepth 100000
set_option maxHeartbeats 8000000
open Option renaming some->aa,none->ac
open Or renaming inl->ab,inr->au
open Bool renaming false->F,and_eq_true->al,true->T,not_eq_true'->ar,or_eq_false_iff->az,or_eq_true->zd,false_or->aY
open Go.RowKit renaming Below->ae
open List renaming getElem?_eq_getElem->af,length_append->ah,any_eq_false->ak,getD_eq_getElem?_getD->an,getElem?_eq_some_iff->ao,length_take->av,getElem_mem->aw,getElem?_map->aE,take_length->za,any_eq_true->zb,mem_append->zc,range->aO,mem_range->ze
open Go.World renaming cell?->ag
open Go.DataW renaming trod->ai,trod_string->aq,trod_int->zg
open Go renaming Calls->aj,Value->aF,Addr->aJ,laidMetH->bn
open Nat renaming not_lt_zero->am,zero_le->ap,lt_or_ge->ax,le_trans->bc
open Go.Addr renaming add_lit->ay
namespace Go.Proofs.YtflpelnbjekjbaaGreatDoor
open Go.Proofs.Tryz
open Go.RowKit
variable {W w':World}{i fuel n k m B:Nat}{w:Ya}{p:Option aJ}{H:Type}{S:Nat->Prop}
section
open Go.ChangeShapes Go.WideShapes Go.RowKit
def LW:List (String×List UInt8):=(Rows.worldOrderRow.laid.drop 3).map fun x=>(x.1,match x.2 with| .iface _ (.ptr (.agg [.lit (.string t)]))=>t|_=>[])
theorem A2 (W:World):bn prog Rows.worldOrderRow.laid W=laidMet prog (Rows.worldOrderRow.laid.take 3++LW.map fun x=>(x.1,GZ x.2)) W:=by kernel_rfl
theorem JrV:(LW.all fun x=>match prog.globalNamed x.1 with|some g=>(prog.globals[g]?).map (·.type)==aa 29|none=>F)=true:=by kernel_rfl
theorem gW:LW.map (fun x=>prog.globalNamed x.1)=[aa 0,aa 7,aa 6,aa 1,aa 5,aa 2,aa 8,aa 3,aa 4,aa 9]:=by kernel_rfl
theorem TU:Rows.worldOrderRow.laid.take 3=Rows.worldOrderRow.laid.take 2++ [("internal/strconv.uint64pow10",Lib.tabData .u64 Lib.pow10Tab)]:=by kernel_rfl
theorem JtM (h:bn prog Rows.worldOrderRow.laid W):Lib.TabIs prog W "internal/strconv.uint64pow10" .u64 Lib.pow10Tab:=by
 rw[A2]at h;rw[TU]at h;have e:∃B D,Rows.worldOrderRow.laid.take 2=[B,D]:=⟨_,_,rfl⟩;obtain⟨B,D,e⟩:=e;rw[e]at h;simp only[List.cons_append,List.nil_append]at h;exact Lib.tabIs_of_head (g:=10) (t:=274) (e:=249) (n:=20) (by kernel_rfl) (by kernel_rfl) underlying274 underlying249 (by kernel_rfl) (by kernel_rfl) h.tail.tail
theorem JkN (Z:bn prog Rows.worldOrderRow.laid W):∃ad,iZ ad W:=by
 have a0:=JtM Z;have h:=Z;rw[A2]at h;obtain⟨b0,a2,a3,a4⟩:=h;obtain⟨pp,ps,rfl,hl⟩:=AY _ _ _ a2;have a5:ps.Nodup:=List.Nodup.sublist (List.sublist_append_right _ _) a3;have K:=fun b O (hm:MemPlace.cell b O∈ps)=>a4 b O (List.mem_append_right _ hm)
 have hn:∀x∈LW,∃g,prog.globalNamed x.1=aa g/\(prog.globals[g]?).map (·.type)=aa 29:=by
  intro x D;have:=List.all_eq_true.1 JrV x D;split at this
  ·rename_i g hg;exact⟨g,hg,by simpa using this⟩
  ·cases this
 have a6:prog.cellsOf 315=1:=by kernel_rfl
 have c9:prog.cellsOf 9=1:=by kernel_rfl
 obtain⟨ad,U,h2⟩:=UX underlying29 JtW underlying301 underlying315 rfl rfl underlying9 a6 c9 LW ps hl hn K;have B:∀i g,(LW.map (fun x=>prog.globalNamed x.1))[i]?=aa (aa g)->W.cell? ⟨g,0,ac⟩=aa (.iface 301 (.pointer (aa (ad i)))):=by
  intro i g D;rw[aE]at D;obtain⟨x,a7,a9⟩:=Option.map_eq_some_iff.1 D;simpa using World.var?_cell a9 (U i x a7).2 0
 rw[gW]at B;have len:LW.length=10:=rfl;have H:∀i,i<10->∃c t,W.heap[(ad i).block]?=aa (.cells c t (0,0)):=fun i J=>by
  obtain⟨x,D⟩:∃x,LW[i]?=aa x:=⟨LW[i]'(by rw[len];exact J),af (by rw[len];exact J)⟩;exact(K _ _ (U i x D).1).1
 have I:∀i,i<10->i≠7->ad i≠ad 7:=fun i J h7=>h2 a5 i 7 (by rw[len];omega) (by rw[len];omega) h7
 refine⟨fun i=>match i with|1=>ad 0|2=>ad 1|3=>ad 2|4=>ad 3|5=>ad 4|6=>ad 5|7=>ad 6|9=>ad 7|10=>ad 8|_=>ad 9,⟨B 0 _ rfl,B 1 _ rfl,B 2 _ rfl,B 3 _ rfl,B 4 _ rfl⟩,⟨⟨ad 9,B 9 _ rfl⟩,a0⟩,⟨⟨B 0 _ rfl,B 2 _ rfl,B 4 _ rfl,B 5 _ rfl,B 7 _ rfl⟩,?_,?_⟩,B 6 _ rfl,B 8 _ rfl⟩
 ·rintro i (rfl|rfl|rfl|rfl|rfl)
  ·exact H 0 (by decide)
  ·exact H 2 (by decide)
  ·exact H 4 (by decide)
  ·exact H 5 (by decide)
  ·exact H 7 (by decide)
 ·rintro i (rfl|rfl|rfl|rfl)
  ·exact I 0 (by decide) (by decide)
  ·exact I 2 (by decide) (by decide)
  ·exact I 4 (by decide) (by decide)
  ·exact I 5 (by decide) (by decide)
end
def fY (l:List BA):Bool:=decide (30<l.length)||l.any fun x=>decide (100<x.size)
theorem zI {l:List BA}(h:fY l=F):l.length<=30/\∀x∈l,x.size<=100:=by
 unfold fY at h;rw[az]at h;refine⟨by have:=of_decide_eq_false h.1;omega,fun x B=>?_⟩;have:=ak.1 h.2 x B;simpa using this
theorem D7 (l:List BA)(p:Option aJ)(cap:Nat)(w:World)(hl:l.length<=9223372036854775807)(H:∀x∈l,x.size<=9223372036854775807)(hs:Strs w p l):
 aj prog 5 #[.slice p l.length cap] w fun e w'=>e=.returned (.bool (fY l))/\w'=w:=by
 by_cases J:30<l.length
 ·have D:Hid (fY l=T):=by show _=_;unfold fY;rw[decide_eq_true J,Bool.true_or]
  rw[D.out];clear hs H;go_enter func5,ntmps5;go_wp2;go_ret;exact⟨rfl,rfl⟩
 have K:Hid (∀i,i<l.length->(Yc l i).size<=9223372036854775807):=fun i B=>H _ (oQ B)
 have O:Hid (∀i,i<l.length->100<(Yc l i).size->fY l=T):=fun i B h=>by
  unfold fY;rw[decide_eq_false J,aY,zb];exact⟨Yc l i,oQ B,decide_eq_true h⟩
 have U:Hid ((∀i,i<l.length->¬100<(Yc l i).size)->fY l=F):=fun h=>by
  unfold fY;rw[decide_eq_false J,aY,ak];intro x H h2;obtain⟨i,B,rfl⟩:=tF H;exact h i B (of_decide_eq_true h2)
 generalize fY l=r at *;have HS:Hid _:=hs;clear hs H;go_enter func5,ntmps5;go_wp2;go_loopw [3] (fun x wr=>∃i:Nat,i<=l.length/\x=.int .i64 i/\(∀j,j<i->¬100<(Yc l j).size)/\wr=w) (fun x _=>l.length-(intOf x).toNat)
 case atStart=>exact⟨0,ap _,rfl,(fun j Z=>absurd Z (am _)),rfl⟩
 case round =>
  obtain⟨i,B,rfl,a2,a5⟩:=hrel;subst a5;have a0:Hid _:=a2;clear a2;by_cases I:i<l.length
  ·rcases HS.out with h0|⟨b,o,rfl,a9,hc⟩
   ·rw[h0]at I;exact absurd I (am _)
   have q1:=hc i I;have b0:=K.out i I;clear hc;by_cases a3:100<(Yc l i).size
   ·have D:Hid (r=T):=O.out i I a3;clear O U a0 K;generalize Yc l i=t at *;go_wp2;go_ret;exact⟨by rw[D.out];rfl,rfl⟩
   ·have a6:Hid (¬100<(Yc l i).size):=a3;clear O U K;generalize a4:Yc l i=t at *;have a7:Hid _:=a4;clear a4;go_wp2;go_roundw
    case rel=>exact⟨i+1,by omega,by go_num,(fun j Z=>by
     rcases ax j i with h|h
     ·exact a0.out j h
     ·obtain rfl:j=i:=by omega
      rw[a7.out];exact a6.out),trivial⟩
    case measure=>simp[intOf];omega
  ·have D:Hid (r=F):=U.out (fun j Z=>a0.out j (by omega));go_wp2;go_ret;exact⟨by rw[D.out];rfl,rfl⟩
structure Z7 where
 kind:BA
 text:BA
 name:BA
 who:Int
 at_:Int
 names:List BA
 np:Option aJ
 nc:Nat
def rN (x:Z7):List Value:=[.string x.kind,.string x.text,.string x.name,.int .i64 x.who,.int .i64 x.at_,.slice x.np x.names.length x.nc]
def wQ:eW Z7:=⟨6,by decide,rN,fun _=>rfl,fun x u B=>by simp[rN]at B;rcases B with rfl|rfl|rfl|rfl|rfl|rfl<;>rfl⟩
def Jv (l:List Z7)(i:Nat):Z7:=l.getD i ⟨⟨#[]⟩,⟨#[]⟩,⟨#[]⟩,0,0,[],ac,0⟩
theorem tB {l:List Z7}(B:i<l.length):Jv l i=l[i]:=by
 unfold Jv;rw[an,af B];rfl
theorem oX {l:List Z7}(B:i<l.length):Jv l i∈l:=by rw[tB B];exact aw _
theorem F8 {w:World}{L:List Z7}(h:Ql wQ w p L)(H:i<L.length):∃b o,p=aa ⟨b,o,ac⟩/\b<w.heap.size/\w.cell? ⟨b,o+i*6,ac⟩=aa (.string (Jv L i).kind)/\w.cell? ⟨b,o+i*6+1,ac⟩=aa (.string (Jv L i).text)/\w.cell? ⟨b,o+i*6+2,ac⟩=aa (.string (Jv L i).name)/\w.cell? ⟨b,o+i*6+3,ac⟩=aa (.int .i64 (Jv L i).who)/\w.cell? ⟨b,o+i*6+4,ac⟩=aa (.int .i64 (Jv L i).at_)/\w.cell? ⟨b,o+i*6+5,ac⟩=aa (.slice (Jv L i).np (Jv L i).names.length (Jv L i).nc):=by
 rcases h with h|⟨b,o,I,J,B⟩
 ·rw[h]at H;exact absurd H (am _)
 ·have D:L[i]?=aa (Jv L i):=by rw[tB H,af H]
  exact⟨b,o,I,J,B i _ D 0 _ rfl,B i _ D 1 _ rfl,B i _ D 2 _ rfl,B i _ D 3 _ rfl,B i _ D 4 _ rfl,B i _ D 5 _ rfl⟩
def mS (w:World)(p:Option aJ)(L:List Z7):Prop:=Ql wQ w p L/\∀x∈L,Strs w x.np x.names
theorem mS.below {w:World}{L:List Z7}(h:mS w p L)(B:ae w.heap.size w w'):mS w' p L:=⟨h.1.below B,fun x D=>(h.2 x D).below B⟩
def Z7.Bears (x:Z7):Prop:=x.text.size<=9223372036854775807/\x.name.size<=9223372036854775807/\x.names.length<=9223372036854775807/\∀t∈x.names,t.size<=9223372036854775807
def JS (x:Z7):Bool:=(decide (60<x.text.size)&&decide (x.text.size<=1000))||decide (2000<x.text.size)||decide (100<x.name.size)||fY x.names
def mM:BA:=⟨#[112,117,116]⟩
def QP (L:List Z7):Nat:=(L.filter fun x=>decide (x.kind=mM)).length
theorem TQ {L:List Z7}(B:i<L.length):QP (L.take (i+1))=QP (L.take i)+if(Jv L i).kind=mM then 1 else 0:=by
 unfold QP;rw[List.take_add_one,af B,<-tB B,List.filter_append,ah]
 congr 1
 by_cases h:(Jv L i).kind=mM
 ·simp[h]
 ·simp[h]
theorem MP (L:List Z7):QP L<=L.length:=List.length_filter_le _ _
def lX (L:List Z7)(m:Int):Bool:=!L.any JS&&(decide ((L.length:Int)<=m)&&decide (QP L<=30))
theorem Jmc {x:Z7}(h:JS x=T):(60<x.text.size/\x.text.size<=1000)∨(1000<x.text.size/\2000<x.text.size)∨(¬(60<x.text.size/\x.text.size<=1000)/\¬2000<x.text.size/\(100<x.name.size∨(¬100<x.name.size/\fY x.names=T))):=by
 unfold JS at h;simp only[zd,al,decide_eq_true_eq]at h;by_cases B:60<x.text.size/\x.text.size<=1000
 ·exact ab B
 by_cases D:2000<x.text.size
 ·exact au (ab ⟨by omega,D⟩)
 refine au (au ⟨B,D,?_⟩);by_cases H:100<x.name.size
 ·exact ab H
 refine au ⟨H,?_⟩;rcases h with((h|h)|h)|h
 ·exact absurd h B
 ·exact absurd h D
 ·exact absurd h H
 ·exact h
theorem A1 {x:Z7}(h:JS x=F):¬(60<x.text.size/\x.text.size<=1000)/\¬2000<x.text.size/\¬100<x.name.size/\fY x.names=false:=by
 unfold JS at h;simp only[az,decide_eq_false_iff_not]at h;refine⟨fun B=>?_,h.1.1.2,h.1.2,h.2⟩;have:=h.1.1.1;rw[decide_eq_true B.1,decide_eq_true B.2]at this;cases this
theorem UK (L:List Z7)(m:Int)(p:Option aJ)(cap:Nat)(w:World)(hl:L.length<=9223372036854775807)(hx:∀x∈L,x.Bears)(hs:mS w p L):
 aj prog 6 #[.slice p L.length cap,.int .i64 m] w fun e w'=>e=.returned (.bool (lX L m))/\ae w.heap.size w w':=by
 have HS:Hid (mS w p L):=hs;have HX:Hid (∀i,i<L.length->(Jv L i).Bears):=fun i D=>hx _ (oX D)
 have HT:Hid (∀i,i<L.length->JS (Jv L i)=T->lX L m=F):=fun i D h=>by
  unfold lX;rw[zb.2 ⟨_,oX D,h⟩];rfl
 have HF:Hid ((∀i,i<L.length->JS (Jv L i)=F)->lX L m=(decide ((L.length:Int)<=m)&&decide (QP L<=30))):=fun h=>by
  unfold lX;rw[show L.any JS=F from ak.2 fun x hx=>by
   obtain⟨i,D,rfl⟩:=List.getElem_of_mem hx;rw[<-tB D,h i D];exact Bool.false_ne_true]
  rfl
 have HP:Hid (∀i,i<L.length->QP (L.take (i+1))=QP (L.take i)+if(Jv L i).kind=mM then 1 else 0):=fun i D=>TQ D
 have HQ:Hid (∀i,i<=L.length->QP (L.take i)<=i):=fun i D=>by have:=MP (L.take i);rw[av]at this;omega
 have HE:Hid (QP (L.take L.length)=QP L):=by show _=_;rw[za]
 have b2:Hid (∀(l:List BA) (p:Option aJ) (c:Nat) (W:World),l.length<=9223372036854775807->(∀x∈l,x.size<=9223372036854775807)->Strs W p l->aj prog 5 #[.slice p l.length c] W fun e w'=>e=.returned (.bool (fY l))/\w'=W):=fun l p c W h1 h2 h3=>D7 l p c W h1 h2 h3
 generalize d2:lX L m=r at *;clear hs hx d2;go_enter func6,ntmps6;go_wp2;go_loopw [5,6] (fun y x wr=>∃i:Nat,i<=L.length/\x=.int .i64 i/\y=.int .i64 (QP (L.take i):Nat)/\(∀j,j<i->JS (Jv L j)=F)/\ae w.heap.size w wr) (fun _ x _=>L.length-(intOf x).toNat)
 case atStart=>exact⟨0,ap _,rfl,rfl,(fun j hj=>absurd hj (am _)),Below.refl _ _⟩
 case round =>
  obtain⟨i,D,rfl,rfl,b6,hB⟩:=hrel;obtain⟨Z,rfl⟩:=Xb wr;have b1:Hid (∀j,j<i->JS (Jv L j)=F):=b6;have H:Hid (ae w.heap.size w Z):=hB;have d4:=HQ.out i D;clear b6;by_cases a6:i<L.length
  ·obtain⟨b,o,d3,d5,a0,a1,a2,a3,a4,a5⟩:=F8 (HS.out.below hB).1 a6;subst d3;obtain⟨z1,z2,z3,z4⟩:=HX.out i a6;have b7:=HP.out i a6;have b8:Hid (Strs Z (Jv L i).np (Jv L i).names):=(HS.out.below hB).2 _ (oX a6);have b3:Hid (JS (Jv L i)=F->∀j,j<i+1->JS (Jv L j)=F):=fun h j hj=>by
    rcases ax j i with h2|h2
    ·exact b1.out j h2
    ·obtain rfl:j=i:=by omega
     exact h
   have c8:=b2.out (Jv L i).names (Jv L i).np (Jv L i).nc Z z3 z4 b8.out;have O:Hid (aj prog 5 #[.slice (Jv L i).np (Jv L i).names.length (Jv L i).nc] Z fun e w'=>e=.returned (.bool (fY (Jv L i).names))/\w'=Z):=c8;have a7:Hid (QP (L.take (i+1))=QP (L.take i)+if(Jv L i).kind=mM then 1 else 0):=b7;have b4:Hid (JS (Jv L i)=T->r=F):=HT.out i a6;generalize QP (L.take i)=pn at *;clear b7 c8 hB z3 z4 b1 HP HX HT HF HS b2 b8;cases a9:JS (Jv L i)with
   |true =>
    have I:Hid (r=F):=b4.out a9;have d0:=Jmc a9;clear b4 a9 b3 a7 a0 a3 a4;generalize Jv L i=x at *;obtain⟨xk,J,xn,xw,xa,xl,xp,xc⟩:=x;dsimp only at a1 a2 a5 d0 z1 z2 O;rcases d0 with⟨B,g2⟩|⟨B,g2⟩|⟨B,g2,g3|⟨g3,U⟩⟩
    ·go_wp2;go_ret;exact⟨by rw[I.out];rfl,H.out⟩
    ·go_wp2;go_ret;exact⟨by rw[I.out];rfl,H.out⟩
    ·by_cases g5:60<J.size
     ·have g6:¬J.size<=1000:=fun h=>B ⟨g5,h⟩
      clear B;go_wp2;go_ret;exact⟨by rw[I.out];rfl,H.out⟩
     ·clear B;go_wp2;go_ret;exact⟨by rw[I.out];rfl,H.out⟩
    ·by_cases g5:60<J.size
     ·have g6:¬J.size<=1000:=fun h=>B ⟨g5,h⟩
      clear B;go_wp2_with fail
      refine(O.out).mono ?_;rintro e w2 ⟨rfl,rfl⟩;rw[U];go_wp2;go_ret;exact⟨by rw[I.out];rfl,H.out⟩
     ·clear B;go_wp2_with fail
      refine(O.out).mono ?_;rintro e w2 ⟨rfl,rfl⟩;rw[U];go_wp2;go_ret;exact⟨by rw[I.out];rfl,H.out⟩
   |false =>
    obtain⟨B,g2,g3,U⟩:=A1 a9;have d1:Hid (∀j,j<i+1->JS (Jv L j)=F):=b3.out a9;clear b4 a9 b3 a3 a4;generalize Jv L i=x at *;obtain⟨xk,J,xn,xw,xa,xl,xp,xc⟩:=x;dsimp only at a0 a1 a2 a5 B g2 g3 U z1 z2 O a7;by_cases hk:xk=mM
    ·have b0:Hid (∃K:Nat,K<=L.length/\(.int .i64 ((i:Int)+1):aF)=.int .i64 K/\(.int .i64 ((pn:Int)+1):aF)=.int .i64 (QP (L.take K):Nat)/\(∀j,j<K->JS (Jv L j)=F)/\ae w.heap.size w Z):=⟨i+1,a6,rfl,by rw[a7.out,if_pos hk];rfl,d1.out,H.out⟩;subst hk;clear a7;unfold mM at a0;by_cases g5:60<J.size
     ·have g6:¬J.size<=1000:=fun h=>B ⟨g5,h⟩
      clear B;go_wp2_with fail
      refine(O.out).mono ?_;rintro e w2 ⟨rfl,rfl⟩;rw[U];go_wp2;go_roundw
      case rel=>exact b0.out
      case measure=>simp[intOf];omega
     ·clear B;go_wp2_with fail
      refine(O.out).mono ?_;rintro e w2 ⟨rfl,rfl⟩;rw[U];go_wp2;go_roundw
      case rel=>exact b0.out
      case measure=>simp[intOf];omega
    ·have b0:Hid (∃K:Nat,K<=L.length/\(.int .i64 ((i:Int)+1):aF)=.int .i64 K/\(.int .i64 (pn:Int):aF)=.int .i64 (QP (L.take K):Nat)/\(∀j,j<K->JS (Jv L j)=F)/\ae w.heap.size w Z):=⟨i+1,a6,rfl,by rw[a7.out,if_neg hk];rfl,d1.out,H.out⟩;have d6:(xk.toList==[112,117,116])=false:=XQ hk;have d7:¬xk.toList=[112,117,116]:=rI hk;clear a7;by_cases g5:60<J.size
     ·have g6:¬J.size<=1000:=fun h=>B ⟨g5,h⟩
      clear B;go_wp2_with fail
      refine(O.out).mono ?_;rintro e w2 ⟨rfl,rfl⟩;rw[U];go_wp2;go_roundw
      case rel=>exact b0.out
      case measure=>simp[intOf];omega
     ·clear B;go_wp2_with fail
      refine(O.out).mono ?_;rintro e w2 ⟨rfl,rfl⟩;rw[U];go_wp2;go_roundw
      case rel=>exact b0.out
      case measure=>simp[intOf];omega
  ·obtain rfl:i=L.length:=by omega
   have I:=HF.out b1.out;rw[<-HE.out]at I;have b5:Hid (r=(decide ((L.length:Int)<=m)&&decide (QP (L.take L.length)<=30))):=I;clear I HF HT HP HX HS b2 b1 HQ HE hB;generalize QP (L.take L.length)=pn at *;by_cases B:(L.length:Int)<=m
   ·by_cases g2:(pn:Int)<=30
    ·go_wp2;go_ret;exact⟨by rw[b5.out,decide_eq_true B,decide_eq_true (show pn<=30 by omega)];rfl,H.out⟩
    ·go_wp2;go_ret;exact⟨by rw[b5.out,decide_eq_true B,decide_eq_false (show ¬pn<=30 by omega)];rfl,H.out⟩
   ·go_wp2;go_ret;exact⟨by rw[b5.out,decide_eq_false (show ¬(L.length:Int)<=m by omega)];rfl,H.out⟩
section
open Go.ChangeShapes Go.WideShapes Go.ChangeAt Go.RowKit
theorem vQ:prog.cellsOf 9=1:=by kernel_rfl
theorem JnO:prog.cellsOf 34=6:=by kernel_rfl
theorem OO:∃f0 f1 f2 B D H,prog.underlying 34=aa (.struct #[f0,f1,f2,B,D,H])/\(f0.offset=0/\f1.offset=1/\f2.offset=2/\B.offset=3/\D.offset=4/\H.offset=5)/\f0.type=9/\f1.type=9/\f2.type=9/\B.type=3/\D.type=3/\H.type=22:=⟨_,_,_,_,_,_,underlying34,⟨rfl,rfl,rfl,rfl,rfl,rfl⟩,rfl,rfl,rfl,rfl,rfl,rfl⟩
def sP (W:World)(x:Z7):Prop:=Strs W x.np x.names/\x.Bears/\Zt x.who/\Zt x.at_/\(x.np=ac->x.names=[]/\x.nc=0)
theorem LS {enc:TypeId×aF->H}{I:List aF}{y:DataW H×List MemPlace}(h:ai enc prog W 0 (fun _=>T) T fuel 34 I=aa y)(a3:I.length=6):∃x:Z7,I=rN x/\sP W x:=by
 obtain⟨f0,f1,f2,f3,f4,f5,a0,⟨o0,o1,o2,o3,o4,o5⟩,t0,t1,t2,t3,t4,t5⟩:=OO;obtain⟨xs,n,_,hx,_,a2,B⟩:=DataW.trod_struct a0 h
 match I,a3,xs,a2 with
 | [v0,v1,v2,v3,v4,v5],_,[y0,y1,y2,y3,y4,y5],_ =>
  have J:=B 0 f0 rfl;have K:=B 1 f1 rfl;have O:=B 2 f2 rfl;have U:=B 3 f3 rfl;have Z:=B 4 f4 rfl;have r5:=B 5 f5 rfl;rw[t0,o0,vQ]at J;rw[t1,o1,vQ]at K;rw[t2,o2,vQ]at O;rw[t3,o3,ES]at U;rw[t4,o4,ES]at Z;rw[t5,o5,RF]at r5;obtain⟨m1,h1,_,_⟩:=aq underlying9 (show ai _ _ _ _ _ _ _ _ [v0]=aa y0 from J);obtain⟨m2,h2,_,s2⟩:=aq underlying9 (show ai _ _ _ _ _ _ _ _ [v1]=aa y1 from K);obtain⟨m3,h3,_,s3⟩:=aq underlying9 (show ai _ _ _ _ _ _ _ _ [v2]=aa y2 from O);obtain⟨m5,h5,_,w5⟩:=zg underlying3 (show ai _ _ _ _ _ _ _ _ [v3]=aa y3 from U);obtain⟨m6,h6,_,w6⟩:=zg underlying3 (show ai _ _ _ _ _ _ _ _ [v4]=aa y4 from Z);obtain⟨p,L,c,h8,D⟩:=BE (show ai _ _ _ _ _ _ _ _ [v5]=aa y5 from r5);simp only[List.cons.injEq,and_true]at h1 h2 h3 h5 h6;subst h1 h2 h3 h5 h6 h8;have a4:maxLen=9223372036854775807:=rfl;exact⟨⟨m1,m2,m3,m5,m6,L,p,c⟩,rfl,D.strs,⟨by show m2.size<=_;omega,by show m3.size<=_;omega,by show L.length<=_;have:=D.len;omega,fun t ht=>by have:=D.size t ht;omega⟩,by simp[Lit.wf,IntKind.min,IntKind.max,IntKind.bits,IntKind.signed]at w5;exact w5,by simp[Lit.wf,IntKind.min,IntKind.max,IntKind.bits,IntKind.signed]at w6;exact w6,D.empty⟩
theorem JpL {enc:TypeId×aF->H}{v:aF}{y:DataW H×List MemPlace}(h:ai enc prog W 0 (fun _=>T) T fuel 23 [v]=aa y):
 ∃p L cap,v=.slice p L.length cap/\Ql wQ W p L/\(∀x∈L,sP W x)/\L.length<=9223372036854775807:=by
 rcases Deep.open_slice underlying23 h with⟨K,_⟩|⟨a,B,a2,m0,nn,D,Pl,K,_,b1,b2,hm,hy,Z⟩
 ·simp at K;subst K;exact⟨ac,[],0,rfl,ab rfl,(fun x Z=>by cases Z),ap _⟩
 ·simp at K;subst K;have b3:B<=m0:=by rw[hm];split<;>omega
  have b4:maxLen=9223372036854775807:=rfl;have hv:∀i,∃x:Z7,i<B->(∀j u,(rN x)[j]?=aa u->W.cell? ((a.add (i*6)).add j)=aa u)/\sP W x:=fun i=>by
   by_cases I:i<B
   ·obtain⟨b5,h1,h2⟩:=Z i (by omega);rw[JnO]at h1;obtain⟨_,J,a3⟩:=World.cells?_some h1;obtain⟨x,a4,a5⟩:=LS h2 J;refine⟨x,fun _=>⟨fun j u O=>?_,a5⟩⟩;have b6:j<6:=(ao.1 O).1;have:=a3 j (by omega);rw[this,a4];exact O
   ·exact⟨⟨⟨#[]⟩,⟨#[]⟩,⟨#[]⟩,0,0,[],ac,0⟩,fun h=>absurd h I⟩
  obtain⟨R,hR⟩:∃R:Nat->Z7,∀i,i<B->(∀j u,(rN (R i))[j]?=aa u->W.cell? ((a.add (i*6)).add j)=aa u)/\sP W (R i):=⟨fun i=>Classical.choose (hv i),fun i=>Classical.choose_spec (hv i)⟩;clear hv;have J:((aO B).map R).length=B:=by simp
  have a6:∀i,i<B->((aO B).map R)[i]?=aa (R i):=fun i I=>by
   rw[aE,List.getElem?_range I];rfl
  refine⟨aa a,(aO B).map R,a2,by rw[J],?_,fun x a7=>?_,by rw[J];omega⟩
  ·by_cases h0:B=0
   ·exact ab (List.length_eq_zero_iff.1 (by rw[J];exact h0))
   ·obtain⟨u0,U⟩:∃u,W.cell? ((a.add (0*6)).add 0)=aa u:=⟨_,(hR 0 (by omega)).1 0 _ rfl⟩;obtain⟨b,a9,sp⟩:=a;have b0:sp=none:=by
     cases sp with
     |none=>rfl
     |some q =>
      exfalso;simp[Addr.add,ag]at U
      revert U
      split<;>intro h9<;>cases h9
    subst b0;refine au ⟨b,a9,rfl,?_,fun i x a0 j u O=>?_⟩
    ·rw[ay,ay]at U;rcases ax b W.heap.size with h'|h'
     ·exact h'
     ·simp[ag,Array.getElem?_eq_none h']at U
    ·have I:i<B:=by have:=(ao.1 a0).1;rw[J]at this;exact this
     rw[a6 i I]at a0;have e:=Option.some.inj a0;have hc:=(hR i I).1 j u (by rw[e];exact O);rw[ay,ay]at hc;exact hc
  ·obtain⟨i,I,rfl⟩:=List.mem_map.1 a7;exact(hR i (ze.1 I)).2
end
section
theorem TX {l:List Zb}(h:l.length<=i):Yg l i=⟨⟨#[]⟩,⟨#[]⟩,⟨#[]⟩,⟨#[]⟩,0,0,F,[]⟩:=by
 unfold Yg;rw[an,List.getElem?_eq_none h];rfl
theorem Zh.fC {G:Gh}(h:Zh n k G w)(i:Nat):∀a,w.mover=aa a->(a.aD (Yg w.L i)).1.st≠.refused:=fun a U=>by
 have M:=h.bI a U;have Z:a.st=.sealing∨a.st=.keeping:=by
  rcases M.st with B|B
  ·exact ab B.1
  ·exact au B.1
 have J:a.st≠.refused:=by rcases Z with h|h<;>rw[h]<;>decide
 by_cases D:a.aM (Yg w.L i)=F
 ·rw[show a.aD (Yg w.L i)=(a,[])from if_pos D];exact J
 have a0:a.aM (Yg w.L i)=true:=by cases h:a.aM (Yg w.L i)with|false=>exact absurd h D|true=>rfl
 obtain⟨H,t2,t3,t4,t5,t6⟩:=Za.eQ a0;have a2:i<w.L.length:=by
  rcases ax i w.L.length with I|I
  ·exact I
  ·rw[TX I]at H;exact absurd H.symm t2
 obtain⟨j,K⟩:=h.msgs _ (oB a2);have a3:¬((Yg w.L i).shut=T/\a.st≠.sealing):=fun O=>by
  rcases M.st with⟨k1,_⟩|⟨k1,k2,_⟩
  ·exact O.2 k1
  ·have a4:(Yg w.L i).kind=iS:=by rw[H,k1];rfl
   obtain⟨_,_,_,h5⟩:=K.kept a4;have h6:=h.base.shut _ _ (h5 O.1);have h7:=K.cfg;have h8:=M.len;rw[t4,k2]at h7;omega
 unfold Za.aD;rw[if_neg D,if_neg a3];split
 ·exact J
 ·split
  ·exact fun e=>by cases e
  ·split
   ·exact fun e=>by cases e
   ·unfold Za.keeps;split<;>exact fun e=>by cases e
section
variable {n k:Nat} {m:Ya}
theorem WZ.lZ (B:WZ n k m)(who:Int)(put:Bool)(text:BA):WZ n k (m.open_ who put text).1:=by
 unfold Ya.open_;split
 ·exact B
 ·rename_i D;split
  ·exact B
  ·exact(B.opened (by omega) (by omega) _).begin (by omega) _
theorem WZ.jI (H:WZ n k m)(i:Int)(K:∀a,m.mover=aa a->(a.aD (Yg m.L i.toNat)).1.st≠.refused):WZ n k (m.aR i).1:=by
 unfold Ya.aR;split
 ·exact H
 ·rename_i O;have B:YF (Yg m.L i.toNat):=H.msgs _ (oB (by omega));have D:WZ n k {m.off i.toNat with aA:=m.aA+1}:=(H.off i.toNat).IE _;show WZ n k (match YN (Yg m.L i.toNat).aP with
   |some who=>Ya.aD {m.off i.toNat with aA:=m.aA+1} who (Yg m.L i.toNat)
   |none=>if(Yg m.L i.toNat).aP=J8 then Ya.aI {m.off i.toNat with aA:=m.aA+1} (Yg m.L i.toNat)else Ya.node {m.off i.toNat with aA:=m.aA+1} (Yg m.L i.toNat))
  cases I:YN (Yg m.L i.toNat).aP with
  |some who =>
   have J:who<6:=by
    have:=List.mem_of_find?_eq_some I;exact ze.1 this
   exact D.aD J B
  |none =>
   show WZ n k (if(Yg m.L i.toNat).aP=J8 then _ else _);split
   ·exact D.aI B K
   ·exact D.node B
theorem WZ.rU (B:WZ n k m)(i:Int):WZ n k (m.drop i).1:=by
 unfold Ya.drop;split
 ·exact B
 ·exact B.off _
theorem WZ.mW (B:WZ n k m)(i:Int):WZ n k (m.bC i).1:=by
 unfold Ya.bC;split
 ·exact B
 ·rename_i H;split
  ·exact B
  ·rename_i I;refine⟨?_,fun x D=>?_,B.la,B.lt,B.ls,B.gD,B.act,B.many,B.dN,B.dO,B.cU,B.asks,B.bI,B.nodes⟩
   ·show(m.L.take (i.toNat+1)++ [Yg m.L i.toNat]++m.L.drop (i.toNat+1)).length<=120;rw[ah,ah,av,List.length_drop];show min _ _+1+_<=120;omega
   ·have D:x∈m.L.take (i.toNat+1)++ [Yg m.L i.toNat]++m.L.drop (i.toNat+1):=D;rcases zc.1 D with D|D
    ·rcases zc.1 D with D|D
     ·exact B.msgs x (List.mem_of_mem_take D)
     ·rw[List.mem_singleton.1 D];exact B.msgs _ (oB (by omega))
    ·exact B.msgs x (List.mem_of_mem_drop D)
theorem WZ.pH (B:WZ n k m)(s:BA)(up:Bool):WZ n k (m.set s up).1:=by
 unfold Ya.set;split
 ·rename_i H;refine⟨B.bO,B.msgs,B.la,B.lt,B.ls,B.gD,B.act,B.many,B.dN,B.dO,B.cU,B.asks,B.bI,fun i D=>?_⟩;have D:=D;rw[List.length_set]at D;show jJ (Jc (m.nodes.set _ _) i).1;rw[uS H];split
  ·exact B.nodes _ H
  ·exact B.nodes i D
 ·exact B
theorem WZ.mV (B:WZ n k m)(who:Int):WZ n k (m.again who).1:=by
 unfold Ya.again;split
 ·exact B
 ·cases D:Xf m.asks who.toNat with
  |none=>exact B
  |some a =>
   show WZ n k (if a.st=.looking then(m.send a.begin,(0:Int))else(m,5)).1;split
   ·exact B.send (B.asks _ a D).1.begin
   ·exact B
theorem WZ.l9 (B:WZ n k m)(who:Int):WZ n k (m.a8 who).1:=by
 unfold Ya.a8;split
 ·exact B
 ·rename_i D;cases H:Xf m.asks who.toNat with
  |none=>exact B
  |some a =>
   show WZ n k (if a.st=.refused then(if(m.aC:Int)<=a.config then(m,(10:Int))else(m.begin who.toNat a.put,0))else(m,5)).1;split
   ·split
    ·exact B
    ·exact B.begin (by omega) _
   ·exact B
end
theorem JqO (w:Ya)(who:Nat)(a:Za):(w.after who a).ops=w.ops∨(w.after who a).ops=w.ops+1:=by
 unfold Ya.after;split
 ·exact ab rfl
 ·split
  ·exact au rfl
  ·exact ab rfl
 ·exact ab rfl
theorem Jst (w:Ya)(l:List BA):(w.eX l).ops=w.ops:=by
 obtain⟨N,h,_⟩:=l3 l w;rw[h]
theorem PS {w':Ya}(h:WStep n k w w'):w'.ops=w.ops∨w'.ops=w.ops+1:=by
 cases h with
 |open_ who put text =>
  unfold Ya.open_;split
  ·exact ab rfl
  ·split
   ·exact ab rfl
   ·exact au rfl
 |aR i =>
  unfold Ya.aR;split
  ·exact ab rfl
  ·have B:∀o:Option Nat,(match o with
    |some who=>Ya.aD {w.off i.toNat with aA:=w.aA+1} who (Yg w.L i.toNat)
    |none=>if(Yg w.L i.toNat).aP=J8 then Ya.aI {w.off i.toNat with aA:=w.aA+1} (Yg w.L i.toNat)else Ya.node {w.off i.toNat with aA:=w.aA+1} (Yg w.L i.toNat)).ops=w.ops∨(match o with
    |some who=>Ya.aD {w.off i.toNat with aA:=w.aA+1} who (Yg w.L i.toNat)
    |none=>if(Yg w.L i.toNat).aP=J8 then Ya.aI {w.off i.toNat with aA:=w.aA+1} (Yg w.L i.toNat)else Ya.node {w.off i.toNat with aA:=w.aA+1} (Yg w.L i.toNat)).ops=w.ops+1:=fun o=>by
    cases o with
    |some who =>
     show(Ya.aD {w.off i.toNat with aA:=w.aA+1} who (Yg w.L i.toNat)).ops=_∨(Ya.aD {w.off i.toNat with aA:=w.aA+1} who (Yg w.L i.toNat)).ops=_;unfold Ya.aD;split
     ·exact ab rfl
     ·exact JqO _ _ _
    |none =>
     refine ab ?_;show(if(Yg w.L i.toNat).aP=J8 then Ya.aI {w.off i.toNat with aA:=w.aA+1} (Yg w.L i.toNat)else Ya.node {w.off i.toNat with aA:=w.aA+1} (Yg w.L i.toNat)).ops=_;split
     ·unfold Ya.aI;split<;>rfl
     ·unfold Ya.node;split<;>rfl
   exact B _
 |drop i=>refine ab ?_;unfold Ya.drop;split<;>rfl
 |bC i =>
  refine ab ?_;unfold Ya.bC;split
  ·rfl
  ·split<;>rfl
 |set s up=>refine ab ?_;unfold Ya.set;split<;>rfl
 |again who =>
  refine ab ?_;unfold Ya.again;split
  ·rfl
  ·split
   ·rfl
   ·split<;>rfl
 |a8 who =>
  unfold Ya.a8;split
  ·exact ab rfl
  ·split
   ·exact ab rfl
   ·split
    ·split
     ·exact ab rfl
     ·exact au rfl
    ·exact ab rfl
 |change nodes c D H=>exact au rfl
 |none=>exact ab rfl
theorem bP.ops :∀{t:Nat} {w:Ya},bP n k t w->0<=w.ops/\w.ops<=t:=by
 intro t w h
 induction h with
 |new nodes c D =>
  unfold Ya.new;rw[Jst];exact⟨Int.le_refl _,Int.le_refl _⟩
 |step t w w' h B ih =>
  rcases PS B with e|e<;>rw[e]<;>constructor<;>omega
end
def RZ (N:List (Je×Bool))(s:BA):Je×Bool:=Jc N (Qe N s)
structure Up (w:Ya) (s:BA):Prop where
 has:Qe w.nodes s<w.nodes.length
 up:(RZ w.nodes s).2=T
 cli:YN s=ac
 mv:s≠J8
section
section
variable {n k:Nat} {a:Za} {l:Nat->List Yb}
end
end
section
section
variable {n k D B j:Nat} {w:Ya} {c:Xg} {V:List (JC×BA)}
end
end
section
section
variable {n k D B j:Nat} {w:Ya} {c:Xg} {V:List (JC×BA)}
end
end
section
section
variable {n k D B j:Nat} {w:Ya} {c:Xg} {V:List (JC×BA)}
end
end
section
section
variable {n k D B j:Nat} {w:Ya} {c c':Xg} {V:List (JC×BA)}
end
end
section
section
variable {n k B:Nat} {c:Xg} {V:List (JC×BA)} {a:Za} {l:Nat->List Yb}
end
end
section
section
variable {n k B:Nat} {w:Ya} {V:List (JC×BA)}
end
end
section
attribute [local instance low] Classical.propDecidable
section
variable {n k B:Nat} {w:Ya} {V:List (JC×BA)}
end
end
theorem VG {l:List Ev}(h:l.Pairwise oD)(ht:∀a∈l,∀b∈l,b.found=T->a.put=T->a.tag=b.tag->a.text=b.text)(I:i<l.length):(∀q,q<i->JQ (Qq l i) (Qq l q)=F)/\∀q,q<l.length->Y5 (Qq l i) (Qq l q)=false:=by
 constructor
 ·intro q D;have J:=List.pairwise_iff_getElem.1 h q i (by omega) I D;rw[nF I,nF (by omega)];cases e:JQ l[i] (l[q]'(by omega))with
  |false=>rfl
  |true =>
   unfold JQ at e;simp only[al,zd,decide_eq_true_eq,ar]at e;obtain⟨⟨K,H⟩,B⟩:=e;obtain⟨O,U,Z⟩:=J K H;rcases B with(B|B)|B
   ·rw[O]at B;cases B
   ·rw[U]at B;cases B
   ·exact absurd B.2 (Z B.1)
 ·intro q D;rw[nF I,nF D];cases e:Y5 l[i] l[q]with
  |false=>rfl
  |true =>
   unfold Y5 at e;simp only[al,decide_eq_true_eq,ar]at e;obtain⟨⟨⟨⟨_,H⟩,B⟩,e4⟩,e5⟩:=e;exact absurd (ht _ (aw _) _ (aw _) H B e4) e5
theorem MF (w:Ya)(who:Nat)(a:Za):(w.after who a).events=w.events∨∃x,(w.after who a).events=w.events++ [x]:=by
 unfold Ya.after;split
 ·exact au ⟨_,rfl⟩
 ·split<;>exact ab rfl
 ·exact ab rfl
theorem FB (w:Ya)(l:List BA):(w.eX l).events=w.events:=by
 obtain⟨N,h,_⟩:=l3 l w;rw[h]
theorem Jrs {w':Ya}(h:WStep n k w w'):w'.events=w.events∨∃x,w'.events=w.events++ [x]:=by
 cases h with
 |open_ who put text =>
  refine ab ?_;unfold Ya.open_;split
  ·rfl
  ·split<;>rfl
 |aR i =>
  unfold Ya.aR;split
  ·exact ab rfl
  ·have B:∀o:Option Nat,(match o with
    |some who=>Ya.aD {w.off i.toNat with aA:=w.aA+1} who (Yg w.L i.toNat)
    |none=>if(Yg w.L i.toNat).aP=J8 then Ya.aI {w.off i.toNat with aA:=w.aA+1} (Yg w.L i.toNat)else Ya.node {w.off i.toNat with aA:=w.aA+1} (Yg w.L i.toNat)).events=w.events∨∃x,(match o with
    |some who=>Ya.aD {w.off i.toNat with aA:=w.aA+1} who (Yg w.L i.toNat)
    |none=>if(Yg w.L i.toNat).aP=J8 then Ya.aI {w.off i.toNat with aA:=w.aA+1} (Yg w.L i.toNat)else Ya.node {w.off i.toNat with aA:=w.aA+1} (Yg w.L i.toNat)).events=w.events++ [x]:=fun o=>by
    cases o with
    |some who =>
     show(Ya.aD {w.off i.toNat with aA:=w.aA+1} who (Yg w.L i.toNat)).events=_∨∃x,(Ya.aD {w.off i.toNat with aA:=w.aA+1} who (Yg w.L i.toNat)).events=_;unfold Ya.aD;split
     ·exact ab rfl
     ·exact MF _ _ _
    |none =>
     refine ab ?_;show(if(Yg w.L i.toNat).aP=J8 then Ya.aI {w.off i.toNat with aA:=w.aA+1} (Yg w.L i.toNat)else Ya.node {w.off i.toNat with aA:=w.aA+1} (Yg w.L i.toNat)).events=_;split
     ·unfold Ya.aI;split<;>rfl
     ·unfold Ya.node;split<;>rfl
   exact B _
 |drop i=>refine ab ?_;unfold Ya.drop;split<;>rfl
 |bC i =>
  refine ab ?_;unfold Ya.bC;split
  ·rfl
  ·split<;>rfl
 |set s up=>refine ab ?_;unfold Ya.set;split<;>rfl
 |again who =>
  refine ab ?_;unfold Ya.again;split
  ·rfl
  ·split
   ·rfl
   ·split<;>rfl
 |a8 who =>
  refine ab ?_;unfold Ya.a8;split
  ·rfl
  ·split
   ·rfl
   ·split
    ·split<;>rfl
    ·rfl
 |change nodes c D H=>exact ab (FB w nodes)
 |none=>exact ab rfl
theorem bP.bV (h:bP n k m w):w.events.length<=m:=by
 induction h with
 |new nodes c D =>
  unfold Ya.new;rw[FB];exact Nat.le_refl _
 |step m w w' h B ih =>
  rcases Jrs B with e|⟨x,e⟩
  ·rw[e];omega
  ·rw[e,ah,List.length_singleton];omega
theorem bP.aN (h:bP n k m w)(I:m<=1099511627776):∀i,i<w.events.length->(∀q,q<i->JQ (Qq w.events i) (Qq w.events q)=F)/\∀q,q<w.events.length->Y5 (Qq w.events i) (Qq w.events q)=false:=fun i B=>by
 obtain⟨D,H⟩:=LF h I;exact VG D H B
def ZQ (I:Nat->Nat->World->Nat->Nat->(Nat->Prop)->Ya->Prop)(n k B h:Nat)(S:Nat->Prop)(m:Ya)(w:World)(e:Ending)(w':World):Prop :=
 (∃H,e=.returned H)/\∃D m',WStep n k m m'/\I n k w' B h D m'/\Yd S D w w'
def Z3 (ad:Nat->aJ)(X:World->Prop)(w:World)(S:Nat->Prop):Prop:=∀W:World,w.heap.size<=W.heap.size->(∀k,k<w.heap.size->¬S k->W.heap[k]?=w.heap[k]?)->Zp W ad/\X W
structure IJ (ad:Nat->aJ) (X:World->Prop) (Wd:Nat->Nat->World->Nat->Nat->(Nat->Prop)->Ya->Prop):Prop where
 dH:∀{n k w B h S m},Wd n k w B h S m->∀j,S j->B<=j/\j<w.heap.size
 aS:∀{n k w w' B h S m},Wd n k w B h S m->ae B w w'->(∀j,S j->w'.heap[j]?=w.heap[j]?)->Wd n k w' B h S m
 born:∀w:World,Zp w ad->X w->aj prog 4 #[] w fun e w'=>e=.returned (.bool T)/\ae w.heap.size w w'
 new:∀(l:List BA) (n k:Int) (p:Option aJ) (cap:Nat) (w:World),Strs w p l->l.length<=cap->(p=ac->l=[]/\cap=0)->l.length<=30->(∀x∈l,x.size<=100)->Zt n->Zt k->Zp w ad->X w->aj prog 7 #[.slice p l.length cap,.int .i64 n,.int .i64 k] w fun e w'=>((∃ev c at_,e=.returned (.tuple #[.pointer ac,ev])/\Jd w' ad ev c at_/\0<c)∨∃h S c,e=.returned (.tuple #[.pointer (aa ⟨h,0,ac⟩),.nilIface])/\XS n.toNat k.toNat c/\Wd n.toNat k.toNat w' w.heap.size h S (Ya.new l c))/\ae w.heap.size w w'
 put:∀{n k w B h S m t} (who:Int) (text:BA),Wd n k w B h S m->bP n k t m->t<=400->Zt who->text.size<=2000->Z3 ad X w S->aj prog 9 #[.pointer (aa ⟨h,0,ac⟩),.int .i64 who,.string text] w (ZQ Wd n k B h S m w)
 get:∀{n k w B h S m t} (who:Int),Wd n k w B h S m->bP n k t m->t<=400->Zt who->Z3 ad X w S->aj prog 10 #[.pointer (aa ⟨h,0,ac⟩),.int .i64 who] w (ZQ Wd n k B h S m w)
 aR:∀{n k w B h S m t} (i:Int),Wd n k w B h S m->bP n k t m->t<=400->Zt i->Z3 ad X w S->aj prog 18 #[.pointer (aa ⟨h,0,ac⟩),.int .i64 i] w (ZQ Wd n k B h S m w)
 drop:∀{n k w B h S m t} (i:Int),Wd n k w B h S m->bP n k t m->t<=400->Zt i->Z3 ad X w S->aj prog 11 #[.pointer (aa ⟨h,0,ac⟩),.int .i64 i] w (ZQ Wd n k B h S m w)
 bC:∀{n k w B h S m t} (i:Int),Wd n k w B h S m->bP n k t m->t<=400->Zt i->Z3 ad X w S->aj prog 12 #[.pointer (aa ⟨h,0,ac⟩),.int .i64 i] w (ZQ Wd n k B h S m w)
 down:∀{n k w B h S m t} (s:BA),Wd n k w B h S m->bP n k t m->t<=400->s.size<=100->Z3 ad X w S->aj prog 13 #[.pointer (aa ⟨h,0,ac⟩),.string s] w (ZQ Wd n k B h S m w)
 up:∀{n k w B h S m t} (s:BA),Wd n k w B h S m->bP n k t m->t<=400->s.size<=100->Z3 ad X w S->aj prog 14 #[.pointer (aa ⟨h,0,ac⟩),.string s] w (ZQ Wd n k B h S m w)
 again:∀{n k w B h S m t} (who:Int),Wd n k w B h S m->bP n k t m->t<=400->Zt who->Z3 ad X w S->aj prog 15 #[.pointer (aa ⟨h,0,ac⟩),.int .i64 who] w (ZQ Wd n k B h S m w)
 a8:∀{n k w B h S m t} (who:Int),Wd n k w B h S m->bP n k t m->t<=400->Zt who->Z3 ad X w S->aj prog 16 #[.pointer (aa ⟨h,0,ac⟩),.int .i64 who] w (ZQ Wd n k B h S m w)
 change:∀{n k w B h S m t} (l:List BA) (p:Option aJ) (cap:Nat),Wd n k w B h S m->bP n k t m->t<=400->Strs w p l->l.length<=cap->(p=ac->l=[]/\cap=0)->(∀b o,p=aa ⟨b,o,ac⟩->¬S b)->l.length<=30->(∀x∈l,x.size<=100)->Z3 ad X w S->aj prog 17 #[.pointer (aa ⟨h,0,ac⟩),.slice p l.length cap] w (ZQ Wd n k B h S m w)
 events:∀{n k w B h S m},Wd n k w B h S m->aj prog 19 #[.pointer (aa ⟨h,0,ac⟩)] w fun e w'=>(∃p c,e=.returned (.slice p m.events.length c)/\Ql XI w' p m.events)/\ae w.heap.size w w'
theorem ZQ.run {H:Nat->Nat->World->Nat->Nat->(Nat->Prop)->Ya->Prop}{h t:Nat}{m:Ya}{w:World}{e:Ending}(Z:bP n k t m)(ht:ZQ H n k B h S m w e w'):(∃I,e=.returned I)/\∃D m',bP n k (t+1) m'/\H n k w' B h D m'/\Yd S D w w':=by
 obtain⟨J,D,m',K,O,U⟩:=ht;exact⟨J,D,m',bP.step t m m' Z K,O,U⟩
theorem VM (x:Ev)(w:World):
 aj prog 20 #[.agg (oH x).toArray] w fun e w'=>e=.returned (.agg (oH x).toArray)/\ae w.heap.size w w':=by
 obtain⟨B,D,H,⟨I,J⟩,K,O,U⟩:=x;unfold oH;dsimp only;go_enter func20,ntmps20;go_wp2;refine bodyPost_ret (v:=.agg #[.int .i64 B,.bool D,.bool H,.int .i64 I,.int .i64 J,.string K,.int .i64 O,.int .i64 U]) (by simp[results,results20,go_sem]) rfl ⟨rfl,?_⟩;exact(bR.alloc nR _).alloc (by simp) _
theorem A9 (l:List BA)(p:Option aJ)(cap:Nat)(w:World)(hl:l.length<=8796093021952)(O:Strs w p l)(hn:p=ac->l=[]/\cap=0):
 aj prog 8 #[.slice p l.length cap] w fun e w'=>(∃q d,e=.returned (.slice q l.length d)/\Strs w' q l/\l.length<=d/\(q=ac->l=[]/\d=0)/\∀b o,q=aa ⟨b,o,ac⟩->w.heap.size<=b)/\ae w.heap.size w w':=by
 have U:Hid (Strs w p l):=O;clear O;go_enter func8,ntmps8;go_wp2_with (at_builtin;refine R8 rfl (.tmp 4) (.tmp 5) rfl w.heap.size (.slice ac 0 0) [] rfl (Zq.nil _ _) p l cap rfl U.out hn (by show 0+l.length<=_;omega) nR ?_;intro Z B D H;have I:Hid (Zq B w.heap.size Z l/\ae w.heap.size w B):=⟨D,H⟩;clear D H)
 obtain⟨q,d,rfl,J,a0,a2,a3⟩:=I.out.1.form;go_ret;exact⟨⟨q,d,rfl,J,a0,fun e=>⟨(by rcases J with h|⟨b,o,K,_⟩;exact h;rw[e]at K;cases K),a2 e⟩,fun b o e=>(a3 b o e).1⟩,I.out.2⟩
theorem RB:(prog.info? 45).map (fun i=>(i.zero,i.size,i.bytes))=aa (aa (.agg #[.int .i64 0,.bool F,.bool F,.int .i64 0,.int .i64 0,.string ⟨#[]⟩,.int .i64 0,.int .i64 0]),XI.k,64):=by kernel_rfl
theorem Yd.low {H:Nat->Prop}{w:World}(h:Yd S H w w')(hB:B<=w.heap.size)(I:∀j,S j->B<=j):ae B w w':=⟨h.os,h.tape,h.output,h.size,fun j J=>h.block j (by omega) (fun D=>by have:=I j D;omega)⟩
theorem PY {ad:Nat->aJ}{X:World->Prop}{Wd:Nat->Nat->World->Nat->Nat->(Nat->Prop)->Ya->Prop}(hW:IJ ad X Wd)(l:List BA)(n k:Int)(L:List Z7)(p:Option aJ)(cap:Nat)(q:Option aJ)(n0:Nat)(w:World)
 (hl:l.length<=9223372036854775807) (n1:∀x∈l,x.size<=9223372036854775807) (hs:Strs w p l) (hn:p=ac->l=[]/\cap=0) (n2:Zt n) (n3:Zt k) (hL:L.length<=9223372036854775807) (n4:∀x∈L,x.Bears) (n5:∀x∈L,Zt x.who/\Zt x.at_/\(x.np=ac->x.names=[]/\x.nc=0)) (hS:mS w q L) (hX:∀W:World,w.heap.size<=W.heap.size->(∀j,j<w.heap.size->W.heap[j]?=w.heap[j]?)->Zp W ad/\X W):
 aj prog 3 #[.slice p l.length cap,.int .i64 n,.int .i64 k,.slice q L.length n0] w fun e w'=>e=.returned (.bool T)/\ae w.heap.size w w':=by
 have Z:Hid _:=hW;have HS:Hid (Strs w p l/\(p=ac->l=[]/\cap=0)/\∀x∈l,x.size<=9223372036854775807):=⟨hs,hn,n1⟩;have b7:Hid (mS w q L/\(∀x∈L,x.Bears)/\∀x∈L,Zt x.who/\Zt x.at_/\(x.np=ac->x.names=[]/\x.nc=0)):=⟨hS,n4,n5⟩;have f9:Hid _:=hX;have HX:Hid (∀W,ae w.heap.size w W->Zp W ad/\X W):=fun W hB=>hX W hB.size hB.block
 have g0:Hid (Zt n/\Zt k):=⟨n2,n3⟩;clear hW hs hn n1 hS n4 n5 hX n2 n3;go_enter func3,ntmps3;go_wp2_with fail
 refine(Z.out.born w (HX.out w bR).1 (HX.out w bR).2).mono ?_;rintro e w1 ⟨rfl,i3⟩;have c8:Hid _:=i3;clear i3;go_wp2_with fail
 refine(D7 l p cap w1 hl HS.out.2.2 (HS.out.1.below c8.out)).mono ?_;rintro e w2 ⟨rfl,rfl⟩;cases i4:fY l with
 |true =>
  go_wp2;go_ret;exact⟨rfl,c8.out⟩
 |false =>
 go_wp2_with fail
 refine(UK L 400 q n0 w2 hL b7.out.2.1 (b7.out.1.below c8.out)).mono ?_;rintro e w3 ⟨rfl,i5⟩;have e3:Hid _:=c8.out.trans (i5.mono c8.out.size);clear i5 c8;cases e8:lX L 400 with
 |false =>
  go_wp2;go_ret;exact⟨rfl,e3.out⟩
 |true =>
 have e9:Hid _:=zI i4;have d8:Hid (L.length<=400/\∀x∈L,JS x=F):=by
  unfold lX at e8;simp only[al,ar,decide_eq_true_eq]at e8;exact⟨by omega,fun x hx=>by have:=ak.1 e8.1 x hx;simpa using this⟩
 clear i4 e8;go_wp2_with fail
 refine(A9 l p cap w3 (by have:=e9.out.1;omega) (HS.out.1.below e3.out) HS.out.2.1).mono ?_;rintro e J ⟨⟨po,co,rfl,i8,i9,j1,n6⟩,j2⟩;have a7:Hid _:=e3.out.trans (j2.mono e3.out.size);have f3:Hid (Strs J po l/\l.length<=co/\(po=ac->l=[]/\co=0)):=⟨i8,i9,j1⟩;clear i8 i9 j1 n6 j2 e3;go_wp2_with fail
 refine(Z.out.new l n k po co J f3.out.1 f3.out.2.1 f3.out.2.2 e9.out.1 e9.out.2 g0.out.1 g0.out.2 (HX.out J a7.out).1 (HX.out J a7.out).2).mono ?_;rintro e w5 ⟨⟨ev,c,at_,rfl,k0,hc⟩|⟨h,S,c,rfl,k2,a9⟩,d9⟩
 ·have f4:Hid (ae w.heap.size w w5):=a7.out.trans (d9.mono a7.out.size);have e0:ev≠.nilIface:=fun h=>by
   rcases k0 with⟨_,h2,_⟩|⟨i,_,h2,_⟩|⟨i,fb,_,h2,_⟩
   ·omega
   ·rw[h]at h2;cases h2
   ·rw[h]at h2;cases h2
  rcases k0 with⟨h1,_,_⟩|⟨i,_,rfl,_⟩|⟨i,fb,_,rfl,_⟩
  ·exact absurd h1 e0
  ·clear e0;go_wp2;go_ret;exact⟨rfl,f4.out⟩
  ·clear e0;go_wp2;go_ret;exact⟨rfl,f4.out⟩
 ·have f5:Hid (bP n.toNat k.toNat 0 (Ya.new l c)/\Wd n.toNat k.toNat w5 J.heap.size h S (Ya.new l c)/\ae J.heap.size J w5):=⟨bP.new l c k2,a9,d9⟩;clear k2 a9 d9 HS f3 e9 g0;go_wp2_with fail
  go_loopw [12] (fun x wr=>∃(i:Nat) (S:Nat->Prop) (m:Ya),i<=L.length/\x=.int .i64 i/\bP n.toNat k.toNat i m/\Wd n.toNat k.toNat wr J.heap.size h S m/\ae J.heap.size J wr) (fun x _=>L.length-(intOf x).toNat)
  case atStart=>exact⟨0,S,_,ap _,rfl,f5.out.1,f5.out.2.1,f5.out.2.2⟩
  case round =>
   clear f5;obtain⟨i,S,m,hi,rfl,e1,a9,hB⟩:=hrel;obtain⟨w6,rfl⟩:=Xb wr;by_cases b0:i<L.length
   ·have e4:ae w.heap.size w w6:=a7.out.trans (hB.mono a7.out.size);obtain⟨b,o,n7,n8,a0,a1,a2,a3,a4,a5⟩:=F8 (b7.out.1.below e4).1 b0;subst n7;have e2:=(b7.out.1.below e4).2 _ (oX b0);have b5:=b7.out.2.2 _ (oX b0);obtain⟨_,g2,g3,g4⟩:=A1 (d8.out.2 _ (oX b0));have b1:i<=400:=by have:=d8.out.1;omega
    have U:Hid (∀wS,ae w6.heap.size w6 wS->Wd n.toNat k.toNat wS J.heap.size h S m/\Z3 ad X wS S):=fun wS b6=>⟨Z.out.aS a9 (b6.mono hB.size) (fun j hj=>b6.block j (Z.out.dH a9 j hj).2),fun W n9 hk=>f9.out W (bc (e4.size) (bc b6.size n9)) (fun j hj=>by
     have h4:=a7.out.size;have h6:=hB.size;have o1:=b6.size;exact((hk j (by omega) (fun hs=>by have:=(Z.out.dH a9 j hs).1;omega)).trans (b6.block j (by omega))).trans (e4.block j hj))⟩
    have b2:Hid (∀wS e K,ae w6.heap.size w6 wS->ZQ Wd n.toNat k.toNat J.heap.size h S m wS e K->∃ev,e=.returned ev/\∃(i':Nat) (S:Nat->Prop) (m:Ya),i'<=L.length/\(.int .i64 ((i:Int)+1):aF)=.int .i64 i'/\bP n.toNat k.toNat i' m/\Wd n.toNat k.toNat K J.heap.size h S m/\ae J.heap.size J K):=fun wS e K b6 D=>by
     obtain⟨⟨ev,rfl⟩,S',m',o2,o3,hu⟩:=ZQ.run e1 D;refine⟨ev,rfl,i+1,S',m',b0,rfl,o2,o3,?_⟩;have h6:=hB.size;have o1:=b6.size;exact(hB.trans (b6.mono h6)).trans (hu.low (by omega) (fun j hj=>(Z.out.dH a9 j hj).1))
    have b3:Hid _:=e1;have o4:Hid (∀j,S j->j<w6.heap.size):=fun j hj=>(Z.out.dH a9 j hj).2
    generalize Jv L i=x at *;obtain⟨xk,xt,xn,xw,xa,xl,xp,xc⟩:=x;dsimp only at a0 a1 a2 a3 a4 a5 e2 b5 g2 g3 g4;have g2:xt.size<=2000:=by omega
    have g3:xn.size<=100:=by omega
    have e5:Hid (Strs w6 xp xl/\xl.length<=30/\(∀x∈xl,x.size<=100)/\(xp=ac->xl=[]/\xc=0)):=⟨e2,(zI g4).1,(zI g4).2,b5.2.2⟩;obtain⟨B,f6⟩:=Xb (w6.alloc (.cells #[.string xk,.string xt,.string xn,.int .i64 xw,.int .i64 xa,.slice xp xl.length xc] 34));have b8:=JH f6;have H:Hid (ae w6.heap.size w6 B):=by show ae _ _ _;rw[f6];exact bR.alloc nR _
    have c0:B.cell? (pA w6.heap.size 0)=aa (.string xk):=by simp[ag,b8]
    have c1:B.cell? (pA w6.heap.size 1)=aa (.string xt):=by simp[ag,b8]
    have c2:B.cell? (pA w6.heap.size 2)=aa (.string xn):=by simp[ag,b8]
    have c3:B.cell? (pA w6.heap.size 3)=aa (.int .i64 xw):=by simp[ag,b8]
    have c4:B.cell? (pA w6.heap.size 4)=aa (.int .i64 xa):=by simp[ag,b8]
    have c5:B.cell? (pA w6.heap.size 5)=aa (.slice xp xl.length xc):=by simp[ag,b8]
    have b4:Hid _:=f6;clear f6 b8 hB e4 a9 e1 e2 g4 b7 HX f9 d8 n8;by_cases g1:xk=(⟨#[112,117,116]⟩:BA)
    ·subst g1;go_wp2_with (rw[<-b4.out])
     refine(Z.out.put xw xt (U.out B H.out).1 b3.out b1 b5.1 g2 (U.out B H.out).2).mono ?_;rintro e K D;obtain⟨ev,rfl,I⟩:=b2.out B e K H.out D;have a6:Hid _:=I;clear D I;go_wp2;go_roundw
     case rel=>exact a6.out
     case measure=>simp[intOf];omega
    have p6:=XQ g1;clear g1;by_cases g5:xk=(⟨#[103,101,116]⟩:BA)
    ·subst g5;go_wp2_with (rw[<-b4.out])
     refine(Z.out.get xw (U.out B H.out).1 b3.out b1 b5.1 (U.out B H.out).2).mono ?_;rintro e K D;obtain⟨ev,rfl,I⟩:=b2.out B e K H.out D;have a6:Hid _:=I;clear D I;go_wp2;go_roundw
     case rel=>exact a6.out
     case measure=>simp[intOf];omega
    have p7:=XQ g5;clear g5;by_cases g6:xk=(⟨#[100,114,111,112]⟩:BA)
    ·subst g6;go_wp2_with (rw[<-b4.out])
     refine(Z.out.drop xa (U.out B H.out).1 b3.out b1 b5.2.1 (U.out B H.out).2).mono ?_;rintro e K D;obtain⟨ev,rfl,I⟩:=b2.out B e K H.out D;have a6:Hid _:=I;clear D I;go_wp2;go_roundw
     case rel=>exact a6.out
     case measure=>simp[intOf];omega
    have p9:=XQ g6;clear g6;by_cases g7:xk=(⟨#[116,119,105,99,101]⟩:BA)
    ·subst g7;go_wp2_with (rw[<-b4.out])
     refine(Z.out.bC xa (U.out B H.out).1 b3.out b1 b5.2.1 (U.out B H.out).2).mono ?_;rintro e K D;obtain⟨ev,rfl,I⟩:=b2.out B e K H.out D;have a6:Hid _:=I;clear D I;go_wp2;go_roundw
     case rel=>exact a6.out
     case measure=>simp[intOf];omega
    have q0:=XQ g7;clear g7;by_cases g8:xk=(⟨#[100,111,119,110]⟩:BA)
    ·subst g8;go_wp2_with (rw[<-b4.out])
     refine(Z.out.down xn (U.out B H.out).1 b3.out b1 g3 (U.out B H.out).2).mono ?_;rintro e K D;obtain⟨ev,rfl,I⟩:=b2.out B e K H.out D;have a6:Hid _:=I;clear D I;go_wp2;go_roundw
     case rel=>exact a6.out
     case measure=>simp[intOf];omega
    have q1:=XQ g8;clear g8;by_cases g9:xk=(⟨#[117,112]⟩:BA)
    ·subst g9;go_wp2_with (rw[<-b4.out])
     refine(Z.out.up xn (U.out B H.out).1 b3.out b1 g3 (U.out B H.out).2).mono ?_;rintro e K D;obtain⟨ev,rfl,I⟩:=b2.out B e K H.out D;have a6:Hid _:=I;clear D I;go_wp2;go_roundw
     case rel=>exact a6.out
     case measure=>simp[intOf];omega
    have q2:=XQ g9;clear g9;by_cases h0:xk=(⟨#[97,103,97,105,110]⟩:BA)
    ·subst h0;go_wp2_with (rw[<-b4.out])
     refine(Z.out.again xw (U.out B H.out).1 b3.out b1 b5.1 (U.out B H.out).2).mono ?_;rintro e K D;obtain⟨ev,rfl,I⟩:=b2.out B e K H.out D;have a6:Hid _:=I;clear D I;go_wp2;go_roundw
     case rel=>exact a6.out
     case measure=>simp[intOf];omega
    have q3:=XQ h0;clear h0;by_cases h5:xk=(⟨#[114,101,116,114,121]⟩:BA)
    ·subst h5;go_wp2_with (rw[<-b4.out])
     refine(Z.out.a8 xw (U.out B H.out).1 b3.out b1 b5.1 (U.out B H.out).2).mono ?_;rintro e K D;obtain⟨ev,rfl,I⟩:=b2.out B e K H.out D;have a6:Hid _:=I;clear D I;go_wp2;go_roundw
     case rel=>exact a6.out
     case measure=>simp[intOf];omega
    have q4:=XQ h5;clear h5;by_cases h7:xk=(⟨#[99,104,97,110,103,101]⟩:BA)
    ·subst h7;go_wp2_with (rw[<-b4.out])
     refine(A9 xl xp xc B (by have:=e5.out.2.1;omega) (e5.out.1.below H.out) e5.out.2.2.2).mono ?_;rintro e O ⟨⟨pn,cn,rfl,e2,k3,e0,k4⟩,e6⟩;have h8:Hid _:=H.out.trans (e6.mono H.out.size);have f7:Hid (Strs O pn xl/\xl.length<=cn/\(pn=ac->xl=[]/\cn=0)/\∀b o,pn=aa (pA b o)->¬S b):=⟨e2,k3,e0,fun b o e hs=>by have h1:=k4 b o e;have h2:=o4.out b hs;have h3:=H.out.size;omega⟩;clear e2 k3 e0 k4 e6 c0 c1 c2 c3 c4 c5;go_wp2_with fail
     refine(Z.out.change xl pn cn (U.out O h8.out).1 b3.out b1 f7.out.1 f7.out.2.1 f7.out.2.2.1 f7.out.2.2.2 e5.out.2.1 e5.out.2.2.1 (U.out O h8.out).2).mono ?_;rintro e K D;obtain⟨ev,rfl,I⟩:=b2.out O e K h8.out D;have a6:Hid _:=I;clear D I;go_wp2;go_roundw
     case rel=>exact a6.out
     case measure=>simp[intOf];omega
    have q5:=XQ h7;clear h7;go_wp2_with (rw[<-b4.out])
    refine(Z.out.aR xa (U.out B H.out).1 b3.out b1 b5.2.1 (U.out B H.out).2).mono ?_;rintro e K D;obtain⟨ev,rfl,I⟩:=b2.out B e K H.out D;have a6:Hid (∃(i':Nat) (S:Nat->Prop) (m:Ya),i'<=L.length/\(.int .i64 ((i:Int)+1):aF)=.int .i64 i'/\bP n.toNat k.toNat i' m/\Wd n.toNat k.toNat K J.heap.size h S m/\ae J.heap.size J K):=I;clear D I;go_wp2;go_roundw
    case rel=>exact a6.out
    case measure=>simp[intOf];omega
   ·obtain rfl:i=L.length:=by omega
    have k5:Hid (Wd n.toNat k.toNat w6 J.heap.size h S m):=a9;have h9:Hid (ae w.heap.size w w6):=a7.out.trans (hB.mono a7.out.size);have q6:m.events.length<=400:=by have h1:=e1.bV;have h2:=d8.out.1;omega
    have k6:Hid (∀i,i<m.events.length->(∀q,q<i->JQ (Qq m.events i) (Qq m.events q)=F)/\∀q,q<m.events.length->Y5 (Qq m.events i) (Qq m.events q)=F):=e1.aN (by have h2:=d8.out.1;omega);clear a9 e1 hB b0 hi;go_wp2_with fail
    refine(Z.out.events k5.out).mono ?_;rintro e O ⟨⟨pe,ce,rfl,k7⟩,e6⟩;have l0:Hid (Ql XI O pe m.events):=k7;have l7:Hid (ae w.heap.size w O):=h9.out.trans (e6.mono h9.out.size);clear h9 k7 e6 k5 b7 HX f9 d8 Z a7;generalize m.events=Es at *;go_wp2_with fail
    go_loopw [14,16] (fun v x wr=>∃i:Nat,i<=Es.length/\x=.int .i64 i/\Zc XI 45 wr O.heap.size v (Es.take i)/\ae O.heap.size O wr) (fun _ x _=>Es.length-(intOf x).toNat)
    case atStart=>exact⟨0,ap _,rfl,Zc.nil _ _ _,Below.refl _ _⟩
    case round =>
     obtain⟨i,hi,rfl,hO,hB⟩:=hrel;obtain⟨w1,rfl⟩:=Xb wr;obtain⟨pv,cv,rfl,l9,q7,o5,o6⟩:=hO.form;have HO:Hid (Zc XI 45 w1 O.heap.size (.slice pv (Es.take i).length cv) (Es.take i)):=hO;have HB:Hid (ae O.heap.size O w1):=hB;have i0:Hid (Ql XI w1 pv (Es.take i)):=l9;have o7:(Es.take i).length<=400:=by rw[av];omega
     clear hO l9 o5 o6;by_cases b0:i<Es.length
     ·have HT:Hid (Es.take (i+1)=Es.take i++ [Qq Es i]):=by show _=_;rw[List.take_succ_eq_append_getElem b0,nF b0]
      obtain⟨b,o,p0,q9,d0,d1,d2,d3,d4,d5,d6,d7⟩:=qX (l0.out.below hB) b0;subst p0;clear hB k6 l0;generalize Qq Es i=x at *;generalize Es.take i=done at *;obtain⟨xw,xp,xf,⟨x1,x2⟩,xt,xa,xb⟩:=x;dsimp only at d0 d1 d2 d3 d4 d5 d6 d7;have m0:Hid (∀W,aj prog 20 #[.agg #[.int .i64 xw,.bool xp,.bool xf,.int .i64 x1,.int .i64 x2,.string xt,.int .i64 xa,.int .i64 xb]] W fun e w'=>e=.returned (.agg #[.int .i64 xw,.bool xp,.bool xf,.int .i64 x1,.int .i64 x2,.string xt,.int .i64 xa,.int .i64 xb])/\ae W.heap.size W w'):=fun W=>VM ⟨xw,xp,xf,(x1,x2),xt,xa,xb⟩ W
      go_wp2_with fail
      refine(m0.out _).mono ?_;rintro e w2 ⟨rfl,i1⟩;have m4:Hid (Zc XI 45 w2 O.heap.size (.slice pv done.length cv) done):=HO.out.kept i1;have f8:Hid (ae O.heap.size O w2):=HB.out.trans (i1.mono HB.out.size);have r0:O.heap.size<=w2.heap.size:=f8.out.size;obtain⟨J,e7⟩:=Xb ((w2.alloc (.cells #[.int .i64 xw,.bool xp,.bool xf,.int .i64 x1,.int .i64 x2,.string xt,.int .i64 xa,.int .i64 xb] 45)).alloc (.cells #[.int .i64 xw,.bool xp,.bool xf,.int .i64 x1,.int .i64 x2,.string xt,.int .i64 xa,.int .i64 xb] 45));have i2:ae w2.heap.size w2 J:=by rw[e7];exact(bR.alloc nR _).alloc (by simp) _
      have p1:Hid (∀j u,(XI.enc ⟨xw,xp,xf,(x1,x2),xt,xa,xb⟩)[j]?=aa u->J.cell? (pA (w2.heap.size+1) (0+j))=aa u):=fun j u hj=>by
       rw[e7,World.cell?_alloc_at _ _ _ _ (by simp),Nat.zero_add];simpa[XI,oH]using hj
      have p2:Hid (J=(w2.alloc (.cells #[.int .i64 xw,.bool xp,.bool xf,.int .i64 x1,.int .i64 x2,.string xt,.int .i64 xa,.int .i64 xb] 45)).alloc (.cells #[.int .i64 xw,.bool xp,.bool xf,.int .i64 x1,.int .i64 x2,.string xt,.int .i64 xa,.int .i64 xb] 45)):=e7;have m5:Hid (Zc XI 45 J O.heap.size (.slice pv done.length cv) done):=m4.out.kept i2;have a7:Hid (ae O.heap.size O J):=f8.out.trans (i2.mono f8.out.size);have m6:Hid (O.heap.size<=J.heap.size/\w2.heap.size+1<J.heap.size):=by
       have e:J.heap.size=w2.heap.size+1+1:=by rw[e7];simp
       exact⟨by omega,by omega⟩
      clear i1 HO HB m0 d0 d1 d2 d3 d4 d5 d6 d7 e7 i2 m4 f8 i0;go_wp2_with (first|rw[<-p2.out]|(at_builtin;refine wJ (E:=XI) rfl (.tmp 129) (.tmp 131) 39 45 rfl (.agg #[.int .i64 0,.bool F,.bool F,.int .i64 0,.int .i64 0,.string ⟨#[]⟩,.int .i64 0,.int .i64 0]) 64 underlying39 RB rfl O.heap.size (.slice pv done.length cv) done rfl m5.out (w2.heap.size+1) 0 1 ⟨xw,xp,xf,(x1,x2),xt,xa,xb⟩ rfl p1.out (by unfold maxLen;omega) (by omega) m6.out.1 m6.out.2 ?_;intro v5 w5 m7 d9))
      have p3:Hid (Zc XI 45 w5 O.heap.size v5 (done++ [⟨xw,xp,xf,(x1,x2),xt,xa,xb⟩])):=m7;have f4:Hid (ae O.heap.size O w5):=a7.out.trans d9;clear m7 d9 m5 a7;go_wp2;go_roundw
      case rel=>exact⟨i+1,by omega,by go_num,by rw[HT.out];exact p3.out,f4.out⟩
      case measure=>simp[intOf];omega
     ·have m8:i=Es.length:=by omega
      have HE:Hid (Es.take i=Es):=by show _=_;rw[m8,za]
      rw[HE.out]at i0;rw[HE.out];clear m8 o7 HO;go_wp2_with fail
      refine(NC Es pv cv w1 i0.out (by omega) k6.out).mono ?_;rintro e p4 ⟨rfl,m9⟩;have r1:∀W,Sem.run prog (Instr.field 49 (.agg #[.int .i64 0,.int .i64 (-1)]) 0) W=.ok (.int .i64 0) W:=fun W=>by kernel_rfl
      have p5:Hid (ae w.heap.size w p4):=l7.out.trans ((HB.out.trans (m9.mono HB.out.size)).mono l7.out.size);clear m9;go_wp2;go_ret;exact⟨rfl,p5.out⟩
theorem Jl4:(Rows.worldOrderRow.inPlace==prog.inPlace 3)=true:=by kernel_rfl
theorem RP:(Rows.worldOrderRow.unfollowed==prog.unfollowed 3)=true:=by kernel_rfl
theorem TT:(Rows.worldOrderRow.recurses==prog.recurses 3)=true:=by kernel_rfl
theorem S7:(Rows.worldOrderRow.named==prog.varsNamed 3)=true:=by kernel_rfl
theorem SV:joinedFacts prog 3 f3 Rows.worldOrderSpec Rows.worldOrderRow=true:=by
 unfold joinedFacts;rw[Jl4,RP,TT,S7]
 kernel_rfl
end Go.Proofs.YtflpelnbjekjbaaGreatDoor
