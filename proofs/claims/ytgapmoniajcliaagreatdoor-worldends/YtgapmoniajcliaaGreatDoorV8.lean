/- Texts laid together. -/
import Derived.Test.YtgapmoniajcliaaGreatDoorV7
open List renaming getD_eq_getElem?_getD->aa,mem_singleton->ab,getElem?_eq_getElem->af,mem_append->ag,length_map->aj,length_append->ak,getElem?_set->an,mem_of_mem_take->ao,not_mem_nil->ap,mem_map->aq,mem_cons->ar,getElem_mem->ax,mem_cons_of_mem->ay,length_set->az,getElem?_append_right->za,getElem?_append_left->zb,pairwise_map->zd,set_eq_of_length_le->ze,getElem?_eq_none->zf,nodup_nil->zg,mem_of_mem_drop->aW,findIdx_getElem->zh,nodup_append->ba,findIdx_cons->bb,ext_getElem?->bc,length_take->bd,findIdx_map->be,map_set->zj,map_map->bm,range->bx
open Option renaming some->ac,none->av
open Bool renaming false->ae,true->T,and_eq_true->al
open Or renaming inr->ah,inl->ai
open Int renaming le_refl->am,toNat_natCast->aw,lt_of_lt_of_le->aJ
open Option.some renaming inj->au
open Nat renaming lt_of_lt_of_le->aE,zero_le->aN,le_refl->aO,not_lt_zero->bf,sub_self->bi,le_trans->bj
namespace Go.Proofs.YtgapmoniajcliaaGreatDoor
open Go.RowKit
variable {i j n k act who:Nat}{c B o:Int}{h:List Yh×Bool}{L:List Yh}{s key x:BA}{v:Yb}{l:List Zb}{val:Int×Int->BA}{t:Int×Int}{all:List Yb}{F:List BA}{LL:List (List Yb)}{C:List Xg}{m:Zb}
def KC:BA:=⟨#[109,111,118,101,114]⟩
structure lN where
 op:Int
 f:Xg
 t:Xg
 config:Int
 key:BA
def lH (b:lN):Int×Int:=if 0<(Jg b.f).1 then Jg b.f else if 0<(Jg b.t).1 then Jg b.t else if Jo b.key=ae then(4,-1)else if 0<=b.op/\0<=b.config/\b.config<9223372036854775807 then(0,-1)else(2,-1)
def lN.mover (b:lN):Za:=⟨KC,b.key,0,b.op,b.config,b.f,b.t,ae,T,.sealing,[],[],(0,0),⟨#[]⟩,ae⟩
def BQ (H:World->Nat->Nat->(Nat->Prop)->Za->Prop)(ad:Nat->Addr)(b:lN)(B:Nat)(e:Ending)(w':World):Prop :=
 ∃D,Jd w' ad D (lH b).1 (lH b).2/\((0<(lH b).1/\e=.returned (.tuple #[.pointer av,D]))∨¬0<(lH b).1/\∃h S,e=.returned (.tuple #[.pointer (ac ⟨h,0,av⟩),D])/\H w' B h S b.mover)
def ZW:BA:=⟨#[108,111,111,107]⟩
def Q3:BA:=⟨#[115,101,97,108]⟩
def Y3:BA:=⟨#[107,101,101,112]⟩
def pU:BA:=⟨#[116,111,108,100]⟩
def o9:BA:=⟨#[115,101,97,108,101,100]⟩
def nK:BA:=⟨#[107,101,112,116]⟩
abbrev fA:=Int×List Yh×Bool
structure Je where
 name:BA
 L:List fA
def Yf (L:List fA)(c:Int):Nat:=L.findIdx fun x=>decide (x.1=c)
def Zg (L:List fA)(i:Nat):fA:=L.getD i (0,[],ae)
theorem xI {L:List fA}(B:i<L.length):L[i]?=ac (Zg L i):=by
 unfold Zg;rw[aa,af B];rfl
theorem kL (L:List fA)(c:Int):Yf L c<=L.length:=List.findIdx_le_length
theorem nO {L:List fA}(h:Yf L c<L.length):(Zg L (Yf L c)).1=c:=by
 have D:=zh (p:=fun x:fA=>decide (x.1=c)) (xs:=L) (w:=h);have e:=xI h;rw[af h]at e;have B:decide ((L[Yf L c]).1=c)=true:=D;rw[au e]at B;exact of_decide_eq_true B
theorem Q6 {L:List fA}(h:i<Yf L c):(Zg L i).1≠c:=by
 have B:i<L.length:=aE h (kL L c);have D:=List.not_of_lt_findIdx (p:=fun x:fA=>decide (x.1=c)) (xs:=L) (i:=i) h;have e:=xI B;rw[af B]at e;rw[au e]at D;exact of_decide_eq_false D
def Je.held (m:Je)(c:Int):Option Je:=if Yf m.L c<m.L.length then ac m else if 12<=m.L.length then av else ac ⟨m.name,m.L++ [(c,[],ae)]⟩
def Je.out (m:Je)(x:Zb)(kind:BA)(shut:Bool)(L:List Yb):Zb:=⟨m.name,x.from_,kind,x.key,x.op,x.config,shut,L⟩
def Je.put (m:Je)(i:Nat)(h:List Yh×Bool):Je:=⟨m.name,m.L.set i ((Zg m.L i).1,h)⟩
def Je.cG (m:Je)(i:Nat)(x:Zb):Je×List Zb :=
 if x.kind=ZW then(m,[m.out x pU (Zg m.L i).2.2 (Xc (Zg m.L i).2.1 x.key)])
 else if x.kind=Q3 then(m.put i ((Zg m.L i).2.1,T),[m.out x o9 ae (Xc (Zg m.L i).2.1 x.key)])
 else(m.put i ((Qt (Zg m.L i).2.1 (Zg m.L i).2.2 x.key (Xd x.L 0)).2,(Zg m.L i).2.2),if 0<(Qt (Zg m.L i).2.1 (Zg m.L i).2.2 x.key (Xd x.L 0)).1/\(Qt (Zg m.L i).2.1 (Zg m.L i).2.2 x.key (Xd x.L 0)).1≠10 then []else [m.out x nK (decide (0<(Qt (Zg m.L i).2.1 (Zg m.L i).2.2 x.key (Xd x.L 0)).1)) []])
def Je.off (m:Je)(x:Zb):Prop:=x.aP≠m.name∨x.config<0∨Jo x.key=ae
def kT (x:Zb):Prop:=x.kind≠ZW/\x.kind≠Q3/\(x.kind≠Y3∨x.L.length≠1)
instance (m:Je) (x:Zb):Decidable (m.off x):=by unfold Je.off;infer_instance
instance (x:Zb):Decidable (kT x):=by unfold kT;infer_instance
def Je.aD (m:Je)(x:Zb):Je×List Zb :=
 if m.off x∨kT x then(m,[])
 else match m.held x.config with
  |none=>(m,[])
  |some m1=>m1.cG (Yf m.L x.config) x
theorem ZH (m:Je)(i:Nat)(h:List Yh×Bool):(m.put i h).L.length=m.L.length:=az ..
theorem mC {m:Je}(B:i<m.L.length):Zg (m.put i h).L j=if j=i then((Zg m.L i).1,h)else Zg m.L j:=by
 unfold Je.put;unfold Zg;rw[aa,an];by_cases e:i=j
 ·subst e;rw[if_pos rfl,if_pos B,if_pos rfl];rfl
 ·rw[if_neg e,if_neg (fun h=>e h.symm),aa]
def YQ (c:Int):Prop:=-9223372036854775808<=c/\c<=9223372036854775807
structure Je.cH (m:Je):Prop where
 bO:m.L.length<=12
 held:∀i,(Zg m.L i).2.1.length<=60
 names:∀i,∀x∈(Zg m.L i).2.1,x.1.size<=16
 one:∀i j,i<m.L.length->j<m.L.length->(Zg m.L i).1=(Zg m.L j).1->i=j
 ints:∀i,i<m.L.length->YQ (Zg m.L i).1
theorem tG {L:List fA}(h:L.length<=i):Zg L i=(0,[],ae):=by
 unfold Zg;rw[aa,zf h];rfl
theorem Je.cH.nil (name:BA):Je.cH ⟨name,[]⟩ :=
 ⟨aN _,fun i=>by rw[tG (aN _)];exact aN _,fun i x D=>(by rw[tG (aN _)]at D;cases D),fun i _ B _ _=>absurd B (bf _),fun i B=>absurd B (bf _)⟩
theorem UB {L:List fA}(h:∀i,i<L.length->(Zg L i).1≠c):¬Yf L c<L.length:=fun B=>h _ B (nO B)
theorem QI (L:List fA)(x:fA)(i:Nat):Zg (L++ [x]) i=if i<L.length then Zg L i else if i=L.length then x else(0,[],ae):=by
 unfold Zg;rw[aa,aa];split
 ·rename_i h;rw[zb h]
 ·rename_i h;split
  ·rename_i e;rw[e,za nR,bi];rfl
  ·rw[zf (by rw[ak];show L.length+1<=i;omega)];rfl
theorem CK {L:List Yh}{key:BA}{v:Yb}:∀(m i:Nat),Jx L key v i m=0->L.length<60
 |0,i,h=>by
  have B:(if 60<=L.length then(7:Int)else 0)=0:=h;by_cases D:60<=L.length
  ·rw[if_pos D]at B;cases B
  ·omega
 |m+1,i,h=>by
  have B:(if Z5 (Yy L i) key v then(if(Yy L i).2=v then(-1:Int)else 6)else Jx L key v (i+1) m)=0:=h;split at B
  ·split at B<;>cases B
  ·exact CK m (i+1) B
theorem FY {s:Bool}(O:L.length<=60)(I:∀x∈L,x.1.size<=16)(U:Jo key=T):(Qt L s key v).2.length<=60/\∀x∈(Qt L s key v).2,x.1.size<=16:=by
 unfold Qt;split
 ·rename_i B;have Z:L.length<60:=by
   unfold Ju at B;split at B
   ·cases B
   ·split at B
    ·exact CK _ _ B
    ·cases B
  refine⟨?_,fun x J=>?_⟩
  ·show(L.take _++ [(key,v)]++L.drop _).length<=60;rw[ak,ak,bd,List.length_drop];show min _ _+1+_<=60;omega
  ·have K:x∈L.take (QA L key v)++ [(key,v)]++L.drop (QA L key v):=J;rcases ag.1 K with D|D
   ·rcases ag.1 D with H|H
    ·exact I x (ao H)
    ·rw[ab.1 H];exact(QF U).2
   ·exact I x (aW D)
 ·split<;>exact⟨O,I⟩
theorem Je.cH.iD {m O:Je}(h:m.cH)(a2:YQ c)(e:m.held c=ac O):O.cH/\Yf m.L c<O.L.length:=by
 unfold Je.held at e;split at e
 ·rename_i Z;rw[<-au e];exact⟨h,Z⟩
 ·rename_i a3;split at e
  ·cases e
  ·rename_i a4;rw[<-au e];have a5:=kL m.L c;have U:∀i,i<m.L.length->(Zg m.L i).1≠c:=fun i K=>Q6 (by omega)
   have H:(m.L++ [(c,([]:List Yh),ae)]).length=m.L.length+1:=by rw[ak];rfl
   refine⟨⟨by show(m.L++ [_]).length<=12;rw[H];omega,fun i=>?_,fun i x hx=>?_,fun i j K hj e=>?_,fun i K=>?_⟩,by show _<(m.L++ [_]).length;rw[H];omega⟩
   ·show(Zg (m.L++ [_]) i).2.1.length<=60;rw[QI];split
    ·exact h.held i
    ·split<;>exact aN _
   ·have I:x∈(Zg (m.L++ [(c,([]:List Yh),ae)]) i).2.1:=hx;rw[QI]at I;split at I
    ·exact h.names i x I
    ·split at I<;>cases I
   ·have a0:i<m.L.length+1:=by rw[<-H];exact K
    have a6:j<m.L.length+1:=by rw[<-H];exact hj
    have D:=e;rw[QI,QI]at D;by_cases B:i<m.L.length<;>by_cases J:j<m.L.length
    ·rw[if_pos B,if_pos J]at D;exact h.one i j B J D
    ·rw[if_pos B,if_neg J,if_pos (by omega)]at D;exact absurd D (U i B)
    ·rw[if_neg B,if_pos (by omega),if_pos J]at D;exact absurd D.symm (U j J)
    ·omega
   ·have a0:i<m.L.length+1:=by rw[<-H];exact K
    show YQ (Zg (m.L++ [(c,([]:List Yh),ae)]) i).1;rw[QI];by_cases B:i<m.L.length
    ·rw[if_pos B];exact h.ints i B
    ·rw[if_neg B,if_pos (by omega)];exact a2
theorem Je.cH.kU {m:Je}(h:m.cH)(I:i<m.L.length){s:Bool}(K:L.length<=60)(O:∀x∈L,x.1.size<=16):(m.put i (L,s)).cH:=by
 have H:∀j,(Zg (m.put i (L,s)).L j).1=(Zg m.L j).1:=fun j=>by
  rw[mC I];split
  ·rename_i e;rw[e]
  ·rfl
 refine⟨by rw[ZH];exact h.bO,fun j=>?_,fun j x D=>?_,fun j k B J e=>?_,fun j B=>by rw[H];rw[ZH]at B;exact h.ints j B⟩
 ·rw[mC I];split
  ·exact K
  ·exact h.held j
 ·rw[mC I]at D;split at D
  ·exact O x D
  ·exact h.names j x D
 ·rw[ZH]at B J;rw[H,H]at e;exact h.one j k B J e
theorem Jo2 {m:Je}(h:m.cH)(x:Zb)(Z:YQ x.config):(m.aD x).1.cH:=by
 unfold Je.aD;split
 ·exact h
 ·rename_i I;have J:Jo x.key=true:=by
   cases K:Jo x.key with
   |true=>rfl
   |false=>exact absurd (ai (ah (ah K))) I
  cases O:m.held x.config with
  |none=>exact h
  |some D =>
   obtain⟨B,H⟩:=h.iD Z O;show(D.cG (Yf m.L x.config) x).1.cH;unfold Je.cG;split
   ·exact B
   ·split
    ·exact B.kU H (B.held _) (B.names _)
    ·obtain⟨a1,U⟩:=FY (s:=(Zg D.L (Yf m.L x.config)).2.2) (v:=Xd x.L 0) (B.held (Yf m.L x.config)) (B.names _) J;exact B.kU H a1 U
theorem TO (h:L.length<=60):(Xc L key).length<=60:=bj (oF L key) h
theorem OC {l:List (Int×BA)}(h:i<l.length):Ji l i=l[i]:=by
 unfold Ji;rw[aa,af h];rfl
theorem RT {B:List (Int×BA)}(a0:1<=k)(hn:n<=200)(D:B.length=k)(a2:(Xo B).Nodup)(O:∀i,i<k->(Ji B i).1.toNat<n/\(Ji B i).2=JW k s (Ji B i).1.toNat)(a3:k<=n):gB k s.size B=s:=by
 have U:(Xo B).length=k:=by unfold Xo;rw[aj];exact D
 have Z:Zj (gB k s.size B)=Zj s:=by
  rw[Jn2];refine BO (by rw[Jf,tZ]) fun p H=>?_
  rw[Jf]at H;rw[Yq _ _ p H];have hm:=FX (size:=s.size) a0;have I:0<Jk k s.size:=by
   rcases Nat.eq_zero_or_pos (Jk k s.size)with e|e
   ·rw[e,Nat.mul_zero]at hm;omega
   ·exact e
  have hq:p/Jk k s.size<k:=by rw[Nat.div_lt_iff_lt_mul I];omega
  have hr:=Nat.mod_lt p I;rw[told (X:=Xo B) (u:=gN s (Jk k s.size)) (fun j=>?_) a2 U (by omega) (fun j c=>DM s _ j c) (fun j c=>EN B j c) _ (fun i J=>?_) _ hq]
  ·unfold gN
   congr 1
   have:=Nat.mod_add_div p (Jk k s.size);rw[Nat.mul_comm (Jk k s.size)]at this;omega
  ·by_cases K:j<k
   ·rw[xP (by rw[D];exact K)];have:=(O j K).1;omega
   ·rw[F0 (by omega)];decide
  ·rw[xP (by rw[D];exact J)];unfold Z2;rw[(O i J).2];exact T9 k s _ _ hr
 rw[<-CX (gB k s.size B),Z,CX]
def gU (k:Nat)(t:Int×Int)(s:BA)(i:Nat):Yb:=⟨t.1,t.2,(s.size:Int),(i:Int),JW k s i⟩
def kS (n k:Nat)(val:Int×Int->BA)(all:List Yb):Prop:=∀v∈all,∃t i,v=gU k t (val t) i/\i<n/\k9 t.1 t.2=T/\(val t).size<=1000
theorem kS.sub {a b:List Yb}(h:kS n k val b)(D:∀v∈a,v∈b):kS n k val a:=fun v B=>h v (D v B)
theorem sG {u:Int×Int}{r:BA}(h:gU k t s i=gU k u r j):t=u/\i=j:=by
 unfold gU at h;injection h with B D H I J
 exact⟨Prod.ext B D,by omega⟩
theorem LC (D:i<n)(B:k9 t.1 t.2=T)(H:s.size<=1000):YO n k (gU k t s i)=true:=by
 unfold YO gU;dsimp only;rw[B,Bool.true_and,decide_eq_true_eq];refine⟨by omega,by omega,by omega,by omega,?_⟩;rw[show(JW k s i).size=Jk k s.size from BM k s i];simp
theorem U5 {α:Type}{P:List α->Prop}(B:P [])(D:∀l v,P l->P (l++ [v]))(l:List α):P l:=by
 have:∀r:List α,P r.reverse:=fun r=>by
  induction r with
  |nil=>exact B
  |cons a r ih=>rw[List.reverse_cons];exact D _ _ ih
 rw[<-List.reverse_reverse l];exact this _
theorem A5 (t:Int×Int):∀{all:List Yb},kS n k val all->∃Y:List Nat,Y.Nodup/\(∀i,i∈Y↔gU k t (val t) i∈all)/\(Zf n k t all).2=Y.map (fR k (val t))/\(Zf n k t all).1=if Y=[]then -1 else((val t).size:Int):=by
 intro all;refine U5 (P:=fun all=>kS n k val all->∃Y:List Nat,Y.Nodup/\(∀i,i∈Y↔gU k t (val t) i∈all)/\(Zf n k t all).2=Y.map (fR k (val t))/\(Zf n k t all).1=if Y=[]then -1 else((val t).size:Int)) ?_ ?_ all
 ·intro _;exact⟨[],zg,by simp,rfl,rfl⟩
 ·intro l v ih U;obtain⟨Y,K,I,H,Z⟩:=ih (U.sub fun u hu=>List.mem_append_left _ hu);obtain⟨u,i,B,hi,ht,hs⟩:=U v (by simp);rw[uX];by_cases e:u=t
  ·subst e;have hc:=LC (k:=k) hi ht hs;have hy:v.n=u.1/\v.who=u.2/\YO n k v=true:=by rw[B];exact⟨rfl,rfl,hc⟩
   have a0:v.size=((val u).size:Int):=by rw[B];rfl
   have O:v.at_=(i:Int):=by rw[B];rfl
   have a2:v.text=JW k (val u) i:=by rw[B];rfl
   have hz:((val u).size:Int)=if(Zf n k u l).1<0 then v.size else(Zf n k u l).1:=by
    rw[Z,a0];by_cases J:Y=[]
    ·rw[if_pos J];simp
    ·rw[if_neg J,if_neg (by omega)]
   rw[ZO hy hz];by_cases D:i∈Y
   ·refine⟨Y,K,fun j=>?_,?_,?_⟩
    ·rw[I j,ag,ab,B];constructor
     ·exact fun h=>ai h
     ·rintro(h|h)
      ·exact h
      ·obtain⟨_,rfl⟩:=sG h;exact(I j).1 D
    ·rw[if_neg]
     ·exact H
     ·rintro⟨_,h⟩;rw[H,O]at h;have:(Y.map (fR k (val u))).any (fun y=>y.1==(i:Int))=true:=List.any_eq_true.2 ⟨fR k (val u) i,aq.2 ⟨i,D,rfl⟩,by simp[fR]⟩;rw[this]at h;cases h
    ·have J:Y≠[]:=fun e=>by rw[e]at D;cases D
     rw[if_neg J]
   ·refine⟨Y++ [i],?_,fun j=>?_,?_,?_⟩
    ·rw[ba];exact⟨K,by simp,fun a ha b hb=>by rw[ab.1 hb];intro e;exact D (e▸ha)⟩
    ·rw[ag,ab,ag,ab,I j,B];constructor
     ·rintro(h|h)
      ·exact ai h
      ·rw[h];exact ah rfl
     ·rintro(h|h)
      ·exact ai h
      ·exact ah (sG h).2
    ·rw[if_pos]
     ·rw[H,List.map_append,O,a2];rfl
     ·refine⟨a0,?_⟩;rw[H,O,List.any_eq_false];intro y a3;obtain⟨j,hj,rfl⟩:=aq.1 a3;simp only[fR,beq_iff_eq];intro h;exact D (by
       have:j=i:=by omega
       exact this▸hj)
    ·exact(if_neg (List.append_ne_nil_of_right_ne_nil Y (List.cons_ne_nil i []))).symm
  ·have a4:¬(v.n=t.1/\v.who=t.2/\YO n k v=T):=by
    rw[B];rintro⟨h1,h2,_⟩;exact e (Prod.ext h1 h2)
   rw[oL a4];refine⟨Y,K,fun j=>?_,H,Z⟩;rw[I j,ag,ab,B];constructor
   ·exact fun h=>ai h
   ·rintro(h|h)
    ·exact h
    ·exact absurd (sG h).1.symm e
theorem Jtq (a3:1<=k)(hn:n<=12)(a4:k<=n)(K:kS n k val all)(h:Xp n k all t):mP n k all t=val t:=by
 obtain⟨Y,I,O,J,U⟩:=A5 t K;have D:k<=Y.length:=by unfold Xp at h;rw[J,aj]at h;exact h
 have Z:Y≠[]:=fun e=>by rw[e]at D;simp at D;omega
 unfold mP;rw[U,if_neg Z,J];have hd:((Y.map (fR k (val t))).map Prod.fst).Nodup:=by
  rw[bm];refine zd.2 (I.imp fun {a b} h e=>h ?_);have:(a:Int)=(b:Int):=e;omega
 rw[vD k _ hd _ nR,aj,Nat.min_eq_left D,<-List.map_take];have a0:∀i∈Y,i<n:=fun i B=>by
  obtain⟨u,j,hv,hj,_⟩:=K _ ((O i).1 B);obtain⟨_,rfl⟩:=sG hv;exact hj
 have H:(Y.take k).length=k:=by rw[bd];omega
 refine RT (n:=n) a3 (by omega) (by rw[aj];exact H) ?_ (fun i B=>?_) a4
 ·unfold Xo;rw[bm];refine zd.2 ((List.Nodup.sublist (List.take_sublist _ _) I).imp fun {a b} h e=>h ?_);have:((a:Int)).toNat=((b:Int)).toNat:=e;omega
 ·have a2:i<((Y.take k).map (fR k (val t))).length:=by rw[aj,H];exact B
  rw[OC a2,List.getElem_map];have hm:(Y.take k)[i]'(by rw[H];exact B)∈Y:=ao (ax _);exact⟨by show((_:Nat):Int).toNat<n;rw[aw];exact a0 _ hm,by show JW k (val t) _=JW k (val t) (((_:Nat):Int)).toNat;rw[aw]⟩
theorem Jsl (I:kS n k val all){Y:List Nat}(J:Y.Nodup)(K:∀i∈Y,gU k t (val t) i∈all)(O:k<=Y.length):Xp n k all t:=by
 obtain⟨Z,U,B,D,_⟩:=A5 t I;unfold Xp;rw[D,aj];exact bj O (YS J fun i H=>(B i).2 (K i H))
theorem EO {P:Int×Int->Prop}:∀(l:List (Int×Int)),(∃t∈l,P t)->∃m∈l,P m/\∀u∈l,P u->Qd m u=ae
 | [],h=>by obtain⟨t,I,_⟩:=h;cases I
 |x::r,h=>by
  by_cases K:∃t∈r,P t
  ·obtain⟨m,Z,J,U⟩:=EO r K;by_cases O:P x/\Qd m x=T
   ·refine⟨x,by simp,O.1,fun u B H=>?_⟩;rcases ar.1 B with e|B
    ·rw[e];cases D:Qd x x with|false=>rfl|true=>rw[X8]at D;omega
    ·cases D:Qd x u with
     |false=>rfl
     |true=>have:=yQ O.2 D;rw[U u B H]at this;cases this
   ·refine⟨m,ay _ Z,J,fun u B H=>?_⟩;rcases ar.1 B with e|B
    ·subst e;cases D:Qd m u with
     |false=>rfl
     |true=>exact absurd ⟨H,D⟩ O
    ·exact U u B H
  ·obtain⟨t,I,J⟩:=h;rcases ar.1 I with e|I
   ·subst e;refine⟨t,by simp,J,fun u B H=>?_⟩;rcases ar.1 B with e|B
    ·rw[e];cases D:Qd t t with|false=>rfl|true=>rw[X8]at D;omega
    ·exact absurd ⟨u,B,H⟩ K
   ·exact absurd ⟨t,I,J⟩ K
theorem Jsm (D:1<=k)(h:Xp n k all t):∃m,Xp n k all m/\∀u,Xp n k all u->Qd m u=false:=by
 obtain⟨v,H,I⟩:=nZ D h;obtain⟨m,_,J,K⟩:=EO (P:=Xp n k all) (all.map fun v=>(v.n,v.who)) ⟨t,aq.2 ⟨v,H,I⟩,h⟩;refine⟨m,J,fun u B=>?_⟩;obtain⟨x,O,U⟩:=nZ D B;exact K u (aq.2 ⟨x,O,U⟩) B
theorem MS (H:1<=k)(K:n<=12)(O:k<=n)(U:kS n k val all):
 (Ys n k all all=((0,0),⟨#[]⟩,ae)/\∀t,¬Xp n k all t)∨∃t,Ys n k all all=(t,val t,T)/\Xp n k all t/\∀u,Xp n k all u->Qd t u=false:=by
 by_cases h:∃t,Xp n k all t
 ·obtain⟨t,B⟩:=h;obtain⟨m,D,I⟩:=Jsm H B;exact ah ⟨m,by rw[IS H D I,Jtq H K O U D],D,I⟩
 ·exact ai ⟨GP fun v _ J=>h ⟨_,J⟩,fun t B=>h ⟨t,B⟩⟩
structure Ev where
 who:Int
 put:Bool
 found:Bool
 tag:Int×Int
 text:BA
 from_:Int
 aP:Int
def wX:BA:=⟨#[120]⟩
def J8:BA:=⟨#[109,111,118,101,114]⟩
def QW (i:Nat):BA:=⟨#[99]⟩++Jp [48+i]
def YN (s:BA):Option Nat:=(bx 6).find? fun i=>decide (s=QW i)
structure Ya where
 L:List Zb
 nodes:List (Je×Bool)
 asks:List (Option Za)
 since:List Int
 texts:List BA
 mover:Option Za
 aB:List Xg
 aC:Nat
 ops:Int
 aA:Int
 events:List Ev
def aG (l:List Xg)(i:Nat):Xg:=l.getD i ⟨0,0,[]⟩
def Xf (l:List (Option Za))(i:Nat):Option Za:=l.getD i av
def Qe (l:List (Je×Bool))(s:BA):Nat:=l.findIdx fun x=>decide (x.1.name=s)
def Jc (l:List (Je×Bool))(i:Nat):Je×Bool:=l.getD i (⟨⟨#[]⟩,[]⟩,ae)
def Ya.send (w:Ya)(l:List Zb):Ya:={w with L:=w.L++l.take (120-w.L.length)}
def YA (who:Nat)(op:Int)(config:Nat)(c:Xg)(put:Bool)(text:BA):Za:=⟨QW who,wX,who,op,config,c,⟨0,0,[]⟩,put,ae,.looking,[],[],(0,0),if put then text else⟨#[]⟩,ae⟩
def Ya.begin (w:Ya)(who:Nat)(put:Bool):Ya :=
 Ya.send {w with asks:=w.asks.set who (ac (YA who w.ops w.aC (aG w.aB w.aC) put (Yc w.texts who))),ops:=w.ops+1} (YA who w.ops w.aC (aG w.aB w.aC) put (Yc w.texts who)).begin
def Ya.open_ (w:Ya)(who:Int)(put:Bool)(text:BA):Ya×Int :=
 if who<0∨6<=who∨1000<text.size then(w,2)
 else if(Xf w.asks who.toNat).isSome then(w,11)
 else(Ya.begin {w with since:=w.since.set who.toNat w.aA,texts:=w.texts.set who.toNat text} who.toNat put,0)
def Ya.off (w:Ya)(i:Nat):Ya:={w with L:=w.L.eraseIdx i}
def Ya.after (w:Ya)(who:Nat)(a:Za):Ya :=
 match a.st with
 | .done=>{w with events:=w.events++ [⟨who,a.put,a.found,if a.found then a.tag else(0,0),if a.found then a.text else⟨#[]⟩,w.since.getD who 0,w.aA⟩],asks:=w.asks.set who av}
 | .refused=>if a.config<w.aC then w.begin who a.put else w
 |_=>w
def Ya.aD (w:Ya)(who:Nat)(m:Zb):Ya :=
 match Xf w.asks who with
 |none=>w
 |some a=>(Ya.send {w with asks:=w.asks.set who (ac (a.aD m).1)} (a.aD m).2).after who (a.aD m).1
def Ya.aI (w:Ya)(m:Zb):Ya :=
 match w.mover with
 |none=>w
 |some a =>
  let w1:=w.send (a.aD m).2
  {w1 with aC:=if(a.aD m).1.st=.done then w1.aB.length-1 else w1.aC,mover:=if(a.aD m).1.st=.done∨(a.aD m).1.st=.refused then av else ac (a.aD m).1}
def Ya.node (w:Ya)(m:Zb):Ya :=
 if Qe w.nodes m.aP<w.nodes.length/\(Jc w.nodes (Qe w.nodes m.aP)).2=T then
  Ya.send {w with nodes:=w.nodes.set (Qe w.nodes m.aP) (((Jc w.nodes (Qe w.nodes m.aP)).1.aD m).1,T)} ((Jc w.nodes (Qe w.nodes m.aP)).1.aD m).2
 else w
def Yg (l:List Zb)(i:Nat):Zb:=l.getD i ⟨⟨#[]⟩,⟨#[]⟩,⟨#[]⟩,⟨#[]⟩,0,0,ae,[]⟩
def Ya.aR (w:Ya)(i:Int):Ya×Int :=
 if i<0∨(w.L.length:Int)<=i then(w,5)
 else
  let w1:={w.off i.toNat with aA:=w.aA+1}
  (match YN (Yg w.L i.toNat).aP with
   |some who=>w1.aD who (Yg w.L i.toNat)
   |none=>if(Yg w.L i.toNat).aP=J8 then w1.aI (Yg w.L i.toNat)else w1.node (Yg w.L i.toNat),0)
def Ya.drop (w:Ya)(i:Int):Ya×Int:=if i<0∨(w.L.length:Int)<=i then(w,5)else(w.off i.toNat,0)
def Ya.bC (w:Ya)(i:Int):Ya×Int :=
 if i<0∨(w.L.length:Int)<=i then(w,5)
 else if 120<=w.L.length then(w,7)
 else({w with L:=w.L.take (i.toNat+1)++ [Yg w.L i.toNat]++w.L.drop (i.toNat+1)},0)
def Ya.set (w:Ya)(s:BA)(up:Bool):Ya×Int:=if Qe w.nodes s<w.nodes.length then({w with nodes:=w.nodes.set (Qe w.nodes s) ((Jc w.nodes (Qe w.nodes s)).1,up)},0)else(w,5)
def pQ:BA:=⟨#[105,100,108,101]⟩
def Ya.state (w:Ya)(who:Int):BA:=if who<0∨6<=who then pQ else match Xf w.asks who.toNat with|none=>pQ|some a=>a.st.word
def Ya.again (w:Ya)(who:Int):Ya×Int :=
 if who<0∨6<=who then(w,2)
 else match Xf w.asks who.toNat with
  |none=>(w,5)
  |some a=>if a.st=.looking then(w.send a.begin,0)else(w,5)
def Ya.a8 (w:Ya)(who:Int):Ya×Int :=
 if who<0∨6<=who then(w,2)
 else match Xf w.asks who.toNat with
  |none=>(w,5)
  |some a=>if a.st=.refused then(if(w.aC:Int)<=a.config then(w,10)else(w.begin who.toNat a.put,0))else(w,5)
def Ya.eX (w:Ya)(l:List BA):Ya:=l.foldl (fun w s=>if Qe w.nodes s<w.nodes.length then w else {w with nodes:=w.nodes++ [(⟨s,[]⟩,T)]}) w
section
abbrev JC:=Int×Int
structure XS (n k:Nat) (c:Xg):Prop where
 n_:c.n=n
 k_:c.k=k
 k1:1<=k
 kn:k<=n
 n12:n<=12
 len:c.L.length=n
 nodup:c.L.Nodup
def jP (c:Xg)(Q:List BA):Prop:=Q.Nodup/\(∀x∈Q,x∈c.L)/\Jh c<=Q.length
theorem GD {c:Xg}{P Q:List BA}(h:XS n k c)(I:jP c P)(J:jP c Q):∃Y:List BA,Y.Nodup/\(∀x∈Y,x∈P/\x∈Q)/\k<=Y.length:=by
 refine⟨wC c.L P Q,h.nodup.filter _,fun x B=>?_,?_⟩
 ·unfold wC at B;rw[List.mem_filter,al,Zl,Zl]at B;exact B.2
 ·have K:=JkZ (L:=c.L) (P:=fun x=>Xu P x) (Q:=fun x=>Xu Q x);rw[FG h.nodup I.1 I.2.1,FG h.nodup J.1 J.2.1]at K;have D:=I.2.2;have H:=J.2.2;unfold Jh at D H;rw[h.n_,h.k_]at D H;simp only[aw]at D H;have O:=h.len;have U:=h.kn;unfold wC;omega
def Yv (F:List BA)(L:List (List Yb))(x:BA):List Yb:=L.getD (ZJ F x) []
theorem GL {L:List (List Yb)}{y:BA}{l:List Yb}(D:F.length=L.length)(B:y∈F):Yv (F++ [x]) (L++ [l]) y=Yv F L y:=by
 unfold Yv;rw[GF B,aa,zb (by rw[<-D];exact lM B),<-aa]
theorem AI {L:List (List Yb)}{l:List Yb}(B:F.length=L.length)(D:x∉F):Yv (F++ [x]) (L++ [l]) x=l:=by
 unfold Yv;rw[D4 D,B,aa,za nR,bi];rfl
theorem qY {F:List BA}{L:List (List Yb)}{v:Yb}:∀{ms:List BA},v∈(Xq F L ms).flatten↔∃x∈ms,x∈F/\v∈Yv F L x
 | []=>by simp[Xq]
 |m::r=>by
  unfold Xq;by_cases h:Xu F m=T
  ·rw[if_pos h,List.flatten_cons,ag,qY (ms:=r)];constructor
   ·rintro(D|⟨x,B,D⟩)
    ·exact⟨m,by simp,Zl.1 h,D⟩
    ·exact⟨x,ay _ B,D⟩
   ·rintro⟨x,B,D,H⟩;rcases ar.1 B with rfl|B
    ·exact ai H
    ·exact ah ⟨x,B,D,H⟩
  ·rw[if_neg h,qY (ms:=r)];constructor
   ·rintro⟨x,B,D⟩;exact⟨x,ay _ B,D⟩
   ·rintro⟨x,B,D,H⟩;rcases ar.1 B with rfl|B
    ·exact absurd (Zl.2 D) h
    ·exact⟨x,B,D,H⟩
def iQ (n k:Nat)(c:Xg)(W:JC->BA->Prop)(x:BA)(v:Yb):Prop:=∃t s p,v=gU k t s p/\p<n/\Yc c.L p=x/\W t s
structure qD (W:JC->BA->Prop):Prop where
 one:∀t s r,W t s->W t r->s=r
 tag:∀t s,W t s->k9 t.1 t.2=T
 bO:∀t s,W t s->s.size<=1000
open Classical in
noncomputable def valOf (W:JC->BA->Prop) (t:JC):BA:=if h:∃s,W t s then h.choose else⟨#[]⟩
theorem tE {W:JC->BA->Prop}(h:qD W){t:JC}(D:W t s):valOf W t=s:=by
 unfold valOf;have B:∃s,W t s:=⟨s,D⟩;rw[dif_pos B];exact h.one t _ _ B.choose_spec D
theorem uJ {c:Xg}{W:JC->BA->Prop}(h:iQ n k c W x v):∃s p,v=gU k (v.n,v.who) s p/\p<n/\Yc c.L p=x/\W (v.n,v.who) s:=by
 obtain⟨t,s,p,B,D,H,I⟩:=h;have:(v.n,v.who)=t:=by rw[B];rfl
 rw[this];exact⟨s,p,B,D,H,I⟩
section
variable {n k:Nat} {c:Xg} {W:JC->BA->Prop} {F:List BA} {L:List (List Yb)}
theorem AJ (D:qD W)(O:∀x∈F,∀v∈Yv F L x,iQ n k c W x v):kS n k (valOf W) (Xq F L c.L).flatten:=by
 intro v H;obtain⟨x,_,I,J⟩:=qY.1 H;obtain⟨t,s,p,e,K,_,B⟩:=O x I v J;exact⟨t,p,by rw[tE D B];exact e,K,D.tag t s B,by rw[tE D B];exact D.bO t s B⟩
theorem BK (K:XS n k c)(O:qD W)(H:∀x∈F,x∈c.L)(U:∀x∈F,∀v∈Yv F L x,iQ n k c W x v){t:JC}{Y:List BA}(hY:Y.Nodup)(B:∀x∈Y,x∈F)(hl:k<=Y.length)(ht:∀x∈Y,∃v∈Yv F L x,(v.n,v.who)=t):Xp n k (Xq F L c.L).flatten t:=by
 have Z:=AJ (c:=c) O U;refine Jsl Z (Y:=Y.map (ZJ c.L)) ?_ (fun i hi=>?_) (by rw[aj];exact hl)
 ·refine zd.2 (hY.imp_of_mem fun {a b} ha hb h e=>h ?_);have h1:=tH (H a (B a ha));have h2:=tH (H b (B b hb));rw[<-h1,<-h2];simp only[e]
 ·obtain⟨x,D,rfl⟩:=aq.1 hi;obtain⟨v,I,a0⟩:=ht x D;obtain⟨s,p,e,hp,a2,J⟩:=uJ (U x (B x D) v I);rw[a0]at e J;have a3:ZJ c.L x=p:=by
   rw[<-a2,Xk c.L p (by rw[K.len];exact hp)];exact vU K.nodup _
  rw[tE O J,a3,<-e];exact qY.2 ⟨x,H x (B x D),B x D,I⟩
theorem BP (B:XS n k c)(H:qD W)(hF:jP c F)(I:∀x∈F,∀v∈Yv F L x,iQ n k c W x v):
 (Ys n k (Xq F L c.L).flatten (Xq F L c.L).flatten=((0,0),⟨#[]⟩,ae)/\∀t,¬∃Y:List BA,Y.Nodup/\(∀x∈Y,x∈F)/\k<=Y.length/\∀x∈Y,∃v∈Yv F L x,(v.n,v.who)=t) ∨
 ∃t s,Ys n k (Xq F L c.L).flatten (Xq F L c.L).flatten=(t,s,T)/\W t s/\∀u,(∃Y:List BA,Y.Nodup/\(∀x∈Y,x∈F)/\k<=Y.length/\∀x∈Y,∃v∈Yv F L x,(v.n,v.who)=u)->Qd t u=false:=by
 have hg:=AJ (c:=c) H I;rcases MS B.k1 B.n12 B.kn hg with⟨D,J⟩|⟨t,D,J,h3⟩
 ·exact ai ⟨D,fun t ⟨Y,K,O,U,Z⟩=>J t (BK B H hF.2.1 I K O U Z)⟩
 ·obtain⟨v,a0,a2⟩:=nZ B.k1 J;obtain⟨x,_,hx,h4⟩:=qY.1 a0;obtain⟨s,p,e,hp,a3,hw⟩:=uJ (I x hx v h4);rw[a2]at hw;rw[tE H hw]at D;exact ah ⟨t,s,D,hw,fun u ⟨Y,K,O,U,Z⟩=>h3 u (BK B H hF.2.1 I K O U Z)⟩
end
theorem IM {L:List (List Yb)}(J:F.Nodup)(K:F.length=L.length):v∈L.flatten↔∃x∈F,v∈Yv F L x:=by
 rw[List.mem_flatten];constructor
 ·rintro⟨l,D,B⟩;obtain⟨i,H,rfl⟩:=List.getElem_of_mem D;refine⟨F[i]'(by omega),ax _,?_⟩;unfold Yv;rw[vU J (by omega),aa,af H];exact B
 ·rintro⟨x,I,B⟩;have:=lM I;unfold Yv at B;rw[aa,af (by omega)]at B;exact⟨_,ax _,B⟩
theorem OF (h:v∈LL.flatten)(B:v.n<=1099511627776):v.n<=XF LL:=(Q5 LL.flatten 0 (am _)).1 v h B
theorem SX {b:Int}(D:0<=b)(h:∀v∈LL.flatten,v.n<=b):XF LL<=b:=by
 rcases(Q5 LL.flatten 0 (am _)).2 with e|⟨v,B,e,_⟩
 ·show LL.flatten.foldl Yk 0<=b;omega
 ·have:=h v B;show LL.flatten.foldl Yk 0<=b;omega
end
def Qn (m:Je)(c:Int):List Yb×Bool:=(Xc (Zg m.L (Yf m.L c)).2.1 wX,(Zg m.L (Yf m.L c)).2.2)
theorem GG {L:List Yh}{key:BA}{v:Yb}:∀(m i:Nat),i+m=L.length->Jx L key v i m<0->v∈Xc L key
 |0,i,_,h=>by
  unfold Jx at h;split at h<;>omega
 |m+1,i,hi,h=>by
  unfold Jx at h;split at h
  ·rename_i B;split at h
   ·rename_i D;have H:=Q0 (L:=L) (i:=i) (by omega);unfold Z5 at B;rw[al,al,decide_eq_true_eq]at B;rw[YJ];have:Yy L i∈L:=List.mem_of_getElem? H;have e:Yy L i=(key,v):=Prod.ext B.1.1 D;rw[<-e];exact this
   ·omega
  ·exact GG m (i+1) (by omega) h
theorem Jmw {s:Bool}(h:Ju L s key v<0):v∈Xc L key:=by
 unfold Ju at h;split at h
 ·omega
 ·split at h
  ·split at h
   ·exact GG _ _ (by omega) h
   ·omega
  ·omega
theorem Jmx {s:Bool}(h:Ju L s key v=10):s=true:=by
 have B:∀(m i:Nat),Jx L key v i m≠10:=by
  intro m
  induction m with
  |zero=>intro i h;unfold Jx at h;split at h<;>omega
  |succ m ih =>
   intro i h;unfold Jx at h;split at h
   ·split at h<;>omega
   ·exact ih _ h
 unfold Ju at h;split at h
 ·assumption
 ·split at h
  ·split at h
   ·exact absurd h (B _ _)
   ·omega
  ·omega
theorem S8 :Ju L T key v=10:=rfl
theorem SC {L:List fA}(c:Int):Yf (L.set i ((Zg L i).1,h)) c=Yf L c:=by
 have H:(L.set i ((Zg L i).1,h)).map Prod.fst=L.map Prod.fst:=by
  rw[zj];by_cases B:i<L.length
  ·have e:=xI B;rw[af B]at e;rw[<-au e];refine bc fun j=>?_
   rw[an];split
   ·rename_i I;subst I;simp[B]
   ·rfl
  ·rw[ze (by rw[aj];omega)]
 have D:∀M:List fA,Yf M c=(M.map Prod.fst).findIdx fun x=>decide (x=c):=fun M=>by
  unfold Yf;rw[be];rfl
 rw[D,D,H]
theorem Jsh {m:Je}(D:Yf m.L c<m.L.length)(d:Int):Qn (m.put (Yf m.L c) h) d=if d=c then(Xc h.1 wX,h.2)else Qn m d:=by
 unfold Qn;rw[mC D];have e:Yf (m.put (Yf m.L c) h).L d=Yf m.L d:=SC d;rw[e];by_cases B:d=c
 ·subst B;rw[if_pos rfl,if_pos rfl]
 ·rw[if_neg B,if_neg];intro H;have J:=nO D;have K:Yf m.L d<m.L.length:=by rw[H];exact D
  have I:=nO K;rw[H,J]at I;exact B I.symm
theorem K5 {m m1:Je}(h:m.held c=ac m1):m1.name=m.name/\Yf m1.L c=Yf m.L c/\Yf m.L c<m1.L.length/\∀d,Qn m1 d=Qn m d:=by
 unfold Je.held at h;split at h
 ·rename_i D;cases h;exact⟨rfl,rfl,D,fun _=>rfl⟩
 ·rename_i D;split at h
  ·cases h
  ·cases h;have K:=kL m.L c;have H:Yf m.L c=m.L.length:=by omega
   have I:∀d,Yf (m.L++ [(c,[],ae)]) d=if Yf m.L d<m.L.length then Yf m.L d else if c=d then m.L.length else m.L.length+1:=fun d=>by
    unfold Yf;rw[List.findIdx_append];split
    ·rfl
    ·by_cases B:c=d
     ·rw[if_pos B,bb,B];simp
     ·rw[if_neg B,bb];simp[B];omega
   refine⟨rfl,?_,?_,fun d=>?_⟩
   ·show Yf (m.L++ [(c,[],ae)]) c=_;rw[I c,if_neg D,if_pos rfl,H]
   ·show _<(m.L++ [(c,[],ae)]).length;rw[ak,H];simp
   ·unfold Qn;show(Xc (Zg (m.L++ [(c,[],ae)]) (Yf (m.L++ [(c,[],ae)]) d)).2.1 wX,(Zg (m.L++ [(c,[],ae)]) (Yf (m.L++ [(c,[],ae)]) d)).2.2)=_;rw[QI,I d];by_cases B:Yf m.L d<m.L.length
    ·rw[if_pos B,if_pos B]
    ·have O:Yf m.L d=m.L.length:=by have:=kL m.L d;omega
     have J:Zg m.L (Yf m.L d)=(0,[],ae):=tG (by omega);rw[if_neg B,J];by_cases e:c=d
     ·rw[if_pos e,if_neg (by omega),if_pos rfl]
     ·rw[if_neg e,if_neg (by omega),if_neg (by omega)]
inductive MemDoes (m:Je) (x:Zb) (m':Je) (out:List Zb):Prop where
 |none (h:out=[]) (hs:∀d,Qn m' d=Qn m d)
 |look (hk:x.kind=ZW) (h:out=[m.out x pU (Qn m x.config).2 (Qn m x.config).1]) (hs:∀d,Qn m' d=Qn m d)
 |shut (hk:x.kind=Q3) (h:out=[m.out x o9 ae (Qn m x.config).1]) (hs:∀d,Qn m' d=if d=x.config then((Qn m x.config).1,T)else Qn m d)
 |dJ (hk:x.kind=Y3) (h:out=[m.out x nK T []]) (ho:(Qn m x.config).2=T) (hs:∀d,Qn m' d=Qn m d)
 |aS (v:Yb) (hk:x.kind=Y3) (hv:x.L=[v]) (h:out=[m.out x nK ae []]) (hs:∀d,d≠x.config->Qn m' d=Qn m d) (h2:(Qn m' x.config).2=(Qn m x.config).2) (h3:∀u,u∈(Qn m' x.config).1↔u∈(Qn m x.config).1∨u=v) (h4:(Qn m x.config).2=T->(Qn m' x.config).1=(Qn m x.config).1)
theorem UG (m:Je)(x:Zb)(hx:x.key=wX):(m.aD x).1.name=m.name/\MemDoes m x (m.aD x).1 (m.aD x).2:=by
 unfold Je.aD;by_cases Z:m.off x∨kT x
 ·rw[if_pos Z];exact⟨rfl,.none rfl fun _=>rfl⟩
 ·rw[if_neg Z];cases hh:m.held x.config with
  |none=>exact⟨rfl,.none rfl fun _=>rfl⟩
  |some m1 =>
   obtain⟨K,h2,h3,h4⟩:=K5 hh;have hm:Qn m x.config=(Xc (Zg m1.L (Yf m.L x.config)).2.1 wX,(Zg m1.L (Yf m.L x.config)).2.2):=by
    rw[<-h4 x.config];unfold Qn;rw[h2]
   have B:Xc (Zg m1.L (Yf m.L x.config)).2.1 wX=(Qn m x.config).1:=by rw[hm]
   have a2:(Zg m1.L (Yf m.L x.config)).2.2=(Qn m x.config).2:=by rw[hm]
   have H:∀kind shut L,m1.out x kind shut L=m.out x kind shut L:=fun kind shut L=>by unfold Je.out;rw[K]
   have I:∀h d,Qn (m1.put (Yf m.L x.config) h) d=if d=x.config then(Xc h.1 wX,h.2)else Qn m d:=fun h d=>by
    have:=Jsh (m:=m1) (c:=x.config) (h:=h) (by rw[h2];exact h3) d;rw[h2]at this;rw[this,h4 d]
   show(m1.cG (Yf m.L x.config) x).1.name=m.name/\MemDoes m x (m1.cG (Yf m.L x.config) x).1 (m1.cG (Yf m.L x.config) x).2;unfold Je.cG;by_cases k1:x.kind=ZW
   ·rw[if_pos k1];refine⟨K,.look k1 ?_ h4⟩;show [m1.out x pU _ _]=_;rw[H,hx,B,a2]
   ·rw[if_neg k1];by_cases J:x.kind=Q3
    ·rw[if_pos J];refine⟨K,.shut J ?_ fun d=>?_⟩
     ·show [m1.out x o9 _ _]=_;rw[H,hx,B]
     ·show Qn (m1.put _ _) d=_;rw[I];split
      ·rw[B]
      ·rfl
    ·rw[if_neg J];have a0:¬kT x:=fun h=>Z (ah h)
     have O:x.kind=Y3/\x.L.length=1:=by
      unfold kT at a0;constructor
      ·exact Classical.byContradiction fun h=>a0 ⟨k1,J,ai h⟩
      ·exact Classical.byContradiction fun h=>a0 ⟨k1,J,ah h⟩
     obtain⟨v,hv⟩:∃v,x.L=[v]:=by
      have:=O.2
      match hL:x.L,this with
      | [v],_=>exact⟨v,rfl⟩
     have a3:Xd x.L 0=v:=by rw[hv];rfl
     rw[a3,hx,a2];refine⟨K,?_⟩;have D:∀d,Qn (m1.put (Yf m.L x.config) ((Zg m1.L (Yf m.L x.config)).2.1,(Qn m x.config).2)) d=Qn m d:=fun d=>by
      rw[I];split
      ·rename_i e;rw[B,e]
      ·rfl
     unfold Qt;by_cases e0:Ju (Zg m1.L (Yf m.L x.config)).2.1 (Qn m x.config).2 wX v=0
     ·rw[if_pos e0];have a4:(Qn m x.config).2=false:=by
       cases hb:(Qn m x.config).2 with
       |false=>rfl
       |true=>rw[hb,S8]at e0;omega
      refine .aS v O.1 hv ?_ (fun d hd=>?_) ?_ (fun u=>?_) (fun h=>?_)
      ·dsimp only;rw[if_neg (by omega),H];rfl
      ·rw[I,if_neg hd]
      ·rw[I,if_pos rfl]
      ·rw[I,if_pos rfl];show u∈Xc (XK _ wX v) wX↔_;rw[YJ,EH,<-YJ,B];constructor
       ·rintro(h|h)
        ·exact ai h
        ·exact ah (Prod.mk.inj h).2
       ·rintro(h|h)
        ·exact ai h
        ·exact ah (by rw[h])
      ·rw[a4]at h;cases h
     ·rw[if_neg e0];by_cases e1:Ju (Zg m1.L (Yf m.L x.config)).2.1 (Qn m x.config).2 wX v<0
      ·rw[if_pos e1];refine .aS v O.1 hv ?_ (fun d _=>D d) (by rw[D]) (fun u=>?_) (fun _=>by rw[D])
       ·dsimp only;rw[if_neg (by omega),H];rfl
       ·rw[D];have:=Jmw e1;rw[B]at this;constructor
        ·exact fun h=>ai h
        ·rintro(h|h)
         ·exact h
         ·rw[h];exact this
      ·rw[if_neg e1];by_cases U:Ju (Zg m1.L (Yf m.L x.config)).2.1 (Qn m x.config).2 wX v=10
       ·refine .dJ O.1 ?_ (Jmx U) D;dsimp only;rw[if_neg (fun h=>h.2 U),H,U];rfl
       ·refine .none ?_ D;dsimp only;rw[if_pos ⟨by omega,U⟩]
section
structure Gh where
 W:Nat->JC->BA->Prop
 cZ:Nat->Option (JC×BA)
 cn:Nat
 cl:Nat->Nat
 cf:Int->Nat
 own:Int->Option Nat
 sn:Int->BA->JC->Prop
 wt:Int->Option JC
abbrev fX:=BA->Nat->List Yb×Bool
def fW (H:fX)(x:BA)(j:Nat)(t:JC):Prop:=∃v∈(H x j).1,(v.n,v.who)=t
def fT (C:List Xg)(H:fX)(j:Nat)(t:JC):Prop:=∃Q,jP (aG C j) Q/\∀x∈Q,fW H x j t
def ZV (C:List Xg)(G:Gh)(o:Int)(t:JC):Prop:=∃Q,jP (aG C (G.cf o)) Q/\∀x∈Q,G.sn o x t
def uR (k:Nat)(H:fX)(j:Nat)(S:List BA)(u:JC):Prop:=∃Y:List BA,Y.Nodup/\(∀x∈Y,x∈S)/\k<=Y.length/\∀x∈Y,fW H x j u
structure YH (n k:Nat) (C:List Xg) (H:fX) (G:Gh) (act:Nat) (B:Int):Prop where
 iL:∀j,j<C.length->XS n k (aG C j)
 held:∀x j v,v∈(H x j).1->j<C.length/\iQ n k (aG C j) (G.W j) x v
 shut:∀x j,(H x j).2=T->j+1<C.length
 one:∀j t s r,G.W j t s->G.W j t r->s=r
 size:∀j t s,G.W j t s->s.size<=1000
 fV:∀j t s,G.W j t s->j<C.length
 num:∀j t s,G.W j t s->0<=t.1/\t.1<=B/\0<=t.2/\t.2<6
 low:∀j t s c,G.W j t s->G.cZ j=ac c->Qd t c.1=ae
 fH:G.cZ 0=av
 dM:∀j c,G.cZ (j+1)=ac c->G.W (j+1) c.1 c.2/\G.W j c.1 c.2
 dL:∀j c,j<=act->G.cZ j=ac c->fT C H j c.1
 eI:∀j,j<G.cn->∃S,jP (aG C j) S/\(∀x∈S,(H x j).2=T)/\∀u,uR k H j S u->∃c,G.cZ (j+1)=ac c/\Qd c.1 u=ae
 cI:act<=G.cn/\act<C.length
 sn:∀o x t,G.sn o x t->fW H x (G.cf o) t
 bO:B<=1099511627776
theorem YH.IA {H:fX}{G:Gh}(h:YH n k C H G act B)(j:Nat):qD (G.W j):=by
 refine⟨h.one j,fun t s D=>?_,h.size j⟩;have I:=h.num j t s D;have J:=h.bO;unfold k9;simp only[al,decide_eq_true_eq];omega
section
variable {n k:Nat} {C:List Xg} {H:fX} {G:Gh} {act:Nat} {B:Int}
theorem IT {a b c:JC}(J:Qd a b=ae)(K:Qd b c=ae):Qd a c=false:=by
 cases e:Qd a c with
 |false=>rfl
 |true =>
  rw[X8]at e;have D:¬Qd a b=true:=by rw[J];decide
  have I:¬Qd b c=true:=by rw[K];decide
  rw[X8]at D I;omega
theorem G9 (a:JC):Qd a a=false:=YX a
theorem YH.next (h:YH n k C H G act B)(hj:j<G.cn)(hc:j<C.length){t:JC}(he:fT C H j t):∃c,G.cZ (j+1)=ac c/\Qd c.1 t=false:=by
 obtain⟨S,J,_,K⟩:=h.eI j hj;obtain⟨Q,O,U⟩:=he;obtain⟨Y,Z,I,y3⟩:=GD (h.iL j hc) J O;exact K t ⟨Y,Z,fun x D=>(I x D).1,y3,fun x D=>U x (I x D).2⟩
theorem YH.up (h:YH n k C H G act B){t:JC}(D:fT C H j t):∀d,0<d->j+d<=act->∃c,G.cZ (j+d)=ac c/\Qd c.1 t=ae
 |0,h0,_=>absurd h0 (Nat.lt_irrefl 0)
 |1,_,hd=>h.next (by have:=h.cI;omega) (by have:=h.cI;omega) D
 |d+2,_,hd=>by
  obtain⟨c,I,J⟩:=h.up D (d+1) (by omega) (by omega);obtain⟨b,K,O⟩:=h.next (j:=j+(d+1)) (by have:=h.cI;omega) (by have:=h.cI;omega) (h.dL _ c (by omega) I);exact⟨b,K,IT O J⟩
theorem YH.upto (h:YH n k C H G act B){t:JC}(D:fT C H j t)(I:j<i)(J:i<=act):∃c,G.cZ i=ac c/\Qd c.1 t=false:=by
 have:=h.up D (i-j) (by omega) (by omega);rw[show j+(i-j)=i by omega]at this;exact this
theorem YH.nI (h:YH n k C H G act B){t:JC}(D:fT C H j t)(Z:j<=i)(I:i<=act):∃u,fT C H i u/\Qd u t=false:=by
 rcases Nat.lt_or_ge j i with J|U
 ·obtain⟨c,K,O⟩:=h.upto D J I;exact⟨c.1,h.dL i c I K,O⟩
 ·have:j=i:=by omega
  subst this;exact⟨t,D,G9 t⟩
theorem yH {a b:JC}(D:Qd a b=ae)(I:Qd b a=ae):a=b:=IL D I
end
structure kD (n k:Nat) (C:List Xg) (H:fX) (G:Gh) (ops:Int) (m:Zb) (j:Nat):Prop where
 key:m.key=wX
 op:m.op<ops
 cfg:m.config=(j:Int)
 lK:j<C.length
 look:m.kind=rO->G.cf m.op=j
 told:m.kind=sW->G.cf m.op=j/\(∀v∈m.L,v∈(H m.from_ j).1)/\∀t,G.sn m.op m.from_ t->∃v∈m.L,(v.n,v.who)=t
 jR:m.kind=pX->j+1<C.length
 shut:m.kind=Q7->H m.from_ j=(m.L,T)
 aS:m.kind=JJ->∃t s i,m.L=[gU k t s i]/\i<n/\m.aP=Yc (aG C j).L i/\G.W j t s/\G.wt m.op=ac t
 kept:m.kind=iS->∃t,G.wt m.op=ac t/\(m.shut=ae->fW H m.from_ j t)/\(m.shut=T->(H m.from_ j).2=T)
structure oE (c:Xg) (a:Za) (P:BA->List Yb->Prop):Prop where
 len:a.from_.length=a.L.length
 nodup:a.from_.Nodup
 mem:∀x∈a.from_,x∈c.L
 each:∀x∈a.from_,P x (Yv a.from_ a.L x)
structure qZ (c:Xg) (a:Za) (P:BA->Prop):Prop where
 nodup:a.from_.Nodup
 mem:∀x∈a.from_,x∈c.L
 each:∀x∈a.from_,P x
structure l8 (C:List Xg) (H:fX) (G:Gh) (act:Nat) (ops:Int) (E:List Ev) (since:Int) (who:Nat) (a:Za):Prop where
 mv:a.aI=ae
 gJ:a.who=(who:Int)
 lt:who<6
 key:a.key=wX
 op:a.op<ops
 own:G.own a.op=ac who
 cfg:a.config=(G.cl who:Int)
 cf:G.cf a.op=G.cl who
 le:G.cl who<=act
 c:a.c=aG C (G.cl who)
 low:∀c,G.cZ (G.cl who)=ac c->ZV C G a.op c.1
 past:∀e∈E,e.found=T->e.aP<=since->∃t,ZV C G a.op t/\Qd t e.tag=ae
 st:(a.st=.looking/\G.wt a.op=av/\a.text.size<=1000/\oE (aG C (G.cl who)) a fun x l=>(∀v∈l,v∈(H x (G.cl who)).1)/\∀t,G.sn a.op x t->∃v∈l,(v.n,v.who)=t) ∨
  (a.st=.keeping/\G.wt a.op=ac a.tag/\a.found=T/\G.W (G.cl who) a.tag a.text/\(∀t,ZV C G a.op t->Qd a.tag t=ae/\(a.put=T->t≠a.tag))/\qZ (aG C (G.cl who)) a fun x=>fW H x (G.cl who) a.tag) ∨
  a.st=.refused
structure tL (C:List Xg) (H:fX) (G:Gh) (act:Nat) (ops:Int) (a:Za):Prop where
 mv:a.aI=T
 put:a.put=ae
 key:a.key=wX
 op:a.op<ops
 own:G.own a.op=av
 len:act+2=C.length
 next:a.next=aG C (act+1)
 st:(a.st=.sealing/\a.config=(act:Int)/\a.c=aG C act/\G.wt a.op=av/\G.cn=act/\(∀t s,¬G.W (act+1) t s)/\oE (aG C act) a fun x l=>H x act=(l,T)) ∨
  (a.st=.keeping/\a.config=((act+1:Nat):Int)/\a.c=aG C (act+1)/\G.wt a.op=ac a.tag/\G.cn=act+1/\G.cZ (act+1)=ac (a.tag,a.text)/\qZ (aG C (act+1)) a fun x=>fW H x (act+1) a.tag)
def mX (C:List Xg)(H:fX)(G:Gh)(who:Nat)(o:Option Za):Prop:=∀j t s,G.W j t s->t.2=(who:Int)->G.cZ j=ac (t,s)∨j<G.cl who∨(j=G.cl who/\((∃a,o=ac a/\a.st≠.looking/\a.put=T/\a.tag=t)∨(fT C H j t/\∀a,o=ac a->ZV C G a.op t)))
def oD (a b:Ev):Prop:=a.aP<=b.from_->a.found=T->b.found=T/\Qd b.tag a.tag=ae/\(b.put=T->b.tag≠a.tag)
structure pF (C:List Xg) (H:fX) (G:Gh) (act:Nat) (e:Ev):Prop where
 put:e.put=T->e.found=T
 done:e.found=T->∃j,j<=act/\fT C H j e.tag/\G.W j e.tag e.text/\(e.put=T->∀c,G.cZ j=ac c->Qd c.1 e.tag=T)
def wH (w:Ya):fX:=fun x j=>Qn (Jc w.nodes (Qe w.nodes x)).1 (j:Int)
structure Zh (n k:Nat) (G:Gh) (w:Ya):Prop where
 base:YH n k w.aB (wH w) G w.aC w.aA
 msgs:∀m∈w.L,∃j,kD n k w.aB (wH w) G w.ops m j
 asks:∀who a,Xf w.asks who=ac a->l8 w.aB (wH w) G w.aC w.ops w.events (w.since.getD who 0) who a
 owns:∀who,who<6->mX w.aB (wH w) G who (Xf w.asks who)
 bI:∀a,w.mover=ac a->tL w.aB (wH w) G w.aC w.ops a
 dE:w.mover=av->w.aC+1=w.aB.length/\G.cn=w.aC
 bV:∀e∈w.events,pF w.aB (wH w) G w.aC e/\e.aP<=w.aA
 order:w.events.Pairwise oD
 since:∀who,w.since.getD who 0<=w.aA
 la:w.asks.length=6
 lt:w.texts.length=6
 ls:w.since.length=6
 small:∀i,(Yc w.texts i).size<=1000
 fZ:∀o,w.ops<=o->G.wt o=av
 cls:∀who,G.cl who<=w.aC
end
section
structure JR (ops o0:Int) (act:Nat) (C C':List Xg) (H H':fX) (G G':Gh):Prop where
 pJ:C.length<=C'.length
 cat:∀j,j<C.length->aG C' j=aG C j
 grow:∀x j v,v∈(H x j).1->v∈(H' x j).1
 mF:∀x j,(H x j).2=T->H' x j=H x j
 W:∀j t s,G.W j t s->G'.W j t s
 cf:∀o,o<ops->G'.cf o=G.cf o
 own:∀o,o<ops->G'.own o=G.own o
 sn:∀o,o<ops->G'.sn o=G.sn o
 wt:∀o,o<ops->G'.wt o=G.wt o∨(o=o0/\G.wt o=av)
 cZ:∀j,j<=act->G'.cZ j=G.cZ j
section
variable {n k:Nat} {C C':List Xg} {H H':fX} {G G':Gh} {act act':Nat} {ops ops' o0:Int}
theorem JR.has (e:JR ops o0 act C C' H H' G G'){t:JC}(h:fW H x j t):fW H' x j t:=by
 obtain⟨v,B,D⟩:=h;exact⟨v,e.grow x j v B,D⟩
theorem JR.uY (e:JR ops o0 act C C' H H' G G')(J:j<C.length){t:JC}(h:fT C H j t):fT C' H' j t:=by
 obtain⟨Q,B,D⟩:=h;exact⟨Q,by rw[e.cat j J];exact B,fun x I=>e.has (D x I)⟩
theorem JR.mD (e:JR ops o0 act C C' H H' G G')(B:o<ops)(D:G.cf o<C.length){t:JC}:ZV C' G' o t↔ZV C G o t:=by
 unfold ZV;rw[e.cf o B,e.sn o B,e.cat _ D]
theorem JR.msg (e:JR ops o0 act C C' H H' G G')(a0:ops<=ops')(h:kD n k C H G ops m j):kD n k C' H' G' ops' m j where
 key:=h.key
 op:=aJ h.op a0
 cfg:=h.cfg
 lK:=aE h.lK e.pJ
 look:=fun B=>by rw[e.cf _ h.op];exact h.look B
 told:=fun B=>by
  obtain⟨I,K,J⟩:=h.told B;exact⟨by rw[e.cf _ h.op];exact I,fun v hv=>e.grow _ _ _ (K v hv),fun t U=>J t (by rw[e.sn _ h.op]at U;exact U)⟩
 jR:=fun B=>aE (h.jR B) e.pJ
 shut:=fun B=>by rw[e.mF _ _ (by rw[h.shut B])];exact h.shut B
 aS:=fun B=>by
  obtain⟨t,s,i,I,K,J,h4,Z⟩:=h.aS B;refine⟨t,s,i,I,K,by rw[e.cat j h.lK];exact J,e.W _ _ _ h4,?_⟩;rcases e.wt _ h.op with D|⟨_,D⟩
  ·rw[D];exact Z
  ·rw[Z]at D;cases D
 kept:=fun B=>by
  obtain⟨t,I,K,J⟩:=h.kept B;refine⟨t,?_,fun O=>e.has (K O),fun O=>by rw[e.mF _ _ (J O)];exact J O⟩;rcases e.wt _ h.op with D|⟨_,D⟩
  ·rw[D];exact I
  ·rw[I]at D;cases D
theorem JR.ask (e:JR ops o0 act C C' H H' G G')(a2:ops<=ops')(a4:act<=act')(hC:act<C.length){E:List Ev}{since:Int}{a:Za}(K:G'.cl who=G.cl who)(ho:a.op≠o0)(h:l8 C H G act ops E since who a):l8 C' H' G' act' ops' E since who a:=by
 have a3:=h.le;have U:G.cl who<C.length:=by omega
 have Z:∀{t},ZV C' G' a.op t↔ZV C G a.op t:=e.mD h.op (by rw[h.cf];exact U);have a0:G'.wt a.op=G.wt a.op:=by
  rcases e.wt _ h.op with B|⟨B,_⟩
  ·exact B
  ·exact absurd B ho
 refine⟨h.mv,h.gJ,h.lt,h.key,aJ h.op a2,by rw[e.own _ h.op];exact h.own,by rw[K];exact h.cfg,by rw[e.cf _ h.op,K];exact h.cf,by rw[K];omega,by rw[K,e.cat _ U];exact h.c,fun c hc=>?_,fun x J hf ht=>?_,?_⟩
 ·rw[K,e.cZ _ h.le]at hc;exact Z.2 (h.low c hc)
 ·obtain⟨t,D,O⟩:=h.past x J hf ht;exact⟨t,Z.2 D,O⟩
 ·rw[K,a0,e.cat _ U,e.sn _ h.op];rcases h.st with⟨D,O,h3,I⟩|⟨D,O,h3,I,h5,B⟩|D
  ·exact ai ⟨D,O,h3,I.len,I.nodup,I.mem,fun x J=>⟨fun v hv=>e.grow _ _ _ ((I.each x J).1 v hv),(I.each x J).2⟩⟩
  ·exact ah (ai ⟨D,O,h3,e.W _ _ _ I,fun t ht=>h5 t (Z.1 ht),B.nodup,B.mem,fun x J=>e.has (B.each x J)⟩)
  ·exact ah (ah D)
theorem JR.bI (e:JR ops o0 act C C H H' G G')(a2:ops<=ops'){a:Za}(ho:a.op≠o0)(a3:G'.cn=G.cn)(a4:G'.cZ (act+1)=G.cZ (act+1))(hW:(∀t s,¬G.W (act+1) t s)->∀t s,¬G'.W (act+1) t s)(h:tL C H G act ops a):tL C H' G' act ops' a:=by
 have a0:G'.wt a.op=G.wt a.op:=by
  rcases e.wt _ h.op with D|⟨D,_⟩
  ·exact D
  ·exact absurd D ho
 refine⟨h.mv,h.put,h.key,aJ h.op a2,by rw[e.own _ h.op];exact h.own,h.len,h.next,?_⟩;rw[a0,a3,a4];rcases h.st with⟨I,J,K,O,U,D,B⟩|⟨I,J,K,O,U,D,B⟩
 ·exact ai ⟨I,J,K,O,U,hW D,B.len,B.nodup,B.mem,fun x Z=>by have h8:=B.each x Z;rw[e.mF x act (by rw[h8])];exact h8⟩
 ·exact ah ⟨I,J,K,O,U,D,B.nodup,B.mem,fun x Z=>e.has (B.each x Z)⟩
theorem JR.ev (e:JR ops o0 act C C' H H' G G')(Z:act<=act')(hC:act<C.length){x:Ev}(h:pF C H G act x):pF C' H' G' act' x:=by
 refine⟨h.put,fun D=>?_⟩;obtain⟨j,I,J,K,O⟩:=h.done D;exact⟨j,by omega,e.uY (by omega) J,e.W _ _ _ K,fun U c B=>O U c (by rw[e.cZ j I]at B;exact B)⟩
theorem JR.owns (e:JR ops o0 act C C' H H' G G'){o:Option Za}(O:G'.cl who=G.cl who)(a0:∀j t s,G.W j t s->j<C.length)(hW:∀j t s,G'.W j t s->t.2=(who:Int)->G.W j t s∨G'.cZ j=ac (t,s))(a2:∀j c,G.cZ j=ac c->G'.cZ j=ac c)(U:∀a,o=ac a->a.op<ops/\G.cf a.op<C.length)(h:mX C H G who o):mX C' H' G' who o:=by
 intro j t s B K;rcases hW j t s B K with B|B
 ·rcases h j t s B K with D|D|⟨D,I⟩
  ·exact ai (a2 _ _ D)
  ·exact ah (ai (by rw[O];exact D))
  ·refine ah (ah ⟨by rw[O];exact D,?_⟩);rcases I with I|⟨I,Z⟩
   ·exact ai I
   ·exact ah ⟨e.uY (a0 _ _ _ B) I,fun a J=>(e.mD (U a J).1 (U a J).2).2 (Z a J)⟩
 ·exact ai B
theorem JR.holds (B:∀x j v,v∈(H x j).1->v∈(H' x j).1)(D:∀x j,(H x j).2=T->H' x j=H x j):JR ops o0 act C C H H' G G:=⟨aO _,fun _ _=>rfl,B,D,fun _ _ _ h=>h,fun _ _=>rfl,fun _ _=>rfl,fun _ _=>rfl,fun _ _=>ai rfl,fun _ _=>rfl⟩
theorem YH.holds (h:YH n k C H G act B)(Z:∀x j v,v∈(H x j).1->v∈(H' x j).1)(O:∀x j,(H x j).2=T->H' x j=H x j)(hh:∀x j v,v∈(H' x j).1->j<C.length/\iQ n k (aG C j) (G.W j) x v)(hs:∀x j,(H' x j).2=T->j+1<C.length):YH n k C H' G act B where
 iL:=h.iL
 held:=hh
 shut:=hs
 one:=h.one
 size:=h.size
 fV:=h.fV
 num:=h.num
 low:=h.low
 fH:=h.fH
 dM:=h.dM
 dL:=fun j c I hc=>(JR.holds (ops:=0) (o0:=0) (act:=0) (G:=G) Z O).uY (by have:=h.cI;omega) (h.dL j c I hc)
 eI:=fun j I=>by
  obtain⟨S,h1,J,h3⟩:=h.eI j I;refine⟨S,h1,fun x D=>by rw[O x j (J x D)];exact J x D,fun u ⟨Y,y1,U,y3,y4⟩=>h3 u ⟨Y,y1,U,y3,fun x D=>?_⟩⟩;have K:=y4 x D;unfold fW at K ⊢;rw[O x j (J x (U x D))]at K;exact K
 cI:=h.cI
 sn:=fun o x t ho=>by
  obtain⟨v,hv,ht⟩:=h.sn o x t ho;exact⟨v,Z _ _ _ hv,ht⟩
 bO:=h.bO
end
end
section
section
variable {n k:Nat} {G:Gh} {w:Ya}
theorem Zh.gP (h:Zh n k G w)(B:∀m∈l,∃j,kD n k w.aB (wH w) G w.ops m j):Zh n k G {w with L:=l}:=⟨h.base,B,h.asks,h.owns,h.bI,h.dE,h.bV,h.order,h.since,h.la,h.lt,h.ls,h.small,h.fZ,h.cls⟩
theorem Zh.send (h:Zh n k G w)(D:∀m∈l,∃j,kD n k w.aB (wH w) G w.ops m j):Zh n k G (w.send l):=by
 refine h.gP fun m B=>?_
 rcases ag.1 B with B|B
 ·exact h.msgs m B
 ·exact D m (ao B)
theorem Zh.off (h:Zh n k G w)(i:Nat):Zh n k G (w.off i):=h.gP fun m B=>h.msgs m (List.mem_of_mem_eraseIdx B)
theorem oB (B:i<l.length):Yg l i∈l:=by
 unfold Yg;rw[aa,af B];exact ax _
theorem Zh.drop (h:Zh n k G w)(i:Int):Zh n k G (w.drop i).1:=by
 unfold Ya.drop;split
 ·exact h
 ·exact h.off _
theorem Zh.bC (h:Zh n k G w)(i:Int):Zh n k G (w.bC i).1:=by
 unfold Ya.bC;split
 ·exact h
 ·split
  ·exact h
  ·refine h.gP fun m B=>h.msgs m ?_
   rcases ag.1 B with B|B
   ·rcases ag.1 B with B|B
    ·exact ao B
    ·rw[ab.1 B];exact oB (by omega)
   ·exact aW B
theorem Zh.tick (h:Zh n k G w)(H:w.aA+1<=1099511627776):Zh n k G {w with aA:=w.aA+1} :=
 ⟨⟨h.base.iL,h.base.held,h.base.shut,h.base.one,h.base.size,h.base.fV,fun j t s D=>by have:=h.base.num j t s D;show _/\_<=w.aA+1/\_;omega,h.base.low,h.base.fH,h.base.dM,h.base.dL,h.base.eI,h.base.cI,h.base.sn,H⟩,h.msgs,h.asks,h.owns,h.bI,h.dE,fun e B=>⟨(h.bV e B).1,by have:=(h.bV e B).2;show _<=w.aA+1;omega⟩,h.order,fun who=>by have:=h.since who;show w.since.getD who 0<=w.aA+1;omega,h.la,h.lt,h.ls,h.small,h.fZ,h.cls⟩
theorem H9 (l:List (Je×Bool))(s:BA):Qe l s=(l.map fun x=>x.1.name).findIdx fun x=>decide (x=s):=by
 unfold Qe;rw[be];rfl
theorem DV {l:List (Je×Bool)}(B:i<l.length):Jc l i=l[i]:=by
 unfold Jc;rw[aa,af B];rfl
theorem Jp9 {l:List (Je×Bool)}{y:Je×Bool}(D:y.1.name=(Jc l i).1.name)(s:BA):Qe (l.set i y) s=Qe l s:=by
 rw[H9,H9,zj]
 congr 1
 by_cases B:i<l.length
 ·refine bc fun j=>?_
  rw[an];split
  ·rename_i e;subst e;rw[DV B]at D;simp[B,D]
  ·rfl
 ·rw[ze (by rw[aj];omega)]
theorem Jod {l:List (Je×Bool)}{y:Je×Bool}(B:i<l.length):Jc (l.set i y) j=if j=i then y else Jc l j:=by
 unfold Jc;rw[aa,an,aa];by_cases e:i=j
 ·subst e;rw[if_pos rfl,if_pos B,if_pos rfl];rfl
 ·rw[if_neg e,if_neg fun h=>e h.symm]
theorem tM {l:List (Je×Bool)}(h:Qe l s<l.length):(Jc l (Qe l s)).1.name=s:=by
 have B:=zh (p:=fun x:Je×Bool=>decide (x.1.name=s)) (xs:=l) (w:=h);rw[DV h];exact of_decide_eq_true B
theorem DL (B:Qe w.nodes x<w.nodes.length){y:Je×Bool}(K:y.1.name=x)(s:BA)(j:Nat):Qn (Jc (w.nodes.set (Qe w.nodes x) y) (Qe (w.nodes.set (Qe w.nodes x) y) s)).1 (j:Int)=if s=x then Qn y.1 (j:Int)else wH w s j:=by
 have D:=tM B;rw[Jp9 (by rw[K,D]),Jod B];by_cases e:s=x
 ·subst e;rw[if_pos rfl,if_pos rfl]
 ·rw[if_neg e,if_neg]
  ·rfl
  ·intro H;have J:Qe w.nodes s<w.nodes.length:=by rw[H];exact B
   have I:=tM J;rw[H,D]at I;exact e I.symm
theorem Zh.set (h:Zh n k G w)(s:BA)(up:Bool):Zh n k G (w.set s up).1:=by
 unfold Ya.set;split
 ·rename_i B;have e:wH {w with nodes:=w.nodes.set (Qe w.nodes s) ((Jc w.nodes (Qe w.nodes s)).1,up)}=wH w:=by
   funext x j
   refine(DL B (y:=((Jc w.nodes (Qe w.nodes s)).1,up)) (tM B) x j).trans ?_;split
   ·rename_i e;rw[e];rfl
   ·rfl
  refine⟨?_,?_,?_,?_,?_,h.dE,?_,h.order,h.since,h.la,h.lt,h.ls,h.small,h.fZ,h.cls⟩<;>rw[e]
  ·exact h.base
  ·exact h.msgs
  ·exact h.asks
  ·exact h.owns
  ·exact h.bI
  ·exact h.bV
 ·exact h
theorem Zh.holds (h:Zh n k G w){N:List (Je×Bool)}(D:∀x j v,v∈(wH w x j).1->v∈(wH {w with nodes:=N} x j).1)(H:∀x j,(wH w x j).2=T->wH {w with nodes:=N} x j=wH w x j)(hh:∀x j v,v∈(wH {w with nodes:=N} x j).1->j<w.aB.length/\iQ n k (aG w.aB j) (G.W j) x v)(hs:∀x j,(wH {w with nodes:=N} x j).2=T->j+1<w.aB.length):Zh n k G {w with nodes:=N}:=by
 have e:∀ops act,JR ops (-1) act w.aB w.aB (wH w) (wH {w with nodes:=N}) G G:=fun _ _=>JR.holds D H
 have J:=h.base.cI;refine⟨h.base.holds D H hh hs,fun m O=>?_,fun who a B=>?_,fun who I=>?_,fun a B=>?_,h.dE,fun x K=>⟨(e w.ops w.aC).ev nR J.2 (h.bV x K).1,(h.bV x K).2⟩,h.order,h.since,h.la,h.lt,h.ls,h.small,h.fZ,h.cls⟩
 ·obtain⟨j,U⟩:=h.msgs m O;exact⟨j,(e w.ops w.aC).msg (am _) U⟩
 ·have:=h.asks who a B;exact(JR.holds (o0:=a.op-1) D H).ask (am _) nR J.2 rfl (by omega) this
 ·refine(e w.ops w.aC).owns rfl h.base.fV (fun j t s I _=>ai I) (fun _ _ Z=>Z) (fun a B=>?_) (h.owns who I);have:=h.asks who a B;exact⟨this.op,by rw[this.cf];have:=this.le;omega⟩
 ·exact(JR.holds (o0:=a.op-1) D H).bI (am _) (by omega) rfl rfl (fun h=>h) (h.bI a B)
theorem Zh.node (h:Zh n k G w)(B:kD n k w.aB (wH w) G w.ops m j):Zh n k G (w.node m):=by
 unfold Ya.node;split
 ·rename_i hh;obtain⟨b0,_⟩:=hh;have hn:=tM b0;obtain⟨M,hM⟩:=Xb ((Jc w.nodes (Qe w.nodes m.aP)).1);rw[<-hM]at hn ⊢;have a3:∀d:Nat,Qn M (d:Int)=wH w m.aP d:=fun d=>by rw[hM];rfl
  obtain⟨b1,b2⟩:=UG M m B.key;obtain⟨K,a6⟩:=Xb ((M.aD m).1);obtain⟨c8,b3⟩:=Xb ((M.aD m).2);rw[<-a6,<-b3]at b2;rw[<-a6]at b1;rw[<-a6,<-b3];have Z:∀s d,wH {w with nodes:=w.nodes.set (Qe w.nodes m.aP) (K,T)} s d=if s=m.aP then Qn K (d:Int)else wH w s d:=fun s d=>DL b0 (y:=(K,T)) (by rw[b1,hn]) s d
  obtain⟨N,hN⟩:=Xb (w.nodes.set (Qe w.nodes m.aP) (K,T));rw[<-hN]at Z ⊢;have a4:∀kind shut L,M.out m kind shut L=⟨m.aP,m.from_,kind,m.key,m.op,m.config,shut,L⟩:=fun kind shut L=>by unfold Je.out;rw[hn]
  have a0:Qn M m.config=wH w m.aP j:=by rw[B.cfg];exact a3 j
  have a7:∀d:Nat,(d:Int)=m.config↔d=j:=fun d=>by rw[B.cfg];omega
  have a8:(∀d,Qn K d=Qn M d)->wH {w with nodes:=N}=wH w:=fun I=>by
   funext s d
   rw[Z];split
   ·rename_i e;rw[I,a3,e]
   ·rfl
  have a9:(∀d,Qn K d=Qn M d)->Zh n k G {w with nodes:=N}:=fun I=>by
   have e:=a8 I;exact h.holds (fun x j v D=>by rw[e];exact D) (fun x j _=>by rw[e]) (fun x j v D=>by rw[e]at D;exact h.base.held x j v D) (fun x j D=>by rw[e]at D;exact h.base.shut x j D)
  cases b2 with
  |none J I =>
   rw[J];exact(a9 I).send fun _ B=>by cases B
  |look O J I =>
   rw[J];refine(a9 I).send fun x U=>⟨j,?_⟩
   rw[ab.1 U,a4,a0];have e:=a8 I;refine⟨B.key,B.op,B.cfg,B.lK,fun h=>absurd h (by dsimp only;decide),fun _=>?_,fun h=>absurd h (by dsimp only;decide),fun h=>absurd h (by dsimp only;decide),fun h=>absurd h (by dsimp only;decide),fun h=>absurd h (by dsimp only;decide)⟩;have b4:=B.look O;refine⟨b4,fun v D=>?_,fun t ht=>?_⟩
   ·show v∈(wH {w with nodes:=N} m.aP j).1;rw[e];exact D
   ·have:=h.base.sn _ _ _ ht;rw[show G.cf m.op=j from b4]at this;exact this
  |shut O J I =>
   rw[J];have b6:=B.jR O;have a2:∀s d,wH {w with nodes:=N} s d=if s=m.aP/\d=j then((wH w s d).1,T)else wH w s d:=fun s d=>by
    rw[Z,I];by_cases e:s=m.aP
    ·subst e;by_cases ed:d=j
     ·subst ed;rw[if_pos rfl,if_pos ((a7 d).2 rfl),if_pos ⟨rfl,rfl⟩,a0]
     ·rw[if_pos rfl,if_neg fun h=>ed ((a7 d).1 h),if_neg fun h=>ed h.2,a3]
    ·rw[if_neg e,if_neg fun h=>e h.1]
   refine(h.holds (N:=N) (fun x d v D=>?_) (fun x d D=>?_) (fun x d v D=>?_) (fun x d D=>?_)).send fun x U=>⟨j,?_⟩
   ·rw[a2];split
    ·exact D
    ·exact D
   ·rw[a2];split
    ·exact Prod.ext rfl D.symm
    ·rfl
   ·rw[a2]at D;split at D
    ·exact h.base.held _ _ _ D
    ·exact h.base.held _ _ _ D
   ·rw[a2]at D;split at D
    ·rename_i e;rw[e.2];exact b6
    ·exact h.base.shut _ _ D
   ·rw[ab.1 U,a4,a0];refine⟨B.key,B.op,B.cfg,B.lK,fun h=>absurd h (by dsimp only;decide),fun h=>absurd h (by dsimp only;decide),fun h=>absurd h (by dsimp only;decide),fun _=>?_,fun h=>absurd h (by dsimp only;decide),fun h=>absurd h (by dsimp only;decide)⟩;show wH {w with nodes:=N} m.aP j=_;rw[a2,if_pos ⟨rfl,rfl⟩]
  |dJ O J ho I =>
   rw[J];refine(a9 I).send fun x U=>⟨j,?_⟩
   rw[ab.1 U,a4];have e:=a8 I;refine⟨B.key,B.op,B.cfg,B.lK,fun h=>absurd h (by dsimp only;decide),fun h=>absurd h (by dsimp only;decide),fun h=>absurd h (by dsimp only;decide),fun h=>absurd h (by dsimp only;decide),fun h=>absurd h (by dsimp only;decide),fun _=>?_⟩;obtain⟨t,s,i,_,_,_,_,h5⟩:=B.aS O;refine⟨t,h5,fun h=>(by cases h),fun _=>?_⟩;show(wH {w with nodes:=N} m.aP j).2=T;rw[e,<-a0];exact ho
  |aS v O D J I h2 h3 h4 =>
   rw[J];obtain⟨t,s,i,k1,k2,k3,k4,k5⟩:=B.aS O;have b5:v=gU k t s i:=by rw[D]at k1;exact List.cons.inj k1 |>.1
   rw[a0]at h2 h3 h4;have b7:wH {w with nodes:=N} m.aP j=Qn K m.config:=by rw[Z,if_pos rfl,B.cfg]
   rw[<-b7]at h2 h3 h4;have a5:∀x d,¬(x=m.aP/\d=j)->wH {w with nodes:=N} x d=wH w x d:=fun x d b8=>by
    rw[Z];split
    ·rename_i e;subst e;rw[I _ fun h=>b8 ⟨rfl,(a7 d).1 h⟩,a3]
    ·rfl
   refine(h.holds (N:=N) (fun x d u H=>?_) (fun x d H=>?_) (fun x d u H=>?_) (fun x d H=>?_)).send fun x U=>⟨j,?_⟩
   ·by_cases e:x=m.aP/\d=j
    ·obtain⟨rfl,rfl⟩:=e;exact(h3 u).2 (ai H)
    ·rw[a5 x d e];exact H
   ·by_cases e:x=m.aP/\d=j
    ·obtain⟨rfl,rfl⟩:=e;exact Prod.ext (h4 H) h2
    ·rw[a5 x d e]
   ·by_cases e:x=m.aP/\d=j
    ·obtain⟨rfl,rfl⟩:=e;rcases(h3 u).1 H with H|H
     ·exact h.base.held _ _ _ H
     ·exact⟨B.lK,t,s,i,H.trans b5,k2,k3.symm,k4⟩
    ·rw[a5 x d e]at H;exact h.base.held _ _ _ H
   ·by_cases e:x=m.aP/\d=j
    ·obtain⟨rfl,rfl⟩:=e;rw[h2]at H;exact h.base.shut _ _ H
    ·rw[a5 x d e]at H;exact h.base.shut _ _ H
   ·rw[ab.1 U,a4];refine⟨B.key,B.op,B.cfg,B.lK,fun h=>absurd h (by dsimp only;decide),fun h=>absurd h (by dsimp only;decide),fun h=>absurd h (by dsimp only;decide),fun h=>absurd h (by dsimp only;decide),fun h=>absurd h (by dsimp only;decide),fun _=>?_⟩;refine⟨t,k5,fun _=>⟨v,?_,by rw[b5];rfl⟩,fun h=>by cases h⟩;exact(h3 v).2 (ah rfl)
 ·exact h
end
end
section
theorem Y9 {l:List (Option Za)}{y:Option Za}(B:i<l.length):Xf (l.set i y) j=if j=i then y else Xf l j:=by
 unfold Xf;rw[aa,an,aa];by_cases e:i=j
 ·subst e;rw[if_pos rfl,if_pos B,if_pos rfl];rfl
 ·rw[if_neg e,if_neg fun h=>e h.symm]
def Gh.begin (G:Gh)(w:Ya)(who:Nat):Gh:={G with
 cl:=fun i=>if i=who then w.aC else G.cl i
 cf:=fun o=>if o=w.ops then w.aC else G.cf o
 own:=fun o=>if o=w.ops then ac who else G.own o
 sn:=fun o x t=>if o=w.ops then fW (wH w) x w.aC t else G.sn o x t}
section
variable {n k:Nat} {G:Gh} {w:Ya}
theorem Zh.begin (h:Zh n k G w)(hw:who<6)(put:Bool)(b0:∀a,Xf w.asks who=ac a->a.st=.refused/\G.cl who<w.aC):Zh n k (G.begin w who) (w.begin who put):=by
 have hb:=h.base.cI;have H:(G.begin w who).cl who=w.aC:=if_pos rfl;have a2:∀i,i≠who->(G.begin w who).cl i=G.cl i:=fun i J=>if_neg J
 have a0:(G.begin w who).cf w.ops=w.aC:=if_pos rfl;have a4:∀x t,(G.begin w who).sn w.ops x t↔fW (wH w) x w.aC t:=fun x t=>by
  show(if w.ops=w.ops then _ else _)↔_;rw[if_pos rfl]
 have e:JR w.ops w.ops w.aC w.aB w.aB (wH w) (wH w) G (G.begin w who) :=
  ⟨aO _,fun _ _=>rfl,fun _ _ _ h=>h,fun _ _ _=>rfl,fun _ _ _ h=>h,fun o I=>if_neg (by omega),fun o I=>if_neg (by omega),fun o I=>by
   funext x t
   show(if o=w.ops then _ else _)=_;rw[if_neg (by omega)],fun _ _=>ai rfl,fun _ _=>rfl⟩
 have a3:∀t,fT w.aB (wH w) w.aC t->ZV w.aB (G.begin w who) w.ops t:=fun t ⟨Q,hQ,ht⟩=>⟨Q,by rw[a0];exact hQ,fun x B=>(a4 x t).2 (ht x B)⟩
 obtain⟨a,ha⟩:=Xb (YA who w.ops w.aC (aG w.aB w.aC) put (Yc w.texts who));have a6:l8 w.aB (wH w) (G.begin w who) w.aC (w.ops+1) w.events (w.since.getD who 0) who a:=by
  rw[ha];refine⟨rfl,rfl,hw,rfl,by show w.ops<_;omega,if_pos rfl,by rw[H];rfl,by rw[H];exact a0,by rw[H];exact aO _,by rw[H];rfl,fun c hc=>?_,fun x B hf _=>?_,ai ⟨rfl,h.fZ _ (am _),?_,rfl,zg,fun _ B=>absurd B ap,fun _ B=>absurd B ap⟩⟩
  ·rw[H]at hc;exact a3 _ (h.base.dL _ c nR hc)
  ·obtain⟨j,O,K,_,_⟩:=(h.bV x B).1.done hf;obtain⟨u,h3,h4⟩:=h.base.nI K O nR;exact⟨u,a3 u h3,h4⟩
  ·show(if put=T then Yc w.texts who else⟨#[]⟩:BA).size<=1000;split
   ·exact h.small who
   ·decide
 have a7:Zh n k (G.begin w who) {w with asks:=w.asks.set who (ac a),ops:=w.ops+1}:=by
  refine⟨⟨h.base.iL,h.base.held,h.base.shut,h.base.one,h.base.size,h.base.fV,h.base.num,h.base.low,h.base.fH,h.base.dM,h.base.dL,h.base.eI,h.base.cI,fun o x t I=>?_,h.base.bO⟩,fun m hm=>?_,fun i b J=>?_,fun i J=>?_,fun b a8=>?_,h.dE,fun x B=>⟨e.ev nR hb.2 (h.bV x B).1,(h.bV x B).2⟩,h.order,h.since,by rw[az];exact h.la,h.lt,h.ls,h.small,fun o I=>h.fZ o (by have:w.ops+1<=o:=I;omega),fun i=>?_⟩
  ·by_cases eo:o=w.ops
   ·subst eo;show fW (wH w) x ((G.begin w who).cf w.ops) t;rw[a0];exact(a4 x t).1 I
   ·have e1:(G.begin w who).cf o=G.cf o:=if_neg eo;have e2:(G.begin w who).sn o x t=G.sn o x t:=if_neg eo;rw[e2]at I;show fW (wH w) x ((G.begin w who).cf o) t;rw[e1];exact h.base.sn o x t I
  ·obtain⟨j,hj⟩:=h.msgs m hm;exact⟨j,e.msg (by show w.ops<=w.ops+1;omega) hj⟩
  ·have U:Xf (w.asks.set who (ac a)) i=ac b:=J;rw[Y9 (by rw[h.la];exact hw)]at U;by_cases D:i=who
   ·subst D;rw[if_pos rfl]at U;cases U;exact a6
   ·rw[if_neg D]at U;have:=h.asks i b U;exact e.ask (by show w.ops<=w.ops+1;omega) nR hb.2 (a2 i D) (by have:=this.op;omega) this
  ·show mX _ _ _ i (Xf (w.asks.set who (ac a)) i);rw[Y9 (by rw[h.la];exact hw)];by_cases D:i=who
   ·subst D;rw[if_pos rfl];intro j t s hW ht;have hj:=h.base.fV j t s hW;rcases h.owns i J j t s hW ht with O|O|⟨O,K⟩
    ·exact ai O
    ·refine ah (ai ?_);rw[H];have:=h.cls i;omega
    ·have b1:=h.cls i;by_cases a9:j<w.aC
     ·exact ah (ai (by rw[H];exact a9))
     ·have a5:j=w.aC:=by omega
      refine ah (ah ⟨by rw[H];exact a5,ah ?_⟩);rcases K with⟨b,Z,_⟩|⟨K,_⟩
      ·have:=(b0 b Z).2;omega
      ·refine⟨K,fun b Z=>?_⟩;cases Z;rw[ha];exact a3 t (a5▸K)
   ·rw[if_neg D];refine e.owns (a2 i D) h.base.fV (fun j t s hW _=>ai hW) (fun _ _ hc=>hc) (fun b Z=>?_) (h.owns i J);have:=h.asks i b Z;exact⟨this.op,by rw[this.cf];have:=this.le;omega⟩
  ·have:=h.bI b a8;exact e.bI (by show w.ops<=w.ops+1;omega) (by have:=this.op;omega) rfl rfl (fun h=>h) this
  ·show(G.begin w who).cl i<=w.aC;by_cases D:i=who
   ·subst D;rw[H];exact aO _
   ·rw[a2 i D];exact h.cls i
 unfold Ya.begin;rw[<-ha];refine a7.send fun m hm=>⟨w.aC,?_⟩
 rw[ha]at hm;obtain⟨i,J,rfl⟩:=aq.1 (show m∈(bx (aG w.aB w.aC).L.length).map _ from hm);refine⟨rfl,by show w.ops<w.ops+1;omega,rfl,hb.2,fun _=>a0,fun h=>absurd h (by dsimp only;decide),fun h=>absurd h (by dsimp only;decide),fun h=>absurd h (by dsimp only;decide),fun h=>absurd h (by dsimp only;decide),fun h=>absurd h (by dsimp only;decide)⟩
end
end
section
theorem Za.eQ {a:Za}(h:a.aM m=T):m.kind=a.st.waits/\a.st.waits≠⟨#[]⟩/\m.op=a.op/\m.config=a.config/\m.from_∈a.c.L/\m.from_∉a.from_:=by
 unfold Za.aM at h;rw[al,al,decide_eq_true_eq,Zl]at h;obtain⟨⟨D,H,_,_,I,J⟩,K,B⟩:=h;refine⟨H,D,I,J,K,fun O=>?_⟩;rw[Zl.2 O]at B;cases B
section
variable {n k:Nat} {G:Gh} {w:Ya}
theorem Zh.eL (h:Zh n k G w){a:Za}(B:Xf w.asks i=ac a):a.op<w.ops/\G.cf a.op<w.aB.length:=by
 have:=h.asks i a B;exact⟨this.op,by rw[this.cf];have:=this.le;have:=h.base.cI;omega⟩
theorem Zh.jK (h:Zh n k G w)(I:who<6){o:Option Za}(J:∀a,o=ac a->l8 w.aB (wH w) G w.aC w.ops w.events (w.since.getD who 0) who a)(K:mX w.aB (wH w) G who o):Zh n k G {w with asks:=w.asks.set who o}:=by
 refine⟨h.base,h.msgs,fun i b H=>?_,fun i H=>?_,h.bI,h.dE,h.bV,h.order,h.since,by rw[az];exact h.la,h.lt,h.ls,h.small,h.fZ,h.cls⟩
 ·have B:Xf (w.asks.set who o) i=ac b:=H;rw[Y9 (by rw[h.la];exact I)]at B;by_cases D:i=who
  ·subst D;rw[if_pos rfl]at B;exact J b B
  ·rw[if_neg D]at B;exact h.asks i b B
 ·show mX _ _ _ i (Xf (w.asks.set who o) i);rw[Y9 (by rw[h.la];exact I)];by_cases D:i=who
  ·subst D;rw[if_pos rfl];exact K
  ·rw[if_neg D];exact h.owns i H
theorem Zh.rS (h:Zh n k G w){e:Ev}(U:pF w.aB (wH w) G w.aC e)(H:e.aP=w.aA)(Z:∀i,w.since.getD i 0<w.aA)(ho:∀a∈w.events,oD a e):Zh n k G {w with events:=w.events++ [e]}:=by
 refine⟨h.base,h.msgs,fun i b I=>?_,h.owns,h.bI,h.dE,fun x B=>?_,?_,h.since,h.la,h.lt,h.ls,h.small,h.fZ,h.cls⟩
 ·have:=h.asks i b I;exact⟨this.mv,this.gJ,this.lt,this.key,this.op,this.own,this.cfg,this.cf,this.le,this.c,this.low,fun x B J D=>by
   rcases ag.1 B with B|B
   ·exact this.past x B J D
   ·rw[ab.1 B,H]at D;have h1:=Z i;have h2:w.aA<=w.since.getD i 0:=D;omega,this.st⟩
 ·rcases ag.1 B with B|B
  ·exact h.bV x B
  ·rw[ab.1 B];exact⟨U,Int.le_of_eq H⟩
 ·show(w.events++ [e]).Pairwise oD;rw[List.pairwise_append];exact⟨h.order,List.pairwise_singleton _ _,fun a K b O=>by rw[ab.1 O];exact ho a K⟩
theorem VC {a b:JC}(B:Qd a b=ae)(D:b≠a):Qd b a=true:=by
 rcases FQ D with h|h
 ·exact h
 ·rw[B]at h;cases h
theorem UQ {c:Xg}{P:BA->List Yb->Prop}{a:Za}(U:XS n k c)(Z:aG w.aB (G.cf o)=c)(H:oE c a P)(hl:Jh c<=a.from_.length)(hP:∀x l,P x l->∀t,G.sn o x t->∃v∈l,(v.n,v.who)=t){t:JC}(hs:ZV w.aB G o t):∃Y:List BA,Y.Nodup/\(∀x∈Y,x∈a.from_)/\k<=Y.length/\∀x∈Y,∃v∈Yv a.from_ a.L x,(v.n,v.who)=t:=by
 obtain⟨Q,I,J⟩:=hs;rw[Z]at I;obtain⟨Y,K,D,O⟩:=GD U ⟨H.nodup,H.mem,hl⟩ I;exact⟨Y,K,fun x B=>(D x B).1,O,fun x B=>hP _ _ (H.each x (D x B).1) t (J x (D x B).2)⟩
end
end
section
def Gh.write (G:Gh)(j:Nat)(t:JC)(s:BA)(o:Int):Gh:={G with
 W:=fun i u r=>G.W i u r∨(i=j/\u=t/\r=s)
 wt:=fun p=>if p=o then ac t else G.wt p}
section
variable {n k:Nat} {G:Gh} {w:Ya}
theorem iQ.mono {c:Xg}{W B:JC->BA->Prop}(K:∀t s,W t s->B t s)(h:iQ n k c W x v):iQ n k c B x v:=by
 obtain⟨t,s,p,D,H,I,J⟩:=h;exact⟨t,s,p,D,H,I,K t s J⟩
theorem YH.write {H:fX}(h:YH n k C H G act B){t:JC}(o:Int)(Z:j<C.length)(O:∀r,G.W j t r->r=s)(a0:s.size<=1000)(a2:0<=t.1/\t.1<=B/\0<=t.2/\t.2<6)(a3:∀c,G.cZ j=ac c->Qd t c.1=ae):YH n k C H (G.write j t s o) act B where
 iL:=h.iL
 held:=fun x i v K=>⟨(h.held x i v K).1,(h.held x i v K).2.mono fun _ _ U=>ai U⟩
 shut:=h.shut
 one:=fun i u r q D I=>by
  rcases D with D|⟨rfl,rfl,rfl⟩
  ·rcases I with I|⟨rfl,rfl,rfl⟩
   ·exact h.one i u r q D I
   ·exact O r D
  ·rcases I with I|⟨_,_,rfl⟩
   ·exact(O q I).symm
   ·rfl
 size:=fun i u r D=>by
  rcases D with D|⟨rfl,rfl,rfl⟩
  ·exact h.size i u r D
  ·exact a0
 fV:=fun i u r D=>by
  rcases D with D|⟨rfl,rfl,rfl⟩
  ·exact h.fV i u r D
  ·exact Z
 num:=fun i u r D=>by
  rcases D with D|⟨rfl,rfl,rfl⟩
  ·exact h.num i u r D
  ·exact a2
 low:=fun i u r c D J=>by
  rcases D with D|⟨rfl,rfl,rfl⟩
  ·exact h.low i u r c D J
  ·exact a3 c J
 fH:=h.fH
 dM:=fun i c J=>⟨ai (h.dM i c J).1,ai (h.dM i c J).2⟩
 dL:=h.dL
 eI:=h.eI
 cI:=h.cI
 sn:=h.sn
 bO:=h.bO
theorem JR.write {H:fX}{ops:Int}(j:Nat)(t:JC)(s:BA)(B:G.wt o=av):JR ops o act C C H H G (G.write j t s o) :=
 ⟨aO _,fun _ _=>rfl,fun _ _ _ h=>h,fun _ _ _=>rfl,fun _ _ _ h=>ai h,fun _ _=>rfl,fun _ _=>rfl,fun _ _=>rfl,fun p _=>by
  by_cases e:p=o
  ·exact ah ⟨e,by rw[e];exact B⟩
  ·exact ai (if_neg e),fun _ _=>rfl⟩
theorem Zh.wrote (h:Zh n k G w){a:Za}(ha:Xf w.asks who=ac a)(a4:a.st=.looking){t:JC}(b1:∀r,G.W (G.cl who) t r->r=s)(b2:s.size<=1000)(b3:0<=t.1/\t.1<=w.aA/\0<=t.2/\t.2<6)(b4:∀c,G.cZ (G.cl who)=ac c->Qd t c.1=ae)(a6:G.W (G.cl who) t s∨(t.2=(who:Int)/\a.put=T))(b5:∀u,ZV w.aB G a.op u->Qd t u=ae/\(a.put=T->u≠t)){a':Za}(b6:a'.aI=ae/\a'.who=a.who/\a'.key=a.key/\a'.op=a.op/\a'.config=a.config/\a'.c=a.c/\a'.put=a.put)(hk:a'.st=.keeping/\a'.tag=t/\a'.text=s/\a'.found=T/\a'.from_=[]):Zh n k (G.write (G.cl who) t s a.op) {w with asks:=w.asks.set who (ac a')}:=by
 have hb:=h.base.cI;have A:=h.asks who a ha;have a7:G.wt a.op=none:=by
  rcases A.st with B|B|B
  ·exact B.2.1
  ·rw[a4]at B;cases B.1
  ·rw[a4]at B;cases B
 have a5:G.cl who<w.aB.length:=by have:=A.le;omega
 have e:JR w.ops a.op w.aC w.aB w.aB (wH w) (wH w) G (G.write (G.cl who) t s a.op):=JR.write _ t s a7;have a8:∀i b,i≠who->Xf w.asks i=ac b->b.op≠a.op:=fun i b U a3 Z=>by
  have B:=(h.asks i b a3).own;rw[Z,A.own]at B;cases B;exact U rfl
 obtain⟨s1,s2,s3,I,s5,s6,s7⟩:=b6;obtain⟨k1,k2,k3,k4,k5⟩:=hk;have hs:∀{u},ZV w.aB (G.write (G.cl who) t s a.op) a.op u↔ZV w.aB G a.op u:=e.mD A.op (by rw[A.cf];exact a5);refine⟨h.base.write a.op a5 b1 b2 b3 b4,fun m hm=>?_,fun i b U=>?_,fun i U=>?_,fun b a3=>?_,h.dE,fun x J=>⟨e.ev nR hb.2 (h.bV x J).1,(h.bV x J).2⟩,h.order,h.since,by rw[az];exact h.la,h.lt,h.ls,h.small,fun o Z=>?_,h.cls⟩
 ·obtain⟨j,hj⟩:=h.msgs m hm;exact⟨j,e.msg (am _) hj⟩
 ·have a0:Xf (w.asks.set who (ac a')) i=ac b:=U;rw[Y9 (by rw[h.la];exact A.lt)]at a0;by_cases K:i=who
  ·subst K;rw[if_pos rfl]at a0;cases a0;refine⟨s1,by rw[s2];exact A.gJ,A.lt,by rw[s3];exact A.key,by rw[I];exact A.op,by rw[I];exact A.own,by rw[s5];exact A.cfg,by rw[I];exact A.cf,A.le,by rw[s6];exact A.c,fun c hc=>by rw[I];exact hs.2 (A.low c hc),fun x J hf ht=>?_,ah (ai ⟨k1,?_,k4,?_,fun u H=>?_,?_,?_,?_⟩)⟩
   ·obtain⟨u,B,O⟩:=A.past x J hf ht;exact⟨u,by rw[I];exact hs.2 B,O⟩
   ·rw[I,k2];exact if_pos rfl
   ·rw[k2,k3];exact ah ⟨rfl,rfl,rfl⟩
   ·rw[I]at H;rw[k2,s7];exact b5 u (hs.1 H)
   ·rw[k5];exact zg
   ·rw[k5];exact fun _ J=>absurd J ap
   ·rw[k5];exact fun _ J=>absurd J ap
  ·rw[if_neg K]at a0;exact e.ask (am _) nR hb.2 rfl (a8 i b K a0) (h.asks i b a0)
 ·show mX _ _ _ i (Xf (w.asks.set who (ac a')) i);rw[Y9 (by rw[h.la];exact A.lt)];by_cases K:i=who
  ·subst K;rw[if_pos rfl];have hold:∀j u r,G.W j u r->u.2=(i:Int)->G.cZ j=ac (u,r)∨j<G.cl i∨(j=G.cl i/\((∃b,ac a'=ac b/\b.st≠.looking/\b.put=T/\b.tag=u)∨(fT w.aB (wH w) j u/\∀b,ac a'=ac b->ZV w.aB (G.write (G.cl i) t s a.op) b.op u))):=fun j u r D H=>by
    rcases h.owns i U j u r D H with B|B|⟨B,O⟩
    ·exact ai B
    ·exact ah (ai B)
    ·refine ah (ah ⟨B,ah ?_⟩);rcases O with⟨b,a2,a9,_⟩|⟨O,h3⟩
     ·rw[ha]at a2;cases a2;exact absurd a4 a9
     ·refine⟨O,fun b a2=>?_⟩;cases a2;rw[I];exact hs.2 (h3 a ha)
   intro j u r D H;rcases D with D|⟨rfl,rfl,rfl⟩
   ·exact hold j u r D H
   ·rcases a6 with hn|⟨_,hp⟩
    ·exact hold _ _ _ hn H
    ·exact ah (ah ⟨rfl,ai ⟨a',rfl,by rw[k1];decide,by rw[s7];exact hp,k2⟩⟩)
  ·rw[if_neg K];refine e.owns rfl h.base.fV (fun j u r D H=>ai ?_) (fun _ _ hc=>hc) (fun b a2=>h.eL a2) (h.owns i U);rcases D with D|⟨rfl,rfl,rfl⟩
   ·exact D
   ·rcases a6 with hn|⟨O,_⟩
    ·exact hn
    ·rw[O]at H;exact absurd (by omega:i=who) K
 ·have M:=h.bI b a3;refine e.bI (am _) (fun Z=>?_) rfl rfl (fun b0 u r D=>?_) M
  ·have B:=M.own;rw[Z,A.own]at B;cases B
  ·rcases D with D|⟨B,_,_⟩
   ·exact b0 u r D
   ·have:=A.le;omega
 ·show(if o=a.op then ac t else G.wt o)=av;rw[if_neg (by have:=A.op;have:w.ops<=o:=Z;omega)];exact h.fZ o Z
end
end
section
section
variable {n k:Nat} {G:Gh} {w:Ya}
theorem Zh.eE (h:Zh n k G w){a:Za}(D:Xf w.asks who=ac a)(J:a.st≠.done):∃H,Zh n k H (w.after who a):=by
 have A:=h.asks who a D;unfold Ya.after;split
 ·rename_i e;exact absurd e J
 ·rename_i e;split
  ·rename_i I;refine⟨_,h.begin A.lt a.put fun b B=>?_⟩;rw[D]at B;cases B;rw[A.cfg]at I;exact⟨e,by omega⟩
  ·exact⟨G,h⟩
 ·exact⟨G,h⟩
theorem Zh.eH (h:Zh n k G w){a a':Za}(J:Xf w.asks who=ac a)(H:a'.op=a.op/\a'.put=a.put/\a'.tag=a.tag/\(a.st≠.looking->a'.st≠.looking))(hA:l8 w.aB (wH w) G w.aC w.ops w.events (w.since.getD who 0) who a'):Zh n k G (Ya.send {w with asks:=w.asks.set who (ac a')} [])/\Xf (Ya.send {w with asks:=w.asks.set who (ac a')} []).asks who=ac a':=by
 have A:=h.asks who a J;refine⟨(h.jK A.lt (o:=ac a') (fun b K=>by cases K;exact hA) fun j t s O U=>?_).send (fun _ Z=>absurd Z ap),?_⟩
 ·rcases h.owns who A.lt j t s O U with B|B|⟨B,I⟩
  ·exact ai B
  ·exact ah (ai B)
  ·refine ah (ah ⟨B,?_⟩);rcases I with⟨b,D,a0,a2,a3⟩|⟨I,h3⟩
   ·rw[J]at D;cases D;exact ai ⟨a',rfl,H.2.2.2 a0,by rw[H.2.1];exact a2,by rw[H.2.2.1];exact a3⟩
   ·refine ah ⟨I,fun b D=>?_⟩;cases D;rw[H.1];exact h3 a J
 ·show Xf (w.asks.set who (ac a')) who=ac a';rw[Y9 (by rw[h.la];exact A.lt),if_pos rfl]
theorem Zh.ends (h:Zh n k G w)(Z:∀i,w.since.getD i 0<w.aA){a a':Za}(K:Xf w.asks who=ac a)(hd:a'.st=.done)(hO:∀j t s,G.W j t s->t.2=(who:Int)->j=G.cl who->(∃b,ac a=ac b/\b.st≠.looking/\b.put=T/\b.tag=t)->fT w.aB (wH w) j t)
 (hE:pF w.aB (wH w) G w.aC ⟨who,a'.put,a'.found,if a'.found then a'.tag else(0,0),if a'.found then a'.text else⟨#[]⟩,w.since.getD who 0,w.aA⟩) (ho:∀x∈w.events,oD x ⟨who,a'.put,a'.found,if a'.found then a'.tag else(0,0),if a'.found then a'.text else⟨#[]⟩,w.since.getD who 0,w.aA⟩):
 Zh n k G ((Ya.send {w with asks:=w.asks.set who (ac a')} []).after who a'):=by
 have A:=h.asks who a K;have B:Zh n k G {w with asks:=w.asks.set who av}:=h.jK A.lt (o:=av) (fun b H=>by cases H) fun j t s I J=>by
  rcases h.owns who A.lt j t s I J with B|B|⟨B,D⟩
  ·exact ai B
  ·exact ah (ai B)
  ·refine ah (ah ⟨B,ah ⟨?_,fun b H=>by cases H⟩⟩);rcases D with D|⟨D,_⟩
   ·rw[K]at D;exact hO j t s I J B D
   ·exact D
 have D:=B.rS hE rfl Z ho;have O:=D.send (l:=[]) fun _ U=>by cases U
 unfold Ya.after;rw[hd];have e:(w.asks.set who (ac a')).set who av=w.asks.set who none:=List.set_set ..;show Zh n k G {L:=w.L++([]:List Zb).take (120-w.L.length),nodes:=w.nodes,asks:=(w.asks.set who (ac a')).set who av,since:=w.since,texts:=w.texts,mover:=w.mover,aB:=w.aB,aC:=w.aC,ops:=w.ops,aA:=w.aA,events:=w.events++ [⟨who,a'.put,a'.found,if a'.found then a'.tag else(0,0),if a'.found then a'.text else⟨#[]⟩,w.since.getD who 0,w.aA⟩]};rw[e];exact O
theorem Zh.nC (h:Zh n k G w)(e1:∀i,w.since.getD i 0<w.aA)(h9:∀j t s,G.W j t s->t.1<w.aA)(i4:0<w.aA)(hm:kD n k w.aB (wH w) G w.ops m j)(who:Nat):∃G',Zh n k G' (w.aD who m):=by
 unfold Ya.aD;cases O:Xf w.asks who with
 |none=>exact⟨G,h⟩
 |some a =>
  have A:=h.asks who a O;have hb:=h.base.cI;have c8:G.cl who<w.aB.length:=by have:=A.le;omega
  have hc:=h.base.iL _ c8;show ∃G',Zh n k G' ((Ya.send {w with asks:=w.asks.set who (ac (a.aD m).1)} (a.aD m).2).after who (a.aD m).1);by_cases ht:a.aM m=ae
  ·have e:a.aD m=(a,[]):=if_pos ht;rw[e];obtain⟨H,J⟩:=h.eH O (a':=a) ⟨rfl,rfl,rfl,fun h=>h⟩ A;refine H.eE J fun U=>?_
   rcases A.st with B|B|B
   ·rw[B.1]at U;cases U
   ·rw[B.1]at U;cases U
   ·rw[B]at U;cases U
  have e2:a.aM m=true:=by cases h:a.aM m with|false=>exact absurd h ht|true=>rfl
  obtain⟨t1,t2,t3,t4,t5,t6⟩:=Za.eQ e2;have hj:j=G.cl who:=by rw[hm.cfg,A.cfg]at t4;omega
  subst hj;have I:a.st=.looking∨a.st=.keeping:=by
   rcases A.st with B|B|B
   ·exact ai B.1
   ·exact ah B.1
   ·rw[B]at t2;exact absurd rfl t2
  have e3:a.st≠.sealing:=by rcases I with h|h<;>rw[h]<;>decide
  by_cases a9:m.shut=T
  ·have e:a.aD m=({a with st:=.refused},[]):=by
    unfold Za.aD;rw[if_neg ht,if_pos ⟨a9,e3⟩]
   rw[e];obtain⟨H,J⟩:=h.eH O (a':={a with st:=.refused}) ⟨rfl,rfl,rfl,fun _=>by dsimp only;decide⟩ ⟨A.mv,A.gJ,A.lt,A.key,A.op,A.own,A.cfg,A.cf,A.le,A.c,A.low,A.past,ah (ah rfl)⟩;exact H.eE J (by dsimp only;decide)
  have e4:m.shut=false:=by cases h:m.shut with|false=>rfl|true=>exact absurd h a9
  have e0:a.aD m=if(a.heard m).from_.length<Jh a.c then(a.heard m,[])
   else if a.st=.keeping then({a.heard m with st:=.done},[])
   else if(a.heard m).aF.found=ae then({(a.heard m).aF with st:=.done},[])
   else((a.heard m).aF.keeps,(a.heard m).aF.keeps.send JJ T):=by
   unfold Za.aD;rw[if_neg ht,if_neg fun h=>a9 h.1]
  have e5:m.from_∈(aG w.aB (G.cl who)).L:=by rw[<-A.c];exact t5
  have i0:(a.from_++ [m.from_]).Nodup->True:=fun _=>trivial
  have d0:a.from_.Nodup->(a.from_++ [m.from_]).Nodup:=fun hn=>by
   rw[ba];exact⟨hn,by simp,fun x D y hy e=>t6 (by rw[ab.1 hy]at e;exact e▸D)⟩
  have d1:(∀x∈a.from_,x∈(aG w.aB (G.cl who)).L)->∀x∈a.from_++ [m.from_],x∈(aG w.aB (G.cl who)).L:=fun U x D=>by
   rcases ag.1 D with D|D
   ·exact U x D
   ·rw[ab.1 D];exact e5
  rcases I with I|I
  ·
   obtain⟨a7,d2,hT⟩:G.wt a.op=av/\a.text.size<=1000/\oE (aG w.aB (G.cl who)) a fun x l=>(∀v∈l,v∈(wH w x (G.cl who)).1)/\∀t,G.sn a.op x t->∃v∈l,(v.n,v.who)=t:=by
    rcases A.st with B|B|B
    ·exact B.2
    ·rw[I]at B;cases B.1
    ·rw[I]at B;cases B
   have b0:m.kind=sW:=by rw[t1,I];rfl
   obtain⟨_,m2,m3⟩:=hm.told b0;rw[t3]at m3;have a0:oE (aG w.aB (G.cl who)) (a.heard m) fun x l=>(∀v∈l,v∈(wH w x (G.cl who)).1)/\∀t,G.sn a.op x t->∃v∈l,(v.n,v.who)=t:=by
    refine⟨?_,d0 hT.nodup,d1 hT.mem,fun x D=>?_⟩
    ·show(a.from_++ [m.from_]).length=(a.L++ [m.L]).length;rw[ak,ak,hT.len];rfl
    ·have e6:x∈a.from_++ [m.from_]:=D;show(∀v∈Yv (a.from_++ [m.from_]) (a.L++ [m.L]) x,_)/\∀t,G.sn a.op x t->∃v∈Yv (a.from_++ [m.from_]) (a.L++ [m.L]) x,_;rcases ag.1 e6 with D|D
     ·rw[GL hT.len D];exact hT.each x D
     ·rw[ab.1 D,AI hT.len t6];exact⟨m2,m3⟩
   by_cases a4:(a.heard m).from_.length<Jh a.c
   ·rw[e0,if_pos a4];obtain⟨H,J⟩:=h.eH O (a':=a.heard m) ⟨rfl,rfl,rfl,fun h=>h⟩ ⟨A.mv,A.gJ,A.lt,A.key,A.op,A.own,A.cfg,A.cf,A.le,A.c,A.low,A.past,ai ⟨I,a7,d2,a0⟩⟩;exact H.eE J (by show a.st≠.done;rw[I];decide)
   have e7:¬a.st=.keeping:=by rw[I];decide
   have hq:Jh (aG w.aB (G.cl who))<=(a.heard m).from_.length:=by rw[<-A.c];omega
   have hQ:jP (aG w.aB (G.cl who)) (a.heard m).from_:=⟨a0.nodup,a0.mem,hq⟩;have e8:aG w.aB (G.cf a.op)=aG w.aB (G.cl who):=by rw[A.cf]
   have b1:∀t,ZV w.aB G a.op t->∃Y:List BA,Y.Nodup/\(∀x∈Y,x∈(a.heard m).from_)/\k<=Y.length/\∀x∈Y,∃v∈Yv (a.heard m).from_ (a.heard m).L x,(v.n,v.who)=t:=fun t U=>UQ hc e8 a0 hq (fun x l hp=>hp.2) U
   have b2:∀x∈(a.heard m).from_,∀v∈Yv (a.heard m).from_ (a.heard m).L x,iQ n k (aG w.aB (G.cl who)) (G.W (G.cl who)) x v:=fun x D v Z=>(h.base.held _ _ _ ((a0.each x D).1 v Z)).2
   have d3:∀{t:JC} {s:BA} {a1:Za},a1.aI=ae->a1.who=a.who->a1.key=a.key->a1.op=a.op->a1.config=a.config->a1.c=a.c->a1.put=a.put->a1.tag=t->a1.text=s->a1.found=T->(∀r,G.W (G.cl who) t r->r=s)->s.size<=1000->(0<=t.1/\t.1<=w.aA/\0<=t.2/\t.2<6)->(∀c,G.cZ (G.cl who)=ac c->Qd t c.1=ae)->(G.W (G.cl who) t s∨(t.2=(who:Int)/\a.put=T))->(∀u,ZV w.aB G a.op u->Qd t u=ae/\(a.put=T->u≠t))->∃G',Zh n k G' ((Ya.send {w with asks:=w.asks.set who (ac a1.keeps)} (a1.keeps.send JJ T)).after who a1.keeps):=by
    intro t s a1 f1 f2 f3 f4 f5 f6 f7 f8 f9 e9 g1 g2 g3 g4 g5 g6;have ek:a1.keeps={a1 with st:=.keeping,from_:=[],L:=[]}:=by unfold Za.keeps;rw[f1];rfl
    rw[ek];have H:=h.wrote O I g1 g2 g3 g4 g5 g6 (a':={a1 with st:=.keeping,from_:=[],L:=[]}) ⟨f1,f2,f3,f4,f5,f6,f7⟩ ⟨rfl,f8,f9,e9,rfl⟩;refine⟨G.write (G.cl who) t s a.op,?_⟩;refine Zh.send H fun x D=>⟨G.cl who,?_⟩
    obtain⟨i,hi,rfl⟩:=aq.1 D;refine⟨by show a1.key=wX;rw[f3];exact A.key,by show a1.op<w.ops;rw[f4];exact A.op,by show a1.config=_;rw[f5];exact A.cfg,c8,fun h=>absurd h (by dsimp only;decide),fun h=>absurd h (by dsimp only;decide),fun h=>absurd h (by dsimp only;decide),fun h=>absurd h (by dsimp only;decide),fun _=>?_,fun h=>absurd h (by dsimp only;decide)⟩;have d4:=List.mem_range.1 hi;refine⟨t,s,i,?_,?_,?_,ah ⟨rfl,rfl,rfl⟩,?_⟩
    ·show [Za.sQ {a1 with st:=.keeping,from_:=[],L:=[]} i]=_;unfold Za.sQ gU;show [(⟨a1.tag.1,a1.tag.2,(a1.text.size:Int),(i:Int),JW a1.c.k.toNat a1.text i⟩:Yb)]=_;rw[f8,f9,f6,A.c,hc.k_,aw]
    ·rw[f6,A.c,hc.len]at d4;exact d4
    ·show Yc a1.c.L i=Yc (aG w.aB (G.cl who)).L i;rw[f6,A.c]
    ·show(if a1.op=a.op then ac t else _)=_;rw[f4,if_pos rfl]
   rw[e0,if_neg a4,if_neg e7];by_cases hp:a.put=T
   ·
    have ef:(a.heard m).aF={a.heard m with tag:=(XF (a.heard m).L+1,a.who),found:=T}:=by
     unfold Za.aF;rw[if_pos (show(a.heard m).put=T from hp)];rfl
    rw[ef,if_neg (by dsimp only;decide)];have b3:∀u,(∃x∈(a.heard m).from_,∃v∈Yv (a.heard m).from_ (a.heard m).L x,(v.n,v.who)=u)->u.1<=XF (a.heard m).L:=fun u ⟨x,D,v,Z,K⟩=>by
     have H:=(IM a0.nodup a0.len).2 ⟨x,D,Z⟩;obtain⟨s,p,_,_,_,hw⟩:=uJ (b2 x D v Z);have J:=h.base.num _ _ _ hw;have B:=h.base.bO;have h4:=OF H (by have:v.n<=w.aA:=J.2.1;omega);rw[<-K];exact h4
    have g0:∀u,ZV w.aB G a.op u->u.1<=XF (a.heard m).L:=fun u K=>by
     obtain⟨Y,_,y2,y3,y4⟩:=b1 u K;have i1:=hc.k1;cases Y with
     |nil=>simp at y3;omega
     |cons x Y =>
      obtain⟨v,Z,K⟩:=y4 x (by simp);exact b3 u ⟨x,y2 x (by simp),v,Z,K⟩
    have b4:∀u,ZV w.aB G a.op u->Qd (XF (a.heard m).L+1,a.who) u=ae/\(a.put=T->u≠(XF (a.heard m).L+1,a.who)):=fun u K=>by
     have H:=g0 u K;constructor
     ·cases e:Qd (XF (a.heard m).L+1,a.who) u with
      |false=>rfl
      |true=>rw[X8]at e;dsimp only at e;omega
     ·intro _ e;rw[e]at H;dsimp only at H;omega
    have i2:=sH (a.heard m).L;have g7:XF (a.heard m).L+1<=w.aA:=by
     have:XF (a.heard m).L<=w.aA-1:=SX (by omega) fun v Z=>by
      obtain⟨x,D,Z⟩:=(IM a0.nodup a0.len).1 Z;obtain⟨s,p,_,_,_,hw⟩:=uJ (b2 x D v Z);have:=h9 _ _ _ hw;dsimp only at this;omega
     omega
    have d5:=A.gJ;have i3:=A.lt;refine d3 (t:=(XF (a.heard m).L+1,a.who)) (s:=a.text) (a1:={a.heard m with tag:=(XF (a.heard m).L+1,a.who),found:=T}) A.mv rfl rfl rfl rfl rfl rfl rfl rfl rfl (fun r hr=>?_) d2 ⟨by dsimp only;omega,g7,by dsimp only;omega,by dsimp only;omega⟩ (fun c a5=>(b4 _ (A.low c a5)).1) (ah ⟨d5,hp⟩) b4;exfalso;have d6:∀u,ZV w.aB G a.op u->u≠(XF (a.heard m).L+1,a.who):=fun u K=>(b4 u K).2 hp
    rcases h.owns who A.lt _ _ _ hr d5 with H|H|⟨_,J⟩
    ·exact d6 _ (A.low _ H) rfl
    ·omega
    ·rcases J with⟨b,a3,b5,_⟩|⟨_,B⟩
     ·rw[O]at a3;cases a3;exact b5 I
     ·exact d6 _ (B a O) rfl
   ·
    have d7:a.put=false:=by cases h:a.put with|false=>rfl|true=>exact absurd h hp
    have g8:(a.heard m).c.k.toNat=k:=by show a.c.k.toNat=k;rw[A.c,hc.k_];rfl
    have g9:(a.heard m).c.n.toNat=n:=by show a.c.n.toNat=n;rw[A.c,hc.n_];rfl
    have h0:(a.heard m).c.L=(aG w.aB (G.cl who)).L:=by show a.c.L=_;rw[A.c]
    have ef:(a.heard m).aF={a.heard m with tag:=(Ys n k (Xq (a.heard m).from_ (a.heard m).L (aG w.aB (G.cl who)).L).flatten (Xq (a.heard m).from_ (a.heard m).L (aG w.aB (G.cl who)).L).flatten).1,text:=(Ys n k (Xq (a.heard m).from_ (a.heard m).L (aG w.aB (G.cl who)).L).flatten (Xq (a.heard m).from_ (a.heard m).L (aG w.aB (G.cl who)).L).flatten).2.1,found:=(Ys n k (Xq (a.heard m).from_ (a.heard m).L (aG w.aB (G.cl who)).L).flatten (Xq (a.heard m).from_ (a.heard m).L (aG w.aB (G.cl who)).L).flatten).2.2}:=by
     unfold Za.aF;rw[if_neg (show ¬(a.heard m).put=T from hp),g8,g9,h0]
    rw[ef];rcases BP hc (h.base.IA (G.cl who)) hQ b2 with⟨b6,h5⟩|⟨t,s,b6,hw,b3⟩
    ·rw[b6,if_pos rfl];refine⟨G,h.ends e1 O rfl (fun j t s _ _ _ ⟨b,a3,b5,_⟩=>?_) ⟨fun a2=>?_,fun hf=>?_⟩ fun x D b7 hf=>?_⟩
     ·cases a3;exact absurd I b5
     ·have:a.put=true:=a2;rw[d7]at this;cases this
     ·cases hf
     ·obtain⟨t,H,_⟩:=A.past x D hf b7;exact absurd (b1 t H) (h5 t)
    ·rw[b6,if_neg (by dsimp only;decide)];have h6:=h.base.num _ _ _ hw;refine d3 (t:=t) (s:=s) (a1:={a.heard m with tag:=t,text:=s,found:=T}) A.mv rfl rfl rfl rfl rfl rfl rfl rfl rfl (fun r hr=>h.base.one _ _ _ _ hr hw) (h.base.size _ _ _ hw) h6 (fun c a5=>h.base.low _ _ _ c hw a5) (ai hw) fun u K=>⟨b3 u (b1 u K),fun a2=>by rw[d7]at a2;cases a2⟩
  ·
   obtain⟨a7,a6,hW,b8,hK⟩:G.wt a.op=ac a.tag/\a.found=T/\G.W (G.cl who) a.tag a.text/\(∀t,ZV w.aB G a.op t->Qd a.tag t=ae/\(a.put=T->t≠a.tag))/\qZ (aG w.aB (G.cl who)) a fun x=>fW (wH w) x (G.cl who) a.tag:=by
    rcases A.st with B|B|B
    ·rw[I]at B;cases B.1
    ·exact B.2
    ·rw[I]at B;cases B
   have b0:m.kind=iS:=by rw[t1,I];rfl
   obtain⟨t,m1,m2,_⟩:=hm.kept b0;rw[t3,a7]at m1;cases m1;have a8:qZ (aG w.aB (G.cl who)) (a.heard m) fun x=>fW (wH w) x (G.cl who) a.tag:=by
    refine⟨d0 hK.nodup,d1 hK.mem,fun x D=>?_⟩;rcases ag.1 (show x∈a.from_++ [m.from_]from D)with D|D
    ·exact hK.each x D
    ·rw[ab.1 D];exact m2 e4
   by_cases a4:(a.heard m).from_.length<Jh a.c
   ·rw[e0,if_pos a4];obtain⟨H,J⟩:=h.eH O (a':=a.heard m) ⟨rfl,rfl,rfl,fun h=>h⟩ ⟨A.mv,A.gJ,A.lt,A.key,A.op,A.own,A.cfg,A.cf,A.le,A.c,A.low,A.past,ah (ai ⟨I,a7,a6,hW,b8,a8⟩)⟩;exact H.eE J (by show a.st≠.done;rw[I];decide)
   ·rw[e0,if_neg a4,if_pos I];have d8:fT w.aB (wH w) (G.cl who) a.tag:=⟨(a.heard m).from_,⟨a8.nodup,a8.mem,by rw[<-A.c];omega⟩,a8.each⟩;have d9:(if({a.heard m with st:=.done}:Za).found then({a.heard m with st:=.done}:Za).tag else(0,0))=a.tag:=if_pos a6;have h7:(if({a.heard m with st:=.done}:Za).found then({a.heard m with st:=.done}:Za).text else⟨#[]⟩)=a.text:=if_pos a6;refine⟨G,h.ends e1 O rfl (fun j t s _ _ hj ⟨b,a3,_,_,h8⟩=>?_) ⟨fun _=>a6,fun _=>?_⟩ fun x D b7 hf=>?_⟩
    ·cases a3;rw[hj,<-h8];exact d8
    ·rw[d9,h7];refine⟨G.cl who,A.le,d8,hW,fun a2 c a5=>?_⟩;have H:=b8 _ (A.low c a5);exact VC H.1 (H.2 a2)
    ·obtain⟨t,H,J⟩:=A.past x D hf b7;have B:=b8 t H;rw[d9];refine⟨a6,IT B.1 J,fun a2 he=>?_⟩;rw[show a.tag=x.tag from he]at B;exact B.2 a2 (yH J B.1)
end
end
end Go.Proofs.YtgapmoniajcliaaGreatDoor
