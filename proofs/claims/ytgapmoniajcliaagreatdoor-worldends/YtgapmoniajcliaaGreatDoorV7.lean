/- Texts laid together. -/
import Derived.Test.YtgapmoniajcliaaGreatDoorV6
import Derived.DeepKeys4
set_option maxRecDepth 100000
set_option maxHeartbeats 4000000
open List renaming mem_singleton->aa,mem_append->ae,length_append->ap,take_length->aq,foldl_cons->ar
open Bool renaming false->ab,true->ac,and_eq_true->ak
open Option renaming some->af,none->N
open Go.World.ownsRow renaming kept->ag
open Go.World renaming cell?_alloc_at->ah
open Go renaming Value->ai,Calls->am,Addr->av,DataW->ze
open Go.RowKit renaming Below->aj
open Prod renaming ext->an
namespace Go.Proofs.YtgapmoniajcliaaGreatDoor
open Go.Proofs.Tryz
open Go.RowKit
variable {c:Xg}{LL:List (List Yb)}{a:Za}{m:Zb}{w w':World}{b n k:Nat}{all:List Yb}{t:Int×Int}{v:ai}{D:ze ai}
structure eT where
 put:Bool
 who:Int
 op:Int
 config:Int
 c:Xg
 key:BA
 text:BA
def eT.fits (b:eT):Prop:=0<=b.who/\b.who<6/\0<=b.op/\0<=b.config/\(b.put=ac->b.text.size<=1000)
instance (b:eT):Decidable b.fits:=by unfold eT.fits;exact inferInstance
def JX (b:eT):Int×Int:=if 0<(Jg b.c).1 then Jg b.c else if Jo b.key=ab then(4,-1)else if b.fits then(0,-1)else(2,-1)
theorem WO {b:eT}(h:0<(Jg b.c).1):JX b=Jg b.c:=if_pos h
theorem LI {b:eT}(h:¬0<(Jg b.c).1)(B:Jo b.key=ab):JX b=(4,-1):=by unfold JX;rw[if_neg h,if_pos B]
theorem FZ {b:eT}(h:¬0<(Jg b.c).1)(B:Jo b.key=ac)(D:¬b.fits):JX b=(2,-1):=by unfold JX;rw[if_neg h,if_neg (by rw[B];decide),if_neg D]
theorem KZ {b:eT}(h:¬0<(Jg b.c).1)(B:Jo b.key=ac)(D:b.fits):JX b=(0,-1):=by unfold JX;rw[if_neg h,if_neg (by rw[B];decide),if_pos D]
def jH (c:Xg)(LL:List (List Yb)):Int×Int:=if 0<(Jg c).1 then Jg c else if c.n<(LL.length:Int)then(3,-1)else(0,-1)
def jB (c:Xg)(LL:List (List Yb)):(Int×Int)×BA×Bool:=if 0<(jH c LL).1 then((0,0),⟨#[]⟩,ab)else Ys c.n.toNat c.k.toNat LL.flatten LL.flatten
theorem P0 (h:0<(Jg c).1):jH c LL=Jg c/\jB c LL=((0,0),⟨#[]⟩,ab):=by
 have e:jH c LL=Jg c:=if_pos h;exact⟨e,by unfold jB;rw[e,if_pos h]⟩
theorem LD (h:¬0<(Jg c).1)(B:c.n<(LL.length:Int)):jH c LL=(3,-1)/\jB c LL=((0,0),⟨#[]⟩,ab):=by
 have e:jH c LL=(3,-1):=by unfold jH;rw[if_neg h,if_pos B]
 exact⟨e,by unfold jB;rw[e];rfl⟩
theorem CM (h:¬0<(Jg c).1)(B:¬c.n<(LL.length:Int)):jH c LL=(0,-1)/\jB c LL=Ys c.n.toNat c.k.toNat LL.flatten LL.flatten:=by
 have e:jH c LL=(0,-1):=by unfold jH;rw[if_neg h,if_neg B]
 exact⟨e,by unfold jB;rw[e];rfl⟩
def JY (who:Int):BA:=Jp [99,48+who.toNat]
def eT.ask (b:eT):Za:=⟨JY b.who,b.key,b.who,b.op,b.config,b.c,⟨0,0,[]⟩,b.put,ab,.looking,[],[],(0,0),if b.put then b.text else⟨#[]⟩,ab⟩
def pP (H:World->Nat->Nat->(Nat->Prop)->Za->Prop)(ad:Nat->av)(b:eT)(B:Nat)(e:Ending)(w':World):Prop :=
 ∃D,Jd w' ad D (JX b).1 (JX b).2/\((0<(JX b).1/\e=.returned (.tuple #[.pointer N,D]))∨¬0<(JX b).1/\∃h S,e=.returned (.tuple #[.pointer (af ⟨h,0,N⟩),D])/\H w' B h S b.ask)
structure WS (ad:Nat->av) (X:World->Prop) (Ak:World->Nat->Nat->(Nat->Prop)->Za->Prop):Prop where
 dH:∀{w B h S a},Ak w B h S a->∀k,S k->B<=k/\k<w.heap.size
 aS:∀{w w' B h S a},Ak w B h S a->aj B w w'->(∀k,S k->w'.heap[k]?=w.heap[k]?)->Ak w' B h S a
 put:∀(b:eT) (p:Option av) (cap:Nat) (w:World),Yn w b.c p cap->b.put=ac->b.key.size<=1000->b.text.size<=3000->Zt b.who->Zt b.op->Zt b.config->Zp w ad->X w->am prog 54 #[.int .i64 b.who,.int .i64 b.op,iE b.c (.slice p b.c.L.length cap),.int .i64 b.config,.string b.key,.string b.text] w fun e w'=>pP Ak ad b w.heap.size e w'/\aj w.heap.size w w'
 get:∀(b:eT) (p:Option av) (cap:Nat) (w:World),Yn w b.c p cap->b.put=ab->b.key.size<=1000->Zt b.who->Zt b.op->Zt b.config->Zp w ad->X w->am prog 55 #[.int .i64 b.who,.int .i64 b.op,iE b.c (.slice p b.c.L.length cap),.int .i64 b.config,.string b.key] w fun e w'=>pP Ak ad b w.heap.size e w'/\aj w.heap.size w w'
 begin:∀{w B h S a},Ak w B h S a->X w->am prog 56 #[.pointer (af ⟨h,0,N⟩)] w fun e w'=>(∃p c,e=.returned (.slice p a.begin.length c)/\pD w.heap.size w' p a.begin)/\∃S',Ak w' B h S' a/\Yd S S' w w'
 aD:∀{w B h S a} (x:Zb×Lv),Ak w B h S a->Jn w x->a.small x.1->(∀v∈x.1.L,Jt v)->(∀W:World,w.heap.size<=W.heap.size->(∀k,k<w.heap.size->¬S k->W.heap[k]?=w.heap[k]?)->Zp W ad/\X W)->am prog 61 #[.pointer (af ⟨h,0,N⟩),Z1 x.1 (fI x.2)] w fun e w'=>(∃p c,e=.returned (.slice p (a.aD x.1).2.length c)/\pD w.heap.size w' p (a.aD x.1).2)/\∃S',Ak w' B h S' (a.aD x.1).1/\Yd S S' w w'
 state:∀{w B h S a},Ak w B h S a->am prog 47 #[.pointer (af ⟨h,0,N⟩)] w fun e w'=>e=.returned (.string a.st.word)/\aj w.heap.size w w'
 answer:∀{w B h S a},Ak w B h S a->am prog 82 #[.pointer (af ⟨h,0,N⟩)] w fun e w'=>e=.returned (if a.st=.done/\a.found=ac then .tuple #[.agg #[.int .i64 a.tag.1,.int .i64 a.tag.2],.string a.text,.bool ac]else .tuple #[.agg #[.int .i64 0,.int .i64 0],.string ⟨#[]⟩,.bool ab])/\aj w.heap.size w w'
def fU (a:Za):Za×List Zb:=if a.from_.length<Jh a.c then(a,[])else if a.aF.found=ab then({a.aF with st:=.done},[])else(a.aF.keeps,a.aF.keeps.send JJ ac)
theorem pW (h:a.aM m=ab):a.aD m=(a,[]):=if_pos h
theorem qQ (h:a.aM m=ac)(B:m.shut=ac)(D:a.st≠.sealing):a.aD m=({a with st:=.refused},[]):=by
 unfold Za.aD;rw[if_neg (by rw[h];decide),if_pos ⟨B,D⟩]
theorem H8 (h:a.aM m=ac)(D:m.shut=ab)(H:a.st=.looking):a.aD m=fU (a.heard m):=by
 unfold Za.aD fU;rw[if_neg (by rw[h];decide),if_neg (fun e=>by rw[D]at e;cases e.1)];by_cases B:(a.heard m).from_.length<Jh a.c
 ·rw[if_pos B];exact(if_pos B).symm
 ·rw[if_neg B,if_neg (by rw[H];intro e;cases e)];exact(if_neg B).symm
theorem uB (h:a.aM m=ac)(D:m.shut=ab)(H:a.st=.keeping):a.aD m=(if(a.heard m).from_.length<Jh a.c then a.heard m else {a.heard m with st:=.done},[]):=by
 unfold Za.aD;rw[if_neg (by rw[h];decide),if_neg (fun e=>by rw[D]at e;cases e.1)];by_cases B:(a.heard m).from_.length<Jh a.c
 ·rw[if_pos B,if_pos B]
 ·rw[if_neg B,if_neg B,if_pos H]
structure JU (a:Za):Prop where
 cfg:¬0<(Jg a.c).1
 key:a.key.size<=100
 name:a.name.size<=100
 still:a.aI=ab
 kW:0<=a.who/\a.who<6
 tJ:0<=a.op/\a.op<=9223372036854775807
 sD:0<=a.config/\a.config<=9223372036854775807
 text:a.text.size<=1000
 st:a.st≠.sealing
 nodup:a.from_.Nodup
 sub:∀x∈a.from_,x∈a.c.L
 both:a.from_.length=a.L.length
 aS:a.st=.keeping->a.found=ac
 cM:∀l∈a.L,∀v∈l,Jt v
theorem EB (K:a.st≠.sealing)(h:a.aM m=ac):(a.st=.looking∨a.st=.keeping)/\m.from_∈a.c.L/\m.from_∉a.from_:=by
 unfold Za.aM at h;rw[ak,ak]at h;obtain⟨H,I,D⟩:=h;refine⟨?_,Zl.1 I,fun J=>by rw[Zl.2 J]at D;cases D⟩;have B:=(of_decide_eq_true H).1;cases e:a.st with
 |looking=>exact Or.inl rfl
 |sealing=>exact absurd e K
 |keeping=>exact Or.inr rfl
 |done=>rw[e]at B;exact absurd rfl B
 |refused=>rw[e]at B;exact absurd rfl B
theorem JU.heard (h:JU a)(K:a.aM m=ac)(O:∀v∈m.L,Jt v):JU (a.heard m):=by
 obtain⟨_,H,I⟩:=EB h.st K;refine⟨h.cfg,h.key,h.name,h.still,h.kW,h.tJ,h.sD,h.text,h.st,?_,?_,?_,h.aS,?_⟩
 ·show(a.from_++ [m.from_]).Nodup;rw[List.nodup_append];exact⟨h.nodup,by simp,fun x B y J=>by rw[aa.1 J];intro e;exact I (e▸B)⟩
 ·intro x B;rcases ae.1 B with B|B
  ·exact h.sub x B
  ·rw[aa.1 B];exact H
 ·show(a.from_++ [m.from_]).length=(a.L++ [m.L]).length;simp[h.both]
 ·intro l D;rcases ae.1 D with D|D
  ·exact h.cM l D
  ·rw[aa.1 D];exact O
theorem Jop (h:JU a):a.aF.text.size<=1000:=by
 unfold Za.aF;split
 ·exact h.text
 ·obtain⟨⟨B,_,_⟩,_⟩:=Xm h.cfg;exact y9 (by omega) _ _ (by decide)
theorem JU.ended (h:JU a){st:St}(B:st=.done∨st=.refused):JU {a with st:=st}:=⟨h.cfg,h.key,h.name,h.still,h.kW,h.tJ,h.sD,h.text,(by intro e;rcases B with B|B<;>rw[B]at e<;>cases e),h.nodup,h.sub,h.both,(fun e=>by rcases B with B|B<;>rw[B]at e<;>cases e),h.cM⟩
theorem JU.found (h:JU a)(a0:a.st=.looking):JU a.aF:=by
 obtain⟨D,J,K,O,U,Z,e7,H,B,I,_⟩:=YE a;exact⟨by rw[D];exact h.cfg,by rw[J];exact h.key,by rw[K];exact h.name,by rw[O];exact h.still,by rw[U];exact h.kW,by rw[Z];exact h.tJ,by rw[e7];exact h.sD,Jop h,by rw[H];exact h.st,by rw[B];exact h.nodup,by rw[B,D];exact h.sub,by rw[B,I];exact h.both,(fun e=>by rw[H,a0]at e;cases e),by rw[I];exact h.cM⟩
theorem MG (h:a.aI=ab):a.keeps={a with st:=.keeping,from_:=[],L:=[]}:=by
 unfold Za.keeps;rw[h];rfl
theorem JU.keeps (h:JU a)(H:a.found=ac):JU a.keeps:=by
 rw[MG h.still];exact⟨h.cfg,h.key,h.name,h.still,h.kW,h.tJ,h.sD,h.text,(by intro e;cases e),List.nodup_nil,(fun x B=>by cases B),rfl,(fun _=>H),(fun l D=>by cases D)⟩
theorem Jqd (ad:Nat->av)(p:Option av)(l:List BA)(c:Nat)(w:World)(H:l.length<=1000)(I:l.length<=c)(J:Strs w p l)(B:Zp w ad):
 am prog 28 #[.slice p l.length c] w fun e w'=>(∃D,e=.returned D/\Jd w' ad D (Xj l).1 (Xj l).2)/\aj w.heap.size w w':=by
 exact IF ad p l c w H I J ⟨B.c1,B.c3,B.c5⟩
structure k8 (w:World) (b:Nat) (c:Xg) (lv:ai):Prop where
 f0:w.cell? ⟨b,0,N⟩=af (.int .i64 c.n)
 f1:w.cell? ⟨b,1,N⟩=af (.int .i64 c.k)
 f2:w.cell? ⟨b,2,N⟩=af lv
theorem k8.below {lv:ai}(h:k8 w b c lv)(B:aj w.heap.size w w'):k8 w' b c lv :=
 ⟨(B.cell (Yl h.f0)).trans h.f0,(B.cell (Yl h.f0)).trans h.f1,(B.cell (Yl h.f0)).trans h.f2⟩
theorem AA (w:World)(c:Xg)(lv:ai)(t:TypeId):k8 (w.alloc (.cells #[.int .i64 c.n,.int .i64 c.k,lv] t)) w.heap.size c lv :=
 ⟨by rw[ah _ _ _ _ rfl];rfl,by rw[ah _ _ _ _ rfl];rfl,by rw[ah _ _ _ _ rfl];rfl⟩
theorem qU (ad:Nat->av)(c:Xg)(p:Option av)(cap:Nat)(w:World)(Z:Yn w c p cap)(hE:Zp w ad):
 am prog 32 #[iE c (.slice p c.L.length cap)] w fun e w'=>(∃J,e=.returned J/\Jd w' ad J (Jg c).1 (Jg c).2)/\aj w.heap.size w w':=by
 obtain⟨K,a0⟩:=Xb (w.alloc (.cells #[.int .i64 c.n,.int .i64 c.k,.slice p c.L.length cap] 49));have a2:=Zk a0;have a3:k8 K w.heap.size c (.slice p c.L.length cap):=by rw[a0];exact AA w c _ _
 have a4:=hE.below a2;have a5:Hid (am prog 28 #[.slice p c.L.length cap] K fun e w'=>(∃J,e=.returned J/\Jd w' ad J (Xj c.L).1 (Xj c.L).2)/\aj K.heap.size K w'):=Jqd ad p c.L cap K Z.len Z.room (Z.strs.below a2) a4;have a7:Hid _:=a0;have a6:Hid _:=a2;have O:Hid (∀W,am prog 53 #[.int .i64 c.n,.int .i64 c.k] W fun e w'=>e=.returned (.bool (decide (1<=c.k/\c.k<=c.n/\c.n<=12)))/\w'=W):=fun W=>xC c.n c.k W
 have q1:=a4.c1;have q2:=a4.c2;have f0:=a3.f0;have f1:=a3.f1;have f2:=a3.f2;have b0:Hid (∀W,Jd W ad (.iface 287 (.pointer (af (ad 1)))) 2 (-1)):=fun W=>Jd.b8 1 (by decide)
 have b1:Hid (∀W,Jd W ad (.iface 287 (.pointer (af (ad 2)))) 3 (-1)):=fun W=>Jd.b8 2 (by decide)
 have b4:=Z.len;unfold iE;clear a0 a2 a3 a4 hE Z;by_cases B:1<=c.k/\c.k<=c.n/\c.n<=12
 ·have I:Hid (∀W,am prog 53 #[.int .i64 c.n,.int .i64 c.k] W fun e w'=>e=.returned (.bool ac)/\w'=W):=fun W=>by have:=O.out W;rw[decide_eq_true B]at this;exact this
  by_cases hn:(c.L.length:Int)=c.n
  ·have D:Hid (Jg c=Xj c.L):=wU B hn;rw[D.out];obtain⟨n,k,L⟩:=c;dsimp only at *;subst hn;clear O D B;generalize Xj L=R at *;go_enter func32,ntmps32;go_wp2_with fail
   rw[<-a7.out];refine(I.out _).mono ?_;rintro e U ⟨rfl,H⟩;rw[H];clear H U I;go_wp2_with fail
   refine a5.out.mono ?_;rintro e w3 ⟨⟨J,rfl,a8⟩,a9⟩;have b2:Hid _:=a6.out.trans (a9.mono a6.out.size);have b3:Hid _:=a8;clear a8 a9 a5;go_wp2;go_ret;exact⟨⟨_,rfl,b3.out⟩,b2.out⟩
  ·have D:Hid (Jg c=(3,-1)):=FM B hn;rw[D.out];obtain⟨n,k,L⟩:=c;dsimp only at *;clear O D B a5;go_enter func32,ntmps32;go_wp2_with fail
   rw[<-a7.out];refine(I.out _).mono ?_;rintro e U ⟨rfl,H⟩;rw[H];clear H U I;go_wp2;go_ret;exact⟨⟨_,rfl,b1.out _⟩,a6.out⟩
 ·have D:Hid (Jg c=(2,-1)):=vZ B;have I:Hid (∀W,am prog 53 #[.int .i64 c.n,.int .i64 c.k] W fun e w'=>e=.returned (.bool ab)/\w'=W):=fun W=>by have:=O.out W;rw[decide_eq_false B]at this;exact this
  rw[D.out];obtain⟨n,k,L⟩:=c;dsimp only at *;clear O D B a5;go_enter func32,ntmps32;go_wp2_with fail
  rw[<-a7.out];refine(I.out _).mono ?_;rintro e U ⟨rfl,H⟩;rw[H];clear H U I;go_wp2;go_ret;exact⟨⟨_,rfl,b0.out _⟩,a6.out⟩
theorem JlQ (ad:Nat->av)(c:Xg)(p:Option av)(cap:Nat)(w:World)(hc:Yn w c p cap)(hE:Zp w ad):
 am prog 118 #[iE c (.slice p c.L.length cap)] w fun e w'=>(∃K,e=.returned (.tuple #[.int .i64 ((if 0<(Jg c).1 then 0 else Jh c:Nat):Int),K])/\Jd w' ad K (Jg c).1 (Jg c).2)/\aj w.heap.size w w':=by
 obtain⟨w1,O⟩:=Xb (w.alloc (.cells #[.int .i64 c.n,.int .i64 c.k,.slice p c.L.length cap] 49));have U:=Zk O;have J:k8 w1 w.heap.size c (.slice p c.L.length cap):=by rw[O];exact AA w c _ _
 have B:=qU ad c p cap w1 (hc.below U) (hE.below U);have a3:Hid _:=O;have Z:Hid _:=U;have a4:Hid _:=J;have f0:=J.f0;have f1:=J.f1;have f2:=J.f2;unfold iE at B ⊢;clear O U J hE hc;by_cases D:0<(Jg c).1
 ·rw[if_pos D];have HP:Hid _:=D;clear D;generalize Jg c=R at *;obtain⟨n,k,L⟩:=c;dsimp only at *;go_enter func118,ntmps118;go_wp2_with fail
  rw[<-a3.out];refine B.mono ?_;rintro e w3 ⟨⟨K,rfl,H⟩,I⟩;have a0:Hid _:=Z.out.trans (I.mono Z.out.size);have a5:Hid _:=H;obtain⟨et,eu,rfl⟩:=H.some HP.out;clear H I B;go_wp2
  go_ret2
  exact⟨⟨_,rfl,a5.out⟩,a0.out⟩
 ·obtain⟨hf,hn,h0,_,_⟩:=Xm D;rw[if_neg D,h0];rw[h0]at B;have a6:Hid ((c.n+c.k+1)/2=((Jh c:Nat):Int)):=by
   show _=_;unfold Jh;omega
  have a7:1<=c.k:=hf.1;have a8:=hf.2.1;have a9:c.n<=12:=hf.2.2;clear D hn h0 hf;generalize Jh c=en at *;obtain⟨n,k,L⟩:=c;dsimp only at *;go_enter func118,ntmps118;go_wp2_with fail
  rw[<-a3.out];refine B.mono ?_;rintro e w3 ⟨⟨K,rfl,H⟩,I⟩;have a0:Hid _:=Z.out.trans (I.mono Z.out.size);have a2:=a4.out.below I;have g0:=a2.f0;have g1:=a2.f1;dsimp only at g0 g1;obtain rfl:=Jd.isNil H;clear H I B a2 f0 f1 f2;go_wp2
  go_ret2
  exact⟨⟨_,by rw[a6.out];rfl,Jd.nil _ _⟩,a0.out⟩
theorem X8 {a b:Int×Int}:Qd a b=ac↔a.1<b.1∨a.1=b.1/\a.2<b.2:=by simp[Qd]
theorem yQ {a b c:Int×Int}(B:Qd a b=ac)(D:Qd b c=ac):Qd a c=true:=by
 rw[X8]at *;omega
theorem IL {a b:Int×Int}(B:Qd a b=ab)(D:Qd b a=ab):a=b:=by
 have H:¬(a.1<b.1∨a.1=b.1/\a.2<b.2):=fun h=>by rw[X8.2 h]at B;cases B
 have I:¬(b.1<a.1∨b.1=a.1/\b.2<a.2):=fun h=>by rw[X8.2 h]at D;cases D
 exact an (by omega) (by omega)
def Xp (n k:Nat)(all:List Yb)(t:Int×Int):Prop:=k<=(Zf n k t all).2.length
def mP (n k:Nat)(all:List Yb)(t:Int×Int):BA:=gB k (Zf n k t all).1.toNat (Qg k (Zf n k t all).2 (Zf n k t all).2.length)
theorem DG {n k:Nat}{t:Int×Int}:∀(L:List Yb) (S:Int×List (Int×BA)),(∀v∈L,(v.n,v.who)≠t)->L.foldl (ZT n k t) S=S
 | [],_,_=>rfl
 |v::L,S,h=>by
  rw[ar,oL (fun B=>h v (by simp) (an B.1 B.2.1))];exact DG L S fun u D=>h u (by simp[D])
theorem nZ (H:1<=k)(h:Xp n k all t):∃v∈all,(v.n,v.who)=t:=by
 by_cases B:∃v∈all,(v.n,v.who)=t
 ·exact B
 ·exfalso;have e:Zf n k t all=(-1,[]):=DG all _ fun v D e=>B ⟨v,D,e⟩
  unfold Xp at h;rw[e]at h;simp at h;omega
structure yX (n k:Nat) (all L:List Yb) (S:(Int×Int)×BA×Bool):Prop where
 no:S.2.2=ab->S=((0,0),⟨#[]⟩,ab)/\∀v∈L,¬Xp n k all (v.n,v.who)
 yes:S.2.2=ac->Xp n k all S.1/\S.2.1=mP n k all S.1/\∀v∈L,Xp n k all (v.n,v.who)->Qd S.1 (v.n,v.who)=ab
theorem RE {L:List Yb}{S:(Int×Int)×BA×Bool}(v:Yb)(h:yX n k all L S):yX n k all (L++ [v]) (XH n k all S v):=by
 by_cases J:S.2.2=ac/\Qd S.1 (v.n,v.who)=ab
 ·rw[Jkh J];refine⟨fun B=>(by rw[J.1]at B;cases B),fun B=>⟨(h.yes B).1,(h.yes B).2.1,fun u H I=>?_⟩⟩;rcases ae.1 H with e|e
  ·exact(h.yes B).2.2 u e I
  ·rw[aa.1 e];exact J.2
 ·by_cases B:(Zf n k (v.n,v.who) all).2.length<k
  ·rw[Jki J B];have U:¬Xp n k all (v.n,v.who):=by unfold Xp;omega
   refine⟨fun D=>⟨(h.no D).1,fun u H=>?_⟩,fun D=>⟨(h.yes D).1,(h.yes D).2.1,fun u H I=>?_⟩⟩
   ·rcases ae.1 H with e|e
    ·exact(h.no D).2 u e
    ·rw[aa.1 e];exact U
   ·rcases ae.1 H with e|e
    ·exact(h.yes D).2.2 u e I
    ·rw[aa.1 e]at I;exact absurd I U
  ·rw[S6 J B];have I:Xp n k all (v.n,v.who):=by unfold Xp;omega
   refine⟨fun D=>(by cases D),fun _=>⟨I,rfl,fun u H Z=>?_⟩⟩;rcases ae.1 H with e|e
   ·cases K:S.2.2 with
    |false=>exact absurd Z ((h.no K).2 u e)
    |true =>
     have O:Qd S.1 (v.n,v.who)=true:=by
      cases O:Qd S.1 (v.n,v.who)with
      |true=>rfl
      |false=>exact absurd ⟨K,O⟩ J
     cases hq:Qd (v.n,v.who) (u.n,u.who)with
     |false=>rfl
     |true =>
      have:=(h.yes K).2.2 u e Z;rw[yQ O hq]at this;cases this
   ·rw[aa.1 e];show Qd (v.n,v.who) (v.n,v.who)=ab;simp[Qd]
theorem wG (n k:Nat)(all:List Yb):∀i,i<=all.length->yX n k all (all.take i) (Ys n k all (all.take i))
 |0,_=>⟨fun _=>⟨rfl,fun v B=>(by simp at B)⟩,fun h=>(by cases h)⟩
 |i+1,hi=>by
  have ih:=RE (Xd all i) (wG n k all i (by omega));rw[OP (by omega)];have e:all.take (i+1)=all.take i++ [Xd all i]:=by rw[List.take_add_one,Xx (by omega)];rfl
  rw[e];exact ih
theorem GP (h:∀v∈all,¬Xp n k all (v.n,v.who)):Ys n k all all=((0,0),⟨#[]⟩,ab):=by
 have D:=wG n k all all.length nR;rw[aq]at D;cases B:(Ys n k all all).2.2 with
 |false=>exact(D.no B).1
 |true =>
  exfalso;obtain⟨H,O,U⟩:=D.yes B;by_cases J:1<=k
  ·obtain⟨v,K,e⟩:=nZ J H;exact h v K (by rw[e];exact H)
  ·cases I:all with
   |nil=>rw[I]at B;cases B
   |cons v r=>exact h v (by rw[I];simp) (by unfold Xp;omega)
theorem IS (U:1<=k)(h:Xp n k all t)(Z:∀u,Xp n k all u->Qd t u=ab):Ys n k all all=(t,mP n k all t,ac):=by
 have B:=wG n k all all.length nR;rw[aq]at B;obtain⟨v,H,e⟩:=nZ U h;cases D:(Ys n k all all).2.2 with
 |false=>exact absurd h (by rw[<-e];exact(B.no D).2 v H)
 |true =>
  obtain⟨K,I,O⟩:=B.yes D;have J:(Ys n k all all).1=t:=IL (by have:=O v H (by rw[e];exact h);rw[e]at this;exact this) (Z _ K);rw[J]at I;exact an J (an I D)
theorem BR (L:List Yb):((Zf n k t L).1<0↔(Zf n k t L).2=[]):=by
 have J:∀(L:List Yb) (S:Int×List (Int×BA)),(S.1<0↔S.2=[])->((L.foldl (ZT n k t) S).1<0↔(L.foldl (ZT n k t) S).2=[]):=by
  intro L
  induction L with
  |nil=>intro S h;exact h
  |cons v L ih =>
   intro S h;rw[ar];refine ih _ ?_;by_cases H:v.n=t.1/\v.who=t.2/\YO n k v=ac
   ·have I:=H.2.2;unfold YO at I;rw[ak]at I;have c1:=(of_decide_eq_true I.2).1;by_cases D:S.1<0
    ·rw[ZO (z:=v.size) H (by rw[if_pos D]),h.1 D];simp;omega
    ·rw[ZO (z:=S.1) H (by rw[if_neg D])];have K:S.2≠[]:=fun e=>D (h.2 e)
     constructor
     ·intro B;exact absurd B D
     ·intro B;dsimp only at B;split at B
      ·simp at B
      ·exact absurd B K
   ·rw[oL H];exact h
 exact J L _ ⟨fun _=>rfl,fun _=>by decide⟩
theorem uX (L:List Yb)(v:Yb):Zf n k t (L++ [v])=ZT n k t (Zf n k t L) v:=by
 unfold Zf;rw[List.foldl_append];rfl
section
def iO (t:Int×Int):Value:=.agg #[.int .i64 t.1,.int .i64 t.2]
def YD (t:Int×Int):Lit:=.string (keyBytes [.int .i64 t.1,.int .i64 t.2])
def Jr (t:Int×Int):Prop:=(-9223372036854775808<=t.1/\t.1<=9223372036854775807)/\-9223372036854775808<=t.2/\t.2<=9223372036854775807
theorem PN:laidOutB prog=true:=by kernel_rfl
theorem WK:(39:TypeId)< prog.types.size:=of_decide_eq_true (by kernel_rfl)
theorem JtC:(match prog.underlying 39 with|some (.array _ _)|some (.struct _)=>ac|_=>ab)=true:=by rw[underlying39]
theorem qN:Maps.Keyed prog 39:=Maps.Keyed.of_law (deep_law_laid PN (m:=3) (by omega) WK (by kernel_rfl) JtC)
theorem ER:prog.keyType 39=true:=by kernel_rfl
theorem yU:prog.cellsOf 39=2:=by kernel_rfl
theorem PF:prog.cellsOf 3=1:=by kernel_rfl
theorem UZ:prog.types.size=303:=by kernel_rfl
theorem uA {a:Int}:(Lit.int .i64 a).wf=ac↔-9223372036854775808<=a/\a<=9223372036854775807:=by
 simp[Lit.wf,IntKind.min,IntKind.max,IntKind.bits,IntKind.signed]
theorem sF (m:Nat)(c:ai)(ls:List Lit):prog.keyLits (m+1) 3 [c]=af ls↔∃a,c=.int .i64 a/\(Lit.int .i64 a).wf=ac/\ls=[.int .i64 a]:=by
 constructor
 ·intro h;cases c<;>simp[Program.keyLits,underlying3]at h
  obtain⟨⟨rfl,H⟩,rfl⟩:=h;exact⟨_,rfl,H,rfl⟩
 ·rintro⟨a,rfl,h,rfl⟩;simp[Program.keyLits,underlying3,h]
theorem IX (c0 c1:ai)(ls:List Lit):prog.keyLits (prog.types.size+1) 39 [c0,c1]=af ls↔∃a b,c0=.int .i64 a/\c1=.int .i64 b/\(Lit.int .i64 a).wf=ac/\(Lit.int .i64 b).wf=ac/\ls=[.int .i64 a,.int .i64 b]:=by
 obtain⟨m,O⟩:∃m,prog.types.size=m+1:=⟨303-1,by rw[UZ]⟩;rw[O];unfold Program.keyLits;rw[underlying39];simp only[List.length_cons,List.length_nil,yU,PF,List.mapM_cons,List.mapM_nil,List.drop_zero,List.take_succ_cons,List.take_zero,List.drop_succ_cons];constructor
 ·intro h;cases H:prog.keyLits (m+1) 3 [c0]with
  |none=>simp[H]at h
  |some U =>
   cases I:prog.keyLits (m+1) 3 [c1]with
   |none=>simp[H,I]at h
   |some l1 =>
    obtain⟨a,rfl,J,rfl⟩:=(sF m c0 U).1 H;obtain⟨b,rfl,K,rfl⟩:=(sF m c1 l1).1 I;simp[H,I]at h;exact⟨a,b,rfl,rfl,J,K,h.symm⟩
 ·rintro⟨a,b,rfl,rfl,J,K,rfl⟩;simp[(sF m _ _).2 ⟨a,rfl,J,rfl⟩,(sF m _ _).2 ⟨b,rfl,K,rfl⟩]
theorem sO (h:Jr t):keyOf prog 39 (iO t)=af (YD t):=by
 have H:(iO t).formed prog 39=true:=by simp[iO,Value.formed,underlying39,yU]
 have I:=(IX (.int .i64 t.1) (.int .i64 t.2) _).2 ⟨t.1,t.2,rfl,rfl,uA.2 h.1,uA.2 h.2,rfl⟩;have J:(iO t).cells.toList=[.int .i64 t.1,.int .i64 t.2]:=by simp[iO,Value.cells]
 unfold keyOf;rw[underlying39];simp only[ER,H,Bool.and_self,if_true,J,I];rfl
theorem CC {l:Lit}(h:keyOf prog 39 v=af l):∃t,v=iO t/\l=YD t/\Jr t:=by
 unfold keyOf at h;rw[underlying39]at h;simp only[ER,Bool.true_and]at h;split at h
 ·rename_i H;obtain⟨ls,I,rfl⟩:=Option.map_eq_some_iff.1 h;cases v<;>simp[Value.formed,underlying39,yU]at H
  rename_i J;obtain⟨cl⟩:=J
  match cl,H with
  | [c0,c1],_ =>
   have K:prog.keyLits (prog.types.size+1) 39 [c0,c1]=af ls:=by simpa[Value.cells]using I
   obtain⟨a,b,rfl,rfl,O,U,rfl⟩:=(IX c0 c1 ls).1 K;exact⟨(a,b),rfl,rfl,uA.1 O,uA.1 U⟩
 ·cases h
theorem xX {u:Int×Int}(H:Jr t)(I:Jr u)(h:YD t=YD u):t=u:=by
 have:=qN.inj (sO H) (by rw[h];exact sO I);unfold iO at this;simp at this;exact an this.1 this.2
theorem D6 (t:Int×Int):WideAt.IsKeyLit (YD t):=trivial
def YR:ai->Option (ze ai×List MemPlace)
 | .agg ⟨[.int .i64 z,.slice p n c]⟩=>af (.held (.agg #[.int .i64 z,.slice p n c]),[])
 |_=>N
def X7 (x:Int×Option av×Nat×Nat):Value:=.agg #[.int .i64 x.1,.slice x.2.1 x.2.2.1 x.2.2.2]
theorem zY (x:Int×Option av×Nat×Nat):YR (X7 x)=af (.held (X7 x),[]):=rfl
theorem FP {y:ze ai×List MemPlace}(h:YR v=af y):∃x,v=X7 x/\y=(.held (X7 x),[]):=by
 unfold YR at h;split at h
 ·rename_i z p n c;injection h with h
  exact⟨(z,p,n,c),rfl,h.symm⟩
 ·cases h
abbrev sR (w:World)(b m:Nat)(D:ze ai):Prop:=w.ownsMap prog 39 YR b m D
theorem sR.same (h:sR w b n D)(O:w'.heap[b]?=w.heap[b]?):sR w' b n D:=by
 obtain⟨H,I,J,K⟩:=h;exact⟨H,I,O.trans J,K⟩
theorem rZ {r H:Nat}{left:Lit->Bool}(h:w.ranges prog 39 YR b r n D left H)(h1:w'.heap[b]?=w.heap[b]?)(h2:w'.heap[r]?=w.heap[r]?):w'.ranges prog 39 YR b r n D left H:=by
 obtain⟨I,J,since,seen,c0,K,F,O,U,Z,rest⟩:=h;exact⟨I,J,since,seen,c0,h1.trans K,F,O,U,h2.trans Z,rest⟩
structure Y1 (w:World) (B b n k:Nat) (L:List Yb) (D:ze ai) (row:Int×Int->ai) (blk:Int×Int->Nat):Prop where
 map:∃m,m<=L.length/\sR w b m D
 aO:B<=b
 has:∀t,Jr t->Maps.has D (YD t)=decide ((Zf n k t L).2≠[])
 at_:∀t,Jr t->(Zf n k t L).2≠[]->∀z,D.atKey (YD t) z=.held (.agg #[.int .i64 (Zf n k t L).1,row t])
 own:∀t,Jr t->w.ownsRow B 140 2 (row t) (Zf n k t L).2.length (Js (Zf n k t L).2)
 eB:∀t,Jr t->(Zf n k t L).2=[]->row t=.slice N 0 0
 eA:∀t,Jr t->(Zf n k t L).2≠[]->(row t).ownBlock=af (blk t)/\blk t≠b
 apart:∀t u,Jr t->Jr u->(Zf n k t L).2≠[]->(Zf n k u L).2≠[]->t≠u->blk t≠blk u
variable {w w':World} {B b n k:Nat} {L:List Yb} {D:ze ai} {row:Int×Int->ai} {blk:Int×Int->Nat}
theorem Y1.lt (h:Y1 w B b n k L D row blk):b<w.heap.size:=by
 obtain⟨m,_,H⟩:=h.map;exact World.ownsMap.lt H
theorem Y1.below (h:Y1 w B b n k L D row blk)(H:aj w.heap.size w w'):Y1 w' B b n k L D row blk:=by
 obtain⟨m,I,J⟩:=h.map;refine⟨⟨m,I,J.same (H.block b h.lt)⟩,h.aO,h.has,h.at_,fun t K=>ag (row:=N) (h.own t K) (QD H N) (by cases (row t).ownBlock<;>simp),h.eB,h.eA,h.apart⟩
theorem Jb6 (w:World)(n k:Nat):Y1 (w.alloc (.map #[] 0)) w.heap.size w.heap.size n k [] (.map []) (fun _=>.slice N 0 0) (fun _=>0):=by
 refine⟨⟨0,Nat.le_refl _,World.ownsMap_made w _ _ _⟩,Nat.le_refl _,fun t _=>rfl,fun t _ h=>absurd rfl h,fun t _=>World.ownsRow_nil _ _ _ _,fun _ _ _=>rfl,fun t _ h=>absurd rfl h,fun t _ _ _ h=>absurd rfl h⟩
def kH (S:Int×List (Int×BA)):Int:=if S.2=[]then 0 else S.1
theorem Y1.look (h:Y1 w B b n k L D row blk)(I:Jr t):(Instr.lookup 195 (.map (af b)) (iO t) ab).run prog w=.ok (.agg #[.int .i64 (kH (Zf n k t L)),row t]) w:=by
 have J:(zeroValue 199).run prog w=.ok (X7 (0,N,0,0)) w:=by kernel_rfl
 obtain⟨m,_,K⟩:=h.map;obtain⟨v,ps,O,U⟩:=World.ownsMap.lookup K qN underlying195 J (zd:=.held (X7 (0,N,0,0))) (zp:=[]) (zY _) (sO I);rw[O];obtain⟨x,rfl,Z⟩:=FP U;have e:=congrArg Prod.fst Z;unfold kH;by_cases H:(Zf n k t L).2=[]
 ·rw[Maps.atKey_of_not_has (by rw[h.has t I];simp[H])]at e;injection e with e
  rw[if_pos H,h.eB t I H,<-e];rfl
 ·rw[h.at_ t I H]at e;injection e with e
  rw[if_neg H,e]
theorem yP {w:World}{B:Nat}{T:TypeId}{l:List (Int×BA)}(h:w.ownsRow B T 2 v l.length (Js l))(K:l≠[]):∃g,v.ownBlock=af g/\B<=g/\g<w.heap.size:=by
 rcases h.2 with⟨_,H⟩|⟨g,cap,O,rfl,I,J,_⟩
 ·exact absurd (List.length_eq_zero_iff.1 H) K
 ·exact⟨g,rfl,I,(Array.getElem?_eq_some_iff.1 J).1⟩
theorem Y1.pass (h:Y1 w B b n k L D row blk){v:Yb}(J:YO n k v=ab):Y1 w B b n k (L++ [v]) D row blk:=by
 have e:∀t,Zf n k t (L++ [v])=Zf n k t L:=fun t=>by rw[uX,oL (fun H=>by rw[J]at H;cases H.2.2)]
 obtain⟨m,K,I⟩:=h.map;refine⟨⟨m,by rw[ap];omega,I⟩,h.aO,?_,?_,?_,?_,?_,?_⟩
 ·intro t;rw[e];exact h.has t
 ·intro t;rw[e];exact h.at_ t
 ·intro t;rw[e];exact h.own t
 ·intro t;rw[e];exact h.eB t
 ·intro t;rw[e];exact h.eA t
 ·intro t u;rw[e,e];exact h.apart t u
theorem WG {n k:Nat}{S:Int×List (Int×BA)}{v:Yb}(I:S.1<0↔S.2=[])(J:v.n=t.1/\v.who=t.2/\YO n k v=ac):(ZT n k t S v).2≠[]:=by
 by_cases H:S.1<0
 ·rw[ZO (z:=v.size) J (by rw[if_pos H]),I.1 H];simp
 ·rw[ZO (z:=S.1) J (by rw[if_neg H])];have K:S.2≠[]:=fun e=>H (I.2 e)
  try dsimp only
  split
  ·simp
  ·exact K
theorem Y1.put (h:Y1 w B b n k L D row blk){v:Yb}(hc:YO n k v=ac)(O:Jr (v.n,v.who))(hB:B<=w.heap.size){w1:World}{a4:ai}{U:Int×List (Int×BA)}(hS:U=ZT n k (v.n,v.who) (Zf n k (v.n,v.who) L) v)
 (a6:w.grownBy w1 (row (v.n,v.who)).ownBlock) (b4:w1.ownsRow B 140 2 a4 U.2.length (Js U.2)) (b5:a4.ownBlock=(row (v.n,v.who)).ownBlock∨∃g,a4.ownBlock=af g/\w.heap.size<=g) (d6:∃p c,a4=.slice p U.2.length c) (e0:L.length<1000000):
 ∃w2,(Instr.mapUpdate 195 (.map (af b)) (iO (v.n,v.who)) (.agg #[.int .i64 U.1,a4])).run prog w1=.ok () w2/\aj B w w2/\∃D' b6 b7,Y1 w2 B b n k (L++ [v]) D' b6 b7:=by
 obtain⟨m,hm,h3⟩:=h.map;have a7:U.2≠[]:=by rw[hS];exact WG (BR L) ⟨rfl,rfl,hc⟩
 have b0:af b≠(row (v.n,v.who)).ownBlock:=by
  by_cases J:(Zf n k (v.n,v.who) L).2=[]
  ·rw[h.eB _ O J];simp[Value.ownBlock]
  ·obtain⟨Z,K⟩:=h.eA _ O J;rw[Z];simp;exact fun e=>K e.symm
 obtain⟨p,c,rfl⟩:=d6;have b8:=World.ownsMap.kept h3 a6 b0;obtain⟨w2,c8,d0,a8⟩:=World.ownsMap.update b8 qN underlying195 (by show m<maxLen;unfold maxLen;omega) (sO O) (zY (U.1,p,U.2.length,c));have d1:=a6.size;have d2:aj B w w2:=by
  have d3:aj B w w1:=bR.grown a6 hB (fun j hj=>by
   by_cases J:(Zf n k (v.n,v.who) L).2=[]
   ·rw[h.eB _ O J]at hj;cases hj
   ·obtain⟨g,Z,K,_⟩:=yP (h.own _ O) J;rw[Z]at hj;cases hj;exact K)
  exact d3.trans (bR.grown a8 (Nat.le_trans hB d1) (fun j hj=>by cases hj;exact h.aO))
 obtain⟨g',a2,d7,d8⟩:=yP b4 a7;have b1:g'≠b:=by
  rcases b5 with e|⟨g,Z,K⟩
  ·rw[a2]at e;exact fun K=>b0 (by rw[<-e,K])
  ·rw[a2]at Z;cases Z;have:=h.lt;omega
 have Z:Zf n k (v.n,v.who) (L++ [v])=U:=by rw[uX,hS]
 have K:∀u,u≠(v.n,v.who)->Zf n k u (L++ [v])=Zf n k u L:=fun u H=>by rw[uX,oL (fun hh=>H (an hh.1.symm hh.2.1.symm))]
 refine⟨w2,c8,d2,D.put (YD (v.n,v.who)) (.held (X7 (U.1,p,U.2.length,c))),fun u=>if u=(v.n,v.who)then .slice p U.2.length c else row u,fun u=>if u=(v.n,v.who)then g' else blk u,⟨⟨m+1,by rw[ap,List.length_singleton];omega,d0⟩,h.aO,?_,?_,?_,?_,?_,?_⟩⟩
 ·intro u H;by_cases e:u=(v.n,v.who)
  ·rw[e,Maps.has_put_same (World.ownsMap.isMap h3) (D6 _),Z];simp[a7]
  ·rw[Maps.has_put_other (fun I=>e (xX H O I)),K u e];exact h.has u H
 ·intro u H J z;by_cases e:u=(v.n,v.who)
  ·subst e;rw[Maps.atKey_put_same (World.ownsMap.isMap h3) (D6 _),Z,if_pos rfl];rfl
  ·rw[K u e]at J ⊢;rw[Maps.atKey_put_other (fun I=>e (xX H O I)),if_neg e];exact h.at_ u H J z
 ·intro u H;try dsimp only
  by_cases e:u=(v.n,v.who)
  ·subst e;rw[Z,if_pos rfl];refine ag b4 a8 ?_;rw[a2];refine Or.inr fun e=>b1 ?_
   injection e
  ·rw[K u e,if_neg e];have d4:w1.ownsRow B 140 2 (row u) (Zf n k u L).2.length (Js (Zf n k u L).2):=by
    refine ag (h.own u H) a6 ?_;by_cases a0:(Zf n k u L).2=[]
    ·rw[h.eB u H a0];exact Or.inl rfl
    ·refine Or.inr ?_;rw[(h.eA u H a0).1];by_cases a3:(Zf n k (v.n,v.who) L).2=[]
     ·rw[h.eB _ O a3];simp[Value.ownBlock]
     ·rw[(h.eA _ O a3).1];intro I;injection I with I
      exact h.apart u _ H O a0 a3 e I
   refine ag d4 a8 ?_;by_cases a0:(Zf n k u L).2=[]
   ·rw[h.eB u H a0];exact Or.inl rfl
   ·refine Or.inr ?_;rw[(h.eA u H a0).1];intro I;injection I with I
    exact(h.eA u H a0).2 I
 ·intro u H J;try dsimp only
  by_cases e:u=(v.n,v.who)
  ·subst e;rw[Z]at J;exact absurd J a7
  ·rw[K u e]at J;rw[if_neg e];exact h.eB u H J
 ·intro u H J;try dsimp only
  by_cases e:u=(v.n,v.who)
  ·subst e;rw[if_pos rfl,if_pos rfl];exact⟨a2,b1⟩
  ·rw[K u e]at J;rw[if_neg e,if_neg e];exact h.eA u H J
 ·intro u x H hx a0 a5 b2;try dsimp only
  have b3:∀y,Jr y->y≠(v.n,v.who)->(Zf n k y L).2≠[]->blk y≠g':=fun y hy d5 a9 e=>by
   obtain⟨g,q1,q2,q3⟩:=yP (h.own y hy) a9;rw[(h.eA y hy a9).1]at q1;injection q1 with q1
   rcases b5 with I|⟨g2,I,d9⟩
   ·by_cases a3:(Zf n k (v.n,v.who) L).2=[]
    ·rw[h.eB _ O a3,a2]at I;cases I
    ·rw[a2,(h.eA _ O a3).1]at I;injection I with I
     exact h.apart y _ hy O a9 a3 d5 (e.trans I)
   ·rw[a2]at I;injection I with I
    omega
  by_cases eu:u=(v.n,v.who)
  ·have ex:x≠(v.n,v.who):=fun e=>b2 (eu.trans e.symm)
   rw[if_pos eu,if_neg ex];rw[K x ex]at a5;exact fun e=>b3 x hx ex a5 e.symm
  ·rw[K u eu]at a0;rw[if_neg eu];by_cases ex:x=(v.n,v.who)
   ·rw[if_pos ex];exact b3 u H eu a0
   ·rw[K x ex]at a5;rw[if_neg ex];exact h.apart u x H hx a0 a5 b2
end
end Go.Proofs.YtgapmoniajcliaaGreatDoor
