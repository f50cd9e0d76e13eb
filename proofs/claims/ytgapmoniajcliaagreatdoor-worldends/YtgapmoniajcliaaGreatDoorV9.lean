/- Texts laid together. -/
import Derived.Test.YtgapmoniajcliaaGreatDoorV8
set_option maxRecDepth 10000
set_option maxHeartbeats 4000000
open Option renaming some->aa,none->N,map_eq_some_iff->ae
open Nat renaming not_lt_zero->ab,lt_or_ge->am,lt_of_lt_of_le->an,lt_irrefl->au,le_trans->zh
open Go.World renaming cell?_of_block->ac,setCell->av,cell?->aE
open List renaming length_append->af,length_map->zb
open Bool renaming false->ag,true->zg
open Go renaming Value->ah,TypeId->ar,Calls->az,binOp->aC,DataW->za,Addr->bn,bytes->bo
open Go.RowKit renaming Below->ai
open Or renaming inl->aj,inr->ao
open Option.some renaming inj->ak
open Int renaming natCast_mul->al
open Go.Builtin renaming len_->ap
namespace Go.Proofs
open Go.Shelf
def Tryz.laysM171_ren : Go.Shelf.Ren := ⟨fun | 171 => 81 | 243 => 109 | 246 => 135 | 283 => 165 | 284 => 166 | 285 => 167 | 286 => 168 | 129 => 162 | 317 => 192 | 318 => 193 | 319 => 194 | 320 => 195 | 337 => 208 | 338 => 209 | n => n, fun | 3 => 3 | 9 => 9 | 2 => 2 | 4 => 4 | 171 => 244 | 0 => 0 | 53 => 241 | 37 => 116 | 5 => 5 | 173 => 246 | 212 => 266 | 51 => 149 | 20 => 20 | 213 => 267 | 46 => 206 | 232 => 284 | 233 => 285 | n => n, fun | 17 => 10 | 18 => 11 | 19 => 12 | n => n⟩
theorem Tryz.laysM171 : Go.Proofs.LaysM.n171 Tryz.prog Tryz.laysM171_ren := {
 mixed:=by kernel_rfl
 f129:=Tryz.func162.trans (congrArg aa (by kernel_rfl))
 f171:=Tryz.func81.trans (congrArg aa (by kernel_rfl))
 f243:=Tryz.func109.trans (congrArg aa (by kernel_rfl))
 f246:=Tryz.func135.trans (congrArg aa (by kernel_rfl))
 f283:=Tryz.func165.trans (congrArg aa (by kernel_rfl))
 f284:=Tryz.func166.trans (congrArg aa (by kernel_rfl))
 f285:=Tryz.func167.trans (congrArg aa (by kernel_rfl))
 f286:=Tryz.func168.trans (congrArg aa (by kernel_rfl))
 f317:=Tryz.func192.trans (congrArg aa (by kernel_rfl))
 f318:=Tryz.func193.trans (congrArg aa (by kernel_rfl))
 f319:=Tryz.func194.trans (congrArg aa (by kernel_rfl))
 f320:=Tryz.func195.trans (congrArg aa (by kernel_rfl))
 f337:=Tryz.func208.trans (congrArg aa (by kernel_rfl))
 f338:=Tryz.func209.trans (congrArg aa (by kernel_rfl))
 t0:=Tryz.underlying0
 a0:=Tryz.isAgg0
 z0:=Tryz.sizeOf0
 v0:=Tryz.zeroValue0
 t2:=Tryz.underlying2
 a2:=Tryz.isAgg2
 z2:=Tryz.sizeOf2
 v2:=Tryz.zeroValue2
 t3:=Tryz.underlying3
 a3:=Tryz.isAgg3
 z3:=Tryz.sizeOf3
 v3:=Tryz.zeroValue3
 t4:=Tryz.underlying4
 a4:=Tryz.isAgg4
 z4:=Tryz.sizeOf4
 v4:=Tryz.zeroValue4
 t5:=Tryz.underlying5
 a5:=Tryz.isAgg5
 z5:=Tryz.sizeOf5
 v5:=Tryz.zeroValue5
 t9:=Tryz.underlying9
 a9:=Tryz.isAgg9
 z9:=Tryz.sizeOf9
 v9:=Tryz.zeroValue9
 t20:=Tryz.underlying20
 a20:=Tryz.isAgg20
 z20:=Tryz.sizeOf20
 v20:=Tryz.zeroValue20
 t37:=Tryz.underlying116
 a37:=Tryz.isAgg116
 z37:=Tryz.sizeOf116
 v37:=Tryz.zeroValue116
 t46:=Tryz.underlying206
 a46:=Tryz.isAgg206
 z46:=Tryz.sizeOf206
 v46:=Tryz.zeroValue206
 t51:=Tryz.underlying149
 a51:=Tryz.isAgg149
 z51:=Tryz.sizeOf149
 v51:=Tryz.zeroValue149
 t53:=Tryz.underlying241
 a53:=Tryz.isAgg241
 z53:=Tryz.sizeOf241
 v53:=Tryz.zeroValue241
 t171:=Tryz.underlying244
 a171:=Tryz.isAgg244
 z171:=Tryz.sizeOf244
 v171:=Tryz.zeroValue244
 t173:=Tryz.underlying246
 a173:=Tryz.isAgg246
 z173:=Tryz.sizeOf246
 v173:=Tryz.zeroValue246
 t212:=Tryz.underlying266
 a212:=Tryz.isAgg266
 z212:=Tryz.sizeOf266
 v212:=Tryz.zeroValue266
 t213:=Tryz.underlying267
 a213:=Tryz.isAgg267
 z213:=Tryz.sizeOf267
 t232:=Tryz.underlying284
 a232:=Tryz.isAgg284
 z232:=Tryz.sizeOf284
 v232:=Tryz.zeroValue284
 t233:=Tryz.underlying285
 a233:=Tryz.isAgg285
 z233:=Tryz.sizeOf285
 v233:=Tryz.zeroValue285
 g17:=by kernel_rfl
 g18:=by kernel_rfl
 g19:=by kernel_rfl
 i0:=by kernel_rfl
 i2:=by kernel_rfl
 i3:=by kernel_rfl
 i4:=by kernel_rfl
 i5:=by kernel_rfl
 i9:=by kernel_rfl
 i20:=by kernel_rfl
 i37:=by kernel_rfl
 i46:=by kernel_rfl
 i51:=by kernel_rfl
 i53:=by kernel_rfl
 i171:=by kernel_rfl
 i173:=by kernel_rfl
 i212:=by kernel_rfl
 i232:=by kernel_rfl
 i233:=by kernel_rfl
 m17:=by kernel_rfl
 m18:=by kernel_rfl
 m19:=by kernel_rfl }
end Go.Proofs
namespace Go.Proofs.YtgapmoniajcliaaGreatDoor
open Go.RowKit
variable {w w' W V:World}{x:Zb×Lv}{T:ar}{B b:Nat}{v:ah}{c:Int}{ad:Nat->bn}
theorem IV (a:Za):a.aF.next=a.next:=by
 unfold Za.aF;split<;>rfl
theorem uQ {a:Za}{m:Zb}(h:a.aM m=zg)(B:a.st=.sealing):a.aD m=fU (a.heard m):=by
 unfold Za.aD fU;have e:(a.heard m).c=a.c:=rfl;rw[if_neg (by rw[h];decide),if_neg (fun D=>D.2 B),e];split
 ·rfl
 ·rw[if_neg (by rw[B];decide)]
def J1 (T:ar)(B:Nat)(w:World)(v:ah)(D:List (Zb×Lv)):Prop:=Zc mE T w B v D/\∀x∈D,Jn w x/\∀b o,x.2.1=aa ⟨b,o,N⟩->(B<=b/\b<w.heap.size)/\v.ownBlock≠aa b
theorem KB {row:Option Nat}(h:Jn w x)(B:w.grownBy w' row)(D:∀b o,x.2.1=aa ⟨b,o,N⟩->aa b≠row):Jn w' x:=⟨h.len,NM h.eC B D,h.room,h.empty⟩
theorem J1.snoc {K O w6:World}{U:ah}{ml:List (Zb×Lv)}(h:J1 T B K v ml)(hB:B<=K.heap.size)(hb:ai K.heap.size K O)(hx:Jn O x)(Z:∀b o,x.2.1=aa ⟨b,o,N⟩->K.heap.size<=b/\b<O.heap.size)
 (hO:Zc mE T w6 B U (ml++ [x])) (hg:O.grownBy w6 v.ownBlock) (hl:U.ownBlock=v.ownBlock∨U.ownBlock=aa O.heap.size):J1 T B w6 U (ml++ [x]):=by
 have hz:=hb.size;have a0:=hg.size;refine⟨hO,fun y I=>?_⟩;rcases List.mem_append.1 I with I|I
 ·obtain⟨h1,H⟩:=h.2 y I;refine⟨KB (h1.below hb) hg (fun b o D e=>(H b o D).2 e.symm),fun b o D=>⟨⟨(H b o D).1.1,by have:=(H b o D).1.2;omega⟩,?_⟩⟩;have:=(H b o D).1.2;rcases hl with e|e
  ·rw[e];exact(H b o D).2
  ·rw[e];intro J;have:=ak J;omega
 ·rw[List.mem_singleton.1 I];refine⟨KB hx hg (fun b o D e=>?_),fun b o D=>⟨⟨by have:=(Z b o D).1;omega,by have:=(Z b o D).2;omega⟩,?_⟩⟩
  ·have h1:=Z b o D;have H:=(h.1.block e.symm).2;omega
  ·have h1:=Z b o D;rcases hl with e|e
   ·rw[e];intro J;have:=(h.1.block J).2;omega
   ·rw[e];intro J;have:=ak J;omega
theorem J1.nil (T:ar)(B:Nat)(w:World):J1 T B w (.slice N 0 0) []:=⟨Zc.nil _ _ _,fun x D=>by cases D⟩
theorem J1.kept {J:List (Zb×Lv)}(h:J1 T B w v J)(I:ai w.heap.size w w'):J1 T B w' v J:=⟨h.1.kept I,fun x D=>⟨(h.2 x D).1.below I,fun b o H=>⟨⟨((h.2 x D).2 b o H).1.1,an ((h.2 x D).2 b o H).1.2 I.size⟩,((h.2 x D).2 b o H).2⟩⟩⟩
theorem J1.SO {D:List (Zb×Lv)}(h:J1 T B w v D):∃p c,v=.slice p D.length c/\QE c B w p (D.map Prod.fst):=by
 obtain⟨p,c,J,K,O,H,U⟩:=h.1.form;exact⟨p,c,J,⟨⟨D,rfl,K,fun x I=>⟨(h.2 x I).1,fun b o e=>((h.2 x I).2 b o e).1⟩,U⟩,by rw[zb];exact O,fun e=>by rw[zb,(H e).1];exact⟨rfl,(H e).2⟩⟩⟩
theorem NJ {α:Type}{E:eW α}{ops:Array Oper}{o:Oper}{a:Act}{K:Act->World->Prop}{Q:Exit->Act->World->Prop}{E':Prop}
 (a5:o.guard=N) (s x:Operand) (t T:ar) (ho:o.op=.call {callee:=.builtin .append,args:=#[s,x],argTypes:=#[t,t]}) (z:ah) (bo:Nat) (ht:Tryz.prog.underlying t=aa (.slice T))
 (a6:(Tryz.prog.info? T).map (fun i=>(i.zero,i.size,i.bytes))=aa (aa z,E.k,bo)) (a7:z.cells.size=E.k)
 (B:Nat) (v:ah) (l:List α) (hs:a.eval s=v) (a3:Zc E T w B v l) (b:Nat) (c:Nat) (r:α) (hx:a.eval x=.slice (aa ⟨b,0,N⟩) 1 c) (hc:∀j u,(E.enc r)[j]?=aa u->w.cell? ⟨b,j,N⟩=aa u) (hl:l.length+1<=maxLen) (a4:(l.length+1)*bo<=140737488355328) (a8:B<=w.heap.size)
 (h:∀D w',Zc E T w' B D (l++ [r])->w.grownBy w' v.ownBlock->(D.ownBlock=v.ownBlock∨D.ownBlock=aa w.heap.size)->K (a.put o.dst D) w'):
 if Region.wanted o (yielded ops a.tmps)=zg then Oper.wp Tryz.prog o a w K Q else E':=by
 have hw:Region.wanted o (yielded ops a.tmps)=true:=by simp[Region.wanted,a5]
 rw[if_pos hw];obtain⟨H,I,J,O,U⟩:=info_parts a6;have Z:∀j u,(E.enc r)[j]?=aa u->w.cell? ((⟨b,0,N⟩:bn).add j)=aa u:=fun j u hj=>by
  have h0:=hc j u hj;by_cases e:j=0
  ·subst e;simpa[Addr.add]using h0
  ·simpa[Addr.add,e]using h0
 have a0:(E.enc r).length=1*E.k:=by rw[E.len,Nat.one_mul]
 obtain⟨D,w',a2,h2,h3,_⟩:=run_append_own (P:=Tryz.prog) w B t o.type T H z E.k bo ht I J O U a7 E.pos v l.length (Qb E l) a3 ⟨b,0,N⟩ 1 c (E.enc r) a0 Z (E.one r) hl a4 a8;have h4:=yO B t o.type T H z E.k bo ht I J O U v l.length (Qb E l) a3 ⟨b,0,N⟩ 1 c (E.enc r) a0 Z (E.one r) hl a4 (by decide) a2;unfold Oper.wp;simp[execOp,ho,resolve,invoke,builtin,hs,hx,a2,Result.andThen];refine h D w' ?_ h3 h4;unfold Zc;rw[Qj,qK,af];exact h2
theorem W8 (pw ps B j c:Nat)(s:BA)(w:World)(U:j<=1000)(hc:c<=100000)(Z:B<=100000)(hw:w.cell? ⟨pw,0,N⟩=aa (.int .i64 (B:Int)))(hs:w.cell? ⟨ps,0,N⟩=aa (.string s)):
 az Tryz.prog 191 (#[.int .i64 (j:Int),.int .i64 (c:Int)]++#[.pointer (aa ⟨pw,0,N⟩),.pointer (aa ⟨ps,0,N⟩)]) w fun e J=>e=.returned (.int .u8 ((gN s B j c:Nat):Int))/\J=w:=by
 have H:=Nat.mul_le_mul U Z;have a0:(0:Int)<=(j:Int)*(B:Int):=by rw[<-al];omega
 have a2:(j:Int)*(B:Int)<=100000000:=by rw[<-al];omega
 have a3:IntKind.i64.wrap ((j:Int)*(B:Int))=(j:Int)*(B:Int):=by rw[IntKind.wrap_i64];omega
 have a4:IntKind.i64.wrap ((j:Int)*(B:Int)+(c:Int))=(j:Int)*(B:Int)+(c:Int):=by rw[IntKind.wrap_i64];omega
 by_cases D:j*B+c<s.size
 ·have I:(j:Int)*(B:Int)+(c:Int)<(s.size:Int):=by rw[<-al];omega
  have K:(0:Int)<=(j:Int)*(B:Int)+(c:Int):=by omega
  have O:∀W,Sem.run Tryz.prog (Instr.index 9 (.string s) (.int .i64 ((j:Int)*(B:Int)+(c:Int)))) W=.ok (.int .u8 ((gN s B j c:Nat):Int)) W:=fun W=>by
   rw[run_index_string W 9 s .i64 _ Tryz.underlying9,dif_pos ⟨K,I⟩];unfold gN;rw[uD s (j*B+c) D]
   congr 3
  clear D H;generalize gN s B j c=y at O ⊢;go_enter Tryz.func191,Tryz.ntmps191;go_wp2;go_ret;exact⟨rfl,rfl⟩
 ·have I:¬(j:Int)*(B:Int)+(c:Int)<(s.size:Int):=by rw[<-al];omega
  rw[VE D];clear D H;go_enter Tryz.func191,Tryz.ntmps191;go_wp2;go_ret;exact⟨rfl,rfl⟩
theorem RO (n k:Nat)(s:BA)(z:bn)(w:World)(a2:1<=k)(e3:k<=n)(hn:n<=12)(hs:s.size<=1000)(hz:w.cell? ⟨9,0,N⟩=aa (.iface 287 (.pointer (aa z)))):
 az Tryz.prog 163 #[.int .i64 (n:Int),.int .i64 (k:Int),.string s] w fun e w'=>(∃g,w.heap.size<=g/\e=.returned (.tuple #[.slice (aa ⟨g,0,N⟩) n n,.nilIface])/\ZE w' g n (fR k s))/\ai w.heap.size w w':=by
 have e4:=xR (size:=s.size) a2;obtain⟨w1,O⟩:=Xb (w.alloc (.cells #[.string s] 9));have a3:=Zk O;have d5:=QT O;have a9:w1.cell? ⟨w.heap.size,0,N⟩=aa (.string s):=XX O rfl;have HS:=BZ n k s.size z w1 a2 e3 hn hs ((a3.cell (p:=⟨9,0,N⟩) (Qf hz)).trans hz);have b0:Hid _:=O;have b1:Hid _:=a3;have d6:=Jhx n (by omega);clear O a3 hz;go_enter Tryz.func163,Tryz.ntmps163;go_wp2_with fail
 rw[<-b0.out];refine HS.mono ?_;rintro e D ⟨⟨gm,rfl,b2⟩,Z⟩;have e5:=Z.size;have b3:D.cell? ⟨w.heap.size,0,N⟩=aa (.string s):=(Z.cell (p:=⟨w.heap.size,0,N⟩) (by show w.heap.size<_;omega)).trans a9;have b4:Hid (QJ D (aa ⟨gm,0,N⟩) (kK k n)):=b2;have b5:Hid (ai w.heap.size w D):=b1.out.trans (Z.mono (by omega));clear HS b2 Z b1 b0 a9;have b6:=fun W=>zM s.size k W a2 (by omega) (by omega)
 have d7:Hid (∀i,fR k s i=((i:Int),Jp (J7 (fun i j=>Gf.aQ (JB k) j i) (gN s (Jk k s.size)) k (Jk k s.size) i))):=fun i=>rfl
 generalize Jk k s.size=H at *;go_wp2_with fail
 refine(b6 _).mono ?_;rintro e d8 ⟨rfl,b7⟩;rw[b7];clear b7 d8 b6;obtain⟨I,U⟩:=Xb (D.alloc (.cells #[.int .i64 (H:Int)] 3));have a0:=Zk U;have d9:=QT U;have b8:I.cell? ⟨w.heap.size,0,N⟩=aa (.string s):=(a0.cell (p:=⟨w.heap.size,0,N⟩) (by show w.heap.size<_;omega)).trans b3;have c8:I.cell? ⟨D.heap.size,0,N⟩=aa (.int .i64 (H:Int)):=XX U rfl;have d0:Hid (ai w.heap.size w I):=b5.out.trans (a0.mono (by omega));have HT:uI I 191 #[.pointer (aa ⟨D.heap.size,0,N⟩),.pointer (aa ⟨w.heap.size,0,N⟩)] (gN s H) k H:=fun j c hj hc B h4 =>
  W8 D.heap.size w.heap.size H j c s B (by omega) (by omega) (by omega) ((h4.cell (p:=⟨D.heap.size,0,N⟩) (by show D.heap.size<_;omega)).trans c8) ((h4.cell (p:=⟨w.heap.size,0,N⟩) (by show w.heap.size<_;omega)).trans b8)
 have HR:=F3 (aa ⟨gm,0,N⟩) n k H n (fun i j=>Gf.aQ (JB k) j i) (gN s H) 191 #[.pointer (aa ⟨D.heap.size,0,N⟩),.pointer (aa ⟨w.heap.size,0,N⟩)] I (by omega) (by omega) a2 (by omega) (by omega) (fun i j=>Gf.bL _ _ _) (fun j c=>DM s H j c) (b4.out.below a0) (enters_of Tryz.func191 (by kernel_rfl) rfl) HT;have d1:Hid (I=D.alloc (.cells #[.int .i64 (H:Int)] 3)):=U;have e6:D.heap.size<I.heap.size:=by omega
 have e7:w.heap.size<w1.heap.size:=by omega
 clear U a0 HT b4 b5 b3 d9 d5;go_wp2_with fail
 rw[<-d1.out];refine HR.mono ?_;rintro e B ⟨rfl,a4,d2⟩;have e0:Hid (B.rowIs I.heap.size 9 n (fun i=>.string (Jp (J7 (fun i j=>Gf.aQ (JB k) j i) (gN s H) k H i)))):=a4;have a5:Hid (ai w.heap.size w B):=d0.out.trans (d2.mono (by omega));have e1:I.heap.size<B.heap.size:=a4.lt;clear HR a4 d2 d0 d1 b8 c8;go_wp2;have a6:=ZE.made B n;have a7:ai B.heap.size B (B.alloc (.cells (madeCells #[.int .i64 0,.string ⟨#[]⟩] (n*2)) 140)):=bR.alloc nR _;generalize B.alloc (.cells (madeCells #[.int .i64 0,.string ⟨#[]⟩] (n*2)) 140)=w5 at a6 a7 ⊢;have d3:Hid (ZE w5 B.heap.size n (fun _=>(0,⟨#[]⟩))):=a6;have d4:Hid (ai B.heap.size B w5):=a7;clear a6 a7 d6;go_loopw [38] (fun x wr=>∃i:Nat,i<=n/\x=.int .i64 i/\ZE wr B.heap.size n (fun q=>if q<i then fR k s q else(0,⟨#[]⟩))/\ai B.heap.size B wr) (fun x _=>n-(intOf x).toNat)
 case atStart=>exact⟨0,by omega,rfl,d3.out.congr (fun q _=>by simp),d4.out⟩
 case round =>
  obtain⟨i,hi,rfl,hS,hB⟩:=hrel;obtain⟨J,rfl⟩:=Xb wr;have K:Hid (ZE J B.heap.size n (fun q=>if q<i then fR k s q else(0,⟨#[]⟩))):=hS;have HB:Hid (ai B.heap.size B J):=hB;have e8:B.heap.size<J.heap.size:=World.rowIs.lt hS;clear hS hB d3 d4;by_cases a8:i<n
  ·have q0:J.cell? ⟨I.heap.size,i,N⟩=aa (.string (JW k s i)):=by
    rw[HB.out.cell (p:=⟨I.heap.size,i,N⟩) e1,e0.out.cell a8];exact congrArg (fun x:Int×BA=>aa (Value.string x.2)) (d7.out i).symm
   have q1:J.cell? ⟨B.heap.size,i*2,N⟩=aa (.int .i64 0):=by rw[K.out.at_ a8,if_neg (au _)]
   have q2:J.cell? ⟨B.heap.size,i*2+1,N⟩=aa (.string ⟨#[]⟩):=by rw[K.out.text a8,if_neg (au _)]
   have f1:J.frozen? ⟨B.heap.size,i*2,N⟩=false:=World.rowIs.frozen K.out _;have f2:J.frozen? ⟨B.heap.size,i*2+1,N⟩=false:=World.rowIs.frozen K.out _;go_wp2;go_roundw
   case rel =>
    refine⟨i+1,by omega,by go_num,?_,?_⟩
    ·refine(K.out.set i (i:Int) (JW k s i)).congr (fun q _=>?_);by_cases e:q=i
     ·rw[if_pos e,if_pos (by omega),e];rfl
     ·rw[if_neg e];by_cases e':q<i
      ·rw[if_pos e',if_pos (by omega)]
      ·rw[if_neg e',if_neg (by omega)]
    ·exact(HB.out.setCell nR _).setCell nR _
   case measure=>simp[intOf];omega
  ·have e2:i=n:=by omega
   subst e2;go_wp2
   go_ret2
   exact⟨⟨B.heap.size,by have:=a5.out.size;omega,rfl,K.out.congr (fun q hq=>by rw[if_pos hq])⟩,a5.out.trans (HB.out.mono (a5.out.size))⟩
section
def iI (c:Int):Lit:=.int .i64 c
theorem DW {d:Int}(h:iI c=iI d):c=d:=by
 unfold iI at h;injection h
theorem F2 (c:Int):WideAt.IsKeyLit (iI c):=trivial
theorem tC:Maps.Keyed Tryz.prog 3:=Maps.int_keyed Tryz.underlying3
theorem Jtu {a:Int}(h:YQ a):(Lit.int .i64 a).wf=true:=by
 simp[Lit.wf,IntKind.min,IntKind.max,IntKind.bits,IntKind.signed];exact h
theorem yA (h:YQ c):keyOf Tryz.prog 3 (.int .i64 c)=aa (iI c):=Maps.keyOf_int_mk Tryz.underlying3 (Jtu h)
abbrev lE (w:World)(b n:Nat)(D:za ah):Prop:=w.ownsMap Tryz.prog 3 iW b n D
theorem lE.same {n:Nat}{D:za ah}(h:lE w b n D)(hb:w'.heap[b]?=w.heap[b]?):lE w' b n D:=by
 obtain⟨B,H,I,J⟩:=h;exact⟨B,H,hb.trans I,J⟩
structure X0 (w:World) (b:Nat) (L:List fA) (D:za ah) (hb:Nat->Nat):Prop where
 own:∃n,n<=1000/\lE w b n D
 has:∀c,YQ c->Maps.has D (iI c)=decide (Yf L c<L.length)
 at_:∀i,i<L.length->∀z,D.atKey (iI (Zg L i).1) z=.held (.pointer (aa ⟨hb i,0,N⟩))
 size:Maps.size D=L.length
variable {w w':World} {b:Nat} {L:List fA} {D:za ah} {hb:Nat->Nat}
theorem X0.same (h:X0 w b L D hb)(e:w'.heap[b]?=w.heap[b]?):X0 w' b L D hb:=by
 obtain⟨n,B,H⟩:=h.own;exact⟨⟨n,B,H.same e⟩,h.has,h.at_,h.size⟩
theorem X0.lt (h:X0 w b L D hb):b<w.heap.size:=by
 obtain⟨n,_,B⟩:=h.own;exact World.ownsMap.lt B
theorem X0.empty (w:World)(hb:Nat->Nat):X0 (w.alloc (.map #[] 0)) w.heap.size [] (.map []) hb :=
 ⟨⟨0,Nat.zero_le _,World.ownsMap_made w Tryz.prog 3 iW⟩,fun _ _=>rfl,fun _ B=>absurd B (ab _),rfl⟩
def lI (L:List fA)(hb:Nat->Nat)(c:Int):Value:=.pointer (if Yf L c<L.length then aa ⟨hb (Yf L c),0,N⟩else N)
theorem X0.look (h:X0 w b L D hb)(H:YQ c):(Instr.lookup 110 (.map (aa b)) (.int .i64 c) ag).run Tryz.prog w=.ok (lI L hb c) w:=by
 have I:(zeroValue 157).run Tryz.prog w=.ok (.pointer N) w:=by kernel_rfl
 obtain⟨n,_,J⟩:=h.own;obtain⟨v,ps,K,O⟩:=World.ownsMap.lookup J tC Tryz.underlying110 I (zd:=.held (.pointer N)) (zp:=[]) rfl (yA H);rw[K];have e:=congrArg Prod.fst (ak O);unfold lI;by_cases B:Yf L c<L.length
 ·rw[if_pos B];have:=h.at_ _ B (.held (.pointer N));rw[nO B]at this;rw[this]at e;injection e with e
  rw[e]
 ·rw[if_neg B];rw[Maps.atKey_of_not_has (by rw[h.has c H];exact decide_eq_false B)]at e;injection e with e
  rw[e]
theorem BY (w:World)(H:YQ c):(Instr.lookup 110 (.map N) (.int .i64 c) ag).run Tryz.prog w=.ok (.pointer N) w:=by
 have B:(zeroValue 157).run Tryz.prog w=.ok (.pointer N) w:=by kernel_rfl
 have:=Maps.look_nil (w:=w) ag tC Tryz.underlying110 B (yA H);rw[this];rfl
theorem X0.len (h:X0 w b L D hb)(B:ar):(ap #[110] B #[.map (aa b)]).run Tryz.prog w=.ok (.int .i64 (L.length:Nat)) w:=by
 obtain⟨n,_,H⟩:=h.own;rw[World.ownsMap.len H Tryz.underlying110 B,h.size]
theorem X0.put (h:X0 w b L D hb)(hc:YQ c)(hn:¬Yf L c<L.length)(k:Nat)(x:List Yh×Bool)(hw:∃n,n<=1000/\lE w' b n (D.put (iI c) (.held (.pointer (aa ⟨k,0,N⟩))))):
 X0 w' b (L++ [(c,x)]) (D.put (iI c) (.held (.pointer (aa ⟨k,0,N⟩)))) (fun i=>if i=L.length then k else hb i):=by
 obtain⟨n,_,K⟩:=h.own;have Z:=World.ownsMap.tidy K tC;have O:=World.ownsMap.isMap K;have U:(L++ [(c,x)]).length=L.length+1:=by rw[af];rfl
 have a0:∀i,i<L.length->(Zg L i).1≠c:=fun i I=>Q6 (by omega)
 refine⟨hw,fun d hd=>?_,fun i I z=>?_,?_⟩
 ·by_cases e:d=c
  ·subst e;rw[Maps.has_put_same O (F2 d)]
   symm
   refine decide_eq_true ?_;rcases am (Yf (L++ [(d,x)]) d) (L++ [(d,x)]).length with B|B
   ·exact B
   ·refine absurd ?_ (Q6 (L:=L++ [(d,x)]) (c:=d) (i:=L.length) (by omega));rw[QI,if_neg (au _),if_pos rfl]
  ·rw[Maps.has_put_other (fun J=>e (DW J)),h.has d hd];by_cases H:Yf L d<L.length
   ·rw[decide_eq_true H]
    symm
    refine decide_eq_true ?_;rcases am (Yf (L++ [(c,x)]) d) (L++ [(c,x)]).length with B|B
    ·exact B
    ·refine absurd ?_ (Q6 (L:=L++ [(c,x)]) (c:=d) (i:=Yf L d) (by omega));rw[QI,if_pos H];exact nO H
   ·rw[decide_eq_false H]
    symm
    refine decide_eq_false (UB fun i I=>?_);rw[QI];by_cases B:i<L.length
    ·rw[if_pos B];exact Q6 (by omega)
    ·rw[if_neg B,if_pos (by omega)];exact fun h2=>e h2.symm
 ·rw[U]at I;rw[QI];by_cases B:i<L.length
  ·rw[if_pos B,if_neg (by omega),Maps.atKey_put_other (fun J=>a0 i B (DW J))];exact h.at_ i B z
  ·rw[if_neg B,if_pos (by omega),if_pos (by omega),Maps.atKey_put_same O (F2 c)]
 ·have e1:Maps.has D (iI c)=false:=by rw[h.has c hc];exact decide_eq_false hn
  rw[Maps.size_put Z,e1,h.size,U];simp
theorem X0.step (h:X0 w b L D hb)(hc:YQ c)(hl:L.length<=100)(k:Nat):∃B,(Instr.mapUpdate 110 (.map (aa b)) (.int .i64 c) (.pointer (aa ⟨k,0,N⟩))).run Tryz.prog w=.ok () B/\(∃n,n<=1000/\lE B b n (D.put (iI c) (.held (.pointer (aa ⟨k,0,N⟩)))))/\w.grownBy B (aa b):=by
 obtain⟨n,hn,H⟩:=h.own;have I:lE w b L.length D:=by
  obtain⟨J,K,O,F,g2,rfl⟩:=H;refine⟨J,K,O,F,?_,rfl⟩;have:=h.size;rw[Maps.size_eq,length_sorted]at this;simp at this;omega
 obtain⟨B,U,Z,hg⟩:=World.ownsMap.update I tC Tryz.underlying110 (by unfold maxLen;omega) (yA hc) (val:=.pointer (aa ⟨k,0,N⟩)) (d:=.held (.pointer (aa ⟨k,0,N⟩))) (ps:=[]) rfl;exact⟨B,U,⟨_,by omega,Z⟩,hg⟩
end
section
structure ZF (w:World) (B:Nat) (h:Nat) (S:Nat->Prop) (m:Je) (mp:Option Nat) (D:za ah) (hb:Nat->Nat) (Sh:Nat->Nat->Prop):Prop where
 blk:w.heap[h]?=aa (.cells #[.string m.name,.map mp] 112 (0,0))
 self:S h
 aO:∀k,S k->B<=k/\k<w.heap.size
 aN:m.cH
 none_:mp=N->m.L=[]
 map:∀b,mp=aa b->S b/\b≠h/\X0 w b m.L D hb
 hold:∀i,i<m.L.length->QB w (hb i) (Sh i) (Zg m.L i).2.1 (Zg m.L i).2.2
 sub:∀i,i<m.L.length->∀k,Sh i k->S k/\k≠h/\mp≠aa k
 apart:∀i j,i<m.L.length->j<m.L.length->i≠j->∀k,Sh i k->¬Sh j k
def XE (w:World)(B:Nat)(h:Nat)(S:Nat->Prop)(m:Je):Prop:=∃mp D hb Sh,ZF w B h S m mp D hb Sh
variable {w w':World} {B h:Nat} {S:Nat->Prop} {m:Je} {mp:Option Nat} {D:za ah} {hb:Nat->Nat} {Sh:Nat->Nat->Prop}
theorem QB.gT {w w':World}{h:Nat}{S:Nat->Prop}{L:List Yh}{s:Bool}(H:QB w h S L s)(I:w.heap.size<=w'.heap.size)(hb:∀k,S k->w'.heap[k]?=w.heap[k]?):QB w' h S L s:=by
 obtain⟨a,b,c,d,H⟩:=H;exact⟨a,b,c,d,H.aS I hb⟩
theorem ZF.aS (H:ZF w B h S m mp D hb Sh)(O:w.heap.size<=w'.heap.size)(J:∀k,S k->w'.heap[k]?=w.heap[k]?):ZF w' B h S m mp D hb Sh where
 blk:=(J h H.self).trans H.blk
 self:=H.self
 aO:=fun k I=>⟨(H.aO k I).1,an (H.aO k I).2 O⟩
 aN:=H.aN
 none_:=H.none_
 map:=fun b e=>⟨(H.map b e).1,(H.map b e).2.1,(H.map b e).2.2.same (J b (H.map b e).1)⟩
 hold:=fun i K=>(H.hold i K).gT O (fun k I=>J k (H.sub i K k I).1)
 sub:=H.sub
 apart:=H.apart
theorem ZF.lt (H:ZF w B h S m mp D hb Sh):h<w.heap.size:=(H.aO h H.self).2
theorem ZF.vP (H:ZF w B h S m mp D hb Sh):B<=w.heap.size:=Nat.le_of_lt (Nat.lt_of_le_of_lt (H.aO h H.self).1 H.lt)
theorem ZF.below (H:ZF w B h S m mp D hb Sh)(I:ai w.heap.size w w'):ZF w' B h S m mp D hb Sh:=H.aS I.size fun k J=>I.block k (H.aO k J).2
theorem ZF.cells (H:ZF w B h S m mp D hb Sh):w.cell? ⟨h,0,N⟩=aa (.string m.name)/\w.cell? ⟨h,1,N⟩=aa (.map mp)/\w.frozen? ⟨h,1,N⟩=false:=by
 refine⟨?_,?_,?_⟩
 ·simp[aE,H.blk]
 ·simp[aE,H.blk]
 ·simp[World.frozen?,H.blk]
theorem ZF.look (H:ZF w B h S m mp D hb Sh)(I:YQ c):(Instr.lookup 110 (.map mp) (.int .i64 c) ag).run Tryz.prog w=.ok (lI m.L hb c) w:=by
 cases mp with
 |none =>
  rw[BY w I];have e:=H.none_ rfl;unfold lI;rw[e];rfl
 |some b=>exact(H.map b rfl).2.2.look I
theorem ZF.len (H:ZF w B h S m mp D hb Sh)(I:ar):(ap #[110] I #[.map mp]).run Tryz.prog w=.ok (.int .i64 (m.L.length:Nat)) w:=by
 cases mp with
 |none =>
  rw[H.none_ rfl]
  kernel_rfl
 |some b=>exact(H.map b rfl).2.2.len I
theorem ZF.pI (H:ZF w B h S m mp D hb Sh){i:Nat}(U:i<m.L.length){L':List Yh}{s':Bool}{Sn:Nat->Prop}(hH:QB w' (hb i) Sn L' s')(hU:Yd (Sh i) Sn w w')(a5:∀k,Sn k->k<w'.heap.size)(hF:(m.put i (L',s')).cH):
 ZF w' B h (fun k=>S k∨Sn k) (m.put i (L',s')) mp D hb (fun j=>if j=i then Sn else Sh j)/\Yd S (fun k=>S k∨Sn k) w w':=by
 have a2:=hU.block;have a0:=hU.new;refine⟨⟨(a2 h H.lt (fun e=>(H.sub i U h e).2.1 rfl)).trans H.blk,aj H.self,fun k I=>?_,hF,fun e=>?_,fun b e=>⟨aj (H.map b e).1,(H.map b e).2.1,?_⟩,fun j K=>?_,fun j K k I=>?_,fun j q K hq a4 k I O=>?_⟩,⟨hU.os,hU.tape,hU.output,hU.size,fun k I hs=>a2 k I (fun e=>hs (H.sub i U k e).1),fun k I=>?_⟩⟩
 ·rcases I with I|I
  ·exact⟨(H.aO k I).1,an (H.aO k I).2 hU.size⟩
  ·rcases a0 k I with J|J
   ·exact⟨(H.aO k (H.sub i U k J).1).1,a5 k I⟩
   ·exact⟨zh H.vP J,a5 k I⟩
 ·have:=H.none_ e;rw[this]at U;exact absurd U (ab _)
 ·have hc:=(H.map b e).2.2;have a3:=hc.same (a2 b hc.lt (fun e'=>(H.sub i U b e').2.2 e));have hf:∀j,(Zg (m.put i (L',s')).L j).1=(Zg m.L j).1:=fun j=>by
   rw[mC U];split
   ·rename_i e;rw[e]
   ·rfl
  have hI:∀c,Yf (m.put i (L',s')).L c=Yf m.L c:=fun c=>by
   have Z:∀(L1 L2:List fA),L1.length=L2.length->(∀j,(Zg L1 j).1=(Zg L2 j).1)->Yf L1 c<=Yf L2 c:=fun L1 L2 hl a6=>by
    rcases am (Yf L2 c) (Yf L1 c)with J|J
    ·have h2:=Q6 J;have h3:Yf L2 c<L2.length:=by have:=kL L1 c;omega
     exact absurd (by rw[a6];exact nO h3) h2
    ·exact J
   exact Nat.le_antisymm (Z _ _ (ZH _ _ _) hf) (Z _ _ (ZH _ _ _).symm (fun j=>(hf j).symm))
  exact⟨a3.own,fun c a7=>by rw[hI,ZH];exact a3.has c a7,fun j K z=>by rw[hf];rw[ZH]at K;exact a3.at_ j K z,by rw[ZH];exact a3.size⟩
 ·rw[ZH]at K;rw[mC U];by_cases e:j=i
  ·rw[if_pos e,if_pos e,e];exact hH
  ·rw[if_neg e,if_neg e];exact(H.hold j K).gT hU.size (fun k I=>a2 k (H.aO k (H.sub j K k I).1).2 (fun e'=>H.apart j i K U e k I e'))
 ·rw[ZH]at K;by_cases e:j=i
  ·have O:Sn k:=by rw[if_pos e]at I;exact I
   rcases a0 k O with J|J
   ·exact⟨ao O,(H.sub i U k J).2⟩
   ·refine⟨ao O,fun Z=>?_,fun Z=>?_⟩
    ·have:=H.lt;omega
    ·have:=(H.map k Z).2.2.lt;omega
  ·have O:Sh j k:=by rw[if_neg e]at I;exact I
   exact⟨aj (H.sub j K k O).1,(H.sub j K k O).2⟩
 ·rw[ZH]at K hq;by_cases Z:j=i<;>by_cases e2:q=i
  ·exact a4 (Z.trans e2.symm)
  ·have J:Sn k:=by rw[if_pos Z]at I;exact I
   have h2:Sh q k:=by rw[if_neg e2]at O;exact O
   rcases a0 k J with h3|h3
   ·exact H.apart i q U hq (fun e=>e2 e.symm) k h3 h2
   ·have:=(H.aO k (H.sub q hq k h2).1).2;omega
  ·have J:Sh j k:=by rw[if_neg Z]at I;exact I
   have h2:Sn k:=by rw[if_pos e2]at O;exact O
   rcases a0 k h2 with h3|h3
   ·exact H.apart j i K U Z k J h3
   ·have:=(H.aO k (H.sub j K k J).1).2;omega
  ·have J:Sh j k:=by rw[if_neg Z]at I;exact I
   have h2:Sh q k:=by rw[if_neg e2]at O;exact O
   exact H.apart j q K hq a4 k J h2
 ·rcases I with I|I
  ·exact aj I
  ·rcases a0 k I with J|J
   ·exact aj (H.sub i U k J).1
   ·exact ao J
end
theorem qG (x m:Int)(w:World):az Tryz.prog 129 #[.int .i64 x,.int .i64 m] w fun e w'=>e=.returned (.bool (decide (0<=x/\x<=m)))/\w'=w:=by
 by_cases D:0<=x
 ·by_cases H:x<=m
  ·have B:Hid (decide (0<=x/\x<=m)=zg):=decide_eq_true ⟨D,H⟩;rw[B.out];go_enter Tryz.func129,Tryz.ntmps129;go_wp2;go_ret;exact⟨rfl,rfl⟩
  ·have B:Hid (decide (0<=x/\x<=m)=ag):=decide_eq_false fun h=>H h.2
   rw[B.out];go_enter Tryz.func129,Tryz.ntmps129;go_wp2;go_ret;exact⟨rfl,rfl⟩
 ·have B:Hid (decide (0<=x/\x<=m)=ag):=decide_eq_false fun h=>D h.1
  rw[B.out];go_enter Tryz.func129,Tryz.ntmps129;go_wp2;go_ret;exact⟨rfl,rfl⟩
def YM (a b:Int):Bool:=decide (0<=a/\a<=1099511627776)&&decide (0<=b/\b<=1099511627776)
theorem wI (a b:Int)(w:World):az Tryz.prog 104 #[.agg #[.int .i64 a,.int .i64 b]] w fun e w'=>e=.returned (.bool (YM a b))/\ai w.heap.size w w':=by
 obtain⟨D,I⟩:=Xb (w.alloc (.cells #[.int .i64 a,.int .i64 b] 39));have K:Hid (ai w.heap.size w D):=by rw[I];exact bR.alloc nR _
 obtain⟨f0,f1⟩:=lO (JH I);have O:Hid _:=I;have J:Hid (az Tryz.prog 129 #[.int .i64 a,.int .i64 1099511627776] D fun e w'=>e=.returned (.bool (decide (0<=a/\a<=1099511627776)))/\w'=D):=qG _ _ D;have U:Hid (az Tryz.prog 129 #[.int .i64 b,.int .i64 1099511627776] D fun e w'=>e=.returned (.bool (decide (0<=b/\b<=1099511627776)))/\w'=D):=qG _ _ D;have Z:Hid (YM a b=(decide (0<=a/\a<=1099511627776)&&decide (0<=b/\b<=1099511627776))):=by show _=_;rfl
 rw[Z.out];clear I Z;generalize decide (0<=a/\a<=1099511627776)=x at *;generalize decide (0<=b/\b<=1099511627776)=y at *;cases x with
 |false =>
  go_enter Tryz.func104,Tryz.ntmps104;go_wp2_with fail
  rw[<-O.out];refine J.out.mono ?_;rintro e H ⟨rfl,B⟩;rw[B];clear B H J;go_wp2;go_ret;exact⟨rfl,K.out⟩
 |true =>
  go_enter Tryz.func104,Tryz.ntmps104;go_wp2_with fail
  rw[<-O.out];refine J.out.mono ?_;rintro e H ⟨rfl,B⟩;rw[B];clear B H J;go_wp2_with fail
  refine U.out.mono ?_;rintro e H ⟨rfl,B⟩;rw[B];clear B H U;go_wp2;go_ret;exact⟨rfl,K.out⟩
section
open Go.Extern.Stop Go.Stop Go.Extern
end
section
open Go.Extern.Stop Go.Stop Go.Extern
end
section
open Go.Extern.Stop Go.Stop Go.Extern
end
theorem ZD {o:Nat}(h:w.cell? ⟨b,o,N⟩=aa v):b<w.heap.size:=by
 rcases am b w.heap.size with B|B
 ·exact B
 ·simp[aE,Array.getElem?_eq_none B]at h
structure jV (w:World) (ad:Nat->bn):Prop where
 c1:w.cell? ⟨0,0,N⟩=aa (.iface 287 (.pointer (aa (ad 1))))
 c3:w.cell? ⟨5,0,N⟩=aa (.iface 287 (.pointer (aa (ad 3))))
 c5:w.cell? ⟨3,0,N⟩=aa (.iface 287 (.pointer (aa (ad 5))))
 c6:w.cell? ⟨2,0,N⟩=aa (.iface 287 (.pointer (aa (ad 6))))
 c9:w.cell? ⟨8,0,N⟩=aa (.iface 287 (.pointer (aa (ad 9))))
theorem jV.below (h:jV w ad)(B:ai w.heap.size w w'):jV w' ad where
 c1:=(B.cell (ZD h.c1)).trans h.c1
 c3:=(B.cell (ZD h.c3)).trans h.c3
 c5:=(B.cell (ZD h.c5)).trans h.c5
 c6:=(B.cell (ZD h.c6)).trans h.c6
 c9:=(B.cell (ZD h.c9)).trans h.c9
theorem jV.dI (h:jV W ad)(B:∀k,k<W.heap.size->V.heap[k]?=W.heap[k]?):jV V ad where
 c1:=(ac (w:=W) (w':=V) (B _ (ZD h.c1))).trans h.c1
 c3:=(ac (w:=W) (w':=V) (B _ (ZD h.c3))).trans h.c3
 c5:=(ac (w:=W) (w':=V) (B _ (ZD h.c5))).trans h.c5
 c6:=(ac (w:=W) (w':=V) (B _ (ZD h.c6))).trans h.c6
 c9:=(ac (w:=W) (w':=V) (B _ (ZD h.c9))).trans h.c9
structure kN (w:World) (ad:Nat->bn):Prop where
 eZ:jV w ad
 row:∀i,i=1∨i=3∨i=5∨i=6∨i=9->∃c t,w.heap[(ad i).block]?=aa (.cells c t (0,0))
 ne:∀i,i=1∨i=3∨i=5∨i=6->ad i≠ad 9
theorem rE {o:Obj}(h:w.heap[b]?=aa o):b<w.heap.size:=by
 rcases am b w.heap.size with B|B
 ·exact B
 ·rw[Array.getElem?_eq_none B]at h;cases h
theorem kN.dI (h:kN W ad)(B:∀k,k<W.heap.size->V.heap[k]?=W.heap[k]?):kN V ad where
 eZ:=h.eZ.dI B
 row:=fun i D=>by
  obtain⟨c,t,e⟩:=h.row i D;exact⟨c,t,(B _ (rE e)).trans e⟩
 ne:=h.ne
theorem HU:(Tryz.prog.info? 287).map (·.comparable)=aa true:=by kernel_rfl
theorem AO:(Tryz.prog.info? 301).map (·.size)=aa 1:=by kernel_rfl
theorem AH (a:bn)(w:World):(aC .eql 28 (.iface 287 (.pointer (aa a))) (.iface 287 (.pointer (aa a)))).run Tryz.prog w=.ok (.bool zg) w/\(aC .neq 28 (.iface 287 (.pointer (aa a))) (.iface 287 (.pointer (aa a)))).run Tryz.prog w=.ok (.bool ag) w:=by
 obtain⟨i,B,D⟩:=ae.1 HU;obtain⟨j,H,_⟩:=ae.1 AO;refine⟨run_eql_iface_ptr_same (P:=Tryz.prog) w a Tryz.underlying28 Tryz.underlying287 B D H,?_⟩;simp only[aC];simp[Op.equal,Op.maxDepth,run_equalIn_iface_ptr_same (P:=Tryz.prog) w 9998 a Tryz.underlying28 Tryz.underlying287 B D H]
theorem Jqc {a b:bn}{U Z:Array ah}{ta tb:ar}(J:a≠b)(K:w.heap[a.block]?=aa (.cells U ta (0,0)))(O:w.heap[b.block]?=aa (.cells Z tb (0,0))):(aC .eql 28 (.iface 287 (.pointer (aa a))) (.iface 287 (.pointer (aa b)))).run Tryz.prog w=.ok (.bool ag) w/\(aC .neq 28 (.iface 287 (.pointer (aa a))) (.iface 287 (.pointer (aa b)))).run Tryz.prog w=.ok (.bool zg) w:=by
 obtain⟨i,B,D⟩:=ae.1 HU;obtain⟨j,H,I⟩:=ae.1 AO;refine⟨run_eql_iface_ptr_other (P:=Tryz.prog) w Tryz.underlying28 Tryz.underlying287 B D H (by rw[I];decide) J K O,?_⟩;simp only[aC];simp[Op.equal,Op.maxDepth,run_equalIn_iface_ptr_other (P:=Tryz.prog) w 9998 Tryz.underlying28 Tryz.underlying287 B D H (by rw[I];decide) J K O]
theorem Jtd (B:ar)(v:ah)(w:World):(aC .eql 28 .nilIface (.iface B v)).run Tryz.prog w=.ok (.bool ag) w:=run_eql_iface_nil_left (P:=Tryz.prog) w B v Tryz.underlying28
namespace Crc
def SS:Nat:=3988292384
def KU (c:Nat):Nat:=if c%2=1 then SS else 0
def step (c b:Nat):Nat:=c/2^^^KU (c^^^b)
def num (f:Nat->Nat):Nat->Nat
 |0=>0
 |m+1=>num f m^^^2^m*f m
end Crc
section
variable {w w':World} {B h:Nat} {S:Nat->Prop} {m:Je} {mp:Option Nat} {D:za ah} {hb:Nat->Nat} {Sh:Nat->Nat->Prop}
theorem K3 {w:World}{x y:ah}{t:ar}(h:w.heap[b]?=aa (.cells #[x,y] t (0,0)))(v:ah):(w.setCell ⟨b,1,N⟩ v).heap[b]?=aa (.cells #[x,v] t (0,0)):=by
 simp[av,Array.getElem?_modify,h]
theorem ZF.make (K:ZF w B h S m N D hb Sh):ZF ((w.setCell ⟨h,1,N⟩ (.map (aa w.heap.size))).alloc (.map #[] 0)) B h (fun k=>S k∨k=w.heap.size) m (aa w.heap.size) (.map []) hb Sh/\Yd S (fun k=>S k∨k=w.heap.size) w ((w.setCell ⟨h,1,N⟩ (.map (aa w.heap.size))).alloc (.map #[] 0)):=by
 have O:=K.none_ rfl;have a0:=K.lt;have Z:(w.setCell ⟨h,1,N⟩ (.map (aa w.heap.size))).heap.size=w.heap.size:=by simp[av]
 obtain⟨U,I⟩:=Xb ((w.setCell ⟨h,1,N⟩ (.map (aa w.heap.size))).alloc (.map #[] 0));have a6:U.heap.size=w.heap.size+1:=by rw[I];simp[av]
 have a2:∀k,k<w.heap.size->k≠h->U.heap[k]?=w.heap[k]?:=fun k H a3=>by rw[I,Below.heap_alloc _ _ _ (by rw[Z];exact H)];exact Below.heap_setCell _ _ _ _ a3
 have a4:U.heap[h]?=aa (.cells #[.string m.name,.map (aa w.heap.size)] 112 (0,0)):=by rw[I,Below.heap_alloc _ _ _ (by rw[Z];exact a0)];exact K3 K.blk _
 have a5:X0 U w.heap.size m.L (.map []) hb:=by
  have:=X0.empty (w.setCell ⟨h,1,N⟩ (.map (aa w.heap.size))) hb;rw[Z]at this;rw[I,O];exact this
 rw[<-I];refine⟨⟨a4,aj K.self,fun k H=>?_,K.aN,(fun e=>by cases e),fun b e=>?_,fun i J=>?_,fun i J=>?_,fun i _ J=>?_⟩,⟨by rw[I];rfl,by rw[I];rfl,by rw[I];rfl,by omega,fun k H hs=>a2 k H (fun e=>hs (by rw[e];exact K.self)),fun k H=>H.elim aj (fun e=>ao (by omega))⟩⟩
 ·rcases H with H|H
  ·have:=K.aO k H;exact⟨this.1,by omega⟩
  ·rw[H];exact⟨K.vP,by omega⟩
 ·obtain rfl:w.heap.size=b:=by injection e
  exact⟨ao rfl,by omega,a5⟩
 ·rw[O]at J;exact absurd J (ab _)
 ·rw[O]at J;exact absurd J (ab _)
 ·rw[O]at J;exact absurd J (ab _)
theorem ZF.more (I:ZF w B h S m (aa b) D hb Sh)(hc:YQ c){my:Je}(a8:¬Yf m.L c<m.L.length)(U:m.held c=aa my){w1 Z:World}{J:Nat}(a0:ai w.heap.size w w1)(c8:w.heap.size<=J)(b5:J<w1.heap.size)(hH:QB w1 J (fun k=>k=J) [] ag)
 (b6:∃n,n<=1000/\lE Z b n (D.put (iI c) (.held (.pointer (aa ⟨J,0,N⟩))))) (hg:w1.grownBy Z (aa b)):
 ZF Z B h (fun k=>S k∨k=J) my (aa b) (D.put (iI c) (.held (.pointer (aa ⟨J,0,N⟩)))) (fun i=>if i=m.L.length then J else hb i) (fun i=>if i=m.L.length then(fun k=>k=J)else Sh i)/\Yd S (fun k=>S k∨k=J) w Z:=by
 obtain⟨a4,a5,a6⟩:=I.map b rfl;have a9:=(I.aN.iD hc U).1;have b0:my=⟨m.name,m.L++ [(c,[],ag)]⟩:=by
  unfold Je.held at U;rw[if_neg a8]at U;split at U
  ·cases U
  ·exact(ak U).symm
 subst b0;have b7:=a0.size;have b1:=hg.size;have a3:∀k,k<w.heap.size->k≠b->Z.heap[k]?=w.heap[k]?:=fun k H b2=>(hg.block k (by omega) (fun e=>b2 (by injection e))).trans (a0.block k H)
 have hL:(m.L++ [(c,([]:List Yh),ag)]).length=m.L.length+1:=by rw[af];rfl
 have b3:J≠b:=by have:=a6.lt;omega
 refine⟨⟨(a3 h I.lt (fun e=>a5 e.symm)).trans I.blk,aj I.self,fun k H=>?_,a9,(fun e=>by cases e),fun b' e=>?_,fun i hi=>?_,fun i hi k H=>?_,fun i j hi hj b4 k K O=>?_⟩,⟨hg.os.trans a0.os,hg.tape.trans a0.tape,hg.output.trans a0.output,by omega,fun k H hs=>a3 k H (fun e=>hs (by rw[e];exact a4)),fun k H=>H.elim aj (fun e=>ao (by omega))⟩⟩
 ·rcases H with H|H
  ·have:=I.aO k H;exact⟨this.1,by omega⟩
  ·have:=I.vP;exact⟨by omega,by omega⟩
 ·obtain rfl:b=b':=by injection e
  exact⟨aj a4,a5,(a6.same (w':=w) rfl).put hc a8 J ([],ag) b6⟩
 ·have a7:i<m.L.length+1:=by rw[<-hL];exact hi
  show QB Z (if i=m.L.length then J else hb i) (if i=m.L.length then(fun k=>k=J)else Sh i) (Zg (m.L++ [(c,([]:List Yh),ag)]) i).2.1 (Zg (m.L++ [(c,([]:List Yh),ag)]) i).2.2;rw[QI];by_cases K:i<m.L.length
  ·rw[if_neg (by omega),if_neg (by omega),if_pos K];exact(I.hold i K).gT (by omega) (fun k H=>a3 k (I.aO k (I.sub i K k H).1).2 (fun e=>(I.sub i K k H).2.2 (by rw[e])))
  ·rw[if_pos (by omega),if_pos (by omega),if_neg K,if_pos (by omega)];exact hH.gT b1 (fun k H=>by rw[H];exact hg.block J b5 (fun e=>b3 (by injection e)))
 ·have a7:i<m.L.length+1:=by rw[<-hL];exact hi
  by_cases K:i=m.L.length
  ·have a2:k=J:=by rw[if_pos K]at H;exact H
   refine⟨ao a2,?_,fun e=>?_⟩
   ·have:=I.lt;omega
   ·injection e with e;omega
  ·have a2:Sh i k:=by rw[if_neg K]at H;exact H
   exact⟨aj (I.sub i (by omega) k a2).1,(I.sub i (by omega) k a2).2⟩
 ·have a7:i<m.L.length+1:=by rw[<-hL];exact hi
  have b8:j<m.L.length+1:=by rw[<-hL];exact hj
  by_cases e1:i=m.L.length<;>by_cases e2:j=m.L.length
  ·omega
  ·have h3:k=J:=by rw[if_pos e1]at K;exact K
   have h4:Sh j k:=by rw[if_neg e2]at O;exact O
   have:=(I.aO k (I.sub j (by omega) k h4).1).2;omega
  ·have h3:Sh i k:=by rw[if_neg e1]at K;exact K
   have h4:k=J:=by rw[if_pos e2]at O;exact O
   have:=(I.aO k (I.sub i (by omega) k h3).1).2;omega
  ·have h3:Sh i k:=by rw[if_neg e1]at K;exact K
   have h4:Sh j k:=by rw[if_neg e2]at O;exact O
   exact I.apart i j (by omega) (by omega) b4 k h3 h4
end
def pR (x:Zb):Prop:=(x.from_.size<=140737488351232/\x.aP.size<=140737488351232/\x.kind.size<=140737488351232/\x.key.size<=140737488351232)/\x.L.length<=2932031007317/\∀v∈x.L,v.text.size<=140737488351232
section
variable {w w':World} {B h:Nat} {S:Nat->Prop} {m:Je} {mp:Option Nat} {D:za ah} {hb:Nat->Nat} {Sh:Nat->Nat->Prop}
theorem N9 (w:World)(name:BA):XE (w.alloc (.cells #[.string name,.map N] 112)) w.heap.size w.heap.size (fun k=>k=w.heap.size) ⟨name,[]⟩:=by
 refine⟨N,.map [],fun _=>0,fun _ _=>False,⟨?_,rfl,fun k I=>?_,Je.cH.nil _,fun _=>rfl,(fun b e=>by cases e),fun i H=>absurd H (ab _),fun i H=>absurd H (ab _),fun i _ H=>absurd H (ab _)⟩⟩
 ·show(w.heap.push _)[w.heap.size]?=_;simp
 ·subst I;exact⟨Nat.le_refl _,by simp⟩
theorem UC (ad:Nat->bn)(name:BA)(w:World)(a3:name.size<=140737488351232)(hE:∀W,ai w.heap.size w W->W.cell? ⟨5,0,N⟩=aa (.iface 287 (.pointer (aa (ad 3))))):
 az Tryz.prog 33 #[.string name] w fun e w'=>((Jo name=zg/\∃h S,e=.returned (.tuple #[.pointer (aa ⟨h,0,N⟩),.nilIface])/\XE w' w.heap.size h S ⟨name,[]⟩)∨(Jo name=ag/\∃ev,e=.returned (.tuple #[.pointer N,ev])/\oJ ad ev 4))/\ai w.heap.size w w':=by
 have I:=qF name w;have HE:Hid _:=hE;clear hE;cases hn:Jo name with
 |false =>
  rw[hn]at I;go_enter Tryz.func33,Tryz.ntmps33;go_wp2_with fail
  refine I.mono ?_;rintro e U ⟨rfl,J⟩;have e1:=HE.out U J;have K:Hid _:=J;clear J I;go_wp2;go_quiet (fail)
  go_wp2;refine bodyPost_ret (v:=.tuple #[.pointer N,.iface 287 (.pointer (aa (ad 3)))]) (by simp[results,Tryz.results33,go_sem]) rfl ?_;exact⟨ao ⟨by first|trivial|rfl,_,rfl,Or.inr ⟨3,by decide,rfl,rfl⟩⟩,below_drewN K.out _⟩
 |true =>
  rw[hn]at I;go_enter Tryz.func33,Tryz.ntmps33;go_wp2_with fail
  refine I.mono ?_;rintro e U ⟨rfl,J⟩;have a0:=Xs name U a3;have Z:Hid _:=J;clear J I;go_wp2_with fail
  refine a0.mono ?_;rintro e O ⟨rfl,a2⟩;have K:Hid _:=Z.out.trans (a2.mono Z.out.size);clear a2 a0 Z;go_wp2;refine bodyPost_ret (v:=.tuple #[.pointer (aa ⟨O.heap.size,0,N⟩),.nilIface]) (by simp[results,Tryz.results33,go_sem]) rfl ?_;obtain⟨mp,D,hb,Sh,H⟩:=N9 O name;exact⟨aj ⟨by first|trivial|rfl,O.heap.size,(fun k=>k=O.heap.size),rfl,mp,D,hb,Sh,H.blk,H.self,fun k hk=>⟨zh K.out.size (H.aO k hk).1,(H.aO k hk).2⟩,H.aN,H.none_,H.map,H.hold,H.sub,H.apart⟩,K.out.alloc K.out.size _⟩
end
section
variable {w w':World} {B h:Nat} {S:Nat->Prop} {m:Je} {mp:Option Nat} {D:za ah} {hb:Nat->Nat} {Sh:Nat->Nat->Prop}
theorem Jlc (b:Nat)(W:World):Sem.run Tryz.prog (aC .eql 110 (.map (aa b)) (.map N)) W=.ok (.bool ag) W:=by kernel_rfl
theorem Jmp (W:World):Sem.run Tryz.prog (aC .eql 110 (.map N) (.map N)) W=.ok (.bool zg) W:=by kernel_rfl
def zN (w:World)(B h:Nat)(S:Nat->Prop)(m:Je)(c:Int)(e:Ending)(w':World):Prop :=
 (m.held c=N/\e=.returned (.pointer N)/\ai w.heap.size w w')∨∃H I K O J U,m.held c=aa H/\e=.returned (.pointer (aa ⟨J (Yf m.L c),0,N⟩))/\Yf m.L c<H.L.length/\ZF w' B h I H K O J U/\Yd S I w w'
theorem JoN (K:ZF w B h S m (aa b) D hb Sh)(hc:YQ c):az Tryz.prog 84 #[.pointer (aa ⟨h,0,N⟩),.int .i64 c] w fun e w'=>zN w B h S m c e w':=by
 obtain⟨_,q1,f1⟩:=K.cells;have a3:=K.look hc;have a4:∀ty,(ap #[110] ty #[.map (aa b)]).run Tryz.prog w=.ok (.int .i64 (m.L.length:Nat)) w:=fun ty=>K.len ty
 have Z:Hid _:=K;have HC:Hid _:=hc;have b5:=Jlc b;have b2:=K.aN.bO;clear K hc;by_cases H:Yf m.L c<m.L.length
 ·have O:lI m.L hb c=.pointer (aa ⟨hb (Yf m.L c),0,N⟩):=by unfold lI;rw[if_pos H]
  rw[O]at a3;have I:Hid (m.held c=aa m):=by show _=_;unfold Je.held;rw[if_pos H]
  have J:Hid _:=H;clear O a4;generalize a5:hb (Yf m.L c)=hk at *;have b3:Hid _:=a5;clear a5 H;go_enter Tryz.func84,Tryz.ntmps84;go_wp2;go_ret;exact ao ⟨m,S,aa b,D,hb,Sh,I.out,by rw[b3.out];rfl,J.out,Z.out,Yd.aJ bR⟩
 ·have O:lI m.L hb c=.pointer none:=by unfold lI;rw[if_neg H]
  rw[O]at a3;have J:Hid (¬Yf m.L c<m.L.length):=H;clear O H;obtain⟨n,hn⟩:=Xb m.L.length;have HN:Hid _:=hn;rw[<-hn]at a4 b2;clear hn;by_cases a6:12<=n
  ·have I:Hid (m.held c=N):=by show _=_;unfold Je.held;rw[if_neg J.out,if_pos (by rw[<-HN.out];exact a6)]
   go_enter Tryz.func84,Tryz.ntmps84;go_wp2;go_ret;exact aj ⟨I.out,rfl,Below.refl _ _⟩
  ·have I:Hid (m.held c=aa ⟨m.name,m.L++ [(c,[],ag)]⟩):=by show _=_;unfold Je.held;rw[if_neg J.out,if_neg (by rw[<-HN.out];exact a6)]
   obtain⟨w1,U⟩:=Xb (w.alloc (.cells #[.map none, .bool false] 185));have a0:=Zk U;have a7:=fQ U;have a8:QB w1 w.heap.size (fun k=>k=w.heap.size) [] false:=by rw[U];exact FO w
   have a2:=Z.out.below a0;obtain⟨_,k1,_⟩:=a2.cells;obtain⟨w2,b6,a9,b0⟩:=(a2.map b rfl).2.2.step HC.out (by have:=Z.out.aN.bO;omega) w.heap.size;have HM:=Z.out.more HC.out J.out I.out a0 nR a7 a8 a9 b0;have b1:Hid _:=HM;have b4:Hid _:=U;clear U a0 a7 a8 a2 a9 b0 HM;go_enter Tryz.func84,Tryz.ntmps84;go_wp2_with (first|rw[<-b4.out])
   go_ret;refine ao ⟨_,_,_,_,_,_,I.out,?_,?_,b1.out.1,b1.out.2⟩
   ·have e2:Yf m.L c=m.L.length:=by have:=kL m.L c;have:=J.out;omega
    show _=Ending.returned (.pointer (aa ⟨if Yf m.L c=m.L.length then w.heap.size else hb (Yf m.L c),0,N⟩));rw[if_pos e2];rfl
   ·show _<(m.L++ [_]).length;rw[af];have:=kL m.L c;show _<_+1;omega
theorem JoO (I:ZF w B h S m N D hb Sh)(U:YQ c):az Tryz.prog 84 #[.pointer (aa ⟨h,0,N⟩),.int .i64 c] w fun e w'=>zN w B h S m c e w':=by
 obtain⟨_,q1,f1⟩:=I.cells;have J:=I.none_ rfl;have a5:=I.lt;have b4:=BY w U;have b5:∀Z,(ap #[110] Z #[.map N]).run Tryz.prog w=.ok (.int .i64 (0:Nat)) w:=fun Z=>by have:=I.len Z;rw[J]at this;exact this
 have b6:=Jmp;have HG:Hid (¬Yf m.L c<m.L.length):=by show ¬_;rw[J];exact ab _
 have HH:Hid (m.held c=aa ⟨m.name,m.L++ [(c,[],ag)]⟩):=by show _=_;unfold Je.held;rw[if_neg HG.out,if_neg (by rw[J];decide)]
 obtain⟨O,a0⟩:=I.make;obtain⟨H,a2⟩:=Xb ((w.setCell ⟨h,1,N⟩ (.map (aa w.heap.size))).alloc (.map #[] 0));rw[<-a2]at O a0;have b7:(w.alloc (.map #[] 0)).frozen? ⟨h,1,N⟩=false:=by rw[((Below.refl _ w).alloc nR _).frozen (p:=⟨h,1,N⟩) a5];exact f1
 have b8:(w.alloc (.map #[] 0)).cell? ⟨h,1,N⟩=aa (.map N):=by rw[((Below.refl _ w).alloc nR _).cell (p:=⟨h,1,N⟩) a5];exact q1
 have c8:(Instr.makeMap 110 N).run Tryz.prog w=.ok (.map (aa w.heap.size)) (w.alloc (.map #[] 0)):=by kernel_rfl
 obtain⟨w1,K⟩:=Xb (H.alloc (.cells #[.map none, .bool false] 185));have a3:=Zk K;have a6:=fQ K;have a7:QB w1 H.heap.size (fun k=>k=H.heap.size) [] false:=by rw[K];exact FO H
 have a4:=O.below a3;obtain⟨_,k1,_⟩:=a4.cells;obtain⟨w2,d0,a8,a9⟩:=(a4.map w.heap.size rfl).2.2.step U (by rw[J];decide) H.heap.size;have HM:=O.more U HG.out HH.out a3 nR a6 a7 a8 a9;have b0:Hid _:=HM.1;have b1:Hid _:=a0.trans HM.2;have b2:Hid _:=a2;have b3:Hid _:=K;clear K a3 a6 a7 a4 a8 a9 HM I O a0 a2 J U;go_enter Tryz.func84,Tryz.ntmps84;go_wp2_with (first|rw[<-b2.out]|rw[<-b3.out])
 go_ret;refine ao ⟨_,_,_,_,_,_,HH.out,?_,?_,b0.out,b1.out⟩
 ·have e2:Yf m.L c=m.L.length:=by have:=kL m.L c;have:=HG.out;omega
  show _=Ending.returned (.pointer (aa ⟨if Yf m.L c=m.L.length then H.heap.size else hb (Yf m.L c),0,N⟩));rw[if_pos e2];rfl
 ·show _<(m.L++ [_]).length;rw[af];have:=kL m.L c;show _<_+1;omega
theorem CJ (H:ZF w B h S m mp D hb Sh)(I:YQ c):az Tryz.prog 84 #[.pointer (aa ⟨h,0,N⟩),.int .i64 c] w fun e w'=>zN w B h S m c e w':=by
 cases mp with
 |none=>exact JoO H I
 |some b=>exact JoN H I
end
end Go.Proofs.YtgapmoniajcliaaGreatDoor
