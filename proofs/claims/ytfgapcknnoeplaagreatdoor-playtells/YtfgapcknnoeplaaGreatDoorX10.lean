/- Texts laid together. -/
import Derived.Test.YtfgapcknnoeplaaGreatDoorX9
set_option maxRecDepth 10000
set_option maxHeartbeats 4000000
open Option renaming some->aa,none->N,map_eq_some_iff->ac
open Go renaming run_callFunc_extern->ab,Value->ah,TypeId->ar,rounds_succ->au,Calls->av,run_eql_iface_ptr_other->ax,run_eql_iface_ptr_same->az,Addr->aB,wp_loop_rounds->aC,binOp->zh,DataW->aW,bytes->bw
open Nat renaming not_lt_zero->ae,lt_of_lt_of_le->ak,lt_or_ge->al,lt_irrefl->za,le_trans->bb
open Bool renaming false->af,true->ay
open Go.World renaming cell?_of_block->ag,cell?->aE,setCell->zb
open List renaming length_append->ai,length_map->zi
open Go.RowKit renaming Below->aj
open Go.Result renaming andThen->am
open Array renaming getElem?_eq_none->an
open Or renaming inl->ao,inr->aw
open Option.some renaming inj->ap
open Int renaming natCast_mul->aq
open Go.Builtin renaming len_->aA
namespace Go.Proofs
open Go.Shelf
def Tryz.laysM171_ren : Go.Shelf.Ren := ⟨fun | 171 => 39 | 243 => 63 | 246 => 93 | 283 => 122 | 284 => 123 | 285 => 124 | 286 => 125 | 129 => 152 | 317 => 151 | 318 => 153 | 319 => 154 | 320 => 155 | 337 => 183 | 338 => 184 | n => n, fun | 3 => 3 | 9 => 9 | 2 => 2 | 4 => 4 | 171 => 219 | 0 => 0 | 53 => 220 | 37 => 127 | 5 => 5 | 173 => 223 | 212 => 248 | 51 => 149 | 20 => 20 | 213 => 249 | 46 => 228 | 232 => 295 | 233 => 296 | n => n, fun | 17 => 13 | 18 => 14 | 19 => 15 | n => n⟩
theorem Tryz.laysM171 : Go.Proofs.LaysM.n171 Tryz.prog Tryz.laysM171_ren := {
 mixed:=by kernel_rfl
 f129:=Tryz.func152.trans (congrArg aa (by kernel_rfl))
 f171:=Tryz.func39.trans (congrArg aa (by kernel_rfl))
 f243:=Tryz.func63.trans (congrArg aa (by kernel_rfl))
 f246:=Tryz.func93.trans (congrArg aa (by kernel_rfl))
 f283:=Tryz.func122.trans (congrArg aa (by kernel_rfl))
 f284:=Tryz.func123.trans (congrArg aa (by kernel_rfl))
 f285:=Tryz.func124.trans (congrArg aa (by kernel_rfl))
 f286:=Tryz.func125.trans (congrArg aa (by kernel_rfl))
 f317:=Tryz.func151.trans (congrArg aa (by kernel_rfl))
 f318:=Tryz.func153.trans (congrArg aa (by kernel_rfl))
 f319:=Tryz.func154.trans (congrArg aa (by kernel_rfl))
 f320:=Tryz.func155.trans (congrArg aa (by kernel_rfl))
 f337:=Tryz.func183.trans (congrArg aa (by kernel_rfl))
 f338:=Tryz.func184.trans (congrArg aa (by kernel_rfl))
 t0:=Tryz.underlying0
 a0:=Tryz.isAgg0
 z0:=Tryz.sizeOf0
 v0:=Tryz.zeroValue0
 t2:=Tryz.underlying2
 a2:=Tryz.isAgg2
 z2:=Tryz.sizeOf2
 v2:=Tryz.zeroValue2
 t3:=Tryz.underlying3
 a3:=Tryz.isAgg3
 z3:=Tryz.sizeOf3
 v3:=Tryz.zeroValue3
 t4:=Tryz.underlying4
 a4:=Tryz.isAgg4
 z4:=Tryz.sizeOf4
 v4:=Tryz.zeroValue4
 t5:=Tryz.underlying5
 a5:=Tryz.isAgg5
 z5:=Tryz.sizeOf5
 v5:=Tryz.zeroValue5
 t9:=Tryz.underlying9
 a9:=Tryz.isAgg9
 z9:=Tryz.sizeOf9
 v9:=Tryz.zeroValue9
 t20:=Tryz.underlying20
 a20:=Tryz.isAgg20
 z20:=Tryz.sizeOf20
 v20:=Tryz.zeroValue20
 t37:=Tryz.underlying127
 a37:=Tryz.isAgg127
 z37:=Tryz.sizeOf127
 v37:=Tryz.zeroValue127
 t46:=Tryz.underlying228
 a46:=Tryz.isAgg228
 z46:=Tryz.sizeOf228
 v46:=Tryz.zeroValue228
 t51:=Tryz.underlying149
 a51:=Tryz.isAgg149
 z51:=Tryz.sizeOf149
 v51:=Tryz.zeroValue149
 t53:=Tryz.underlying220
 a53:=Tryz.isAgg220
 z53:=Tryz.sizeOf220
 v53:=Tryz.zeroValue220
 t171:=Tryz.underlying219
 a171:=Tryz.isAgg219
 z171:=Tryz.sizeOf219
 v171:=Tryz.zeroValue219
 t173:=Tryz.underlying223
 a173:=Tryz.isAgg223
 z173:=Tryz.sizeOf223
 v173:=Tryz.zeroValue223
 t212:=Tryz.underlying248
 a212:=Tryz.isAgg248
 z212:=Tryz.sizeOf248
 v212:=Tryz.zeroValue248
 t213:=Tryz.underlying249
 a213:=Tryz.isAgg249
 z213:=Tryz.sizeOf249
 t232:=Tryz.underlying295
 a232:=Tryz.isAgg295
 z232:=Tryz.sizeOf295
 v232:=Tryz.zeroValue295
 t233:=Tryz.underlying296
 a233:=Tryz.isAgg296
 z233:=Tryz.sizeOf296
 v233:=Tryz.zeroValue296
 g17:=by kernel_rfl
 g18:=by kernel_rfl
 g19:=by kernel_rfl
 i0:=by kernel_rfl
 i2:=by kernel_rfl
 i3:=by kernel_rfl
 i4:=by kernel_rfl
 i5:=by kernel_rfl
 i9:=by kernel_rfl
 i20:=by kernel_rfl
 i37:=by kernel_rfl
 i46:=by kernel_rfl
 i51:=by kernel_rfl
 i53:=by kernel_rfl
 i171:=by kernel_rfl
 i173:=by kernel_rfl
 i212:=by kernel_rfl
 i232:=by kernel_rfl
 i233:=by kernel_rfl
 m17:=by kernel_rfl
 m18:=by kernel_rfl
 m19:=by kernel_rfl }
end Go.Proofs
namespace Go.Proofs.YtfgapcknnoeplaaGreatDoor
open Go.RowKit
variable {w w' W V:World}{x:Zb×Lv}{T:ar}{B b:Nat}{v:ah}{c:Int}{ad:Nat->aB}
theorem IV (a:Za):a.gW.next=a.next:=by
 unfold Za.gW;split<;>rfl
theorem uQ {a:Za}{m:Zb}(h:a.aM m=ay)(B:a.st=.sealing):a.aD m=fU (a.heard m):=by
 unfold Za.aD fU;have e:(a.heard m).c=a.c:=rfl;rw[if_neg (by rw[h];decide),if_neg (fun D=>D.2 B),e];split
 ·rfl
 ·rw[if_neg (by rw[B];decide)]
def J1 (T:ar)(B:Nat)(w:World)(v:ah)(D:List (Zb×Lv)):Prop:=Zc mE T w B v D/\∀x∈D,Jn w x/\∀b o,x.2.1=aa ⟨b,o,N⟩->(B<=b/\b<w.heap.size)/\v.ownBlock≠aa b
theorem KB {row:Option Nat}(h:Jn w x)(B:w.grownBy w' row)(D:∀b o,x.2.1=aa ⟨b,o,N⟩->aa b≠row):Jn w' x:=⟨h.len,NM h.eC B D,h.room,h.empty⟩
theorem J1.snoc {K O w6:World}{U:ah}{ml:List (Zb×Lv)}(h:J1 T B K v ml)(hB:B<=K.heap.size)(hb:aj K.heap.size K O)(hx:Jn O x)(Z:∀b o,x.2.1=aa ⟨b,o,N⟩->K.heap.size<=b/\b<O.heap.size)
 (hO:Zc mE T w6 B U (ml++ [x])) (hg:O.grownBy w6 v.ownBlock) (hl:U.ownBlock=v.ownBlock∨U.ownBlock=aa O.heap.size):J1 T B w6 U (ml++ [x]):=by
 have hz:=hb.size;have a0:=hg.size;refine⟨hO,fun y I=>?_⟩;rcases List.mem_append.1 I with I|I
 ·obtain⟨h1,H⟩:=h.2 y I;refine⟨KB (h1.below hb) hg (fun b o D e=>(H b o D).2 e.symm),fun b o D=>⟨⟨(H b o D).1.1,by have:=(H b o D).1.2;omega⟩,?_⟩⟩;have:=(H b o D).1.2;rcases hl with e|e
  ·rw[e];exact(H b o D).2
  ·rw[e];intro J;have:=ap J;omega
 ·rw[List.mem_singleton.1 I];refine⟨KB hx hg (fun b o D e=>?_),fun b o D=>⟨⟨by have:=(Z b o D).1;omega,by have:=(Z b o D).2;omega⟩,?_⟩⟩
  ·have h1:=Z b o D;have H:=(h.1.block e.symm).2;omega
  ·have h1:=Z b o D;rcases hl with e|e
   ·rw[e];intro J;have:=(h.1.block J).2;omega
   ·rw[e];intro J;have:=ap J;omega
theorem J1.nil (T:ar)(B:Nat)(w:World):J1 T B w (.slice N 0 0) []:=⟨Zc.nil _ _ _,fun x D=>by cases D⟩
theorem J1.kept {J:List (Zb×Lv)}(h:J1 T B w v J)(I:aj w.heap.size w w'):J1 T B w' v J:=⟨h.1.kept I,fun x D=>⟨(h.2 x D).1.below I,fun b o H=>⟨⟨((h.2 x D).2 b o H).1.1,ak ((h.2 x D).2 b o H).1.2 I.size⟩,((h.2 x D).2 b o H).2⟩⟩⟩
theorem J1.SO {D:List (Zb×Lv)}(h:J1 T B w v D):∃p c,v=.slice p D.length c/\QE c B w p (D.map Prod.fst):=by
 obtain⟨p,c,J,K,O,H,U⟩:=h.1.form;exact⟨p,c,J,⟨⟨D,rfl,K,fun x I=>⟨(h.2 x I).1,fun b o e=>((h.2 x I).2 b o e).1⟩,U⟩,by rw[zi];exact O,fun e=>by rw[zi,(H e).1];exact⟨rfl,(H e).2⟩⟩⟩
theorem NJ {α:Type}{E:eW α}{ops:Array Oper}{o:Oper}{a:Act}{K:Act->World->Prop}{Q:Exit->Act->World->Prop}{E':Prop}
 (a5:o.guard=N) (s x:Operand) (t T:ar) (ho:o.op=.call {callee:=.builtin .append,args:=#[s,x],argTypes:=#[t,t]}) (z:ah) (bw:Nat) (ht:Tryz.prog.underlying t=aa (.slice T))
 (a6:(Tryz.prog.info? T).map (fun i=>(i.zero,i.size,i.bytes))=aa (aa z,E.k,bw)) (a7:z.cells.size=E.k)
 (B:Nat) (v:ah) (l:List α) (hs:a.eval s=v) (a3:Zc E T w B v l) (b:Nat) (c:Nat) (r:α) (hx:a.eval x=.slice (aa ⟨b,0,N⟩) 1 c) (hc:∀j u,(E.enc r)[j]?=aa u->w.cell? ⟨b,j,N⟩=aa u) (hl:l.length+1<=maxLen) (a4:(l.length+1)*bw<=140737488355328) (a8:B<=w.heap.size)
 (h:∀D w',Zc E T w' B D (l++ [r])->w.grownBy w' v.ownBlock->(D.ownBlock=v.ownBlock∨D.ownBlock=aa w.heap.size)->K (a.put o.dst D) w'):
 if Region.wanted o (yielded ops a.tmps)=ay then Oper.wp Tryz.prog o a w K Q else E':=by
 have hw:Region.wanted o (yielded ops a.tmps)=true:=by simp[Region.wanted,a5]
 rw[if_pos hw];obtain⟨H,I,J,O,U⟩:=info_parts a6;have Z:∀j u,(E.enc r)[j]?=aa u->w.cell? ((⟨b,0,N⟩:aB).add j)=aa u:=fun j u hj=>by
  have h0:=hc j u hj;by_cases e:j=0
  ·subst e;simpa[Addr.add]using h0
  ·simpa[Addr.add,e]using h0
 have a0:(E.enc r).length=1*E.k:=by rw[E.len,Nat.one_mul]
 obtain⟨D,w',a2,h2,h3,_⟩:=run_append_own (P:=Tryz.prog) w B t o.type T H z E.k bw ht I J O U a7 E.pos v l.length (Qb E l) a3 ⟨b,0,N⟩ 1 c (E.enc r) a0 Z (E.one r) hl a4 a8;have h4:=yO B t o.type T H z E.k bw ht I J O U v l.length (Qb E l) a3 ⟨b,0,N⟩ 1 c (E.enc r) a0 Z (E.one r) hl a4 (by decide) a2;unfold Oper.wp;simp[execOp,ho,resolve,invoke,builtin,hs,hx,a2,am];refine h D w' ?_ h3 h4;unfold Zc;rw[Qj,qK,ai];exact h2
theorem W8 (pw ps B j c:Nat)(s:BA)(w:World)(U:j<=1000)(hc:c<=100000)(Z:B<=100000)(hw:w.cell? ⟨pw,0,N⟩=aa (.int .i64 (B:Int)))(hs:w.cell? ⟨ps,0,N⟩=aa (.string s)):
 av Tryz.prog 202 (#[.int .i64 (j:Int),.int .i64 (c:Int)]++#[.pointer (aa ⟨pw,0,N⟩),.pointer (aa ⟨ps,0,N⟩)]) w fun e J=>e=.returned (.int .u8 ((gN s B j c:Nat):Int))/\J=w:=by
 have H:=Nat.mul_le_mul U Z;have a0:(0:Int)<=(j:Int)*(B:Int):=by rw[<-aq];omega
 have a2:(j:Int)*(B:Int)<=100000000:=by rw[<-aq];omega
 have a3:IntKind.i64.wrap ((j:Int)*(B:Int))=(j:Int)*(B:Int):=by rw[IntKind.wrap_i64];omega
 have a4:IntKind.i64.wrap ((j:Int)*(B:Int)+(c:Int))=(j:Int)*(B:Int)+(c:Int):=by rw[IntKind.wrap_i64];omega
 by_cases D:j*B+c<s.size
 ·have I:(j:Int)*(B:Int)+(c:Int)<(s.size:Int):=by rw[<-aq];omega
  have K:(0:Int)<=(j:Int)*(B:Int)+(c:Int):=by omega
  have O:∀W,Sem.run Tryz.prog (Instr.index 9 (.string s) (.int .i64 ((j:Int)*(B:Int)+(c:Int)))) W=.ok (.int .u8 ((gN s B j c:Nat):Int)) W:=fun W=>by
   rw[run_index_string W 9 s .i64 _ Tryz.underlying9,dif_pos ⟨K,I⟩];unfold gN;rw[uD s (j*B+c) D]
   congr 3
  clear D H;generalize gN s B j c=y at O ⊢;go_enter Tryz.func202,Tryz.ntmps202;go_wp2;go_ret;exact⟨rfl,rfl⟩
 ·have I:¬(j:Int)*(B:Int)+(c:Int)<(s.size:Int):=by rw[<-aq];omega
  rw[VE D];clear D H;go_enter Tryz.func202,Tryz.ntmps202;go_wp2;go_ret;exact⟨rfl,rfl⟩
theorem RO (n k:Nat)(s:BA)(z:aB)(w:World)(a2:1<=k)(e4:k<=n)(hn:n<=12)(hs:s.size<=1000)(hz:w.cell? ⟨11,0,N⟩=aa (.iface 335 (.pointer (aa z)))):
 av Tryz.prog 192 #[.int .i64 (n:Int),.int .i64 (k:Int),.string s] w fun e w'=>(∃g,w.heap.size<=g/\e=.returned (.tuple #[.slice (aa ⟨g,0,N⟩) n n,.nilIface])/\ZE w' g n (fR k s))/\aj w.heap.size w w':=by
 have e5:=xR (size:=s.size) a2;obtain⟨w1,O⟩:=Xb (w.alloc (.cells #[.string s] 9));have a3:=Zk O;have d6:=QT O;have a9:w1.cell? ⟨w.heap.size,0,N⟩=aa (.string s):=XX O rfl;have HS:=BZ n k s.size z w1 a2 e4 hn hs ((a3.cell (p:=⟨11,0,N⟩) (Qf hz)).trans hz);have b0:Hid _:=O;have b1:Hid _:=a3;have d7:=Jhx n (by omega);clear O a3 hz;go_enter Tryz.func192,Tryz.ntmps192;go_wp2_with fail
 rw[<-b0.out];refine HS.mono ?_;rintro e D ⟨⟨gm,rfl,b2⟩,Z⟩;have e6:=Z.size;have b3:D.cell? ⟨w.heap.size,0,N⟩=aa (.string s):=(Z.cell (p:=⟨w.heap.size,0,N⟩) (by show w.heap.size<_;omega)).trans a9;have b4:Hid (QJ D (aa ⟨gm,0,N⟩) (kK k n)):=b2;have b5:Hid (aj w.heap.size w D):=b1.out.trans (Z.mono (by omega));clear HS b2 Z b1 b0 a9;have b6:=fun W=>zM s.size k W a2 (by omega) (by omega)
 have d8:Hid (∀i,fR k s i=((i:Int),Jp (J7 (fun i j=>Gf.aQ (JB k) j i) (gN s (Jk k s.size)) k (Jk k s.size) i))):=fun i=>rfl
 generalize Jk k s.size=H at *;go_wp2_with fail
 refine(b6 _).mono ?_;rintro e d9 ⟨rfl,b7⟩;rw[b7];clear b7 d9 b6;obtain⟨I,U⟩:=Xb (D.alloc (.cells #[.int .i64 (H:Int)] 3));have a0:=Zk U;have e0:=QT U;have b8:I.cell? ⟨w.heap.size,0,N⟩=aa (.string s):=(a0.cell (p:=⟨w.heap.size,0,N⟩) (by show w.heap.size<_;omega)).trans b3;have d0:I.cell? ⟨D.heap.size,0,N⟩=aa (.int .i64 (H:Int)):=XX U rfl;have d1:Hid (aj w.heap.size w I):=b5.out.trans (a0.mono (by omega));have HT:uI I 202 #[.pointer (aa ⟨D.heap.size,0,N⟩),.pointer (aa ⟨w.heap.size,0,N⟩)] (gN s H) k H:=fun j c hj hc B h4 =>
  W8 D.heap.size w.heap.size H j c s B (by omega) (by omega) (by omega) ((h4.cell (p:=⟨D.heap.size,0,N⟩) (by show D.heap.size<_;omega)).trans d0) ((h4.cell (p:=⟨w.heap.size,0,N⟩) (by show w.heap.size<_;omega)).trans b8)
 have HR:=F3 (aa ⟨gm,0,N⟩) n k H n (fun i j=>Gf.aQ (JB k) j i) (gN s H) 202 #[.pointer (aa ⟨D.heap.size,0,N⟩),.pointer (aa ⟨w.heap.size,0,N⟩)] I (by omega) (by omega) a2 (by omega) (by omega) (fun i j=>Gf.bL _ _ _) (fun j c=>DM s H j c) (b4.out.below a0) (enters_of Tryz.func202 (by kernel_rfl) rfl) HT;have d2:Hid (I=D.alloc (.cells #[.int .i64 (H:Int)] 3)):=U;have e7:D.heap.size<I.heap.size:=by omega
 have e8:w.heap.size<w1.heap.size:=by omega
 clear U a0 HT b4 b5 b3 e0 d6;go_wp2_with fail
 rw[<-d2.out];refine HR.mono ?_;rintro e B ⟨rfl,a4,d3⟩;have e1:Hid (B.rowIs I.heap.size 9 n (fun i=>.string (Jp (J7 (fun i j=>Gf.aQ (JB k) j i) (gN s H) k H i)))):=a4;have a5:Hid (aj w.heap.size w B):=d1.out.trans (d3.mono (by omega));have e2:I.heap.size<B.heap.size:=a4.lt;clear HR a4 d3 d1 d2 b8 d0;go_wp2;have a6:=ZE.made B n;have a7:aj B.heap.size B (B.alloc (.cells (madeCells #[.int .i64 0,.string ⟨#[]⟩] (n*2)) 214)):=bR.alloc nR _;generalize B.alloc (.cells (madeCells #[.int .i64 0,.string ⟨#[]⟩] (n*2)) 214)=w5 at a6 a7 ⊢;have d4:Hid (ZE w5 B.heap.size n (fun _=>(0,⟨#[]⟩))):=a6;have d5:Hid (aj B.heap.size B w5):=a7;clear a6 a7 d7;go_loopw [38] (fun x wr=>∃i:Nat,i<=n/\x=.int .i64 i/\ZE wr B.heap.size n (fun q=>if q<i then fR k s q else(0,⟨#[]⟩))/\aj B.heap.size B wr) (fun x _=>n-(intOf x).toNat)
 case atStart=>exact⟨0,by omega,rfl,d4.out.congr (fun q _=>by simp),d5.out⟩
 case round =>
  obtain⟨i,hi,rfl,hS,hB⟩:=hrel;obtain⟨J,rfl⟩:=Xb wr;have K:Hid (ZE J B.heap.size n (fun q=>if q<i then fR k s q else(0,⟨#[]⟩))):=hS;have HB:Hid (aj B.heap.size B J):=hB;have e9:B.heap.size<J.heap.size:=World.rowIs.lt hS;clear hS hB d4 d5;by_cases a8:i<n
  ·have q0:J.cell? ⟨I.heap.size,i,N⟩=aa (.string (JW k s i)):=by
    rw[HB.out.cell (p:=⟨I.heap.size,i,N⟩) e2,e1.out.cell a8];exact congrArg (fun x:Int×BA=>aa (Value.string x.2)) (d8.out i).symm
   have q1:J.cell? ⟨B.heap.size,i*2,N⟩=aa (.int .i64 0):=by rw[K.out.at_ a8,if_neg (za _)]
   have q2:J.cell? ⟨B.heap.size,i*2+1,N⟩=aa (.string ⟨#[]⟩):=by rw[K.out.text a8,if_neg (za _)]
   have f1:J.frozen? ⟨B.heap.size,i*2,N⟩=false:=World.rowIs.frozen K.out _;have f2:J.frozen? ⟨B.heap.size,i*2+1,N⟩=false:=World.rowIs.frozen K.out _;go_wp2;go_roundw
   case rel =>
    refine⟨i+1,by omega,by go_num,?_,?_⟩
    ·refine(K.out.set i (i:Int) (JW k s i)).congr (fun q _=>?_);by_cases e:q=i
     ·rw[if_pos e,if_pos (by omega),e];rfl
     ·rw[if_neg e];by_cases e':q<i
      ·rw[if_pos e',if_pos (by omega)]
      ·rw[if_neg e',if_neg (by omega)]
    ·exact(HB.out.setCell nR _).setCell nR _
   case measure=>simp[intOf];omega
  ·have e3:i=n:=by omega
   subst e3;go_wp2
   go_ret2
   exact⟨⟨B.heap.size,by have:=a5.out.size;omega,rfl,K.out.congr (fun q hq=>by rw[if_pos hq])⟩,a5.out.trans (HB.out.mono (a5.out.size))⟩
section
def iI (c:Int):Lit:=.int .i64 c
theorem DW {d:Int}(h:iI c=iI d):c=d:=by
 unfold iI at h;injection h
theorem F2 (c:Int):WideAt.IsKeyLit (iI c):=trivial
theorem tC:Maps.Keyed Tryz.prog 3:=Maps.int_keyed Tryz.underlying3
theorem Jtu {a:Int}(h:YQ a):(Lit.int .i64 a).wf=true:=by
 simp[Lit.wf,IntKind.min,IntKind.max,IntKind.bits,IntKind.signed];exact h
theorem yA (h:YQ c):keyOf Tryz.prog 3 (.int .i64 c)=aa (iI c):=Maps.keyOf_int_mk Tryz.underlying3 (Jtu h)
abbrev lE (w:World)(b n:Nat)(D:aW ah):Prop:=w.ownsMap Tryz.prog 3 iW b n D
theorem lE.same {n:Nat}{D:aW ah}(h:lE w b n D)(hb:w'.heap[b]?=w.heap[b]?):lE w' b n D:=by
 obtain⟨B,H,I,J⟩:=h;exact⟨B,H,hb.trans I,J⟩
structure X0 (w:World) (b:Nat) (L:List fA) (D:aW ah) (hb:Nat->Nat):Prop where
 own:∃n,n<=1000/\lE w b n D
 has:∀c,YQ c->Maps.has D (iI c)=decide (Yf L c<L.length)
 at_:∀i,i<L.length->∀z,D.atKey (iI (Zg L i).1) z=.held (.pointer (aa ⟨hb i,0,N⟩))
 size:Maps.size D=L.length
variable {w w':World} {b:Nat} {L:List fA} {D:aW ah} {hb:Nat->Nat}
theorem X0.same (h:X0 w b L D hb)(e:w'.heap[b]?=w.heap[b]?):X0 w' b L D hb:=by
 obtain⟨n,B,H⟩:=h.own;exact⟨⟨n,B,H.same e⟩,h.has,h.at_,h.size⟩
theorem X0.lt (h:X0 w b L D hb):b<w.heap.size:=by
 obtain⟨n,_,B⟩:=h.own;exact World.ownsMap.lt B
theorem X0.empty (w:World)(hb:Nat->Nat):X0 (w.alloc (.map #[] 0)) w.heap.size [] (.map []) hb :=
 ⟨⟨0,Nat.zero_le _,World.ownsMap_made w Tryz.prog 3 iW⟩,fun _ _=>rfl,fun _ B=>absurd B (ae _),rfl⟩
def lI (L:List fA)(hb:Nat->Nat)(c:Int):Value:=.pointer (if Yf L c<L.length then aa ⟨hb (Yf L c),0,N⟩else N)
theorem X0.look (h:X0 w b L D hb)(H:YQ c):(Instr.lookup 112 (.map (aa b)) (.int .i64 c) af).run Tryz.prog w=.ok (lI L hb c) w:=by
 have I:(zeroValue 209).run Tryz.prog w=.ok (.pointer N) w:=by kernel_rfl
 obtain⟨n,_,J⟩:=h.own;obtain⟨v,ps,K,O⟩:=World.ownsMap.lookup J tC Tryz.underlying112 I (zd:=.held (.pointer N)) (zp:=[]) rfl (yA H);rw[K];have e:=congrArg Prod.fst (ap O);unfold lI;by_cases B:Yf L c<L.length
 ·rw[if_pos B];have:=h.at_ _ B (.held (.pointer N));rw[nO B]at this;rw[this]at e;injection e with e
  rw[e]
 ·rw[if_neg B];rw[Maps.atKey_of_not_has (by rw[h.has c H];exact decide_eq_false B)]at e;injection e with e
  rw[e]
theorem BY (w:World)(H:YQ c):(Instr.lookup 112 (.map N) (.int .i64 c) af).run Tryz.prog w=.ok (.pointer N) w:=by
 have B:(zeroValue 209).run Tryz.prog w=.ok (.pointer N) w:=by kernel_rfl
 have:=Maps.look_nil (w:=w) af tC Tryz.underlying112 B (yA H);rw[this];rfl
theorem X0.len (h:X0 w b L D hb)(B:ar):(aA #[112] B #[.map (aa b)]).run Tryz.prog w=.ok (.int .i64 (L.length:Nat)) w:=by
 obtain⟨n,_,H⟩:=h.own;rw[World.ownsMap.len H Tryz.underlying112 B,h.size]
theorem X0.put (h:X0 w b L D hb)(hc:YQ c)(hn:¬Yf L c<L.length)(k:Nat)(x:List Yh×Bool)(hw:∃n,n<=1000/\lE w' b n (D.put (iI c) (.held (.pointer (aa ⟨k,0,N⟩))))):
 X0 w' b (L++ [(c,x)]) (D.put (iI c) (.held (.pointer (aa ⟨k,0,N⟩)))) (fun i=>if i=L.length then k else hb i):=by
 obtain⟨n,_,K⟩:=h.own;have Z:=World.ownsMap.tidy K tC;have O:=World.ownsMap.isMap K;have U:(L++ [(c,x)]).length=L.length+1:=by rw[ai];rfl
 have a0:∀i,i<L.length->(Zg L i).1≠c:=fun i I=>Q6 (by omega)
 refine⟨hw,fun d hd=>?_,fun i I z=>?_,?_⟩
 ·by_cases e:d=c
  ·subst e;rw[Maps.has_put_same O (F2 d)]
   symm
   refine decide_eq_true ?_;rcases al (Yf (L++ [(d,x)]) d) (L++ [(d,x)]).length with B|B
   ·exact B
   ·refine absurd ?_ (Q6 (L:=L++ [(d,x)]) (c:=d) (i:=L.length) (by omega));rw[QI,if_neg (za _),if_pos rfl]
  ·rw[Maps.has_put_other (fun J=>e (DW J)),h.has d hd];by_cases H:Yf L d<L.length
   ·rw[decide_eq_true H]
    symm
    refine decide_eq_true ?_;rcases al (Yf (L++ [(c,x)]) d) (L++ [(c,x)]).length with B|B
    ·exact B
    ·refine absurd ?_ (Q6 (L:=L++ [(c,x)]) (c:=d) (i:=Yf L d) (by omega));rw[QI,if_pos H];exact nO H
   ·rw[decide_eq_false H]
    symm
    refine decide_eq_false (UB fun i I=>?_);rw[QI];by_cases B:i<L.length
    ·rw[if_pos B];exact Q6 (by omega)
    ·rw[if_neg B,if_pos (by omega)];exact fun h2=>e h2.symm
 ·rw[U]at I;rw[QI];by_cases B:i<L.length
  ·rw[if_pos B,if_neg (by omega),Maps.atKey_put_other (fun J=>a0 i B (DW J))];exact h.at_ i B z
  ·rw[if_neg B,if_pos (by omega),if_pos (by omega),Maps.atKey_put_same O (F2 c)]
 ·have e1:Maps.has D (iI c)=false:=by rw[h.has c hc];exact decide_eq_false hn
  rw[Maps.size_put Z,e1,h.size,U];simp
theorem X0.step (h:X0 w b L D hb)(hc:YQ c)(hl:L.length<=100)(k:Nat):∃B,(Instr.mapUpdate 112 (.map (aa b)) (.int .i64 c) (.pointer (aa ⟨k,0,N⟩))).run Tryz.prog w=.ok () B/\(∃n,n<=1000/\lE B b n (D.put (iI c) (.held (.pointer (aa ⟨k,0,N⟩)))))/\w.grownBy B (aa b):=by
 obtain⟨n,hn,H⟩:=h.own;have I:lE w b L.length D:=by
  obtain⟨J,K,O,F,g2,rfl⟩:=H;refine⟨J,K,O,F,?_,rfl⟩;have:=h.size;rw[Maps.size_eq,length_sorted]at this;simp at this;omega
 obtain⟨B,U,Z,hg⟩:=World.ownsMap.update I tC Tryz.underlying112 (by unfold maxLen;omega) (yA hc) (val:=.pointer (aa ⟨k,0,N⟩)) (d:=.held (.pointer (aa ⟨k,0,N⟩))) (ps:=[]) rfl;exact⟨B,U,⟨_,by omega,Z⟩,hg⟩
end
section
structure ZF (w:World) (B:Nat) (h:Nat) (S:Nat->Prop) (m:Je) (mp:Option Nat) (D:aW ah) (hb:Nat->Nat) (Sh:Nat->Nat->Prop):Prop where
 blk:w.heap[h]?=aa (.cells #[.string m.name,.map mp] 114 (0,0))
 self:S h
 aO:∀k,S k->B<=k/\k<w.heap.size
 aN:m.cH
 none_:mp=N->m.L=[]
 map:∀b,mp=aa b->S b/\b≠h/\X0 w b m.L D hb
 hold:∀i,i<m.L.length->QB w (hb i) (Sh i) (Zg m.L i).2.1 (Zg m.L i).2.2
 sub:∀i,i<m.L.length->∀k,Sh i k->S k/\k≠h/\mp≠aa k
 apart:∀i j,i<m.L.length->j<m.L.length->i≠j->∀k,Sh i k->¬Sh j k
def XE (w:World)(B:Nat)(h:Nat)(S:Nat->Prop)(m:Je):Prop:=∃mp D hb Sh,ZF w B h S m mp D hb Sh
variable {w w':World} {B h:Nat} {S:Nat->Prop} {m:Je} {mp:Option Nat} {D:aW ah} {hb:Nat->Nat} {Sh:Nat->Nat->Prop}
theorem QB.gT {w w':World}{h:Nat}{S:Nat->Prop}{L:List Yh}{s:Bool}(H:QB w h S L s)(I:w.heap.size<=w'.heap.size)(hb:∀k,S k->w'.heap[k]?=w.heap[k]?):QB w' h S L s:=by
 obtain⟨a,b,c,d,H⟩:=H;exact⟨a,b,c,d,H.aS I hb⟩
theorem ZF.aS (H:ZF w B h S m mp D hb Sh)(O:w.heap.size<=w'.heap.size)(J:∀k,S k->w'.heap[k]?=w.heap[k]?):ZF w' B h S m mp D hb Sh where
 blk:=(J h H.self).trans H.blk
 self:=H.self
 aO:=fun k I=>⟨(H.aO k I).1,ak (H.aO k I).2 O⟩
 aN:=H.aN
 none_:=H.none_
 map:=fun b e=>⟨(H.map b e).1,(H.map b e).2.1,(H.map b e).2.2.same (J b (H.map b e).1)⟩
 hold:=fun i K=>(H.hold i K).gT O (fun k I=>J k (H.sub i K k I).1)
 sub:=H.sub
 apart:=H.apart
theorem ZF.lt (H:ZF w B h S m mp D hb Sh):h<w.heap.size:=(H.aO h H.self).2
theorem ZF.vP (H:ZF w B h S m mp D hb Sh):B<=w.heap.size:=Nat.le_of_lt (Nat.lt_of_le_of_lt (H.aO h H.self).1 H.lt)
theorem ZF.below (H:ZF w B h S m mp D hb Sh)(I:aj w.heap.size w w'):ZF w' B h S m mp D hb Sh:=H.aS I.size fun k J=>I.block k (H.aO k J).2
theorem ZF.cells (H:ZF w B h S m mp D hb Sh):w.cell? ⟨h,0,N⟩=aa (.string m.name)/\w.cell? ⟨h,1,N⟩=aa (.map mp)/\w.frozen? ⟨h,1,N⟩=false:=by
 refine⟨?_,?_,?_⟩
 ·simp[aE,H.blk]
 ·simp[aE,H.blk]
 ·simp[World.frozen?,H.blk]
theorem ZF.look (H:ZF w B h S m mp D hb Sh)(I:YQ c):(Instr.lookup 112 (.map mp) (.int .i64 c) af).run Tryz.prog w=.ok (lI m.L hb c) w:=by
 cases mp with
 |none =>
  rw[BY w I];have e:=H.none_ rfl;unfold lI;rw[e];rfl
 |some b=>exact(H.map b rfl).2.2.look I
theorem ZF.len (H:ZF w B h S m mp D hb Sh)(I:ar):(aA #[112] I #[.map mp]).run Tryz.prog w=.ok (.int .i64 (m.L.length:Nat)) w:=by
 cases mp with
 |none =>
  rw[H.none_ rfl]
  kernel_rfl
 |some b=>exact(H.map b rfl).2.2.len I
theorem ZF.pI (H:ZF w B h S m mp D hb Sh){i:Nat}(U:i<m.L.length){L':List Yh}{s':Bool}{Sn:Nat->Prop}(hH:QB w' (hb i) Sn L' s')(hU:Yd (Sh i) Sn w w')(a5:∀k,Sn k->k<w'.heap.size)(hF:(m.put i (L',s')).cH):
 ZF w' B h (fun k=>S k∨Sn k) (m.put i (L',s')) mp D hb (fun j=>if j=i then Sn else Sh j)/\Yd S (fun k=>S k∨Sn k) w w':=by
 have a2:=hU.block;have a0:=hU.new;refine⟨⟨(a2 h H.lt (fun e=>(H.sub i U h e).2.1 rfl)).trans H.blk,ao H.self,fun k I=>?_,hF,fun e=>?_,fun b e=>⟨ao (H.map b e).1,(H.map b e).2.1,?_⟩,fun j K=>?_,fun j K k I=>?_,fun j q K hq a4 k I O=>?_⟩,⟨hU.os,hU.tape,hU.output,hU.size,fun k I hs=>a2 k I (fun e=>hs (H.sub i U k e).1),fun k I=>?_⟩⟩
 ·rcases I with I|I
  ·exact⟨(H.aO k I).1,ak (H.aO k I).2 hU.size⟩
  ·rcases a0 k I with J|J
   ·exact⟨(H.aO k (H.sub i U k J).1).1,a5 k I⟩
   ·exact⟨bb H.vP J,a5 k I⟩
 ·have:=H.none_ e;rw[this]at U;exact absurd U (ae _)
 ·have hc:=(H.map b e).2.2;have a3:=hc.same (a2 b hc.lt (fun e'=>(H.sub i U b e').2.2 e));have hf:∀j,(Zg (m.put i (L',s')).L j).1=(Zg m.L j).1:=fun j=>by
   rw[mC U];split
   ·rename_i e;rw[e]
   ·rfl
  have hI:∀c,Yf (m.put i (L',s')).L c=Yf m.L c:=fun c=>by
   have Z:∀(L1 L2:List fA),L1.length=L2.length->(∀j,(Zg L1 j).1=(Zg L2 j).1)->Yf L1 c<=Yf L2 c:=fun L1 L2 hl a6=>by
    rcases al (Yf L2 c) (Yf L1 c)with J|J
    ·have h2:=Q6 J;have h3:Yf L2 c<L2.length:=by have:=kL L1 c;omega
     exact absurd (by rw[a6];exact nO h3) h2
    ·exact J
   exact Nat.le_antisymm (Z _ _ (ZH _ _ _) hf) (Z _ _ (ZH _ _ _).symm (fun j=>(hf j).symm))
  exact⟨a3.own,fun c a7=>by rw[hI,ZH];exact a3.has c a7,fun j K z=>by rw[hf];rw[ZH]at K;exact a3.at_ j K z,by rw[ZH];exact a3.size⟩
 ·rw[ZH]at K;rw[mC U];by_cases e:j=i
  ·rw[if_pos e,if_pos e,e];exact hH
  ·rw[if_neg e,if_neg e];exact(H.hold j K).gT hU.size (fun k I=>a2 k (H.aO k (H.sub j K k I).1).2 (fun e'=>H.apart j i K U e k I e'))
 ·rw[ZH]at K;by_cases e:j=i
  ·have O:Sn k:=by rw[if_pos e]at I;exact I
   rcases a0 k O with J|J
   ·exact⟨aw O,(H.sub i U k J).2⟩
   ·refine⟨aw O,fun Z=>?_,fun Z=>?_⟩
    ·have:=H.lt;omega
    ·have:=(H.map k Z).2.2.lt;omega
  ·have O:Sh j k:=by rw[if_neg e]at I;exact I
   exact⟨ao (H.sub j K k O).1,(H.sub j K k O).2⟩
 ·rw[ZH]at K hq;by_cases Z:j=i<;>by_cases e2:q=i
  ·exact a4 (Z.trans e2.symm)
  ·have J:Sn k:=by rw[if_pos Z]at I;exact I
   have h2:Sh q k:=by rw[if_neg e2]at O;exact O
   rcases a0 k J with h3|h3
   ·exact H.apart i q U hq (fun e=>e2 e.symm) k h3 h2
   ·have:=(H.aO k (H.sub q hq k h2).1).2;omega
  ·have J:Sh j k:=by rw[if_neg Z]at I;exact I
   have h2:Sn k:=by rw[if_pos e2]at O;exact O
   rcases a0 k h2 with h3|h3
   ·exact H.apart j i K U Z k J h3
   ·have:=(H.aO k (H.sub j K k J).1).2;omega
  ·have J:Sh j k:=by rw[if_neg Z]at I;exact I
   have h2:Sh q k:=by rw[if_neg e2]at O;exact O
   exact H.apart j q K hq a4 k J h2
 ·rcases I with I|I
  ·exact ao I
  ·rcases a0 k I with J|J
   ·exact ao (H.sub i U k J).1
   ·exact aw J
end
theorem qG (x m:Int)(w:World):av Tryz.prog 177 #[.int .i64 x,.int .i64 m] w fun e w'=>e=.returned (.bool (decide (0<=x/\x<=m)))/\w'=w:=by
 by_cases D:0<=x
 ·by_cases H:x<=m
  ·have B:Hid (decide (0<=x/\x<=m)=ay):=decide_eq_true ⟨D,H⟩;rw[B.out];go_enter Tryz.func177,Tryz.ntmps177;go_wp2;go_ret;exact⟨rfl,rfl⟩
  ·have B:Hid (decide (0<=x/\x<=m)=af):=decide_eq_false fun h=>H h.2
   rw[B.out];go_enter Tryz.func177,Tryz.ntmps177;go_wp2;go_ret;exact⟨rfl,rfl⟩
 ·have B:Hid (decide (0<=x/\x<=m)=af):=decide_eq_false fun h=>D h.1
  rw[B.out];go_enter Tryz.func177,Tryz.ntmps177;go_wp2;go_ret;exact⟨rfl,rfl⟩
def YM (a b:Int):Bool:=decide (0<=a/\a<=1099511627776)&&decide (0<=b/\b<=1099511627776)
theorem wI (a b:Int)(w:World):av Tryz.prog 172 #[.agg #[.int .i64 a,.int .i64 b]] w fun e w'=>e=.returned (.bool (YM a b))/\aj w.heap.size w w':=by
 obtain⟨D,I⟩:=Xb (w.alloc (.cells #[.int .i64 a,.int .i64 b] 39));have K:Hid (aj w.heap.size w D):=by rw[I];exact bR.alloc nR _
 obtain⟨f0,f1⟩:=lO (JH I);have O:Hid _:=I;have J:Hid (av Tryz.prog 177 #[.int .i64 a,.int .i64 1099511627776] D fun e w'=>e=.returned (.bool (decide (0<=a/\a<=1099511627776)))/\w'=D):=qG _ _ D;have U:Hid (av Tryz.prog 177 #[.int .i64 b,.int .i64 1099511627776] D fun e w'=>e=.returned (.bool (decide (0<=b/\b<=1099511627776)))/\w'=D):=qG _ _ D;have Z:Hid (YM a b=(decide (0<=a/\a<=1099511627776)&&decide (0<=b/\b<=1099511627776))):=by show _=_;rfl
 rw[Z.out];clear I Z;generalize decide (0<=a/\a<=1099511627776)=x at *;generalize decide (0<=b/\b<=1099511627776)=y at *;cases x with
 |false =>
  go_enter Tryz.func172,Tryz.ntmps172;go_wp2_with fail
  rw[<-O.out];refine J.out.mono ?_;rintro e H ⟨rfl,B⟩;rw[B];clear B H J;go_wp2;go_ret;exact⟨rfl,K.out⟩
 |true =>
  go_enter Tryz.func172,Tryz.ntmps172;go_wp2_with fail
  rw[<-O.out];refine J.out.mono ?_;rintro e H ⟨rfl,B⟩;rw[B];clear B H J;go_wp2_with fail
  refine U.out.mono ?_;rintro e H ⟨rfl,B⟩;rw[B];clear B H U;go_wp2;go_ret;exact⟨rfl,K.out⟩
section
open Go.Extern.Stop Go.Stop Go.Extern
theorem Jco (v:ah)(B:ar)(w:World):(Instr.typeAssert (.iface 75 v) B 174 ay).run Tryz.prog w=.ok (.tuple #[.nilIface,.bool af]) w:=run_typeAssert_lacksB Tryz.underlying174 (by kernel_rfl) (by kernel_rfl) v B w
theorem Ja2 (v:ah)(B:ar)(w:World):(Instr.typeAssert (.iface 75 v) B 170 ay).run Tryz.prog w=.ok (.tuple #[.iface 75 v,.bool ay]) w:=run_typeAssert_hasB Tryz.underlying170 (by kernel_rfl) v B w
theorem JaI (v:ah) (w:World):(Go.method 464 75 v "Unwrap").run Tryz.prog w=.ok (269,v) w:=by kernel_rfl
theorem Jbu (B:Nat)(b:aB)(w:World)(h1:w.cell? ⟨B,1,N⟩=aa (.iface 335 (.pointer (aa b)))):
 av Tryz.prog 48 #[.iface 75 (.pointer (aa ⟨B,0,N⟩)),.iface 335 (.pointer (aa b))] w fun e w'=>e=.returned (.bool ay)/\w'=w:=by
 obtain⟨i,D,H⟩:=ac.1 Ja3;obtain⟨j,I,J⟩:=ac.1 Ja4;have K:=@ab Tryz.prog 70 _ Extern.ReflectliteType.typeOf Tryz.func70 (by kernel_rfl) (by kernel_rfl) (by kernel_rfl) (by kernel_rfl);have O:=@ab Tryz.prog 276 _ JaD Tryz.func276 (by kernel_rfl) (by kernel_rfl) (by kernel_rfl) (by kernel_rfl);have U:=JaC;have Z:=Jaq;have mR:=Jag;have nW:=Jco;have uW:=Ja2;have mU:=JaI;have a0:=az (P:=Tryz.prog) w b Tryz.underlying28 Tryz.underlying335 D H I;have a2:=run_eql_iface_types (P:=Tryz.prog) 75 335 (.pointer (aa ⟨B,0,N⟩)) (.pointer (aa b)) Tryz.underlying28 (by decide) w;go_enter Tryz.func48,Tryz.ntmps48;go_wp2;refine aC 2 ?_;rw[au];go_wp2;rw[au];go_wp2;go_ret;exact⟨rfl,rfl⟩
theorem Jbi (B:Nat)(a b:aB)(K O:Array ah)(U Z:ar)(w:World)(h1:w.cell? ⟨B,1,N⟩=aa (.iface 335 (.pointer (aa a))))(a0:a≠b)(ha:w.heap[a.block]?=aa (.cells K U (0,0)))(hb:w.heap[b.block]?=aa (.cells O Z (0,0))):
 av Tryz.prog 48 #[.iface 75 (.pointer (aa ⟨B,0,N⟩)),.iface 335 (.pointer (aa b))] w fun e w'=>e=.returned (.bool af)/\w'=w:=by
 obtain⟨i,D,H⟩:=ac.1 Ja3;obtain⟨j,I,J⟩:=ac.1 Ja4;have h8:=@ab Tryz.prog 70 _ Extern.ReflectliteType.typeOf Tryz.func70 (by kernel_rfl) (by kernel_rfl) (by kernel_rfl) (by kernel_rfl);have a2:=@ab Tryz.prog 276 _ JaD Tryz.func276 (by kernel_rfl) (by kernel_rfl) (by kernel_rfl) (by kernel_rfl);have tT:=JaC;have cT:=Jaq;have mR:=Jag;have nE:=Jcp;have uE:=JaM;have vE:=JaG;have nW:=Jco;have uW:=Ja2;have mU:=JaI;have a3:=ax (P:=Tryz.prog) w Tryz.underlying28 Tryz.underlying335 D H I (by rw[J];decide) a0 ha hb;have a4:=run_eql_iface_types (P:=Tryz.prog) 75 335 (.pointer (aa ⟨B,0,N⟩)) (.pointer (aa b)) Tryz.underlying28 (by decide) w;go_enter Tryz.func48,Tryz.ntmps48;go_wp2;refine aC 2 ?_;rw[au];go_wp2;rw[au];go_wp2;go_ret;exact⟨rfl,rfl⟩
theorem JcA (v:ah)(w:World):(ReflectliteType.typeOf #[.iface 75 v]).run Tryz.prog w=.ok (.iface 163 (.agg #[.pointer (aa ⟨17,75,N⟩)])) w:=by kernel_rfl
theorem Jby (w:World):(ReflectliteType.relation "AssignableTo" ReflectliteType.assignableTo #[.agg #[.pointer (aa ⟨17,75,N⟩)],.iface 163 (.agg #[.pointer (aa ⟨17,75,N⟩)])]).run Tryz.prog w=.ok (.bool ay) w:=by kernel_rfl
theorem Jcl (e:aB)(w:World):(ReflectliteValue.unpack (.iface 75 (.pointer (aa e)))).run Tryz.prog w
 =.ok (.agg #[.pointer (aa ⟨17,75,N⟩),.pointer (aa ⟨w.heap.size,0,N⟩),.int .u64 150]) (w.alloc (.cells #[.pointer (aa e)] 75)):=by kernel_rfl
theorem Jcm (w:World):(Rtype.elem? 103).run Tryz.prog w=.ok (aa 75) w:=by kernel_rfl
theorem mkF (p:aB)(w:World):(ReflectliteValue.mk 75 p ReflectliteValue.flagAddr).run Tryz.prog w=.ok (.agg #[.pointer (aa ⟨17,75,N⟩),.pointer (aa p),.int .u64 406]) w:=by kernel_rfl
theorem JcB (a p:aB)(W:World)(B:W.cell? a=aa (.pointer (aa p))):
 (ReflectliteValue.method (ReflectliteValue.valueError "reflectlite.Value.Elem" 0) ReflectliteValue.elem #[.agg #[.pointer (aa ⟨17,103,N⟩),.pointer (aa a),.int .u64 150]]).run Tryz.prog W
  =.ok (.agg #[.pointer (aa ⟨17,75,N⟩),.pointer (aa p),.int .u64 406]) W:=by
 rw[rlm];simp only[Sem.run_bind,JbA,am];simp[ReflectliteValue.elem,loadVar,isAgg,underlying,Tryz.underlying103,B,am,Jcm,mkF]
theorem JcC (a:aB)(w:World):(ReflectliteValue.parts (.agg #[.pointer (aa ⟨17,75,N⟩),.pointer (aa a),.int .u64 406])).run Tryz.prog w=.ok (aa (75,a,406)) w:=by kernel_rfl
theorem JcI (a:aB)(w:World):(ReflectliteValue.parts (.agg #[.pointer (aa ⟨17,75,N⟩),.pointer (aa a),.int .u64 150])).run Tryz.prog w=.ok (aa (75,a,150)) w:=by kernel_rfl
theorem JcD (w:World):(Rtype.directlyAssignable 75 75).run Tryz.prog w=.ok ay w:=by kernel_rfl
theorem JcN (B b e:aB)(D:ah)(W:World)(H:W.cell? b=aa (.pointer (aa e)))(I:W.cell? B=aa D)(J:W.frozen? B=af):
 (ReflectliteValue.set #[.agg #[.pointer (aa ⟨17,75,N⟩),.pointer (aa B),.int .u64 406],.agg #[.pointer (aa ⟨17,75,N⟩),.pointer (aa b),.int .u64 150]]).run Tryz.prog W
  =.ok (.tuple #[]) (W.setCell B (.pointer (aa e))):=by
 delta ReflectliteValue.set ReflectliteValue.set.match_3
 dsimp only[Array.casesOn,Array.rec];rw[dif_pos (show(#[_,_]:Array ah).size=2 from rfl)];simp only[Array.getLit,List.getElem_toArray,List.getElem_cons_zero,List.getElem_cons_succ,Sem.run_bind,JcC,JcI,am];simp[ReflectliteValue.flagAddr,loadVar,isAgg,underlying,Tryz.underlying75,H,am,JcD,storeVar,Value.cells,storeCells,Addr.add];rw[run_store Tryz.prog W B _ _ (by rfl)];simp[I,J]
theorem JcJ (e t:aB)(H:ah)(w:World)(I:w.cell? ⟨12,0,N⟩=aa (.iface 163 (.agg #[.pointer (aa ⟨17,28,N⟩)])))(J:w.cell? t=aa H)(U:w.frozen? t=af):
 av Tryz.prog 47 #[.iface 75 (.pointer (aa e)),.iface 103 (.pointer (aa t))] w fun K w'=>K=.returned (.bool ay)/\∃B,aj w.heap.size w B/\w'=B.setCell t (.pointer (aa e)):=by
 have Z:=@ab Tryz.prog 66 _ (fun args=>ReflectliteValue.unpack (args.getD 0 (.tuple #[]))) Tryz.func66 (by kernel_rfl) (by kernel_rfl) (by kernel_rfl) (by kernel_rfl);have h7:=@ab Tryz.prog 67 _ (ReflectliteValue.methodAny (ReflectliteValue.valueError "reflectlite.Value.Type" 0) (fun t _ _ _=>ReflectliteType.toType t)) Tryz.func67 (by kernel_rfl) (by kernel_rfl) (by kernel_rfl) (by kernel_rfl);have h8:=@ab Tryz.prog 68 _ (ReflectliteValue.method (ReflectliteValue.valueError "reflectlite.Value.IsNil" 0) ReflectliteValue.isNil) Tryz.func68 (by kernel_rfl) (by kernel_rfl) (by kernel_rfl) (by kernel_rfl);have a0:=@ab Tryz.prog 265 _ (ReflectliteType.abiMethod fun t=>do pure (.int .u8 (<-Rtype.kind t))) Tryz.func265 (by kernel_rfl) (by kernel_rfl) (by kernel_rfl) (by kernel_rfl);have a2:=@ab Tryz.prog 277 _ (ReflectliteType.method ReflectliteType.elem) Tryz.func277 (by kernel_rfl) (by kernel_rfl) (by kernel_rfl) (by kernel_rfl);have a3:=@ab Tryz.prog 278 _ (ReflectliteType.relation "Implements" ReflectliteType.implements_) Tryz.func278 (by kernel_rfl) (by kernel_rfl) (by kernel_rfl) (by kernel_rfl);have a4:=@ab Tryz.prog 70 _ ReflectliteType.typeOf Tryz.func70 (by kernel_rfl) (by kernel_rfl) (by kernel_rfl) (by kernel_rfl);have a5:=@ab Tryz.prog 275 _ (ReflectliteType.relation "AssignableTo" ReflectliteType.assignableTo) Tryz.func275 (by kernel_rfl) (by kernel_rfl) (by kernel_rfl) (by kernel_rfl);have a6:=@ab Tryz.prog 96 _ (ReflectliteValue.method (ReflectliteValue.valueError "reflectlite.Value.Elem" 0) ReflectliteValue.elem) Tryz.func96 (by kernel_rfl) (by kernel_rfl) (by kernel_rfl) (by kernel_rfl);have a7:=@ab Tryz.prog 97 _ ReflectliteValue.set Tryz.func97 (by kernel_rfl) (by kernel_rfl) (by kernel_rfl) (by kernel_rfl);have tO:=JcA;have mA:=Jay;have aF:=Jby;have vF:=Jcl;have f6:=Jbe;have f7:=Jb7;have mK:=Ja5;have mE:=Ja6;have mI:=JaE;have a8:=Jb8;have kF:=Jcq;have a9:=Jb9;have iF:=JaQ;have n8:=JbB ⟨w.heap.size,0,N⟩ t ((w.alloc (.cells #[.pointer (aa t)] 103)).alloc (.cells #[.pointer (aa ⟨17,103,N⟩),.pointer (aa ⟨w.heap.size,0,N⟩),.int .u64 150] 132)) (by simp);have O:=Qf I;have b0:((w.alloc (.cells #[.pointer (aa t)] 103)).alloc (.cells #[.pointer (aa ⟨17,103,N⟩),.pointer (aa ⟨w.heap.size,0,N⟩),.int .u64 150] 132)).cell? ⟨12,0,N⟩=aa (.iface 163 (.agg #[.pointer (aa ⟨17,28,N⟩)])):=by
  rw[World.cell?_alloc_lt _ _ ⟨12,0,N⟩ (by simp;omega),World.cell?_alloc_lt _ _ ⟨12,0,N⟩ O];exact I
 have D:t.block<w.heap.size:=by
  rcases al t.block w.heap.size with h|h
  ·exact h
  ·simp[aE,an h]at J
 have el:=JcB ⟨w.heap.size,0,N⟩ t (((w.alloc (.cells #[.pointer (aa t)] 103)).alloc (.cells #[.pointer (aa ⟨17,103,N⟩),.pointer (aa ⟨w.heap.size,0,N⟩),.int .u64 150] 132)).alloc (.cells #[.pointer (aa ⟨17,103,N⟩),.pointer (aa ⟨w.heap.size,0,N⟩),.int .u64 150] 132)) (by rw[World.cell?_alloc_lt _ _ ⟨w.heap.size,0,N⟩ (by simp;omega)];simp);have st:=JcN t ⟨w.heap.size+1+1+1,0,N⟩ e H ((((w.alloc (.cells #[.pointer (aa t)] 103)).alloc (.cells #[.pointer (aa ⟨17,103,N⟩),.pointer (aa ⟨w.heap.size,0,N⟩),.int .u64 150] 132)).alloc (.cells #[.pointer (aa ⟨17,103,N⟩),.pointer (aa ⟨w.heap.size,0,N⟩),.int .u64 150] 132)).alloc (.cells #[.pointer (aa e)] 75))
  (by rw[World.cell?_alloc_at _ _ _ _ (by simp)];rfl)
  (by rw[World.cell?_alloc_lt _ _ t (by simp;omega),World.cell?_alloc_lt _ _ t (by simp;omega),World.cell?_alloc_lt _ _ t (by simp;omega),World.cell?_alloc_lt _ _ t D];exact J)
  (by rw[World.frozen?_alloc_old _ _ t (by simp;omega),World.frozen?_alloc_old _ _ t (by simp;omega),World.frozen?_alloc_old _ _ t (by simp;omega),World.frozen?_alloc_old _ _ t (Nat.ne_of_lt D)];exact U)
 go_enter Tryz.func47,Tryz.ntmps47;go_wp2;refine aC 1 ?_;rw[au];go_wp2;go_ret;exact⟨rfl,_,(((bR.alloc nR _).alloc (by simp) _).alloc (by simp;omega) _).alloc (by simp;omega) _,rfl⟩
end
section
open Go.Extern.Stop Go.Stop Go.Extern
theorem Jbr (ad:Nat->aB)(i B:Nat)(at_:Int)(hi:i<12)(w:World)(hS:O0 w ad)(h0:w.cell? ⟨B,0,N⟩=aa (.int .i64 at_))(h1:w.cell? ⟨B,1,N⟩=aa (.iface 335 (.pointer (aa (ad i))))):
 av Tryz.prog 25 #[.iface 75 (.pointer (aa ⟨B,0,N⟩))] w fun e w'=>e=.returned (.tuple #[.int .i64 ((i+1:Nat):Int),.int .i64 at_])/\aj w.heap.size w w':=by
 have J:=Qf h0;have Z:aj w.heap.size w (w.alloc (.cells #[.pointer N] 75)):=bR.alloc nR _;have a8:=hS.below Z;have a0:(w.alloc (.cells #[.pointer N] 75)).cell? ⟨w.heap.size,0,N⟩=aa (.pointer N):=by simp
 have a9:(w.alloc (.cells #[.pointer N] 75)).frozen? ⟨w.heap.size,0,N⟩=false:=by simp
 go_enter Tryz.func25,Tryz.ntmps25;go_wp2_with fail
 refine(JcJ ⟨B,0,N⟩ ⟨w.heap.size,0,N⟩ (.pointer N) _ a8.typ a0 a9).mono ?_;rintro e D ⟨rfl,wx,a2,a3⟩;have H:aj w.heap.size w D:=by rw[a3];exact(Z.trans (a2.mono (by simp))).setCell nR _
 have a4:=hS.below H;have b7:D.cell? ⟨w.heap.size,0,N⟩=aa (.pointer (aa ⟨B,0,N⟩)):=by
  rw[a3];exact World.cell?_setCell_same wx ⟨w.heap.size,0,N⟩ _ ((a2.cell (p:=⟨w.heap.size,0,N⟩) (by simp)).trans a0)
 have b8:=(H.cell (p:=⟨B,0,N⟩) J).trans h0;have b0:=(H.cell (p:=⟨B,1,N⟩) J).trans h1;have b1:=ak J H.size;have a5:Hid _:=H;clear a3 a2 wx H a8 Z a0 a9 h0 h1 hS J;have d0:=a4;obtain⟨c0,c1,c2,c3,c4,c5,c6,c7,c8,c9,wS,c11,_,_,_⟩:=d0;go_wp2;clear c0 c1 c2 c3 c4 c5 c6 c7 c8 c9 wS c11 b7 b8;have K:aj D.heap.size D (D.alloc (.cells (Jar ad) 28)):=bR.alloc nR _;have I:=a4.below K;have O:=JaK ad D;have U:=(K.cell (p:=⟨B,1,N⟩) b1).trans b0;have a6:Hid _:=a5.out.trans (K.mono a5.out.size);unfold Jar at I O a6 U;generalize D.alloc (.cells _ 28)=w3 at I O a6 U ⊢;clear K a4 a5 b0 b1
 go_loop [3,30] (fun y x=>y=.int .i64 at_/\∃k:Nat,k<=i/\x=.int .i64 k) (fun _ x=>12-(intOf x).toNat)
 case atStart=>exact⟨rfl,0,by omega,rfl⟩
 case round =>
  obtain⟨rfl,k,hk,rfl⟩:=hrel;have a7:k<12:=by omega
  have hc:=O k a7;obtain⟨ca,ta,b2⟩:=I.row i hi;obtain⟨cb,tb,b3⟩:=I.row k a7;have b4:Hid _:=U;clear O U;by_cases b5:k=i
  ·subst b5;go_wp2_with (go_at_call 48;refine(Jbu B (ad k) _ b4.out).mono ?_;rintro e w' ⟨rfl,rfl⟩)
   go_ret2
   exact⟨by simp,a6.out⟩
  ·have b6:=I.ne i k hi a7 (fun h=>b5 h.symm);have HN:Hid _:=b6;have HA:Hid _:=b2;have HB:Hid _:=b3;clear b6 b2 b3;go_wp2_with (go_at_call 48;refine(Jbi B (ad i) (ad k) ca cb ta tb _ b4.out HN.out HA.out HB.out).mono ?_;rintro e w' ⟨rfl,rfl⟩)
   go_round
   case rel=>exact⟨rfl,k+1,by omega,by go_num⟩
   case measure=>simp[intOf];omega
theorem Jcv (ad:Nat->aB)(D:ah)(c at_:Int)(w:World)(H:O0 w ad)(O:Jd w ad D c at_):
 av Tryz.prog 25 #[D] w fun e w'=>e=.returned (.tuple #[.int .i64 c,.int .i64 at_])/\aj w.heap.size w w':=by
 rcases O with⟨rfl,rfl,rfl⟩|⟨i,B,rfl,rfl,rfl⟩|⟨i,I,B,rfl,rfl,J,K⟩
 ·refine(Jch w).mono ?_;rintro e w' ⟨rfl,rfl⟩;exact⟨rfl,Below.refl _ _⟩
 ·exact Jb0 ad i B w H
 ·exact Jbr ad i I at_ B w H J K
end
section
open Go.Extern.Stop Go.Stop Go.Extern
end
theorem ZD {o:Nat}(h:w.cell? ⟨b,o,N⟩=aa v):b<w.heap.size:=by
 rcases al b w.heap.size with B|B
 ·exact B
 ·simp[aE,an B]at h
structure jV (w:World) (ad:Nat->aB):Prop where
 c1:w.cell? ⟨4,0,N⟩=aa (.iface 335 (.pointer (aa (ad 1))))
 c3:w.cell? ⟨6,0,N⟩=aa (.iface 335 (.pointer (aa (ad 3))))
 c5:w.cell? ⟨2,0,N⟩=aa (.iface 335 (.pointer (aa (ad 5))))
 c6:w.cell? ⟨7,0,N⟩=aa (.iface 335 (.pointer (aa (ad 6))))
 c9:w.cell? ⟨0,0,N⟩=aa (.iface 335 (.pointer (aa (ad 9))))
theorem jV.below (h:jV w ad)(B:aj w.heap.size w w'):jV w' ad where
 c1:=(B.cell (ZD h.c1)).trans h.c1
 c3:=(B.cell (ZD h.c3)).trans h.c3
 c5:=(B.cell (ZD h.c5)).trans h.c5
 c6:=(B.cell (ZD h.c6)).trans h.c6
 c9:=(B.cell (ZD h.c9)).trans h.c9
theorem jV.dI (h:jV W ad)(B:∀k,k<W.heap.size->V.heap[k]?=W.heap[k]?):jV V ad where
 c1:=(ag (w:=W) (w':=V) (B _ (ZD h.c1))).trans h.c1
 c3:=(ag (w:=W) (w':=V) (B _ (ZD h.c3))).trans h.c3
 c5:=(ag (w:=W) (w':=V) (B _ (ZD h.c5))).trans h.c5
 c6:=(ag (w:=W) (w':=V) (B _ (ZD h.c6))).trans h.c6
 c9:=(ag (w:=W) (w':=V) (B _ (ZD h.c9))).trans h.c9
structure kN (w:World) (ad:Nat->aB):Prop where
 eZ:jV w ad
 row:∀i,i=1∨i=3∨i=5∨i=6∨i=9->∃c t,w.heap[(ad i).block]?=aa (.cells c t (0,0))
 ne:∀i,i=1∨i=3∨i=5∨i=6->ad i≠ad 9
theorem rE {o:Obj}(h:w.heap[b]?=aa o):b<w.heap.size:=by
 rcases al b w.heap.size with B|B
 ·exact B
 ·rw[an B]at h;cases h
theorem kN.dI (h:kN W ad)(B:∀k,k<W.heap.size->V.heap[k]?=W.heap[k]?):kN V ad where
 eZ:=h.eZ.dI B
 row:=fun i D=>by
  obtain⟨c,t,e⟩:=h.row i D;exact⟨c,t,(B _ (rE e)).trans e⟩
 ne:=h.ne
theorem HU:(Tryz.prog.info? 335).map (·.comparable)=aa true:=by kernel_rfl
theorem AO:(Tryz.prog.info? 353).map (·.size)=aa 1:=by kernel_rfl
theorem AH (a:aB)(w:World):(zh .eql 28 (.iface 335 (.pointer (aa a))) (.iface 335 (.pointer (aa a)))).run Tryz.prog w=.ok (.bool ay) w/\(zh .neq 28 (.iface 335 (.pointer (aa a))) (.iface 335 (.pointer (aa a)))).run Tryz.prog w=.ok (.bool af) w:=by
 obtain⟨i,B,D⟩:=ac.1 HU;obtain⟨j,H,_⟩:=ac.1 AO;refine⟨az (P:=Tryz.prog) w a Tryz.underlying28 Tryz.underlying335 B D H,?_⟩;simp only[zh];simp[Op.equal,Op.maxDepth,run_equalIn_iface_ptr_same (P:=Tryz.prog) w 9998 a Tryz.underlying28 Tryz.underlying335 B D H]
theorem Jqc {a b:aB}{U Z:Array ah}{ta tb:ar}(J:a≠b)(K:w.heap[a.block]?=aa (.cells U ta (0,0)))(O:w.heap[b.block]?=aa (.cells Z tb (0,0))):(zh .eql 28 (.iface 335 (.pointer (aa a))) (.iface 335 (.pointer (aa b)))).run Tryz.prog w=.ok (.bool af) w/\(zh .neq 28 (.iface 335 (.pointer (aa a))) (.iface 335 (.pointer (aa b)))).run Tryz.prog w=.ok (.bool ay) w:=by
 obtain⟨i,B,D⟩:=ac.1 HU;obtain⟨j,H,I⟩:=ac.1 AO;refine⟨ax (P:=Tryz.prog) w Tryz.underlying28 Tryz.underlying335 B D H (by rw[I];decide) J K O,?_⟩;simp only[zh];simp[Op.equal,Op.maxDepth,run_equalIn_iface_ptr_other (P:=Tryz.prog) w 9998 Tryz.underlying28 Tryz.underlying335 B D H (by rw[I];decide) J K O]
theorem Jtd (B:ar)(v:ah)(w:World):(zh .eql 28 .nilIface (.iface B v)).run Tryz.prog w=.ok (.bool af) w:=run_eql_iface_nil_left (P:=Tryz.prog) w B v Tryz.underlying28
section
variable {w w':World} {B h:Nat} {S:Nat->Prop} {m:Je} {mp:Option Nat} {D:aW ah} {hb:Nat->Nat} {Sh:Nat->Nat->Prop}
theorem K3 {w:World}{x y:ah}{t:ar}(h:w.heap[b]?=aa (.cells #[x,y] t (0,0)))(v:ah):(w.setCell ⟨b,1,N⟩ v).heap[b]?=aa (.cells #[x,v] t (0,0)):=by
 simp[zb,Array.getElem?_modify,h]
theorem ZF.make (K:ZF w B h S m N D hb Sh):ZF ((w.setCell ⟨h,1,N⟩ (.map (aa w.heap.size))).alloc (.map #[] 0)) B h (fun k=>S k∨k=w.heap.size) m (aa w.heap.size) (.map []) hb Sh/\Yd S (fun k=>S k∨k=w.heap.size) w ((w.setCell ⟨h,1,N⟩ (.map (aa w.heap.size))).alloc (.map #[] 0)):=by
 have O:=K.none_ rfl;have a0:=K.lt;have Z:(w.setCell ⟨h,1,N⟩ (.map (aa w.heap.size))).heap.size=w.heap.size:=by simp[zb]
 obtain⟨U,I⟩:=Xb ((w.setCell ⟨h,1,N⟩ (.map (aa w.heap.size))).alloc (.map #[] 0));have a6:U.heap.size=w.heap.size+1:=by rw[I];simp[zb]
 have a2:∀k,k<w.heap.size->k≠h->U.heap[k]?=w.heap[k]?:=fun k H a3=>by rw[I,Below.heap_alloc _ _ _ (by rw[Z];exact H)];exact Below.heap_setCell _ _ _ _ a3
 have a4:U.heap[h]?=aa (.cells #[.string m.name,.map (aa w.heap.size)] 114 (0,0)):=by rw[I,Below.heap_alloc _ _ _ (by rw[Z];exact a0)];exact K3 K.blk _
 have a5:X0 U w.heap.size m.L (.map []) hb:=by
  have:=X0.empty (w.setCell ⟨h,1,N⟩ (.map (aa w.heap.size))) hb;rw[Z]at this;rw[I,O];exact this
 rw[<-I];refine⟨⟨a4,ao K.self,fun k H=>?_,K.aN,(fun e=>by cases e),fun b e=>?_,fun i J=>?_,fun i J=>?_,fun i _ J=>?_⟩,⟨by rw[I];rfl,by rw[I];rfl,by rw[I];rfl,by omega,fun k H hs=>a2 k H (fun e=>hs (by rw[e];exact K.self)),fun k H=>H.elim ao (fun e=>aw (by omega))⟩⟩
 ·rcases H with H|H
  ·have:=K.aO k H;exact⟨this.1,by omega⟩
  ·rw[H];exact⟨K.vP,by omega⟩
 ·obtain rfl:w.heap.size=b:=by injection e
  exact⟨aw rfl,by omega,a5⟩
 ·rw[O]at J;exact absurd J (ae _)
 ·rw[O]at J;exact absurd J (ae _)
 ·rw[O]at J;exact absurd J (ae _)
theorem ZF.more (I:ZF w B h S m (aa b) D hb Sh)(hc:YQ c){my:Je}(a8:¬Yf m.L c<m.L.length)(U:m.held c=aa my){w1 Z:World}{J:Nat}(a0:aj w.heap.size w w1)(d0:w.heap.size<=J)(b5:J<w1.heap.size)(hH:QB w1 J (fun k=>k=J) [] af)
 (b6:∃n,n<=1000/\lE Z b n (D.put (iI c) (.held (.pointer (aa ⟨J,0,N⟩))))) (hg:w1.grownBy Z (aa b)):
 ZF Z B h (fun k=>S k∨k=J) my (aa b) (D.put (iI c) (.held (.pointer (aa ⟨J,0,N⟩)))) (fun i=>if i=m.L.length then J else hb i) (fun i=>if i=m.L.length then(fun k=>k=J)else Sh i)/\Yd S (fun k=>S k∨k=J) w Z:=by
 obtain⟨a4,a5,a6⟩:=I.map b rfl;have a9:=(I.aN.iD hc U).1;have b0:my=⟨m.name,m.L++ [(c,[],af)]⟩:=by
  unfold Je.held at U;rw[if_neg a8]at U;split at U
  ·cases U
  ·exact(ap U).symm
 subst b0;have b7:=a0.size;have b1:=hg.size;have a3:∀k,k<w.heap.size->k≠b->Z.heap[k]?=w.heap[k]?:=fun k H b2=>(hg.block k (by omega) (fun e=>b2 (by injection e))).trans (a0.block k H)
 have hL:(m.L++ [(c,([]:List Yh),af)]).length=m.L.length+1:=by rw[ai];rfl
 have b3:J≠b:=by have:=a6.lt;omega
 refine⟨⟨(a3 h I.lt (fun e=>a5 e.symm)).trans I.blk,ao I.self,fun k H=>?_,a9,(fun e=>by cases e),fun b' e=>?_,fun i hi=>?_,fun i hi k H=>?_,fun i j hi hj b4 k K O=>?_⟩,⟨hg.os.trans a0.os,hg.tape.trans a0.tape,hg.output.trans a0.output,by omega,fun k H hs=>a3 k H (fun e=>hs (by rw[e];exact a4)),fun k H=>H.elim ao (fun e=>aw (by omega))⟩⟩
 ·rcases H with H|H
  ·have:=I.aO k H;exact⟨this.1,by omega⟩
  ·have:=I.vP;exact⟨by omega,by omega⟩
 ·obtain rfl:b=b':=by injection e
  exact⟨ao a4,a5,(a6.same (w':=w) rfl).put hc a8 J ([],af) b6⟩
 ·have a7:i<m.L.length+1:=by rw[<-hL];exact hi
  show QB Z (if i=m.L.length then J else hb i) (if i=m.L.length then(fun k=>k=J)else Sh i) (Zg (m.L++ [(c,([]:List Yh),af)]) i).2.1 (Zg (m.L++ [(c,([]:List Yh),af)]) i).2.2;rw[QI];by_cases K:i<m.L.length
  ·rw[if_neg (by omega),if_neg (by omega),if_pos K];exact(I.hold i K).gT (by omega) (fun k H=>a3 k (I.aO k (I.sub i K k H).1).2 (fun e=>(I.sub i K k H).2.2 (by rw[e])))
  ·rw[if_pos (by omega),if_pos (by omega),if_neg K,if_pos (by omega)];exact hH.gT b1 (fun k H=>by rw[H];exact hg.block J b5 (fun e=>b3 (by injection e)))
 ·have a7:i<m.L.length+1:=by rw[<-hL];exact hi
  by_cases K:i=m.L.length
  ·have a2:k=J:=by rw[if_pos K]at H;exact H
   refine⟨aw a2,?_,fun e=>?_⟩
   ·have:=I.lt;omega
   ·injection e with e;omega
  ·have a2:Sh i k:=by rw[if_neg K]at H;exact H
   exact⟨ao (I.sub i (by omega) k a2).1,(I.sub i (by omega) k a2).2⟩
 ·have a7:i<m.L.length+1:=by rw[<-hL];exact hi
  have b8:j<m.L.length+1:=by rw[<-hL];exact hj
  by_cases e1:i=m.L.length<;>by_cases e2:j=m.L.length
  ·omega
  ·have h3:k=J:=by rw[if_pos e1]at K;exact K
   have h4:Sh j k:=by rw[if_neg e2]at O;exact O
   have:=(I.aO k (I.sub j (by omega) k h4).1).2;omega
  ·have h3:Sh i k:=by rw[if_neg e1]at K;exact K
   have h4:k=J:=by rw[if_pos e2]at O;exact O
   have:=(I.aO k (I.sub i (by omega) k h3).1).2;omega
  ·have h3:Sh i k:=by rw[if_neg e1]at K;exact K
   have h4:Sh j k:=by rw[if_neg e2]at O;exact O
   exact I.apart i j (by omega) (by omega) b4 k h3 h4
end
def pR (x:Zb):Prop:=(x.from_.size<=140737488351232/\x.aP.size<=140737488351232/\x.kind.size<=140737488351232/\x.key.size<=140737488351232)/\x.L.length<=2932031007317/\∀v∈x.L,v.text.size<=140737488351232
section
variable {w w':World} {B h:Nat} {S:Nat->Prop} {m:Je} {mp:Option Nat} {D:aW ah} {hb:Nat->Nat} {Sh:Nat->Nat->Prop}
theorem N9 (w:World)(name:BA):XE (w.alloc (.cells #[.string name,.map N] 114)) w.heap.size w.heap.size (fun k=>k=w.heap.size) ⟨name,[]⟩:=by
 refine⟨N,.map [],fun _=>0,fun _ _=>False,⟨?_,rfl,fun k I=>?_,Je.cH.nil _,fun _=>rfl,(fun b e=>by cases e),fun i H=>absurd H (ae _),fun i H=>absurd H (ae _),fun i _ H=>absurd H (ae _)⟩⟩
 ·show(w.heap.push _)[w.heap.size]?=_;simp
 ·subst I;exact⟨Nat.le_refl _,by simp⟩
theorem UC (ad:Nat->aB)(name:BA)(w:World)(a3:name.size<=140737488351232)(hE:∀W,aj w.heap.size w W->W.cell? ⟨6,0,N⟩=aa (.iface 335 (.pointer (aa (ad 3))))):
 av Tryz.prog 33 #[.string name] w fun e w'=>((Jo name=ay/\∃h S,e=.returned (.tuple #[.pointer (aa ⟨h,0,N⟩),.nilIface])/\XE w' w.heap.size h S ⟨name,[]⟩)∨(Jo name=af/\∃ev,e=.returned (.tuple #[.pointer N,ev])/\oJ ad ev 4))/\aj w.heap.size w w':=by
 have I:=qF name w;have HE:Hid _:=hE;clear hE;cases hn:Jo name with
 |false =>
  rw[hn]at I;go_enter Tryz.func33,Tryz.ntmps33;go_wp2_with fail
  refine I.mono ?_;rintro e U ⟨rfl,J⟩;have e1:=HE.out U J;have K:Hid _:=J;clear J I;go_wp2;go_quiet (fail)
  go_wp2;refine bodyPost_ret (v:=.tuple #[.pointer N,.iface 335 (.pointer (aa (ad 3)))]) (by simp[results,Tryz.results33,go_sem]) rfl ?_;exact⟨aw ⟨by first|trivial|rfl,_,rfl,Or.inr ⟨3,by decide,rfl,rfl⟩⟩,below_drewN K.out _⟩
 |true =>
  rw[hn]at I;go_enter Tryz.func33,Tryz.ntmps33;go_wp2_with fail
  refine I.mono ?_;rintro e U ⟨rfl,J⟩;have a0:=Xs name U a3;have Z:Hid _:=J;clear J I;go_wp2_with fail
  refine a0.mono ?_;rintro e O ⟨rfl,a2⟩;have K:Hid _:=Z.out.trans (a2.mono Z.out.size);clear a2 a0 Z;go_wp2;refine bodyPost_ret (v:=.tuple #[.pointer (aa ⟨O.heap.size,0,N⟩),.nilIface]) (by simp[results,Tryz.results33,go_sem]) rfl ?_;obtain⟨mp,D,hb,Sh,H⟩:=N9 O name;exact⟨ao ⟨by first|trivial|rfl,O.heap.size,(fun k=>k=O.heap.size),rfl,mp,D,hb,Sh,H.blk,H.self,fun k hk=>⟨bb K.out.size (H.aO k hk).1,(H.aO k hk).2⟩,H.aN,H.none_,H.map,H.hold,H.sub,H.apart⟩,K.out.alloc K.out.size _⟩
end
section
variable {w w':World} {B h:Nat} {S:Nat->Prop} {m:Je} {mp:Option Nat} {D:aW ah} {hb:Nat->Nat} {Sh:Nat->Nat->Prop}
theorem Jlc (b:Nat)(W:World):Sem.run Tryz.prog (zh .eql 112 (.map (aa b)) (.map N)) W=.ok (.bool af) W:=by kernel_rfl
theorem Jmp (W:World):Sem.run Tryz.prog (zh .eql 112 (.map N) (.map N)) W=.ok (.bool ay) W:=by kernel_rfl
def zN (w:World)(B h:Nat)(S:Nat->Prop)(m:Je)(c:Int)(e:Ending)(w':World):Prop :=
 (m.held c=N/\e=.returned (.pointer N)/\aj w.heap.size w w')∨∃H I K O J U,m.held c=aa H/\e=.returned (.pointer (aa ⟨J (Yf m.L c),0,N⟩))/\Yf m.L c<H.L.length/\ZF w' B h I H K O J U/\Yd S I w w'
theorem JoN (K:ZF w B h S m (aa b) D hb Sh)(hc:YQ c):av Tryz.prog 115 #[.pointer (aa ⟨h,0,N⟩),.int .i64 c] w fun e w'=>zN w B h S m c e w':=by
 obtain⟨_,q1,f1⟩:=K.cells;have a3:=K.look hc;have a4:∀ty,(aA #[112] ty #[.map (aa b)]).run Tryz.prog w=.ok (.int .i64 (m.L.length:Nat)) w:=fun ty=>K.len ty
 have Z:Hid _:=K;have HC:Hid _:=hc;have b5:=Jlc b;have b2:=K.aN.bO;clear K hc;by_cases H:Yf m.L c<m.L.length
 ·have O:lI m.L hb c=.pointer (aa ⟨hb (Yf m.L c),0,N⟩):=by unfold lI;rw[if_pos H]
  rw[O]at a3;have I:Hid (m.held c=aa m):=by show _=_;unfold Je.held;rw[if_pos H]
  have J:Hid _:=H;clear O a4;generalize a5:hb (Yf m.L c)=hk at *;have b3:Hid _:=a5;clear a5 H;go_enter Tryz.func115,Tryz.ntmps115;go_wp2;go_ret;exact aw ⟨m,S,aa b,D,hb,Sh,I.out,by rw[b3.out];rfl,J.out,Z.out,Yd.aJ bR⟩
 ·have O:lI m.L hb c=.pointer none:=by unfold lI;rw[if_neg H]
  rw[O]at a3;have J:Hid (¬Yf m.L c<m.L.length):=H;clear O H;obtain⟨n,hn⟩:=Xb m.L.length;have HN:Hid _:=hn;rw[<-hn]at a4 b2;clear hn;by_cases a6:12<=n
  ·have I:Hid (m.held c=N):=by show _=_;unfold Je.held;rw[if_neg J.out,if_pos (by rw[<-HN.out];exact a6)]
   go_enter Tryz.func115,Tryz.ntmps115;go_wp2;go_ret;exact ao ⟨I.out,rfl,Below.refl _ _⟩
  ·have I:Hid (m.held c=aa ⟨m.name,m.L++ [(c,[],af)]⟩):=by show _=_;unfold Je.held;rw[if_neg J.out,if_neg (by rw[<-HN.out];exact a6)]
   obtain⟨w1,U⟩:=Xb (w.alloc (.cells #[.map none, .bool false] 240));have a0:=Zk U;have a7:=fQ U;have a8:QB w1 w.heap.size (fun k=>k=w.heap.size) [] false:=by rw[U];exact FO w
   have a2:=Z.out.below a0;obtain⟨_,k1,_⟩:=a2.cells;obtain⟨w2,b6,a9,b0⟩:=(a2.map b rfl).2.2.step HC.out (by have:=Z.out.aN.bO;omega) w.heap.size;have HM:=Z.out.more HC.out J.out I.out a0 nR a7 a8 a9 b0;have b1:Hid _:=HM;have b4:Hid _:=U;clear U a0 a7 a8 a2 a9 b0 HM;go_enter Tryz.func115,Tryz.ntmps115;go_wp2_with (first|rw[<-b4.out])
   go_ret;refine aw ⟨_,_,_,_,_,_,I.out,?_,?_,b1.out.1,b1.out.2⟩
   ·have e2:Yf m.L c=m.L.length:=by have:=kL m.L c;have:=J.out;omega
    show _=Ending.returned (.pointer (aa ⟨if Yf m.L c=m.L.length then w.heap.size else hb (Yf m.L c),0,N⟩));rw[if_pos e2];rfl
   ·show _<(m.L++ [_]).length;rw[ai];have:=kL m.L c;show _<_+1;omega
theorem JoO (I:ZF w B h S m N D hb Sh)(U:YQ c):av Tryz.prog 115 #[.pointer (aa ⟨h,0,N⟩),.int .i64 c] w fun e w'=>zN w B h S m c e w':=by
 obtain⟨_,q1,f1⟩:=I.cells;have J:=I.none_ rfl;have a5:=I.lt;have b4:=BY w U;have b5:∀Z,(aA #[112] Z #[.map N]).run Tryz.prog w=.ok (.int .i64 (0:Nat)) w:=fun Z=>by have:=I.len Z;rw[J]at this;exact this
 have b6:=Jmp;have HG:Hid (¬Yf m.L c<m.L.length):=by show ¬_;rw[J];exact ae _
 have HH:Hid (m.held c=aa ⟨m.name,m.L++ [(c,[],af)]⟩):=by show _=_;unfold Je.held;rw[if_neg HG.out,if_neg (by rw[J];decide)]
 obtain⟨O,a0⟩:=I.make;obtain⟨H,a2⟩:=Xb ((w.setCell ⟨h,1,N⟩ (.map (aa w.heap.size))).alloc (.map #[] 0));rw[<-a2]at O a0;have b7:(w.alloc (.map #[] 0)).frozen? ⟨h,1,N⟩=false:=by rw[((Below.refl _ w).alloc nR _).frozen (p:=⟨h,1,N⟩) a5];exact f1
 have b8:(w.alloc (.map #[] 0)).cell? ⟨h,1,N⟩=aa (.map N):=by rw[((Below.refl _ w).alloc nR _).cell (p:=⟨h,1,N⟩) a5];exact q1
 have d0:(Instr.makeMap 112 N).run Tryz.prog w=.ok (.map (aa w.heap.size)) (w.alloc (.map #[] 0)):=by kernel_rfl
 obtain⟨w1,K⟩:=Xb (H.alloc (.cells #[.map none, .bool false] 240));have a3:=Zk K;have a6:=fQ K;have a7:QB w1 H.heap.size (fun k=>k=H.heap.size) [] false:=by rw[K];exact FO H
 have a4:=O.below a3;obtain⟨_,k1,_⟩:=a4.cells;obtain⟨w2,d1,a8,a9⟩:=(a4.map w.heap.size rfl).2.2.step U (by rw[J];decide) H.heap.size;have HM:=O.more U HG.out HH.out a3 nR a6 a7 a8 a9;have b0:Hid _:=HM.1;have b1:Hid _:=a0.trans HM.2;have b2:Hid _:=a2;have b3:Hid _:=K;clear K a3 a6 a7 a4 a8 a9 HM I O a0 a2 J U;go_enter Tryz.func115,Tryz.ntmps115;go_wp2_with (first|rw[<-b2.out]|rw[<-b3.out])
 go_ret;refine aw ⟨_,_,_,_,_,_,HH.out,?_,?_,b0.out,b1.out⟩
 ·have e2:Yf m.L c=m.L.length:=by have:=kL m.L c;have:=HG.out;omega
  show _=Ending.returned (.pointer (aa ⟨if Yf m.L c=m.L.length then H.heap.size else hb (Yf m.L c),0,N⟩));rw[if_pos e2];rfl
 ·show _<(m.L++ [_]).length;rw[ai];have:=kL m.L c;show _<_+1;omega
theorem CJ (H:ZF w B h S m mp D hb Sh)(I:YQ c):av Tryz.prog 115 #[.pointer (aa ⟨h,0,N⟩),.int .i64 c] w fun e w'=>zN w B h S m c e w':=by
 cases mp with
 |none=>exact JoO H I
 |some b=>exact JoN H I
end
namespace Crc
def SS:Nat:=3988292384
def KU (c:Nat):Nat:=if c%2=1 then SS else 0
def step (c b:Nat):Nat:=c/2^^^KU (c^^^b)
def num (f:Nat->Nat):Nat->Nat
 |0=>0
 |m+1=>num f m^^^2^m*f m
end Crc
end Go.Proofs.YtfgapcknnoeplaaGreatDoor
