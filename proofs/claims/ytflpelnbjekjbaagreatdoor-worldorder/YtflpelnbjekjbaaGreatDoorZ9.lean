/- Texts laid together. -/
import Derived.Test.YtflpelnbjekjbaaGreatDoorZ8
set_option maxRecDepth 10000
open Option renaming some->S,none->N,map_eq_some_iff->ab
open Go.World renaming cell?_of_block->aa
open Nat renaming lt_or_ge->ac
open Go renaming Value->ag,TypeId->ak,binOp->ap,bytes->aJ
namespace Go.Proofs
open Go.Shelf
def Tryz.laysM171_ren : Go.Shelf.Ren := ⟨fun | 171 => 90 | 243 => 115 | 246 => 145 | 283 => 172 | 284 => 173 | 285 => 174 | 286 => 175 | 129 => 186 | 317 => 204 | 318 => 205 | 319 => 206 | 320 => 207 | 337 => 224 | 338 => 225 | n => n, fun | 3 => 3 | 9 => 9 | 2 => 2 | 4 => 4 | 171 => 248 | 0 => 0 | 53 => 249 | 37 => 143 | 5 => 5 | 173 => 252 | 212 => 274 | 51 => 177 | 20 => 20 | 213 => 275 | 46 => 229 | 232 => 298 | 233 => 299 | n => n, fun | 17 => 10 | 18 => 11 | 19 => 12 | n => n⟩
theorem Tryz.laysM171 : Go.Proofs.LaysM.n171 Tryz.prog Tryz.laysM171_ren := {
 mixed:=by kernel_rfl
 f129:=Tryz.func186.trans (congrArg S (by kernel_rfl))
 f171:=Tryz.func90.trans (congrArg S (by kernel_rfl))
 f243:=Tryz.func115.trans (congrArg S (by kernel_rfl))
 f246:=Tryz.func145.trans (congrArg S (by kernel_rfl))
 f283:=Tryz.func172.trans (congrArg S (by kernel_rfl))
 f284:=Tryz.func173.trans (congrArg S (by kernel_rfl))
 f285:=Tryz.func174.trans (congrArg S (by kernel_rfl))
 f286:=Tryz.func175.trans (congrArg S (by kernel_rfl))
 f317:=Tryz.func204.trans (congrArg S (by kernel_rfl))
 f318:=Tryz.func205.trans (congrArg S (by kernel_rfl))
 f319:=Tryz.func206.trans (congrArg S (by kernel_rfl))
 f320:=Tryz.func207.trans (congrArg S (by kernel_rfl))
 f337:=Tryz.func224.trans (congrArg S (by kernel_rfl))
 f338:=Tryz.func225.trans (congrArg S (by kernel_rfl))
 t0:=Tryz.underlying0
 a0:=Tryz.isAgg0
 z0:=Tryz.sizeOf0
 v0:=Tryz.zeroValue0
 t2:=Tryz.underlying2
 a2:=Tryz.isAgg2
 z2:=Tryz.sizeOf2
 v2:=Tryz.zeroValue2
 t3:=Tryz.underlying3
 a3:=Tryz.isAgg3
 z3:=Tryz.sizeOf3
 v3:=Tryz.zeroValue3
 t4:=Tryz.underlying4
 a4:=Tryz.isAgg4
 z4:=Tryz.sizeOf4
 v4:=Tryz.zeroValue4
 t5:=Tryz.underlying5
 a5:=Tryz.isAgg5
 z5:=Tryz.sizeOf5
 v5:=Tryz.zeroValue5
 t9:=Tryz.underlying9
 a9:=Tryz.isAgg9
 z9:=Tryz.sizeOf9
 v9:=Tryz.zeroValue9
 t20:=Tryz.underlying20
 a20:=Tryz.isAgg20
 z20:=Tryz.sizeOf20
 v20:=Tryz.zeroValue20
 t37:=Tryz.underlying143
 a37:=Tryz.isAgg143
 z37:=Tryz.sizeOf143
 v37:=Tryz.zeroValue143
 t46:=Tryz.underlying229
 a46:=Tryz.isAgg229
 z46:=Tryz.sizeOf229
 v46:=Tryz.zeroValue229
 t51:=Tryz.underlying177
 a51:=Tryz.isAgg177
 z51:=Tryz.sizeOf177
 v51:=Tryz.zeroValue177
 t53:=Tryz.underlying249
 a53:=Tryz.isAgg249
 z53:=Tryz.sizeOf249
 v53:=Tryz.zeroValue249
 t171:=Tryz.underlying248
 a171:=Tryz.isAgg248
 z171:=Tryz.sizeOf248
 v171:=Tryz.zeroValue248
 t173:=Tryz.underlying252
 a173:=Tryz.isAgg252
 z173:=Tryz.sizeOf252
 v173:=Tryz.zeroValue252
 t212:=Tryz.underlying274
 a212:=Tryz.isAgg274
 z212:=Tryz.sizeOf274
 v212:=Tryz.zeroValue274
 t213:=Tryz.underlying275
 a213:=Tryz.isAgg275
 z213:=Tryz.sizeOf275
 t232:=Tryz.underlying298
 a232:=Tryz.isAgg298
 z232:=Tryz.sizeOf298
 v232:=Tryz.zeroValue298
 t233:=Tryz.underlying299
 a233:=Tryz.isAgg299
 z233:=Tryz.sizeOf299
 v233:=Tryz.zeroValue299
 g17:=by kernel_rfl
 g18:=by kernel_rfl
 g19:=by kernel_rfl
 i0:=by kernel_rfl
 i2:=by kernel_rfl
 i3:=by kernel_rfl
 i4:=by kernel_rfl
 i5:=by kernel_rfl
 i9:=by kernel_rfl
 i20:=by kernel_rfl
 i37:=by kernel_rfl
 i46:=by kernel_rfl
 i51:=by kernel_rfl
 i53:=by kernel_rfl
 i171:=by kernel_rfl
 i173:=by kernel_rfl
 i212:=by kernel_rfl
 i232:=by kernel_rfl
 i233:=by kernel_rfl
 m17:=by kernel_rfl
 m18:=by kernel_rfl
 m19:=by kernel_rfl }
end Go.Proofs
namespace Go.Proofs.YtflpelnbjekjbaaGreatDoor
open Go.RowKit
variable {w w' W V:World}{x:Zb×Lv}{T:ak}{B b:Nat}{v:ag}{c:Int}{ad:Nat->Addr}
theorem IV (a:Za):a.aF.next=a.next:=by
 unfold Za.aF;split<;>rfl
theorem uQ {a:Za}{m:Zb}(h:a.aM m=true)(B:a.st=.sealing):a.aD m=fU (a.heard m):=by
 unfold Za.aD fU;have e:(a.heard m).c=a.c:=rfl;rw[if_neg (by rw[h];decide),if_neg (fun D=>D.2 B),e];split
 ·rfl
 ·rw[if_neg (by rw[B];decide)]
def J1 (T:ak)(B:Nat)(w:World)(v:ag)(D:List (Zb×Lv)):Prop:=Zc mE T w B v D/\∀x∈D,Jn w x/\∀b o,x.2.1=S ⟨b,o,N⟩->(B<=b/\b<w.heap.size)/\v.ownBlock≠S b
theorem KB {row:Option Nat}(h:Jn w x)(B:w.grownBy w' row)(D:∀b o,x.2.1=S ⟨b,o,N⟩->S b≠row):Jn w' x:=⟨h.len,NM h.eC B D,h.room,h.empty⟩
theorem J1.snoc {K O w6:World}{U:ag}{ml:List (Zb×Lv)}(h:J1 T B K v ml)(hB:B<=K.heap.size)(hb:Below K.heap.size K O)(hx:Jn O x)(Z:∀b o,x.2.1=S ⟨b,o,N⟩->K.heap.size<=b/\b<O.heap.size)
 (hO:Zc mE T w6 B U (ml++ [x])) (hg:O.grownBy w6 v.ownBlock) (hl:U.ownBlock=v.ownBlock∨U.ownBlock=S O.heap.size):J1 T B w6 U (ml++ [x]):=by
 have hz:=hb.size;have a0:=hg.size;refine⟨hO,fun y I=>?_⟩;rcases List.mem_append.1 I with I|I
 ·obtain⟨h1,H⟩:=h.2 y I;refine⟨KB (h1.below hb) hg (fun b o D e=>(H b o D).2 e.symm),fun b o D=>⟨⟨(H b o D).1.1,by have:=(H b o D).1.2;omega⟩,?_⟩⟩;have:=(H b o D).1.2;rcases hl with e|e
  ·rw[e];exact(H b o D).2
  ·rw[e];intro J;have:=Option.some.inj J;omega
 ·rw[List.mem_singleton.1 I];refine⟨KB hx hg (fun b o D e=>?_),fun b o D=>⟨⟨by have:=(Z b o D).1;omega,by have:=(Z b o D).2;omega⟩,?_⟩⟩
  ·have h1:=Z b o D;have H:=(h.1.block e.symm).2;omega
  ·have h1:=Z b o D;rcases hl with e|e
   ·rw[e];intro J;have:=(h.1.block J).2;omega
   ·rw[e];intro J;have:=Option.some.inj J;omega
theorem J1.nil (T:ak)(B:Nat)(w:World):J1 T B w (.slice N 0 0) []:=⟨Zc.nil _ _ _,fun x D=>by cases D⟩
theorem J1.kept {J:List (Zb×Lv)}(h:J1 T B w v J)(I:Below w.heap.size w w'):J1 T B w' v J:=⟨h.1.kept I,fun x D=>⟨(h.2 x D).1.below I,fun b o H=>⟨⟨((h.2 x D).2 b o H).1.1,Nat.lt_of_lt_of_le ((h.2 x D).2 b o H).1.2 I.size⟩,((h.2 x D).2 b o H).2⟩⟩⟩
theorem J1.SO {D:List (Zb×Lv)}(h:J1 T B w v D):∃p c,v=.slice p D.length c/\QE c B w p (D.map Prod.fst):=by
 obtain⟨p,c,J,K,O,H,U⟩:=h.1.form;exact⟨p,c,J,⟨⟨D,rfl,K,fun x I=>⟨(h.2 x I).1,fun b o e=>((h.2 x I).2 b o e).1⟩,U⟩,by rw[List.length_map];exact O,fun e=>by rw[List.length_map,(H e).1];exact⟨rfl,(H e).2⟩⟩⟩
theorem NJ {α:Type}{E:eW α}{ops:Array Oper}{o:Oper}{a:Act}{K:Act->World->Prop}{Q:Exit->Act->World->Prop}{E':Prop}
 (a5:o.guard=N) (s x:Operand) (t T:ak) (ho:o.op=.call {callee:=.builtin .append,args:=#[s,x],argTypes:=#[t,t]}) (z:ag) (aJ:Nat) (ht:Tryz.prog.underlying t=S (.slice T))
 (a6:(Tryz.prog.info? T).map (fun i=>(i.zero,i.size,i.bytes))=S (S z,E.k,aJ)) (a7:z.cells.size=E.k)
 (B:Nat) (v:ag) (l:List α) (hs:a.eval s=v) (a3:Zc E T w B v l) (b:Nat) (c:Nat) (r:α) (hx:a.eval x=.slice (S ⟨b,0,N⟩) 1 c) (hc:∀j u,(E.enc r)[j]?=S u->w.cell? ⟨b,j,N⟩=S u) (hl:l.length+1<=maxLen) (a4:(l.length+1)*aJ<=140737488355328) (a9:B<=w.heap.size)
 (h:∀D w',Zc E T w' B D (l++ [r])->w.grownBy w' v.ownBlock->(D.ownBlock=v.ownBlock∨D.ownBlock=S w.heap.size)->K (a.put o.dst D) w'):
 if Region.wanted o (yielded ops a.tmps)=true then Oper.wp Tryz.prog o a w K Q else E':=by
 have hw:Region.wanted o (yielded ops a.tmps)=true:=by simp[Region.wanted,a5]
 rw[if_pos hw];obtain⟨H,I,J,O,U⟩:=info_parts a6;have Z:∀j u,(E.enc r)[j]?=S u->w.cell? ((⟨b,0,N⟩:Addr).add j)=S u:=fun j u hj=>by
  have h0:=hc j u hj;by_cases e:j=0
  ·subst e;simpa[Addr.add]using h0
  ·simpa[Addr.add,e]using h0
 have a0:(E.enc r).length=1*E.k:=by rw[E.len,Nat.one_mul]
 obtain⟨D,w',a2,h2,h3,_⟩:=run_append_own (P:=Tryz.prog) w B t o.type T H z E.k aJ ht I J O U a7 E.pos v l.length (Qb E l) a3 ⟨b,0,N⟩ 1 c (E.enc r) a0 Z (E.one r) hl a4 a9;have h4:=yO B t o.type T H z E.k aJ ht I J O U v l.length (Qb E l) a3 ⟨b,0,N⟩ 1 c (E.enc r) a0 Z (E.one r) hl a4 (by decide) a2;unfold Oper.wp;simp[execOp,ho,resolve,invoke,builtin,hs,hx,a2,Result.andThen];refine h D w' ?_ h3 h4;unfold Zc;rw[Qj,qK,List.length_append];exact h2
section
def iI (c:Int):Lit:=.int .i64 c
theorem DW {d:Int}(h:iI c=iI d):c=d:=by
 unfold iI at h;injection h
theorem F2 (c:Int):WideAt.IsKeyLit (iI c):=trivial
theorem tC:Maps.Keyed Tryz.prog 3:=Maps.int_keyed Tryz.underlying3
theorem Jtu {a:Int}(h:YQ a):(Lit.int .i64 a).wf=true:=by
 simp[Lit.wf,IntKind.min,IntKind.max,IntKind.bits,IntKind.signed];exact h
theorem yA (h:YQ c):keyOf Tryz.prog 3 (.int .i64 c)=S (iI c):=Maps.keyOf_int_mk Tryz.underlying3 (Jtu h)
abbrev lE (w:World)(b n:Nat)(D:DataW ag):Prop:=w.ownsMap Tryz.prog 3 iW b n D
theorem lE.same {n:Nat}{D:DataW ag}(h:lE w b n D)(hb:w'.heap[b]?=w.heap[b]?):lE w' b n D:=by
 obtain⟨B,H,I,J⟩:=h;exact⟨B,H,hb.trans I,J⟩
structure X0 (w:World) (b:Nat) (L:List fA) (D:DataW ag) (hb:Nat->Nat):Prop where
 own:∃n,n<=1000/\lE w b n D
 has:∀c,YQ c->Maps.has D (iI c)=decide (Yf L c<L.length)
 at_:∀i,i<L.length->∀z,D.atKey (iI (Zg L i).1) z=.held (.pointer (S ⟨hb i,0,N⟩))
 size:Maps.size D=L.length
variable {w w':World} {b:Nat} {L:List fA} {D:DataW ag} {hb:Nat->Nat}
theorem X0.same (h:X0 w b L D hb)(e:w'.heap[b]?=w.heap[b]?):X0 w' b L D hb:=by
 obtain⟨n,B,H⟩:=h.own;exact⟨⟨n,B,H.same e⟩,h.has,h.at_,h.size⟩
theorem X0.lt (h:X0 w b L D hb):b<w.heap.size:=by
 obtain⟨n,_,B⟩:=h.own;exact World.ownsMap.lt B
theorem X0.empty (w:World)(hb:Nat->Nat):X0 (w.alloc (.map #[] 0)) w.heap.size [] (.map []) hb :=
 ⟨⟨0,Nat.zero_le _,World.ownsMap_made w Tryz.prog 3 iW⟩,fun _ _=>rfl,fun _ B=>absurd B (Nat.not_lt_zero _),rfl⟩
def lI (L:List fA)(hb:Nat->Nat)(c:Int):Value:=.pointer (if Yf L c<L.length then S ⟨hb (Yf L c),0,N⟩else N)
theorem X0.look (h:X0 w b L D hb)(H:YQ c):(Instr.lookup 140 (.map (S b)) (.int .i64 c) false).run Tryz.prog w=.ok (lI L hb c) w:=by
 have I:(zeroValue 162).run Tryz.prog w=.ok (.pointer N) w:=by kernel_rfl
 obtain⟨n,_,J⟩:=h.own;obtain⟨v,ps,K,O⟩:=World.ownsMap.lookup J tC Tryz.underlying140 I (zd:=.held (.pointer N)) (zp:=[]) rfl (yA H);rw[K];have e:=congrArg Prod.fst (Option.some.inj O);unfold lI;by_cases B:Yf L c<L.length
 ·rw[if_pos B];have:=h.at_ _ B (.held (.pointer N));rw[nO B]at this;rw[this]at e;injection e with e
  rw[e]
 ·rw[if_neg B];rw[Maps.atKey_of_not_has (by rw[h.has c H];exact decide_eq_false B)]at e;injection e with e
  rw[e]
theorem BY (w:World)(H:YQ c):(Instr.lookup 140 (.map N) (.int .i64 c) false).run Tryz.prog w=.ok (.pointer N) w:=by
 have B:(zeroValue 162).run Tryz.prog w=.ok (.pointer N) w:=by kernel_rfl
 have:=Maps.look_nil (w:=w) false tC Tryz.underlying140 B (yA H);rw[this];rfl
theorem X0.len (h:X0 w b L D hb)(B:ak):(Builtin.len_ #[140] B #[.map (S b)]).run Tryz.prog w=.ok (.int .i64 (L.length:Nat)) w:=by
 obtain⟨n,_,H⟩:=h.own;rw[World.ownsMap.len H Tryz.underlying140 B,h.size]
theorem X0.put (h:X0 w b L D hb)(hc:YQ c)(hn:¬Yf L c<L.length)(k:Nat)(x:List Yh×Bool)(hw:∃n,n<=1000/\lE w' b n (D.put (iI c) (.held (.pointer (S ⟨k,0,N⟩))))):
 X0 w' b (L++ [(c,x)]) (D.put (iI c) (.held (.pointer (S ⟨k,0,N⟩)))) (fun i=>if i=L.length then k else hb i):=by
 obtain⟨n,_,K⟩:=h.own;have Z:=World.ownsMap.tidy K tC;have O:=World.ownsMap.isMap K;have U:(L++ [(c,x)]).length=L.length+1:=by rw[List.length_append];rfl
 have a0:∀i,i<L.length->(Zg L i).1≠c:=fun i I=>Q6 (by omega)
 refine⟨hw,fun d hd=>?_,fun i I z=>?_,?_⟩
 ·by_cases e:d=c
  ·subst e;rw[Maps.has_put_same O (F2 d)]
   symm
   refine decide_eq_true ?_;rcases ac (Yf (L++ [(d,x)]) d) (L++ [(d,x)]).length with B|B
   ·exact B
   ·refine absurd ?_ (Q6 (L:=L++ [(d,x)]) (c:=d) (i:=L.length) (by omega));rw[QI,if_neg (Nat.lt_irrefl _),if_pos rfl]
  ·rw[Maps.has_put_other (fun J=>e (DW J)),h.has d hd];by_cases H:Yf L d<L.length
   ·rw[decide_eq_true H]
    symm
    refine decide_eq_true ?_;rcases ac (Yf (L++ [(c,x)]) d) (L++ [(c,x)]).length with B|B
    ·exact B
    ·refine absurd ?_ (Q6 (L:=L++ [(c,x)]) (c:=d) (i:=Yf L d) (by omega));rw[QI,if_pos H];exact nO H
   ·rw[decide_eq_false H]
    symm
    refine decide_eq_false (UB fun i I=>?_);rw[QI];by_cases B:i<L.length
    ·rw[if_pos B];exact Q6 (by omega)
    ·rw[if_neg B,if_pos (by omega)];exact fun h2=>e h2.symm
 ·rw[U]at I;rw[QI];by_cases B:i<L.length
  ·rw[if_pos B,if_neg (by omega),Maps.atKey_put_other (fun J=>a0 i B (DW J))];exact h.at_ i B z
  ·rw[if_neg B,if_pos (by omega),if_pos (by omega),Maps.atKey_put_same O (F2 c)]
 ·have e1:Maps.has D (iI c)=false:=by rw[h.has c hc];exact decide_eq_false hn
  rw[Maps.size_put Z,e1,h.size,U];simp
theorem X0.step (h:X0 w b L D hb)(hc:YQ c)(hl:L.length<=100)(k:Nat):∃B,(Instr.mapUpdate 140 (.map (S b)) (.int .i64 c) (.pointer (S ⟨k,0,N⟩))).run Tryz.prog w=.ok () B/\(∃n,n<=1000/\lE B b n (D.put (iI c) (.held (.pointer (S ⟨k,0,N⟩)))))/\w.grownBy B (S b):=by
 obtain⟨n,hn,H⟩:=h.own;have I:lE w b L.length D:=by
  obtain⟨J,K,O,F,g2,rfl⟩:=H;refine⟨J,K,O,F,?_,rfl⟩;have:=h.size;rw[Maps.size_eq,length_sorted]at this;simp at this;omega
 obtain⟨B,U,Z,hg⟩:=World.ownsMap.update I tC Tryz.underlying140 (by unfold maxLen;omega) (yA hc) (val:=.pointer (S ⟨k,0,N⟩)) (d:=.held (.pointer (S ⟨k,0,N⟩))) (ps:=[]) rfl;exact⟨B,U,⟨_,by omega,Z⟩,hg⟩
end
theorem qG (x m:Int)(w:World):Calls Tryz.prog 135 #[.int .i64 x,.int .i64 m] w fun e w'=>e=.returned (.bool (decide (0<=x/\x<=m)))/\w'=w:=by
 by_cases D:0<=x
 ·by_cases H:x<=m
  ·have B:Hid (decide (0<=x/\x<=m)=true):=decide_eq_true ⟨D,H⟩;rw[B.out];go_enter Tryz.func135,Tryz.ntmps135;go_wp2;go_ret;exact⟨rfl,rfl⟩
  ·have B:Hid (decide (0<=x/\x<=m)=false):=decide_eq_false fun h=>H h.2
   rw[B.out];go_enter Tryz.func135,Tryz.ntmps135;go_wp2;go_ret;exact⟨rfl,rfl⟩
 ·have B:Hid (decide (0<=x/\x<=m)=false):=decide_eq_false fun h=>D h.1
  rw[B.out];go_enter Tryz.func135,Tryz.ntmps135;go_wp2;go_ret;exact⟨rfl,rfl⟩
def YM (a b:Int):Bool:=decide (0<=a/\a<=1099511627776)&&decide (0<=b/\b<=1099511627776)
theorem wI (a b:Int)(w:World):Calls Tryz.prog 107 #[.agg #[.int .i64 a,.int .i64 b]] w fun e w'=>e=.returned (.bool (YM a b))/\Below w.heap.size w w':=by
 obtain⟨D,I⟩:=Xb (w.alloc (.cells #[.int .i64 a,.int .i64 b] 43));have K:Hid (Below w.heap.size w D):=by rw[I];exact bR.alloc nR _
 obtain⟨f0,f1⟩:=lO (JH I);have O:Hid _:=I;have J:Hid (Calls Tryz.prog 135 #[.int .i64 a,.int .i64 1099511627776] D fun e w'=>e=.returned (.bool (decide (0<=a/\a<=1099511627776)))/\w'=D):=qG _ _ D;have U:Hid (Calls Tryz.prog 135 #[.int .i64 b,.int .i64 1099511627776] D fun e w'=>e=.returned (.bool (decide (0<=b/\b<=1099511627776)))/\w'=D):=qG _ _ D;have Z:Hid (YM a b=(decide (0<=a/\a<=1099511627776)&&decide (0<=b/\b<=1099511627776))):=by show _=_;rfl
 rw[Z.out];clear I Z;generalize decide (0<=a/\a<=1099511627776)=x at *;generalize decide (0<=b/\b<=1099511627776)=y at *;cases x with
 |false =>
  go_enter Tryz.func107,Tryz.ntmps107;go_wp2_with fail
  rw[<-O.out];refine J.out.mono ?_;rintro e H ⟨rfl,B⟩;rw[B];clear B H J;go_wp2;go_ret;exact⟨rfl,K.out⟩
 |true =>
  go_enter Tryz.func107,Tryz.ntmps107;go_wp2_with fail
  rw[<-O.out];refine J.out.mono ?_;rintro e H ⟨rfl,B⟩;rw[B];clear B H J;go_wp2_with fail
  refine U.out.mono ?_;rintro e H ⟨rfl,B⟩;rw[B];clear B H U;go_wp2;go_ret;exact⟨rfl,K.out⟩
section
open Go.Extern.Stop Go.Stop Go.Extern
end
section
open Go.Extern.Stop Go.Stop Go.Extern
end
section
open Go.Extern.Stop Go.Stop Go.Extern
end
theorem ZD {o:Nat}(h:w.cell? ⟨b,o,N⟩=S v):b<w.heap.size:=by
 rcases ac b w.heap.size with B|B
 ·exact B
 ·simp[World.cell?,Array.getElem?_eq_none B]at h
structure jV (w:World) (ad:Nat->Addr):Prop where
 c1:w.cell? ⟨0,0,N⟩=S (.iface 301 (.pointer (S (ad 1))))
 c3:w.cell? ⟨6,0,N⟩=S (.iface 301 (.pointer (S (ad 3))))
 c5:w.cell? ⟨5,0,N⟩=S (.iface 301 (.pointer (S (ad 5))))
 c6:w.cell? ⟨2,0,N⟩=S (.iface 301 (.pointer (S (ad 6))))
 c9:w.cell? ⟨3,0,N⟩=S (.iface 301 (.pointer (S (ad 9))))
theorem jV.below (h:jV w ad)(B:Below w.heap.size w w'):jV w' ad where
 c1:=(B.cell (ZD h.c1)).trans h.c1
 c3:=(B.cell (ZD h.c3)).trans h.c3
 c5:=(B.cell (ZD h.c5)).trans h.c5
 c6:=(B.cell (ZD h.c6)).trans h.c6
 c9:=(B.cell (ZD h.c9)).trans h.c9
theorem jV.dI (h:jV W ad)(B:∀k,k<W.heap.size->V.heap[k]?=W.heap[k]?):jV V ad where
 c1:=(aa (w:=W) (w':=V) (B _ (ZD h.c1))).trans h.c1
 c3:=(aa (w:=W) (w':=V) (B _ (ZD h.c3))).trans h.c3
 c5:=(aa (w:=W) (w':=V) (B _ (ZD h.c5))).trans h.c5
 c6:=(aa (w:=W) (w':=V) (B _ (ZD h.c6))).trans h.c6
 c9:=(aa (w:=W) (w':=V) (B _ (ZD h.c9))).trans h.c9
structure kN (w:World) (ad:Nat->Addr):Prop where
 eZ:jV w ad
 row:∀i,i=1∨i=3∨i=5∨i=6∨i=9->∃c t,w.heap[(ad i).block]?=S (.cells c t (0,0))
 ne:∀i,i=1∨i=3∨i=5∨i=6->ad i≠ad 9
theorem rE {o:Obj}(h:w.heap[b]?=S o):b<w.heap.size:=by
 rcases ac b w.heap.size with B|B
 ·exact B
 ·rw[Array.getElem?_eq_none B]at h;cases h
theorem kN.dI (h:kN W ad)(B:∀k,k<W.heap.size->V.heap[k]?=W.heap[k]?):kN V ad where
 eZ:=h.eZ.dI B
 row:=fun i D=>by
  obtain⟨c,t,e⟩:=h.row i D;exact⟨c,t,(B _ (rE e)).trans e⟩
 ne:=h.ne
theorem HU:(Tryz.prog.info? 301).map (·.comparable)=S true:=by kernel_rfl
theorem AO:(Tryz.prog.info? 315).map (·.size)=S 1:=by kernel_rfl
theorem AH (a:Addr)(w:World):(ap .eql 29 (.iface 301 (.pointer (S a))) (.iface 301 (.pointer (S a)))).run Tryz.prog w=.ok (.bool true) w/\(ap .neq 29 (.iface 301 (.pointer (S a))) (.iface 301 (.pointer (S a)))).run Tryz.prog w=.ok (.bool false) w:=by
 obtain⟨i,B,D⟩:=ab.1 HU;obtain⟨j,H,_⟩:=ab.1 AO;refine⟨run_eql_iface_ptr_same (P:=Tryz.prog) w a Tryz.underlying29 Tryz.underlying301 B D H,?_⟩;simp only[ap];simp[Op.equal,Op.maxDepth,run_equalIn_iface_ptr_same (P:=Tryz.prog) w 9998 a Tryz.underlying29 Tryz.underlying301 B D H]
theorem Jqc {a b:Addr}{U Z:Array ag}{ta tb:ak}(J:a≠b)(K:w.heap[a.block]?=S (.cells U ta (0,0)))(O:w.heap[b.block]?=S (.cells Z tb (0,0))):(ap .eql 29 (.iface 301 (.pointer (S a))) (.iface 301 (.pointer (S b)))).run Tryz.prog w=.ok (.bool false) w/\(ap .neq 29 (.iface 301 (.pointer (S a))) (.iface 301 (.pointer (S b)))).run Tryz.prog w=.ok (.bool true) w:=by
 obtain⟨i,B,D⟩:=ab.1 HU;obtain⟨j,H,I⟩:=ab.1 AO;refine⟨run_eql_iface_ptr_other (P:=Tryz.prog) w Tryz.underlying29 Tryz.underlying301 B D H (by rw[I];decide) J K O,?_⟩;simp only[ap];simp[Op.equal,Op.maxDepth,run_equalIn_iface_ptr_other (P:=Tryz.prog) w 9998 Tryz.underlying29 Tryz.underlying301 B D H (by rw[I];decide) J K O]
theorem Jtd (B:ak)(v:ag)(w:World):(ap .eql 29 .nilIface (.iface B v)).run Tryz.prog w=.ok (.bool false) w:=run_eql_iface_nil_left (P:=Tryz.prog) w B v Tryz.underlying29
end Go.Proofs.YtflpelnbjekjbaaGreatDoor
