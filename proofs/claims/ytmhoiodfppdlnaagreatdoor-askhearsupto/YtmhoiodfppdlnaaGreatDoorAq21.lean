import Derived.Test.YtmhoiodfppdlnaaGreatDoorAq19
import Derived.Test.YtmhoiodfppdlnaaGreatDoorAq20
import Derived.Test.YtmhoiodfppdlnaaGreatDoorAq3
import Derived.Test.YtmhoiodfppdlnaaGreatDoorAq5
import Derived.Test.YtmhoiodfppdlnaaGreatDoorAq10
import Derived.Deep.OwnRows
import Derived.Deep.RegionHeld3
import Derived.BigQuiet
import Derived.StillTailTactics
import Derived.Deep.CutRange
import Derived.Deep.MidRow
set_option maxRecDepth 10000
set_option maxHeartbeats 8000000
namespace Go.Proofs.YtmhoiodfppdlnaaGreatDoor
open Go.RowKit
theorem pcopied_any (num:Int)(c:Cfg)(p:Option Addr)(cap:Nat)(w:World)(hc:CfgAt w c p cap)(hn:1<=c.L.length):Calls Tryz.prog 75 #[.agg #[.int .i64 c.n,.int .i64 c.k,.slice p c.L.length cap,.int .i64 num]] w fun e w'=>(∃ g,e=.returned (.agg #[.int .i64 c.n,.int .i64 c.k,.slice (some ⟨g,0,none⟩) c.L.length c.L.length,.int .i64 num])/\Strs w' (some ⟨g,0,none⟩) c.L/\w.heap.size<=g/\g < w'.heap.size)/\Below w.heap.size w w':=by
 obtain⟨w2,hw2⟩:∃ w2,w2=(w.alloc (.cells #[.int .i64 c.n,.int .i64 c.k,.slice p c.L.length cap,.int .i64 num] 88)).alloc (.cells #[.int .i64 0,.int .i64 0,.slice none 0 0,.int .i64 0] 88):=⟨_,rfl⟩
 have hb2:Below w.heap.size w w2:=by rw [hw2];exact((Below.refl _ _).alloc (Nat.le_refl _) _).alloc (by simp) _
 have hz2:w2.heap.size=w.heap.size+1+1:=by rw [hw2];simp
 have hbk0:w2.heap[w.heap.size]?=some (.cells #[.int .i64 c.n,.int .i64 c.k,.slice p c.L.length cap,.int .i64 num] 88 (0,0)):=by
  rw [hw2,Below.heap_alloc _ _ _ (by simp)]
  show(w.heap.push _)[w.heap.size]?=_
  simp
 have hbk1:w2.heap[w.heap.size+1]?=some (.cells #[.int .i64 0,.int .i64 0,.slice none 0 0,.int .i64 0] 88 (0,0)):=by
  rw [hw2]
  show((w.alloc _).heap.push _)[w.heap.size+1]?=_
  have e:w.heap.size+1=(w.alloc (.cells #[.int .i64 c.n,.int .i64 c.k,.slice p c.L.length cap,.int .i64 num] 88)).heap.size:=by simp
  rw [Array.getElem?_push,if_pos e]
 obtain⟨i1,hi1,hy0,hy1,hyb⟩:=info_parts strinfo
 have hcl:c.L.length<=1000:=hc.len
 have hmk:∀ W:World,Sem.run Tryz.prog (Instr.makeSlice 22 (.int .i64 (c.L.length:Int)) (.int .i64 (c.L.length:Int))) W=.ok (.slice (some ⟨W.heap.size,0,none⟩) c.L.length c.L.length) (W.alloc (.cells (madeCells #[.string ⟨#[]⟩] c.L.length) 9)):=fun W=>run_make_row (P:=Tryz.prog) 22 9 i1 (.string ⟨#[]⟩) Tryz.underlying22 hi1 hy0 hy1 rfl .i64 .i64 c.L.length (by rw [hyb];omega) (by omega) W
 have HST:Hid (Strs w2 p c.L):=hc.strs.below hb2
 have HSZ:Hid (∀ x ∈ c.L,x.size<=1000):=hc.size
 have HSC:Hid (∀ s:ByteArray,s.size<=1000000->∀ W,Calls Tryz.prog 33 #[.string s] W fun e w'=>e=.returned (.string s)/\Below W.heap.size W w'):=fun s hs W=>sclone_any s W (by omega)
 have HBK:Hid (∀ W,Below w2.heap.size w2 W->W.heap[w.heap.size]?=some (.cells #[.int .i64 c.n,.int .i64 c.k,.slice p c.L.length cap,.int .i64 num] 88 (0,0))/\W.heap[w.heap.size+1]?=some (.cells #[.int .i64 0,.int .i64 0,.slice none 0 0,.int .i64 0] 88 (0,0))):=fun W hW=>⟨(hW.block _ (by omega)).trans hbk0,(hW.block _ (by omega)).trans hbk1⟩
 have k2:w2.cell? ⟨w.heap.size,2,none⟩=some (.slice p c.L.length cap):=by simp [World.cell?,hbk0]
 obtain⟨w3,hw3⟩:∃ w3,w3=w2.alloc (.cells (madeCells #[.string ⟨#[]⟩] c.L.length) 9):=⟨_,rfl⟩
 have hR3:w3.rowIs w2.heap.size 9 c.L.length (fun _=>.string ⟨#[]⟩):=by rw [hw3];exact World.rowIs_made w2 _ c.L.length _
 have hb3:Below w2.heap.size w2 w3:=zBe hw3
 have k3:w3.cell? ⟨w.heap.size,2,none⟩=some (.slice p c.L.length cap):=by simp [World.cell?,(HBK.out w3 hb3).1]
 have HW2:Hid (w2=(w.alloc (.cells #[.int .i64 c.n,.int .i64 c.k,.slice p c.L.length cap,.int .i64 num] 88)).alloc (.cells #[.int .i64 0,.int .i64 0,.slice none 0 0,.int .i64 0] 88)):=hw2
 have HW3:Hid (w3=w2.alloc (.cells (madeCells #[.string ⟨#[]⟩] c.L.length) 9)):=hw3
 have HR3:Hid (w3.rowIs w2.heap.size 9 c.L.length (fun _=>.string ⟨#[]⟩)):=hR3
 have HB3:Hid (Below w2.heap.size w2 w3):=hb3
 have HB2:Hid (Below w.heap.size w w2):=hb2
 have HZ2:Hid (w2.heap.size=w.heap.size+1+1):=hz2
 have hz2':w.heap.size+1 < w2.heap.size:=by omega
 clear hc hw2 hw3 hbk0 hbk1 hR3 hb3 hb2 hz2 hi1 hy0 hy1 hyb
 go_enter Tryz.func75,Tryz.ntmps75
 go_wp2_with (first | rw [<- HW2.out] | rw [<- HW3.out])
 go_loopw [15] (fun x wr=>∃ i:Nat,i<=c.L.length/\x=.int .i64 i/\wr.rowIs w2.heap.size 9 c.L.length (fun q=>if q < i then .string (txt c.L q) else .string ⟨#[]⟩)/\Below w2.heap.size w2 wr) (fun x _=>c.L.length - (intOf x).toNat)
 case atStart=>exact⟨0,Nat.zero_le _,rfl,HR3.out.congr (fun q _=>by simp),HB3.out⟩
 case round =>
  obtain⟨i,hi,rfl,hS,hB⟩:=hrel
  obtain⟨w4,rfl⟩:∃ w4,w4=wr:=⟨_,rfl⟩
  have HS:Hid (w4.rowIs w2.heap.size 9 c.L.length (fun q=>if q < i then .string (txt c.L q) else .string ⟨#[]⟩)):=hS
  have HB:Hid (Below w2.heap.size w2 w4):=hB
  by_cases hil:i < c.L.length
  ·rcases HST.out.below hB with h0 | ⟨b,o,hpp,hblt,hcs⟩
   ·rw [h0] at hil;exact absurd hil (Nat.not_lt_zero _)
   have q1:=hcs i hil
   have hts:(txt c.L i).size<=1000000:=by
    rw [txt_getElem c.L i hil]
    have:=HSZ.out _ (List.getElem_mem hil)
    omega
   have HSX:=HSC.out _ hts w4
   have HTX:Hid (txt c.L i=txt c.L i):=by show _=_;rfl
   generalize hgt:txt c.L i=t at HSX q1
   have HGT:Hid (txt c.L i=t):=hgt
   subst hpp
   clear hcs hts HTX hgt hS hB
   go_wp2_with fail
   refine HSX.mono ?_
   rintro e w5 ⟨rfl,hb5⟩
   have hS5:=rowIs_below HS.out hb5
   have qs:w5.cell? ⟨w2.heap.size,i,none⟩=some (.string ⟨#[]⟩):=by rw [hS5.cell hil,if_neg (Nat.lt_irrefl _)]
   have qf:w5.frozen? ⟨w2.heap.size,i,none⟩=false:=hS5.frozen i
   have HS5:Hid (w5.rowIs w2.heap.size 9 c.L.length (fun q=>if q < i then .string (txt c.L q) else .string ⟨#[]⟩)):=hS5
   have HB5:Hid (Below w2.heap.size w2 w5):=HB.out.trans (hb5.mono HB.out.size)
   clear hS5 hb5 HSX q1 hmk
   go_wp2
   go_roundw
   case rel =>
    refine⟨i+1,by omega,by go_num,(HS5.out.set i _).congr (fun q _=>?_),HB5.out.setCell (Nat.le_refl _) _⟩
    by_cases e:q=i
    ·rw [if_pos e,if_pos (by omega),e,HGT.out]
    ·rw [if_neg e]
     by_cases e':q < i
     ·rw [if_pos e',if_pos (by omega)]
     ·rw [if_neg e',if_neg (by omega)]
   case measure=>simp [intOf];omega
  ·have hie:i=c.L.length:=by omega
   obtain⟨e0,e1⟩:=HBK.out w4 hB
   have c0:w4.cell? ⟨w.heap.size,0,none⟩=some (.int .i64 c.n):=by simp [World.cell?,e0]
   have c1:w4.cell? ⟨w.heap.size,1,none⟩=some (.int .i64 c.k):=by simp [World.cell?,e0]
   have c2:w4.cell? ⟨w.heap.size,2,none⟩=some (.slice p c.L.length cap):=by simp [World.cell?,e0]
   have f2:w4.frozen? ⟨w.heap.size,2,none⟩=false:=by simp [World.frozen?,e0]
   have c3:w4.cell? ⟨w.heap.size,3,none⟩=some (.int .i64 num):=by simp [World.cell?,e0]
   have d3:w4.cell? ⟨w.heap.size+1,3,none⟩=some (.int .i64 0):=by simp [World.cell?,e1]
   have g3:w4.frozen? ⟨w.heap.size+1,3,none⟩=false:=by simp [World.frozen?,e1]
   have d0:w4.cell? ⟨w.heap.size+1,0,none⟩=some (.int .i64 0):=by simp [World.cell?,e1]
   have d1:w4.cell? ⟨w.heap.size+1,1,none⟩=some (.int .i64 0):=by simp [World.cell?,e1]
   have d2:w4.cell? ⟨w.heap.size+1,2,none⟩=some (.slice none 0 0):=by simp [World.cell?,e1]
   have g0:w4.frozen? ⟨w.heap.size+1,0,none⟩=false:=by simp [World.frozen?,e1]
   have g1:w4.frozen? ⟨w.heap.size+1,1,none⟩=false:=by simp [World.frozen?,e1]
   have g2:w4.frozen? ⟨w.heap.size+1,2,none⟩=false:=by simp [World.frozen?,e1]
   have hS4:w4.rowIs w2.heap.size 9 c.L.length (fun q=>.string (txt c.L q)):=hS.congr (fun q hq=>by rw [if_pos (by omega)])
   have hlt4:w2.heap.size < w4.heap.size:=hS4.lt
   have hBw:Below w.heap.size w w4:=HB2.out.trans (hB.mono HB2.out.size)
   have HFIN:Hid (∀ W:World,W.heap.size=w4.heap.size->(∀ k,k≠w.heap.size->k≠w.heap.size+1->W.heap[k]?=w4.heap[k]?)->Strs W (some ⟨w2.heap.size,0,none⟩) c.L):=fun W hsz hk=>by
    refine Or.inr ⟨w2.heap.size,0,rfl,by omega,fun j hj=>?_⟩
    rw [Nat.zero_add,World.cell?_of_block (a:=⟨w2.heap.size,j,none⟩) (hk w2.heap.size (by have:=HZ2.out;omega) (by have:=HZ2.out;omega))]
    exact hS4.cell hj
   have HBW:Hid (Below w.heap.size w w4):=hBw
   have HLE:Hid (w.heap.size<=w2.heap.size/\w2.heap.size < w4.heap.size):=⟨HB2.out.size,hlt4⟩
   have hnb:w.heap.size≠w.heap.size+1:=by omega
   clear hS hB hS4 e0 e1 hBw HS hmk HBK
   go_wp2
   refine bodyPost_ret (v:=.agg #[.int .i64 c.n,.int .i64 c.k,.slice (some ⟨w2.heap.size,0,none⟩) c.L.length c.L.length,.int .i64 num]) (by simp [results,Tryz.results75,go_sem,d0,d1,d2,d3]) rfl ⟨⟨w2.heap.size,rfl,?_,HLE.out.1,?_⟩,?_⟩
   ·refine HFIN.out _ (by simp [World.setCell]) fun k h1 h2=>?_
    simp [Below.heap_setCell,h1,h2]
   ·simpa [World.setCell] using HLE.out.2
   ·exact((((HBW.out.setCell (Nat.le_refl _) _).setCell (by show w.heap.size<=w.heap.size+1;omega) _).setCell (by show w.heap.size<=w.heap.size+1;omega) _).setCell (by show w.heap.size<=w.heap.size+1;omega) _).setCell (by show w.heap.size<=w.heap.size+1;omega) _
def enewF (f t:Cfg)(key:ByteArray)(op fn tn:Int):Int×Int:=if 0 < (cfgF f).1 then cfgF f else if 0 < (cfgF t).1 then cfgF t else if isN key=false then (4,-1) else if 0<=op/\0<=fn/\0<=tn then (0,-1) else (2,-1)
def zErr:Array Value:=#[.string ⟨#[]⟩,.string ⟨#[]⟩,.int .i64 0,.int .i64 0,.int .i64 0,.slice none 0 0,.int .i64 0,.string ⟨#[]⟩,.int .i64 0,.map none,.int .i64 0,.int .i64 0,.slice none 0 0,.int .i64 0,.int .i64 0,.int .i64 0,.slice none 0 0,.int .i64 0,.string ⟨#[]⟩,.nilFunc,.string ⟨#[]⟩,.int .i64 0,.int .i64 0,.string ⟨#[]⟩,.bool false]
def plCells (nm key:ByteArray)(op:Int)(f:Cfg)(fv:Value)(fn:Int)(t:Cfg)(tv:Value)(tn:Int)(asks told st:ByteArray)(cv:Value):Array Value:=#[.string nm,.string key,.int .i64 op,.int .i64 f.n,.int .i64 f.k,fv,.int .i64 fn,.int .i64 t.n,.int .i64 t.k,tv,.int .i64 tn,.string asks,.string told,.string st,cv]
theorem row_set {W:World}{b:Nat}{T:TypeId}{old:Array Value}(cells:Array Value)(hb:W.heap[b]?=some (.cells old T (0,0))):(W.setRow b cells).heap[b]?=some (.cells cells T (0,0))/\(W.setRow b cells).heap.size=W.heap.size/\(∀ k,k≠b->(W.setRow b cells).heap[k]?=W.heap[k]?)/\(W.setRow b cells).os=W.os/\(W.setRow b cells).tape=W.tape/\(W.setRow b cells).output=W.output:=by
 refine⟨?_,by simp [World.setRow],fun k hk=>?_,rfl,rfl,rfl⟩
 ·simp [World.setRow,Array.getElem?_modify,hb]
 ·have:b≠k:=fun e=>hk e.symm
  simp [World.setRow,Array.getElem?_modify,this]
theorem zErr_one:zErr.all (·.oneCell')=true:=by unfold zErr;simp [Value.oneCell']
theorem zErr_size:(Tryz.prog.info? 93).map (·.size)=some zErr.size:=by kernel_rfl
theorem wpList_store_all {P:Program}{ops:Array Oper}{rest:List Oper}{o:Oper}{a:Act}{w:World}{Q:Exit->Act->World->Prop}(hgd:o.guard=none)(ty:TypeId)(x y:Operand)(ho:o.op=.store ty x y)(g:Nat)(cells:Array Value)(hx:a.eval x=.pointer (some ⟨g,0,none⟩))(hy:a.eval y=.agg cells)(t:TypeId)(old:Array Value)(hg:w.heap[g]?=some (.cells old t (0,0)))(hi:(P.info? ty).map (·.size)=some cells.size)(hold:old.size=cells.size)(h1:cells.all (·.oneCell')=true)(h:wpList P ops Q rest (a.put o.dst undef) (w.setRow g cells)):wpList P ops Q (o :: rest) a w :=
 wpList_plain hgd fun _ hK=>wp_store_row ty x y ho g cells hx hy t old hg hi hold h1 (hK _ _ h)
theorem step_store_all {P:Program}{ops:Array Oper}{o:Oper}{a:Act}{w:World}{K:Act->World->Prop}{Q:Exit->Act->World->Prop}{E':Prop}(hgd:o.guard=none)(ty:TypeId)(x y:Operand)(ho:o.op=.store ty x y)(g:Nat)(cells:Array Value)(hx:a.eval x=.pointer (some ⟨g,0,none⟩))(hy:a.eval y=.agg cells)(t:TypeId)(old:Array Value)(hg:w.heap[g]?=some (.cells old t (0,0)))(hi:(P.info? ty).map (·.size)=some cells.size)(hold:old.size=cells.size)(h1:cells.all (·.oneCell')=true)(h:K (a.put o.dst undef) (w.setRow g cells)):if Region.wanted o (yielded ops a.tmps)=true then Oper.wp P o a w K Q else E':=by
 rw [if_pos (by simp [Region.wanted,hgd])]
 exact wp_store_row ty x y ho g cells hx hy t old hg hi hold h1 h
theorem res_two {P:Program}{T T':TypeId}{W:World}{b:Nat}{cells:Array Value}{tmps:Array Value}{fn:Func}{v:Value}{d:TypeDesc}(hr:fn.results=#[.cell 2 T,.tmp 3])(h2:tmps.getD 2 undef=.pointer (some ⟨b,0,none⟩))(h3:tmps.getD 3 undef=v)(hb:W.heap[b]?=some (.cells cells T' (0,0)))(hu:P.underlying T=some d)(hd:d.isRow=true)(hi:(P.info? T).map (·.size)=some cells.size):(results fn tmps).run P W=.ok (.tuple #[.agg cells,v]) W:=by
 have hl:=run_loadVar_mid (P:=P) W b 0 T cells.toList d (fun j u hu=>by rw [Nat.zero_add];simp [World.cell?,hb];simpa using hu) hu hd (by simpa using hi)
 unfold results
 rw [hr]
 simp only [Array.getD_eq_getD_getElem?] at h2 h3
 simp [h2,h3,asAddr,hl,Result.andThen]
theorem ErrIs.off {w w':World}{ad:Nat->Addr}{ev:Value}{c at_:Int}{b:Nat}{s:ByteArray}(h:ErrIs w ad ev c at_)(hs:w.cell? ⟨b,0,none⟩=Option.some (Value.string s))(hk:∀ k,k≠b->w'.heap[k]?=w.heap[k]?):ErrIs w' ad ev c at_:=by
 rcases h with h | h | ⟨i,fb,hi,he,hc,h0,h1⟩
 ·exact Or.inl h
 ·exact Or.inr (Or.inl h)
 ·have hne : fb ≠ b := fun e => by
   subst e
   rw [hs] at h0
   cases h0
  exact Or.inr (Or.inr ⟨i,fb,hi,he,hc,(World.cell?_of_block (a:=⟨fb,0,none⟩) (hk fb hne)).trans h0,(World.cell?_of_block (a:=⟨fb,1,none⟩) (hk fb hne)).trans h1⟩)
theorem lt_blk {W:World}{b:Nat}{o:Obj}(h:W.heap[b]?=some o):b < W.heap.size:=by
 rcases Nat.lt_or_ge b W.heap.size with h' | h'
 ·exact h'
 ·rw [Array.getElem?_eq_none h'] at h;cases h
structure PlAt (w W:World) (nm key:ByteArray) (op:Int) (f:Cfg) (p:Option Addr) (cap:Nat) (fn:Int) (t:Cfg) (q:Option Addr) (cap2:Nat) (tn:Int) (asks told st:ByteArray) (cv:Value):Prop where
 pl:W.heap[w.heap.size]?=some (.cells (plCells nm key op f (.slice p f.L.length cap) fn t (.slice q t.L.length cap2) tn asks told st cv) 104 (0,0))
 rs:W.heap[w.heap.size+1]?=some (.cells zErr 93 (0,0))
 be:Below w.heap.size w W
theorem PlAt.below {w W W':World}{nm key:ByteArray}{op:Int}{f:Cfg}{p:Option Addr}{cap:Nat}{fn:Int}{t:Cfg}{q:Option Addr}{cap2:Nat}{tn:Int}{asks told st:ByteArray}{cv:Value}(h:PlAt w W nm key op f p cap fn t q cap2 tn asks told st cv)(hb:Below W.heap.size W W'):PlAt w W' nm key op f p cap fn t q cap2 tn asks told st cv:=⟨(hb.block _ (lt_blk h.pl)).trans h.pl,(hb.block _ (lt_blk h.rs)).trans h.rs,h.be.trans (hb.mono h.be.size)⟩
theorem PlAt.start (w:World)(nm key:ByteArray)(op:Int)(f:Cfg)(p:Option Addr)(cap:Nat)(fn:Int)(t:Cfg)(q:Option Addr)(cap2:Nat)(tn:Int)(asks told st:ByteArray)(cv:Value):PlAt w ((w.alloc (.cells (plCells nm key op f (.slice p f.L.length cap) fn t (.slice q t.L.length cap2) tn asks told st cv) 104)).alloc (.cells zErr 93)) nm key op f p cap fn t q cap2 tn asks told st cv:=by
 have hz:(w.alloc (.cells (plCells nm key op f (.slice p f.L.length cap) fn t (.slice q t.L.length cap2) tn asks told st cv) 104)).heap.size=w.heap.size+1:=by simp
 refine⟨?_,?_,((Below.refl _ _).alloc (Nat.le_refl _) _).alloc (by simp) _⟩
 ·rw [Below.heap_alloc _ _ _ (by omega)]
  show(w.heap.push _)[w.heap.size]?=_
  simp
 ·rw [<- hz]
  generalize w.alloc _=w1
  show(w1.heap.push _)[w1.heap.size]?=_
  simp
theorem enew_f (ad:Nat->Addr)(nm key:ByteArray)(op:Int)(f t:Cfg)(fn tn:Int)(p q:Option Addr)(cap cap2:Nat)(asks told st:ByteArray)(cf:FuncId)(caps:Array Value)(w:World)(hcf:CfgAt w f p cap)(hE:ErrsQ w ad)(hp:0 < (cfgF f).1) :
 Calls Tryz.prog 52 #[.agg #[.string nm,.string key,.int .i64 op,.int .i64 f.n,.int .i64 f.k,.slice p f.L.length cap,.int .i64 fn,.int .i64 t.n,.int .i64 t.k,.slice q t.L.length cap2,.int .i64 tn,.string asks,.string told,.string st,.func (.func cf) #[] caps]] w fun e w'=>(∃ ev,e=.returned (.tuple #[.agg zErr,ev])/\ErrIs w' ad ev (cfgF f).1 (cfgF f).2)/\Below w.heap.size w w':=by
 obtain⟨w2,hw2⟩:∃ w2,w2=(w.alloc (.cells #[.string nm,.string key,.int .i64 op,.int .i64 f.n,.int .i64 f.k,.slice p f.L.length cap,.int .i64 fn,.int .i64 t.n,.int .i64 t.k,.slice q t.L.length cap2,.int .i64 tn,.string asks,.string told,.string st,.func (.func cf) #[] caps] 104)).alloc (.cells #[.string ⟨#[]⟩,.string ⟨#[]⟩,.int .i64 0,.int .i64 0,.int .i64 0,.slice none 0 0,.int .i64 0,.string ⟨#[]⟩,.int .i64 0,.map none,.int .i64 0,.int .i64 0,.slice none 0 0,.int .i64 0,.int .i64 0,.int .i64 0,.slice none 0 0,.int .i64 0,.string ⟨#[]⟩,.nilFunc,.string ⟨#[]⟩,.int .i64 0,.int .i64 0,.string ⟨#[]⟩,.bool false] 93):=⟨_,rfl⟩
 have hP2:PlAt w w2 nm key op f p cap fn t q cap2 tn asks told st (.func (.func cf) #[] caps):=by rw [hw2];exact PlAt.start w nm key op f p cap fn t q cap2 tn asks told st (.func (.func cf) #[] caps)
 have c3:=(blk_cell hP2.pl 3).1
 have c4:=(blk_cell hP2.pl 4).1
 have c5:=(blk_cell hP2.pl 5).1
 unfold plCells at c3 c4 c5
 have HCK:=qcheck_any ad f p cap w2 (hcf.below hP2.be) (hE.below hP2.be)
 unfold cfgA at HCK
 have HW2:Hid (w2=(w.alloc (.cells #[.string nm,.string key,.int .i64 op,.int .i64 f.n,.int .i64 f.k,.slice p f.L.length cap,.int .i64 fn,.int .i64 t.n,.int .i64 t.k,.slice q t.L.length cap2,.int .i64 tn,.string asks,.string told,.string st,.func (.func cf) #[] caps] 104)).alloc (.cells #[.string ⟨#[]⟩,.string ⟨#[]⟩,.int .i64 0,.int .i64 0,.int .i64 0,.slice none 0 0,.int .i64 0,.string ⟨#[]⟩,.int .i64 0,.map none,.int .i64 0,.int .i64 0,.slice none 0 0,.int .i64 0,.int .i64 0,.int .i64 0,.slice none 0 0,.int .i64 0,.string ⟨#[]⟩,.nilFunc,.string ⟨#[]⟩,.int .i64 0,.int .i64 0,.string ⟨#[]⟩,.bool false] 93)):=hw2
 have HP2:Hid (PlAt w w2 nm key op f p cap fn t q cap2 tn asks told st (.func (.func cf) #[] caps)):=hP2
 have HPP:Hid (0 < (cfgF f).1):=hp
 clear hw2 hP2 hcf hE hp
 generalize cfgF f=R at *
 go_enter Tryz.func52,Tryz.ntmps52
 go_wp2_with (first | rw [<- HW2.out] | fail)
 refine HCK.mono ?_
 rintro e w3 ⟨⟨ev,rfl,hev⟩,hb3⟩
 have HP3:Hid (PlAt w w3 nm key op f p cap fn t q cap2 tn asks told st (.func (.func cf) #[] caps)):=HP2.out.below hb3
 obtain⟨et,eu,rfl⟩:=hev.some HPP.out
 obtain⟨r1,r2,r3,r4,r5,r6⟩:=row_set zErr HP3.out.rs
 obtain⟨w4,hw4⟩:∃ w4,w4=w3.setRow (w.heap.size+1) zErr:=⟨_,rfl⟩
 rw [<- hw4] at r1 r2 r3 r4 r5 r6
 have HR1:Hid (w4.heap[w.heap.size+1]?=some (.cells zErr 93 (0,0))):=r1
 have HEV:Hid (ErrIs w4 ad (.iface et eu) R.1 R.2):=hev.off (blk_cell HP3.out.rs 0).1 r3
 have HW4:Hid (w4=w3.setRow (w.heap.size+1) zErr):=hw4
 have HBF:Hid (Below w.heap.size w w4):=⟨r4.trans HP3.out.be.os,r5.trans HP3.out.be.tape,r6.trans HP3.out.be.output,by rw [r2];exact HP3.out.be.size,fun k hk=>(r3 k (by omega)).trans (HP3.out.be.block k hk)⟩
 clear hev hb3 HCK c3 c4 c5 hw4 r1 r2 r3 r4 r5 r6
 go_wp2_with (first | (refine wpList_store_all rfl 93 (.tmp 2) (.tmp 13) rfl (w.heap.size+1) zErr (by simp [Act.eval]) (by simp [Act.eval,zErr]) 93 zErr HP3.out.rs zErr_size rfl zErr_one ?_;rw [<- HW4.out]) | fail)
 refine bodyPost_ret (v:=.tuple #[.agg zErr,.iface et eu]) (res_two Tryz.results52 rfl rfl HR1.out Tryz.underlying93 rfl zErr_size) rfl ⟨⟨_,rfl,HEV.out⟩,HBF.out⟩
theorem enew_t (ad:Nat->Addr)(nm key:ByteArray)(op:Int)(f t:Cfg)(fn tn:Int)(p q:Option Addr)(cap cap2:Nat)(asks told st:ByteArray)(cf:FuncId)(caps:Array Value)(w:World)(hcf:CfgAt w f p cap)(hct:CfgAt w t q cap2)(hE:ErrsQ w ad)(hf:¬ 0 < (cfgF f).1)(ht:0 < (cfgF t).1) :
 Calls Tryz.prog 52 #[.agg #[.string nm,.string key,.int .i64 op,.int .i64 f.n,.int .i64 f.k,.slice p f.L.length cap,.int .i64 fn,.int .i64 t.n,.int .i64 t.k,.slice q t.L.length cap2,.int .i64 tn,.string asks,.string told,.string st,.func (.func cf) #[] caps]] w fun e w'=>(∃ ev,e=.returned (.tuple #[.agg zErr,ev])/\ErrIs w' ad ev (cfgF t).1 (cfgF t).2)/\Below w.heap.size w w':=by
 obtain⟨w2,hw2⟩:∃ w2,w2=(w.alloc (.cells #[.string nm,.string key,.int .i64 op,.int .i64 f.n,.int .i64 f.k,.slice p f.L.length cap,.int .i64 fn,.int .i64 t.n,.int .i64 t.k,.slice q t.L.length cap2,.int .i64 tn,.string asks,.string told,.string st,.func (.func cf) #[] caps] 104)).alloc (.cells #[.string ⟨#[]⟩,.string ⟨#[]⟩,.int .i64 0,.int .i64 0,.int .i64 0,.slice none 0 0,.int .i64 0,.string ⟨#[]⟩,.int .i64 0,.map none,.int .i64 0,.int .i64 0,.slice none 0 0,.int .i64 0,.int .i64 0,.int .i64 0,.slice none 0 0,.int .i64 0,.string ⟨#[]⟩,.nilFunc,.string ⟨#[]⟩,.int .i64 0,.int .i64 0,.string ⟨#[]⟩,.bool false] 93):=⟨_,rfl⟩
 have hP2:PlAt w w2 nm key op f p cap fn t q cap2 tn asks told st (.func (.func cf) #[] caps):=by rw [hw2];exact PlAt.start w nm key op f p cap fn t q cap2 tn asks told st (.func (.func cf) #[] caps)
 have c3:=(blk_cell hP2.pl 3).1
 have c4:=(blk_cell hP2.pl 4).1
 have c5:=(blk_cell hP2.pl 5).1
 unfold plCells at c3 c4 c5
 have HCK:=qcheck_any ad f p cap w2 (hcf.below hP2.be) (hE.below hP2.be)
 unfold cfgA at HCK
 rw [(cfgF_fine hf).2.2.1] at HCK
 have HCT:Hid (∀ W,Below w.heap.size w W->Calls Tryz.prog 73 #[.agg #[.int .i64 t.n,.int .i64 t.k,.slice q t.L.length cap2]] W fun e w'=>(∃ ev,e=.returned ev/\ErrIs w' ad ev (cfgF t).1 (cfgF t).2)/\Below W.heap.size W w'):=fun W hW=>qcheck_any ad t q cap2 W (hct.below hW) (hE.below hW)
 have HER:Hid (ErrsQ w ad):=hE
 have HNM:Hid (∀ W,Calls Tryz.prog 74 #[.string key] W fun e w'=>e=.returned (.bool (isN key))/\Below W.heap.size W w'):=fun W=>pname_any key W
 have HW2:Hid (w2=(w.alloc (.cells #[.string nm,.string key,.int .i64 op,.int .i64 f.n,.int .i64 f.k,.slice p f.L.length cap,.int .i64 fn,.int .i64 t.n,.int .i64 t.k,.slice q t.L.length cap2,.int .i64 tn,.string asks,.string told,.string st,.func (.func cf) #[] caps] 104)).alloc (.cells #[.string ⟨#[]⟩,.string ⟨#[]⟩,.int .i64 0,.int .i64 0,.int .i64 0,.slice none 0 0,.int .i64 0,.string ⟨#[]⟩,.int .i64 0,.map none,.int .i64 0,.int .i64 0,.slice none 0 0,.int .i64 0,.int .i64 0,.int .i64 0,.slice none 0 0,.int .i64 0,.string ⟨#[]⟩,.nilFunc,.string ⟨#[]⟩,.int .i64 0,.int .i64 0,.string ⟨#[]⟩,.bool false] 93)):=hw2
 have HP2:Hid (PlAt w w2 nm key op f p cap fn t q cap2 tn asks told st (.func (.func cf) #[] caps)):=hP2
 have HPP:Hid (0 < (cfgF t).1):=ht
 clear hw2 hP2 hcf hct hE ht hf HNM HER
 generalize cfgF t=R at *
 go_enter Tryz.func52,Tryz.ntmps52
 go_wp2_with (first | rw [<- HW2.out] | fail)
 refine HCK.mono ?_
 rintro e w3 ⟨⟨ev,rfl,hev⟩,hb3⟩
 obtain rfl:=ErrIs.isNil hev
 have HP3:Hid (PlAt w w3 nm key op f p cap fn t q cap2 tn asks told st (.func (.func cf) #[] caps)):=HP2.out.below hb3
 have HCU:=HCT.out w3 HP3.out.be
 have d7:=(blk_cell HP3.out.pl 7).1
 have d8:=(blk_cell HP3.out.pl 8).1
 have d9:=(blk_cell HP3.out.pl 9).1
 unfold plCells at d7 d8 d9
 clear hev hb3 HCK HCT c3 c4 c5
 go_wp2_with fail
 refine HCU.mono ?_
 rintro e w4 ⟨⟨ev,rfl,hev⟩,hb4⟩
 have HP4:Hid (PlAt w w4 nm key op f p cap fn t q cap2 tn asks told st (.func (.func cf) #[] caps)):=HP3.out.below hb4
 obtain⟨et,eu,rfl⟩:=hev.some HPP.out
 obtain⟨r1,r2,r3,r4,r5,r6⟩:=row_set zErr HP4.out.rs
 obtain⟨wz,hwz⟩:∃ wz,wz=w4.setRow (w.heap.size+1) zErr:=⟨_,rfl⟩
 rw [<- hwz] at r1 r2 r3 r4 r5 r6
 have HR1:Hid (wz.heap[w.heap.size+1]?=some (.cells zErr 93 (0,0))):=r1
 have HEV:Hid (ErrIs wz ad (.iface et eu) _ _):=hev.off (blk_cell HP4.out.rs 0).1 r3
 have HWZ:Hid (wz=w4.setRow (w.heap.size+1) zErr):=hwz
 have HBF:Hid (Below w.heap.size w wz):=⟨r4.trans HP4.out.be.os,r5.trans HP4.out.be.tape,r6.trans HP4.out.be.output,by rw [r2];exact HP4.out.be.size,fun k hk=>(r3 k (by omega)).trans (HP4.out.be.block k hk)⟩
 clear hev hb4 HCU d7 d8 d9 hwz r1 r2 r3 r4 r5 r6
 go_wp2_with (first | (refine wpList_store_all rfl 93 (.tmp 2) (.tmp 21) rfl (w.heap.size+1) zErr (by simp [Act.eval]) (by simp [Act.eval,zErr]) 93 zErr HP4.out.rs zErr_size rfl zErr_one ?_;rw [<- HWZ.out]) | fail)
 refine bodyPost_ret (v:=.tuple #[.agg zErr,.iface et eu]) (res_two Tryz.results52 rfl rfl HR1.out Tryz.underlying93 rfl zErr_size) rfl ⟨⟨_,rfl,HEV.out⟩,HBF.out⟩
theorem enew_k (ad:Nat->Addr)(nm key:ByteArray)(op:Int)(f t:Cfg)(fn tn:Int)(p q:Option Addr)(cap cap2:Nat)(asks told st:ByteArray)(cf:FuncId)(caps:Array Value)(w:World)(hcf:CfgAt w f p cap)(hct:CfgAt w t q cap2)(hE:ErrsQ w ad)(hf:¬ 0 < (cfgF f).1)(ht:¬ 0 < (cfgF t).1)(hk:isN key=false) :
 Calls Tryz.prog 52 #[.agg #[.string nm,.string key,.int .i64 op,.int .i64 f.n,.int .i64 f.k,.slice p f.L.length cap,.int .i64 fn,.int .i64 t.n,.int .i64 t.k,.slice q t.L.length cap2,.int .i64 tn,.string asks,.string told,.string st,.func (.func cf) #[] caps]] w fun e w'=>(∃ ev,e=.returned (.tuple #[.agg zErr,ev])/\ErrIs w' ad ev 4 (-1))/\Below w.heap.size w w':=by
 obtain⟨w2,hw2⟩:∃ w2,w2=(w.alloc (.cells #[.string nm,.string key,.int .i64 op,.int .i64 f.n,.int .i64 f.k,.slice p f.L.length cap,.int .i64 fn,.int .i64 t.n,.int .i64 t.k,.slice q t.L.length cap2,.int .i64 tn,.string asks,.string told,.string st,.func (.func cf) #[] caps] 104)).alloc (.cells #[.string ⟨#[]⟩,.string ⟨#[]⟩,.int .i64 0,.int .i64 0,.int .i64 0,.slice none 0 0,.int .i64 0,.string ⟨#[]⟩,.int .i64 0,.map none,.int .i64 0,.int .i64 0,.slice none 0 0,.int .i64 0,.int .i64 0,.int .i64 0,.slice none 0 0,.int .i64 0,.string ⟨#[]⟩,.nilFunc,.string ⟨#[]⟩,.int .i64 0,.int .i64 0,.string ⟨#[]⟩,.bool false] 93):=⟨_,rfl⟩
 have hP2:PlAt w w2 nm key op f p cap fn t q cap2 tn asks told st (.func (.func cf) #[] caps):=by rw [hw2];exact PlAt.start w nm key op f p cap fn t q cap2 tn asks told st (.func (.func cf) #[] caps)
 have c3:=(blk_cell hP2.pl 3).1
 have c4:=(blk_cell hP2.pl 4).1
 have c5:=(blk_cell hP2.pl 5).1
 unfold plCells at c3 c4 c5
 have HCK:=qcheck_any ad f p cap w2 (hcf.below hP2.be) (hE.below hP2.be)
 unfold cfgA at HCK
 rw [(cfgF_fine hf).2.2.1] at HCK
 have HCT:Hid (∀ W,Below w.heap.size w W->Calls Tryz.prog 73 #[.agg #[.int .i64 t.n,.int .i64 t.k,.slice q t.L.length cap2]] W fun e w'=>(∃ ev,e=.returned ev/\ErrIs w' ad ev (cfgF t).1 (cfgF t).2)/\Below W.heap.size W w'):=fun W hW=>qcheck_any ad t q cap2 W (hct.below hW) (hE.below hW)
 have HER:Hid (ErrsQ w ad):=hE
 have HNM:Hid (∀ W,Calls Tryz.prog 74 #[.string key] W fun e w'=>e=.returned (.bool (isN key))/\Below W.heap.size W w'):=fun W=>pname_any key W
 have HW2:Hid (w2=(w.alloc (.cells #[.string nm,.string key,.int .i64 op,.int .i64 f.n,.int .i64 f.k,.slice p f.L.length cap,.int .i64 fn,.int .i64 t.n,.int .i64 t.k,.slice q t.L.length cap2,.int .i64 tn,.string asks,.string told,.string st,.func (.func cf) #[] caps] 104)).alloc (.cells #[.string ⟨#[]⟩,.string ⟨#[]⟩,.int .i64 0,.int .i64 0,.int .i64 0,.slice none 0 0,.int .i64 0,.string ⟨#[]⟩,.int .i64 0,.map none,.int .i64 0,.int .i64 0,.slice none 0 0,.int .i64 0,.int .i64 0,.int .i64 0,.slice none 0 0,.int .i64 0,.string ⟨#[]⟩,.nilFunc,.string ⟨#[]⟩,.int .i64 0,.int .i64 0,.string ⟨#[]⟩,.bool false] 93)):=hw2
 have HP2:Hid (PlAt w w2 nm key op f p cap fn t q cap2 tn asks told st (.func (.func cf) #[] caps)):=hP2
 have HTF:Hid (cfgF t=(0,-1)):=(cfgF_fine ht).2.2.1
 rw [hk] at HNM
 clear hw2 hP2 hcf hct hE ht hf hk
 go_enter Tryz.func52,Tryz.ntmps52
 go_wp2_with (first | rw [<- HW2.out] | fail)
 refine HCK.mono ?_
 rintro e w3 ⟨⟨ev,rfl,hev⟩,hb3⟩
 obtain rfl:=ErrIs.isNil hev
 have HP3:Hid (PlAt w w3 nm key op f p cap fn t q cap2 tn asks told st (.func (.func cf) #[] caps)):=HP2.out.below hb3
 have HCU:=HCT.out w3 HP3.out.be
 have d7:=(blk_cell HP3.out.pl 7).1
 have d8:=(blk_cell HP3.out.pl 8).1
 have d9:=(blk_cell HP3.out.pl 9).1
 unfold plCells at d7 d8 d9
 clear hev hb3 HCK HCT c3 c4 c5
 go_wp2_with fail
 refine HCU.mono ?_
 rintro e w4 ⟨⟨ev,rfl,hev⟩,hb4⟩
 rw [HTF.out] at hev
 obtain rfl:=ErrIs.isNil hev
 have HP4:Hid (PlAt w w4 nm key op f p cap fn t q cap2 tn asks told st (.func (.func cf) #[] caps)):=HP3.out.below hb4
 have e1:=(blk_cell HP4.out.pl 1).1
 unfold plCells at e1
 clear hev hb4 HCU d7 d8 d9
 go_wp2_with fail
 refine(HNM.out _).mono ?_
 rintro e w5 ⟨rfl,hb5⟩
 have HP5:Hid (PlAt w w5 nm key op f p cap fn t q cap2 tn asks told st (.func (.func cf) #[] caps)):=HP4.out.below hb5
 have hez:=(HER.out.below HP5.out.be).c3
 have HP6:Hid (PlAt w w5.drew nm key op f p cap fn t q cap2 tn asks told st (.func (.func cf) #[] caps)):=HP5.out.below (Below.refl _ _).drew
 obtain⟨r1,r2,r3,r4,r5,r6⟩:=row_set zErr HP6.out.rs
 obtain⟨wz,hwz⟩:∃ wz,wz=w5.drew.setRow (w.heap.size+1) zErr:=⟨_,rfl⟩
 rw [<- hwz] at r1 r2 r3 r4 r5 r6
 have HR1:Hid (wz.heap[w.heap.size+1]?=some (.cells zErr 93 (0,0))):=r1
 have HEV:Hid (ErrIs wz ad (.iface 252 (.pointer (some (ad 3)))) _ _):=ErrIs.sent 3 (by decide)
 have HGZ:Hid (wz.cell? ⟨3,0,none⟩=some (.iface 252 (.pointer (some (ad 3))))):=(World.cell?_of_block (a:=⟨3,0,none⟩) (r3 _ (by show 3≠_;have:=lt_cellE (HER.out.c3);omega))).trans hez
 have HWZ:Hid (wz=w5.drew.setRow (w.heap.size+1) zErr):=hwz
 have HBF:Hid (Below w.heap.size w wz):=⟨r4.trans HP6.out.be.os,r5.trans HP6.out.be.tape,r6.trans HP6.out.be.output,by rw [r2];exact HP6.out.be.size,fun k hk=>(r3 k (by omega)).trans (HP6.out.be.block k hk)⟩
 clear hb5 e1 hwz r1 r2 r3 r4 r5 r6
 go_wp2
 refine wp_region_held_drew (S:=fun W=>W.cell? ⟨3,0,none⟩=some (.iface 252 (.pointer (some (ad 3))))) (by kernel_rfl) hez (fun hHeld=>?_)
 refine wpAnyH_take (i:=0) (oi:={ dst:=some 27,op:=Op.build 93 #[],type:=93,pos := "errand.go:65",after:=#[],guard:=none }) (v:=?_) rfl (by kernel_rfl) (by kernel_rfl) (by kernel_rfl) (fun _ _ _ h=>h) (Or.inl ⟨by rfl,?_⟩) hHeld ?_
 rotate_left
 ·(intro w hSw;(try dsimp only at hSw);go_simp;try with_reducible rfl)
 try simp only [Act.put,sA,sZ,sS]
 refine wpAnyH_take (i:=1) (oi:={ dst:=some 28,op:=Op.load 33 (Operand.global 3),type:=33,pos := "errand.go:65",after:=#[{ on:=2,ground:=Ground.gcOnly Departure.lateStores }],guard:=none }) (v:=?_) rfl (by kernel_rfl) (by kernel_rfl) (by kernel_rfl) (fun _ _ _ h=>h) (Or.inl ⟨by rfl,?_⟩) hHeld ?_
 rotate_left
 ·(intro w hSw;(try dsimp only at hSw);go_simp;try with_reducible rfl)
 try simp only [Act.put,sA,sZ,sS]
 refine wpAnyH_ready (rs:=[2]) (by kernel_rfl) (by simp) ?_
 refine AllReadyH.cons (o:={ dst:=none,op:=Op.store 93 (Operand.tmp 2) (Operand.tmp 27),type:=0,pos := "errand.go:65",after:=#[{ on:=0,ground:=Ground.data },{ on:=0,ground:=Ground.phase },{ on:=1,ground:=Ground.textOnly Departure.lateStores }],guard:=none }) rfl (fun K hK=>?_) AllReadyH.nil
 refine step_store_all rfl 93 (.tmp 2) (.tmp 27) rfl (w.heap.size+1) zErr (by simp [Act.eval]) (by simp [Act.eval,zErr]) 93 zErr HP6.out.rs zErr_size rfl zErr_one ?_
 rw [<- HWZ.out]
 refine hK.out _ _ ?_ (fun hHeld=>?_)
 ·exact HGZ.out
 clear hK K
 try simp only [Act.put]
 refine wpAnyH_take (i:=3) (oi:={ dst:=some 3,op:=Op.assign (Operand.tmp 28),type:=33,pos := "errand.go:65",after:=#[{ on:=1,ground:=Ground.data },{ on:=2,ground:=Ground.chain },{ on:=0,ground:=Ground.phase },{ on:=1,ground:=Ground.phase },{ on:=2,ground:=Ground.phase }],guard:=none }) (v:=?_) rfl (by kernel_rfl) (by kernel_rfl) (by kernel_rfl) (fun _ _ _ h=>h) (Or.inl ⟨by rfl,?_⟩) hHeld ?_
 rotate_left
 ·(intro w hSw;(try dsimp only at hSw);go_simp;try with_reducible rfl)
 try simp only [Act.put,sA,sZ,sS]
 refine wpAnyH_done (by kernel_rfl) ?_ _
 go_wp2
 refine bodyPost_ret (v:=.tuple #[.agg zErr,.iface 252 (.pointer (some (ad 3)))]) (res_two Tryz.results52 rfl rfl HR1.out Tryz.underlying93 rfl zErr_size) rfl ⟨⟨_,rfl,HEV.out⟩,HBF.out⟩
theorem enew_b (ad:Nat->Addr)(nm key:ByteArray)(op:Int)(f t:Cfg)(fn tn:Int)(p q:Option Addr)(cap cap2:Nat)(asks told st:ByteArray)(cf:FuncId)(caps:Array Value)(w:World)(hcf:CfgAt w f p cap)(hct:CfgAt w t q cap2)(hE:ErrsQ w ad)(hf:¬ 0 < (cfgF f).1)(ht:¬ 0 < (cfgF t).1)(hk:isN key=true)(hbd:op < 0∨fn < 0∨tn < 0) :
 Calls Tryz.prog 52 #[.agg #[.string nm,.string key,.int .i64 op,.int .i64 f.n,.int .i64 f.k,.slice p f.L.length cap,.int .i64 fn,.int .i64 t.n,.int .i64 t.k,.slice q t.L.length cap2,.int .i64 tn,.string asks,.string told,.string st,.func (.func cf) #[] caps]] w fun e w'=>(∃ ev,e=.returned (.tuple #[.agg zErr,ev])/\ErrIs w' ad ev 2 (-1))/\Below w.heap.size w w':=by
 obtain⟨w2,hw2⟩:∃ w2,w2=(w.alloc (.cells #[.string nm,.string key,.int .i64 op,.int .i64 f.n,.int .i64 f.k,.slice p f.L.length cap,.int .i64 fn,.int .i64 t.n,.int .i64 t.k,.slice q t.L.length cap2,.int .i64 tn,.string asks,.string told,.string st,.func (.func cf) #[] caps] 104)).alloc (.cells #[.string ⟨#[]⟩,.string ⟨#[]⟩,.int .i64 0,.int .i64 0,.int .i64 0,.slice none 0 0,.int .i64 0,.string ⟨#[]⟩,.int .i64 0,.map none,.int .i64 0,.int .i64 0,.slice none 0 0,.int .i64 0,.int .i64 0,.int .i64 0,.slice none 0 0,.int .i64 0,.string ⟨#[]⟩,.nilFunc,.string ⟨#[]⟩,.int .i64 0,.int .i64 0,.string ⟨#[]⟩,.bool false] 93):=⟨_,rfl⟩
 have hP2:PlAt w w2 nm key op f p cap fn t q cap2 tn asks told st (.func (.func cf) #[] caps):=by rw [hw2];exact PlAt.start w nm key op f p cap fn t q cap2 tn asks told st (.func (.func cf) #[] caps)
 have c3:=(blk_cell hP2.pl 3).1
 have c4:=(blk_cell hP2.pl 4).1
 have c5:=(blk_cell hP2.pl 5).1
 unfold plCells at c3 c4 c5
 have HCK:=qcheck_any ad f p cap w2 (hcf.below hP2.be) (hE.below hP2.be)
 unfold cfgA at HCK
 rw [(cfgF_fine hf).2.2.1] at HCK
 have HCT:Hid (∀ W,Below w.heap.size w W->Calls Tryz.prog 73 #[.agg #[.int .i64 t.n,.int .i64 t.k,.slice q t.L.length cap2]] W fun e w'=>(∃ ev,e=.returned ev/\ErrIs w' ad ev (cfgF t).1 (cfgF t).2)/\Below W.heap.size W w'):=fun W hW=>qcheck_any ad t q cap2 W (hct.below hW) (hE.below hW)
 have HER:Hid (ErrsQ w ad):=hE
 have HNM:Hid (∀ W,Calls Tryz.prog 74 #[.string key] W fun e w'=>e=.returned (.bool (isN key))/\Below W.heap.size W w'):=fun W=>pname_any key W
 have HW2:Hid (w2=(w.alloc (.cells #[.string nm,.string key,.int .i64 op,.int .i64 f.n,.int .i64 f.k,.slice p f.L.length cap,.int .i64 fn,.int .i64 t.n,.int .i64 t.k,.slice q t.L.length cap2,.int .i64 tn,.string asks,.string told,.string st,.func (.func cf) #[] caps] 104)).alloc (.cells #[.string ⟨#[]⟩,.string ⟨#[]⟩,.int .i64 0,.int .i64 0,.int .i64 0,.slice none 0 0,.int .i64 0,.string ⟨#[]⟩,.int .i64 0,.map none,.int .i64 0,.int .i64 0,.slice none 0 0,.int .i64 0,.int .i64 0,.int .i64 0,.slice none 0 0,.int .i64 0,.string ⟨#[]⟩,.nilFunc,.string ⟨#[]⟩,.int .i64 0,.int .i64 0,.string ⟨#[]⟩,.bool false] 93)):=hw2
 have HP2:Hid (PlAt w w2 nm key op f p cap fn t q cap2 tn asks told st (.func (.func cf) #[] caps)):=hP2
 have HTF:Hid (cfgF t=(0,-1)):=(cfgF_fine ht).2.2.1
 rw [hk] at HNM
 clear hw2 hP2 hcf hct hE ht hf hk
 go_enter Tryz.func52,Tryz.ntmps52
 go_wp2_with (first | rw [<- HW2.out] | fail)
 refine HCK.mono ?_
 rintro e w3 ⟨⟨ev,rfl,hev⟩,hb3⟩
 obtain rfl:=ErrIs.isNil hev
 have HP3:Hid (PlAt w w3 nm key op f p cap fn t q cap2 tn asks told st (.func (.func cf) #[] caps)):=HP2.out.below hb3
 have HCU:=HCT.out w3 HP3.out.be
 have d7:=(blk_cell HP3.out.pl 7).1
 have d8:=(blk_cell HP3.out.pl 8).1
 have d9:=(blk_cell HP3.out.pl 9).1
 unfold plCells at d7 d8 d9
 clear hev hb3 HCK HCT c3 c4 c5
 go_wp2_with fail
 refine HCU.mono ?_
 rintro e w4 ⟨⟨ev,rfl,hev⟩,hb4⟩
 rw [HTF.out] at hev
 obtain rfl:=ErrIs.isNil hev
 have HP4:Hid (PlAt w w4 nm key op f p cap fn t q cap2 tn asks told st (.func (.func cf) #[] caps)):=HP3.out.below hb4
 have e1:=(blk_cell HP4.out.pl 1).1
 unfold plCells at e1
 clear hev hb4 HCU d7 d8 d9
 go_wp2_with fail
 refine(HNM.out _).mono ?_
 rintro e w5 ⟨rfl,hb5⟩
 have HP5:Hid (PlAt w w5 nm key op f p cap fn t q cap2 tn asks told st (.func (.func cf) #[] caps)):=HP4.out.below hb5
 have e2:=(blk_cell HP5.out.pl 2).1
 have e6:=(blk_cell HP5.out.pl 6).1
 have e10:=(blk_cell HP5.out.pl 10).1
 unfold plCells at e2 e6 e10
 have hez:=(HER.out.below HP5.out.be).c1
 have HP6:Hid (PlAt w w5.drew nm key op f p cap fn t q cap2 tn asks told st (.func (.func cf) #[] caps)):=HP5.out.below (Below.refl _ _).drew
 obtain⟨r1,r2,r3,r4,r5,r6⟩:=row_set zErr HP6.out.rs
 obtain⟨wz,hwz⟩:∃ wz,wz=w5.drew.setRow (w.heap.size+1) zErr:=⟨_,rfl⟩
 rw [<- hwz] at r1 r2 r3 r4 r5 r6
 have HR1:Hid (wz.heap[w.heap.size+1]?=some (.cells zErr 93 (0,0))):=r1
 have HEV:Hid (ErrIs wz ad (.iface 252 (.pointer (some (ad 1)))) _ _):=ErrIs.sent 1 (by decide)
 have HGZ:Hid (wz.cell? ⟨0,0,none⟩=some (.iface 252 (.pointer (some (ad 1))))):=(World.cell?_of_block (a:=⟨0,0,none⟩) (r3 _ (by show 0≠_;have:=lt_cellE (HER.out.c1);omega))).trans hez
 have HWZ:Hid (wz=w5.drew.setRow (w.heap.size+1) zErr):=hwz
 have HBF:Hid (Below w.heap.size w wz):=⟨r4.trans HP6.out.be.os,r5.trans HP6.out.be.tape,r6.trans HP6.out.be.output,by rw [r2];exact HP6.out.be.size,fun k hk=>(r3 k (by omega)).trans (HP6.out.be.block k hk)⟩
 clear hb5 e1 hwz r1 r2 r3 r4 r5 r6
 by_cases g1:op < 0
 ·have hd1:decide (op < 0)=true:=decide_eq_true g1
  clear hbd g1
  go_wp2
  refine wp_region_held_drew (S:=fun W=>W.cell? ⟨0,0,none⟩=some (.iface 252 (.pointer (some (ad 1))))) (by kernel_rfl) hez (fun hHeld=>?_)
  refine wpAnyH_take (i:=0) (oi:={ dst:=some 44,op:=Op.build 93 #[],type:=93,pos := "errand.go:68",after:=#[],guard:=none }) (v:=?_) rfl (by kernel_rfl) (by kernel_rfl) (by kernel_rfl) (fun _ _ _ h=>h) (Or.inl ⟨by rfl,?_⟩) hHeld ?_
  rotate_left
  ·(intro w hSw;(try dsimp only at hSw);go_simp;try with_reducible rfl)
  try simp only [Act.put,sA,sZ,sS]
  refine wpAnyH_take (i:=1) (oi:={ dst:=some 45,op:=Op.load 33 (Operand.global 0),type:=33,pos := "errand.go:68",after:=#[{ on:=2,ground:=Ground.gcOnly Departure.lateStores }],guard:=none }) (v:=?_) rfl (by kernel_rfl) (by kernel_rfl) (by kernel_rfl) (fun _ _ _ h=>h) (Or.inl ⟨by rfl,?_⟩) hHeld ?_
  rotate_left
  ·(intro w hSw;(try dsimp only at hSw);go_simp;try with_reducible rfl)
  try simp only [Act.put,sA,sZ,sS]
  refine wpAnyH_ready (rs:=[2]) (by kernel_rfl) (by simp) ?_
  refine AllReadyH.cons (o:={ dst:=none,op:=Op.store 93 (Operand.tmp 2) (Operand.tmp 44),type:=0,pos := "errand.go:68",after:=#[{ on:=0,ground:=Ground.data },{ on:=0,ground:=Ground.phase },{ on:=1,ground:=Ground.textOnly Departure.lateStores }],guard:=none }) rfl (fun K hK=>?_) AllReadyH.nil
  refine step_store_all rfl 93 (.tmp 2) (.tmp 44) rfl (w.heap.size+1) zErr (by simp [Act.eval]) (by simp [Act.eval,zErr]) 93 zErr HP6.out.rs zErr_size rfl zErr_one ?_
  rw [<- HWZ.out]
  refine hK.out _ _ ?_ (fun hHeld=>?_)
  ·exact HGZ.out
  clear hK K
  try simp only [Act.put]
  refine wpAnyH_take (i:=3) (oi:={ dst:=some 3,op:=Op.assign (Operand.tmp 45),type:=33,pos := "errand.go:68",after:=#[{ on:=1,ground:=Ground.data },{ on:=2,ground:=Ground.chain },{ on:=0,ground:=Ground.phase },{ on:=1,ground:=Ground.phase },{ on:=2,ground:=Ground.phase }],guard:=none }) (v:=?_) rfl (by kernel_rfl) (by kernel_rfl) (by kernel_rfl) (fun _ _ _ h=>h) (Or.inl ⟨by rfl,?_⟩) hHeld ?_
  rotate_left
  ·(intro w hSw;(try dsimp only at hSw);go_simp;try with_reducible rfl)
  try simp only [Act.put,sA,sZ,sS]
  refine wpAnyH_done (by kernel_rfl) ?_ _
  go_wp2
  refine bodyPost_ret (v:=.tuple #[.agg zErr,.iface 252 (.pointer (some (ad 1)))]) (res_two Tryz.results52 rfl rfl HR1.out Tryz.underlying93 rfl zErr_size) rfl ⟨⟨_,rfl,HEV.out⟩,HBF.out⟩
 ·have hd1:decide (op < 0)=false:=decide_eq_false g1
  by_cases g2:fn < 0
  ·have hd2:decide (fn < 0)=true:=decide_eq_true g2
   clear hbd g1 g2
   go_wp2
   refine wp_region_held_drew (S:=fun W=>W.cell? ⟨0,0,none⟩=some (.iface 252 (.pointer (some (ad 1))))) (by kernel_rfl) hez (fun hHeld=>?_)
   refine wpAnyH_take (i:=0) (oi:={ dst:=some 44,op:=Op.build 93 #[],type:=93,pos := "errand.go:68",after:=#[],guard:=none }) (v:=?_) rfl (by kernel_rfl) (by kernel_rfl) (by kernel_rfl) (fun _ _ _ h=>h) (Or.inl ⟨by rfl,?_⟩) hHeld ?_
   rotate_left
   ·(intro w hSw;(try dsimp only at hSw);go_simp;try with_reducible rfl)
   try simp only [Act.put,sA,sZ,sS]
   refine wpAnyH_take (i:=1) (oi:={ dst:=some 45,op:=Op.load 33 (Operand.global 0),type:=33,pos := "errand.go:68",after:=#[{ on:=2,ground:=Ground.gcOnly Departure.lateStores }],guard:=none }) (v:=?_) rfl (by kernel_rfl) (by kernel_rfl) (by kernel_rfl) (fun _ _ _ h=>h) (Or.inl ⟨by rfl,?_⟩) hHeld ?_
   rotate_left
   ·(intro w hSw;(try dsimp only at hSw);go_simp;try with_reducible rfl)
   try simp only [Act.put,sA,sZ,sS]
   refine wpAnyH_ready (rs:=[2]) (by kernel_rfl) (by simp) ?_
   refine AllReadyH.cons (o:={ dst:=none,op:=Op.store 93 (Operand.tmp 2) (Operand.tmp 44),type:=0,pos := "errand.go:68",after:=#[{ on:=0,ground:=Ground.data },{ on:=0,ground:=Ground.phase },{ on:=1,ground:=Ground.textOnly Departure.lateStores }],guard:=none }) rfl (fun K hK=>?_) AllReadyH.nil
   refine step_store_all rfl 93 (.tmp 2) (.tmp 44) rfl (w.heap.size+1) zErr (by simp [Act.eval]) (by simp [Act.eval,zErr]) 93 zErr HP6.out.rs zErr_size rfl zErr_one ?_
   rw [<- HWZ.out]
   refine hK.out _ _ ?_ (fun hHeld=>?_)
   ·exact HGZ.out
   clear hK K
   try simp only [Act.put]
   refine wpAnyH_take (i:=3) (oi:={ dst:=some 3,op:=Op.assign (Operand.tmp 45),type:=33,pos := "errand.go:68",after:=#[{ on:=1,ground:=Ground.data },{ on:=2,ground:=Ground.chain },{ on:=0,ground:=Ground.phase },{ on:=1,ground:=Ground.phase },{ on:=2,ground:=Ground.phase }],guard:=none }) (v:=?_) rfl (by kernel_rfl) (by kernel_rfl) (by kernel_rfl) (fun _ _ _ h=>h) (Or.inl ⟨by rfl,?_⟩) hHeld ?_
   rotate_left
   ·(intro w hSw;(try dsimp only at hSw);go_simp;try with_reducible rfl)
   try simp only [Act.put,sA,sZ,sS]
   refine wpAnyH_done (by kernel_rfl) ?_ _
   go_wp2
   refine bodyPost_ret (v:=.tuple #[.agg zErr,.iface 252 (.pointer (some (ad 1)))]) (res_two Tryz.results52 rfl rfl HR1.out Tryz.underlying93 rfl zErr_size) rfl ⟨⟨_,rfl,HEV.out⟩,HBF.out⟩
  ·have hd2:decide (fn < 0)=false:=decide_eq_false g2
   have hd3:decide (tn < 0)=true:=decide_eq_true (by omega)
   clear hbd g1 g2
   go_wp2
   refine wp_region_held_drew (S:=fun W=>W.cell? ⟨0,0,none⟩=some (.iface 252 (.pointer (some (ad 1))))) (by kernel_rfl) hez (fun hHeld=>?_)
   refine wpAnyH_take (i:=0) (oi:={ dst:=some 44,op:=Op.build 93 #[],type:=93,pos := "errand.go:68",after:=#[],guard:=none }) (v:=?_) rfl (by kernel_rfl) (by kernel_rfl) (by kernel_rfl) (fun _ _ _ h=>h) (Or.inl ⟨by rfl,?_⟩) hHeld ?_
   rotate_left
   ·(intro w hSw;(try dsimp only at hSw);go_simp;try with_reducible rfl)
   try simp only [Act.put,sA,sZ,sS]
   refine wpAnyH_take (i:=1) (oi:={ dst:=some 45,op:=Op.load 33 (Operand.global 0),type:=33,pos := "errand.go:68",after:=#[{ on:=2,ground:=Ground.gcOnly Departure.lateStores }],guard:=none }) (v:=?_) rfl (by kernel_rfl) (by kernel_rfl) (by kernel_rfl) (fun _ _ _ h=>h) (Or.inl ⟨by rfl,?_⟩) hHeld ?_
   rotate_left
   ·(intro w hSw;(try dsimp only at hSw);go_simp;try with_reducible rfl)
   try simp only [Act.put,sA,sZ,sS]
   refine wpAnyH_ready (rs:=[2]) (by kernel_rfl) (by simp) ?_
   refine AllReadyH.cons (o:={ dst:=none,op:=Op.store 93 (Operand.tmp 2) (Operand.tmp 44),type:=0,pos := "errand.go:68",after:=#[{ on:=0,ground:=Ground.data },{ on:=0,ground:=Ground.phase },{ on:=1,ground:=Ground.textOnly Departure.lateStores }],guard:=none }) rfl (fun K hK=>?_) AllReadyH.nil
   refine step_store_all rfl 93 (.tmp 2) (.tmp 44) rfl (w.heap.size+1) zErr (by simp [Act.eval]) (by simp [Act.eval,zErr]) 93 zErr HP6.out.rs zErr_size rfl zErr_one ?_
   rw [<- HWZ.out]
   refine hK.out _ _ ?_ (fun hHeld=>?_)
   ·exact HGZ.out
   clear hK K
   try simp only [Act.put]
   refine wpAnyH_take (i:=3) (oi:={ dst:=some 3,op:=Op.assign (Operand.tmp 45),type:=33,pos := "errand.go:68",after:=#[{ on:=1,ground:=Ground.data },{ on:=2,ground:=Ground.chain },{ on:=0,ground:=Ground.phase },{ on:=1,ground:=Ground.phase },{ on:=2,ground:=Ground.phase }],guard:=none }) (v:=?_) rfl (by kernel_rfl) (by kernel_rfl) (by kernel_rfl) (fun _ _ _ h=>h) (Or.inl ⟨by rfl,?_⟩) hHeld ?_
   rotate_left
   ·(intro w hSw;(try dsimp only at hSw);go_simp;try with_reducible rfl)
   try simp only [Act.put,sA,sZ,sS]
   refine wpAnyH_done (by kernel_rfl) ?_ _
   go_wp2
   refine bodyPost_ret (v:=.tuple #[.agg zErr,.iface 252 (.pointer (some (ad 1)))]) (res_two Tryz.results52 rfl rfl HR1.out Tryz.underlying93 rfl zErr_size) rfl ⟨⟨_,rfl,HEV.out⟩,HBF.out⟩
end Go.Proofs.YtmhoiodfppdlnaaGreatDoor
