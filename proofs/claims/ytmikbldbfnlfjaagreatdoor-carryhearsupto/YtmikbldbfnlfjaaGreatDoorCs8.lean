/- Texts laid together. -/
import Derived.Test.YtmikbldbfnlfjaaGreatDoorCs7
import Derived.Shelf.SlLaysE0
import Derived.Shelf.SlicesE.Clone
import Derived.Deep.RegionLaw
set_option maxRecDepth 10000
set_option maxHeartbeats 8000000
namespace Go.Proofs
open Go.Shelf
def Tryz.laysClone_ren : Go.Shelf.Ren := ⟨fun | 41 => 123 | n => n, fun | 22 => 55 | 23 => 76 | 4 => 4 | n => n, fun | n => n⟩
theorem Tryz.laysClone : Go.Proofs.SlLaysE0.n41 Tryz.prog Tryz.laysClone_ren := {
  mixed := by kernel_rfl
  f41 := ⟨Tryz.f123.name, by decide, Tryz.func123.trans (congrArg some (by kernel_rfl))⟩
  t4 := Tryz.underlying4
  a4 := Tryz.isAgg4
  z4 := Tryz.sizeOf4
  v4 := Tryz.zeroValue4
  t22 := Tryz.underlying55
  a22 := Tryz.isAgg55
  z22 := Tryz.sizeOf55
  v22 := Tryz.zeroValue55 }
open Go.RowKit in
/-- slices.Clone at versions. -/
theorem Tryz.slices_Clone (i0 : TypeInfo) (z : Value) (size bytes : Nat) (hi : Tryz.prog.info? 76 = some i0) (hz0 : i0.zero = some z) (hz1 : i0.size = size) (hz2 : i0.bytes = bytes) (hzs : z.cells.size = size) (hsz : 0 < size)
    (z23 : ∀ w, (Go.sizeOf 76).run Tryz.prog w = .ok size w) (b off n c : Nat) (news : List Value) (w : World) (hl : news.length = n * size) (hn : n ≤ maxLen) (hbig : n * bytes ≤ 140737488355328)
    (hc : ∀ j u, news[j]? = some u → w.cell? ⟨b, off + j, none⟩ = some u) (h1 : ∀ u ∈ news, u.oneCell' = true) :
    Calls Tryz.prog 123 #[.slice (some ⟨b, off, none⟩) n c] w fun e w' => ∃ v', e = .returned v' ∧ w'.ownsRow w.heap.size 76 size v' n news ∧ v' ≠ .slice none 0 0 ∧ Below w.heap.size w w' := AnyE.slices_Clone Tryz.laysClone i0 z size bytes hi hz0 hz1 hz2 hzs hsz z23 b off n c news w hl hn hbig hc h1
end Go.Proofs
namespace Go.Proofs.YtmikbldbfnlfjaaGreatDoor
open Go.RowKit
variable {w w' K J:World}{LL M L:List (List Yb)}{b i B n k:Nat}{a:Za}{α:Type}{q:Option Addr}{row:List Yb}{y v r:Value}{T E t:TypeId}{o:Oper}{j:List (Zb×Lv)}{ad:Nat->Addr}{m:Zb}{x:Zb×Lv}{Q:Exit->Act->World->Prop}{E':Prop}
def eU (w:World) (p:Option Addr) (LL:List (List Yb)):Prop :=
 LL=[]∨∃ b o,p=some ⟨b,o,none⟩/\b < w.heap.size/\∀ i,i < LL.length->∃ q c,w.cell? ⟨b,o+i,none⟩=some (.slice q (LL.getD i []).length c)/\Ql Ze w q (LL.getD i [])/\(LL.getD i []).length<=c/\(q=none->LL.getD i []=[]/\c=0)
theorem eU.below {p:Option Addr} (h:eU w p LL) (j:Below w.heap.size w w'):eU w' p LL:=by
 rcases h with h | ⟨b,o,D,y,G⟩
 ·exact Or.inl h
 ·refine Or.inr ⟨b,o,D,Nat.lt_of_lt_of_le y j.size,fun i I=>?_⟩
  obtain ⟨q,c,J,K,M,N⟩:=G i I
  exact ⟨q,c,(j.cell (p:=⟨b,o+i,none⟩) y).trans J,K.below j,M,N⟩
structure Qu (w:World) (b:Nat) (a:Int×Int):Prop where
 n:w.cell? ⟨b,0,none⟩=some (.int .i64 a.1)
 dT:w.cell? ⟨b,1,none⟩=some (.int .i64 a.2)
 f0:w.frozen? ⟨b,0,none⟩=false
 f1:w.frozen? ⟨b,1,none⟩=false
theorem Qu.below  {a:Int×Int} (h:Qu w b a) (y:Below w.heap.size w w'):Qu w' b a :=
 have j:=Zn h.n
 ⟨(y.cell (p:=⟨b,0,none⟩) j).trans h.n,(y.cell (p:=⟨b,1,none⟩) j).trans h.dT,(y.frozen (p:=⟨b,0,none⟩) j).trans h.f0,(y.frozen (p:=⟨b,1,none⟩) j).trans h.f1⟩
theorem Qu.set  {a:Int×Int} (h:Qu w b a) (x y:Int):Qu ((w.setCell ⟨b,0,none⟩ (.int .i64 x)).setCell ⟨b,1,none⟩ (.int .i64 y)) b (x,y):=by
 refine ⟨?_,?_,by simp [h.f0],by simp [h.f1]⟩
 ·rw [World.cell?_setCell_other _ _ _ _ (fun e=>by have j:(1:Nat)=0:=congrArg Addr.off e;omega)]
  exact World.cell?_setCell_same _ _ _ h.n
 ·refine World.cell?_setCell_same _ _ _ (u:=.int .i64 a.2) ?_
  rw [World.cell?_setCell_other _ _ _ _ (fun e=>by have j:(0:Nat)=1:=congrArg Addr.off e;omega)]
  exact h.dT
theorem Qu.alloc (w:World) (x y:Int) (T:TypeId):Qu (w.alloc (.cells #[.int .i64 x,.int .i64 y] T)) w.heap.size (x,y):=by
 exact ⟨by rw [World.cell?_alloc_at _ _ _ _ rfl];rfl,by rw [World.cell?_alloc_at _ _ _ _ rfl];rfl,World.frozen?_alloc_at _ _ _ _ rfl,World.frozen?_alloc_at _ _ _ _ rfl⟩
theorem JfJ  (j:i < LL.length):(LL.take (i+1)).flatten=(LL.take i).flatten ++ LL.getD i []:=by
 rw [List.take_succ_eq_append_getElem j,List.flatten_append,List.getD_eq_getElem?_getD,List.getElem?_eq_getElem j]
 simp
theorem OG (LL:List (List Yb)) (i:Nat):(LL.take i).flatten.length<=LL.flatten.length:=by
 have h:LL.flatten=(LL.take i).flatten ++ (LL.drop i).flatten:=by rw [<- List.flatten_append,List.take_append_drop]
 rw [h,List.length_append]
 omega
theorem Jcq (LL:List (List Yb)) (j:i < LL.length):(LL.take i).flatten.length+(LL.getD i []).length<=LL.flatten.length:=by
 have h:=OG LL (i+1)
 rw [JfJ j,List.length_append] at h
 exact h
theorem Jcj (n k:Nat) (p0:Option Addr) (l0 c0:Nat) (p:Option Addr) (LL:List (List Yb)) (m9:Nat) (w:World) (e5:1<=k) (k6:k<=n) (hn:n<=12) (hl:LL.length<=1000) (n0:LL.flatten.length<=1000) (hL:eU w p LL) :
 Calls Tryz.prog 48 #[.agg #[.int .i64 (n:Int),.int .i64 (k:Int),.slice p0 l0 c0],.slice p LL.length m9] w fun e w'=>e=.returned (.tuple #[.agg #[.int .i64 (Ys n k LL.flatten LL.flatten).1.1,.int .i64 (Ys n k LL.flatten LL.flatten).1.2],.string (Ys n k LL.flatten LL.flatten).2.1,.bool (Ys n k LL.flatten LL.flatten).2.2])/\Below w.heap.size w w':=by
 obtain ⟨wc,a8⟩:∃ wc,wc=w.alloc (.cells #[.int .i64 (n:Int),.int .i64 (k:Int),.slice p0 l0 c0] 24):=⟨_,rfl⟩
 have e1:wc.heap.size=w.heap.size+1:=by rw [a8];simp
 obtain ⟨M,e6⟩:∃ M,M=wc.alloc (.cells #[.int .i64 0,.int .i64 0] 46):=⟨_,rfl⟩
 have f5:Below w.heap.size w wc:=by rw [a8];exact (Below.refl _ _).alloc (Nat.le_refl _) _
 have d3:Below wc.heap.size wc M:=by rw [e6];exact (Below.refl _ _).alloc (Nat.le_refl _) _
 have f6:Hid (Below w.heap.size w M):=f5.trans (d3.mono f5.size)
 have a0:M.cell? ⟨w.heap.size,0,none⟩=some (.int .i64 (n:Int)):=(d3.cell (p:=⟨w.heap.size,0,none⟩) (by show w.heap.size < _;omega)).trans (by rw [a8,World.cell?_alloc_at _ _ _ _ rfl];rfl)
 have a1:M.cell? ⟨w.heap.size,1,none⟩=some (.int .i64 (k:Int)):=(d3.cell (p:=⟨w.heap.size,1,none⟩) (by show w.heap.size < _;omega)).trans (by rw [a8,World.cell?_alloc_at _ _ _ _ rfl];rfl)
 have a2:M.cell? ⟨w.heap.size,2,none⟩=some (.slice p0 l0 c0):=(d3.cell (p:=⟨w.heap.size,2,none⟩) (by show w.heap.size < _;omega)).trans (by rw [a8,World.cell?_alloc_at _ _ _ _ rfl];rfl)
 have tg:Qu M (w.heap.size+1) (0,0):=by rw [e6,<- e1];exact Qu.alloc _ _ _ _
 have f7:Hid (∀ W,Below M.heap.size M W->(W.cell? ⟨w.heap.size,0,none⟩=some (.int .i64 (n:Int))/\W.cell? ⟨w.heap.size,1,none⟩=some (.int .i64 (k:Int))/\W.cell? ⟨w.heap.size,2,none⟩=some (.slice p0 l0 c0))/\Qu W (w.heap.size+1) (0,0)/\eU W p LL/\Below w.heap.size w W):=fun W N=>by
  have hy:w.heap.size < M.heap.size:=Zn a0
  exact ⟨⟨(N.cell (p:=⟨w.heap.size,0,none⟩) hy).trans a0,(N.cell (p:=⟨w.heap.size,1,none⟩) hy).trans a1,(N.cell (p:=⟨w.heap.size,2,none⟩) hy).trans a2⟩,tg.below N,(hL.below f6.out).below N,f6.out.trans (N.mono f6.out.size)⟩
 have h6:Hid (M=(w.alloc (.cells #[.int .i64 (n:Int),.int .i64 (k:Int),.slice p0 l0 c0] 24)).alloc (.cells #[.int .i64 0,.int .i64 0] 46)):=by rw [<- a8];exact e6
 have h7:Hid (∀ i,i < LL.length->(LL.take (i+1)).flatten=(LL.take i).flatten ++ LL.getD i []):=fun i hi=>JfJ hi
 have h8:Hid (∀ i,i < LL.length->(LL.take i).flatten.length+(LL.getD i []).length<=1000):=fun i hi=>Nat.le_trans (Jcq LL hi) n0
 have h9:Hid ((LL.take LL.length).flatten=LL.flatten):=by show _=_;rw [List.take_length]
 have i0:Hid ((LL.take 0).flatten=[]):=by show _=_;rfl
 have i1:Hid (∀ (t:Int×Int) (q:Option Addr) (A:List Yb) (c:Nat) (W:World),A.length<=1000->Ql Ze W q A->Calls Tryz.prog 71 #[.agg #[.int .i64 (n:Int),.int .i64 (k:Int),.slice p0 l0 c0],.slice q A.length c,.agg #[.int .i64 t.1,.int .i64 t.2]] W fun e w'=>(∃ v,e=.returned (.tuple #[.int .i64 (Zf n k t A).1,v])/\w'.ownsRow W.heap.size 74 2 v (Zf n k t A).2.length (Js (Zf n k t A).2))/\Below W.heap.size W w'):=fun t q A c W hA hr=>Jcy n k p0 l0 c0 q A c t W e5 (by omega) (by omega) hr
 clear a8 e6 f5 d3 e1 a0 a1 a2 tg hL
 generalize LL.flatten=A at *
 go_enter Tryz.func48,Tryz.ntmps48
 go_wp2_with (rw [<- h6.out])
 go_loopw [7,8] (fun v x wr=>∃ i:Nat,i<=LL.length/\x=.int .i64 i/\Zc Ze 76 wr M.heap.size v (LL.take i).flatten/\Below M.heap.size M wr) (fun _ x _=>LL.length - (intOf x).toNat)
 case atStart=>exact ⟨0,Nat.zero_le _,rfl,by rw [i0.out];exact Zc.nil _ _ _,Below.refl _ _⟩
 case round =>
  obtain ⟨i,hi,rfl,hO,hB⟩:=hrel
  obtain ⟨y,rfl⟩:∃ y,y=wr:=⟨_,rfl⟩
  obtain ⟨⟨Q,U,X⟩,d4,i2,e7⟩:=f7.out y hB
  have HO:Hid (Zc Ze 76 y M.heap.size u7 (LL.take i).flatten):=hO
  have HB:Hid (Below M.heap.size M y):=hB
  have i3:Hid (eU y p LL):=i2
  have i4:M.heap.size<=y.heap.size:=hB.size
  clear hO hB i2 e7
  by_cases a3:i < LL.length
  ·rcases i3.out with h0 | ⟨b,o,rfl,k7,hc⟩
   ·rw [h0] at a3;simp at a3
   obtain ⟨q,c,n1,i5,n2,i7⟩:=hc i a3
   have HR:Hid (Ql Ze y q (LL.getD i [])):=i5
   have l1:Hid (q=none->LL.getD i []=[]/\c=0):=i7
   have n3:=h8.out i a3
   have l2:Hid ((LL.take (i+1)).flatten=(LL.take i).flatten ++ LL.getD i []):=h7.out i a3
   clear hc i5 i7 d4 Q U X
   generalize LL.getD i []=ri at *
   generalize (LL.take i).flatten=li at *
   go_wp2_with (first | (at_builtin;refine F4 (E:=Ze) rfl (.tmp 24) (.tmp 28) 55 76 rfl (.agg #[.int .i64 0,.int .i64 0,.int .i64 0,.int .i64 0,.string ⟨#[]⟩]) 48 Tryz.underlying55 qS rfl M.heap.size u7 li rfl HO.out q ri c rfl HR.out l1.out (by unfold maxLen;omega) (by omega) i4 ?_;intro v' K l3 l7))
   go_roundw
   case rel=>exact ⟨i+1,by omega,by go_num,by rw [l2.out];exact l3,HB.out.trans l7⟩
   case measure=>simp [intOf];omega
  ·have d5:i=LL.length:=by omega
   have i8:Hid (Zc Ze 76 y M.heap.size u7 A):=by
    show Zc _ _ _ _ _ _
    rw [<- h9.out,<- d5]
    exact HO.out
   clear HO h7 h8 h9 i0 i3 d5
   obtain ⟨pa,ca,rfl,d6,n4,l8,l9⟩:=i8.out.form
   have d7:Hid (Ql Ze y pa A):=d6
   clear i8 d6 l8 l9
   obtain ⟨w2,e8⟩:∃ w2,w2=y.alloc (.cells #[.int .i64 0,.int .i64 0] 46):=⟨_,rfl⟩
   have m0:Hid (w2=y.alloc (.cells #[.int .i64 0,.int .i64 0] 46)):=e8
   have i9:Below y.heap.size y w2:=by rw [e8];exact (Below.refl _ _).alloc (Nat.le_refl _) _
   have f8:Hid (Qu w2 y.heap.size (0,0)):=by show Qu _ _ _;rw [e8];exact Qu.alloc _ _ _ _
   have j0:Hid (Below y.heap.size y w2):=i9
   have m4:y.heap.size < w2.heap.size:=Zn f8.out.n
   have e9:Hid (Ys n k A (A.take 0)=((0,0),⟨#[]⟩,false)):=by show _=_;rfl
   have j1:Hid (∀ i,i < A.length->Ys n k A (A.take (i+1))=XH n k A (Ys n k A (A.take i)) (Xd A i)):=fun i hi=>OP hi
   have j2:Hid (Ys n k A (A.take A.length)=Ys n k A A):=by show _=_;rw [List.take_length]
   have H1:Hid (∀ W,Below y.heap.size y W->(W.cell? ⟨w.heap.size,0,none⟩=some (.int .i64 (n:Int))/\W.cell? ⟨w.heap.size,1,none⟩=some (.int .i64 (k:Int))/\W.cell? ⟨w.heap.size,2,none⟩=some (.slice p0 l0 c0))/\Qu W (w.heap.size+1) (0,0)/\Ql Ze W pa A/\Below w.heap.size w W):=fun W N=>by
    obtain ⟨q1,q2,_,q4⟩:=f7.out W (HB.out.trans (N.mono i4))
    exact ⟨q1,q2,d7.out.below N,q4⟩
   clear e8 i9 f7 d7 HB h6 d4 Q U X
   go_wp2
   rw [<- m0.out]
   go_loopw [10,11,12] (fun tx fo x wr=>∃ i:Nat,i<=A.length/\x=.int .i64 i/\tx=.string (Ys n k A (A.take i)).2.1/\fo=.bool (Ys n k A (A.take i)).2.2/\Qu wr y.heap.size (Ys n k A (A.take i)).1/\y.heap.size < wr.heap.size/\Below y.heap.size y wr) (fun _ _ x _=>A.length - (intOf x).toNat)
   case atStart=>exact ⟨0,Nat.zero_le _,rfl,by rw [e9.out],by rw [e9.out],by rw [e9.out];exact f8.out,m4,j0.out⟩
   case round =>
    obtain ⟨i,hi,rfl,rfl,rfl,hT,f9,hB⟩:=hrel
    obtain ⟨K,rfl⟩:∃ K,K=wr:=⟨_,rfl⟩
    obtain ⟨⟨Q,U,X⟩,d4,d6,e7⟩:=H1.out K hB
    have HB:Hid (Below y.heap.size y K):=hB
    have HT:Hid (Qu K y.heap.size (Ys n k A (A.take i)).1):=hT
    have d7:Hid (Ql Ze K pa A):=d6
    have b3:Hid (Qu K (w.heap.size+1) (0,0)):=d4
    have j3:Hid (Below w.heap.size w K):=e7
    have f3:=j1.out i
    have g4:Hid (i=A.length->Ys n k A A=Ys n k A (A.take i)):=fun h=>by rw [<- j2.out,h]
    have d2:Hid (∀ (S':(Int×Int)×ByteArray×Bool) (W:World),Ys n k A (A.take (i+1))=S'->Qu W y.heap.size S'.1->y.heap.size < W.heap.size->Below y.heap.size y W->i+1<=A.length->∃ j:Nat,j<=A.length/\(.int .i64 ((i:Int)+1):Value)=.int .i64 j/\(.string S'.2.1:Value)=.string (Ys n k A (A.take j)).2.1/\(.bool S'.2.2:Value)=.bool (Ys n k A (A.take j)).2.2/\Qu W y.heap.size (Ys n k A (A.take j)).1/\y.heap.size < W.heap.size/\Below y.heap.size y W):=fun S' W hS hT hl hb f9=>⟨i+1,f9,by rw [Int.natCast_add];rfl,by rw [hS],by rw [hS],by rw [hS];exact hT,hl,hb⟩
    generalize Ys n k A (A.take (i+1))=S1 at *
    generalize Ys n k A (A.take i)=S at *
    obtain ⟨⟨I,J⟩,a9,sf⟩:=S
    dsimp only at f3 HT
    clear hB hT d6 d4 e7 j1 e9 j2 f8 j0
    by_cases a3:i < A.length
    ·obtain ⟨b,o,m5,k7,d0,d1,_,_,_⟩:=QU d7.out a3
     subst m5
     have a4:=f3 a3
     clear f3 g4
     generalize Xd A i=x at *
     obtain ⟨D,G,xs,xa,xt⟩:=x
     dsimp only at d0 d1
     obtain ⟨Y,f4⟩:∃ Y,Y=K.alloc (.cells #[.int .i64 D,.int .i64 G] 46):=⟨_,rfl⟩
     have j5:Hid (Y=K.alloc (.cells #[.int .i64 D,.int .i64 G] 46)):=f4
     have g5:Below K.heap.size K Y:=by rw [f4];exact (Below.refl _ _).alloc (Nat.le_refl _) _
     have m6:Hid (Qu Y K.heap.size (D,G)):=by show Qu _ _ _;rw [f4];exact Qu.alloc _ _ _ _
     have H4:Hid (∀ W,Below Y.heap.size Y W->(W.cell? ⟨w.heap.size,0,none⟩=some (.int .i64 (n:Int))/\W.cell? ⟨w.heap.size,1,none⟩=some (.int .i64 (k:Int))/\W.cell? ⟨w.heap.size,2,none⟩=some (.slice p0 l0 c0))/\Qu W K.heap.size (D,G)/\Qu W y.heap.size (I,J)/\Ql Ze W (some ⟨b,o,none⟩) A/\y.heap.size < W.heap.size/\Below y.heap.size y W):=fun W N=>by
      have g6:Below K.heap.size K W:=g5.trans (N.mono g5.size)
      have j6:Below y.heap.size y W:=HB.out.trans (g6.mono HB.out.size)
      obtain ⟨q1,_,q3,_⟩:=H1.out W j6
      exact ⟨q1,m6.out.below N,HT.out.below g6,q3,Nat.lt_of_lt_of_le f9 g6.size,j6⟩
     clear f4 g5 Q U X HT d7 b3 j3 HB H1
     obtain ⟨⟨Q,U,X⟩,x4,t4,r4,j8,b4⟩:=H4.out Y (Below.refl _ _)
     have x0:=x4.n
     have x1:=x4.dT
     have t0:=t4.n
     have t1:=t4.dT
     have k3:Hid (Qu Y y.heap.size (I,J)):=t4
     have k4:Hid (Below y.heap.size y Y):=b4
     dsimp only at x0 x1 t0 t1
     clear x4 t4 r4 b4
     cases sf with
     | true =>
      go_wp2_with (rw [<- j5.out])
      refine (JpF (I,J) (D,G) _).mono ?_
      rintro e w5 ⟨rfl,g7⟩
      have H5:Hid (∀ W,Below w5.heap.size w5 W->(W.cell? ⟨w.heap.size,0,none⟩=some (.int .i64 (n:Int))/\W.cell? ⟨w.heap.size,1,none⟩=some (.int .i64 (k:Int))/\W.cell? ⟨w.heap.size,2,none⟩=some (.slice p0 l0 c0))/\Qu W K.heap.size (D,G)/\Qu W y.heap.size (I,J)/\Ql Ze W (some ⟨b,o,none⟩) A/\y.heap.size < W.heap.size/\Below y.heap.size y W):=fun W N=>H4.out W (g7.trans (N.mono g7.size))
      clear g7 H4 k3 k4 Q U X x0 x1 t0 t1 j8
      by_cases a7:Qd (I,J) (D,G)=false
      ·have HN:Hid (S1=((I,J),a9,true)):=by show _=_;rw [a4];exact Jkh ⟨rfl,a7⟩
       rw [a7]
       obtain ⟨_,_,t5,_,g8,b5⟩:=H5.out w5 (Below.refl _ _)
       have m7:Hid (Qu w5 y.heap.size (I,J)):=t5
       have m8:Hid (Below y.heap.size y w5):=b5
       clear a7 a4 t5 b5
       go_wp2
       go_roundw
       case rel=>exact d2.out _ _ HN.out m7.out g8 m8.out a3
       case measure=>simp [intOf];omega
      ·have b0:Hid ((Zf n k (D,G) A).2.length < k->S1=((I,J),a9,true)):=fun h=>by rw [a4];exact Jki (fun h2=>a7 h2.2) h
       have b1:Hid (¬ (Zf n k (D,G) A).2.length < k->S1=((D,G),gB k (Zf n k (D,G) A).1.toNat (Qg k (Zf n k (D,G) A).2 (Zf n k (D,G) A).2.length),true)):=fun h=>by rw [a4];exact S6 (fun h2=>a7 h2.2) h
       rw [Bool.not_eq_false] at a7
       rw [a7]
       clear a7
       obtain ⟨⟨Q,U,X⟩,x5,t5,r5,g8,b5⟩:=H5.out w5 (Below.refl _ _)
       have x0:=x5.n
       have x1:=x5.dT
       dsimp only at x0 x1
       clear x5 t5 b5 g8
       have HC:=i1.out (D,G) (some ⟨b,o,none⟩) A ca w5 (by omega) r5
       have g9:=HC
       dsimp only at HC
       clear r5 g9
       go_wp2_with fail
       refine HC.mono ?_
       rintro e O ⟨⟨v6,rfl,d8⟩,b2⟩
       clear HC
       obtain ⟨p6,c6,rfl,d9⟩:=nL d8
       have H6:Hid (∀ W,Below O.heap.size O W->(W.cell? ⟨w.heap.size,0,none⟩=some (.int .i64 (n:Int))/\W.cell? ⟨w.heap.size,1,none⟩=some (.int .i64 (k:Int))/\W.cell? ⟨w.heap.size,2,none⟩=some (.slice p0 l0 c0))/\Qu W K.heap.size (D,G)/\Qu W y.heap.size (I,J)/\Ql Ze W (some ⟨b,o,none⟩) A/\y.heap.size < W.heap.size/\Below y.heap.size y W):=fun W N=>H5.out W (b2.trans (N.mono b2.size))
       clear Q U X x0 x1 H5 b2 d8
       obtain ⟨⟨Q,U,X⟩,_,t6,_,e0,b6⟩:=H6.out O (Below.refl _ _)
       have e2:Hid (Qu O y.heap.size (I,J)):=t6
       have e3:Hid (Below y.heap.size y O):=b6
       have a5:Hid (fE O p6 (Zf n k (D,G) A).2):=d9
       clear t6 b6 d9
       by_cases a6:(Zf n k (D,G) A).2.length < k
       ·have HN:Hid (S1=((I,J),a9,true)):=b0.out a6
        clear a4 b0 b1 a5
        generalize Zf n k (D,G) A=Z at *
        go_wp2
        go_roundw
        case rel=>exact d2.out _ _ HN.out e2.out e0 e3.out a3
        case measure=>simp [intOf];omega
       ·have HN:Hid (S1=((D,G),gB k (Zf n k (D,G) A).1.toNat (Qg k (Zf n k (D,G) A).2 (Zf n k (D,G) A).2.length),true)):=b1.out a6
        obtain ⟨z1,z2,z3,z4⟩:=FF e5 a6
        have h1:(Zf n k (D,G) A).2.length<=A.length:=by have:=W0 (n:=n) (k:=k) (t:=(D,G)) A A.length;rw [List.take_length] at this;exact this
        clear a4 b0 b1
        generalize Zf n k (D,G) A=Z at *
        obtain ⟨zs,zl⟩:=Z
        dsimp only at a6 z1 z2 z3 z4 h1 a5 HN
        have HD:=JbT n k zs.toNat p6 zl c6 O e5 k6 hn z2 (by omega) z4 z3 a5.out
        rw [z1] at HD
        generalize gB k zs.toNat (Qg k zl zl.length)=dt at *
        clear z1 z2 z3 z4 a5
        go_wp2_with fail
        refine HD.mono ?_
        rintro e w7 ⟨rfl,e4⟩
        clear HD Q U X e2 e3 e0
        obtain ⟨_,x7,t7,_,h3,b7⟩:=H6.out w7 e4
        have x0:=x7.n
        have x1:=x7.dT
        have t0:=t7.n
        have t1:=t7.dT
        have t2:=t7.f0
        have t3:=t7.f1
        have h4:Hid (Qu w7 y.heap.size (I,J)):=t7
        have h5:Hid (Below y.heap.size y w7):=b7
        dsimp only at x0 x1 t0 t1
        clear x7 t7 b7 e4 H6
        go_wp2
        go_roundw
        case rel=>exact d2.out _ _ HN.out (h4.out.set D G) (by simpa using h3) ((h5.out.setCell (Nat.le_refl _) _).setCell (Nat.le_refl _) _) a3
        case measure=>simp [intOf];omega
     | false =>
      have b0:Hid ((Zf n k (D,G) A).2.length < k->S1=((I,J),a9,false)):=fun h=>by rw [a4];exact Jki (fun h2=>by cases h2.1) h
      have b1:Hid (¬ (Zf n k (D,G) A).2.length < k->S1=((D,G),gB k (Zf n k (D,G) A).1.toNat (Qg k (Zf n k (D,G) A).2 (Zf n k (D,G) A).2.length),true)):=fun h=>by rw [a4];exact S6 (fun h2=>by cases h2.1) h
      have H5:Hid (∀ W,Below Y.heap.size Y W->(W.cell? ⟨w.heap.size,0,none⟩=some (.int .i64 (n:Int))/\W.cell? ⟨w.heap.size,1,none⟩=some (.int .i64 (k:Int))/\W.cell? ⟨w.heap.size,2,none⟩=some (.slice p0 l0 c0))/\Qu W K.heap.size (D,G)/\Qu W y.heap.size (I,J)/\Ql Ze W (some ⟨b,o,none⟩) A/\y.heap.size < W.heap.size/\Below y.heap.size y W):=H4.out
      clear H4 k3 k4 j8
      obtain ⟨_,_,_,r5,_,_⟩:=H5.out Y (Below.refl _ _)
      have HC:=i1.out (D,G) (some ⟨b,o,none⟩) A ca Y (by omega) r5
      have g9:=HC
      dsimp only at HC
      clear r5 g9
      go_wp2_with (rw [<- j5.out])
      refine HC.mono ?_
      rintro e O ⟨⟨v6,rfl,d8⟩,b2⟩
      clear HC
      obtain ⟨p6,c6,rfl,d9⟩:=nL d8
      have H6:Hid (∀ W,Below O.heap.size O W->(W.cell? ⟨w.heap.size,0,none⟩=some (.int .i64 (n:Int))/\W.cell? ⟨w.heap.size,1,none⟩=some (.int .i64 (k:Int))/\W.cell? ⟨w.heap.size,2,none⟩=some (.slice p0 l0 c0))/\Qu W K.heap.size (D,G)/\Qu W y.heap.size (I,J)/\Ql Ze W (some ⟨b,o,none⟩) A/\y.heap.size < W.heap.size/\Below y.heap.size y W):=fun W N=>H5.out W (b2.trans (N.mono b2.size))
      clear Q U X x0 x1 t0 t1 H5 b2 d8
      obtain ⟨⟨Q,U,X⟩,_,t6,_,e0,b6⟩:=H6.out O (Below.refl _ _)
      have e2:Hid (Qu O y.heap.size (I,J)):=t6
      have e3:Hid (Below y.heap.size y O):=b6
      have a5:Hid (fE O p6 (Zf n k (D,G) A).2):=d9
      clear t6 b6 d9
      by_cases a6:(Zf n k (D,G) A).2.length < k
      ·have HN:Hid (S1=((I,J),a9,false)):=b0.out a6
       clear a4 b0 b1 a5
       generalize Zf n k (D,G) A=Z at *
       go_wp2
       go_roundw
       case rel=>exact d2.out _ _ HN.out e2.out e0 e3.out a3
       case measure=>simp [intOf];omega
      ·have HN:Hid (S1=((D,G),gB k (Zf n k (D,G) A).1.toNat (Qg k (Zf n k (D,G) A).2 (Zf n k (D,G) A).2.length),true)):=b1.out a6
       obtain ⟨z1,z2,z3,z4⟩:=FF e5 a6
       have h1:(Zf n k (D,G) A).2.length<=A.length:=by have:=W0 (n:=n) (k:=k) (t:=(D,G)) A A.length;rw [List.take_length] at this;exact this
       clear a4 b0 b1
       generalize Zf n k (D,G) A=Z at *
       obtain ⟨zs,zl⟩:=Z
       dsimp only at a6 z1 z2 z3 z4 h1 a5 HN
       have HD:=JbT n k zs.toNat p6 zl c6 O e5 k6 hn z2 (by omega) z4 z3 a5.out
       rw [z1] at HD
       generalize gB k zs.toNat (Qg k zl zl.length)=dt at *
       clear z1 z2 z3 z4 a5
       go_wp2_with fail
       refine HD.mono ?_
       rintro e w7 ⟨rfl,e4⟩
       clear HD Q U X e2 e3 e0
       obtain ⟨_,x7,t7,_,h3,b7⟩:=H6.out w7 e4
       have x0:=x7.n
       have x1:=x7.dT
       have t0:=t7.n
       have t1:=t7.dT
       have t2:=t7.f0
       have t3:=t7.f1
       have h4:Hid (Qu w7 y.heap.size (I,J)):=t7
       have h5:Hid (Below y.heap.size y w7):=b7
       dsimp only at x0 x1 t0 t1
       clear x7 t7 b7 e4 H6
       go_wp2
       go_roundw
       case rel=>exact d2.out _ _ HN.out (h4.out.set D G) (by simpa using h3) ((h5.out.setCell (Nat.le_refl _) _).setCell (Nat.le_refl _) _) a3
       case measure=>simp [intOf];omega
    ·have d5:i=A.length:=by omega
     have HE:Hid (Ys n k A A=((I,J),a9,sf)):=g4.out d5
     have t0:=HT.out.n
     have t1:=HT.out.dT
     have g0:=b3.out.n
     have g1:=b3.out.dT
     have g2:=b3.out.f0
     have g3:=b3.out.f1
     dsimp only at t0 t1 g0 g1
     clear f3 g4 d2 d5 Q U X
     have HF:Hid (Qu ((K.setCell ⟨w.heap.size+1,0,none⟩ (.int .i64 I)).setCell ⟨w.heap.size+1,1,none⟩ (.int .i64 J)) (w.heap.size+1) (I,J)):=b3.out.set I J
     have k5:Hid (Below w.heap.size w ((K.setCell ⟨w.heap.size+1,0,none⟩ (.int .i64 I)).setCell ⟨w.heap.size+1,1,none⟩ (.int .i64 J))):=(j3.out.setCell (p:=⟨w.heap.size+1,0,none⟩) (by show w.heap.size<=w.heap.size+1;omega) _).setCell (p:=⟨w.heap.size+1,1,none⟩) (by show w.heap.size<=w.heap.size+1;omega) _
     go_wp2
     generalize (K.setCell ⟨w.heap.size+1,0,none⟩ (.int .i64 I)).setCell ⟨w.heap.size+1,1,none⟩ (.int .i64 J)=wf at HF k5 ⊢
     have c1:=HF.out.n
     have c2:=HF.out.dT
     dsimp only at c1 c2
     refine bodyPost_ret (v:=.tuple #[.agg #[.int .i64 I,.int .i64 J],.string a9,.bool sf]) (by simp [results,Tryz.results48,go_sem,c1,c2]) rfl ⟨by rw [HE.out],k5.out⟩
theorem NM {E:eW α}  {l:List α} {row:Option Nat} (h:Ql E w q l) (G:w.grownBy w' row) (M:∀ b o,q=some ⟨b,o,none⟩->some b≠row):Ql E w' q l:=by
 rcases h with h | ⟨b,o,y,D,I⟩
 ·exact Or.inl h
 ·exact Or.inr ⟨b,o,y,Nat.lt_of_lt_of_le D G.size,fun i x J j u K=>(World.cell?_of_block (a:=⟨b,o+i*E.k+j,none⟩) (G.block b D (M _ _ y))).trans (I i x J j u K)⟩
def O3 (B:Nat) (w:World) (e:TypeId) (v:Value) (j:List Value) (M:List (List Yb)):Prop :=
 JM w B e v j/\j.length=M.length/\∀ i,i < M.length->∃ q c,j[i]?=some (.slice q (M.getD i []).length c)/\Ql Ze w q (M.getD i [])/\(M.getD i []).length<=c/\(q=none->M.getD i []=[]/\c=0)/\∀ b o,q=some ⟨b,o,none⟩->B<=b/\b < w.heap.size/\v.ownBlock≠some b
theorem O3.snoc {y:World} {N:Value} {Y:List Value}  {o:Obj} (h:O3 B w T v Y M) (hB:B<=w.heap.size) (hr:Zc Ze E y w.heap.size r row) (hb:Below w.heap.size w y)
 (hv:JM K B T N (Y ++ [r]))
 (I:(y.alloc o).grownBy K v.ownBlock) (j:N.ownBlock=v.ownBlock∨N.ownBlock=some (y.alloc o).heap.size):O3 B K T N (Y ++ [r]) (M ++ [row]):=by
 obtain ⟨a3,Z,a4⟩:=h
 have hz:=hb.size
 have a0:(y.alloc o).heap.size=y.heap.size+1:=by simp
 have a1:∀ k,v.ownBlock=some k->k < w.heap.size:=fun k O=>(a3.block O).2
 have J:y.grownBy K v.ownBlock:=⟨I.os,I.tape,I.output,by have:=I.size;omega,fun k O a5=>(I.block k (by omega) a5).trans (Below.heap_alloc y o k O)⟩
 refine ⟨hv,by simp [Z],fun i hi=>?_⟩
 rw [List.length_append,List.length_singleton] at hi
 by_cases a2:i < M.length
 ·obtain ⟨q,c,Q,U,W,X,G⟩:=a4 i a2
  have e:(M ++ [row]).getD i []=M.getD i []:=by rw [List.getD_eq_getElem?_getD,List.getD_eq_getElem?_getD,List.getElem?_append_left a2]
  rw [e]
  refine ⟨q,c,by rw [List.getElem?_append_left (by omega)];exact Q,NM (U.below hb) J (fun b o D=>fun e=>(G b o D).2.2 e.symm),W,X,fun b o D=>?_⟩
  have:=G b o D
  refine ⟨this.1,by have:=J.size;omega,?_⟩
  rcases j with j | j
  ·rw [j];exact this.2.2
  ·rw [j,a0];intro e;have:=Option.some.inj e;omega
 ·obtain rfl:i=M.length:=by omega
  have e:(M ++ [row]).getD M.length []=row:=by rw [List.getD_eq_getElem?_getD,List.getElem?_append_right (Nat.le_refl _),Nat.sub_self];rfl
  rw [e]
  obtain ⟨q,c,Q,U,W,X,G⟩:=hr.form
  refine ⟨q,c,by rw [List.getElem?_append_right (by omega),Z,Nat.sub_self,Q];rfl,NM U J (fun b o D=>?_),W,X,fun b o D=>?_⟩
  ·have:=G b o D
   intro e
   have:=a1 _ e.symm
   omega
  ·have:=G b o D
   refine ⟨by omega,by have:=J.size;omega,?_⟩
   rcases j with j | j
   ·rw [j];intro e;have:=a1 _ e;omega
   ·rw [j,a0];intro e;have:=Option.some.inj e;omega
theorem O3.wO   {W:List Value} (h:O3 B w T v W M):∃ p c,v=.slice p M.length c/\eU w p M:=by
 obtain ⟨y,j,D⟩:=h
 rcases y.cells with ⟨rfl,rfl⟩ | ⟨g,G,rfl,hB,I,J⟩
 ·have:M=[]:=List.length_eq_zero_iff.1 (by simpa using j.symm)
  subst this
  exact ⟨none,0,rfl,Or.inl rfl⟩
 ·refine ⟨some ⟨g,0,none⟩,G,by rw [j],Or.inr ⟨g,0,rfl,I,fun i K=>?_⟩⟩
  obtain ⟨q,c,N,O,Q,U,_⟩:=D i K
  refine ⟨q,c,?_,O,Q,U⟩
  rw [Nat.zero_add]
  exact J i _ N
theorem VU:(Tryz.prog.info? 55).map (fun i=>(i.zero,i.size,i.bytes))=some (some (.slice none 0 0),1,24):=by kernel_rfl
section
def Jy (a:Za) (mv nv fv lv:Value):Array Value:=#[.string a.name,.string a.key,.int .i64 a.dT,.int .i64 a.op,.int .i64 a.config,.int .i64 a.c.n,.int .i64 a.c.k,mv,.int .i64 a.next.n,.int .i64 a.next.k,nv,.bool a.put,.bool a.aI,.string a.st.word,fv,lv,.int .i64 a.tag.1,.int .i64 a.tag.2,.string a.text,.bool a.found]
structure Ja8 (w:World) (B:Nat) (v:Value) (L:List ByteArray):Prop where
 at_:∃ p c,v=.slice p L.length c/\Strs w p L/\L.length<=c/\(p=none->L=[]/\c=0)/\∀ b o,p=some ⟨b,o,none⟩->b < B
theorem Ja8.hY  {L:List ByteArray} (h:Ja8 w B v L) (J:Below B w w'):Ja8 w' B v L:=by
 obtain ⟨p,c,y,D,G,I,j⟩:=h.at_
 exact ⟨p,c,y,D.hY J j,G,I,j⟩
structure Qa (w:World) (B:Nat) (S:Nat->Prop) (ab:Nat) (a:Za) (mv nv fv lv:Value) (vs:List Value):Prop where
 eK:w.heap[ab]?=some (.cells (Jy a mv nv fv lv) 48 (0,0))
 mem:Ja8 w B mv a.c.L
 rD:Ja8 w B nv a.next.L
 from_:Zq w B fv a.from_
 told:O3 B w 55 lv vs a.L
 self:S ab
 sF:∀ k,fv.ownBlock=some k->S k/\k≠ab
 sL:∀ k,lv.ownBlock=some k->S k/\k≠ab/\fv.ownBlock≠some k
 sV:∀ v ∈ vs,∀ k,v.ownBlock=some k->S k/\k≠ab/\fv.ownBlock≠some k
 aO:∀ k,S k->B<=k/\k < w.heap.size
theorem JaB  {e:TypeId} {vs:List Value} (h:O3 B w e v vs M) (Q:w.heap.size<=w'.heap.size) (hv:∀ k,v.ownBlock=some k->w'.heap[k]?=w.heap[k]?) (hi:∀ x ∈ vs,∀ k,x.ownBlock=some k->w'.heap[k]?=w.heap[k]?):O3 B w' e v vs M:=by
 obtain ⟨U,W,X⟩:=h
 refine ⟨?_,W,fun i Y=>?_⟩
 ·obtain ⟨Z,y⟩:=U
  refine ⟨Z,?_⟩
  rcases y with y | ⟨g,a0,a1,J,a2,hg,a3⟩
  ·exact Or.inl y
  ·exact Or.inr ⟨g,a0,a1,J,a2,(hv g (by rw [J];rfl)).trans hg,a3⟩
 ·obtain ⟨q,c,K,D,g3,g4,G⟩:=X i Y
  refine ⟨q,c,K,?_,g3,g4,fun b o I=>⟨(G b o I).1,Nat.lt_of_lt_of_le (G b o I).2.1 Q,(G b o I).2.2⟩⟩
  rcases D with D | ⟨b,o,N,a4,hc⟩
  ·exact Or.inl D
  ·have a5:w'.heap[b]?=w.heap[b]?:=hi _ (List.mem_of_getElem? K) b (by rw [N];rfl)
   exact Or.inr ⟨b,o,N,Nat.lt_of_lt_of_le a4 Q,fun j x hx O u hu=>(World.cell?_of_block (a:=⟨b,o+j*Ze.k+O,none⟩) a5).trans (hc j x hx O u hu)⟩
theorem JaN  {l:List ByteArray} (h:Zq w B v l) (N:∀ k,v.ownBlock=some k->w'.heap[k]?=w.heap[k]?):Zq w' B v l:=by
 obtain ⟨D,j⟩:=h
 refine ⟨D,?_⟩
 rcases j with j | ⟨g,G,I,y,J,K,M⟩
 ·exact Or.inl j
 ·exact Or.inr ⟨g,G,I,y,J,(N g (by rw [y];rfl)).trans K,M⟩
variable {w w':World} {B:Nat} {S:Nat->Prop} {ab:Nat} {a:Za} {mv nv fv lv:Value} {vs:List Value}
theorem Qa.aS (h:Qa w B S ab a mv nv fv lv vs) (y:Below B w w') (D:∀ k,S k->w'.heap[k]?=w.heap[k]?):Qa w' B S ab a mv nv fv lv vs where
 eK:=(D ab h.self).trans h.eK
 mem:=h.mem.hY y
 rD:=h.rD.hY y
 from_:=JaN h.from_ fun k j=>D k (h.sF k j).1
 told:=JaB h.told y.size (fun k j=>D k (h.sL k j).1) (fun x G k j=>D k (h.sV x G k j).1)
 self:=h.self
 sF:=h.sF
 sL:=h.sL
 sV:=h.sV
 aO:=fun k j=>⟨(h.aO k j).1,Nat.lt_of_lt_of_le (h.aO k j).2 y.size⟩
theorem Qa.vP (h:Qa w B S ab a mv nv fv lv vs):B<=w.heap.size:=Nat.le_of_lt (Nat.lt_of_le_of_lt (h.aO ab h.self).1 (h.aO ab h.self).2)
theorem Qa.below (h:Qa w B S ab a mv nv fv lv vs) (j:Below w.heap.size w w'):Qa w' B S ab a mv nv fv lv vs:=h.aS (j.mono h.vP) fun k y=>j.block k (h.aO k y).2
theorem Qa.cell (h:Qa w B S ab a mv nv fv lv vs) (i:Nat):w.cell? ⟨ab,i,none⟩=(Jy a mv nv fv lv)[i]?:=by simp [World.cell?,h.eK]
theorem Qa.free (h:Qa w B S ab a mv nv fv lv vs) (i:Nat):w.frozen? ⟨ab,i,none⟩=false:=by simp [World.frozen?,h.eK]
theorem V0 {w:World} {j:Array Value} (h:w.heap[b]?=some (.cells j t (0,0))) (i:Nat) (v:Value):(w.setCell ⟨b,i,none⟩ v).heap[b]?=some (.cells (j.setIfInBounds i v) t (0,0)):=by
 simp [World.setCell,Array.getElem?_modify,h]
theorem Qa.set (h:Qa w B S ab a mv nv fv lv vs) (i:Nat) (v:Value) {a':Za} {G I:Value} (K:(Jy a mv nv fv lv).setIfInBounds i v=Jy a' mv nv G I) (M:a'.c.L=a.c.L) (N:a'.next.L=a.next.L) (O:a'.from_=a.from_) (Q:a'.L=a.L) (U:G=fv) (W:I=lv):Qa (w.setCell ⟨ab,i,none⟩ v) B S ab a' mv nv G I vs:=by
 subst U W
 have y:Below B w (w.setCell ⟨ab,i,none⟩ v):=(Below.refl _ _).setCell (h.aO ab h.self).1 _
 have D:∀ k,k≠ab->(w.setCell ⟨ab,i,none⟩ v).heap[k]?=w.heap[k]?:=fun k j=>Below.heap_setCell w _ v k j
 refine ⟨(V0 h.eK i v).trans (by rw [K]),by rw [M];exact h.mem.hY y,by rw [N];exact h.rD.hY y,by rw [O];exact JaN h.from_ fun k j=>D k (h.sF k j).2,by rw [Q];exact JaB h.told y.size (fun k j=>D k (h.sL k j).2.1) (fun x J k j=>D k (h.sV x J k j).2.1),h.self,h.sF,h.sL,h.sV,fun k j=>⟨(h.aO k j).1,Nat.lt_of_lt_of_le (h.aO k j).2 y.size⟩⟩
end
structure E3 (w:World) (ad:Nat->Addr):Prop where
 c1:w.cell? ⟨0,0,none⟩=some (.iface 252 (.pointer (some (ad 1))))
 c3:w.cell? ⟨3,0,none⟩=some (.iface 252 (.pointer (some (ad 3))))
 c5:w.cell? ⟨5,0,none⟩=some (.iface 252 (.pointer (some (ad 5))))
theorem E3.below  (h:E3 w ad) (j:Below w.heap.size w w'):E3 w' ad:=⟨(j.cell (Yl h.c1)).trans h.c1,(j.cell (Yl h.c3)).trans h.c3,(j.cell (Yl h.c5)).trans h.c5⟩
theorem zP  (i:Nat) (j:i < 12) (at_:Int) (y:w'=w.alloc (.cells #[.int .i64 at_,.iface 252 (.pointer (some (ad i)))] t)):Jd w' ad (.iface 112 (.pointer (some ⟨w.heap.size,0,none⟩))) ((i+1:Nat):Int) at_:=by
 subst y
 refine Or.inr (Or.inr ⟨i,w.heap.size,j,rfl,rfl,?_,?_⟩)
 ·rw [World.cell?_alloc_at _ _ _ _ rfl];rfl
 ·rw [World.cell?_alloc_at _ _ _ _ rfl];rfl
theorem SA (ad:Nat->Addr) (p:Option Addr) (l:List ByteArray) (c:Nat) (w:World) (K:l.length<=1000) (D:E3 w ad) (h:l.length < 1∨16 < l.length) :
 Calls Tryz.prog 102 #[.slice p l.length c] w fun e w'=>(∃ j,e=.returned j/\Jd w' ad j 2 (-1))/\Below w.heap.size w w':=by
 have I:=D.c1
 have y:Hid (∀ W,Jd W ad (.iface 252 (.pointer (some (ad 1)))) 2 (-1)):=fun W=>Jd.b8 1 (by decide)
 clear D
 rcases h with h | h
 ·have G:decide ((l.length:Int) < 1)=true:=decide_eq_true (by omega)
  go_enter Tryz.func102,Tryz.ntmps102
  go_wp2
  go_ret
  exact ⟨⟨_,rfl,y.out _⟩,Below.refl _ _⟩
 ·have G:decide ((l.length:Int) < 1)=false:=decide_eq_false (by omega)
  have J:=decide_eq_true (by omega)
  go_enter Tryz.func102,Tryz.ntmps102
  go_wp2
  go_ret
  exact ⟨⟨_,rfl,y.out _⟩,Below.refl _ _⟩
theorem MA (ad:Nat->Addr) (p:Option Addr) (l:List ByteArray) (c:Nat) (w:World) (h1:¬ l.length < 1) (h2:¬ 16 < l.length) (hc:l.length<=c) (hs:Strs w p l) (hE:E3 w ad) :
 Calls Tryz.prog 102 #[.slice p l.length c] w fun e w'=>(∃ ev,e=.returned ev/\Jd w' ad ev (XO l 0 l.length).1 (XO l 0 l.length).2)/\Below w.heap.size w w':=by
 have HS:Hid (Strs w p l):=hs
 have HE:Hid _:=hE
 have g1:=decide_eq_false (by omega)
 have g2:=decide_eq_false (by omega)
 obtain ⟨b,o,rfl⟩:∃ b o,p=some ⟨b,o,none⟩:=by
  rcases hs with h0 | ⟨b,o,hp,_⟩
  ·rw [h0] at h1;exact absurd (by decide) h1
  ·exact ⟨b,o,hp⟩
 clear hs hE
 obtain ⟨R,hR⟩:∃ R,R=XO l 0 l.length:=⟨_,rfl⟩
 rw [<- hR]
 have HR:Hid _:=hR
 clear hR
 go_enter Tryz.func102,Tryz.ntmps102
 go_wp2
 go_loopw [16] (fun x wq=>∃ i:Nat,i<=l.length/\x=.int .i64 i/\XO l i (l.length - i)=R/\Below w.heap.size w wq) (fun x _=>l.length - (intOf x).toNat)
 case atStart=>exact ⟨0,Nat.zero_le _,rfl,HR.out.symm,Below.refl _ _⟩
 case round =>
  obtain ⟨i,hi,rfl,a4,a0⟩:=hrel
  obtain ⟨U,rfl⟩:∃ U,U=wr:=⟨_,rfl⟩
  have D:Hid _:=a4
  have I:Hid _:=a0
  have a1:Hid (Strs U (some ⟨b,o,none⟩) l):=HS.out.below a0
  have a5:Hid (E3 U ad):=HE.out.below a0
  clear a4 a0 HR HS HE
  by_cases a2:i < l.length
  ·have q3 : U.cell? ⟨b, o + i, none⟩ = some (.string (Yc l i)) := by
    rcases a1.out with h0 | ⟨b',o',hp,_,a6⟩
    ·rw [h0] at a2;exact absurd a2 (Nat.not_lt_zero _)
    ·obtain ⟨rfl,rfl⟩:b=b'/\o=o':=by simpa using hp
     exact a6 i a2
   have G:Hid (∀ W,Calls Tryz.prog 74 #[.string (Yc l i)] W fun e w'=>e=.returned (.bool (Jo (Yc l i)))/\Below W.heap.size W w'):=fun W=>qF _ W
   have O:Hid (XO l i (l.length - i)=if Yu l i=0 then XO l (i+1) (l.length - (i+1)) else (((Yu l i:Nat):Int),(i:Int))):=by
    show _=_
    rw [show l.length - i=(l.length - (i+1))+1 by omega]
    rfl
   by_cases J:Jo (Yc l i)=true
   ·have K:Hid (∀ W,Strs W (some ⟨b,o,none⟩) (l.take i)->Calls Tryz.prog 92 #[.slice (some ⟨b,o,none⟩) (l.take i).length c,.string (Yc l i)] W fun e w'=>e=.returned (.bool (Xu (l.take i) (Yc l i)))/\w'=W):=fun W hW=>vN _ _ c _ W (by rw [List.length_take];omega) hW
    rw [show (l.take i).length=i by rw [List.length_take];omega] at K
    rw [J] at G
    by_cases Q:Yc l i ∈ l.take i
    ·have M : Hid (R = (6, (i : Int))) := by
      show _=_
      rw [<- D.out,O.out,TL J Q,if_neg (by decide)]
      rfl
     rw [Zl.2 Q] at K
     clear D O J Q
     generalize Yc l i=t at *
     go_wp2_with fail
     refine (G.out _).mono ?_
     rintro e y ⟨rfl,j⟩
     have N:Hid (Below w.heap.size w y):=I.out.trans (j.mono I.out.size)
     have X:Hid (Strs y (some ⟨b,o,none⟩) (l.take i)):=(a1.out.below j).take i
     have Y:E3 y ad:=a5.out.below j
     have q4:=Y.c5
     clear Y j G q3
     go_wp2_with fail
     refine (K.out _ X.out).mono ?_
     rintro e w3 ⟨rfl,Z⟩
     rw [Z]
     clear Z w3 K X
     go_wp2
     go_ret
     exact ⟨⟨_,rfl,by rw [M.out];exact zP (w:=y) 5 (by decide) (i:Int) rfl⟩,N.out.alloc N.out.size _⟩
    ·have M : Hid (XO l (i + 1) (l.length - (i + 1)) = R) := by
      show _=_
      rw [<- D.out,O.out,ET J Q,if_pos rfl]
     rw [Bool.eq_false_iff.2 (fun h=>Q (Zl.1 h))] at K
     clear D O J Q
     generalize Yc l i=t at *
     go_wp2_with fail
     refine (G.out _).mono ?_
     rintro e y ⟨rfl,j⟩
     have N:Hid (Below w.heap.size w y):=I.out.trans (j.mono I.out.size)
     have X:Hid (Strs y (some ⟨b,o,none⟩) (l.take i)):=(a1.out.below j).take i
     clear j G q3
     go_wp2_with fail
     refine (K.out _ X.out).mono ?_
     rintro e w3 ⟨rfl,Z⟩
     rw [Z]
     clear Z w3 K X
     go_wp2
     go_roundw
     case rel=>exact ⟨i+1,by omega,by go_num,M.out,N.out⟩
     case measure=>simp [intOf];omega
   ·have a3:Jo (Yc l i)=false:=Bool.eq_false_iff.2 J
    have M:Hid (R=(4,(i:Int))):=by
     show _=_
     rw [<- D.out,O.out,Jj1 a3,if_neg (by decide)]
     rfl
    rw [a3] at G
    clear D O J a3
    generalize Yc l i=t at *
    go_wp2_with fail
    refine (G.out _).mono ?_
    rintro e y ⟨rfl,j⟩
    have N:Hid (Below w.heap.size w y):=I.out.trans (j.mono I.out.size)
    have Y:E3 y ad:=a5.out.below j
    have q4:=Y.c3
    clear Y j G q3
    go_wp2
    go_ret
    exact ⟨⟨_,rfl,by rw [M.out];exact zP (w:=y) 3 (by decide) (i:Int) rfl⟩,N.out.alloc N.out.size _⟩
  ·have a7:i=l.length:=by omega
   subst a7
   have M:Hid (R=(0,-1)):=by
    show _=_
    rw [<- D.out,Nat.sub_self]
    rfl
   clear D
   go_wp2
   go_ret
   exact ⟨⟨_,rfl,by rw [M.out];exact Jd.nil _ _⟩,I.out⟩
theorem IF (ad:Nat->Addr) (p:Option Addr) (l:List ByteArray) (c:Nat) (w:World) (D:l.length<=1000) (G:l.length<=c) (I:Strs w p l) (y:E3 w ad) :
 Calls Tryz.prog 102 #[.slice p l.length c] w fun e w'=>(∃ j,e=.returned j/\Jd w' ad j (Xj l).1 (Xj l).2)/\Below w.heap.size w w':=by
 by_cases h:l.length < 1∨16 < l.length
 ·rw [E7 h]
  exact SA ad p l c w D y h
 ·rw [AB (by omega) (by omega)]
  exact MA ad p l c w (by omega) (by omega) G I y
theorem Xs (t:ByteArray) (w:World) (I:t.size<=140737488351232):Calls Tryz.prog 33 #[.string t] w fun e w'=>e=.returned (.string t)/\Below w.heap.size w w':=by
 have y:Hid (∀ W,Calls Tryz.prog 55 #[.string t] W fun e w'=>e=.returned (.string t)/\Below W.heap.size W w'):=fun W=>Tryz.stringslite_Clone t W (by omega)
 go_enter Tryz.func33,Tryz.ntmps33
 go_wp2_with fail
 refine (y.out _).mono ?_
 rintro e D ⟨rfl,j⟩
 have G:Hid (Below w.heap.size w D):=j
 clear j
 go_wp2
 go_ret
 exact ⟨rfl,G.out⟩
theorem O5 (p:Option Addr) (l:List ByteArray) (c:Nat) (s:ByteArray) (w:World) (W:l.length<=1000000) (J:Strs w p l) (h:s ∉ l) :
 Calls Tryz.prog 46 #[.slice p l.length c,.string s] w fun e w'=>e=.returned (.int .i64 (-1))/\w'=w:=by
 have G:Hid (s ∉ l):=h
 clear h
 go_enter Tryz.func46,Tryz.ntmps46
 go_wp2
 go_loop [5] (fun x=>∃ i:Nat,i<=l.length/\x=.int .i64 i) (fun x=>l.length - (intOf x).toNat)
 case atStart=>exact ⟨0,Nat.zero_le _,rfl⟩
 case round =>
  obtain ⟨i,K,rfl⟩:=hrel
  by_cases j:i < l.length
  ·rcases J with I | ⟨b,o,rfl,M,D⟩
   ·rw [I] at j;exact absurd j (Nat.not_lt_zero _)
   have N:=D i j
   have y:Yc l i≠s:=fun e=>G.out (e ▸ oQ j)
   have O:=XT y
   have Q:=YT y
   have U:=Y8 y
   clear y D
   generalize Yc l i=t at *
   go_wp2
   go_round
   case rel=>exact ⟨i+1,by omega,by go_num⟩
   case measure=>simp [intOf];omega
  ·go_wp2
   go_ret
   exact ⟨rfl,rfl⟩
theorem ML (p:Option Addr) (l:List ByteArray) (c:Nat) (s:ByteArray) (w:World) (hl:l.length<=1000000) (Z:Strs w p l) (h:s ∈ l) :
 Calls Tryz.prog 46 #[.slice p l.length c,.string s] w fun e w'=>e=.returned (.int .i64 ((ZJ l s:Nat):Int))/\w'=w:=by
 have O:Hid (s ∈ l):=h
 clear h
 go_enter Tryz.func46,Tryz.ntmps46
 go_wp2
 go_loop [5] (fun x=>∃ i:Nat,i<=l.length/\x=.int .i64 i/\∀ j,j < i->Yc l j≠s) (fun x=>l.length - (intOf x).toNat)
 case atStart=>exact ⟨0,Nat.zero_le _,rfl,fun j G=>absurd G (Nat.not_lt_zero _)⟩
 case round =>
  obtain ⟨i,hi,rfl,J⟩:=hrel
  have I:Hid (∀ j,j < i->Yc l j≠s):=J
  clear J
  have D:i < l.length:=by
   rcases Nat.lt_or_ge i l.length with h | h
   ·exact h
   ·obtain ⟨j,G,e⟩:=tF O.out
    exact absurd e (I.out j (by omega))
  rcases Z with Q | ⟨b,o,rfl,a0,K⟩
  ·rw [Q] at D;exact absurd D (Nat.not_lt_zero _)
  have U:=K i D
  have M:Hid (Yc l i=Yc l i):=by show _=_;rfl
  clear K
  by_cases y:Yc l i=s
  ·have W:Hid (ZJ l s=i):=DQ D y I.out
   rw [y] at U
   clear y M
   go_wp2
   go_ret
   exact ⟨by rw [W.out];rfl,rfl⟩
  ·have X:Hid (Yc l i≠s):=y
   have h1:=XT y
   have h2:=YT y
   have h3:=Y8 y
   clear y M
   generalize N:Yc l i=t at *
   have Y:Hid (Yc l i=t):=N
   clear N
   go_wp2
   go_round
   case rel=>exact ⟨i+1,by omega,by go_num,fun j G=>by
    rcases Nat.lt_or_ge j i with h | h
    ·exact I.out j h
    ·obtain rfl:j=i:=by omega
     rw [Y.out];exact X.out⟩
   case measure=>simp [intOf];omega
section
variable {w w':World} {B:Nat} {S:Nat->Prop} {ab:Nat} {a:Za} {mv nv fv lv:Value} {vs:List Value}
theorem Jbo (f:List ByteArray) (L:List (List Yb)):∀ (l m:List ByteArray),Xq f L (l ++ m)=Xq f L l ++ Xq f L m
 | [],_=>rfl
 | x :: l,m=>by
  have ih:=Jbo f L l m
  rw [List.cons_append]
  by_cases h:Xu f x=true
  ·have j:∀ r,Xq f L (x :: r)=L.getD (ZJ f x) [] :: Xq f L r:=fun r=>if_pos h
   rw [j,j,ih,List.cons_append]
  ·have j:∀ r,Xq f L (x :: r)=Xq f L r:=fun r=>if_neg h
   rw [j,j,ih]
theorem Jdm {f:List ByteArray} {m:List ByteArray} (h:i < m.length):Xq f L (m.take (i+1))=Xq f L (m.take i) ++ (if Xu f (Yc m i) then [L.getD (ZJ f (Yc m i)) []] else []):=by
 rw [List.take_succ_eq_append_getElem h,Jbo,Xk m i h]
 congr 1
theorem Ja2 (f:List ByteArray) (L:List (List Yb)):∀ m:List ByteArray,(Xq f L m).length<=m.length
 | []=>Nat.le_refl _
 | x :: m=>by
  have:=Ja2 f L m
  unfold Xq
  split
  ·simp;exact this
  ·simp;omega
def lT (w:World) (j:List Value) (LL:List (List Yb)):Prop:=j.length=LL.length/\∀ i,i < LL.length->∃ q c,j[i]?=some (.slice q (LL.getD i []).length c)/\Ql Ze w q (LL.getD i [])/\(LL.getD i []).length<=c/\(q=none->LL.getD i []=[]/\c=0)
theorem lT.snoc {w:World} {y:List Value}  {c:Nat} (h:lT w y LL) (O:Ql Ze w q row) (Q:row.length<=c) (U:q=none->row=[]/\c=0):lT w (y ++ [.slice q row.length c]) (LL ++ [row]):=by
 refine ⟨by simp [h.1],fun i D=>?_⟩
 rw [List.length_append,List.length_singleton] at D
 by_cases j:i < LL.length
 ·obtain ⟨G,I,J,K,M,N⟩:=h.2 i j
  have e:(LL ++ [row]).getD i []=LL.getD i []:=by rw [List.getD_eq_getElem?_getD,List.getD_eq_getElem?_getD,List.getElem?_append_left j]
  rw [e]
  exact ⟨G,I,by rw [List.getElem?_append_left (by rw [h.1];exact j)];exact J,K,M,N⟩
 ·obtain rfl:i=LL.length:=by omega
  have e:(LL ++ [row]).getD LL.length []=row:=by rw [List.getD_eq_getElem?_getD,List.getElem?_append_right (Nat.le_refl _),Nat.sub_self];rfl
  rw [e]
  exact ⟨q,c,by rw [List.getElem?_append_right (by rw [h.1];exact Nat.le_refl _),h.1,Nat.sub_self];rfl,O,Q,U⟩
theorem lT.wO {w w':World} {B:Nat}  {j:List Value} (h:lT w j LL) (O:Below w.heap.size w w') (Q:JM w' B T v j):∃ p c,v=.slice p LL.length c/\eU w' p LL:=by
 rcases Q.cells with ⟨rfl,rfl⟩ | ⟨g,y,rfl,hB,D,G⟩
 ·have:LL=[]:=List.length_eq_zero_iff.1 h.1.symm
  subst this
  exact ⟨none,0,rfl,Or.inl rfl⟩
 ·refine ⟨some ⟨g,0,none⟩,y,by rw [h.1],Or.inr ⟨g,0,rfl,D,fun i I=>?_⟩⟩
  obtain ⟨q,c,J,K,M,N⟩:=h.2 i I
  exact ⟨q,c,by rw [Nat.zero_add];exact G i _ J,K.below O,M,N⟩
theorem Jck (h:Qa w B S ab a mv nv fv lv vs) (hl:a.c.L.length<=1000) (i7:a.from_.length<=1000) (e3:a.from_.length=a.L.length):Calls Tryz.prog 49 #[.pointer (some ⟨ab,0,none⟩)] w fun e w'=>(∃ p c,e=.returned (.slice p (Xq a.from_ a.L a.c.L).length c)/\eU w' p (Xq a.from_ a.L a.c.L))/\Below w.heap.size w w':=by
 obtain ⟨i0,e4,e5,e6,e8⟩:=info_parts VU
 have e9:Hid (Qa w B S ab a mv nv fv lv vs):=h
 obtain ⟨mp,mc,f3,b7,h9,f4,f5⟩:=h.mem.at_
 obtain ⟨K,M,f6,a2,i1,f7,_⟩:=h.from_.form
 obtain ⟨lp,lc,f8,a5⟩:=h.told.wO
 subst f3 f6 f8
 have i2:ab < w.heap.size:=(h.aO ab h.self).2
 have a6:Hid (∀ W,Below w.heap.size w W->(W.cell? ⟨ab,7,none⟩=some (.slice mp a.c.L.length mc)/\W.cell? ⟨ab,14,none⟩=some (.slice K a.from_.length M)/\W.cell? ⟨ab,15,none⟩=some (.slice lp a.L.length lc))/\Strs W mp a.c.L/\Strs W K a.from_/\eU W lp a.L):=fun W I=>by
  have hh:=e9.out.below I
  exact ⟨⟨hh.cell 7,hh.cell 14,hh.cell 15⟩,b7.below I,a2.below I,a5.below I⟩
 have f9:Hid (eU w lp a.L):=a5
 have g0:Hid (a.from_.length=a.L.length):=e3
 have a7:Hid (∀ i,i < a.c.L.length->Xq a.from_ a.L (a.c.L.take (i+1))=Xq a.from_ a.L (a.c.L.take i) ++ (if Xu a.from_ (Yc a.c.L i) then [a.L.getD (ZJ a.from_ (Yc a.c.L i)) []] else [])):=fun i hi=>Jdm hi
 have g1:Hid (∀ i,(Xq a.from_ a.L (a.c.L.take i)).length<=a.c.L.length):=fun i=>Nat.le_trans (Ja2 _ _ _) (by rw [List.length_take];omega)
 have i3:Hid (a.c.L.take a.c.L.length=a.c.L):=List.take_length
 have a8:Hid (∀ (s:ByteArray) W,Below w.heap.size w W->s ∈ a.from_->Calls Tryz.prog 46 #[.slice K a.from_.length M,.string s] W fun e w'=>e=.returned (.int .i64 ((ZJ a.from_ s:Nat):Int))/\w'=W):=fun s W I hs=>ML K a.from_ M s W (by omega) (a2.below I) hs
 have a9:Hid (∀ (s:ByteArray) W,Below w.heap.size w W->s ∉ a.from_->Calls Tryz.prog 46 #[.slice K a.from_.length M,.string s] W fun e w'=>e=.returned (.int .i64 (-1))/\w'=W):=fun s W I hs=>O5 K a.from_ M s W (by omega) (a2.below I) hs
 clear h b7 f5 a2 a5 f7 f4 e3
 obtain ⟨⟨c7,g2,g3⟩,_⟩:=a6.out w (Below.refl _ _)
 go_enter Tryz.func49,Tryz.ntmps49
 go_wp2
 go_loopw [3,4] (fun v x wr=>∃ i:Nat,i<=a.c.L.length/\x=.int .i64 i/\(∃ J,JM wr w.heap.size 55 v J/\lT w J (Xq a.from_ a.L (a.c.L.take i)))/\Below w.heap.size w wr) (fun _ x _=>a.c.L.length - (intOf x).toNat)
 case atStart=>exact ⟨0,Nat.zero_le _,rfl,⟨[],JM.nil _ _ _,rfl,fun i hi=>absurd hi (Nat.not_lt_zero _)⟩,Below.refl _ _⟩
 case round =>
  obtain ⟨i,hi,rfl,⟨J,hO,b0⟩,hB⟩:=hrel
  obtain ⟨y,rfl⟩:∃ y,y=wr:=⟨_,rfl⟩
  obtain ⟨v,rfl⟩:∃ v,v=u3:=⟨_,rfl⟩
  have Q:Hid (JM y w.heap.size 55 v J):=hO
  have a3:Hid (lT w J (Xq a.from_ a.L (a.c.L.take i))):=b0
  have G:Hid (Below w.heap.size w y):=hB
  have i4:J.length<=1000:=by rw [b0.1];have:=g1.out i;omega
  obtain ⟨⟨d7,d0,d1⟩,g4,_,_⟩:=a6.out y hB
  have g5:w.heap.size<=y.heap.size:=hB.size
  clear hO b0 c7 g2 g3
  by_cases a4:i < a.c.L.length
  ·rcases g4 with h0 | ⟨b,o,g6,i5,d2⟩
   ·rw [h0] at a4;exact absurd a4 (Nat.not_lt_zero _)
   have q1:=d2 i a4
   have U:=a7.out i a4
   have b1:=a8.out (Yc a.c.L i)
   have b2:=a9.out (Yc a.c.L i)
   subst g6
   clear d2 hB
   generalize Yc a.c.L i=t at *
   by_cases Y:t ∈ a.from_
   ·rw [if_pos (Zl.2 Y)] at U
    have b3:ZJ a.from_ t < a.L.length:=by rw [<- g0.out];exact lM Y
    have Z:Hid (∀ W,Below w.heap.size w W->Calls Tryz.prog 46 #[.slice K a.from_.length M,.string t] W fun e w'=>e=.returned (.int .i64 ((ZJ a.from_ t:Nat):Int))/\w'=W):=fun W I=>b1 W I Y
    rcases f9.out with h0 | ⟨vb,vo,g7,d3,d4⟩
    ·rw [h0] at b3;exact absurd b3 (Nat.not_lt_zero _)
    obtain ⟨rq,rc,d5,d6,g8,g9⟩:=d4 _ b3
    have b4:Hid (Xq a.from_ a.L (a.c.L.take (i+1))=Xq a.from_ a.L (a.c.L.take i) ++ [a.L.getD (ZJ a.from_ t) []]):=U
    have h1:Hid (lT w (J ++ [.slice rq (a.L.getD (ZJ a.from_ t) []).length rc]) (Xq a.from_ a.L (a.c.L.take i) ++ [a.L.getD (ZJ a.from_ t) []])):=a3.out.snoc d6 g8 g9
    have r1:y.cell? ⟨vb,vo+ZJ a.from_ t,none⟩=some (.slice rq (a.L.getD (ZJ a.from_ t) []).length rc):=(G.out.cell (p:=⟨vb,vo+ZJ a.from_ t,none⟩) d3).trans d5
    subst g7
    clear d4 d5 d6 b1 b2 U a8 a9 a7
    generalize a.L.getD (ZJ a.from_ t) []=row at *
    generalize ZJ a.from_ t=ix at *
    go_wp2
    refine wp_region_still_tail 12 (by kernel_rfl) (by kernel_rfl) ?_
    simp only [List.take_succ_cons,List.take_zero,List.drop_succ_cons,List.drop_zero]
    still_step
    still_step
    still_step
    still_step
    still_step
    still_step
    still_step
    still_step
    still_step
    still_step
    still_step
    still_step
    refine wpStill_nil ?_
    obtain ⟨j,N⟩:∃ j,j=y.drewN 1:=⟨_,rfl⟩
    have D:Below y.heap.size y j:=by rw [N];exact below_drewN (Below.refl _ _) 1
    have b5:=Z.out j (G.out.trans (D.mono G.out.size))
    have b6:Hid (j=y.drewN 1):=N
    have a0:Hid (JM j w.heap.size 55 v J):=JM.kept (row:=none) Q.out ⟨D.os,D.tape,D.output,D.size,fun k O _=>D.block k O⟩ (by cases v.ownBlock <;> simp)
    have X:Hid (Below w.heap.size w j):=G.out.trans (D.mono G.out.size)
    obtain ⟨⟨e7,h2,h3⟩,_⟩:=a6.out j X.out
    have r2:j.cell? ⟨vb,vo+ix,none⟩=some (.slice rq row.length rc):=(D.cell (p:=⟨vb,vo+ix,none⟩) (Nat.lt_of_lt_of_le d3 g5)).trans r1
    have h4:w.heap.size<=j.heap.size:=X.out.size
    clear N D Q G d7 d0 d1 q1 r1 Z
    change wpList _ _ _ _ _ (y.drewN 1)
    rw [<- b6.out]
    go_wp2_with (first | (go_at_call 46;refine b5.mono ?_;rintro e w3 ⟨rfl,a1⟩;rw [a1];clear a1 w3) | (at_builtin;refine yL rfl (.tmp 31) (.tmp 39) 44 rfl w.heap.size 55 i0 (.slice none 0 0) 24 Tryz.underlying44 e4 e5 rfl e6 e8 (by decide) v J rfl (JM.kept (row:=none) a0.out ⟨rfl,rfl,rfl,by simp,fun k O _=>Below.heap_alloc _ _ k O⟩ (by cases v.ownBlock <;> simp)) ⟨j.heap.size,0,none⟩ 1 (.slice rq row.length rc) rfl rfl (by rw [World.cell?_alloc_at _ _ _ _ rfl];rfl) (by omega) (by simp;omega) ?_;intro v4 w4 d8 d9 _))
    have h5:Hid (JM w4 w.heap.size 55 v4 (J ++ [.slice rq row.length rc])):=d8
    have h6:Hid (Below w.heap.size w w4):=(X.out.alloc h4 _).grown d9 (by simp;omega) (fun k O=>(a0.out.block O).1)
    clear d8 d9 a0 X e7 h2 h3 r2
    go_wp2
    go_roundw
    case rel=>exact ⟨i+1,by omega,by go_num,⟨_,h5.out,by rw [b4.out];exact h1.out⟩,h6.out⟩
    case measure=>simp [intOf];omega
   ·rw [if_neg (fun h=>Y (Zl.1 h)),List.append_nil] at U
    have Z:Hid (∀ W,Below w.heap.size w W->Calls Tryz.prog 46 #[.slice K a.from_.length M,.string t] W fun e w'=>e=.returned (.int .i64 (-1))/\w'=W):=fun W I=>b2 W I Y
    have b4:Hid (Xq a.from_ a.L (a.c.L.take (i+1))=Xq a.from_ a.L (a.c.L.take i)):=U
    clear b1 b2 U a8 a9 a7
    go_wp2
    refine wp_region_still_tail 12 (by kernel_rfl) (by kernel_rfl) ?_
    simp only [List.take_succ_cons,List.take_zero,List.drop_succ_cons,List.drop_zero]
    still_step
    still_step
    still_step
    still_step
    still_step
    still_step
    still_step
    still_step
    still_step
    still_step
    still_step
    still_step
    refine wpStill_nil ?_
    obtain ⟨j,N⟩:∃ j,j=y.drewN 1:=⟨_,rfl⟩
    have D:Below y.heap.size y j:=by rw [N];exact below_drewN (Below.refl _ _) 1
    have b5:=Z.out j (G.out.trans (D.mono G.out.size))
    have b6:Hid (j=y.drewN 1):=N
    have a0:Hid (JM j w.heap.size 55 v J):=JM.kept (row:=none) Q.out ⟨D.os,D.tape,D.output,D.size,fun k O _=>D.block k O⟩ (by cases v.ownBlock <;> simp)
    have X:Hid (Below w.heap.size w j):=G.out.trans (D.mono G.out.size)
    clear N D Q G d7 d0 d1 q1 Z
    change wpList _ _ _ _ _ (y.drewN 1)
    rw [<- b6.out]
    go_wp2_with (go_at_call 46;refine b5.mono ?_;rintro e w3 ⟨rfl,a1⟩;rw [a1];clear a1 w3)
    go_roundw
    case rel=>exact ⟨i+1,by omega,by go_num,⟨_,a0.out,by rw [b4.out];exact a3.out⟩,X.out⟩
    case measure=>simp [intOf];omega
  ·have e0:a.c.L.take i=a.c.L:=List.take_of_length_le (by omega)
   have e1:Hid (lT w J (Xq a.from_ a.L a.c.L)):=by have:=a3.out;rw [e0] at this;exact this
   obtain ⟨pw,cw,h7,e2⟩:=e1.out.wO G.out Q.out
   subst h7
   have h8:Hid (eU y pw (Xq a.from_ a.L a.c.L)):=e2
   clear e0 e2 Q a3 e1
   go_wp2
   go_ret
   exact ⟨⟨pw,cw,rfl,h8.out⟩,G.out⟩
end
theorem CS (n:Int) (v:Yb):n<=Yk n v:=by unfold Yk;split <;> omega
theorem ZK:∀ (l:List Yb) (n:Int),n<=l.foldl Yk n
 | [],n=>Int.le_refl n
 | v :: l,n=>Int.le_trans (CS n v) (ZK l _)
theorem Q5:∀ (l:List Yb) (n:Int),0<=n->(∀ v ∈ l,v.n<=1099511627776->v.n<=l.foldl Yk n)/\(l.foldl Yk n=n∨∃ v ∈ l,v.n=l.foldl Yk n/\v.n<=1099511627776)
 | [],n,_=>⟨(fun v G=>by cases G),Or.inl rfl⟩
 | v :: l,n,h=>by
  have I:0<=Yk n v:=Int.le_trans h (CS n v)
  obtain ⟨J,y⟩:=Q5 l (Yk n v) I
  refine ⟨fun x j K=>?_,?_⟩
  ·rcases List.mem_cons.1 j with rfl | j
   ·refine Int.le_trans ?_ (ZK l _)
    unfold Yk
    split <;> omega
   ·exact J x j K
  ·rcases y with y | ⟨x,j,M,N⟩
   ·show l.foldl Yk (Yk n v)=n∨_
    by_cases D:n < v.n/\v.n<=1099511627776
    ·refine Or.inr ⟨v,by simp,?_,D.2⟩
     show v.n=l.foldl Yk (Yk n v)
     rw [y]
     unfold Yk
     rw [if_pos D]
    ·left
     rw [y]
     unfold Yk
     rw [if_neg D]
   ·exact Or.inr ⟨x,by simp [j],M,N⟩
theorem Jqx (h:∀ v,v ∈ L.flatten↔v ∈ M.flatten):XF L=XF M:=by
 unfold XF
 obtain ⟨D,G⟩:=Q5 L.flatten 0 (by decide)
 obtain ⟨I,J⟩:=Q5 M.flatten 0 (by decide)
 have K:=ZK L.flatten 0
 have N:=ZK M.flatten 0
 refine Int.le_antisymm ?_ ?_
 ·rcases G with e | ⟨v,j,e,y⟩
  ·rw [e];exact N
  ·rw [<- e];exact I v ((h v).1 j) y
 ·rcases J with e | ⟨v,j,e,y⟩
  ·rw [e];exact K
  ·rw [<- e];exact D v ((h v).2 j) y
theorem KH {l:List Yb}:∀ {L:List (List Yb)},l ∈ L->l.length<=L.flatten.length
 | m :: L,h=>by
  rw [List.flatten_cons,List.length_append]
  rcases List.mem_cons.1 h with rfl | h
  ·omega
  ·have:=KH h
   omega
theorem Jjs {all:List Yb} {S:(Int×Int)×ByteArray×Bool} {v:Yb} (y:1<=k) (h:S.2.1.size<=1000):(XH n k all S v).2.1.size<=1000:=by
 unfold XH
 split
 ·exact h
 ·split
  ·exact h
  ·rename_i j
   show (gB _ _ _).size<=1000
   rw [JpW]
   exact (FF y j).2.1
theorem y9 {n k:Nat} {all:List Yb} (j:1<=k):∀ (L:List Yb) (S:(Int×Int)×ByteArray×Bool),S.2.1.size<=1000->(L.foldl (XH n k all) S).2.1.size<=1000
 | [],_,h=>h
 | _ :: L,_,h=>y9 j L _ (Jjs j h)
structure X4 (a:Za):Prop where
 cfg:¬ 0 < (Jg a.c).1
 rD:¬ 0 < (Jg a.next).1
 key:a.key.size<=100
 name:a.name.size<=100
 aI:a.aI=true
 BL:a.put=false
 tJ:0<=a.op/\a.op<=9223372036854775807
 sD:0<=a.config/\a.config<=9223372036854775807
 room:a.st=.sealing->a.config < 9223372036854775807
 text:a.text.size<=1000
 st:a.st≠.looking
 nodup:a.from_.Nodup
 sub:∀ x ∈ a.from_,x ∈ a.c.L
 both:a.from_.length=a.L.length
 aS:a.st=.keeping->a.found=true
 cM:∀ l ∈ a.L,∀ v ∈ l,Jt v
theorem JaX  (J:a.st≠.looking) (h:a.aM m=true):(a.st=.sealing∨a.st=.keeping)/\m.from_ ∈ a.c.L/\m.from_ ∉ a.from_:=by
 unfold Za.aM at h
 rw [Bool.and_eq_true,Bool.and_eq_true] at h
 obtain ⟨D,G,y⟩:=h
 refine ⟨?_,Zl.1 G,fun I=>by rw [Zl.2 I] at y;cases y⟩
 have j:=(of_decide_eq_true D).1
 cases e:a.st with
 | looking=>exact absurd e J
 | sealing=>exact Or.inl rfl
 | keeping=>exact Or.inr rfl
 | done=>rw [e] at j;exact absurd rfl j
 | refused=>rw [e] at j;exact absurd rfl j
theorem X4.heard  (h:X4 a) (K:a.aM m=true) (M:∀ v ∈ m.L,Jt v):X4 (a.heard m):=by
 obtain ⟨_,G,I⟩:=JaX h.st K
 refine ⟨h.cfg,h.rD,h.key,h.name,h.aI,h.BL,h.tJ,h.sD,h.room,h.text,h.st,?_,?_,?_,h.aS,?_⟩
 ·show (a.from_ ++ [m.from_]).Nodup
  rw [List.nodup_append]
  exact ⟨h.nodup,by simp,fun x j y J=>by rw [List.mem_singleton.1 J];intro e;exact I (e ▸ j)⟩
 ·intro x j
  rcases List.mem_append.1 j with j | j
  ·exact h.sub x j
  ·rw [List.mem_singleton.1 j];exact G
 ·show (a.from_ ++ [m.from_]).length=(a.L ++ [m.L]).length
  simp [h.both]
 ·intro l D
  rcases List.mem_append.1 D with D | D
  ·exact h.cM l D
  ·rw [List.mem_singleton.1 D];exact M
theorem JcV (h:X4 a):a.bR.text.size<=1000:=by
 unfold Za.bR
 rw [h.BL]
 obtain ⟨⟨j,_,_⟩,_⟩:=Xm h.cfg
 exact y9 (by omega) _ _ (by decide)
theorem X4.ended (h:X4 a) {st:St} (j:st=.done∨st=.refused):X4 { a with st:=st }:=⟨h.cfg,h.rD,h.key,h.name,h.aI,h.BL,h.tJ,h.sD,(by intro e;rcases j with j | j <;> rw [j] at e <;> cases e),h.text,(by intro e;rcases j with j | j <;> rw [j] at e <;> cases e),h.nodup,h.sub,h.both,(fun e=>by rcases j with j | j <;> rw [j] at e <;> cases e),h.cM⟩
theorem IV (a:Za):a.bR.next=a.next:=by
 unfold Za.bR
 split <;> rfl
theorem X4.found (h:X4 a) (Q:a.st=.sealing):X4 a.bR:=by
 obtain ⟨D,J,K,M,U,N,G,j,y,I,O⟩:=YE a
 exact ⟨by rw [D];exact h.cfg,by rw [IV];exact h.rD,by rw [J];exact h.key,by rw [K];exact h.name,by rw [M];exact h.aI,by rw [O];exact h.BL,by rw [N];exact h.tJ,by rw [G];exact h.sD,by rw [j,G];exact h.room,JcV h,by rw [j];exact h.st,by rw [y];exact h.nodup,by rw [y,D];exact h.sub,by rw [y,I];exact h.both,(fun e=>by rw [j,Q] at e;cases e),by rw [I];exact h.cM⟩
theorem Jcn (h:a.aI=true):a.keeps={ a with st:=.keeping,from_:=[],L:=[],c:=a.next,config:=a.config+1 }:=by
 unfold Za.keeps
 rw [h]
 rfl
theorem X4.keeps (h:X4 a) (D:a.st=.sealing) (G:a.found=true):X4 a.keeps:=by
 rw [Jcn h.aI]
 exact ⟨h.rD,h.rD,h.key,h.name,h.aI,h.BL,h.tJ,⟨by have:=h.sD.1;show 0<=a.config+1;omega,by have:=h.room D;show a.config+1<=_;omega⟩,(by intro e;cases e),h.text,(by intro e;cases e),List.nodup_nil,(fun x j=>by cases j),rfl,(fun _=>G),(fun l y=>by cases y)⟩
theorem uQ  (h:a.aM m=true) (j:a.st=.sealing):a.aD m=fU (a.heard m):=by
 unfold Za.aD fU
 have e:(a.heard m).c=a.c:=rfl
 rw [if_neg (by rw [h];decide),if_neg (fun y=>y.2 j),e]
 split
 ·rfl
 ·rw [if_neg (by rw [j];decide)]
theorem Jdp (h:X4 a) (m:Zb) (K:∀ v ∈ m.L,Jt v):X4 (a.aD m).1:=by
 cases j:a.aM m with
 | false=>rw [pW j];exact h
 | true =>
  have y:=h.heard j K
  rcases (JaX h.st j).1 with D | D
  ·rw [uQ j D]
   have G:(a.heard m).st=.sealing:=D
   unfold fU
   split
   ·exact y
   ·split
    ·exact (y.found G).ended (Or.inl rfl)
    ·rename_i J
     exact (y.found G).keeps (by rw [(YE (a.heard m)).2.2.2.2.2.2.2.1];exact G) (by cases e:(a.heard m).bR.found with | true=>rfl | false=>exact absurd e J)
  ·cases I:m.shut with
   | true=>rw [qQ j I (by rw [D];decide)];exact h.ended (Or.inr rfl)
   | false =>
    rw [uB j I D]
    dsimp only
    split
    ·exact y
    ·exact y.ended (Or.inl rfl)
section
variable {w w1 w3:World} {B:Nat} {S:Nat->Prop} {ab:Nat} {a:Za} {mv nv fv lv:Value} {vs:List Value}
theorem Qa.from (h:Qa w B S ab a mv nv fv lv vs) {x:ByteArray} (Y:Zq w1 B y (a.from_ ++ [x])) (K:w.grownBy w1 fv.ownBlock) (M:y.ownBlock=fv.ownBlock∨y.ownBlock=some w.heap.size) :
 Qa (w1.setCell ⟨ab,14,none⟩ y) B (fun k=>S k∨y.ownBlock=some k) ab { a with from_:=a.from_ ++ [x] } mv nv y lv vs/\Yd S (fun k=>S k∨y.ownBlock=some k) w (w1.setCell ⟨ab,14,none⟩ y):=by
 have U:=h.aO ab h.self
 have hz:=K.size
 have Z:∀ k,fv.ownBlock=some k->B<=k:=fun k j=>(h.aO k (h.sF k j).1).1
 have a0:Below B w w1:=(Below.refl _ _).grown K h.vP Z
 have D:Below B w (w1.setCell ⟨ab,14,none⟩ y):=a0.setCell U.1 _
 have a1:some ab≠fv.ownBlock:=fun e=>(h.sF ab e.symm).2 rfl
 have a2:w1.heap[ab]?=w.heap[ab]?:=K.block ab U.2 a1
 have W:∀ k,y.ownBlock=some k->k≠ab:=fun k j=>by
  rcases M with e | e
  ·exact (h.sF k (by rw [<- e];exact j)).2
  ·rw [e] at j;have:=Option.some.inj j;omega
 have N:∀ k,k < w.heap.size->k≠ab->fv.ownBlock≠some k->(w1.setCell ⟨ab,14,none⟩ y).heap[k]?=w.heap[k]?:=fun k j G I=>(Below.heap_setCell w1 _ _ k G).trans (K.block k j (fun e=>I e.symm))
 refine ⟨⟨(V0 (a2.trans h.eK) 14 y).trans rfl,h.mem.hY D,h.rD.hY D,JaN Y fun k j=>Below.heap_setCell w1 _ _ k (W k j),?_,Or.inl h.self,fun k j=>⟨Or.inr j,W k j⟩,fun k j=>?_,fun v J k j=>?_,fun k j=>?_⟩,⟨D.os,D.tape,D.output,D.size,fun k j X=>?_,fun k j=>?_⟩⟩
 ·exact JaB h.told D.size (fun k j=>N k (h.aO k (h.sL k j).1).2 (h.sL k j).2.1 (h.sL k j).2.2) (fun v J k j=>N k (h.aO k (h.sV v J k j).1).2 (h.sV v J k j).2.1 (h.sV v J k j).2.2)
 ·obtain ⟨G,I,O⟩:=h.sL k j
  refine ⟨Or.inl G,I,?_⟩
  rcases M with e | e
  ·rw [e];exact O
  ·rw [e];intro Q;have:=Option.some.inj Q;have:=(h.aO k G).2;omega
 ·obtain ⟨G,I,O⟩:=h.sV v J k j
  refine ⟨Or.inl G,I,?_⟩
  rcases M with e | e
  ·rw [e];exact O
  ·rw [e];intro Q;have:=Option.some.inj Q;have:=(h.aO k G).2;omega
 ·rcases j with j | j
  ·have:=h.aO k j;exact ⟨this.1,Nat.lt_of_lt_of_le this.2 D.size⟩
  ·have:=Y.block j
   exact ⟨this.1,by have e:(w1.setCell ⟨ab,14,none⟩ y).heap.size=w1.heap.size:=(by simp [World.setCell]);omega⟩
 ·exact N k j (fun e=>X (by rw [e];exact h.self)) (fun e=>X (h.sF k e).1)
 ·rcases j with j | j
  ·exact Or.inl j
  ·rcases M with e | e
   ·exact Or.inl (h.sF k (by rw [<- e];exact j)).1
   ·rw [e] at j;have:=Option.some.inj j;exact Or.inr (by omega)
theorem Qa.list (h:Qa w B S ab a mv nv fv lv vs)  {o:Obj} (Z:Zc Ze E w1 w.heap.size r row) (I:Below w.heap.size w w1) (hv:JM w3 B 55 y (vs ++ [r])) (J:(w1.alloc o).grownBy w3 lv.ownBlock) (N:y.ownBlock=lv.ownBlock∨y.ownBlock=some (w1.alloc o).heap.size) :
 Qa (w3.setCell ⟨ab,15,none⟩ y) B (fun k=>S k∨y.ownBlock=some k∨r.ownBlock=some k) ab { a with L:=a.L ++ [row] } mv nv fv y (vs ++ [r])/\Yd S (fun k=>S k∨y.ownBlock=some k∨r.ownBlock=some k) w (w3.setCell ⟨ab,15,none⟩ y):=by
 have Q:=h.aO ab h.self
 have hz:=I.size
 have K:(w1.alloc o).heap.size=w1.heap.size+1:=by simp
 have a4:=J.size
 have U:(w3.setCell ⟨ab,15,none⟩ y).heap.size=w3.heap.size:=by simp [World.setCell]
 have hT:=O3.snoc h.told h.vP Z I hv J N
 have a0:∀ k,lv.ownBlock=some k->B<=k:=fun k j=>(h.aO k (h.sL k j).1).1
 have a1:Below B w (w1.alloc o):=(I.mono h.vP).alloc (Nat.le_trans h.vP hz) _
 have a2:Below B w w3:=a1.trans ((Below.refl _ _).grown J (by rw [K];have:=h.vP;omega) a0)
 have G:Below B w (w3.setCell ⟨ab,15,none⟩ y):=a2.setCell Q.1 _
 have M:∀ k,r.ownBlock=some k->w.heap.size<=k/\k < w1.heap.size:=fun k j=>Z.block j
 have W:∀ k,y.ownBlock=some k->k≠ab:=fun k j=>by
  rcases N with e | e
  ·exact (h.sL k (by rw [<- e];exact j)).2.1
  ·rw [e,K] at j;have:=Option.some.inj j;omega
 have X:∀ k,k < w.heap.size->k≠ab->lv.ownBlock≠some k->(w3.setCell ⟨ab,15,none⟩ y).heap[k]?=w.heap[k]?:=fun k j h1 h2=>(Below.heap_setCell w3 _ _ k h1).trans ((J.block k (by omega) (fun e=>h2 e.symm)).trans ((Below.heap_alloc w1 o k (by omega)).trans (I.block k j)))
 have a3:w3.heap[ab]?=w.heap[ab]?:=(J.block ab (by omega) (fun e=>(h.sL ab e.symm).2.1 rfl)).trans ((Below.heap_alloc w1 o ab (by omega)).trans (I.block ab Q.2))
 refine ⟨⟨(V0 (a3.trans h.eK) 15 y).trans rfl,h.mem.hY G,h.rD.hY G,JaN h.from_ fun k j=>X k (h.aO k (h.sF k j).1).2 (h.sF k j).2 (fun e=>(h.sL k e).2.2 j),?_,Or.inl h.self,fun k j=>⟨Or.inl (h.sF k j).1,(h.sF k j).2⟩,fun k j=>?_,fun v D k j=>?_,fun k j=>?_⟩,⟨G.os,G.tape,G.output,G.size,fun k j Y=>?_,fun k j=>?_⟩⟩
 ·refine JaB hT (Nat.le_of_eq U.symm) (fun k j=>Below.heap_setCell w3 _ _ k (W k j)) (fun v D k j=>Below.heap_setCell w3 _ _ k ?_)
  rcases List.mem_append.1 D with D | D
  ·exact (h.sV v D k j).2.1
  ·rw [List.mem_singleton.1 D] at j;have:=(M k j).1;show k≠ab;omega
 ·refine ⟨Or.inr (Or.inl j),W k j,fun e=>?_⟩
  rcases N with O | O
  ·exact (h.sL k (by rw [<- O];exact j)).2.2 e
  ·rw [O,K] at j;have:=Option.some.inj j;have:=(h.aO k (h.sF k e).1).2;omega
 ·rcases List.mem_append.1 D with D | D
  ·exact ⟨Or.inl (h.sV v D k j).1,(h.sV v D k j).2⟩
  ·rw [List.mem_singleton.1 D] at j
   have:=(M k j).1
   exact ⟨Or.inr (Or.inr j),by omega,fun e=>by have:=(h.aO k (h.sF k e).1).2;omega⟩
 ·rw [U]
  rcases j with j | j | j
  ·have:=h.aO k j;exact ⟨this.1,by omega⟩
  ·have:=hv.block j;exact this
  ·have:=M k j;have:=h.vP;exact ⟨by omega,by omega⟩
 ·exact X k j (fun e=>Y (by rw [e];exact h.self)) (fun e=>Y (h.sL k e).1)
 ·rcases j with j | j | j
  ·exact Or.inl j
  ·rcases N with e | e
   ·exact Or.inl (h.sL k (by rw [<- e];exact j)).1
   ·rw [e,K] at j;have:=Option.some.inj j;exact Or.inr (by omega)
  ·exact Or.inr (M k j).1
end
theorem Yd.trans {S S1 I:Nat->Prop} (j:Yd S S1 w J) (y:Yd S1 I J K):Yd S I w K :=
 ⟨y.os.trans j.os,y.tape.trans j.tape,y.output.trans j.output,Nat.le_trans j.size y.size,fun k D G=>(y.block k (Nat.lt_of_lt_of_le D j.size) (fun h=>(j.new k h).elim G (by omega))).trans (j.block k D G),fun k D=>(y.new k D).elim (j.new k) (fun h=>Or.inr (Nat.le_trans j.size h))⟩
theorem X2 {P:Program} {J:Array Oper} {a:Act} {K:Act->World->Prop} {E:Prop}
 (hg:o.guard=none) (s x:Operand) (t:TypeId) (a1:o.op=Op.call { callee:=Callee.builtin Builtin.append,args:=#[s,x],argTypes:=#[t,t] })
 (B:Nat) (e:TypeId) (i:TypeInfo) (z:Value) (bytes:Nat) (M:P.underlying t=some (.slice e)) (N:P.info? e=some i) (O:i.zero=some z) (a2:z.cells.size=1) (U:i.size=1) (W:i.bytes=bytes) (X:bytes<=64)
 (v:Value) (l:List Value) (hs:a.eval s=v) (Y:JM w B e v l) (ad:Addr) (c:Nat) (u:Value) (Z:u.oneCell'=true) (G:a.eval x=.slice (some ad) 1 c) (hb:w.cell? ad=some u) (hl:l.length+1<=1000000) (a3:B<=w.heap.size)
 (hK:∀ y w',JM w' B e y (l ++ [u])->w.grownBy w' v.ownBlock->(y.ownBlock=v.ownBlock∨y.ownBlock=some w.heap.size)->K (a.put o.dst y) w') :
 if Region.wanted o (yielded J a.tmps)=true then Oper.wp P o a w K Q else E:=by
 have hw:Region.wanted o (yielded J a.tmps)=true:=by simp [Region.wanted,hg]
 rw [if_pos hw]
 have a0:∀ j x,[u][j]?=some x->w.cell? (ad.add j)=some x:=by
  intro j x D
  match j,D with
  | 0,D =>
   obtain rfl:u=x:=by simpa using D
   simpa [Addr.add] using hb
 have a4:(l.length+1)*bytes<=1000000*64:=Nat.mul_le_mul hl X
 obtain ⟨y,w',I,h2,h3,_⟩:=run_append_own (P:=P) w B t o.type e i z 1 bytes M N O U W a2 (by decide) v l.length l Y ad 1 c [u] rfl a0 (fun x G=>by rw [List.mem_singleton.1 G];exact Z) (by unfold maxLen;omega) (by omega) a3
 have h4:=Jgr B t o.type e i z bytes M N O U W X v l Y ad c u Z hb hl I
 have h5:JM w' B e y (l ++ [u]):=by
  unfold JM
  rw [List.length_append]
  exact h2
 unfold Oper.wp
 simp [execOp,a1,resolve,invoke,builtin,hs,G,I,Result.andThen]
 exact hK y w' h5 h3 h4
theorem Jak {E:eW α} {M:Array Oper} {a:Act} {K:Act->World->Prop} 
 (a4:o.guard=none) (s x:Operand) (t T:TypeId) (N:o.op=.call { callee:=.builtin .append,args:=#[s,x],argTypes:=#[t,t] }) (z:Value) (bytes:Nat) (O:Tryz.prog.underlying t=some (.slice T))
 (a5:(Tryz.prog.info? T).map (fun i=>(i.zero,i.size,i.bytes))=some (some z,E.k,bytes)) (a6:z.cells.size=E.k)
 (B:Nat) (v:Value) (l:List α) (U:a.eval s=v) (D:Zc E T w B v l) (q:Option Addr) (r:List α) (c:Nat) (W:a.eval x=.slice q r.length c) (hq:Ql E w q r) (a7:q=none->r=[]/\c=0) (hl:l.length+r.length<=maxLen) (a8:(l.length+r.length)*bytes<=140737488355328) (X:B<=w.heap.size)
 (h:∀ y w',Zc E T w' B y (l ++ r)->Below B w w'->K (a.put o.dst y) w') :
 if Region.wanted o (yielded M a.tmps)=true then Oper.wp Tryz.prog o a w K Q else E':=by
 have Y:Region.wanted o (yielded M a.tmps)=true:=by simp [Region.wanted,a4]
 rw [if_pos Y]
 obtain ⟨I,J,Z,a0,a1⟩:=info_parts a5
 cases q with
 | none =>
  obtain ⟨hr,hc⟩:=a7 rfl
  subst hr hc
  have a2:a.eval x=.slice none 0 0:=W
  have G:=run_append_owned_none (P:=Tryz.prog) (w:=w) B t o.type T I E.k O J v l.length (Qb E l) D
  unfold Oper.wp
  simp [execOp,N,resolve,invoke,builtin,U,a2,G,Result.andThen]
  exact h v w (by rw [List.append_nil];exact D) (Below.refl _ _)
 | some ad =>
  have hn:∀ j u,(Qb E r)[j]?=some u->w.cell? (ad.add j)=some u:=by
   rcases hq with h0 | ⟨b,o',hp,_,a3⟩
   ·subst h0
    intro j u hj
    simp [Qb] at hj
   ·obtain rfl:ad=⟨b,o',none⟩:=by simpa using hp
    exact Ql.cells a3
  obtain ⟨y,w',G,h2,h3,_⟩:=run_append_own (P:=Tryz.prog) w B t o.type T I z E.k bytes O J Z a0 a1 a6 E.pos v l.length (Qb E l) D ad r.length c (Qb E r) (Qr E r) hn (Zz E r) hl a8 X
  unfold Oper.wp
  simp [execOp,N,resolve,invoke,builtin,U,W,G,Result.andThen]
  refine h y w' ?_ ((Below.refl _ _).grown h3 X (fun k hk=>(D.block hk).1))
  unfold Zc
  rw [Qj,List.length_append]
  exact h2
def J1 (T:TypeId) (B:Nat) (w:World) (v:Value) (j:List (Zb×Lv)):Prop:=Zc mE T w B v j/\∀ x ∈ j,Jn w x/\∀ b o,x.2.1=some ⟨b,o,none⟩->(B<=b/\b < w.heap.size)/\v.ownBlock≠some b
theorem KB  {row:Option Nat} (h:Jn w x) (j:w.grownBy w' row) (y:∀ b o,x.2.1=some ⟨b,o,none⟩->some b≠row):Jn w' x:=⟨h.len,NM h.eC j y,h.room,h.empty⟩
theorem J1.snoc  {Q:World} {M:Value} {U:List (Zb×Lv)} (h:J1 T B J v U) (hB:B<=J.heap.size) (X:Below J.heap.size J K) (Z:Jn K x) (N:∀ b o,x.2.1=some ⟨b,o,none⟩->J.heap.size<=b/\b < K.heap.size)
 (hO:Zc mE T Q B M (U ++ [x])) (W:K.grownBy Q v.ownBlock) (Y:M.ownBlock=v.ownBlock∨M.ownBlock=some K.heap.size):J1 T B Q M (U ++ [x]):=by
 have hz:=X.size
 have a0:=W.size
 refine ⟨hO,fun y G=>?_⟩
 rcases List.mem_append.1 G with G | G
 ·obtain ⟨O,D⟩:=h.2 y G
  refine ⟨KB (O.below X) W (fun b o j e=>(D b o j).2 e.symm),fun b o j=>⟨⟨(D b o j).1.1,by have:=(D b o j).1.2;omega⟩,?_⟩⟩
  have:=(D b o j).1.2
  rcases Y with e | e
  ·rw [e];exact (D b o j).2
  ·rw [e];intro I;have:=Option.some.inj I;omega
 ·rw [List.mem_singleton.1 G]
  refine ⟨KB Z W (fun b o j e=>?_),fun b o j=>⟨⟨by have:=(N b o j).1;omega,by have:=(N b o j).2;omega⟩,?_⟩⟩
  ·have O:=N b o j
   have D:=(h.1.block e.symm).2
   omega
  ·have O:=N b o j
   rcases Y with e | e
   ·rw [e]
    intro I
    have:=(h.1.block I).2
    omega
   ·rw [e];intro I;have:=Option.some.inj I;omega
theorem J1.nil (T:TypeId) (B:Nat) (w:World):J1 T B w (.slice none 0 0) []:=⟨Zc.nil _ _ _,fun x j=>by cases j⟩
theorem J1.kept   {G:List (Zb×Lv)} (h:J1 T B w v G) (D:Below w.heap.size w w'):J1 T B w' v G:=⟨h.1.kept D,fun x j=>⟨(h.2 x j).1.below D,fun b o y=>⟨⟨((h.2 x j).2 b o y).1.1,Nat.lt_of_lt_of_le ((h.2 x j).2 b o y).1.2 D.size⟩,((h.2 x j).2 b o y).2⟩⟩⟩
theorem J1.at_   (h:J1 T B w v j):∃ p c,v=.slice p j.length c/\pD B w p (j.map Prod.fst):=by
 obtain ⟨p,c,D,G,_,_,I⟩:=h.1.form
 exact ⟨p,c,D,j,rfl,G,fun x y=>⟨(h.2 x y).1,fun b o e=>((h.2 x y).2 b o e).1.1⟩,fun b o e=>(I b o e).1⟩
theorem J1.SO   (h:J1 T B w v j):∃ p c,v=.slice p j.length c/\QE c B w p (j.map Prod.fst):=by
 obtain ⟨p,c,G,I,J,y,K⟩:=h.1.form
 exact ⟨p,c,G,⟨⟨j,rfl,I,fun x D=>⟨(h.2 x D).1,fun b o e=>((h.2 x D).2 b o e).1⟩,K⟩,by rw [List.length_map];exact J,fun e=>by rw [List.length_map,(y e).1];exact ⟨rfl,(y e).2⟩⟩⟩
theorem Jeu {s:ByteArray} (h:i < n):Ji (H3 n k s) i=((i:Int),JW k s i):=by
 unfold Ji H3
 rw [List.getD_eq_getElem?_getD,List.getElem?_map,List.getElem?_range h]
 rfl
theorem JeJ:(Tryz.prog.info? 59).map (fun i=>(i.zero,i.size,i.bytes))=some (some (.agg #[.string ⟨#[]⟩,.string ⟨#[]⟩,.string ⟨#[]⟩,.string ⟨#[]⟩,.int .i64 0,.int .i64 0,.bool false,.slice none 0 0]),8,112):=by kernel_rfl
section
section
variable {P:Program} {w:World}
theorem yO (base:Nat) (t I e:TypeId) (i:TypeInfo) (z:Value) (size bytes:Nat) (M:P.underlying t=some (.slice e)) (N:P.info? e=some i) (Z:i.zero=some z)
 (a4:i.size=size) (a5:i.bytes=bytes) (v:Value) (n:Nat) (xs:List Value) (O:w.ownsRow base e size v n xs)
 (a:Addr) (m c:Nat) (y:List Value) (J:y.length=m*size) (Q:∀ j u,y[j]?=some u->w.cell? (a.add j)=some u) (h1:∀ u ∈ y,u.oneCell'=true)
 (a6:n+m<=maxLen) (a0:(n+m)*bytes<=140737488355328) (hm:0 < m) {U:Value} 
 (D:(Builtin.append_ #[t,t] I #[v,.slice (some a) m c]).run P w=.ok U w'):U.ownBlock=v.ownBlock∨U.ownBlock=some w.heap.size:=by
 subst a4
 subst a5
 have a7:n+m<=9223372036854775807:=by simp only [maxLen] at a6;omega
 rcases O.2 with ⟨rfl,rfl⟩ | ⟨g,K,W,rfl,a8,hg,a9,b0,a1,b1⟩
 ·have:=run_append_nil (P:=P) w t I e i z M N Z a m c y J Q (by omega) (by omega) (by have hb:=a0;simp only [Nat.zero_add] at hb;omega)
  rw [this] at D
  injection D with G X
  subst G
  exact Or.inr rfl
 ·by_cases Y:n+m<=K
  ·have a2:n*i.size+y.length<=W.size:=by rw [J,a1,<- Nat.add_mul];exact Nat.mul_le_mul_right _ Y
   have:=run_append_room (P:=P) w t I e i M N g n K W hg a m c y J Q h1 Y a2
   rw [this] at D
   injection D with G X
   subst G
   exact Or.inl rfl
  ·have a3:∀ j u,xs[j]?=some u->w.cell? ((⟨g,0,none⟩:Addr).add j)=some u:=O.cells (g:=g) rfl
   have:=run_append_grow (P:=P) w t I e i z M N Z ⟨g,0,none⟩ n K xs O.1 a3 a m c y J Q (by omega) (by omega) (growslice_fits (by omega) a0)
   rw [this] at D
   injection D with G X
   subst G
   exact Or.inr rfl
theorem EW {I:Array Oper} {J:List Oper} {a:Act} (a2:o.guard=none) (s x:Operand) (t:TypeId)
 (ho:o.op=.call { callee:=.builtin .append,args:=#[s,x],argTypes:=#[t,t] })
 (base:Nat) (e:TypeId) (i:TypeInfo) (z:Value) (size bytes:Nat) (M:P.underlying t=some (.slice e)) (N:P.info? e=some i) (O:i.zero=some z)
 (U:i.size=size) (W:i.bytes=bytes) (a3:z.cells.size=size) (a4:0 < size)
 (v:Value) (n:Nat) (xs:List Value) (hs:a.eval s=v) (X:w.ownsRow base e size v n xs)
 (ad:Addr) (m c:Nat) (D:List Value) (hx:a.eval x=.slice (some ad) m c) (Y:D.length=m*size) (Z:∀ j u,D[j]?=some u->w.cell? (ad.add j)=some u) (h1:∀ u ∈ D,u.oneCell'=true)
 (a0:n+m<=maxLen) (a1:(n+m)*bytes<=140737488355328) (a5:base<=w.heap.size) (hm:0 < m)
 (h:∀ y w',w'.ownsRow base e size y (n+m) (xs ++ D)->w.grownBy w' v.ownBlock->(y.ownBlock=v.ownBlock∨y.ownBlock=some w.heap.size)->wpList P I Q J (a.put o.dst y) w'):wpList P I Q (o :: J) a w:=by
 refine wpList_plain a2 fun K hK=>?_
 obtain ⟨y,w',G,h2,h3,h4⟩:=run_append_own (P:=P) w base t o.type e i z size bytes M N O U W a3 a4 v n xs X ad m c D Y Z h1 a0 a1 a5
 have hw:=yO base t o.type e i z size bytes M N O U W v n xs X ad m c D Y Z h1 a0 a1 hm G
 unfold Oper.wp execOp
 simp only [ho,resolve,invoke,builtin,Sem.run_bind,Sem.run_pure,Result.andThen_ok,List.map_toArray,List.map_cons,List.map_nil,hs,hx,G]
 exact hK _ _ (h y w' h2 h3 hw)
end
end
theorem NJ {E:eW α} {X:Array Oper} {a:Act} {K:Act->World->Prop} 
 (a1:o.guard=none) (s x:Operand) (t T:TypeId) (ho:o.op=.call { callee:=.builtin .append,args:=#[s,x],argTypes:=#[t,t] }) (z:Value) (bytes:Nat) (Y:Tryz.prog.underlying t=some (.slice T))
 (a2:(Tryz.prog.info? T).map (fun i=>(i.zero,i.size,i.bytes))=some (some z,E.k,bytes)) (a3:z.cells.size=E.k)
 (B:Nat) (v:Value) (l:List α) (hs:a.eval s=v) (Z:Zc E T w B v l) (b:Nat) (c:Nat) (r:α) (hx:a.eval x=.slice (some ⟨b,0,none⟩) 1 c) (hc:∀ j u,(E.enc r)[j]?=some u->w.cell? ⟨b,j,none⟩=some u) (hl:l.length+1<=maxLen) (a0:(l.length+1)*bytes<=140737488355328) (a4:B<=w.heap.size)
 (h:∀ y w',Zc E T w' B y (l ++ [r])->w.grownBy w' v.ownBlock->(y.ownBlock=v.ownBlock∨y.ownBlock=some w.heap.size)->K (a.put o.dst y) w') :
 if Region.wanted o (yielded X a.tmps)=true then Oper.wp Tryz.prog o a w K Q else E':=by
 have hw:Region.wanted o (yielded X a.tmps)=true:=by simp [Region.wanted,a1]
 rw [if_pos hw]
 obtain ⟨D,G,I,J,M⟩:=info_parts a2
 have N:∀ j u,(E.enc r)[j]?=some u->w.cell? ((⟨b,0,none⟩:Addr).add j)=some u:=fun j u hj=>by
  have O:=hc j u hj
  by_cases e:j=0
  ·subst e;simpa [Addr.add] using O
  ·simpa [Addr.add,e] using O
 have U:(E.enc r).length=1*E.k:=by rw [E.len,Nat.one_mul]
 obtain ⟨y,w',W,h2,h3,_⟩:=run_append_own (P:=Tryz.prog) w B t o.type T D z E.k bytes Y G I J M a3 E.pos v l.length (Qb E l) Z ⟨b,0,none⟩ 1 c (E.enc r) U N (E.one r) hl a0 a4
 have h4:=yO B t o.type T D z E.k bytes Y G I J M v l.length (Qb E l) Z ⟨b,0,none⟩ 1 c (E.enc r) U N (E.one r) hl a0 (by decide) W
 unfold Oper.wp
 simp [execOp,ho,resolve,invoke,builtin,hs,hx,W,Result.andThen]
 refine h y w' ?_ h3 h4
 unfold Zc
 rw [Qj,qK,List.length_append]
 exact h2
theorem Jd9 (k:Nat) (w:World) (hk:k<=100) :
 Calls Tryz.prog 121 #[.int .i64 (k:Int)] w fun e w'=>(∃ v,e=.returned v/\pA w' w.heap.size 5 v (JB k))/\Below w.heap.size w w':=by
 obtain ⟨J,K,M,N,O⟩:=info_parts KF
 go_enter Tryz.func121,Tryz.ntmps121
 go_wp2
 go_loopw [3,4] (fun v j wr=>∃ n:Nat,n<=k/\j=.int .i64 n/\pA wr w.heap.size 5 v (JB n)/\Below w.heap.size w wr) (fun _ j _=>k - (intOf j).toNat)
 case atStart=>exact ⟨0,by omega,rfl,pA.nil _ _ _,Below.refl _ _⟩
 case round =>
  obtain ⟨n,hn,rfl,G,y⟩:=hrel
  have D:Hid (pA wr w.heap.size 5 u3 (JB n)):=G
  have I:Hid (Below w.heap.size w wr):=y
  have Q:w.heap.size<=wr.heap.size:=y.size
  have a2:(JB n).length=n:=by simp [JB]
  clear G y
  by_cases a3:n < k
  ·have U:Hid (JB (n+1)=JB n ++ [n]):=by show _=_;simp [JB,List.range_succ]
   go_wp2_with (first | (at_builtin;refine Jar rfl (.tmp 10) (.tmp 13) 138 rfl w.heap.size 5 J Tryz.underlying138 K M N O u3 (JB n) rfl (D.out.kept (World.grownBy_alloc wr _ none) (by cases hv:u3.ownBlock <;> simp)) ⟨wr.heap.size,0,none⟩ 1 n rfl (by simp [ZM]) (by omega) (by simp;omega) ?_;intro v1 W X Y a4))
   have Z:Below w.heap.size w W:=(I.out.alloc Q _).grown Y (by simp;omega) (fun k' a0=>(D.out.block a0).1)
   go_roundw
   case rel=>exact ⟨n+1,by omega,by go_num,by rw [U.out];exact X,Z⟩
   case measure=>simp [intOf];omega
  ·have a1:n=k:=by omega
   subst a1
   go_wp2
   go_ret
   exact ⟨⟨u3,rfl,D.out⟩,I.out⟩
theorem JcK (n k:Nat) (w:World) (hn:n<=100) (f5:1<=k) (U:k<=100) :
 Calls Tryz.prog 90 #[.int .i64 (n:Int),.int .i64 (k:Int)] w fun e w'=>(∃ K X,e=.returned (.slice K n X)/\QJ w' K (kK k n))/\Below w.heap.size w w':=by
 obtain ⟨i1,b6,b7,d0,d1⟩:=info_parts Jti
 obtain ⟨i0,d2,d3,d4,d5⟩:=info_parts KF
 go_enter Tryz.func90,Tryz.ntmps90
 go_wp2_with fail
 refine (Jd9 k _ U).mono ?_
 rintro e D ⟨⟨vx,rfl,a7⟩,Y⟩
 obtain ⟨Z,cx,a8,a9⟩:=a7.seg (tA k (by omega))
 rw [JE] at a8
 subst a8
 have d6:Hid (jU D Z (JB k)):=a9
 have d7:Hid (Below w.heap.size w D):=Y
 have d8:w.heap.size<=D.heap.size:=Y.size
 clear a7 a9 Y
 go_wp2
 go_loopw [6,7] (fun v x wr=>∃ i:Nat,i<=n/\x=.int .i64 i/\T2 D.heap.size wr 138 v (kK k i)/\Below D.heap.size D wr) (fun _ x _=>n - (intOf x).toNat)
 case atStart=>exact ⟨0,by omega,rfl,T2.nil _ _ _,Below.refl _ _⟩
 case round =>
  obtain ⟨i,hi,rfl,hO,a0⟩:=hrel
  have HO:Hid (T2 D.heap.size wr 138 u6 (kK k i)):=hO
  have a1:Hid (Below D.heap.size D wr):=a0
  have b0:D.heap.size<=wr.heap.size:=a0.size
  clear hO a0
  by_cases f3:i < n
  ·go_wp2_with (first | (at_make;refine wpList_make_row _ rfl (.tmp 17) (.tmp 17) 138 rfl 5 i0 (ZM 0) Tryz.underlying138 d2 d3 d4 rfl .i64 .i64 k rfl rfl (by rw [d5];omega) (by omega) ?_))
   obtain ⟨y,rfl⟩:∃ y,y=wr:=⟨_,rfl⟩
   have a2:Zo (y.alloc (.cells (madeCells #[ZM 0] k) 5)) y.heap.size 5 y.heap.size k (Qi k (fun c=>if c < 0 then Gf.aQ (JB k) c i else 0)):=by
    have:=Zo.made y y.heap.size 5 k (Nat.le_refl _) (by omega)
    rw [YL k _ (fun c=>if c < 0 then Gf.aQ (JB k) c i else 0) (fun c _=>by rw [if_neg (Nat.not_lt_zero _)])] at this
    exact this
   have a3:Below y.heap.size y (y.alloc (.cells (madeCells #[ZM 0] k) 5)):=(Below.refl _ _).alloc (Nat.le_refl _) _
   generalize y.alloc (.cells (madeCells #[ZM 0] k) 5)=w4 at a2 a3 ⊢
   have b1:Hid (Zo w4 y.heap.size 5 y.heap.size k (Qi k (fun c=>if c < 0 then Gf.aQ (JB k) c i else 0))):=a2
   have b2:Hid (Below y.heap.size y w4):=a3
   clear a2 a3
   go_loopw [9] (fun x wq=>∃ j:Nat,j<=k/\x=.int .i64 j/\Zo wq y.heap.size 5 y.heap.size k (Qi k (fun c=>if c < j then Gf.aQ (JB k) c i else 0))/\Below y.heap.size y wq) (fun x _=>k - (intOf x).toNat)
   case atStart=>exact ⟨0,by omega,rfl,b1.out,b2.out⟩
   case round =>
    obtain ⟨j,hj,rfl,b3,a4⟩:=hrel
    obtain ⟨I,rfl⟩:∃ I,I=wr:=⟨_,rfl⟩
    have M:Hid (Zo I y.heap.size 5 y.heap.size k (Qi k (fun c=>if c < j then Gf.aQ (JB k) c i else 0))):=b3
    have G:Hid (Below y.heap.size y I):=a4
    have f4:y.heap.size<=I.heap.size:=a4.size
    clear b3 a4 b1 b2
    by_cases a5:j < k
    ·have b4:Hid (jU I Z (JB k)):=(d6.out.below a1.out).below G.out
     go_wp2_with fail
     refine (Jdn Z k cx j i _ (by omega) U a5 b4.out).mono ?_
     rintro e J ⟨rfl,m,a6⟩
     have N:Hid (Zo J y.heap.size 5 y.heap.size k (Qi k (fun c=>if c < j then Gf.aQ (JB k) c i else 0))):=by rw [a6];exact M.out.drewN m
     have d9:Hid (Below y.heap.size y J):=by rw [a6];exact below_drewN G.out m
     have q5:J.cell? ⟨y.heap.size,j,none⟩=some (.int .u8 ((0:Nat):Int)):=by rw [N.out.cell j a5 (Jf _ _),Yq _ _ j a5,if_neg (Nat.lt_irrefl _)]
     have q6:J.frozen? ⟨y.heap.size,j,none⟩=false:=N.out.free j
     have HT:Hid (Zo (J.setCell ⟨y.heap.size,j,none⟩ (.int .u8 ((Gf.aQ (JB k) j i:Nat):Int))) y.heap.size 5 y.heap.size k (Qi k (fun c=>if c < j+1 then Gf.aQ (JB k) c i else 0))):=by
      have:=N.out.set j (Gf.aQ (JB k) j i)
      rw [YL k (fun c=>if c < j+1 then Gf.aQ (JB k) c i else 0) (fun c=>if c=j then Gf.aQ (JB k) j i else if c < j then Gf.aQ (JB k) c i else 0) (fun c _=>by
       by_cases e:c=j
       ·subst e;rw [if_pos (by omega),if_pos rfl]
       ·rw [if_neg e]
        by_cases e':c < j
        ·rw [if_pos (by omega),if_pos e']
        ·rw [if_neg (by omega),if_neg e'])]
      exact this
     clear a6 M G b4 N
     generalize Gf.aQ (JB k) j i=sh at HT ⊢
     go_wp2
     go_roundw
     case rel=>exact ⟨j+1,by omega,by go_num,HT.out,d9.out.setCell (Nat.le_refl _) _⟩
     case measure=>simp [intOf];omega
    ·have e0:j=k:=by omega
     subst e0
     obtain ⟨O,Q⟩:=HO.out
     have e1:Hid (Ja7 D.heap.size y 138 u6 O (kK j i)):=Q
     have HV:Hid (JM y D.heap.size 138 u6 O):=Q.1
     have e2:Hid (O.length=i):=Q.2.1.trans (JaF j i)
     have hr:Hid (pA I y.heap.size 5 (.slice (some ⟨y.heap.size,0,none⟩) j j) (Qi j fun c=>Gf.aQ (JB j) c i)):=by
      refine Zo.own ?_ (Jf _ _)
      rw [YL j _ (fun c=>if c < j then Gf.aQ (JB j) c i else 0) (fun c hc=>by rw [if_pos hc])]
      exact M.out
     clear Q M
     go_wp2_with (first | (at_builtin;refine yL rfl (.tmp 32) (.tmp 34) 162 rfl D.heap.size 138 i1 (.slice none 0 0) 24 Tryz.underlying162 b6 b7 rfl d0 d1 (by decide) u6 O rfl (((HV.out.kept (row:=none) ⟨G.out.os,G.out.tape,G.out.output,G.out.size,fun k U _=>G.out.block k U⟩ (by cases W:u6.ownBlock <;> simp))).kept (World.grownBy_alloc I _ none) (by cases W:u6.ownBlock <;> simp)) ⟨I.heap.size,0,none⟩ 1 (.slice (some ⟨y.heap.size,0,none⟩) j j) rfl rfl (by simp) (by have:=e2.out;omega) (by simp;omega) ?_;intro v' w8 e3 b5 e4))
     have e5:=e1.out.snoc b0 hr.out (XL _ _ fun c=>Gf.bL _ c _) G.out e3 b5 e4
     have e6:Below D.heap.size D w8:=((a1.out.trans (G.out.mono b0)).alloc (by omega) _).grown b5 (by simp;omega) (fun k' e7=>(HV.out.block e7).1)
     go_roundw
     case rel=>exact ⟨i+1,by omega,by go_num,⟨_,by rw [JcD];exact e5⟩,e6⟩
     case measure=>simp [intOf];omega
  ·have e8:i=n:=by omega
   subst e8
   obtain ⟨K,X,W,e9⟩:=HO.out.tU
   rw [JaF] at W
   subst W
   clear HO
   go_wp2
   go_ret
   exact ⟨⟨K,X,rfl,e9⟩,d7.out.trans (a1.out.mono d8)⟩
end Go.Proofs.YtmikbldbfnlfjaaGreatDoor
