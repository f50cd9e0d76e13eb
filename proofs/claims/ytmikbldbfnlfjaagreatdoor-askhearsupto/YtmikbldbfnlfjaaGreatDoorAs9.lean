/- Texts laid together. -/
import Derived.Test.YtmikbldbfnlfjaaGreatDoorAs8
import Derived.Maps.RangeWalk
import Derived.Maps.OwnOps
import Derived.Maps.OwnSet
import Derived.Shelf.SlLaysE0
import Derived.Shelf.SlicesE.Clone
set_option maxRecDepth 10000
set_option maxHeartbeats 8000000
namespace Go.Proofs
open Go.Shelf
def Tryz.laysClone_ren : Go.Shelf.Ren := ⟨fun | 41 => 123 | n => n, fun | 22 => 55 | 23 => 76 | 4 => 4 | n => n, fun | n => n⟩
theorem Tryz.laysClone : Go.Proofs.SlLaysE0.n41 Tryz.prog Tryz.laysClone_ren := {
  mixed := by kernel_rfl
  f41 := ⟨Tryz.f123.name, by decide, Tryz.func123.trans (congrArg some (by kernel_rfl))⟩
  t4 := Tryz.underlying4
  a4 := Tryz.isAgg4
  z4 := Tryz.sizeOf4
  v4 := Tryz.zeroValue4
  t22 := Tryz.underlying55
  a22 := Tryz.isAgg55
  z22 := Tryz.sizeOf55
  v22 := Tryz.zeroValue55 }
open Go.RowKit in
/-- slices.Clone at versions. -/
theorem Tryz.slices_Clone (i0 : TypeInfo) (z : Value) (size bytes : Nat) (hi : Tryz.prog.info? 76 = some i0) (hz0 : i0.zero = some z) (hz1 : i0.size = size) (hz2 : i0.bytes = bytes) (hzs : z.cells.size = size) (hsz : 0 < size)
    (z23 : ∀ w, (Go.sizeOf 76).run Tryz.prog w = .ok size w) (b off n c : Nat) (news : List Value) (w : World) (hl : news.length = n * size) (hn : n ≤ maxLen) (hbig : n * bytes ≤ 140737488355328)
    (hc : ∀ j u, news[j]? = some u → w.cell? ⟨b, off + j, none⟩ = some u) (h1 : ∀ u ∈ news, u.oneCell' = true) :
    Calls Tryz.prog 123 #[.slice (some ⟨b, off, none⟩) n c] w fun e w' => ∃ v', e = .returned v' ∧ w'.ownsRow w.heap.size 76 size v' n news ∧ v' ≠ .slice none 0 0 ∧ Below w.heap.size w w' := AnyE.slices_Clone Tryz.laysClone i0 z size bytes hi hz0 hz1 hz2 hzs hsz z23 b off n c news w hl hn hbig hc h1
end Go.Proofs
namespace Go.Proofs.YtmikbldbfnlfjaaGreatDoor
open Go.RowKit
variable {w w' W:World}{j b i n B:Nat}{LL M:List (List Yb)}{a:Int×Int}{L row:List Yb}{v:Value}{x:ByteArray}{D:DataW Value}{q:Option Addr}{T t:TypeId}{ad:Nat->Addr}
theorem Jb4 {j:World} (y:Below w.heap.size w j) (a b:Value):Below w.heap.size w ((j.setCell ⟨w.heap.size+1,0,none⟩ a).setCell ⟨w.heap.size+1,1,none⟩ b) :=
 (y.setCell (p:=⟨w.heap.size+1,0,none⟩) (by show w.heap.size<=w.heap.size+1;omega) _).setCell (p:=⟨w.heap.size+1,1,none⟩) (by show w.heap.size<=w.heap.size+1;omega) _
theorem Jek (c:Xg) (p:Option Addr) (y:Nat) (w:World) (hc:Yn w c p y) :
 Calls Tryz.prog 25 #[iE c (.slice p c.L.length y)] w fun e w'=>e=.returned (.agg #[.int .i64 (Jg c).1,.int .i64 (Jg c).2])/\Below w.heap.size w w':=by
 obtain ⟨hs,a7,a9,b0,a8,a2⟩:=hc
 obtain ⟨j,M⟩:∃ j,j=(w.alloc (.cells #[.int .i64 c.n,.int .i64 c.k,.slice p c.L.length y] 24)).alloc (.cells #[.int .i64 0,.int .i64 0] 39):=⟨_,rfl⟩
 have a3:Hid (j=(w.alloc (.cells #[.int .i64 c.n,.int .i64 c.k,.slice p c.L.length y] 24)).alloc (.cells #[.int .i64 0,.int .i64 0] 39)):=M
 have O:(w.alloc (.cells #[.int .i64 c.n,.int .i64 c.k,.slice p c.L.length y] 24)).heap.size=w.heap.size+1:=by simp
 have Q:Below w.heap.size w j:=by rw [M];exact ((Below.refl _ _).alloc (Nat.le_refl _) _).alloc (by rw [O];omega) _
 have U:j.heap[w.heap.size]?=some (.cells #[.int .i64 c.n,.int .i64 c.k,.slice p c.L.length y] 24 (0,0)):=by
  rw [M,heap_alloc_old _ _ (by rw [O];omega)]
  exact heap_alloc_new _ _
 have X:j.heap[w.heap.size+1]?=some (.cells #[.int .i64 0,.int .i64 0] 39 (0,0)):=by
  rw [M,<- O]
  exact heap_alloc_new _ _
 have a1:=(Array.getElem?_eq_some_iff.1 X).1
 have a4:Hid (∀ W,Below j.heap.size j W->W.cell? ⟨w.heap.size+1,0,none⟩=some (.int .i64 0)/\W.cell? ⟨w.heap.size+1,1,none⟩=some (.int .i64 0)/\(∀ i,W.frozen? ⟨w.heap.size+1,i,none⟩=false)/\Below w.heap.size w W):=fun W hW=>by
  have hy:=(hW.block _ a1).trans X
  exact ⟨by simp [World.cell?,hy],by simp [World.cell?,hy],fun i=>by simp [World.frozen?,hy],Q.trans (hW.mono Q.size)⟩
 have q0:j.cell? ⟨w.heap.size,0,none⟩=some (.int .i64 c.n):=by simp [World.cell?,U]
 have q1:j.cell? ⟨w.heap.size,1,none⟩=some (.int .i64 c.k):=by simp [World.cell?,U]
 have q2:j.cell? ⟨w.heap.size,2,none⟩=some (.slice p c.L.length y):=by simp [World.cell?,U]
 have a5:Hid (∀ (x:Int) (W:World),Calls Tryz.prog 27 #[.int .i64 x] W fun e w'=>e=.returned (.agg #[.int .i64 x,.int .i64 (-1)])/\Below W.heap.size W w'):=fun x W=>Ja9 x W
 by_cases D:1<=c.k/\c.k<=c.n/\c.n<=12
 ·have N:Hid (Calls Tryz.prog 53 #[.int .i64 c.n,.int .i64 c.k] j fun e w'=>e=.returned (.bool true)/\w'=j):=Jbg c.n c.k j D.1 D.2.1 D.2.2
  by_cases Y:(c.L.length:Int)=c.n
  ·have a6:Hid (Calls Tryz.prog 54 #[.slice p c.L.length y] j fun e w'=>e=.returned (.agg #[.int .i64 (Xj c.L).1,.int .i64 (Xj c.L).2])/\Below j.heap.size j w'):=Jb3 p c.L y j (by omega) a7 (fun x hx=>by have:=a8 x hx;omega) (hs.below Q)
   rw [wU D Y]
   clear M Q U X a1 O hs a2 a5
   generalize Xj c.L=F at *
   obtain ⟨Z,ck,L⟩:=c
   obtain ⟨F1,F2⟩:=F
   unfold iE
   simp only [] at *
   have d1:((L.length:Int)==Z)=true:=by simpa using Y
   go_enter Tryz.func25,Tryz.ntmps25
   go_wp2_with fail
   rw [<- a3.out]
   refine N.out.mono ?_
   rintro e w2 ⟨rfl,G⟩
   rw [G]
   clear G w2 N
   go_wp2_with fail
   refine a6.out.mono ?_
   rintro e I ⟨rfl,J⟩
   obtain ⟨z0,z1,z2,K⟩:=a4.out I J
   have a0:Hid (Below w.heap.size w I):=K
   clear J K a6
   go_wp2
   refine bodyPost_ret (v:=.agg #[.int .i64 F1,.int .i64 F2]) (by simp [results,Tryz.results25,go_sem,z0,z1]) rfl ⟨rfl,Jb4 a0.out _ _⟩
  ·rw [FM D Y]
   clear M Q U X a1 O hs a2
   obtain ⟨Z,ck,L⟩:=c
   unfold iE
   simp only [] at *
   have d1:((L.length:Int)==Z)=false:=by simpa using Y
   have d2:((L.length:Int) != Z)=true:=by simpa using Y
   go_enter Tryz.func25,Tryz.ntmps25
   go_wp2_with fail
   rw [<- a3.out]
   refine N.out.mono ?_
   rintro e w2 ⟨rfl,G⟩
   rw [G]
   clear G w2 N
   go_wp2_with fail
   refine (a5.out 3 j).mono ?_
   rintro e I ⟨rfl,J⟩
   obtain ⟨z0,z1,z2,K⟩:=a4.out I J
   have a0:Hid (Below w.heap.size w I):=K
   clear J K
   go_wp2
   refine bodyPost_ret (v:=.agg #[.int .i64 3,.int .i64 (-1)]) (by simp [results,Tryz.results25,go_sem,z0,z1]) rfl ⟨rfl,Jb4 a0.out _ _⟩
 ·have N:Hid (Calls Tryz.prog 53 #[.int .i64 c.n,.int .i64 c.k] j fun e w'=>e=.returned (.bool false)/\w'=j):=JcG c.n c.k j D
  rw [vZ D]
  clear M Q U X a1 O hs a2 D
  obtain ⟨Z,ck,L⟩:=c
  unfold iE
  simp only [] at *
  go_enter Tryz.func25,Tryz.ntmps25
  go_wp2_with fail
  rw [<- a3.out]
  refine N.out.mono ?_
  rintro e w2 ⟨rfl,G⟩
  rw [G]
  clear G w2 N
  go_wp2_with fail
  refine (a5.out 2 j).mono ?_
  rintro e I ⟨rfl,J⟩
  obtain ⟨z0,z1,z2,K⟩:=a4.out I J
  have a0:Hid (Below w.heap.size w I):=K
  clear J K
  go_wp2
  refine bodyPost_ret (v:=.agg #[.int .i64 2,.int .i64 (-1)]) (by simp [results,Tryz.results25,go_sem,z0,z1]) rfl ⟨rfl,Jb4 a0.out _ _⟩
def eU (w:World) (p:Option Addr) (LL:List (List Yb)):Prop :=
 LL=[]∨∃ b o,p=some ⟨b,o,none⟩/\b < w.heap.size/\∀ i,i < LL.length->∃ q c,w.cell? ⟨b,o+i,none⟩=some (.slice q (LL.getD i []).length c)/\Ql Ze w q (LL.getD i [])/\(LL.getD i []).length<=c/\(q=none->LL.getD i []=[]/\c=0)
theorem eU.below {p:Option Addr} (h:eU w p LL) (j:Below w.heap.size w w'):eU w' p LL:=by
 rcases h with h | ⟨b,o,D,y,G⟩
 ·exact Or.inl h
 ·refine Or.inr ⟨b,o,D,Nat.lt_of_lt_of_le y j.size,fun i I=>?_⟩
  obtain ⟨q,c,J,K,M,N⟩:=G i I
  exact ⟨q,c,(j.cell (p:=⟨b,o+i,none⟩) y).trans J,K.below j,M,N⟩
structure Zm (w:World) (b:Nat) (a:Int×Int):Prop where
 n:w.cell? ⟨b,0,none⟩=some (.int .i64 a.1)
 who:w.cell? ⟨b,1,none⟩=some (.int .i64 a.2)
 f0:w.frozen? ⟨b,0,none⟩=false
 f1:w.frozen? ⟨b,1,none⟩=false
theorem Zm.below  (h:Zm w b a) (y:Below w.heap.size w w'):Zm w' b a :=
 have j:=Zn h.n
 ⟨(y.cell (p:=⟨b,0,none⟩) j).trans h.n,(y.cell (p:=⟨b,1,none⟩) j).trans h.who,(y.frozen (p:=⟨b,0,none⟩) j).trans h.f0,(y.frozen (p:=⟨b,1,none⟩) j).trans h.f1⟩
theorem Zm.set  (h:Zm w b a) (x y:Int):Zm ((w.setCell ⟨b,0,none⟩ (.int .i64 x)).setCell ⟨b,1,none⟩ (.int .i64 y)) b (x,y):=by
 refine ⟨?_,?_,by simp [h.f0],by simp [h.f1]⟩
 ·rw [World.cell?_setCell_other _ _ _ _ (fun e=>by have j:(1:Nat)=0:=congrArg Addr.off e;omega)]
  exact World.cell?_setCell_same _ _ _ h.n
 ·refine World.cell?_setCell_same _ _ _ (u:=.int .i64 a.2) ?_
  rw [World.cell?_setCell_other _ _ _ _ (fun e=>by have j:(0:Nat)=1:=congrArg Addr.off e;omega)]
  exact h.who
theorem Zm.alloc (w:World) (x y:Int) (T:TypeId):Zm (w.alloc (.cells #[.int .i64 x,.int .i64 y] T)) w.heap.size (x,y):=by
 exact ⟨by rw [World.cell?_alloc_at _ _ _ _ rfl];rfl,by rw [World.cell?_alloc_at _ _ _ _ rfl];rfl,World.frozen?_alloc_at _ _ _ _ rfl,World.frozen?_alloc_at _ _ _ _ rfl⟩
theorem JfJ  (j:i < LL.length):(LL.take (i+1)).flatten=(LL.take i).flatten ++ LL.getD i []:=by
 rw [List.take_succ_eq_append_getElem j,List.flatten_append,List.getD_eq_getElem?_getD,List.getElem?_eq_getElem j]
 simp
theorem OG (LL:List (List Yb)) (i:Nat):(LL.take i).flatten.length<=LL.flatten.length:=by
 have h:LL.flatten=(LL.take i).flatten ++ (LL.drop i).flatten:=by rw [<- List.flatten_append,List.take_append_drop]
 rw [h,List.length_append]
 omega
theorem Jcg (LL:List (List Yb)) (j:i < LL.length):(LL.take i).flatten.length+(LL.getD i []).length<=LL.flatten.length:=by
 have h:=OG LL (i+1)
 rw [JfJ j,List.length_append] at h
 exact h
theorem Jdv (n k:Nat) (p0:Option Addr) (l0 c0:Nat) (p:Option Addr) (LL:List (List Yb)) (n0:Nat) (w:World) (e5:1<=k) (k7:k<=n) (hn:n<=12) (hl:LL.length<=1000) (n1:LL.flatten.length<=1000) (hL:eU w p LL) :
 Calls Tryz.prog 48 #[.agg #[.int .i64 (n:Int),.int .i64 (k:Int),.slice p0 l0 c0],.slice p LL.length n0] w fun e w'=>e=.returned (.tuple #[.agg #[.int .i64 (Ys n k LL.flatten LL.flatten).1.1,.int .i64 (Ys n k LL.flatten LL.flatten).1.2],.string (Ys n k LL.flatten LL.flatten).2.1,.bool (Ys n k LL.flatten LL.flatten).2.2])/\Below w.heap.size w w':=by
 obtain ⟨wc,a8⟩:∃ wc,wc=w.alloc (.cells #[.int .i64 (n:Int),.int .i64 (k:Int),.slice p0 l0 c0] 24):=⟨_,rfl⟩
 have e1:wc.heap.size=w.heap.size+1:=by rw [a8];simp
 obtain ⟨M,e6⟩:∃ M,M=wc.alloc (.cells #[.int .i64 0,.int .i64 0] 46):=⟨_,rfl⟩
 have f5:Below w.heap.size w wc:=by rw [a8];exact (Below.refl _ _).alloc (Nat.le_refl _) _
 have d3:Below wc.heap.size wc M:=by rw [e6];exact (Below.refl _ _).alloc (Nat.le_refl _) _
 have f6:Hid (Below w.heap.size w M):=f5.trans (d3.mono f5.size)
 have a0:M.cell? ⟨w.heap.size,0,none⟩=some (.int .i64 (n:Int)):=(d3.cell (p:=⟨w.heap.size,0,none⟩) (by show w.heap.size < _;omega)).trans (by rw [a8,World.cell?_alloc_at _ _ _ _ rfl];rfl)
 have a1:M.cell? ⟨w.heap.size,1,none⟩=some (.int .i64 (k:Int)):=(d3.cell (p:=⟨w.heap.size,1,none⟩) (by show w.heap.size < _;omega)).trans (by rw [a8,World.cell?_alloc_at _ _ _ _ rfl];rfl)
 have a2:M.cell? ⟨w.heap.size,2,none⟩=some (.slice p0 l0 c0):=(d3.cell (p:=⟨w.heap.size,2,none⟩) (by show w.heap.size < _;omega)).trans (by rw [a8,World.cell?_alloc_at _ _ _ _ rfl];rfl)
 have tg:Zm M (w.heap.size+1) (0,0):=by rw [e6,<- e1];exact Zm.alloc _ _ _ _
 have f7:Hid (∀ W,Below M.heap.size M W->(W.cell? ⟨w.heap.size,0,none⟩=some (.int .i64 (n:Int))/\W.cell? ⟨w.heap.size,1,none⟩=some (.int .i64 (k:Int))/\W.cell? ⟨w.heap.size,2,none⟩=some (.slice p0 l0 c0))/\Zm W (w.heap.size+1) (0,0)/\eU W p LL/\Below w.heap.size w W):=fun W N=>by
  have hy:w.heap.size < M.heap.size:=Zn a0
  exact ⟨⟨(N.cell (p:=⟨w.heap.size,0,none⟩) hy).trans a0,(N.cell (p:=⟨w.heap.size,1,none⟩) hy).trans a1,(N.cell (p:=⟨w.heap.size,2,none⟩) hy).trans a2⟩,tg.below N,(hL.below f6.out).below N,f6.out.trans (N.mono f6.out.size)⟩
 have h6:Hid (M=(w.alloc (.cells #[.int .i64 (n:Int),.int .i64 (k:Int),.slice p0 l0 c0] 24)).alloc (.cells #[.int .i64 0,.int .i64 0] 46)):=by rw [<- a8];exact e6
 have h7:Hid (∀ i,i < LL.length->(LL.take (i+1)).flatten=(LL.take i).flatten ++ LL.getD i []):=fun i hi=>JfJ hi
 have h8:Hid (∀ i,i < LL.length->(LL.take i).flatten.length+(LL.getD i []).length<=1000):=fun i hi=>Nat.le_trans (Jcg LL hi) n1
 have h9:Hid ((LL.take LL.length).flatten=LL.flatten):=by show _=_;rw [List.take_length]
 have i0:Hid ((LL.take 0).flatten=[]):=by show _=_;rfl
 have i1:Hid (∀ (t:Int×Int) (q:Option Addr) (A:List Yb) (c:Nat) (W:World),A.length<=1000->Ql Ze W q A->Calls Tryz.prog 71 #[.agg #[.int .i64 (n:Int),.int .i64 (k:Int),.slice p0 l0 c0],.slice q A.length c,.agg #[.int .i64 t.1,.int .i64 t.2]] W fun e w'=>(∃ v,e=.returned (.tuple #[.int .i64 (Zf n k t A).1,v])/\w'.ownsRow W.heap.size 74 2 v (Zf n k t A).2.length (Js (Zf n k t A).2))/\Below W.heap.size W w'):=fun t q A c W hA hr=>Jcv n k p0 l0 c0 q A c t W e5 (by omega) (by omega) hr
 clear a8 e6 f5 d3 e1 a0 a1 a2 tg hL
 generalize LL.flatten=A at *
 go_enter Tryz.func48,Tryz.ntmps48
 go_wp2_with (rw [<- h6.out])
 go_loopw [7,8] (fun v x wr=>∃ i:Nat,i<=LL.length/\x=.int .i64 i/\Zc Ze 76 wr M.heap.size v (LL.take i).flatten/\Below M.heap.size M wr) (fun _ x _=>LL.length - (intOf x).toNat)
 case atStart=>exact ⟨0,Nat.zero_le _,rfl,by rw [i0.out];exact Zc.nil _ _ _,Below.refl _ _⟩
 case round =>
  obtain ⟨i,hi,rfl,hO,hB⟩:=hrel
  obtain ⟨y,rfl⟩:∃ y,y=wr:=⟨_,rfl⟩
  obtain ⟨⟨Q,U,X⟩,d4,i2,e7⟩:=f7.out y hB
  have HO:Hid (Zc Ze 76 y M.heap.size u7 (LL.take i).flatten):=hO
  have HB:Hid (Below M.heap.size M y):=hB
  have i3:Hid (eU y p LL):=i2
  have i4:M.heap.size<=y.heap.size:=hB.size
  clear hO hB i2 e7
  by_cases a3:i < LL.length
  ·rcases i3.out with h0 | ⟨b,o,rfl,l1,hc⟩
   ·rw [h0] at a3;simp at a3
   obtain ⟨q,c,n2,i5,n3,i7⟩:=hc i a3
   have HR:Hid (Ql Ze y q (LL.getD i [])):=i5
   have l2:Hid (q=none->LL.getD i []=[]/\c=0):=i7
   have n4:=h8.out i a3
   have l3:Hid ((LL.take (i+1)).flatten=(LL.take i).flatten ++ LL.getD i []):=h7.out i a3
   clear hc i5 i7 d4 Q U X
   generalize LL.getD i []=ri at *
   generalize (LL.take i).flatten=li at *
   go_wp2_with (first | (at_builtin;refine F4 (E:=Ze) rfl (.tmp 24) (.tmp 28) 55 76 rfl (.agg #[.int .i64 0,.int .i64 0,.int .i64 0,.int .i64 0,.string ⟨#[]⟩]) 48 Tryz.underlying55 qS rfl M.heap.size u7 li rfl HO.out q ri c rfl HR.out l2.out (by unfold maxLen;omega) (by omega) i4 ?_;intro v' K l7 l8))
   go_roundw
   case rel=>exact ⟨i+1,by omega,by go_num,by rw [l3.out];exact l7,HB.out.trans l8⟩
   case measure=>simp [intOf];omega
  ·have d5:i=LL.length:=by omega
   have i8:Hid (Zc Ze 76 y M.heap.size u7 A):=by
    show Zc _ _ _ _ _ _
    rw [<- h9.out,<- d5]
    exact HO.out
   clear HO h7 h8 h9 i0 i3 d5
   obtain ⟨pa,ca,rfl,d6,n5,l9,m0⟩:=i8.out.form
   have d7:Hid (Ql Ze y pa A):=d6
   clear i8 d6 l9 m0
   obtain ⟨w2,e8⟩:∃ w2,w2=y.alloc (.cells #[.int .i64 0,.int .i64 0] 46):=⟨_,rfl⟩
   have m4:Hid (w2=y.alloc (.cells #[.int .i64 0,.int .i64 0] 46)):=e8
   have i9:Below y.heap.size y w2:=by rw [e8];exact (Below.refl _ _).alloc (Nat.le_refl _) _
   have f8:Hid (Zm w2 y.heap.size (0,0)):=by show Zm _ _ _;rw [e8];exact Zm.alloc _ _ _ _
   have j0:Hid (Below y.heap.size y w2):=i9
   have m5:y.heap.size < w2.heap.size:=Zn f8.out.n
   have e9:Hid (Ys n k A (A.take 0)=((0,0),⟨#[]⟩,false)):=by show _=_;rfl
   have j1:Hid (∀ i,i < A.length->Ys n k A (A.take (i+1))=XH n k A (Ys n k A (A.take i)) (Xd A i)):=fun i hi=>OP hi
   have j2:Hid (Ys n k A (A.take A.length)=Ys n k A A):=by show _=_;rw [List.take_length]
   have H1:Hid (∀ W,Below y.heap.size y W->(W.cell? ⟨w.heap.size,0,none⟩=some (.int .i64 (n:Int))/\W.cell? ⟨w.heap.size,1,none⟩=some (.int .i64 (k:Int))/\W.cell? ⟨w.heap.size,2,none⟩=some (.slice p0 l0 c0))/\Zm W (w.heap.size+1) (0,0)/\Ql Ze W pa A/\Below w.heap.size w W):=fun W N=>by
    obtain ⟨q1,q2,_,q4⟩:=f7.out W (HB.out.trans (N.mono i4))
    exact ⟨q1,q2,d7.out.below N,q4⟩
   clear e8 i9 f7 d7 HB h6 d4 Q U X
   go_wp2
   rw [<- m4.out]
   go_loopw [10,11,12] (fun tx fo x wr=>∃ i:Nat,i<=A.length/\x=.int .i64 i/\tx=.string (Ys n k A (A.take i)).2.1/\fo=.bool (Ys n k A (A.take i)).2.2/\Zm wr y.heap.size (Ys n k A (A.take i)).1/\y.heap.size < wr.heap.size/\Below y.heap.size y wr) (fun _ _ x _=>A.length - (intOf x).toNat)
   case atStart=>exact ⟨0,Nat.zero_le _,rfl,by rw [e9.out],by rw [e9.out],by rw [e9.out];exact f8.out,m5,j0.out⟩
   case round =>
    obtain ⟨i,hi,rfl,rfl,rfl,hT,f9,hB⟩:=hrel
    obtain ⟨K,rfl⟩:∃ K,K=wr:=⟨_,rfl⟩
    obtain ⟨⟨Q,U,X⟩,d4,d6,e7⟩:=H1.out K hB
    have HB:Hid (Below y.heap.size y K):=hB
    have HT:Hid (Zm K y.heap.size (Ys n k A (A.take i)).1):=hT
    have d7:Hid (Ql Ze K pa A):=d6
    have b3:Hid (Zm K (w.heap.size+1) (0,0)):=d4
    have j3:Hid (Below w.heap.size w K):=e7
    have f3:=j1.out i
    have g4:Hid (i=A.length->Ys n k A A=Ys n k A (A.take i)):=fun h=>by rw [<- j2.out,h]
    have d2:Hid (∀ (S':(Int×Int)×ByteArray×Bool) (W:World),Ys n k A (A.take (i+1))=S'->Zm W y.heap.size S'.1->y.heap.size < W.heap.size->Below y.heap.size y W->i+1<=A.length->∃ j:Nat,j<=A.length/\(.int .i64 ((i:Int)+1):Value)=.int .i64 j/\(.string S'.2.1:Value)=.string (Ys n k A (A.take j)).2.1/\(.bool S'.2.2:Value)=.bool (Ys n k A (A.take j)).2.2/\Zm W y.heap.size (Ys n k A (A.take j)).1/\y.heap.size < W.heap.size/\Below y.heap.size y W):=fun S' W hS hT hl hb f9=>⟨i+1,f9,by rw [Int.natCast_add];rfl,by rw [hS],by rw [hS],by rw [hS];exact hT,hl,hb⟩
    generalize Ys n k A (A.take (i+1))=S1 at *
    generalize Ys n k A (A.take i)=S at *
    obtain ⟨⟨I,J⟩,a9,sf⟩:=S
    dsimp only at f3 HT
    clear hB hT d6 d4 e7 j1 e9 j2 f8 j0
    by_cases a3:i < A.length
    ·obtain ⟨b,o,m6,l1,d0,d1,_,_,_⟩:=QU d7.out a3
     subst m6
     have a4:=f3 a3
     clear f3 g4
     generalize Xd A i=x at *
     obtain ⟨D,G,xs,xa,xt⟩:=x
     dsimp only at d0 d1
     obtain ⟨Y,f4⟩:∃ Y,Y=K.alloc (.cells #[.int .i64 D,.int .i64 G] 46):=⟨_,rfl⟩
     have j5:Hid (Y=K.alloc (.cells #[.int .i64 D,.int .i64 G] 46)):=f4
     have g5:Below K.heap.size K Y:=by rw [f4];exact (Below.refl _ _).alloc (Nat.le_refl _) _
     have m7:Hid (Zm Y K.heap.size (D,G)):=by show Zm _ _ _;rw [f4];exact Zm.alloc _ _ _ _
     have H4:Hid (∀ W,Below Y.heap.size Y W->(W.cell? ⟨w.heap.size,0,none⟩=some (.int .i64 (n:Int))/\W.cell? ⟨w.heap.size,1,none⟩=some (.int .i64 (k:Int))/\W.cell? ⟨w.heap.size,2,none⟩=some (.slice p0 l0 c0))/\Zm W K.heap.size (D,G)/\Zm W y.heap.size (I,J)/\Ql Ze W (some ⟨b,o,none⟩) A/\y.heap.size < W.heap.size/\Below y.heap.size y W):=fun W N=>by
      have g6:Below K.heap.size K W:=g5.trans (N.mono g5.size)
      have j6:Below y.heap.size y W:=HB.out.trans (g6.mono HB.out.size)
      obtain ⟨q1,_,q3,_⟩:=H1.out W j6
      exact ⟨q1,m7.out.below N,HT.out.below g6,q3,Nat.lt_of_lt_of_le f9 g6.size,j6⟩
     clear f4 g5 Q U X HT d7 b3 j3 HB H1
     obtain ⟨⟨Q,U,X⟩,x4,t4,r4,j8,b4⟩:=H4.out Y (Below.refl _ _)
     have x0:=x4.n
     have x1:=x4.who
     have t0:=t4.n
     have t1:=t4.who
     have k3:Hid (Zm Y y.heap.size (I,J)):=t4
     have k4:Hid (Below y.heap.size y Y):=b4
     dsimp only at x0 x1 t0 t1
     clear x4 t4 r4 b4
     cases sf with
     | true =>
      go_wp2_with (rw [<- j5.out])
      refine (JpF (I,J) (D,G) _).mono ?_
      rintro e w5 ⟨rfl,g7⟩
      have H5:Hid (∀ W,Below w5.heap.size w5 W->(W.cell? ⟨w.heap.size,0,none⟩=some (.int .i64 (n:Int))/\W.cell? ⟨w.heap.size,1,none⟩=some (.int .i64 (k:Int))/\W.cell? ⟨w.heap.size,2,none⟩=some (.slice p0 l0 c0))/\Zm W K.heap.size (D,G)/\Zm W y.heap.size (I,J)/\Ql Ze W (some ⟨b,o,none⟩) A/\y.heap.size < W.heap.size/\Below y.heap.size y W):=fun W N=>H4.out W (g7.trans (N.mono g7.size))
      clear g7 H4 k3 k4 Q U X x0 x1 t0 t1 j8
      by_cases a7:Qd (I,J) (D,G)=false
      ·have HN:Hid (S1=((I,J),a9,true)):=by show _=_;rw [a4];exact Jkh ⟨rfl,a7⟩
       rw [a7]
       obtain ⟨_,_,t5,_,g8,b5⟩:=H5.out w5 (Below.refl _ _)
       have m8:Hid (Zm w5 y.heap.size (I,J)):=t5
       have m9:Hid (Below y.heap.size y w5):=b5
       clear a7 a4 t5 b5
       go_wp2
       go_roundw
       case rel=>exact d2.out _ _ HN.out m8.out g8 m9.out a3
       case measure=>simp [intOf];omega
      ·have b0:Hid ((Zf n k (D,G) A).2.length < k->S1=((I,J),a9,true)):=fun h=>by rw [a4];exact Jki (fun h2=>a7 h2.2) h
       have b1:Hid (¬ (Zf n k (D,G) A).2.length < k->S1=((D,G),gB k (Zf n k (D,G) A).1.toNat (Qg k (Zf n k (D,G) A).2 (Zf n k (D,G) A).2.length),true)):=fun h=>by rw [a4];exact S6 (fun h2=>a7 h2.2) h
       rw [Bool.not_eq_false] at a7
       rw [a7]
       clear a7
       obtain ⟨⟨Q,U,X⟩,x5,t5,r5,g8,b5⟩:=H5.out w5 (Below.refl _ _)
       have x0:=x5.n
       have x1:=x5.who
       dsimp only at x0 x1
       clear x5 t5 b5 g8
       have HC:=i1.out (D,G) (some ⟨b,o,none⟩) A ca w5 (by omega) r5
       have g9:=HC
       dsimp only at HC
       clear r5 g9
       go_wp2_with fail
       refine HC.mono ?_
       rintro e O ⟨⟨v6,rfl,d8⟩,b2⟩
       clear HC
       obtain ⟨p6,c6,rfl,d9⟩:=nL d8
       have H6:Hid (∀ W,Below O.heap.size O W->(W.cell? ⟨w.heap.size,0,none⟩=some (.int .i64 (n:Int))/\W.cell? ⟨w.heap.size,1,none⟩=some (.int .i64 (k:Int))/\W.cell? ⟨w.heap.size,2,none⟩=some (.slice p0 l0 c0))/\Zm W K.heap.size (D,G)/\Zm W y.heap.size (I,J)/\Ql Ze W (some ⟨b,o,none⟩) A/\y.heap.size < W.heap.size/\Below y.heap.size y W):=fun W N=>H5.out W (b2.trans (N.mono b2.size))
       clear Q U X x0 x1 H5 b2 d8
       obtain ⟨⟨Q,U,X⟩,_,t6,_,e0,b6⟩:=H6.out O (Below.refl _ _)
       have e2:Hid (Zm O y.heap.size (I,J)):=t6
       have e3:Hid (Below y.heap.size y O):=b6
       have a5:Hid (fE O p6 (Zf n k (D,G) A).2):=d9
       clear t6 b6 d9
       by_cases a6:(Zf n k (D,G) A).2.length < k
       ·have HN:Hid (S1=((I,J),a9,true)):=b0.out a6
        clear a4 b0 b1 a5
        generalize Zf n k (D,G) A=Z at *
        go_wp2
        go_roundw
        case rel=>exact d2.out _ _ HN.out e2.out e0 e3.out a3
        case measure=>simp [intOf];omega
       ·have HN:Hid (S1=((D,G),gB k (Zf n k (D,G) A).1.toNat (Qg k (Zf n k (D,G) A).2 (Zf n k (D,G) A).2.length),true)):=b1.out a6
        obtain ⟨z1,z2,z3,z4⟩:=FF e5 a6
        have h1:(Zf n k (D,G) A).2.length<=A.length:=by have:=LW (n:=n) (k:=k) (t:=(D,G)) A A.length;rw [List.take_length] at this;exact this
        clear a4 b0 b1
        generalize Zf n k (D,G) A=Z at *
        obtain ⟨zs,zl⟩:=Z
        dsimp only at a6 z1 z2 z3 z4 h1 a5 HN
        have HD:=JbN n k zs.toNat p6 zl c6 O e5 k7 hn z2 (by omega) z4 z3 a5.out
        rw [z1] at HD
        generalize gB k zs.toNat (Qg k zl zl.length)=dt at *
        clear z1 z2 z3 z4 a5
        go_wp2_with fail
        refine HD.mono ?_
        rintro e w7 ⟨rfl,e4⟩
        clear HD Q U X e2 e3 e0
        obtain ⟨_,x7,t7,_,h3,b7⟩:=H6.out w7 e4
        have x0:=x7.n
        have x1:=x7.who
        have t0:=t7.n
        have t1:=t7.who
        have t2:=t7.f0
        have t3:=t7.f1
        have h4:Hid (Zm w7 y.heap.size (I,J)):=t7
        have h5:Hid (Below y.heap.size y w7):=b7
        dsimp only at x0 x1 t0 t1
        clear x7 t7 b7 e4 H6
        go_wp2
        go_roundw
        case rel=>exact d2.out _ _ HN.out (h4.out.set D G) (by simpa using h3) ((h5.out.setCell (Nat.le_refl _) _).setCell (Nat.le_refl _) _) a3
        case measure=>simp [intOf];omega
     | false =>
      have b0:Hid ((Zf n k (D,G) A).2.length < k->S1=((I,J),a9,false)):=fun h=>by rw [a4];exact Jki (fun h2=>by cases h2.1) h
      have b1:Hid (¬ (Zf n k (D,G) A).2.length < k->S1=((D,G),gB k (Zf n k (D,G) A).1.toNat (Qg k (Zf n k (D,G) A).2 (Zf n k (D,G) A).2.length),true)):=fun h=>by rw [a4];exact S6 (fun h2=>by cases h2.1) h
      have H5:Hid (∀ W,Below Y.heap.size Y W->(W.cell? ⟨w.heap.size,0,none⟩=some (.int .i64 (n:Int))/\W.cell? ⟨w.heap.size,1,none⟩=some (.int .i64 (k:Int))/\W.cell? ⟨w.heap.size,2,none⟩=some (.slice p0 l0 c0))/\Zm W K.heap.size (D,G)/\Zm W y.heap.size (I,J)/\Ql Ze W (some ⟨b,o,none⟩) A/\y.heap.size < W.heap.size/\Below y.heap.size y W):=H4.out
      clear H4 k3 k4 j8
      obtain ⟨_,_,_,r5,_,_⟩:=H5.out Y (Below.refl _ _)
      have HC:=i1.out (D,G) (some ⟨b,o,none⟩) A ca Y (by omega) r5
      have g9:=HC
      dsimp only at HC
      clear r5 g9
      go_wp2_with (rw [<- j5.out])
      refine HC.mono ?_
      rintro e O ⟨⟨v6,rfl,d8⟩,b2⟩
      clear HC
      obtain ⟨p6,c6,rfl,d9⟩:=nL d8
      have H6:Hid (∀ W,Below O.heap.size O W->(W.cell? ⟨w.heap.size,0,none⟩=some (.int .i64 (n:Int))/\W.cell? ⟨w.heap.size,1,none⟩=some (.int .i64 (k:Int))/\W.cell? ⟨w.heap.size,2,none⟩=some (.slice p0 l0 c0))/\Zm W K.heap.size (D,G)/\Zm W y.heap.size (I,J)/\Ql Ze W (some ⟨b,o,none⟩) A/\y.heap.size < W.heap.size/\Below y.heap.size y W):=fun W N=>H5.out W (b2.trans (N.mono b2.size))
      clear Q U X x0 x1 t0 t1 H5 b2 d8
      obtain ⟨⟨Q,U,X⟩,_,t6,_,e0,b6⟩:=H6.out O (Below.refl _ _)
      have e2:Hid (Zm O y.heap.size (I,J)):=t6
      have e3:Hid (Below y.heap.size y O):=b6
      have a5:Hid (fE O p6 (Zf n k (D,G) A).2):=d9
      clear t6 b6 d9
      by_cases a6:(Zf n k (D,G) A).2.length < k
      ·have HN:Hid (S1=((I,J),a9,false)):=b0.out a6
       clear a4 b0 b1 a5
       generalize Zf n k (D,G) A=Z at *
       go_wp2
       go_roundw
       case rel=>exact d2.out _ _ HN.out e2.out e0 e3.out a3
       case measure=>simp [intOf];omega
      ·have HN:Hid (S1=((D,G),gB k (Zf n k (D,G) A).1.toNat (Qg k (Zf n k (D,G) A).2 (Zf n k (D,G) A).2.length),true)):=b1.out a6
       obtain ⟨z1,z2,z3,z4⟩:=FF e5 a6
       have h1:(Zf n k (D,G) A).2.length<=A.length:=by have:=LW (n:=n) (k:=k) (t:=(D,G)) A A.length;rw [List.take_length] at this;exact this
       clear a4 b0 b1
       generalize Zf n k (D,G) A=Z at *
       obtain ⟨zs,zl⟩:=Z
       dsimp only at a6 z1 z2 z3 z4 h1 a5 HN
       have HD:=JbN n k zs.toNat p6 zl c6 O e5 k7 hn z2 (by omega) z4 z3 a5.out
       rw [z1] at HD
       generalize gB k zs.toNat (Qg k zl zl.length)=dt at *
       clear z1 z2 z3 z4 a5
       go_wp2_with fail
       refine HD.mono ?_
       rintro e w7 ⟨rfl,e4⟩
       clear HD Q U X e2 e3 e0
       obtain ⟨_,x7,t7,_,h3,b7⟩:=H6.out w7 e4
       have x0:=x7.n
       have x1:=x7.who
       have t0:=t7.n
       have t1:=t7.who
       have t2:=t7.f0
       have t3:=t7.f1
       have h4:Hid (Zm w7 y.heap.size (I,J)):=t7
       have h5:Hid (Below y.heap.size y w7):=b7
       dsimp only at x0 x1 t0 t1
       clear x7 t7 b7 e4 H6
       go_wp2
       go_roundw
       case rel=>exact d2.out _ _ HN.out (h4.out.set D G) (by simpa using h3) ((h5.out.setCell (Nat.le_refl _) _).setCell (Nat.le_refl _) _) a3
       case measure=>simp [intOf];omega
    ·have d5:i=A.length:=by omega
     have HE:Hid (Ys n k A A=((I,J),a9,sf)):=g4.out d5
     have t0:=HT.out.n
     have t1:=HT.out.who
     have g0:=b3.out.n
     have g1:=b3.out.who
     have g2:=b3.out.f0
     have g3:=b3.out.f1
     dsimp only at t0 t1 g0 g1
     clear f3 g4 d2 d5 Q U X
     have HF:Hid (Zm ((K.setCell ⟨w.heap.size+1,0,none⟩ (.int .i64 I)).setCell ⟨w.heap.size+1,1,none⟩ (.int .i64 J)) (w.heap.size+1) (I,J)):=b3.out.set I J
     have k6:Hid (Below w.heap.size w ((K.setCell ⟨w.heap.size+1,0,none⟩ (.int .i64 I)).setCell ⟨w.heap.size+1,1,none⟩ (.int .i64 J))):=(j3.out.setCell (p:=⟨w.heap.size+1,0,none⟩) (by show w.heap.size<=w.heap.size+1;omega) _).setCell (p:=⟨w.heap.size+1,1,none⟩) (by show w.heap.size<=w.heap.size+1;omega) _
     go_wp2
     generalize (K.setCell ⟨w.heap.size+1,0,none⟩ (.int .i64 I)).setCell ⟨w.heap.size+1,1,none⟩ (.int .i64 J)=wf at HF k6 ⊢
     have c1:=HF.out.n
     have c2:=HF.out.who
     dsimp only at c1 c2
     refine bodyPost_ret (v:=.tuple #[.agg #[.int .i64 I,.int .i64 J],.string a9,.bool sf]) (by simp [results,Tryz.results48,go_sem,c1,c2]) rfl ⟨by rw [HE.out],k6.out⟩
def Jt (v:Yb):Prop:=(-9223372036854775808<=v.n/\v.n<=9223372036854775807)/\(-9223372036854775808<=v.who/\v.who<=9223372036854775807)/\(-9223372036854775808<=v.size/\v.size<=9223372036854775807)/\-9223372036854775808<=v.at_/\v.at_<=9223372036854775807
def X2 (v:Yb):Bool:=decide (200 < v.size/\v.size<=1000)
def L2 (L:List Yb):Nat:=(L.map fun v=>1+v.text.size / 20).sum
theorem Jen  (y:j < L.length):(L.take (j+1)).any X2=((L.take j).any X2 || X2 (Xd L j)):=by
 rw [List.take_add_one,Xx y,List.any_append]
 simp
theorem Jd0  (y:j < L.length) (h:X2 (Xd L j)=true):L.any X2=true:=by
 refine List.any_eq_true.2 ⟨_,?_,h⟩
 have:=Xx y
 exact List.mem_of_getElem? this
theorem CS (n:Int) (v:Yb):n<=Yk n v:=by unfold Yk;split <;> omega
theorem ZK:∀ (l:List Yb) (n:Int),n<=l.foldl Yk n
 | [],n=>Int.le_refl n
 | v :: l,n=>Int.le_trans (CS n v) (ZK l _)
theorem IY:∀ (l:List Yb) (n:Int),n<=1099511627776->l.foldl Yk n<=1099511627776
 | [],n,h=>h
 | v :: l,n,h=>IY l _ (by unfold Yk;split <;> omega)
theorem sH (LL:List (List Yb)):0<=XF LL/\XF LL<=1099511627776:=⟨ZK _ _,IY _ _ (by decide)⟩
theorem M2  (h:i < LL.length):XF (LL.take (i+1))=(LL.getD i []).foldl Yk (XF (LL.take i)):=by
 unfold XF
 rw [List.take_succ_eq_append_getElem h,List.flatten_append,List.foldl_append]
 have e:LL.getD i []=LL[i]:=by rw [List.getD_eq_getElem?_getD,List.getElem?_eq_getElem h];rfl
 rw [e]
 simp
theorem OI {l:List Yb} (h:j < l.length) (n:Int):(l.take (j+1)).foldl Yk n=Yk ((l.take j).foldl Yk n) (Xd l j):=by
 rw [List.take_add_one,Xx h]
 simp
theorem Q5:∀ (l:List Yb) (n:Int),0<=n->(∀ v ∈ l,v.n<=1099511627776->v.n<=l.foldl Yk n)/\(l.foldl Yk n=n∨∃ v ∈ l,v.n=l.foldl Yk n/\v.n<=1099511627776)
 | [],n,_=>⟨(fun v G=>by cases G),Or.inl rfl⟩
 | v :: l,n,h=>by
  have I:0<=Yk n v:=Int.le_trans h (CS n v)
  obtain ⟨J,y⟩:=Q5 l (Yk n v) I
  refine ⟨fun x j K=>?_,?_⟩
  ·rcases List.mem_cons.1 j with rfl | j
   ·refine Int.le_trans ?_ (ZK l _)
    unfold Yk
    split <;> omega
   ·exact J x j K
  ·rcases y with y | ⟨x,j,M,N⟩
   ·show l.foldl Yk (Yk n v)=n∨_
    by_cases D:n < v.n/\v.n<=1099511627776
    ·refine Or.inr ⟨v,by simp,?_,D.2⟩
     show v.n=l.foldl Yk (Yk n v)
     rw [y]
     unfold Yk
     rw [if_pos D]
    ·left
     rw [y]
     unfold Yk
     rw [if_neg D]
   ·exact Or.inr ⟨x,by simp [j],M,N⟩
theorem Jqx {L:List (List Yb)} (h:∀ v,v ∈ L.flatten↔v ∈ M.flatten):XF L=XF M:=by
 unfold XF
 obtain ⟨D,G⟩:=Q5 L.flatten 0 (by decide)
 obtain ⟨I,J⟩:=Q5 M.flatten 0 (by decide)
 have K:=ZK L.flatten 0
 have N:=ZK M.flatten 0
 refine Int.le_antisymm ?_ ?_
 ·rcases G with e | ⟨v,j,e,y⟩
  ·rw [e];exact N
  ·rw [<- e];exact I v ((h v).1 j) y
 ·rcases J with e | ⟨v,j,e,y⟩
  ·rw [e];exact K
  ·rw [<- e];exact D v ((h v).2 j) y
theorem KH {l:List Yb}:∀ {L:List (List Yb)},l ∈ L->l.length<=L.flatten.length
 | m :: L,h=>by
  rw [List.flatten_cons,List.length_append]
  rcases List.mem_cons.1 h with rfl | h
  ·omega
  ·have:=KH h
   omega
theorem Jjs {k:Nat} {all:List Yb} {S:(Int×Int)×ByteArray×Bool} {v:Yb} (y:1<=k) (h:S.2.1.size<=1000):(XH n k all S v).2.1.size<=1000:=by
 unfold XH
 split
 ·exact h
 ·split
  ·exact h
  ·rename_i j
   show (gB _ _ _).size<=1000
   rw [JpW]
   exact (FF y j).2.1
theorem y9 {n k:Nat} {all:List Yb} (j:1<=k):∀ (L:List Yb) (S:(Int×Int)×ByteArray×Bool),S.2.1.size<=1000->(L.foldl (XH n k all) S).2.1.size<=1000
 | [],_,h=>h
 | _ :: L,_,h=>y9 j L _ (Jjs j h)
def Xv (x:ByteArray):Lit:=.string x.data.toList
theorem rF {y:ByteArray} (h:Xv x=Xv y):x=y:=by
 unfold Xv at h
 injection h with h
 exact ByteArray.ext (Array.toList_inj.1 h)
theorem qR (x:ByteArray):WideAt.IsKeyLit (Xv x):=trivial
def iW (v:Value):Option (DataW Value×List MemPlace):=some (.held v,[])
theorem kE:Maps.Keyed Tryz.prog 9:=Maps.string_keyed Tryz.underlying9
theorem qP (j:x.size<=maxLen):keyOf Tryz.prog 9 (.string x)=some (Xv x):=WideMaps.keyOf_string_mk Tryz.underlying9 j
abbrev QX (w:World) (b n:Nat) (D:DataW Value):Prop:=w.ownsMap Tryz.prog 9 iW b n D
theorem QX.tight  (h:QX w b n D):QX w b (Maps.size D) D:=by
 obtain ⟨j,y,G,F,I,rfl⟩:=h
 refine ⟨j,y,G,F,?_,rfl⟩
 rw [Maps.size_eq,length_sorted]
 simp
theorem YS {α:Type}:∀ {l m:List α},l.Nodup->(∀ x ∈ l,x ∈ m)->l.length<=m.length
 | [],_,_,_=>Nat.zero_le _
 | a :: l,m,hn,hs=>by
  classical
  obtain ⟨D,G⟩:=List.nodup_cons.1 hn
  have j:=hs a (by simp)
  have:=YS (l:=l) (m:=m.erase a) G (fun x y=>(List.mem_erase_of_ne (show x≠a from fun e=>D (e ▸ y))).2 (hs x (by simp [y])))
  rw [List.length_erase_of_mem j] at this
  have:=List.length_pos_of_mem j
  simp only [List.length_cons]
  omega
theorem QX.same  (h:QX w b n D) (J:w'.heap[b]?=w.heap[b]?):QX w' b n D:=by
 obtain ⟨j,y,G,I⟩:=h
 exact ⟨j,y,J.trans G,I⟩
structure jA (w w':World) (b:Nat) (D:DataW Value) (key:ByteArray) (v:Value):Prop where
 own:∃ n,QX w' b n (D.put (Xv key) (.held v))
 grown:w.grownBy w' (some b)
theorem zC  {key:ByteArray} (I:QX w b n D) (Q:n < maxLen) (G:key.size<=maxLen) (j:Below w.heap.size w W) :
 ∃ w',(Instr.mapUpdate 89 (.map (some b)) (.string key) v).run Tryz.prog W=.ok () w'/\jA w w' b D key v:=by
 have J:b < w.heap.size:=World.ownsMap.lt I
 have K:QX W b n D:=I.same (j.block b J)
 obtain ⟨w',M,N,y⟩:=World.ownsMap.update K kE Tryz.underlying89 Q (val:=v) (d:=.held v) (ps:=[]) (qP G) rfl
 refine ⟨w',M,⟨_,N⟩,⟨y.os.trans j.os,y.tape.trans j.tape,y.output.trans j.output,Nat.le_trans j.size y.size,fun k G O=>?_⟩⟩
 rw [y.block k (Nat.lt_of_lt_of_le G j.size) O]
 exact j.block k G
theorem FI (b:Nat) (W:World):Sem.run Tryz.prog (binOp .eql 89 (.map (some b)) (.map none)) W=.ok (.bool false) W:=by kernel_rfl
theorem AD (W:World):Sem.run Tryz.prog (binOp .eql 89 (.map none) (.map none)) W=.ok (.bool true) W:=by kernel_rfl
theorem xB  (h:Below B w.drew W):Below B w W:=⟨h.os,h.tape,h.output,h.size,h.block⟩
theorem NM {α:Type} {E:eW α}  {l:List α} {row:Option Nat} (h:Ql E w q l) (G:w.grownBy w' row) (M:∀ b o,q=some ⟨b,o,none⟩->some b≠row):Ql E w' q l:=by
 rcases h with h | ⟨b,o,y,D,I⟩
 ·exact Or.inl h
 ·exact Or.inr ⟨b,o,y,Nat.lt_of_lt_of_le D G.size,fun i x J j u K=>(World.cell?_of_block (a:=⟨b,o+i*E.k+j,none⟩) (G.block b D (M _ _ y))).trans (I i x J j u K)⟩
def xL (B:Nat) (w:World) (e:TypeId) (v:Value) (j:List Value) (M:List (List Yb)):Prop :=
 JM w B e v j/\j.length=M.length/\∀ i,i < M.length->∃ q c,j[i]?=some (.slice q (M.getD i []).length c)/\Ql Ze w q (M.getD i [])/\(M.getD i []).length<=c/\(q=none->M.getD i []=[]/\c=0)/\∀ b o,q=some ⟨b,o,none⟩->B<=b/\b < w.heap.size/\v.ownBlock≠some b
theorem xL.snoc {y K:World} {E:TypeId} {N r:Value} {Y:List Value}  {o:Obj} (h:xL B w T v Y M) (hB:B<=w.heap.size) (hr:Zc Ze E y w.heap.size r row) (hb:Below w.heap.size w y)
 (hv:JM K B T N (Y ++ [r]))
 (I:(y.alloc o).grownBy K v.ownBlock) (j:N.ownBlock=v.ownBlock∨N.ownBlock=some (y.alloc o).heap.size):xL B K T N (Y ++ [r]) (M ++ [row]):=by
 obtain ⟨a3,Z,a4⟩:=h
 have hz:=hb.size
 have a0:(y.alloc o).heap.size=y.heap.size+1:=by simp
 have a1:∀ k,v.ownBlock=some k->k < w.heap.size:=fun k O=>(a3.block O).2
 have J:y.grownBy K v.ownBlock:=⟨I.os,I.tape,I.output,by have:=I.size;omega,fun k O a5=>(I.block k (by omega) a5).trans (Below.heap_alloc y o k O)⟩
 refine ⟨hv,by simp [Z],fun i hi=>?_⟩
 rw [List.length_append,List.length_singleton] at hi
 by_cases a2:i < M.length
 ·obtain ⟨q,c,Q,U,W,X,G⟩:=a4 i a2
  have e:(M ++ [row]).getD i []=M.getD i []:=by rw [List.getD_eq_getElem?_getD,List.getD_eq_getElem?_getD,List.getElem?_append_left a2]
  rw [e]
  refine ⟨q,c,by rw [List.getElem?_append_left (by omega)];exact Q,NM (U.below hb) J (fun b o D=>fun e=>(G b o D).2.2 e.symm),W,X,fun b o D=>?_⟩
  have:=G b o D
  refine ⟨this.1,by have:=J.size;omega,?_⟩
  rcases j with j | j
  ·rw [j];exact this.2.2
  ·rw [j,a0];intro e;have:=Option.some.inj e;omega
 ·obtain rfl:i=M.length:=by omega
  have e:(M ++ [row]).getD M.length []=row:=by rw [List.getD_eq_getElem?_getD,List.getElem?_append_right (Nat.le_refl _),Nat.sub_self];rfl
  rw [e]
  obtain ⟨q,c,Q,U,W,X,G⟩:=hr.form
  refine ⟨q,c,by rw [List.getElem?_append_right (by omega),Z,Nat.sub_self,Q];rfl,NM U J (fun b o D=>?_),W,X,fun b o D=>?_⟩
  ·have:=G b o D
   intro e
   have:=a1 _ e.symm
   omega
  ·have:=G b o D
   refine ⟨by omega,by have:=J.size;omega,?_⟩
   rcases j with j | j
   ·rw [j];intro e;have:=a1 _ e;omega
   ·rw [j,a0];intro e;have:=Option.some.inj e;omega
theorem xL.wO   {W:List Value} (h:xL B w T v W M):∃ p c,v=.slice p M.length c/\eU w p M:=by
 obtain ⟨y,j,D⟩:=h
 rcases y.cells with ⟨rfl,rfl⟩ | ⟨g,G,rfl,hB,I,J⟩
 ·have:M=[]:=List.length_eq_zero_iff.1 (by simpa using j.symm)
  subst this
  exact ⟨none,0,rfl,Or.inl rfl⟩
 ·refine ⟨some ⟨g,0,none⟩,G,by rw [j],Or.inr ⟨g,0,rfl,I,fun i K=>?_⟩⟩
  obtain ⟨q,c,N,O,Q,U,_⟩:=D i K
  refine ⟨q,c,?_,O,Q,U⟩
  rw [Nat.zero_add]
  exact J i _ N
theorem VU:(Tryz.prog.info? 55).map (fun i=>(i.zero,i.size,i.bytes))=some (some (.slice none 0 0),1,24):=by kernel_rfl
section
def Qo (a:Za) (mv nv fv lv:Value):Array Value:=#[.string a.name,.string a.key,.int .i64 a.who,.int .i64 a.op,.int .i64 a.config,.int .i64 a.c.n,.int .i64 a.c.k,mv,.int .i64 a.next.n,.int .i64 a.next.k,nv,.bool a.put,.bool a.aI,.string a.st.word,fv,lv,.int .i64 a.tag.1,.int .i64 a.tag.2,.string a.text,.bool a.found]
structure RC (w:World) (B:Nat) (v:Value) (L:List ByteArray):Prop where
 at_:∃ p c,v=.slice p L.length c/\Strs w p L/\L.length<=c/\(p=none->L=[]/\c=0)/\∀ b o,p=some ⟨b,o,none⟩->b < B
theorem RC.eK  {L:List ByteArray} (h:RC w B v L) (J:Below B w w'):RC w' B v L:=by
 obtain ⟨p,c,y,D,G,I,j⟩:=h.at_
 exact ⟨p,c,y,D.eK J j,G,I,j⟩
structure Xh (w:World) (B:Nat) (S:Nat->Prop) (ab:Nat) (a:Za) (mv nv fv lv:Value) (vs:List Value):Prop where
 dT:w.heap[ab]?=some (.cells (Qo a mv nv fv lv) 48 (0,0))
 mem:RC w B mv a.c.L
 rD:RC w B nv a.next.L
 from_:Zq w B fv a.from_
 told:xL B w 55 lv vs a.L
 self:S ab
 sF:∀ k,fv.ownBlock=some k->S k/\k≠ab
 sL:∀ k,lv.ownBlock=some k->S k/\k≠ab/\fv.ownBlock≠some k
 sV:∀ v ∈ vs,∀ k,v.ownBlock=some k->S k/\k≠ab/\fv.ownBlock≠some k
 aO:∀ k,S k->B<=k/\k < w.heap.size
theorem O6  {e:TypeId} {vs:List Value} (h:xL B w e v vs M) (Q:w.heap.size<=w'.heap.size) (hv:∀ k,v.ownBlock=some k->w'.heap[k]?=w.heap[k]?) (hi:∀ x ∈ vs,∀ k,x.ownBlock=some k->w'.heap[k]?=w.heap[k]?):xL B w' e v vs M:=by
 obtain ⟨U,W,X⟩:=h
 refine ⟨?_,W,fun i Y=>?_⟩
 ·obtain ⟨Z,y⟩:=U
  refine ⟨Z,?_⟩
  rcases y with y | ⟨g,a0,a1,J,a2,hg,a3⟩
  ·exact Or.inl y
  ·exact Or.inr ⟨g,a0,a1,J,a2,(hv g (by rw [J];rfl)).trans hg,a3⟩
 ·obtain ⟨q,c,K,D,g3,g4,G⟩:=X i Y
  refine ⟨q,c,K,?_,g3,g4,fun b o I=>⟨(G b o I).1,Nat.lt_of_lt_of_le (G b o I).2.1 Q,(G b o I).2.2⟩⟩
  rcases D with D | ⟨b,o,N,a4,hc⟩
  ·exact Or.inl D
  ·have a5:w'.heap[b]?=w.heap[b]?:=hi _ (List.mem_of_getElem? K) b (by rw [N];rfl)
   exact Or.inr ⟨b,o,N,Nat.lt_of_lt_of_le a4 Q,fun j x hx O u hu=>(World.cell?_of_block (a:=⟨b,o+j*Ze.k+O,none⟩) a5).trans (hc j x hx O u hu)⟩
theorem O3  {l:List ByteArray} (h:Zq w B v l) (N:∀ k,v.ownBlock=some k->w'.heap[k]?=w.heap[k]?):Zq w' B v l:=by
 obtain ⟨D,j⟩:=h
 refine ⟨D,?_⟩
 rcases j with j | ⟨g,G,I,y,J,K,M⟩
 ·exact Or.inl j
 ·exact Or.inr ⟨g,G,I,y,J,(N g (by rw [y];rfl)).trans K,M⟩
variable {w w':World} {B:Nat} {S:Nat->Prop} {ab:Nat} {a:Za} {mv nv fv lv:Value} {vs:List Value}
theorem Xh.aS (h:Xh w B S ab a mv nv fv lv vs) (y:Below B w w') (D:∀ k,S k->w'.heap[k]?=w.heap[k]?):Xh w' B S ab a mv nv fv lv vs where
 dT:=(D ab h.self).trans h.dT
 mem:=h.mem.eK y
 rD:=h.rD.eK y
 from_:=O3 h.from_ fun k j=>D k (h.sF k j).1
 told:=O6 h.told y.size (fun k j=>D k (h.sL k j).1) (fun x G k j=>D k (h.sV x G k j).1)
 self:=h.self
 sF:=h.sF
 sL:=h.sL
 sV:=h.sV
 aO:=fun k j=>⟨(h.aO k j).1,Nat.lt_of_lt_of_le (h.aO k j).2 y.size⟩
theorem Xh.vP (h:Xh w B S ab a mv nv fv lv vs):B<=w.heap.size:=Nat.le_of_lt (Nat.lt_of_le_of_lt (h.aO ab h.self).1 (h.aO ab h.self).2)
theorem Xh.below (h:Xh w B S ab a mv nv fv lv vs) (j:Below w.heap.size w w'):Xh w' B S ab a mv nv fv lv vs:=h.aS (j.mono h.vP) fun k y=>j.block k (h.aO k y).2
theorem Xh.cell (h:Xh w B S ab a mv nv fv lv vs) (i:Nat):w.cell? ⟨ab,i,none⟩=(Qo a mv nv fv lv)[i]?:=by simp [World.cell?,h.dT]
theorem Xh.free (h:Xh w B S ab a mv nv fv lv vs) (i:Nat):w.frozen? ⟨ab,i,none⟩=false:=by simp [World.frozen?,h.dT]
theorem O1 {w:World} {j:Array Value} (h:w.heap[b]?=some (.cells j t (0,0))) (i:Nat) (v:Value):(w.setCell ⟨b,i,none⟩ v).heap[b]?=some (.cells (j.setIfInBounds i v) t (0,0)):=by
 simp [World.setCell,Array.getElem?_modify,h]
theorem Xh.set (h:Xh w B S ab a mv nv fv lv vs) (i:Nat) (v:Value) {a':Za} {G I:Value} (K:(Qo a mv nv fv lv).setIfInBounds i v=Qo a' mv nv G I) (M:a'.c.L=a.c.L) (N:a'.next.L=a.next.L) (O:a'.from_=a.from_) (Q:a'.L=a.L) (U:G=fv) (W:I=lv):Xh (w.setCell ⟨ab,i,none⟩ v) B S ab a' mv nv G I vs:=by
 subst U W
 have y:Below B w (w.setCell ⟨ab,i,none⟩ v):=(Below.refl _ _).setCell (h.aO ab h.self).1 _
 have D:∀ k,k≠ab->(w.setCell ⟨ab,i,none⟩ v).heap[k]?=w.heap[k]?:=fun k j=>Below.heap_setCell w _ v k j
 refine ⟨(O1 h.dT i v).trans (by rw [K]),by rw [M];exact h.mem.eK y,by rw [N];exact h.rD.eK y,by rw [O];exact O3 h.from_ fun k j=>D k (h.sF k j).2,by rw [Q];exact O6 h.told y.size (fun k j=>D k (h.sL k j).2.1) (fun x J k j=>D k (h.sV x J k j).2.1),h.self,h.sF,h.sL,h.sV,fun k j=>⟨(h.aO k j).1,Nat.lt_of_lt_of_le (h.aO k j).2 y.size⟩⟩
end
structure E3 (w:World) (ad:Nat->Addr):Prop where
 c1:w.cell? ⟨0,0,none⟩=some (.iface 252 (.pointer (some (ad 1))))
 c3:w.cell? ⟨3,0,none⟩=some (.iface 252 (.pointer (some (ad 3))))
 c5:w.cell? ⟨5,0,none⟩=some (.iface 252 (.pointer (some (ad 5))))
theorem E3.below  (h:E3 w ad) (j:Below w.heap.size w w'):E3 w' ad:=⟨(j.cell (Yl h.c1)).trans h.c1,(j.cell (Yl h.c3)).trans h.c3,(j.cell (Yl h.c5)).trans h.c5⟩
theorem zP  (i:Nat) (j:i < 12) (at_:Int) (y:w'=w.alloc (.cells #[.int .i64 at_,.iface 252 (.pointer (some (ad i)))] t)):Jd w' ad (.iface 112 (.pointer (some ⟨w.heap.size,0,none⟩))) ((i+1:Nat):Int) at_:=by
 subst y
 refine Or.inr (Or.inr ⟨i,w.heap.size,j,rfl,rfl,?_,?_⟩)
 ·rw [World.cell?_alloc_at _ _ _ _ rfl];rfl
 ·rw [World.cell?_alloc_at _ _ _ _ rfl];rfl
theorem SA (ad:Nat->Addr) (p:Option Addr) (l:List ByteArray) (c:Nat) (w:World) (K:l.length<=1000) (D:E3 w ad) (h:l.length < 1∨16 < l.length) :
 Calls Tryz.prog 102 #[.slice p l.length c] w fun e w'=>(∃ j,e=.returned j/\Jd w' ad j 2 (-1))/\Below w.heap.size w w':=by
 have I:=D.c1
 have y:Hid (∀ W,Jd W ad (.iface 252 (.pointer (some (ad 1)))) 2 (-1)):=fun W=>Jd.b8 1 (by decide)
 clear D
 rcases h with h | h
 ·have G:decide ((l.length:Int) < 1)=true:=decide_eq_true (by omega)
  go_enter Tryz.func102,Tryz.ntmps102
  go_wp2
  go_ret
  exact ⟨⟨_,rfl,y.out _⟩,Below.refl _ _⟩
 ·have G:decide ((l.length:Int) < 1)=false:=decide_eq_false (by omega)
  have J:=decide_eq_true (by omega)
  go_enter Tryz.func102,Tryz.ntmps102
  go_wp2
  go_ret
  exact ⟨⟨_,rfl,y.out _⟩,Below.refl _ _⟩
theorem MA (ad:Nat->Addr) (p:Option Addr) (l:List ByteArray) (c:Nat) (w:World) (h1:¬ l.length < 1) (h2:¬ 16 < l.length) (hc:l.length<=c) (hs:Strs w p l) (hE:E3 w ad) :
 Calls Tryz.prog 102 #[.slice p l.length c] w fun e w'=>(∃ ev,e=.returned ev/\Jd w' ad ev (XO l 0 l.length).1 (XO l 0 l.length).2)/\Below w.heap.size w w':=by
 have HS:Hid (Strs w p l):=hs
 have HE:Hid _:=hE
 have g1:=decide_eq_false (by omega)
 have g2:=decide_eq_false (by omega)
 obtain ⟨b,o,rfl⟩:∃ b o,p=some ⟨b,o,none⟩:=by
  rcases hs with h0 | ⟨b,o,hp,_⟩
  ·rw [h0] at h1;exact absurd (by decide) h1
  ·exact ⟨b,o,hp⟩
 clear hs hE
 obtain ⟨R,hR⟩:∃ R,R=XO l 0 l.length:=⟨_,rfl⟩
 rw [<- hR]
 have HR:Hid _:=hR
 clear hR
 go_enter Tryz.func102,Tryz.ntmps102
 go_wp2
 go_loopw [16] (fun x wq=>∃ i:Nat,i<=l.length/\x=.int .i64 i/\XO l i (l.length - i)=R/\Below w.heap.size w wq) (fun x _=>l.length - (intOf x).toNat)
 case atStart=>exact ⟨0,Nat.zero_le _,rfl,HR.out.symm,Below.refl _ _⟩
 case round =>
  obtain ⟨i,hi,rfl,a4,a0⟩:=hrel
  obtain ⟨U,rfl⟩:∃ U,U=wr:=⟨_,rfl⟩
  have D:Hid _:=a4
  have I:Hid _:=a0
  have a1:Hid (Strs U (some ⟨b,o,none⟩) l):=HS.out.below a0
  have a5:Hid (E3 U ad):=HE.out.below a0
  clear a4 a0 HR HS HE
  by_cases a2:i < l.length
  ·have q3 : U.cell? ⟨b, o + i, none⟩ = some (.string (Yc l i)) := by
    rcases a1.out with h0 | ⟨b',o',hp,_,a6⟩
    ·rw [h0] at a2;exact absurd a2 (Nat.not_lt_zero _)
    ·obtain ⟨rfl,rfl⟩:b=b'/\o=o':=by simpa using hp
     exact a6 i a2
   have G:Hid (∀ W,Calls Tryz.prog 74 #[.string (Yc l i)] W fun e w'=>e=.returned (.bool (Jo (Yc l i)))/\Below W.heap.size W w'):=fun W=>qF _ W
   have O:Hid (XO l i (l.length - i)=if Yu l i=0 then XO l (i+1) (l.length - (i+1)) else (((Yu l i:Nat):Int),(i:Int))):=by
    show _=_
    rw [show l.length - i=(l.length - (i+1))+1 by omega]
    rfl
   by_cases J:Jo (Yc l i)=true
   ·have K:Hid (∀ W,Strs W (some ⟨b,o,none⟩) (l.take i)->Calls Tryz.prog 92 #[.slice (some ⟨b,o,none⟩) (l.take i).length c,.string (Yc l i)] W fun e w'=>e=.returned (.bool (Xu (l.take i) (Yc l i)))/\w'=W):=fun W hW=>vN _ _ c _ W (by rw [List.length_take];omega) hW
    rw [show (l.take i).length=i by rw [List.length_take];omega] at K
    rw [J] at G
    by_cases Q:Yc l i ∈ l.take i
    ·have M : Hid (R = (6, (i : Int))) := by
      show _=_
      rw [<- D.out,O.out,TL J Q,if_neg (by decide)]
      rfl
     rw [Zl.2 Q] at K
     clear D O J Q
     generalize Yc l i=t at *
     go_wp2_with fail
     refine (G.out _).mono ?_
     rintro e y ⟨rfl,j⟩
     have N:Hid (Below w.heap.size w y):=I.out.trans (j.mono I.out.size)
     have X:Hid (Strs y (some ⟨b,o,none⟩) (l.take i)):=(a1.out.below j).take i
     have Y:E3 y ad:=a5.out.below j
     have q4:=Y.c5
     clear Y j G q3
     go_wp2_with fail
     refine (K.out _ X.out).mono ?_
     rintro e w3 ⟨rfl,Z⟩
     rw [Z]
     clear Z w3 K X
     go_wp2
     go_ret
     exact ⟨⟨_,rfl,by rw [M.out];exact zP (w:=y) 5 (by decide) (i:Int) rfl⟩,N.out.alloc N.out.size _⟩
    ·have M : Hid (XO l (i + 1) (l.length - (i + 1)) = R) := by
      show _=_
      rw [<- D.out,O.out,ET J Q,if_pos rfl]
     rw [Bool.eq_false_iff.2 (fun h=>Q (Zl.1 h))] at K
     clear D O J Q
     generalize Yc l i=t at *
     go_wp2_with fail
     refine (G.out _).mono ?_
     rintro e y ⟨rfl,j⟩
     have N:Hid (Below w.heap.size w y):=I.out.trans (j.mono I.out.size)
     have X:Hid (Strs y (some ⟨b,o,none⟩) (l.take i)):=(a1.out.below j).take i
     clear j G q3
     go_wp2_with fail
     refine (K.out _ X.out).mono ?_
     rintro e w3 ⟨rfl,Z⟩
     rw [Z]
     clear Z w3 K X
     go_wp2
     go_roundw
     case rel=>exact ⟨i+1,by omega,by go_num,M.out,N.out⟩
     case measure=>simp [intOf];omega
   ·have a3:Jo (Yc l i)=false:=Bool.eq_false_iff.2 J
    have M:Hid (R=(4,(i:Int))):=by
     show _=_
     rw [<- D.out,O.out,Jj1 a3,if_neg (by decide)]
     rfl
    rw [a3] at G
    clear D O J a3
    generalize Yc l i=t at *
    go_wp2_with fail
    refine (G.out _).mono ?_
    rintro e y ⟨rfl,j⟩
    have N:Hid (Below w.heap.size w y):=I.out.trans (j.mono I.out.size)
    have Y:E3 y ad:=a5.out.below j
    have q4:=Y.c3
    clear Y j G q3
    go_wp2
    go_ret
    exact ⟨⟨_,rfl,by rw [M.out];exact zP (w:=y) 3 (by decide) (i:Int) rfl⟩,N.out.alloc N.out.size _⟩
  ·have a7:i=l.length:=by omega
   subst a7
   have M:Hid (R=(0,-1)):=by
    show _=_
    rw [<- D.out,Nat.sub_self]
    rfl
   clear D
   go_wp2
   go_ret
   exact ⟨⟨_,rfl,by rw [M.out];exact Jd.nil _ _⟩,I.out⟩
theorem IF (ad:Nat->Addr) (p:Option Addr) (l:List ByteArray) (c:Nat) (w:World) (D:l.length<=1000) (G:l.length<=c) (I:Strs w p l) (y:E3 w ad) :
 Calls Tryz.prog 102 #[.slice p l.length c] w fun e w'=>(∃ j,e=.returned j/\Jd w' ad j (Xj l).1 (Xj l).2)/\Below w.heap.size w w':=by
 by_cases h:l.length < 1∨16 < l.length
 ·rw [E7 h]
  exact SA ad p l c w D y h
 ·rw [AB (by omega) (by omega)]
  exact MA ad p l c w (by omega) (by omega) G I y
theorem Xs (t:ByteArray) (w:World) (I:t.size<=140737488351232):Calls Tryz.prog 33 #[.string t] w fun e w'=>e=.returned (.string t)/\Below w.heap.size w w':=by
 have y:Hid (∀ W,Calls Tryz.prog 55 #[.string t] W fun e w'=>e=.returned (.string t)/\Below W.heap.size W w'):=fun W=>Tryz.stringslite_Clone t W (by omega)
 go_enter Tryz.func33,Tryz.ntmps33
 go_wp2_with fail
 refine (y.out _).mono ?_
 rintro e D ⟨rfl,j⟩
 have G:Hid (Below w.heap.size w D):=j
 clear j
 go_wp2
 go_ret
 exact ⟨rfl,G.out⟩
section
variable {w w':World} {B:Nat} {S:Nat->Prop} {ab:Nat} {a:Za} {mv nv fv lv:Value} {vs:List Value}
theorem Jbm (f:List ByteArray) (L:List (List Yb)):∀ (l m:List ByteArray),Xq f L (l ++ m)=Xq f L l ++ Xq f L m
 | [],_=>rfl
 | x :: l,m=>by
  have ih:=Jbm f L l m
  rw [List.cons_append]
  by_cases h:Xu f x=true
  ·have j:∀ r,Xq f L (x :: r)=L.getD (ZJ f x) [] :: Xq f L r:=fun r=>if_pos h
   rw [j,j,ih,List.cons_append]
  ·have j:∀ r,Xq f L (x :: r)=Xq f L r:=fun r=>if_neg h
   rw [j,j,ih]
theorem Jdd {f:List ByteArray} {L:List (List Yb)} {m:List ByteArray} (h:i < m.length):Xq f L (m.take (i+1))=Xq f L (m.take i) ++ (if Xu f (Yc m i) then [L.getD (ZJ f (Yc m i)) []] else []):=by
 rw [List.take_succ_eq_append_getElem h,Jbm,Xk m i h]
 congr 1
theorem Jbn (f:List ByteArray) (L:List (List Yb)):∀ m:List ByteArray,(Xq f L m).length<=m.length
 | []=>Nat.le_refl _
 | x :: m=>by
  have:=Jbn f L m
  unfold Xq
  split
  ·simp;exact this
  ·simp;omega
def lT (w:World) (j:List Value) (LL:List (List Yb)):Prop:=j.length=LL.length/\∀ i,i < LL.length->∃ q c,j[i]?=some (.slice q (LL.getD i []).length c)/\Ql Ze w q (LL.getD i [])/\(LL.getD i []).length<=c/\(q=none->LL.getD i []=[]/\c=0)
theorem lT.snoc {w:World} {y:List Value}  {c:Nat} (h:lT w y LL) (O:Ql Ze w q row) (Q:row.length<=c) (U:q=none->row=[]/\c=0):lT w (y ++ [.slice q row.length c]) (LL ++ [row]):=by
 refine ⟨by simp [h.1],fun i D=>?_⟩
 rw [List.length_append,List.length_singleton] at D
 by_cases j:i < LL.length
 ·obtain ⟨G,I,J,K,M,N⟩:=h.2 i j
  have e:(LL ++ [row]).getD i []=LL.getD i []:=by rw [List.getD_eq_getElem?_getD,List.getD_eq_getElem?_getD,List.getElem?_append_left j]
  rw [e]
  exact ⟨G,I,by rw [List.getElem?_append_left (by rw [h.1];exact j)];exact J,K,M,N⟩
 ·obtain rfl:i=LL.length:=by omega
  have e:(LL ++ [row]).getD LL.length []=row:=by rw [List.getD_eq_getElem?_getD,List.getElem?_append_right (Nat.le_refl _),Nat.sub_self];rfl
  rw [e]
  exact ⟨q,c,by rw [List.getElem?_append_right (by rw [h.1];exact Nat.le_refl _),h.1,Nat.sub_self];rfl,O,Q,U⟩
theorem lT.wO {w w':World} {B:Nat}  {j:List Value} (h:lT w j LL) (O:Below w.heap.size w w') (Q:JM w' B T v j):∃ p c,v=.slice p LL.length c/\eU w' p LL:=by
 rcases Q.cells with ⟨rfl,rfl⟩ | ⟨g,y,rfl,hB,D,G⟩
 ·have:LL=[]:=List.length_eq_zero_iff.1 h.1.symm
  subst this
  exact ⟨none,0,rfl,Or.inl rfl⟩
 ·refine ⟨some ⟨g,0,none⟩,y,by rw [h.1],Or.inr ⟨g,0,rfl,D,fun i I=>?_⟩⟩
  obtain ⟨q,c,J,K,M,N⟩:=h.2 i I
  exact ⟨q,c,by rw [Nat.zero_add];exact G i _ J,K.below O,M,N⟩
theorem JdL (h:Xh w B S ab a mv nv fv lv vs) (hl:a.c.L.length<=1000) (i7:a.from_.length<=1000) (e3:a.from_.length=a.L.length):Calls Tryz.prog 49 #[.pointer (some ⟨ab,0,none⟩)] w fun e w'=>(∃ p c,e=.returned (.slice p (Xq a.from_ a.L a.c.L).length c)/\eU w' p (Xq a.from_ a.L a.c.L))/\Below w.heap.size w w':=by
 obtain ⟨i0,e4,e5,e6,e8⟩:=info_parts VU
 have e9:Hid (Xh w B S ab a mv nv fv lv vs):=h
 obtain ⟨mp,mc,f3,b7,h9,f4,f5⟩:=h.mem.at_
 obtain ⟨K,M,f6,a2,i1,f7,_⟩:=h.from_.form
 obtain ⟨lp,lc,f8,a5⟩:=h.told.wO
 subst f3 f6 f8
 have i2:ab < w.heap.size:=(h.aO ab h.self).2
 have a6:Hid (∀ W,Below w.heap.size w W->(W.cell? ⟨ab,7,none⟩=some (.slice mp a.c.L.length mc)/\W.cell? ⟨ab,14,none⟩=some (.slice K a.from_.length M)/\W.cell? ⟨ab,15,none⟩=some (.slice lp a.L.length lc))/\Strs W mp a.c.L/\Strs W K a.from_/\eU W lp a.L):=fun W I=>by
  have hh:=e9.out.below I
  exact ⟨⟨hh.cell 7,hh.cell 14,hh.cell 15⟩,b7.below I,a2.below I,a5.below I⟩
 have f9:Hid (eU w lp a.L):=a5
 have g0:Hid (a.from_.length=a.L.length):=e3
 have a7:Hid (∀ i,i < a.c.L.length->Xq a.from_ a.L (a.c.L.take (i+1))=Xq a.from_ a.L (a.c.L.take i) ++ (if Xu a.from_ (Yc a.c.L i) then [a.L.getD (ZJ a.from_ (Yc a.c.L i)) []] else [])):=fun i hi=>Jdd hi
 have g1:Hid (∀ i,(Xq a.from_ a.L (a.c.L.take i)).length<=a.c.L.length):=fun i=>Nat.le_trans (Jbn _ _ _) (by rw [List.length_take];omega)
 have i3:Hid (a.c.L.take a.c.L.length=a.c.L):=List.take_length
 have a8:Hid (∀ (s:ByteArray) W,Below w.heap.size w W->s ∈ a.from_->Calls Tryz.prog 46 #[.slice K a.from_.length M,.string s] W fun e w'=>e=.returned (.int .i64 ((ZJ a.from_ s:Nat):Int))/\w'=W):=fun s W I hs=>wS K a.from_ M s W (by omega) (a2.below I) hs
 have a9:Hid (∀ (s:ByteArray) W,Below w.heap.size w W->s ∉ a.from_->Calls Tryz.prog 46 #[.slice K a.from_.length M,.string s] W fun e w'=>e=.returned (.int .i64 (-1))/\w'=W):=fun s W I hs=>BL K a.from_ M s W (by omega) (a2.below I) hs
 clear h b7 f5 a2 a5 f7 f4 e3
 obtain ⟨⟨c7,g2,g3⟩,_⟩:=a6.out w (Below.refl _ _)
 go_enter Tryz.func49,Tryz.ntmps49
 go_wp2
 go_loopw [3,4] (fun v x wr=>∃ i:Nat,i<=a.c.L.length/\x=.int .i64 i/\(∃ J,JM wr w.heap.size 55 v J/\lT w J (Xq a.from_ a.L (a.c.L.take i)))/\Below w.heap.size w wr) (fun _ x _=>a.c.L.length - (intOf x).toNat)
 case atStart=>exact ⟨0,Nat.zero_le _,rfl,⟨[],JM.nil _ _ _,rfl,fun i hi=>absurd hi (Nat.not_lt_zero _)⟩,Below.refl _ _⟩
 case round =>
  obtain ⟨i,hi,rfl,⟨J,hO,b0⟩,hB⟩:=hrel
  obtain ⟨y,rfl⟩:∃ y,y=wr:=⟨_,rfl⟩
  obtain ⟨v,rfl⟩:∃ v,v=u3:=⟨_,rfl⟩
  have Q:Hid (JM y w.heap.size 55 v J):=hO
  have a3:Hid (lT w J (Xq a.from_ a.L (a.c.L.take i))):=b0
  have G:Hid (Below w.heap.size w y):=hB
  have i4:J.length<=1000:=by rw [b0.1];have:=g1.out i;omega
  obtain ⟨⟨d7,d0,d1⟩,g4,_,_⟩:=a6.out y hB
  have g5:w.heap.size<=y.heap.size:=hB.size
  clear hO b0 c7 g2 g3
  by_cases a4:i < a.c.L.length
  ·rcases g4 with h0 | ⟨b,o,g6,i5,d2⟩
   ·rw [h0] at a4;exact absurd a4 (Nat.not_lt_zero _)
   have q1:=d2 i a4
   have U:=a7.out i a4
   have b1:=a8.out (Yc a.c.L i)
   have b2:=a9.out (Yc a.c.L i)
   subst g6
   clear d2 hB
   generalize Yc a.c.L i=t at *
   by_cases Y:t ∈ a.from_
   ·rw [if_pos (Zl.2 Y)] at U
    have b3:ZJ a.from_ t < a.L.length:=by rw [<- g0.out];exact lM Y
    have Z:Hid (∀ W,Below w.heap.size w W->Calls Tryz.prog 46 #[.slice K a.from_.length M,.string t] W fun e w'=>e=.returned (.int .i64 ((ZJ a.from_ t:Nat):Int))/\w'=W):=fun W I=>b1 W I Y
    rcases f9.out with h0 | ⟨vb,vo,g7,d3,d4⟩
    ·rw [h0] at b3;exact absurd b3 (Nat.not_lt_zero _)
    obtain ⟨rq,rc,d5,d6,g8,g9⟩:=d4 _ b3
    have b4:Hid (Xq a.from_ a.L (a.c.L.take (i+1))=Xq a.from_ a.L (a.c.L.take i) ++ [a.L.getD (ZJ a.from_ t) []]):=U
    have h1:Hid (lT w (J ++ [.slice rq (a.L.getD (ZJ a.from_ t) []).length rc]) (Xq a.from_ a.L (a.c.L.take i) ++ [a.L.getD (ZJ a.from_ t) []])):=a3.out.snoc d6 g8 g9
    have r1:y.cell? ⟨vb,vo+ZJ a.from_ t,none⟩=some (.slice rq (a.L.getD (ZJ a.from_ t) []).length rc):=(G.out.cell (p:=⟨vb,vo+ZJ a.from_ t,none⟩) d3).trans d5
    subst g7
    clear d4 d5 d6 b1 b2 U a8 a9 a7
    generalize a.L.getD (ZJ a.from_ t) []=row at *
    generalize ZJ a.from_ t=ix at *
    go_wp2
    refine wp_region_still_tail 12 (by kernel_rfl) (by kernel_rfl) ?_
    simp only [List.take_succ_cons,List.take_zero,List.drop_succ_cons,List.drop_zero]
    still_step
    still_step
    still_step
    still_step
    still_step
    still_step
    still_step
    still_step
    still_step
    still_step
    still_step
    still_step
    refine wpStill_nil ?_
    obtain ⟨j,N⟩:∃ j,j=y.drewN 1:=⟨_,rfl⟩
    have D:Below y.heap.size y j:=by rw [N];exact below_drewN (Below.refl _ _) 1
    have b5:=Z.out j (G.out.trans (D.mono G.out.size))
    have b6:Hid (j=y.drewN 1):=N
    have a0:Hid (JM j w.heap.size 55 v J):=JM.kept (row:=none) Q.out ⟨D.os,D.tape,D.output,D.size,fun k O _=>D.block k O⟩ (by cases v.ownBlock <;> simp)
    have X:Hid (Below w.heap.size w j):=G.out.trans (D.mono G.out.size)
    obtain ⟨⟨e7,h2,h3⟩,_⟩:=a6.out j X.out
    have r2:j.cell? ⟨vb,vo+ix,none⟩=some (.slice rq row.length rc):=(D.cell (p:=⟨vb,vo+ix,none⟩) (Nat.lt_of_lt_of_le d3 g5)).trans r1
    have h4:w.heap.size<=j.heap.size:=X.out.size
    clear N D Q G d7 d0 d1 q1 r1 Z
    change wpList _ _ _ _ _ (y.drewN 1)
    rw [<- b6.out]
    go_wp2_with (first | (go_at_call 46;refine b5.mono ?_;rintro e w3 ⟨rfl,a1⟩;rw [a1];clear a1 w3) | (at_builtin;refine yL rfl (.tmp 31) (.tmp 39) 44 rfl w.heap.size 55 i0 (.slice none 0 0) 24 Tryz.underlying44 e4 e5 rfl e6 e8 (by decide) v J rfl (JM.kept (row:=none) a0.out ⟨rfl,rfl,rfl,by simp,fun k O _=>Below.heap_alloc _ _ k O⟩ (by cases v.ownBlock <;> simp)) ⟨j.heap.size,0,none⟩ 1 (.slice rq row.length rc) rfl rfl (by rw [World.cell?_alloc_at _ _ _ _ rfl];rfl) (by omega) (by simp;omega) ?_;intro v4 w4 d8 d9 _))
    have h5:Hid (JM w4 w.heap.size 55 v4 (J ++ [.slice rq row.length rc])):=d8
    have h6:Hid (Below w.heap.size w w4):=(X.out.alloc h4 _).grown d9 (by simp;omega) (fun k O=>(a0.out.block O).1)
    clear d8 d9 a0 X e7 h2 h3 r2
    go_wp2
    go_roundw
    case rel=>exact ⟨i+1,by omega,by go_num,⟨_,h5.out,by rw [b4.out];exact h1.out⟩,h6.out⟩
    case measure=>simp [intOf];omega
   ·rw [if_neg (fun h=>Y (Zl.1 h)),List.append_nil] at U
    have Z:Hid (∀ W,Below w.heap.size w W->Calls Tryz.prog 46 #[.slice K a.from_.length M,.string t] W fun e w'=>e=.returned (.int .i64 (-1))/\w'=W):=fun W I=>b2 W I Y
    have b4:Hid (Xq a.from_ a.L (a.c.L.take (i+1))=Xq a.from_ a.L (a.c.L.take i)):=U
    clear b1 b2 U a8 a9 a7
    go_wp2
    refine wp_region_still_tail 12 (by kernel_rfl) (by kernel_rfl) ?_
    simp only [List.take_succ_cons,List.take_zero,List.drop_succ_cons,List.drop_zero]
    still_step
    still_step
    still_step
    still_step
    still_step
    still_step
    still_step
    still_step
    still_step
    still_step
    still_step
    still_step
    refine wpStill_nil ?_
    obtain ⟨j,N⟩:∃ j,j=y.drewN 1:=⟨_,rfl⟩
    have D:Below y.heap.size y j:=by rw [N];exact below_drewN (Below.refl _ _) 1
    have b5:=Z.out j (G.out.trans (D.mono G.out.size))
    have b6:Hid (j=y.drewN 1):=N
    have a0:Hid (JM j w.heap.size 55 v J):=JM.kept (row:=none) Q.out ⟨D.os,D.tape,D.output,D.size,fun k O _=>D.block k O⟩ (by cases v.ownBlock <;> simp)
    have X:Hid (Below w.heap.size w j):=G.out.trans (D.mono G.out.size)
    clear N D Q G d7 d0 d1 q1 Z
    change wpList _ _ _ _ _ (y.drewN 1)
    rw [<- b6.out]
    go_wp2_with (go_at_call 46;refine b5.mono ?_;rintro e w3 ⟨rfl,a1⟩;rw [a1];clear a1 w3)
    go_roundw
    case rel=>exact ⟨i+1,by omega,by go_num,⟨_,a0.out,by rw [b4.out];exact a3.out⟩,X.out⟩
    case measure=>simp [intOf];omega
  ·have e0:a.c.L.take i=a.c.L:=List.take_of_length_le (by omega)
   have e1:Hid (lT w J (Xq a.from_ a.L a.c.L)):=by have:=a3.out;rw [e0] at this;exact this
   obtain ⟨pw,cw,h7,e2⟩:=e1.out.wO G.out Q.out
   subst h7
   have h8:Hid (eU y pw (Xq a.from_ a.L a.c.L)):=e2
   clear e0 e2 Q a3 e1
   go_wp2
   go_ret
   exact ⟨⟨pw,cw,rfl,h8.out⟩,G.out⟩
end
theorem JaF (c:Xg) (lv:Value) (W:∃ p n d,lv=.slice p n d) (w:World) (h:1<=c.k/\c.k<=c.n/\c.n<=12) :
 Calls Tryz.prog 47 #[iE c lv] w fun e w'=>e=.returned (.int .i64 ((Jh c:Nat):Int))/\Below w.heap.size w w':=by
 obtain ⟨p,I,d,rfl⟩:=W
 obtain ⟨j,y⟩:∃ j,j=w.alloc (.cells #[.int .i64 c.n,.int .i64 c.k,.slice p I d] 24):=⟨_,rfl⟩
 have J:Hid (j=w.alloc (.cells #[.int .i64 c.n,.int .i64 c.k,.slice p I d] 24)):=y
 have M:Hid (Below w.heap.size w j):=by rw [y];exact (Below.refl _ _).alloc (Nat.le_refl _) _
 have X:j.cell? ⟨w.heap.size,0,none⟩=some (.int .i64 c.n):=by rw [y,World.cell?_alloc_at _ _ _ _ rfl];rfl
 have Y:j.cell? ⟨w.heap.size,1,none⟩=some (.int .i64 c.k):=by rw [y,World.cell?_alloc_at _ _ _ _ rfl];rfl
 have K:Hid (Jh c=(c.n.toNat+c.k.toNat+1) / 2):=by show _=_;rfl
 generalize Jh c=E at *
 obtain ⟨N,O,L⟩:=c
 unfold iE
 simp only [] at *
 obtain ⟨D,rfl⟩:=Int.eq_ofNat_of_zero_le (show 0<=N by omega)
 obtain ⟨G,rfl⟩:=Int.eq_ofNat_of_zero_le (show 0<=O by omega)
 have Z:E=(D+G+1) / 2:=K.out
 clear y K
 go_enter Tryz.func47,Tryz.ntmps47
 go_wp2
 rw [show w.alloc (.cells #[.int .i64 (D:Int),.int .i64 (G:Int),.slice p I d] 24)=j from J.out.symm]
 clear J
 have a0:D<=12:=by omega
 have a1:G<=12:=by omega
 go_loopw [3] (fun x wr=>∃ i:Nat,i<=E/\x=.int .i64 i/\wr=j) (fun x _=>E - (intOf x).toNat)
 case atStart=>exact ⟨0,Nat.zero_le _,rfl,rfl⟩
 case round =>
  obtain ⟨i,hi,rfl,Q⟩:=hrel
  subst Q
  by_cases a2:i < E
  ·have U:decide (2*(i:Int) < (D:Int)+(G:Int))=true:=decide_eq_true (by omega)
   go_wp2
   go_roundw
   case rel=>exact ⟨i+1,by omega,by go_num,trivial⟩
   case measure=>simp [intOf];omega
  ·obtain rfl:i=E:=by omega
   have U:decide (2*(i:Int) < (D:Int)+(G:Int))=false:=decide_eq_false (by omega)
   go_wp2
   go_ret
   exact ⟨rfl,M.out⟩
end Go.Proofs.YtmikbldbfnlfjaaGreatDoor
