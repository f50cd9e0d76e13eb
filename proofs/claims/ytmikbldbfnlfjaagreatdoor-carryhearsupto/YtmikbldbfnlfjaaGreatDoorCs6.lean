/- Texts laid together. -/
import Derived.Test.YtmikbldbfnlfjaaGreatDoorCs5
import Derived.Shelf.Strings.OnBuilder
set_option maxRecDepth 10000
set_option maxHeartbeats 8000000
namespace Go.Proofs
open Go.Shelf
def Tryz.lays156_ren : Go.Shelf.Ren := ⟨fun | 156 => 118 | 165 => 145 | 166 => 146 | 169 => 147 | 240 => 163 | 241 => 164 | 276 => 178 | 277 => 179 | n => n, fun | 31 => 22 | 9 => 9 | 3 => 3 | 4 => 4 | 0 => 0 | 20 => 20 | 72 => 221 | 76 => 175 | 70 => 219 | 37 => 138 | 75 => 33 | 127 => 139 | 164 => 146 | 5 => 5 | 80 => 61 | n => n, fun | n => n⟩
theorem Tryz.lays156 : Go.Proofs.Lays.n156 Tryz.prog Tryz.lays156_ren := {
  mixed := by kernel_rfl
  f156 := Tryz.func118.trans (congrArg some (by kernel_rfl))
  f165 := Tryz.func145.trans (congrArg some (by kernel_rfl))
  f166 := Tryz.func146.trans (congrArg some (by kernel_rfl))
  f169 := Tryz.func147.trans (congrArg some (by kernel_rfl))
  f240 := Tryz.func163.trans (congrArg some (by kernel_rfl))
  f241 := Tryz.func164.trans (congrArg some (by kernel_rfl))
  f276 := Tryz.func178.trans (congrArg some (by kernel_rfl))
  f277 := Tryz.func179.trans (congrArg some (by kernel_rfl))
  t0 := Tryz.underlying0
  a0 := Tryz.isAgg0
  z0 := Tryz.sizeOf0
  v0 := Tryz.zeroValue0
  t3 := Tryz.underlying3
  a3 := Tryz.isAgg3
  z3 := Tryz.sizeOf3
  v3 := Tryz.zeroValue3
  t4 := Tryz.underlying4
  a4 := Tryz.isAgg4
  z4 := Tryz.sizeOf4
  v4 := Tryz.zeroValue4
  t9 := Tryz.underlying9
  a9 := Tryz.isAgg9
  z9 := Tryz.sizeOf9
  v9 := Tryz.zeroValue9
  t20 := Tryz.underlying20
  a20 := Tryz.isAgg20
  z20 := Tryz.sizeOf20
  v20 := Tryz.zeroValue20
  t31 := Tryz.underlying22
  a31 := Tryz.isAgg22
  z31 := Tryz.sizeOf22
  v31 := Tryz.zeroValue22
  t37 := Tryz.underlying138
  a37 := Tryz.isAgg138
  z37 := Tryz.sizeOf138
  v37 := Tryz.zeroValue138
  t70 := Tryz.underlying219
  a70 := Tryz.isAgg219
  z70 := Tryz.sizeOf219
  v70 := Tryz.zeroValue219
  t72 := Tryz.underlying221
  a72 := Tryz.isAgg221
  z72 := Tryz.sizeOf221
  v72 := Tryz.zeroValue221
  t75 := Tryz.underlying33
  a75 := Tryz.isAgg33
  z75 := Tryz.sizeOf33
  v75 := Tryz.zeroValue33
  t76 := Tryz.underlying175
  a76 := Tryz.isAgg175
  z76 := Tryz.sizeOf175
  v76 := Tryz.zeroValue175
  t127 := Tryz.underlying139
  a127 := Tryz.isAgg139
  z127 := Tryz.sizeOf139
  v127 := Tryz.zeroValue139
  t164 := Tryz.underlying146
  a164 := Tryz.isAgg146
  z164 := Tryz.sizeOf146
  v164 := Tryz.zeroValue146 }
theorem Tryz.Builder_Extra_156 : Builder.Extra Tryz.prog Tryz.lays156_ren := {
  sizeBuilder := by kernel_rfl
  liesBuilder := by kernel_rfl
  t5 := Tryz.underlying5
  a5 := Tryz.isAgg5
  z5 := Tryz.sizeOf5
  v5 := Tryz.zeroValue5
  infoByte := by kernel_rfl
  cellsByte := by kernel_rfl
  sizeByte := by kernel_rfl
  neB5 := by decide }
open Go.RowKit in
/-- strings.Join, however many elements. -/
theorem Tryz.strings_Join (bk o c : Nat) (xs : List ByteArray) (sep : ByteArray) (w : World) (hcells : ∀ (j : Nat) x, xs[j]? = some x → w.cell? ⟨bk, o + j, none⟩ = some (.string x)) (hbk : bk < w.heap.size) (hN : xs.length ≤ 140737488355328) (hcap : xs.length ≤ c) (hlen : (Lib.join (xs.map (·.data.toList)) sep.data.toList).length ≤ 140737488355328) :
    Calls Tryz.prog 118 #[.slice (some ⟨bk, o, none⟩) xs.length c, .string sep] w fun e w' => e = .returned (.string ⟨(Lib.join (xs.map (·.data.toList)) sep.data.toList).toArray⟩) ∧ Below w.heap.size w w' := Any.strings_Join Tryz.lays156 Tryz.Builder_Extra_156 bk o c xs sep w hcells hbk hN hcap hlen
end Go.Proofs
namespace Go.Proofs.YtmikbldbfnlfjaaGreatDoor
open Go.RowKit
variable {n k:Nat}{t:Int×Int}{S:Int×List (Int×ByteArray)}{v:Yb}
def Jen (w':World) (n k j:Nat) (l:List (Int×ByteArray)) (v:Value) (c:Int):Prop :=
 (c=3/\v=.slice none 0 0/\l.any (j4 (n:Int) j)=true)∨(c=8/\v=.slice none 0 0/\l.any (j4 (n:Int) j)=false/\(Qg k l l.length).length < k) ∨
  (c=0/\l.any (j4 (n:Int) j)=false/\(Qg k l l.length).length=k/\∃ p y,v=.slice p k y/\fE w' p (Qg k l l.length))
theorem JaP {l:List (Int×ByteArray)} {P:Int×ByteArray->Bool} {j:Nat} (h:j < l.length):(l.take (j+1)).any P=((l.take j).any P || P (Ji l j)):=by
 rw [List.take_succ_eq_append_getElem h,List.any_append]
 have:Ji l j=l[j]:=by
  unfold Ji
  rw [List.getD_eq_getElem?_getD,List.getElem?_eq_getElem h]
  rfl
 rw [this]
 simp
theorem JdM (n k size:Nat) (p:Option Addr) (l:List (Int×ByteArray)) (h4:Nat) (w:World) (e7:1<=k) (i0:k<=n) (hn:n<=12) (i2:size<=1000) (hl:l.length<=1000) (ht:∀ i,(Ji l i).2.size<=100000) (hs:fE w p l) :
 Calls Tryz.prog 99 #[.int .i64 (n:Int),.int .i64 (k:Int),.int .i64 (size:Int),.slice p l.length h4] w fun e w'=>(∃ v c,e=.returned (.tuple #[v,.int .i64 c])/\Jen w' n k (Jk k size) l v c)/\Below w.heap.size w w':=by
 obtain ⟨i1,e8,e9,f3,f4⟩:=info_parts vH
 have h5:=xR (size:=size) e7
 have d4:Hid (∀ W,Calls Tryz.prog 89 #[.int .i64 (k:Int),.int .i64 (size:Int)] W fun e w'=>e=.returned (.int .i64 ((Jk k size:Nat):Int))/\w'=W):=fun W=>Ja1 k size W e7 (by omega) (by omega)
 have HS:Hid (fE w p l):=hs
 clear hs
 generalize Jk k size=J at *
 have g1:decide ((size:Int) < 0)=false:=decide_eq_false (by omega)
 have g2:decide (1000 < (size:Int))=false:=decide_eq_false (by omega)
 go_enter Tryz.func99,Tryz.ntmps99
 go_wp2_with fail
 refine (Jbi n k _ (by omega) (by omega) (by omega)).mono ?_
 rintro e w' ⟨rfl,d5⟩
 rw [d5]
 clear d5 w'
 go_wp2
 go_loopw [11,12] (fun v x wr=>∃ i:Nat,i<=l.length/\x=.int .i64 i/\wr.ownsRow w.heap.size 74 2 v (Qg k l i).length (Js (Qg k l i))/\(∀ j,j < i->j4 (n:Int) J (Ji l j)=false)/\Below w.heap.size w wr) (fun _ x _=>l.length - (intOf x).toNat)
 case atStart=>exact ⟨0,by omega,rfl,World.ownsRow_nil _ _ _ _,fun j I=>absurd I (Nat.not_lt_zero _),Below.refl _ _⟩
 case round =>
  obtain ⟨i,hi,rfl,hO,hG,hB⟩:=hrel
  obtain ⟨G,rfl⟩:∃ G,G=wr:=⟨_,rfl⟩
  obtain ⟨K,N,rfl,d6⟩:=nL hO
  have HO:Hid (G.ownsRow w.heap.size 74 2 (.slice K (Qg k l i).length N) (Qg k l i).length (Js (Qg k l i))):=hO
  have O:Hid (Below w.heap.size w G):=hB
  have a9:Hid (fE G K (Qg k l i)):=d6
  have HG:Hid (∀ j,j < i->j4 (n:Int) J (Ji l j)=false):=hG
  have d7:w.heap.size<=G.heap.size:=hB.size
  have h6:=A7 k l i
  clear hO hB d6 hG
  by_cases a3:i < l.length
  ·rcases (HS.out.below O.out) with h0 | ⟨U,Y,rfl,d8,d9⟩
   ·rw [h0] at a3;simp at a3
   obtain ⟨q1,q2⟩:=d9 i a3
   have f5:=ht i
   have f6:Hid (∀ y t,Ji l i=(y,t)->True):=fun _ _ _=>trivial
   clear d9 f6
   by_cases Z:j4 (n:Int) J (Ji l i)=true
   ·have b0:Hid (l.any (j4 (n:Int) J)=true):=Jpm a3 Z
    have b3:(Ji l i).1 < 0∨0<=(Ji l i).1/\n<=(Ji l i).1∨0<=(Ji l i).1/\(Ji l i).1 < n/\(Ji l i).2.size≠J:=by
     unfold j4 at Z
     simp only [Bool.or_eq_true,decide_eq_true_eq,Bool.not_eq_true',decide_eq_false_iff_not] at Z
     omega
    clear Z
    generalize (Ji l i).1=x at *
    generalize (Ji l i).2=t at *
    generalize Qg k l i=D at *
    rcases b3 with Q | ⟨h0,Q⟩ | ⟨h0,Q,h2⟩
    ·have hd:decide (x < 0)=true:=decide_eq_true Q
     go_wp2
     go_quiet (fail)
     go_wp2
     go_ret2
     exact ⟨⟨_,3,rfl,Or.inl ⟨rfl,rfl,b0.out⟩⟩,below_drewN O.out _⟩
    ·have hd:decide (x < 0)=false:=decide_eq_false (by omega)
     have b4:decide ((n:Int)<=x)=true:=decide_eq_true Q
     go_wp2
     go_quiet (fail)
     go_wp2
     go_ret2
     exact ⟨⟨_,3,rfl,Or.inl ⟨rfl,rfl,b0.out⟩⟩,below_drewN O.out _⟩
    ·have hd:decide (x < 0)=false:=decide_eq_false (by omega)
     have b4:decide ((n:Int)<=x)=false:=decide_eq_false (by omega)
     have b5:((t.size:Int) != (J:Int))=true:=by rw [bne_iff_ne];omega
     clear h2
     go_wp2
     go_quiet ((go_at_call 89;exact Calls.quiet_of_same (d4.out _)))
     go_wp2
     go_ret2
     exact ⟨⟨_,3,rfl,Or.inl ⟨rfl,rfl,b0.out⟩⟩,below_drewN O.out _⟩
   ·have a0:j4 (n:Int) J (Ji l i)=false:=Bool.eq_false_iff.2 Z
    have f7:Hid (j4 (n:Int) J (Ji l i)=false):=a0
    have b3:0<=(Ji l i).1/\(Ji l i).1 < n/\(Ji l i).2.size=J:=by
     unfold j4 at a0
     simp only [Bool.or_eq_false_iff,decide_eq_false_iff_not,Bool.not_eq_false',decide_eq_true_eq] at a0
     omega
    obtain ⟨h0,Q,h2⟩:=b3
    have hd:decide ((Ji l i).1 < 0)=false:=decide_eq_false (by omega)
    have b4:decide ((n:Int)<=(Ji l i).1)=false:=decide_eq_false (by omega)
    have b5:(((Ji l i).2.size:Int) != (J:Int))=false:=by rw [h2];simp
    have b6:Hid ((Qg k l i).any (fun y=>y.1==(Ji l i).1)=true->Qg k l (i+1)=Qg k l i):=fun h=>tS h
    have b7:Hid (¬ (Qg k l i).length < k->Qg k l (i+1)=Qg k l i):=fun h=>qH h
    have d0:Hid ((Qg k l i).length < k->(Qg k l i).any (fun y=>y.1==(Ji l i).1)=false->Qg k l (i+1)=Qg k l i ++ [Ji l i]):=fun Q h2=>rJ Q h2
    have d1:Hid (∀ j,j < i+1->j4 (n:Int) J (Ji l j)=false):=fun j I=>by
     by_cases e:j=i
     ·rw [e];exact a0
     ·exact HG.out j (by omega)
    clear Z a0 h2 HG f7
    generalize f8:Ji l i=xt at *
    clear f8
    obtain ⟨x,t⟩:=xt
    dsimp only at q1 q2 f5 h0 Q hd b4 b5
    generalize Qg k l i=D at *
    go_wp2
    go_quiet ((go_at_call 89;exact Calls.quiet_of_same (d4.out _)))
    have f9:Hid (Below w.heap.size w (G.drewN nq)):=below_drewN O.out _
    have g0:Hid ((G.drewN nq).ownsRow w.heap.size 74 2 (.slice K D.length N) D.length (Js D)):=World.ownsRow.kept HO.out (JO G nq none) (by cases hv:(Value.slice K D.length N).ownBlock <;> simp)
    have g3:Hid (fE (G.drewN nq) K D):=a9.out.below (below_drewN (Below.refl _ _) _)
    have r1:(G.drewN nq).cell? ⟨U,Y+i*2,none⟩=some (.int .i64 x):=q1
    have r2:(G.drewN nq).cell? ⟨U,Y+i*2+1,none⟩=some (.string t):=q2
    have e0:U < (G.drewN nq).heap.size:=d8
    have g4:w.heap.size<=(G.drewN nq).heap.size:=d7
    clear q1 q2 HO O a9 d8 d7 b5
    generalize G.drewN nq=w4 at *
    go_wp2
    go_loopw [13,14] (fun b y wq=>∃ j:Nat,j<=D.length/\y=.int .i64 j/\b=.bool ((D.take j).any (fun y=>y.1==x))/\Below w4.heap.size w4 wq) (fun _ y _=>D.length - (intOf y).toNat)
    case atStart=>exact ⟨0,by omega,rfl,by simp,Below.refl _ _⟩
    case round =>
     obtain ⟨j,I,rfl,rfl,e1⟩:=hrel
     obtain ⟨M,rfl⟩:∃ M,M=wr:=⟨_,rfl⟩
     have X:Hid (Below w4.heap.size w4 M):=e1
     clear e1
     have s1:M.cell? ⟨U,Y+i*2,none⟩=some (.int .i64 x):=(X.out.cell (p:=⟨U,Y+i*2,none⟩) e0).trans r1
     have s2:M.cell? ⟨U,Y+i*2+1,none⟩=some (.string t):=(X.out.cell (p:=⟨U,Y+i*2+1,none⟩) e0).trans r2
     by_cases a4:j < D.length
     ·rcases (g3.out.below X.out) with h9 | ⟨b2,o2,rfl,h7,e2⟩
      ·rw [h9] at a4;simp at a4
      obtain ⟨u1,_⟩:=e2 j a4
      have e3:Hid ((D.take (j+1)).any (fun y=>y.1==x)=((D.take j).any (fun y=>y.1==x) || ((Ji D j).1==x))):=JaP a4
      clear e2
      generalize (D.take j).any (fun y=>y.1==x)=bb at *
      generalize (Ji D j).1=y at *
      by_cases d2:y=x
      ·subst d2
       go_wp2
       go_quiet (fail)
       go_wp2
       go_roundw
       case rel=>exact ⟨j+1,by omega,by go_num,by rw [e3.out];simp,below_drewN X.out _⟩
       case measure=>simp [intOf];omega
      ·have g5:(y==x)=false:=by simpa using d2
       have g6:Hid ((y==x)=false):=g5
       clear d2
       go_wp2
       go_quiet (fail)
       go_wp2
       go_roundw
       case rel=>exact ⟨j+1,by omega,by go_num,by rw [e3.out,g6.out,Bool.or_false],below_drewN X.out _⟩
       case measure=>simp [intOf];omega
     ·have d3:j=D.length:=by omega
      have e4:D.take j=D:=by rw [d3,List.take_length]
      rw [e4]
      clear e4
      have a5:Hid (Below w.heap.size w M):=f9.out.trans (X.out.mono g4)
      have a6:Hid (M.ownsRow w.heap.size 74 2 (.slice K D.length N) D.length (Js D)):=World.ownsRow.kept g0.out (QD X.out none) (by cases hv:(Value.slice K D.length N).ownBlock <;> simp)
      have h8:w.heap.size<=M.heap.size:=a5.out.size
      by_cases a1:D.any (fun y=>y.1==x)=true
      ·have HP:=b6.out a1
       have a2:Hid (Qg k l (i+1)=D):=HP
       rw [a1]
       clear a1 HP d3
       go_wp2
       go_roundw
       case rel=>exact ⟨i+1,by omega,by go_num,by rw [a2.out];exact a6.out,d1.out,a5.out⟩
       case measure=>simp [intOf];omega
      ·have a7:D.any (fun y=>y.1==x)=false:=Bool.eq_false_iff.2 a1
       rw [a7]
       clear a1 d3
       by_cases a8:D.length < k
       ·have a2:Hid (Qg k l (i+1)=D ++ [(x,t)]):=d0.out a8 a7
        clear a7 b6 b7 d0
        go_wp2_with (first | (at_builtin;refine wpList_append_own _ rfl (.tmp 86) (.tmp 91) 123 rfl w.heap.size 74 i1 (.agg #[.int .i64 0,.string ⟨#[]⟩]) 2 24 Tryz.underlying123 e8 e9 f3 f4 rfl (by decide) (.slice K D.length N) D.length (Js D) rfl (World.ownsRow.alloc a6.out _) ⟨M.heap.size,0,none⟩ 1 1 [.int .i64 x,.string t] rfl rfl (fun j u I=>by match j,I with | 0,I=>(simp at I;subst I;simp [Addr.add]) | 1,I=>(simp at I;subst I;simp [Addr.add])) (fun u hu=>by simp at hu;rcases hu with rfl | rfl <;> rfl) (by unfold maxLen;omega) (by omega) (by simp;omega) ?_;intro v' w8 g7 g8 _))
        have g9:Below w.heap.size w w8:=(a5.out.alloc (by omega) _).grown g8 (by simp;omega) (fun g hg=>(World.ownsRow.lt a6.out g hg).1)
        go_roundw
        case rel=>exact ⟨i+1,by omega,by go_num,by rw [a2.out,RY,List.length_append,List.length_singleton];exact g7,d1.out,g9⟩
        case measure=>simp [intOf];omega
       ·have a2:Hid (Qg k l (i+1)=D):=b7.out a8
        clear a7 b6 b7 d0
        go_wp2
        go_roundw
        case rel=>exact ⟨i+1,by omega,by go_num,by rw [a2.out];exact a6.out,d1.out,a5.out⟩
        case measure=>simp [intOf];omega
  ·have h3:i=l.length:=by omega
   subst h3
   have e5:Hid (l.any (j4 (n:Int) J)=false):=Jnt fun j I=>HG.out j I
   by_cases a8:(Qg k l l.length).length < k
   ·go_wp2
    go_ret2
    exact ⟨⟨_,8,rfl,Or.inr (Or.inl ⟨rfl,rfl,e5.out,a8⟩)⟩,O.out⟩
   ·have e6:Hid ((Qg k l l.length).length=k):=by show _=_;omega
    go_wp2
    go_ret2
    exact ⟨⟨.slice K (Qg k l l.length).length N,0,rfl,Or.inr (Or.inr ⟨rfl,e5.out,e6.out,K,N,by rw [e6.out],a9.out⟩)⟩,O.out⟩
def ZT (n k:Nat) (t:Int×Int) (S:Int×List (Int×ByteArray)) (v:Yb):Int×List (Int×ByteArray) :=
 if v.n=t.1/\v.dT=t.2/\YO n k v=true then
  (if S.1 < 0 then v.size else S.1,if v.size=(if S.1 < 0 then v.size else S.1)/\S.2.any (fun y=>y.1==v.at_)=false then S.2 ++ [(v.at_,v.text)] else S.2)
 else S
def Zf (n k:Nat) (t:Int×Int) (L:List Yb):Int×List (Int×ByteArray):=L.foldl (ZT n k t) (-1,[])
theorem MM  {L:List Yb} {i:Nat} (j:i < L.length):Zf n k t (L.take (i+1))=ZT n k t (Zf n k t (L.take i)) (Xd L i):=by
 unfold Zf
 rw [List.take_add_one,Xx j,List.foldl_append]
 rfl
theorem oL   (h:¬ (v.n=t.1/\v.dT=t.2/\YO n k v=true)):ZT n k t S v=S:=if_neg h
theorem ZO   {z:Int} (h:v.n=t.1/\v.dT=t.2/\YO n k v=true) (j:z=if S.1 < 0 then v.size else S.1):ZT n k t S v=(z,if v.size=z/\S.2.any (fun y=>y.1==v.at_)=false then S.2 ++ [(v.at_,v.text)] else S.2):=by
 subst j
 exact if_pos h
theorem W0 {n k:Nat} {t:Int×Int} (L:List Yb):∀ i,(Zf n k t (L.take i)).2.length<=i
 | 0=>Nat.le_refl _
 | i+1=>by
  have ih:=W0 (n:=n) (k:=k) (t:=t) L i
  by_cases j:i < L.length
  ·rw [MM j]
   unfold ZT
   split
   ·show (ite _ _ _:List (Int×ByteArray)).length<=i+1
    generalize (if (Zf n k t (L.take i)).1 < 0 then (Xd L i).size else (Zf n k t (L.take i)).1)=z
    split
    ·rw [List.length_append,List.length_singleton];omega
    ·omega
   ·omega
  ·rw [List.take_of_length_le (by omega)]
   rw [List.take_of_length_le (by omega)] at ih
   omega
theorem JcY {n k:Nat} {t:Int×Int} (L:List Yb):∀ i,-1<=(Zf n k t (L.take i)).1
 | 0=>Int.le_refl _
 | i+1=>by
  have ih:=JcY (n:=n) (k:=k) (t:=t) L i
  by_cases y:i < L.length
  ·rw [MM y]
   unfold ZT
   split
   ·rename_i h
    have j:=h.2.2
    unfold YO at j
    rw [Bool.and_eq_true] at j
    have D:=(of_decide_eq_true j.2).1
    dsimp only
    split <;> omega
   ·exact ih
  ·rw [List.take_of_length_le (by omega)]
   rw [List.take_of_length_le (by omega)] at ih
   exact ih
theorem Jcy (n k:Nat) (p0:Option Addr) (l0 c0:Nat) (p:Option Addr) (L:List Yb) (h6:Nat) (t:Int×Int) (w:World) (n6:1<=k) (hk:k<=12) (hl:L.length<=1000000) (hL:Ql Ze w p L) :
 Calls Tryz.prog 71 #[.agg #[.int .i64 (n:Int),.int .i64 (k:Int),.slice p0 l0 c0],.slice p L.length h6,.agg #[.int .i64 t.1,.int .i64 t.2]] w fun e w'=>(∃ v,e=.returned (.tuple #[.int .i64 (Zf n k t L).1,v])/\w'.ownsRow w.heap.size 74 2 v (Zf n k t L).2.length (Js (Zf n k t L).2))/\Below w.heap.size w w':=by
 obtain ⟨i1,h7,h8,i0,i2⟩:=info_parts vH
 obtain ⟨K,M⟩:=t
 obtain ⟨wc,b3⟩:∃ wc,wc=w.alloc (.cells #[.int .i64 (n:Int),.int .i64 (k:Int),.slice p0 l0 c0] 24):=⟨_,rfl⟩
 have e1:wc.heap.size=w.heap.size+1:=by rw [b3];simp
 obtain ⟨G,d5⟩:∃ G,G=wc.alloc (.cells #[.int .i64 K,.int .i64 M] 46):=⟨_,rfl⟩
 have g2:Below w.heap.size w wc:=by rw [b3];exact (Below.refl _ _).alloc (Nat.le_refl _) _
 have d6:Below wc.heap.size wc G:=by rw [d5];exact (Below.refl _ _).alloc (Nat.le_refl _) _
 have e7:Hid (Below w.heap.size w G):=g2.trans (d6.mono g2.size)
 have a0:G.cell? ⟨w.heap.size,0,none⟩=some (.int .i64 (n:Int)):=(d6.cell (p:=⟨w.heap.size,0,none⟩) (by show w.heap.size < _;omega)).trans (by rw [b3,World.cell?_alloc_at _ _ _ _ rfl];rfl)
 have a1:G.cell? ⟨w.heap.size,1,none⟩=some (.int .i64 (k:Int)):=(d6.cell (p:=⟨w.heap.size,1,none⟩) (by show w.heap.size < _;omega)).trans (by rw [b3,World.cell?_alloc_at _ _ _ _ rfl];rfl)
 have a2:G.cell? ⟨w.heap.size,2,none⟩=some (.slice p0 l0 c0):=(d6.cell (p:=⟨w.heap.size,2,none⟩) (by show w.heap.size < _;omega)).trans (by rw [b3,World.cell?_alloc_at _ _ _ _ rfl];rfl)
 have b0:G.cell? ⟨w.heap.size+1,0,none⟩=some (.int .i64 K):=by rw [d5,World.cell?_alloc_at _ _ _ _ e1.symm];rfl
 have b1:G.cell? ⟨w.heap.size+1,1,none⟩=some (.int .i64 M):=by rw [d5,World.cell?_alloc_at _ _ _ _ e1.symm];rfl
 have g3:Hid (∀ W,Below G.heap.size G W->(W.cell? ⟨w.heap.size,0,none⟩=some (.int .i64 (n:Int))/\W.cell? ⟨w.heap.size,1,none⟩=some (.int .i64 (k:Int))/\W.cell? ⟨w.heap.size,2,none⟩=some (.slice p0 l0 c0)/\W.cell? ⟨w.heap.size+1,0,none⟩=some (.int .i64 K)/\W.cell? ⟨w.heap.size+1,1,none⟩=some (.int .i64 M))/\Ql Ze W p L/\Below w.heap.size w W):=fun W O=>by
  have hx:w.heap.size+1 < G.heap.size:=Zn b0
  have hy:w.heap.size < G.heap.size:=Zn a0
  exact ⟨⟨(O.cell (p:=⟨w.heap.size,0,none⟩) hy).trans a0,(O.cell (p:=⟨w.heap.size,1,none⟩) hy).trans a1,(O.cell (p:=⟨w.heap.size,2,none⟩) hy).trans a2,(O.cell (p:=⟨w.heap.size+1,0,none⟩) hx).trans b0,(O.cell (p:=⟨w.heap.size+1,1,none⟩) hx).trans b1⟩,(hL.below e7.out).below O,e7.out.trans (O.mono e7.out.size)⟩
 have l7:Hid (G=(w.alloc (.cells #[.int .i64 (n:Int),.int .i64 (k:Int),.slice p0 l0 c0] 24)).alloc (.cells #[.int .i64 K,.int .i64 M] 46)):=by rw [<- b3];exact d5
 have l8:Hid (∀ (v:Yb) W,Calls Tryz.prog 98 #[.agg #[.int .i64 (n:Int),.int .i64 (k:Int),.slice p0 l0 c0],.agg #[.int .i64 v.n,.int .i64 v.dT,.int .i64 v.size,.int .i64 v.at_,.string v.text]] W fun e w'=>e=.returned (.bool (YO n k v))/\Below W.heap.size W w'):=fun v W=>JdE n k p0 l0 c0 v W n6 hk
 have i3:Hid (∀ i,(Zf n k (K,M) (L.take i)).2.length<=i):=fun i=>W0 L i
 have g4:Hid (Zf n k (K,M) (L.take 0)=(-1,[])):=by show _=_;rfl
 have i4:Hid (L.take L.length=L):=List.take_length
 have i5:Hid (∀ i,i < L.length->¬ ((Xd L i).n=K/\(Xd L i).dT=M/\YO n k (Xd L i)=true)->Zf n k (K,M) (L.take (i+1))=Zf n k (K,M) (L.take i)):=fun i hi h=>by rw [MM hi,oL h]
 have i7:Hid (∀ i,i < L.length->((Xd L i).n=K/\(Xd L i).dT=M/\YO n k (Xd L i)=true)->∀ z,(z=if (Zf n k (K,M) (L.take i)).1 < 0 then (Xd L i).size else (Zf n k (K,M) (L.take i)).1)->Zf n k (K,M) (L.take (i+1))=(z,if (Xd L i).size=z/\(Zf n k (K,M) (L.take i)).2.any (fun y=>y.1==(Xd L i).at_)=false then (Zf n k (K,M) (L.take i)).2 ++ [((Xd L i).at_,(Xd L i).text)] else (Zf n k (K,M) (L.take i)).2)):=fun i hi h z hz=>by rw [MM hi,ZO h hz]
 have i8:Hid (∀ i,-1<=(Zf n k (K,M) (L.take i)).1):=fun i=>JcY L i
 clear b3 d5 g2 d6 e1 b0 b1 a0 a1 a2 hL
 go_enter Tryz.func71,Tryz.ntmps71
 go_wp2_with (rw [<- l7.out])
 go_loopw [8,9,10] (fun s v x wr=>∃ i:Nat,i<=L.length/\x=.int .i64 i/\s=.int .i64 (Zf n k (K,M) (L.take i)).1/\wr.ownsRow G.heap.size 74 2 v (Zf n k (K,M) (L.take i)).2.length (Js (Zf n k (K,M) (L.take i)).2)/\Below G.heap.size G wr) (fun _ _ x _=>L.length - (intOf x).toNat)
 case atStart=>exact ⟨0,Nat.zero_le _,rfl,by rw [g4.out],by rw [g4.out];exact World.ownsRow_nil _ _ _ _,Below.refl _ _⟩
 case round =>
  obtain ⟨i,hi,rfl,rfl,hO,hB⟩:=hrel
  obtain ⟨I,rfl⟩:∃ I,I=wr:=⟨_,rfl⟩
  obtain ⟨X,cv,rfl,i9⟩:=nL hO
  have l9:=i3.out i
  have m0:=i8.out i
  have e8:=i5.out i
  have e9:=i7.out i
  have HB:Hid (Below G.heap.size G I):=hB
  obtain ⟨⟨k0,k1,k2,k3,k4⟩,j0,j1⟩:=g3.out I hB
  have j2:Hid (Below w.heap.size w I):=j1
  have j3:Hid (Ql Ze I p L):=j0
  have g5:Hid (i=L.length->Zf n k (K,M) (L.take i)=Zf n k (K,M) L):=fun h=>by rw [h,i4.out]
  have a7:Hid (∀ (S':Int×List (Int×ByteArray)) (v':Value) (W:World),Zf n k (K,M) (L.take (i+1))=S'->W.ownsRow G.heap.size 74 2 v' S'.2.length (Js S'.2)->Below G.heap.size G W->i+1<=L.length->∃ j:Nat,j<=L.length/\(.int .i64 ((i:Int)+1):Value)=.int .i64 j/\(.int .i64 S'.1:Value)=.int .i64 (Zf n k (K,M) (L.take j)).1/\W.ownsRow G.heap.size 74 2 v' (Zf n k (K,M) (L.take j)).2.length (Js (Zf n k (K,M) (L.take j)).2)/\Below G.heap.size G W):=fun S' v' W hS O m4 m5=>⟨i+1,m5,by rw [Int.natCast_add];rfl,by rw [hS],by rw [hS];exact O,m4⟩
  generalize Zf n k (K,M) (L.take (i+1))=S1 at *
  generalize Zf n k (K,M) (L.take i)=S at *
  obtain ⟨z,D⟩:=S
  have HO:Hid (I.ownsRow G.heap.size 74 2 (.slice X D.length cv) D.length (Js D)):=hO
  have j5:Hid (fE I X D):=i9
  have j6:G.heap.size<=I.heap.size:=hB.size
  dsimp only at l9 m0 e8 e9
  clear hO hB i9 j0 j1 i3 g4 i5 i7 i8 i4
  by_cases a4:i < L.length
  ·obtain ⟨b,o,m6,n7,d0,d1,d2,d3,d4⟩:=QU j3.out a4
   subst m6
   have f5:=e8 a4
   have f6:=e9 a4
   clear e8 e9 g5
   generalize Xd L i=x at *
   obtain ⟨xn,xw,xs,J,Z⟩:=x
   have g6:=l8.out ⟨xn,xw,xs,J,Z⟩
   dsimp only at d0 d1 d2 d3 d4 f5 f6 g6
   generalize YO n k ⟨xn,xw,xs,J,Z⟩=cb at *
   have j8:Hid (∀ W,Calls Tryz.prog 98 #[.agg #[.int .i64 (n:Int),.int .i64 (k:Int),.slice p0 l0 c0],.agg #[.int .i64 xn,.int .i64 xw,.int .i64 xs,.int .i64 J,.string Z]] W fun e w'=>e=.returned (.bool cb)/\Below W.heap.size W w'):=g6
   obtain ⟨w4,a8⟩:∃ w4,w4=I.alloc (.cells #[.int .i64 xn,.int .i64 xw,.int .i64 xs,.int .i64 J,.string Z] 76):=⟨_,rfl⟩
   have f7:Below I.heap.size I w4:=by rw [a8];exact (Below.refl _ _).alloc (Nat.le_refl _) _
   have f0:w4.cell? ⟨I.heap.size,0,none⟩=some (.int .i64 xn):=by rw [a8,World.cell?_alloc_at _ _ _ _ rfl];rfl
   have f1:w4.cell? ⟨I.heap.size,1,none⟩=some (.int .i64 xw):=by rw [a8,World.cell?_alloc_at _ _ _ _ rfl];rfl
   have f2:w4.cell? ⟨I.heap.size,2,none⟩=some (.int .i64 xs):=by rw [a8,World.cell?_alloc_at _ _ _ _ rfl];rfl
   have f3:w4.cell? ⟨I.heap.size,3,none⟩=some (.int .i64 J):=by rw [a8,World.cell?_alloc_at _ _ _ _ rfl];rfl
   have f4:w4.cell? ⟨I.heap.size,4,none⟩=some (.string Z):=by rw [a8,World.cell?_alloc_at _ _ _ _ rfl];rfl
   have f8:Hid (Below G.heap.size G w4):=HB.out.trans (f7.mono j6)
   have H4:Hid (∀ W,Below w4.heap.size w4 W->(W.cell? ⟨I.heap.size,0,none⟩=some (.int .i64 xn)/\W.cell? ⟨I.heap.size,1,none⟩=some (.int .i64 xw)/\W.cell? ⟨I.heap.size,2,none⟩=some (.int .i64 xs)/\W.cell? ⟨I.heap.size,3,none⟩=some (.int .i64 J)/\W.cell? ⟨I.heap.size,4,none⟩=some (.string Z))/\fE W X D/\W.ownsRow G.heap.size 74 2 (.slice X D.length cv) D.length (Js D)/\Below G.heap.size G W):=fun W O=>by
    have hx:I.heap.size < w4.heap.size:=Zn f0
    have g7:Below I.heap.size I W:=f7.trans (O.mono f7.size)
    exact ⟨⟨(O.cell (p:=⟨I.heap.size,0,none⟩) hx).trans f0,(O.cell (p:=⟨I.heap.size,1,none⟩) hx).trans f1,(O.cell (p:=⟨I.heap.size,2,none⟩) hx).trans f2,(O.cell (p:=⟨I.heap.size,3,none⟩) hx).trans f3,(O.cell (p:=⟨I.heap.size,4,none⟩) hx).trans f4⟩,j5.out.below g7,World.ownsRow.kept HO.out (QD g7 none) (by cases hv:(Value.slice X D.length cv).ownBlock <;> simp),HB.out.trans (g7.mono j6)⟩
   have k5:Hid (w4=I.alloc (.cells #[.int .i64 xn,.int .i64 xw,.int .i64 xs,.int .i64 J,.string Z] 76)):=a8
   clear k0 k1 k2 k3 k4
   obtain ⟨⟨k0,k1,k2,k3,k4⟩,_,_⟩:=g3.out w4 f8.out
   clear a8 f7 g6 HB HO j5 j3 j2
   go_wp2_with (rw [<- k5.out])
   refine (j8.out _).mono ?_
   rintro e w5 ⟨rfl,f9⟩
   have k6:Hid (Below G.heap.size G w5):=f8.out.trans (f9.mono f8.out.size)
   have H5:Hid (∀ W,Below w5.heap.size w5 W->(W.cell? ⟨I.heap.size,0,none⟩=some (.int .i64 xn)/\W.cell? ⟨I.heap.size,1,none⟩=some (.int .i64 xw)/\W.cell? ⟨I.heap.size,2,none⟩=some (.int .i64 xs)/\W.cell? ⟨I.heap.size,3,none⟩=some (.int .i64 J)/\W.cell? ⟨I.heap.size,4,none⟩=some (.string Z))/\fE W X D/\W.ownsRow G.heap.size 74 2 (.slice X D.length cv) D.length (Js D)/\Below G.heap.size G W):=fun W O=>H4.out W (f9.trans (O.mono f9.size))
   clear k0 k1 k2 k3 k4 f0 f1 f2 f3 f4 d0 d1 d2 d3 d4 f9 H4 f8 j8 k5
   obtain ⟨⟨k0,k1,k2,k3,k4⟩,_,_⟩:=g3.out w5 k6.out
   obtain ⟨⟨f0,f1,f2,f3,f4⟩,_,k7,_⟩:=H5.out w5 (Below.refl _ _)
   have m7:Hid (w5.ownsRow G.heap.size 74 2 (.slice X D.length cv) D.length (Js D)):=k7
   clear k7
   by_cases g0:xn=K/\xw=M/\cb=true
   ·obtain ⟨rfl,rfl,rfl⟩:=g0
    have g1:=f6 ⟨rfl,rfl,rfl⟩
    clear f5 f6
    by_cases l1:z < 0
    ·have hs:=g1 xs (by rw [if_pos l1])
     have d7:(xs=xs/\D.any (fun y=>y.1==J)=false/\S1=(xs,D ++ [(J,Z)]))∨(xs≠xs/\S1=(xs,D))∨(D.any (fun y=>y.1==J)=true/\S1=(xs,D)):=by
      rw [hs]
      cases ha:D.any (fun y=>y.1==J) with
      | true=>exact Or.inr (Or.inr ⟨rfl,by simp⟩)
      | false=>exact Or.inl ⟨rfl,rfl,by simp⟩
     clear g1 hs
     go_wp2
     go_loopw [13,14] (fun bv y wq=>∃ j:Nat,j<=D.length/\y=.int .i64 j/\bv=.bool ((D.take j).any (fun y=>y.1==J))/\Below w5.heap.size w5 wq) (fun _ y _=>D.length - (intOf y).toNat)
     case atStart=>exact ⟨0,Nat.zero_le _,rfl,by simp,Below.refl _ _⟩
     case round =>
      obtain ⟨j,U,rfl,rfl,b4⟩:=hrel
      obtain ⟨N,rfl⟩:∃ N,N=wr:=⟨_,rfl⟩
      obtain ⟨⟨r0,r1,r2,r3,r4⟩,d8,d9,b5⟩:=H5.out N b4
      have e0:Hid (Below w5.heap.size w5 N):=b4
      have a5:Hid (N.ownsRow G.heap.size 74 2 (.slice X D.length cv) D.length (Js D)):=d9
      have b6:Hid (Below G.heap.size G N):=b5
      have m8:G.heap.size<=N.heap.size:=b5.size
      have g8:Hid (fE N X D):=d8
      clear b4 d9 b5 d8
      by_cases a6:j < D.length
      ·rcases g8.out with h9 | ⟨b2,o2,rfl,m9,e4⟩
       ·rw [h9] at a6;simp at a6
       obtain ⟨u1,_⟩:=e4 j a6
       have e5:Hid ((D.take (j+1)).any (fun y=>y.1==J)=((D.take j).any (fun y=>y.1==J) || ((Ji D j).1==J))):=JaP a6
       clear e4 d7
       generalize (D.take j).any (fun y=>y.1==J)=bb at *
       generalize (Ji D j).1=y at *
       by_cases b7:y=J
       ·subst b7
        go_wp2
        go_quiet (fail)
        go_wp2
        go_roundw
        case rel=>exact ⟨j+1,by omega,by go_num,by rw [e5.out];simp,below_drewN e0.out _⟩
        case measure=>simp [intOf];omega
       ·have g9:(y==J)=false:=by simpa using b7
        have h0:Hid ((y==J)=false):=g9
        clear b7
        go_wp2
        go_quiet (fail)
        go_wp2
        go_roundw
        case rel=>exact ⟨j+1,by omega,by go_num,by rw [e5.out,h0.out,Bool.or_false],below_drewN e0.out _⟩
        case measure=>simp [intOf];omega
      ·have a9:j=D.length:=by omega
       have e6:D.take j=D:=by rw [a9,List.take_length]
       rw [e6]
       clear e6
       rcases d7 with ⟨Q,a3,Y⟩ | ⟨Q,Y⟩ | ⟨a3,Y⟩
       ·have HN:Hid (S1=(xs,D ++ [(J,Z)])):=Y
        rw [a3]
        clear a3 a9 Y
        clear Q
        go_wp2_with (first | (at_builtin;refine wpList_append_own _ rfl (.tmp 63) (.tmp 66) 123 rfl G.heap.size 74 i1 (.agg #[.int .i64 0,.string ⟨#[]⟩]) 2 24 Tryz.underlying123 h7 h8 i0 i2 rfl (by decide) (.slice X D.length cv) D.length (Js D) rfl (World.ownsRow.alloc a5.out _) ⟨N.heap.size,0,none⟩ 1 1 [.int .i64 J,.string Z] rfl rfl (fun j u U=>by match j,U with | 0,U=>(simp at U;subst U;simp [Addr.add]) | 1,U=>(simp at U;subst U;simp [Addr.add])) (fun u hu=>by simp at hu;rcases hu with rfl | rfl <;> rfl) (by unfold maxLen;omega) (by omega) (by simp;omega) ?_;intro v' w8 h3 h4 _))
        have h5:Below G.heap.size G w8:=(b6.out.alloc (by omega) _).grown h4 (by simp;omega) (fun g hg=>(World.ownsRow.lt a5.out g hg).1)
        go_roundw
        case rel=>exact a7.out _ _ _ HN.out (by rw [RY,List.length_append,List.length_singleton];exact h3) h5 a4
        case measure=>simp [intOf];omega
       ·exact absurd rfl Q
       ·have HN:Hid (S1=(xs,D)):=Y
        rw [a3]
        clear a3 a9 Y
        go_wp2
        go_roundw
        case rel=>exact a7.out _ _ _ HN.out a5.out b6.out a4
        case measure=>simp [intOf];omega
    ·have hs:=g1 z (by rw [if_neg l1])
     have d7:(xs=z/\D.any (fun y=>y.1==J)=false/\S1=(z,D ++ [(J,Z)]))∨(xs≠z/\S1=(z,D))∨(D.any (fun y=>y.1==J)=true/\S1=(z,D)):=by
      rw [hs]
      cases ha:D.any (fun y=>y.1==J) with
      | true=>exact Or.inr (Or.inr ⟨rfl,by simp⟩)
      | false =>
       by_cases Q:xs=z
       ·exact Or.inl ⟨Q,rfl,by rw [if_pos ⟨Q,rfl⟩]⟩
       ·exact Or.inr (Or.inl ⟨Q,by rw [if_neg (fun h=>Q h.1)]⟩)
     clear g1 hs
     go_wp2
     go_loopw [13,14] (fun bv y wq=>∃ j:Nat,j<=D.length/\y=.int .i64 j/\bv=.bool ((D.take j).any (fun y=>y.1==J))/\Below w5.heap.size w5 wq) (fun _ y _=>D.length - (intOf y).toNat)
     case atStart=>exact ⟨0,Nat.zero_le _,rfl,by simp,Below.refl _ _⟩
     case round =>
      obtain ⟨j,U,rfl,rfl,b4⟩:=hrel
      obtain ⟨N,rfl⟩:∃ N,N=wr:=⟨_,rfl⟩
      obtain ⟨⟨r0,r1,r2,r3,r4⟩,d8,d9,b5⟩:=H5.out N b4
      have e0:Hid (Below w5.heap.size w5 N):=b4
      have a5:Hid (N.ownsRow G.heap.size 74 2 (.slice X D.length cv) D.length (Js D)):=d9
      have b6:Hid (Below G.heap.size G N):=b5
      have m8:G.heap.size<=N.heap.size:=b5.size
      have g8:Hid (fE N X D):=d8
      clear b4 d9 b5 d8
      by_cases a6:j < D.length
      ·rcases g8.out with h9 | ⟨b2,o2,rfl,m9,e4⟩
       ·rw [h9] at a6;simp at a6
       obtain ⟨u1,_⟩:=e4 j a6
       have e5:Hid ((D.take (j+1)).any (fun y=>y.1==J)=((D.take j).any (fun y=>y.1==J) || ((Ji D j).1==J))):=JaP a6
       clear e4 d7
       generalize (D.take j).any (fun y=>y.1==J)=bb at *
       generalize (Ji D j).1=y at *
       by_cases b7:y=J
       ·subst b7
        go_wp2
        go_quiet (fail)
        go_wp2
        go_roundw
        case rel=>exact ⟨j+1,by omega,by go_num,by rw [e5.out];simp,below_drewN e0.out _⟩
        case measure=>simp [intOf];omega
       ·have g9:(y==J)=false:=by simpa using b7
        have h0:Hid ((y==J)=false):=g9
        clear b7
        go_wp2
        go_quiet (fail)
        go_wp2
        go_roundw
        case rel=>exact ⟨j+1,by omega,by go_num,by rw [e5.out,h0.out,Bool.or_false],below_drewN e0.out _⟩
        case measure=>simp [intOf];omega
      ·have a9:j=D.length:=by omega
       have e6:D.take j=D:=by rw [a9,List.take_length]
       rw [e6]
       clear e6
       rcases d7 with ⟨Q,a3,Y⟩ | ⟨Q,Y⟩ | ⟨a3,Y⟩
       ·have HN:Hid (S1=(z,D ++ [(J,Z)])):=Y
        rw [a3]
        clear a3 a9 Y
        subst Q
        go_wp2_with (first | (at_builtin;refine wpList_append_own _ rfl (.tmp 63) (.tmp 66) 123 rfl G.heap.size 74 i1 (.agg #[.int .i64 0,.string ⟨#[]⟩]) 2 24 Tryz.underlying123 h7 h8 i0 i2 rfl (by decide) (.slice X D.length cv) D.length (Js D) rfl (World.ownsRow.alloc a5.out _) ⟨N.heap.size,0,none⟩ 1 1 [.int .i64 J,.string Z] rfl rfl (fun j u U=>by match j,U with | 0,U=>(simp at U;subst U;simp [Addr.add]) | 1,U=>(simp at U;subst U;simp [Addr.add])) (fun u hu=>by simp at hu;rcases hu with rfl | rfl <;> rfl) (by unfold maxLen;omega) (by omega) (by simp;omega) ?_;intro v' w8 h3 h4 _))
        have h5:Below G.heap.size G w8:=(b6.out.alloc (by omega) _).grown h4 (by simp;omega) (fun g hg=>(World.ownsRow.lt a5.out g hg).1)
        go_roundw
        case rel=>exact a7.out _ _ _ HN.out (by rw [RY,List.length_append,List.length_singleton];exact h3) h5 a4
        case measure=>simp [intOf];omega
       ·have HN:Hid (S1=(z,D)):=Y
        have l2:(xs==z)=false:=beq_eq_false_iff_ne.2 Q
        generalize D.any (fun y=>y.1==J)=bb at *
        clear Q a9 Y
        go_wp2
        go_roundw
        case rel=>exact a7.out _ _ _ HN.out a5.out b6.out a4
        case measure=>simp [intOf];omega
       ·have HN:Hid (S1=(z,D)):=Y
        rw [a3]
        clear a3 a9 Y
        by_cases Q:xs=z
        ·have l2:(xs==z)=true:=beq_iff_eq.2 Q
         clear Q
         go_wp2
         go_roundw
         case rel=>exact a7.out _ _ _ HN.out a5.out b6.out a4
         case measure=>simp [intOf];omega
        ·have l2:(xs==z)=false:=beq_eq_false_iff_ne.2 Q
         clear Q
         go_wp2
         go_roundw
         case rel=>exact a7.out _ _ _ HN.out a5.out b6.out a4
         case measure=>simp [intOf];omega
   ·have HN:Hid (S1=(z,D)):=f5 g0
    clear f5 f6
    have n0:((xn==K)=false)∨xn=K/\(((xw==M)=false)∨xw=M/\cb=false):=by
     by_cases e1:xn=K
     ·refine Or.inr ⟨e1,?_⟩
      by_cases e2:xw=M
      ·exact Or.inr ⟨e2,Bool.eq_false_iff.2 fun e3=>g0 ⟨e1,e2,e3⟩⟩
      ·exact Or.inl (beq_eq_false_iff_ne.2 e2)
     ·exact Or.inl (beq_eq_false_iff_ne.2 e1)
    clear g0
    rcases n0 with g | ⟨rfl,g | ⟨rfl,rfl⟩⟩
    all_goals
     go_wp2
     go_roundw
     case rel=>exact a7.out _ _ _ HN.out m7.out k6.out a4
     case measure=>simp [intOf];omega
  ·have l3:i=L.length:=by omega
   have HE:Hid (Zf n k (K,M) L=(z,D)):=(g5.out l3).symm
   clear e8 e9 g5 a7
   have n1:Hid (I.ownsRow w.heap.size 74 2 (.slice X D.length cv) D.length (Js D)):=by
    obtain ⟨h1,h2⟩:=HO.out
    refine ⟨h1,?_⟩
    rcases h2 with h2 | ⟨g',h6,n2,e,n3,n4⟩
    ·exact Or.inl h2
    ·exact Or.inr ⟨g',h6,n2,e,Nat.le_trans e7.out.size n3,n4⟩
   subst l3
   go_wp2
   go_ret2
   exact ⟨⟨.slice X D.length cv,by rw [HE.out];rfl,by rw [HE.out];exact n1.out⟩,j2.out⟩
theorem JpF (a b:Int×Int) (w:World) :
 Calls Tryz.prog 70 #[.agg #[.int .i64 a.1,.int .i64 a.2],.agg #[.int .i64 b.1,.int .i64 b.2]] w fun e w'=>e=.returned (.bool (Qd a b))/\Below w.heap.size w w':=by
 obtain ⟨j,D⟩:=a
 obtain ⟨y,G⟩:=b
 have J:Hid (Below w.heap.size w ((w.alloc (.cells #[.int .i64 j,.int .i64 D] 46)).alloc (.cells #[.int .i64 y,.int .i64 G] 46))):=((Below.refl _ _).alloc (Nat.le_refl _) _).alloc (by simp) _
 by_cases K:j < y
 ·have I:Hid (Qd (j,D) (y,G)=true):=by show _=_;unfold Qd;simp [K]
  rw [I.out]
  go_enter Tryz.func70,Tryz.ntmps70
  go_wp2
  go_ret
  exact ⟨rfl,J.out⟩
 have N:decide (j < y)=false:=decide_eq_false K
 by_cases M:j=y
 ·subst M
  have I:Hid (Qd (j,D) (j,G)=decide (D < G)):=by show _=_;unfold Qd;simp
  rw [I.out]
  go_enter Tryz.func70,Tryz.ntmps70
  go_wp2
  go_ret
  exact ⟨rfl,J.out⟩
 ·have I:Hid (Qd (j,D) (y,G)=false):=by show _=_;unfold Qd;simp [K,M]
  rw [I.out]
  have O:(j==y)=false:=by
   rw [beq_eq_false_iff_ne]
   exact M
  go_enter Tryz.func70,Tryz.ntmps70
  go_wp2
  go_ret
  exact ⟨rfl,J.out⟩
end Go.Proofs.YtmikbldbfnlfjaaGreatDoor
