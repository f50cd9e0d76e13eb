/- Texts laid together. -/
import Derived.Test.YtmikbldbfnlfjaaGreatDoorCs8
import Derived.Deep.RegionHeld3
set_option maxRecDepth 10000
set_option maxHeartbeats 8000000
namespace Go.Proofs.YtmikbldbfnlfjaaGreatDoor
open Go.Proofs.Tryz
open Go.RowKit
theorem JcP (n k:Nat) (s:ByteArray) (w:World) (b4:1<=k) (j5:k<=n) (hn:n<=12) (hs:s.size<=3000) :
 Calls prog 65 #[.int .i64 (n:Int),.int .i64 (k:Int),.string s] w fun e w'=>(∃ v,e=.returned v/\L1 w' w.heap.size v ((List.range n).map fun i=>(i,wS (Zj s) k (Jk k s.size) i)))/\Below w.heap.size w w':=by
 obtain ⟨i1,e4,e5,e6,e7⟩:=info_parts vH
 obtain ⟨i0,e8,e9,f3,f4⟩:=info_parts KF
 have i8:=xR (size:=s.size) b4
 go_enter func65,ntmps65
 go_wp2_with fail
 refine (Ja1 k s.size _ b4 (by omega) (by omega)).mono ?_
 rintro e w' ⟨rfl,b5⟩
 rw [b5]
 clear b5 w'
 go_wp2_with fail
 refine (JcK n k _ (by omega) b4 (by omega)).mono ?_
 rintro e I ⟨⟨p2,c2,rfl,b6⟩,a1⟩
 have f5:Hid (QJ I p2 (kK k n)):=b6
 have f6:Hid (Below w.heap.size w I):=a1
 have b7:w.heap.size<=I.heap.size:=a1.size
 clear b6 a1
 generalize d0:Jk k s.size=D at *
 have f7:Hid (Jk k s.size=D):=d0
 clear d0
 go_wp2
 have i9:(Zj s).length=s.size:=by simp [Zj]
 go_loopw [9,10] (fun v x wr=>∃ i:Nat,i<=n/\x=.int .i64 i/\L1 wr I.heap.size v ((List.range i).map fun i=>(i,wS (Zj s) k D i))/\Below I.heap.size I wr) (fun _ x _=>n - (intOf x).toNat)
 case atStart=>exact ⟨0,by omega,rfl,World.ownsRow_nil _ _ _ _,Below.refl _ _⟩
 case round =>
  obtain ⟨i,hi,rfl,hO,hB⟩:=hrel
  obtain ⟨G,rfl⟩:∃ G,G=wr:=⟨_,rfl⟩
  have HO:Hid (L1 G I.heap.size u9 ((List.range i).map fun i=>(i,wS (Zj s) k D i))):=hO
  have Z:Hid (Below I.heap.size I G):=hB
  have f8:I.heap.size<=G.heap.size:=hB.size
  clear hO hB
  by_cases a2:i < n
  ·go_wp2_with (first | (at_make;refine wpList_make_row _ rfl (.tmp 26) (.tmp 26) 138 rfl 5 i0 (ZM 0) underlying138 e8 e9 f3 rfl .i64 .i64 D rfl rfl (by rw [f4];omega) (by omega) ?_))
   have a3:Zo (G.alloc (.cells (madeCells #[ZM 0] D) 5)) G.heap.size 5 G.heap.size D (Qi D (fun c=>if c < 0 then X3 (Zj s) k D i c k else 0)):=by
    have:=Zo.made G G.heap.size 5 D (Nat.le_refl _) (by omega)
    rw [YL D _ (fun c=>if c < 0 then X3 (Zj s) k D i c k else 0) (fun c _=>by rw [if_neg (Nat.not_lt_zero _)])] at this
    exact this
   have a4:Below G.heap.size G (G.alloc (.cells (madeCells #[ZM 0] D) 5)):=(Below.refl _ _).alloc (Nat.le_refl _) _
   generalize G.alloc (.cells (madeCells #[ZM 0] D) 5)=w4 at a3 a4 ⊢
   have d1:Hid (Zo w4 G.heap.size 5 G.heap.size D (Qi D (fun c=>if c < 0 then X3 (Zj s) k D i c k else 0))):=a3
   have d2:Hid (Below G.heap.size G w4):=a4
   clear a3 a4
   go_loopw [12] (fun x U=>∃ c:Nat,c<=D/\x=.int .i64 c/\Zo U G.heap.size 5 G.heap.size D (Qi D (fun d=>if d < c then X3 (Zj s) k D i d k else 0))/\Below G.heap.size G U) (fun x _=>D - (intOf x).toNat)
   case atStart=>exact ⟨0,by omega,rfl,d1.out,d2.out⟩
   case round =>
    obtain ⟨c,hc,rfl,d3,d4⟩:=hrel
    obtain ⟨K,rfl⟩:∃ K,K=wr:=⟨_,rfl⟩
    have a0:Hid (Zo K G.heap.size 5 G.heap.size D (Qi D (fun d=>if d < c then X3 (Zj s) k D i d k else 0))):=d3
    have M:Hid (Below G.heap.size G K):=d4
    clear d3 d4 d1 d2
    by_cases d5:c < D
    ·go_wp2
     go_loopw [13] (fun x U=>∃ j:Nat,j<=k/\x=.int .i64 j/\Zo U G.heap.size 5 G.heap.size D (Qi D (fun d=>if d < c then X3 (Zj s) k D i d k else if d=c then X3 (Zj s) k D i c j else 0))/\Below G.heap.size G U) (fun x _=>k - (intOf x).toNat)
     case atStart =>
      refine ⟨0,by omega,rfl,?_,M.out⟩
      rw [YL D _ (fun d=>if d < c then X3 (Zj s) k D i d k else 0) (fun d _=>by by_cases e:d=c <;> simp [e,X3])]
      exact a0.out
     case round =>
      obtain ⟨j,j0,rfl,d6,d7⟩:=hrel
      obtain ⟨J,rfl⟩:∃ J,J=wr:=⟨_,rfl⟩
      have Q:Hid (Zo J G.heap.size 5 G.heap.size D (Qi D (fun d=>if d < c then X3 (Zj s) k D i d k else if d=c then X3 (Zj s) k D i c j else 0))):=d6
      have X:Hid (Below G.heap.size G J):=d7
      clear d6 d7 a0 M
      by_cases d8:j < k
      ·have hb:j*D<=12*3000:=Nat.mul_le_mul (by omega) (by omega)
       have j1:(0:Int)<=(j:Int)*(D:Int):=by rw [<- Int.natCast_mul];omega
       have j2:(j:Int)*(D:Int)<=36000:=by rw [<- Int.natCast_mul];omega
       by_cases a5:j*D+c < s.size
       ·have N:(j:Int)*(D:Int)+(c:Int) < (s.size:Int):=by rw [<- Int.natCast_mul];omega
        have d9:(Qh (kK k n) i).length=k:=by rw [Jby k n i a2,Jf]
        obtain ⟨bm,om,b1,o1,c1,f9,g0,g1,a6,a7⟩:=f5.out.row (i:=i) (by rw [JaF];exact a2) (by rw [d9];omega)
        subst f9
        rw [d9] at a6 a7
        have a8:∀ b o,b < I.heap.size->J.cell? ⟨b,o,none⟩=I.cell? ⟨b,o,none⟩:=fun b o hb=>(X.out.cell (p:=⟨b,o,none⟩) (by show b < _;omega)).trans (Z.out.cell (p:=⟨b,o,none⟩) hb)
        have q1:J.cell? ⟨bm,om+i,none⟩=some (.slice (some ⟨b1,o1,none⟩) k c1):=(a8 _ _ g0).trans a6
        have q2:J.cell? ⟨b1,o1+j,none⟩=some (.int .u8 ((Gf.aQ (JB k) j i:Nat):Int)):=by rw [a8 _ _ g1,a7 j d8,Jby k n i a2,Yq _ _ j d8]
        have q5:J.cell? ⟨G.heap.size,c,none⟩=some (.int .u8 ((X3 (Zj s) k D i c j:Nat):Int)):=by rw [Q.out.cell c d5 (Jf _ _),Yq _ _ c d5,if_neg (Nat.lt_irrefl _),if_pos rfl]
        have q6:J.frozen? ⟨G.heap.size,c,none⟩=false:=Q.out.free c
        have lx:=Gf.bL (JB k) j i
        have ly:=xK s (j*D+c)
        have ls:=Jbs (Zj s) k D i c j
        have lm:=Gf.aV lx (Gf.nth (Zj s) (j*D+c))
        have h0:(0:Int)<=(j:Int)*(D:Int)+(c:Int):=by omega
        have e0:∀ W,Sem.run prog (Instr.index 9 (.string s) (.int .i64 ((j:Int)*(D:Int)+(c:Int)))) W=.ok (.int .u8 ((Gf.nth (Zj s) (j*D+c):Nat):Int)) W:=fun W=>by
         rw [run_index_string W 9 s .i64 _ underlying9,dif_pos ⟨h0,N⟩]
         rw [uD s (j*D+c) a5]
         congr 3
        have HX:Hid (bits .xor .u8 ((X3 (Zj s) k D i c j:Nat):Int) ((Gf.mul (Gf.aQ (JB k) j i) (Gf.nth (Zj s) (j*D+c)):Nat):Int)=((X3 (Zj s) k D i c (j+1):Nat):Int)):=by
         show _=_
         rw [u8_xor_nat _ _ ls lm]
         show _=(((if j*D+c < (Zj s).length then _ else _):Nat):Int)
         rw [if_pos (by omega)]
        have g2:IntKind.i64.wrap ((j:Int)*(D:Int))=(j:Int)*(D:Int):=by rw [IntKind.wrap_i64];omega
        have g3:IntKind.i64.wrap ((j:Int)*(D:Int)+(c:Int))=(j:Int)*(D:Int)+(c:Int):=by rw [IntKind.wrap_i64];omega
        have n1:G.heap.size≠bm:=by omega
        have n2:G.heap.size≠b1:=by omega
        clear a8 a6 a7 a5 hb
        generalize Gf.aQ (JB k) j i=x at q2 lx lm HX
        generalize Gf.nth (Zj s) (j*D+c)=y at e0 ly lm HX
        have a9:Hid (Zo J G.heap.size 5 G.heap.size D (Qi D (fun d=>if d < c then X3 (Zj s) k D i d k else if d=c then X3 (Zj s) k D i c j else 0))):=Q.out
        generalize X3 (Zj s) k D i c j=b0 at q5 ls HX a9
        go_wp2
        refine wp_region_still_tail 23 (by kernel_rfl) (by kernel_rfl) ?_
        simp only [List.take_succ_cons,List.take_zero,List.drop_succ_cons,List.drop_zero]
        repeat still_step
        still_call (JaE x y _ lx ly)
        repeat still_step
        refine wpStill_nil ?_
        rw [HX.out]
        have e1:Hid (Zo (J.drewN 1) G.heap.size 5 G.heap.size D (Qi D (fun d=>if d < c then X3 (Zj s) k D i d k else if d=c then b0 else 0))):=a9.out.drewN 1
        have e2:Hid (Below G.heap.size G (J.drewN 1)):=below_drewN X.out 1
        have g4:(J.drewN 1).cell? ⟨G.heap.size,c,none⟩=some (.int .u8 (b0:Int)):=q5
        have g5:(J.drewN 1).frozen? ⟨G.heap.size,c,none⟩=false:=q6
        change wpList _ _ _ _ _ (J.drewN 1)
        generalize J.drewN 1=w7 at e1 e2 g4 g5 ⊢
        clear q1 q2 q5 q6 Q a9 X e0 g2 g3 h0 N
        go_wp2
        go_roundw
        case rel =>
         refine ⟨j+1,by omega,by go_num,?_,e2.out.setCell (Nat.le_refl _) _⟩
         have:=e1.out.set c (X3 (Zj s) k D i c (j+1))
         rw [YL D (fun d=>if d < c then X3 (Zj s) k D i d k else if d=c then X3 (Zj s) k D i c (j+1) else 0) (fun d=>if d=c then X3 (Zj s) k D i c (j+1) else if d < c then X3 (Zj s) k D i d k else if d=c then b0 else 0) (fun d _=>by
          by_cases e:d=c
          ·subst e;rw [if_neg (Nat.lt_irrefl _),if_pos rfl,if_pos rfl]
          ·rw [if_neg e,if_neg e,if_neg e])]
         exact this
        case measure=>simp [intOf];omega
       ·have N:¬ (j:Int)*(D:Int)+(c:Int) < (s.size:Int):=by rw [<- Int.natCast_mul];omega
        have HE:Hid (X3 (Zj s) k D i c (j+1)=X3 (Zj s) k D i c j):=by
         show (if j*D+c < (Zj s).length then _ else _)=_
         rw [if_neg (by omega)]
        clear hb a5
        go_wp2
        go_roundw
        case rel=>exact ⟨j+1,by omega,by go_num,by rw [HE.out];exact Q.out,X.out⟩
        case measure=>simp [intOf];omega
      ·have g6:j=k:=by omega
       subst g6
       go_wp2
       go_roundw
       case rel =>
        refine ⟨c+1,by omega,by go_num,?_,X.out⟩
        rw [YL D _ (fun d=>if d < c then X3 (Zj s) j D i d j else if d=c then X3 (Zj s) j D i c j else 0) (fun d _=>by
         by_cases e:d < c
         ·rw [if_pos (by omega),if_pos e]
         ·by_cases e':d=c
          ·subst e';rw [if_pos (by omega),if_neg e,if_pos rfl]
          ·rw [if_neg (by omega),if_neg e,if_neg e'])]
        exact Q.out
       case measure=>simp [intOf];omega
    ·have g7:c=D:=by omega
     subst g7
     have b2:Zo K G.heap.size 5 G.heap.size c (wS (Zj s) k c i):=by
      unfold wS
      rw [YL c _ (fun d=>if d < c then X3 (Zj s) k c i d k else 0) (fun d Y=>by rw [if_pos Y])]
      exact a0.out
     have g8:Sem.run prog (convert 138 9 (.slice (some ⟨G.heap.size,0,none⟩) c c)) K=.ok (.string (Jp (wS (Zj s) k c i))) K:=by
      have g9:jU K (some ⟨G.heap.size,0,none⟩) (wS (Zj s) k c i):=⟨XL _ _ (fun d=>Jbs _ _ _ _ _ _),Or.inr ⟨G.heap.size,0,rfl,b2.lt.2,fun d Y=>by
       have h3:d < c:=by unfold wS at Y;rw [Jf] at Y;exact Y
       rw [Nat.zero_add]
       exact b2.cell d h3 (Jf _ _)⟩⟩
      have:=WU g9 c
      rw [show (wS (Zj s) k c i).length=c from Jf _ _] at this
      exact this
     have j3:G.heap.size<=K.heap.size:=M.out.size
     have b3:Hid (L1 K I.heap.size u9 ((List.range i).map fun i=>(i,wS (Zj s) k c i))):=World.ownsRow.kept HO.out (⟨M.out.os,M.out.tape,M.out.output,M.out.size,fun k hk _=>M.out.block k hk⟩:G.grownBy K none) (by cases hv:u9.ownBlock <;> simp)
     have h4:Hid (Below I.heap.size I K):=Z.out.trans (M.out.mono f8)
     have HL:Hid (((List.range i).map fun i=>(i,wS (Zj s) k c i)).length=i):=by show _=_;simp
     clear b2 a0
     have HR:Hid ((List.range (i+1)).map (fun i=>(i,wS (Zj s) k c i))=((List.range i).map fun i=>(i,wS (Zj s) k c i)) ++ [(i,wS (Zj s) k c i)]):=by show _=_;simp [List.range_succ]
     generalize wS (Zj s) k c i=row at g8 HR
     generalize ((List.range i).map fun i=>(i,wS (Zj s) k c i))=e3 at b3 HL HR
     go_wp2_with (first | (at_builtin;refine wpList_append_own _ rfl (.tmp 69) (.tmp 74) 123 rfl I.heap.size 74 i1 (.agg #[.int .i64 0,.string ⟨#[]⟩]) 2 24 underlying123 e4 e5 e6 e7 rfl (by decide) u9 e3.length (R2 e3) rfl (World.ownsRow.alloc b3.out _) ⟨K.heap.size,0,none⟩ 1 1 [.int .i64 (i:Int),.string (Jp row)] rfl rfl (fun j u O=>by match j,O with | 0,O=>(simp at O;subst O;simp [Addr.add]) | 1,O=>(simp at O;subst O;simp [Addr.add])) (fun u hu=>by simp at hu;rcases hu with rfl | rfl <;> rfl) (by rw [HL.out];unfold maxLen;omega) (by rw [HL.out];omega) (by simp;omega) ?_;intro v' w8 h5 h6 _))
     have h7:Below I.heap.size I w8:=(h4.out.alloc (by omega) _).grown h6 (by simp;omega) (fun g hg=>(World.ownsRow.lt b3.out g hg).1)
     have h8:=L1.snoc h5 rfl
     go_roundw
     case rel=>exact ⟨i+1,by omega,by go_num,by rw [HR.out];exact h8,h7⟩
     case measure=>simp [intOf];omega
  ·have h9:i=n:=by omega
   subst h9
   have HF:Hid (L1 G w.heap.size u9 ((List.range i).map fun j=>(j,wS (Zj s) k (Jk k s.size) j))):=by
    show L1 _ _ _ _
    rw [f7.out]
    obtain ⟨h1,N⟩:=HO.out
    refine ⟨h1,?_⟩
    rcases N with N | ⟨g',i2,i3,e,i4,i5⟩
    ·exact Or.inl N
    ·exact Or.inr ⟨g',i2,i3,e,Nat.le_trans b7 i4,i5⟩
   have i7:Hid (Below w.heap.size w G):=f6.out.trans (Z.out.mono b7)
   clear HO Z
   go_wp2
   go_ret
   exact ⟨⟨_,rfl,HF.out⟩,i7.out⟩
section
open Go
section
variable {P:Program} {ops:Array Oper} {Q:Exit->Act->World->Prop} {md:Region.Mode} {S:World->Prop} {fuel:Nat} {listed:Array Bool} {a:Act} {w:World}
theorem tk (i:Nat) (oi:Oper) {v:Value} (hS:S w) (h:wpAnyH P md ops Q S fuel (listed.setIfInBounds i true) (a.put oi.dst v) w) (hi:ops[i]?=some oi:=by (try simp only [List.getElem?_toArray,List.getElem?_cons_zero,List.getElem?_cons_succ]);all_goals rfl) (hs:Region.noSelect ops=true:=by kernel_rfl) (hf:Region.free md ops listed i=true:=by kernel_rfl) (hr:(Region.ready md ops listed).contains i=true:=by kernel_rfl) (hw:Region.wanted oi (yielded ops a.tmps)=true:=by rfl) (hy:∀ w,S w->(execOp a.eval oi).run P w=.ok (.value v) w:=by intro w hSw;(try dsimp only at hSw);go_simp;try with_reducible rfl) (hQ:∀ c a w,Q (.panic c) (a.put oi.dst v) w->Q (.panic c) a w:=by exact fun _ _ _ h=>h):wpAnyH P md ops Q S (fuel+1) listed a w :=
 wpAnyH_take hi hs hf hr hQ (Or.inl ⟨hw,hy⟩) hS h
theorem rdy (i:Nat) (rs:List Nat) (o:Oper) (h:∀ K':Act->World->Prop,Shut (∀ a w,S w->(S w->wpAnyH P md ops Q S fuel (listed.setIfInBounds i true) a w)->K' a w)->if Region.wanted o (yielded ops a.tmps)=true then Oper.wp P o a w K' Q else K' (a.put o.dst undef) w) (hs:AllReadyH P md ops Q S fuel listed a w rs) (ho:ops[i]?=some o:=by (try simp only [List.getElem?_toArray,List.getElem?_cons_zero,List.getElem?_cons_succ]);all_goals rfl) (hr:Region.ready md ops listed=i :: rs:=by kernel_rfl):wpAnyH P md ops Q S (fuel+1) listed a w :=
 wpAnyH_ready hr (by simp) (AllReadyH.cons ho h hs)
end
end
theorem qG (x m:Int) (w:World):Calls prog 79 #[.int .i64 x,.int .i64 m] w fun e w'=>e=.returned (.bool (decide (0<=x/\x<=m)))/\w'=w:=by
 by_cases y:0<=x
 ·by_cases D:x<=m
  ·have j:Hid (decide (0<=x/\x<=m)=true):=decide_eq_true ⟨y,D⟩
   rw [j.out]
   go_enter func79,ntmps79
   go_wp2
   go_ret
   exact ⟨rfl,rfl⟩
  ·have j:Hid (decide (0<=x/\x<=m)=false):=decide_eq_false fun h=>D h.2
   rw [j.out]
   go_enter func79,ntmps79
   go_wp2
   go_ret
   exact ⟨rfl,rfl⟩
 ·have j:Hid (decide (0<=x/\x<=m)=false):=decide_eq_false fun h=>y h.1
  rw [j.out]
  go_enter func79,ntmps79
  go_wp2
  go_ret
  exact ⟨rfl,rfl⟩
def YM (a b:Int):Bool:=decide (0<=a/\a<=1099511627776) && decide (0<=b/\b<=1099511627776)
theorem wI (a b:Int) (w:World):Calls prog 57 #[.agg #[.int .i64 a,.int .i64 b]] w fun e w'=>e=.returned (.bool (YM a b))/\Below w.heap.size w w':=by
 obtain ⟨j,G⟩:∃ j,j=w.alloc (.cells #[.int .i64 a,.int .i64 b] 46):=⟨_,rfl⟩
 have K:Hid (Below w.heap.size w j):=by rw [G];exact (Below.refl _ _).alloc (Nat.le_refl _) _
 have f0:j.cell? ⟨w.heap.size,0,none⟩=some (.int .i64 a):=by rw [G,World.cell?_alloc_at _ _ _ _ rfl];rfl
 have f1:j.cell? ⟨w.heap.size,1,none⟩=some (.int .i64 b):=by rw [G,World.cell?_alloc_at _ _ _ _ rfl];rfl
 have M:Hid (j=w.alloc (.cells #[.int .i64 a,.int .i64 b] 46)):=G
 have J:Hid (Calls prog 79 #[.int .i64 a,.int .i64 1099511627776] j fun e w'=>e=.returned (.bool (decide (0<=a/\a<=1099511627776)))/\w'=j):=qG _ _ j
 have N:Hid (Calls prog 79 #[.int .i64 b,.int .i64 1099511627776] j fun e w'=>e=.returned (.bool (decide (0<=b/\b<=1099511627776)))/\w'=j):=qG _ _ j
 have O:Hid (YM a b=(decide (0<=a/\a<=1099511627776) && decide (0<=b/\b<=1099511627776))):=by show _=_;rfl
 rw [O.out]
 clear G O
 generalize decide (0<=a/\a<=1099511627776)=x at *
 generalize decide (0<=b/\b<=1099511627776)=y at *
 cases x with
 | false =>
  go_enter func57,ntmps57
  go_wp2_with fail
  rw [<- M.out]
  refine J.out.mono ?_
  rintro e I ⟨rfl,D⟩
  rw [D]
  clear D I J
  go_wp2
  go_ret
  exact ⟨rfl,K.out⟩
 | true =>
  go_enter func57,ntmps57
  go_wp2_with fail
  rw [<- M.out]
  refine J.out.mono ?_
  rintro e I ⟨rfl,D⟩
  rw [D]
  clear D I J
  go_wp2_with fail
  refine N.out.mono ?_
  rintro e I ⟨rfl,D⟩
  rw [D]
  clear D I N
  go_wp2
  go_ret
  exact ⟨rfl,K.out⟩
section
open Go.Extern.Stop Go.Stop Go.Extern
theorem Jeo (v:Value) (j:TypeId) (w:World):(Instr.typeAssert (.iface 112 v) j 201 true).run prog w=.ok (.tuple #[.nilIface,.bool false]) w:=run_typeAssert_lacksB underlying201 (by kernel_rfl) (by kernel_rfl) v j w
theorem Jb1 (v:Value) (j:TypeId) (w:World):(Instr.typeAssert (.iface 112 v) j 197 true).run prog w=.ok (.tuple #[.iface 112 v,.bool true]) w:=run_typeAssert_hasB underlying197 (by kernel_rfl) v j w
theorem Jbg (v:Value) (w:World):(Go.method 383 112 v "Unwrap").run prog w=.ok (203,v) w:=by kernel_rfl
theorem JcG (y:Nat) (b:Addr) (w:World) (h1:w.cell? ⟨y,1,none⟩=some (.iface 252 (.pointer (some b)))) :
 Calls prog 60 #[.iface 112 (.pointer (some ⟨y,0,none⟩)),.iface 252 (.pointer (some b))] w fun e w'=>e=.returned (.bool true)/\w'=w:=by
 obtain ⟨i,D,G⟩:=Option.map_eq_some_iff.1 Jb2
 obtain ⟨j,I,J⟩:=Option.map_eq_some_iff.1 Jb3
 have K:=@run_callFunc_extern prog 87 _ Extern.ReflectliteType.typeOf func87 (by kernel_rfl) (by kernel_rfl) (by kernel_rfl) (by kernel_rfl)
 have M:=@run_callFunc_extern prog 209 _ JaZ func209 (by kernel_rfl) (by kernel_rfl) (by kernel_rfl) (by kernel_rfl)
 have N:=JaY
 have O:=JaC
 have Q:=Jao
 have U:=Jeo
 have W:=Jb1
 have X:=Jbg
 have Y:=run_eql_iface_ptr_same (P:=prog) w b underlying33 underlying252 D G I
 have Z:=run_eql_iface_types (P:=prog) 112 252 (.pointer (some ⟨y,0,none⟩)) (.pointer (some b)) underlying33 (by decide) w
 go_enter func60,ntmps60
 go_wp2
 refine wp_loop_rounds 2 ?_
 rw [rounds_succ]
 go_wp2
 rw [rounds_succ]
 go_wp2
 go_ret
 exact ⟨rfl,rfl⟩
theorem Jcs (y:Nat) (a b:Addr) (K M:Array Value) (N O:TypeId) (w:World) (h1:w.cell? ⟨y,1,none⟩=some (.iface 252 (.pointer (some a)))) (Q:a≠b) (U:w.heap[a.block]?=some (.cells K N (0,0))) (W:w.heap[b.block]?=some (.cells M O (0,0))) :
 Calls prog 60 #[.iface 112 (.pointer (some ⟨y,0,none⟩)),.iface 252 (.pointer (some b))] w fun e w'=>e=.returned (.bool false)/\w'=w:=by
 obtain ⟨i,D,G⟩:=Option.map_eq_some_iff.1 Jb2
 obtain ⟨j,I,J⟩:=Option.map_eq_some_iff.1 Jb3
 have X:=@run_callFunc_extern prog 87 _ Extern.ReflectliteType.typeOf func87 (by kernel_rfl) (by kernel_rfl) (by kernel_rfl) (by kernel_rfl)
 have Y:=@run_callFunc_extern prog 209 _ JaZ func209 (by kernel_rfl) (by kernel_rfl) (by kernel_rfl) (by kernel_rfl)
 have Z:=JaY
 have cT:=JaC
 have mR:=Jao
 have nE:=Jep
 have uE:=Jbq
 have vE:=Jbe
 have nW:=Jeo
 have uW:=Jb1
 have mU:=Jbg
 have a0:=run_eql_iface_ptr_other (P:=prog) w underlying33 underlying252 D G I (by rw [J];decide) Q U W
 have a1:=run_eql_iface_types (P:=prog) 112 252 (.pointer (some ⟨y,0,none⟩)) (.pointer (some b)) underlying33 (by decide) w
 go_enter func60,ntmps60
 go_wp2
 refine wp_loop_rounds 2 ?_
 rw [rounds_succ]
 go_wp2
 rw [rounds_succ]
 go_wp2
 go_ret
 exact ⟨rfl,rfl⟩
theorem JeA (v:Value) (w:World):(ReflectliteType.typeOf #[.iface 112 v]).run prog w=.ok (.iface 190 (.agg #[.pointer (some ⟨17,112,none⟩)])) w:=by kernel_rfl
theorem JcW (w:World):(ReflectliteType.relation "AssignableTo" ReflectliteType.assignableTo #[.agg #[.pointer (some ⟨17,112,none⟩)],.iface 190 (.agg #[.pointer (some ⟨17,112,none⟩)])]).run prog w=.ok (.bool true) w:=by kernel_rfl
theorem Jei (e:Addr) (w:World):(ReflectliteValue.unpack (.iface 112 (.pointer (some e)))).run prog w
 = .ok (.agg #[.pointer (some ⟨17,112,none⟩),.pointer (some ⟨w.heap.size,0,none⟩),.int .u64 150]) (w.alloc (.cells #[.pointer (some e)] 112)):=by kernel_rfl
theorem Jej (w:World):(Rtype.elem? 114).run prog w=.ok (some 112) w:=by kernel_rfl
theorem mkF (p:Addr) (w:World):(ReflectliteValue.mk 112 p ReflectliteValue.flagAddr).run prog w=.ok (.agg #[.pointer (some ⟨17,112,none⟩),.pointer (some p),.int .u64 406]) w:=by kernel_rfl
theorem JeB (a p:Addr) (W:World) (j:W.cell? a=some (.pointer (some p))) :
 (ReflectliteValue.method (ReflectliteValue.valueError "reflectlite.Value.Elem" 0) ReflectliteValue.elem #[.agg #[.pointer (some ⟨17,114,none⟩),.pointer (some a),.int .u64 150]]).run prog W
  = .ok (.agg #[.pointer (some ⟨17,112,none⟩),.pointer (some p),.int .u64 406]) W:=by
 rw [rlm]
 simp only [Sem.run_bind,JcZ,Result.andThen]
 simp [ReflectliteValue.elem,loadVar,isAgg,underlying,underlying114,j,Result.andThen,Jej,mkF]
theorem JeC (a:Addr) (w:World):(ReflectliteValue.parts (.agg #[.pointer (some ⟨17,112,none⟩),.pointer (some a),.int .u64 406])).run prog w=.ok (some (112,a,406)) w:=by kernel_rfl
theorem JeK (a:Addr) (w:World):(ReflectliteValue.parts (.agg #[.pointer (some ⟨17,112,none⟩),.pointer (some a),.int .u64 150])).run prog w=.ok (some (112,a,150)) w:=by kernel_rfl
theorem JeD (w:World):(Rtype.directlyAssignable 112 112).run prog w=.ok true w:=by kernel_rfl
theorem JeQ (j b e:Addr) (y:Value) (W:World) (D:W.cell? b=some (.pointer (some e))) (G:W.cell? j=some y) (I:W.frozen? j=false) :
 (ReflectliteValue.set #[.agg #[.pointer (some ⟨17,112,none⟩),.pointer (some j),.int .u64 406],.agg #[.pointer (some ⟨17,112,none⟩),.pointer (some b),.int .u64 150]]).run prog W
  = .ok (.tuple #[]) (W.setCell j (.pointer (some e))):=by
 delta ReflectliteValue.set ReflectliteValue.set.match_3
 dsimp only [Array.casesOn,Array.rec]
 rw [dif_pos (show (#[_,_]:Array Value).size=2 from rfl)]
 simp only [Array.getLit,List.getElem_toArray,List.getElem_cons_zero,List.getElem_cons_succ,Sem.run_bind,JeC,JeK,Result.andThen]
 simp [ReflectliteValue.flagAddr,loadVar,isAgg,underlying,underlying112,D,Result.andThen,JeD,storeVar,Value.cells,storeCells,Addr.add]
 rw [run_store prog W j _ _ (by rfl)]
 simp [G,I]
theorem JeL (e t:Addr) (D:Value) (w:World) (G:w.cell? ⟨12,0,none⟩=some (.iface 190 (.agg #[.pointer (some ⟨17,33,none⟩)]))) (I:w.cell? t=some D) (M:w.frozen? t=false) :
 Calls prog 59 #[.iface 112 (.pointer (some e)),.iface 114 (.pointer (some t))] w fun J w'=>J=.returned (.bool true)/\∃ j,Below w.heap.size w j/\w'=j.setCell t (.pointer (some e)):=by
 have N:=@run_callFunc_extern prog 83 _ (fun args=>ReflectliteValue.unpack (args.getD 0 (.tuple #[]))) func83 (by kernel_rfl) (by kernel_rfl) (by kernel_rfl) (by kernel_rfl)
 have O:=@run_callFunc_extern prog 84 _ (ReflectliteValue.methodAny (ReflectliteValue.valueError "reflectlite.Value.Type" 0) (fun t _ _ _=>ReflectliteType.toType t)) func84 (by kernel_rfl) (by kernel_rfl) (by kernel_rfl) (by kernel_rfl)
 have Q:=@run_callFunc_extern prog 85 _ (ReflectliteValue.method (ReflectliteValue.valueError "reflectlite.Value.IsNil" 0) ReflectliteValue.isNil) func85 (by kernel_rfl) (by kernel_rfl) (by kernel_rfl) (by kernel_rfl)
 have U:=@run_callFunc_extern prog 199 _ (ReflectliteType.abiMethod fun t=>do pure (.int .u8 (<- Rtype.kind t))) func199 (by kernel_rfl) (by kernel_rfl) (by kernel_rfl) (by kernel_rfl)
 have W:=@run_callFunc_extern prog 210 _ (ReflectliteType.method ReflectliteType.elem) func210 (by kernel_rfl) (by kernel_rfl) (by kernel_rfl) (by kernel_rfl)
 have X:=@run_callFunc_extern prog 211 _ (ReflectliteType.relation "Implements" ReflectliteType.implements_) func211 (by kernel_rfl) (by kernel_rfl) (by kernel_rfl) (by kernel_rfl)
 have Y:=@run_callFunc_extern prog 87 _ ReflectliteType.typeOf func87 (by kernel_rfl) (by kernel_rfl) (by kernel_rfl) (by kernel_rfl)
 have Z:=@run_callFunc_extern prog 208 _ (ReflectliteType.relation "AssignableTo" ReflectliteType.assignableTo) func208 (by kernel_rfl) (by kernel_rfl) (by kernel_rfl) (by kernel_rfl)
 have a0:=@run_callFunc_extern prog 119 _ (ReflectliteValue.method (ReflectliteValue.valueError "reflectlite.Value.Elem" 0) ReflectliteValue.elem) func119 (by kernel_rfl) (by kernel_rfl) (by kernel_rfl) (by kernel_rfl)
 have a1:=@run_callFunc_extern prog 120 _ ReflectliteValue.set func120 (by kernel_rfl) (by kernel_rfl) (by kernel_rfl) (by kernel_rfl)
 have tO:=JeA
 have mA:=JaO
 have aF:=JcW
 have vF:=Jei
 have f6:=Jco
 have f7:=JdX
 have mK:=Jb4
 have mE:=Jb5
 have mI:=Ja0
 have a2:=JdY
 have kF:=Jeq
 have a3:=JdZ
 have iF:=JbC
 have n8:=Jc0 ⟨w.heap.size,0,none⟩ t ((w.alloc (.cells #[.pointer (some t)] 114)).alloc (.cells #[.pointer (some ⟨17,114,none⟩),.pointer (some ⟨w.heap.size,0,none⟩),.int .u64 150] 149)) (by simp)
 have K:=Qf G
 have a4:((w.alloc (.cells #[.pointer (some t)] 114)).alloc (.cells #[.pointer (some ⟨17,114,none⟩),.pointer (some ⟨w.heap.size,0,none⟩),.int .u64 150] 149)).cell? ⟨12,0,none⟩=some (.iface 190 (.agg #[.pointer (some ⟨17,33,none⟩)])):=by
  rw [World.cell?_alloc_lt _ _ ⟨12,0,none⟩ (by simp;omega),World.cell?_alloc_lt _ _ ⟨12,0,none⟩ K];exact G
 have y:t.block < w.heap.size:=by
  rcases Nat.lt_or_ge t.block w.heap.size with h | h
  ·exact h
  ·simp [World.cell?,Array.getElem?_eq_none h] at I
 have el:=JeB ⟨w.heap.size,0,none⟩ t (((w.alloc (.cells #[.pointer (some t)] 114)).alloc (.cells #[.pointer (some ⟨17,114,none⟩),.pointer (some ⟨w.heap.size,0,none⟩),.int .u64 150] 149)).alloc (.cells #[.pointer (some ⟨17,114,none⟩),.pointer (some ⟨w.heap.size,0,none⟩),.int .u64 150] 149)) (by rw [World.cell?_alloc_lt _ _ ⟨w.heap.size,0,none⟩ (by simp;omega)];simp)
 have st:=JeQ t ⟨w.heap.size+1+1+1,0,none⟩ e D ((((w.alloc (.cells #[.pointer (some t)] 114)).alloc (.cells #[.pointer (some ⟨17,114,none⟩),.pointer (some ⟨w.heap.size,0,none⟩),.int .u64 150] 149)).alloc (.cells #[.pointer (some ⟨17,114,none⟩),.pointer (some ⟨w.heap.size,0,none⟩),.int .u64 150] 149)).alloc (.cells #[.pointer (some e)] 112))
  (by rw [World.cell?_alloc_at _ _ _ _ (by simp)];rfl)
  (by rw [World.cell?_alloc_lt _ _ t (by simp;omega),World.cell?_alloc_lt _ _ t (by simp;omega),World.cell?_alloc_lt _ _ t (by simp;omega),World.cell?_alloc_lt _ _ t y];exact I)
  (by rw [World.frozen?_alloc_old _ _ t (by simp;omega),World.frozen?_alloc_old _ _ t (by simp;omega),World.frozen?_alloc_old _ _ t (by simp;omega),World.frozen?_alloc_old _ _ t (Nat.ne_of_lt y)];exact M)
 go_enter func59,ntmps59
 go_wp2
 refine wp_loop_rounds 1 ?_
 rw [rounds_succ]
 go_wp2
 go_ret
 exact ⟨rfl,_,((((Below.refl _ _).alloc (Nat.le_refl _) _).alloc (by simp) _).alloc (by simp;omega) _).alloc (by simp;omega) _,rfl⟩
end
section
open Go.Extern.Stop Go.Stop Go.Extern
theorem JcF (ad:Nat->Addr) (i j:Nat) (at_:Int) (hi:i < 12) (w:World) (hS:O4 w ad) (h0:w.cell? ⟨j,0,none⟩=some (.int .i64 at_)) (h1:w.cell? ⟨j,1,none⟩=some (.iface 252 (.pointer (some (ad i))))) :
 Calls prog 38 #[.iface 112 (.pointer (some ⟨j,0,none⟩))] w fun e w'=>e=.returned (.tuple #[.int .i64 ((i+1:Nat):Int),.int .i64 at_])/\Below w.heap.size w w':=by
 have J:j < w.heap.size:=Qf h0
 have O:Below w.heap.size w (w.alloc (.cells #[.pointer none] 112)):=(Below.refl _ _).alloc (Nat.le_refl _) _
 have a1:=hS.below O
 have Q:(w.alloc (.cells #[.pointer none] 112)).cell? ⟨w.heap.size,0,none⟩=some (.pointer none):=by simp
 have a2:(w.alloc (.cells #[.pointer none] 112)).frozen? ⟨w.heap.size,0,none⟩=false:=by simp
 go_enter func38,ntmps38
 go_wp2_with fail
 refine (JeL ⟨j,0,none⟩ ⟨w.heap.size,0,none⟩ (.pointer none) _ a1.typ Q a2).mono ?_
 rintro e D ⟨rfl,wx,U,W⟩
 have G:Below w.heap.size w D:=by rw [W];exact (O.trans (U.mono (by simp))).setCell (Nat.le_refl _) _
 have X:=hS.below G
 have b0:D.cell? ⟨w.heap.size,0,none⟩=some (.pointer (some ⟨j,0,none⟩)):=by
  rw [W]
  exact World.cell?_setCell_same wx ⟨w.heap.size,0,none⟩ _ ((U.cell (p:=⟨w.heap.size,0,none⟩) (by simp)).trans Q)
 have b1:D.cell? ⟨j,0,none⟩=some (.int .i64 at_):=(G.cell (p:=⟨j,0,none⟩) J).trans h0
 have a3:D.cell? ⟨j,1,none⟩=some (.iface 252 (.pointer (some (ad i)))):=(G.cell (p:=⟨j,1,none⟩) J).trans h1
 have a4:j < D.heap.size:=Nat.lt_of_lt_of_le J G.size
 have Y:Hid (Below w.heap.size w D):=G
 clear W U wx G a1 O Q a2 h0 h1 hS J
 have b2:=X
 obtain ⟨c0,c1,c2,c3,c4,c5,c6,c7,c8,c9,wH,x8,_,_,_⟩:=b2
 go_wp2
 clear c0 c1 c2 c3 c4 c5 c6 c7 c8 c9 wH x8 b0 b1
 have K:Below D.heap.size D (D.alloc (.cells (O6 ad) 33)):=(Below.refl _ _).alloc (Nat.le_refl _) _
 have I:=X.below K
 have M:=Jbp ad D
 have N:=(K.cell (p:=⟨j,1,none⟩) a4).trans a3
 have Z:Hid (Below w.heap.size w (D.alloc (.cells (O6 ad) 33))):=Y.out.trans (K.mono Y.out.size)
 unfold O6 at I M Z N
 generalize D.alloc (.cells _ 33)=w3 at I M Z N ⊢
 clear K X Y a3 a4
 go_loop [3,30] (fun y x=>y=.int .i64 at_/\∃ k:Nat,k<=i/\x=.int .i64 k) (fun _ x=>12 - (intOf x).toNat)
 case atStart=>exact ⟨rfl,0,by omega,rfl⟩
 case round =>
  obtain ⟨rfl,k,hk,rfl⟩:=hrel
  have a0:k < 12:=by omega
  have hc:=M k a0
  obtain ⟨ca,ta,a5⟩:=I.row i hi
  obtain ⟨cb,tb,a6⟩:=I.row k a0
  have a7:Hid (w3.cell? ⟨j,1,none⟩=some (.iface 252 (.pointer (some (ad i))))):=N
  clear M N
  by_cases a8:k=i
  ·subst a8
   go_wp2_with (go_at_call 60;refine (JcG j (ad k) _ a7.out).mono ?_;rintro e w' ⟨rfl,rfl⟩)
   go_ret2
   exact ⟨by simp,Z.out⟩
  ·have a9:=I.ne i k hi a0 (fun h=>a8 h.symm)
   have HN:Hid (ad i≠ad k):=a9
   have HA:Hid (w3.heap[(ad i).block]?=some (.cells ca ta (0,0))):=a5
   have HB:Hid (w3.heap[(ad k).block]?=some (.cells cb tb (0,0))):=a6
   clear a9 a5 a6
   go_wp2_with (go_at_call 60;refine (Jcs j (ad i) (ad k) ca cb ta tb _ a7.out HN.out HA.out HB.out).mono ?_;rintro e w' ⟨rfl,rfl⟩)
   go_round
   case rel=>exact ⟨rfl,k+1,by omega,by go_num⟩
   case measure=>simp [intOf];omega
theorem Jez (ad:Nat->Addr) (y:Value) (c at_:Int) (w:World) (D:O4 w ad) (K:Jd w ad y c at_) :
 Calls prog 38 #[y] w fun e w'=>e=.returned (.tuple #[.int .i64 c,.int .i64 at_])/\Below w.heap.size w w':=by
 rcases K with ⟨rfl,rfl,rfl⟩ | ⟨i,j,rfl,rfl,rfl⟩ | ⟨i,G,j,rfl,rfl,I,J⟩
 ·refine (Jee w).mono ?_
  rintro e w' ⟨rfl,rfl⟩
  exact ⟨rfl,Below.refl _ _⟩
 ·exact JdT ad i j w D
 ·exact JcF ad i G at_ j w D I J
end
section
open Go.Extern.Stop Go.Stop Go.Extern
theorem WZ (ad:Nat->Addr) (O:Value) (c at_:Int) (w:World) (Y:O4 w ad) (Z:Jd w ad O c at_) :
 Calls prog 12 #[O,.agg #[.int .i64 c,.int .i64 at_]] w fun e w'=>e=.returned (.bool true)/\Below w.heap.size w w':=by
 obtain ⟨j,y⟩:∃ j,j=w.alloc (.cells #[.int .i64 c,.int .i64 at_] 39):=⟨_,rfl⟩
 have I:Below w.heap.size w j:=by rw [y];exact (Below.refl _ _).alloc (Nat.le_refl _) _
 have D:j.cell? ⟨w.heap.size,0,none⟩=some (.int .i64 c):=by rw [y,World.cell?_alloc_at _ _ _ _ rfl];rfl
 have G:j.cell? ⟨w.heap.size,1,none⟩=some (.int .i64 at_):=by rw [y,World.cell?_alloc_at _ _ _ _ rfl];rfl
 have Q:=Jez ad O c at_ j (Y.below I) (Z.below I)
 have U:Hid (j=w.alloc (.cells #[.int .i64 c,.int .i64 at_] 39)):=y
 have K:Hid (Below w.heap.size w j):=I
 have W:Hid (j.cell? ⟨w.heap.size,0,none⟩=some (.int .i64 c)/\j.cell? ⟨w.heap.size,1,none⟩=some (.int .i64 at_)/\w.heap.size < j.heap.size):=⟨D,G,by rw [y];simp⟩
 have HZ:Hid (c=0∨c≠0):=by
  show c=0∨c≠0
  omega
 clear y I D G Y Z
 go_enter func12,ntmps12
 go_wp2_with fail
 rw [<- U.out]
 refine Q.mono ?_
 rintro e w1 ⟨rfl,J⟩
 obtain ⟨D,G,M⟩:=W.out
 have r1:=(J.cell (p:=⟨w.heap.size,0,none⟩) M).trans D
 have r2:=(J.cell (p:=⟨w.heap.size,1,none⟩) M).trans G
 have X:Hid (Below w.heap.size w w1):=K.out.trans (J.mono K.out.size)
 clear Q J D G W K M U
 rcases HZ.out with N | N
 ·subst N
  go_wp2
  go_ret
  exact ⟨rfl,X.out⟩
 ·have a0 : (c == 0) = false := by
   rw [beq_eq_false_iff_ne]
   exact N
  go_wp2
  go_ret
  exact ⟨rfl,X.out⟩
end
section
variable {w w':World} {B:Nat} {S:Nat->Prop} {ab:Nat} {a:Za} {mv nv fv lv:Value} {vs:List Value}
theorem U1 (h:Qa w B S ab a mv nv fv lv vs):Calls prog 45 #[.pointer (some ⟨ab,0,none⟩)] w fun e w'=>e=.returned (.string a.st.waits)/\w'=w:=by
 have j:w.cell? ⟨ab,13,none⟩=some (.string a.st.word):=h.cell 13
 clear h
 generalize a.st=st at *
 cases st with
 | looking =>
  have q:w.cell? ⟨ab,13,none⟩=some (.string ⟨#[108,111,111,107,105,110,103]⟩):=j
  clear j
  go_enter func45,ntmps45
  go_wp2
  go_ret
  exact ⟨rfl,rfl⟩
 | sealing =>
  have q:w.cell? ⟨ab,13,none⟩=some (.string ⟨#[115,101,97,108,105,110,103]⟩):=j
  clear j
  go_enter func45,ntmps45
  go_wp2
  go_ret
  exact ⟨rfl,rfl⟩
 | keeping =>
  have q:w.cell? ⟨ab,13,none⟩=some (.string ⟨#[107,101,101,112,105,110,103]⟩):=j
  clear j
  go_enter func45,ntmps45
  go_wp2
  go_ret
  exact ⟨rfl,rfl⟩
 | done =>
  have q:w.cell? ⟨ab,13,none⟩=some (.string ⟨#[100,111,110,101]⟩):=j
  clear j
  go_enter func45,ntmps45
  go_wp2
  go_ret
  exact ⟨rfl,rfl⟩
 | refused =>
  have q:w.cell? ⟨ab,13,none⟩=some (.string ⟨#[114,101,102,117,115,101,100]⟩):=j
  clear j
  go_enter func45,ntmps45
  go_wp2
  go_ret
  exact ⟨rfl,rfl⟩
def Za.msg (a:Za) (kind:ByteArray) (j:Bool) (i:Nat):Zb:=⟨a.name,Yc a.c.L i,kind,a.key,a.op,a.config,false,if j then [a.sQ i] else []⟩
theorem Jbv (a:Za) (kind:ByteArray) (j:Bool):a.send kind j=(List.range a.c.L.length).map (a.msg kind j):=rfl
theorem Ja6 {α:Type} (f:Nat->α) (i:Nat):(List.range (i+1)).map f=(List.range i).map f ++ [f i]:=by rw [List.range_succ,List.map_append];rfl
theorem JbZ (h:Qa w B S ab a mv nv fv lv vs) (kind:ByteArray) (hl:a.c.L.length<=1000):Calls prog 43 #[.pointer (some ⟨ab,0,none⟩),.string kind,.bool false] w fun e w'=>(∃ p c,e=.returned (.slice p (a.send kind false).length c)/\mN w' p (a.send kind false))/\Below w.heap.size w w':=by
 have b6:Hid (Qa w B S ab a mv nv fv lv vs):=h
 obtain ⟨mp,mc,b7,a4,e9,f3,d2⟩:=h.mem.at_
 subst b7
 have f4:ab < w.heap.size:=(h.aO ab h.self).2
 have a5:Hid (∀ W,Below w.heap.size w W->(W.cell? ⟨ab,0,none⟩=some (.string a.name)/\W.cell? ⟨ab,1,none⟩=some (.string a.key)/\W.cell? ⟨ab,3,none⟩=some (.int .i64 a.op)/\W.cell? ⟨ab,4,none⟩=some (.int .i64 a.config)/\W.cell? ⟨ab,7,none⟩=some (.slice mp a.c.L.length mc))/\Strs W mp a.c.L):=fun W hW=>by
  have J:=b6.out.below hW
  exact ⟨⟨J.cell 0,J.cell 1,J.cell 3,J.cell 4,J.cell 7⟩,a4.below hW⟩
 have d5:Hid ((a.send kind false).length=a.c.L.length):=by show _=_;rw [Jbv,List.length_map,List.length_range]
 have d6:Hid (a.send kind false=(List.range a.c.L.length).map (a.msg kind false)):=Jbv a kind false
 obtain ⟨f,O⟩:∃ f:Nat->Zb×Lv,f=fun i=>(a.msg kind false i,(none,0,0)):=⟨_,rfl⟩
 have HF:Hid (∀ i,f i=(a.msg kind false i,(none,0,0))):=fun i=>by rw [O]
 have d8:Hid (∀ W,∀ x ∈ (List.range a.c.L.length).map f,Jn W x):=fun W x hx=>by
  obtain ⟨i,_,rfl⟩:=List.mem_map.1 hx
  rw [O]
  exact ⟨rfl,Ql.nil _ _,Nat.le_refl _,fun _=>⟨rfl,rfl⟩⟩
 have d9:Hid (((List.range a.c.L.length).map f).map Prod.fst=a.send kind false):=by
  show _=_
  rw [d6.out,List.map_map,O]
  rfl
 rw [d5.out]
 clear h a4 d2 O
 obtain ⟨⟨c0,c1,c3,c4,c7⟩,_⟩:=a5.out w (Below.refl _ _)
 go_enter func43,ntmps43
 go_wp2
 go_loopw [8,9] (fun v x wr=>∃ i:Nat,i<=a.c.L.length/\x=.int .i64 i/\Zc mE 59 wr w.heap.size v ((List.range i).map f)/\Below w.heap.size w wr) (fun _ x _=>a.c.L.length - (intOf x).toNat)
 case atStart=>exact ⟨0,Nat.zero_le _,rfl,Zc.nil _ _ _,Below.refl _ _⟩
 case round =>
  obtain ⟨i,hi,rfl,Z,hB⟩:=hrel
  obtain ⟨y,rfl⟩:∃ y,y=wr:=⟨_,rfl⟩
  obtain ⟨K,Q,rfl,a6,f5,e0,_⟩:=Z.form
  have f6:((List.range i).map f).length<=1000:=by rw [List.length_map,List.length_range];omega
  have HO:Hid (Zc mE 59 y w.heap.size (.slice K ((List.range i).map f).length Q) ((List.range i).map f)):=Z
  have U:Hid (Below w.heap.size w y):=hB
  have a7:Hid (Ql mE y K ((List.range i).map f)):=a6
  obtain ⟨⟨d0,d1,d3,d4,d7⟩,a8⟩:=a5.out y hB
  have f7:w.heap.size<=y.heap.size:=hB.size
  clear Z a6 e0 c0 c1 c3 c4 c7
  by_cases a0:i < a.c.L.length
  ·rcases a8 with h0 | ⟨b,o,e1,f8,a9⟩
   ·rw [h0] at a0;exact absurd a0 (Nat.not_lt_zero _)
   have q1:=a9 i a0
   have HT:Hid ((List.range (i+1)).map f=(List.range i).map f ++ [f i]):=Ja6 f i
   have b0:Hid (f i=(⟨a.name,Yc a.c.L i,kind,a.key,a.op,a.config,false,[]⟩,(none,0,0))):=HF.out i
   have f9:ab < y.heap.size:=by omega
   subst e1
   clear a9 hB
   generalize Yc a.c.L i=t at *
   generalize (List.range i).map f=M at *
   go_wp2
   go_region
   obtain ⟨D,X⟩:∃ D,D=(y.alloc (.cells #[.string a.name,.string t,.string kind,.string a.key,.int .i64 a.op,.int .i64 a.config,.bool false,.slice none 0 0] 59)).drew:=⟨_,rfl⟩
   have a1:Below y.heap.size y D:=by rw [X];exact ((Below.refl _ _).alloc (Nat.le_refl _) _).drew
   have I:∀ j u,(#[Value.string a.name,.string t,.string kind,.string a.key,.int .i64 a.op,.int .i64 a.config,.bool false,.slice none 0 0])[j]?=some u->D.cell? ⟨y.heap.size,j,none⟩=some u:=fun j u Y=>by
    rw [X]
    show (y.alloc _).cell? ⟨y.heap.size,j,none⟩=some u
    rw [World.cell?_alloc_at _ _ _ _ rfl]
    exact Y
   have m0:=I 0 _ rfl
   have m1:=I 1 _ rfl
   have m2:=I 2 _ rfl
   have m3:=I 3 _ rfl
   have m4:=I 4 _ rfl
   have m5:=I 5 _ rfl
   have m6:=I 6 _ rfl
   have m7:=I 7 _ rfl
   obtain ⟨G,N⟩:∃ G,G=D.alloc (.cells #[.string a.name,.string t,.string kind,.string a.key,.int .i64 a.op,.int .i64 a.config,.bool false,.slice none 0 0] 59):=⟨_,rfl⟩
   have b1:Below D.heap.size D G:=by rw [N];exact (Below.refl _ _).alloc (Nat.le_refl _) _
   have a2:Below y.heap.size y G:=a1.trans (b1.mono a1.size)
   have e2:Hid (∀ j u,(mE.enc (f i))[j]?=some u->G.cell? ⟨D.heap.size,0+j,none⟩=some u):=fun j u Y=>by
    rw [N,World.cell?_alloc_at _ _ _ _ rfl,Nat.zero_add]
    rw [b0.out] at Y
    simpa [mE,Jw] using Y
   have e3:Hid (D=(y.alloc (.cells #[.string a.name,.string t,.string kind,.string a.key,.int .i64 a.op,.int .i64 a.config,.bool false,.slice none 0 0] 59)).drew):=X
   have e4:Hid (G=D.alloc (.cells #[.string a.name,.string t,.string kind,.string a.key,.int .i64 a.op,.int .i64 a.config,.bool false,.slice none 0 0] 59)):=N
   have b2:Hid (Zc mE 59 G w.heap.size (.slice K M.length Q) M):=HO.out.kept a2
   have a3:Hid (Below w.heap.size w G):=U.out.trans (a2.mono U.out.size)
   have b3:Hid (w.heap.size<=G.heap.size/\D.heap.size < G.heap.size):=⟨a3.out.size,by rw [N];simp⟩
   clear X N a1 b1 a2 I HO U a7 b0
   rw [<- e3.out]
   clear d0 d1 d3 d4 d7 q1
   go_wp2_with (first | rw [<- e4.out] | (at_builtin;refine wJ (E:=mE) rfl (.tmp 80) (.tmp 82) 27 59 rfl (.agg #[.string ⟨#[]⟩,.string ⟨#[]⟩,.string ⟨#[]⟩,.string ⟨#[]⟩,.int .i64 0,.int .i64 0,.bool false,.slice none 0 0]) 112 underlying27 JdN rfl w.heap.size (.slice K M.length Q) M rfl b2.out D.heap.size 0 1 (f i) rfl e2.out (by unfold maxLen;omega) (by omega) b3.out.1 b3.out.2 ?_;intro v5 w5 b4 b5))
   have e5:Hid (Zc mE 59 w5 w.heap.size v5 (M ++ [f i])):=b4
   have e6:Hid (Below w.heap.size w w5):=a3.out.trans b5
   clear b4 b5 b2 a3 m0 m1 m2 m3 m4 m5 m6 m7
   go_wp2
   go_roundw
   case rel=>exact ⟨i+1,by omega,by go_num,by rw [HT.out];exact e5.out,e6.out⟩
   case measure=>simp [intOf];omega
  ·have e7:i=a.c.L.length:=by omega
   subst e7
   clear a8 hB
   have e8:Hid (((List.range a.c.L.length).map f).length=a.c.L.length):=by show _=_;rw [List.length_map,List.length_range]
   rw [e8.out]
   go_wp2
   go_ret
   exact ⟨⟨K,Q,rfl,_,d9.out,a7.out,d8.out _⟩,U.out⟩
end
theorem R1 (s:ByteArray) (w:World) (hs:s.size<=1000000) :
 Calls prog 26 #[.string s] w fun e w'=>e=.returned (.bool (Jo s))/\w'=w:=by
 by_cases h1:s.size < 1
 ·have J:Hid (Jo s=false):=CT (by omega)
  rw [J.out]
  go_enter func26,ntmps26
  go_wp2
  go_ret
  exact ⟨rfl,rfl⟩
 by_cases h2:16 < s.size
 ·have J:Hid (Jo s=false):=CT (by omega)
  rw [J.out]
  go_enter func26,ntmps26
  go_wp2
  go_ret
  exact ⟨rfl,rfl⟩
 have g1:decide ((s.size:Int) < 1)=false:=decide_eq_false (by omega)
 have g2:decide (16 < (s.size:Int))=false:=decide_eq_false (by omega)
 have U:Hid (∀ j,j < s.size->Xr (Gf.nth (Zj s) j)=false->Jo s=false):=fun j I h=>Jet I h
 have HT:Hid ((∀ j,j < s.size->Xr (Gf.nth (Zj s) j)=true)->Jo s=true):=fun h=>Jes (by omega) (by omega) h
 generalize Jo s=r at *
 go_enter func26,ntmps26
 go_wp2
 go_loop [3] (fun x=>∃ i:Nat,i<=s.size/\x=.int .i64 i/\∀ j,j < i->Xr (Gf.nth (Zj s) j)=true) (fun x=>s.size - (intOf x).toNat)
 case atStart=>exact ⟨0,Nat.zero_le _,rfl,fun j I=>absurd I (Nat.not_lt_zero _)⟩
 case round =>
  obtain ⟨i,hi,rfl,W⟩:=hrel
  have K:Hid (∀ j,j < i->Xr (Gf.nth (Zj s) j)=true):=W
  clear W
  by_cases X:i < s.size
  ·have a1:=EP s i X
   have hy:=xK s i
   have M:Hid (Xr (Gf.nth (Zj s) i)=false->r=false):=fun h=>U.out i X h
   have N:Hid (Xr (Gf.nth (Zj s) i)=true->∀ j,j < i+1->Xr (Gf.nth (Zj s) j)=true):=fun h j I=>by
    rcases Nat.lt_or_ge j i with Y | Y
    ·exact K.out j Y
    ·obtain rfl:j=i:=by omega
     exact h
   clear U K
   generalize Gf.nth (Zj s) i=y at *
   rcases (show (97<=y/\y<=122)∨(48<=y/\y<=57)∨y=45∨122 < y∨(57 < y/\y < 97)∨(y < 48/\y≠45) by omega) with D | D | D | D | D | D
   ·have G:Hid (Xr y=true):=by show _=_;simp [Xr,D]
    obtain ⟨O,Q⟩:=D
    go_wp2
    go_round
    case rel=>exact ⟨i+1,by omega,by go_num,N.out G.out⟩
    case measure=>simp [intOf];omega
   ·have G:Hid (Xr y=true):=by show _=_;simp [Xr,D]
    obtain ⟨O,Q⟩:=D
    go_wp2
    go_round
    case rel=>exact ⟨i+1,by omega,by go_num,N.out G.out⟩
    case measure=>simp [intOf];omega
   ·have G:Hid (Xr y=true):=by show _=_;simp [Xr,D]
    subst D
    go_wp2
    go_round
    case rel=>exact ⟨i+1,by omega,by go_num,N.out G.out⟩
    case measure=>simp [intOf];omega
   ·have G : Hid (r = false) := M.out (by
     unfold Xr
     rw [decide_eq_false (by omega),decide_eq_false (by omega),decide_eq_false (by omega)]
     rfl)
    have d1:decide ((y:Int)<=122)=false:=decide_eq_false (by omega)
    have d2:decide ((y:Int)<=57)=false:=decide_eq_false (by omega)
    have Z:((y:Int)==45)=false:=by
     rw [beq_eq_false_iff_ne]
     omega
    go_wp2
    go_ret
    exact ⟨by rw [G.out];rfl,rfl⟩
   ·have G : Hid (r = false) := M.out (by
     unfold Xr
     rw [decide_eq_false (by omega),decide_eq_false (by omega),decide_eq_false (by omega)]
     rfl)
    obtain ⟨O,Q⟩:=D
    have d2:decide ((y:Int)<=57)=false:=decide_eq_false (by omega)
    have Z:((y:Int)==45)=false:=by
     rw [beq_eq_false_iff_ne]
     omega
    go_wp2
    go_ret
    exact ⟨by rw [G.out];rfl,rfl⟩
   ·have G : Hid (r = false) := M.out (by
     unfold Xr
     rw [decide_eq_false (by omega),decide_eq_false (by omega),decide_eq_false (by omega)]
     rfl)
    obtain ⟨O,Q⟩:=D
    have Z:((y:Int)==45)=false:=by
     rw [beq_eq_false_iff_ne]
     omega
    go_wp2
    go_ret
    exact ⟨by rw [G.out];rfl,rfl⟩
  ·have a0:i=s.size:=by omega
   subst a0
   have HR:Hid (r=true):=HT.out K.out
   go_wp2
   go_ret
   exact ⟨by rw [HR.out];rfl,rfl⟩
end Go.Proofs.YtmikbldbfnlfjaaGreatDoor
