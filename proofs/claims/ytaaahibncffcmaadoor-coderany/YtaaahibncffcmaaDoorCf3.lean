/- Texts laid together. -/
import Derived.Test.YtaaahibncffcmaaDoorCf2
import Derived.Deep.RegionWith
import Derived.Deep.CutRange
set_option maxRecDepth 10000
set_option maxHeartbeats 8000000
open Option renaming none->aa,some->ab
open Go.World renaming cell?_alloc_at->ac,cell?_alloc_past->ap
open Go.RowKit renaming Below->za,wrap64->aR
open Go.Calls renaming quiet_of_same->ae
open Go.RowKit.Below renaming refl->af
open Nat renaming le_refl->ag,pow_le_pow_right->ar,mul_le_mul->au,add_mul->aB
open Go renaming below_drewN->ah,Calls->ai,Addr->aq
open List renaming getD_eq_getElem?_getD->aj,getElem?_eq_none->ak,map_congr_left->am,map_map->ao,getElem_map->av,map_id->aC
open Int renaming natCast_mul->al
namespace Go.Proofs.YtaaahibncffcmaaDoor
open Go.Proofs.Tryd
open Go.RowKit
variable {w:World}{M:List (List Nat)}{i d n k size:Nat}{v:Nat->Nat->Lin.F}{l:List Nat}
theorem QJ.at {p:Option aq} (h:QJ w p M) {j:Nat} (z:i < M.length) (A:j < (Qh M i).length) :
 ∃ b o d f c,p=ab ⟨b,o,aa⟩/\w.cell? ⟨b,o+i,aa⟩=ab (.slice (ab ⟨d,f,aa⟩) (Qh M i).length c)/\w.cell? ⟨d,f+j,aa⟩=ab (.int .u8 ((Gf.nth (Qh M i) j:Nat):Int)):=by
 obtain ⟨b,o,d,f,c,s,_,_,t,y⟩:=h.row z (by omega)
 exact ⟨b,o,d,f,c,s,t,y j A⟩
theorem BJ (i j:Nat) (w:World):ai prog 39 #[.int .i64 (i:Int),.int .i64 (j:Int)] w fun e w'=>e=.returned (.int .u8 ((if i=j then 1 else 0:Nat):Int))/\w'=w:=by
 by_cases e:i=j
 ·subst e
  rw [if_pos rfl]
  go_enter func39,ntmps39
  go_wp2
  go_ret
  exact ⟨rfl,rfl⟩
 ·have d:((i:Int)==(j:Int))=false:=by simp;omega
  rw [if_neg e]
  clear e
  go_enter func39,ntmps39
  go_wp2
  go_ret
  exact ⟨rfl,rfl⟩
theorem UM (t y i j d B:Nat) (p:Option aq) (M:List (List Nat)) (w:World) (D:i < M.length) (I:j < 2*d) (f:(Qh M i).length=d) (J:d<=1000) (K:w.cell? ⟨t,0,aa⟩=ab (.int .i64 (d:Int))) (L:w.cell? ⟨y,0,aa⟩=ab (.slice p M.length B)) (h:QJ w p M) :
 ai prog 38 #[.int .i64 (i:Int),.int .i64 (j:Int),.pointer (ab ⟨t,0,aa⟩),.pointer (ab ⟨y,0,aa⟩)] w fun e w'=>e=.returned (.int .u8 (((if j < d then Gf.nth (Qh M i) j else if i=j - d then 1 else 0:Nat)):Int))/\za w.heap.size w w':=by
 by_cases s:j < d
 ·obtain ⟨b,o,E,G,c,rfl,z,H⟩:=h.at D (by rw [f];exact s)
  rw [f] at z
  rw [if_pos s]
  clear f h
  go_enter func38,ntmps38
  go_wp2
  go_ret
  exact ⟨rfl,af _ _⟩
 ·rw [if_neg s]
  have A:((j:Int) - (d:Int))=((j - d:Nat):Int):=by omega
  clear f h
  go_enter func38,ntmps38
  go_wp2_with (go_at_call 39;first | (rw [A];refine (BJ i (j - d) _).mono ?_;rintro e w' ⟨rfl,rfl⟩) | (refine (BJ i (j - d) _).mono ?_;rintro e w' ⟨rfl,rfl⟩))
  all_goals (go_ret;exact ⟨rfl,af _ _⟩)
theorem JlF (f h i j d o r n:Nat) (s:Nat->Nat) (x:Nat) (w:World) (t:i < r) (y:d+j < n) (z:n<=1000) (A:w.cell? ⟨f,0,aa⟩=ab (.slice (ab ⟨o,0,aa⟩) r r)) (B:w.cell? ⟨h,0,aa⟩=ab (.int .i64 (d:Int))) (D:w.cell? ⟨o,i,aa⟩=ab (.slice (ab ⟨s i,0,aa⟩) n n)) (E:w.cell? ⟨s i,d+j,aa⟩=ab (.int .u8 (x:Int))) :
 ai prog 40 #[.int .i64 (i:Int),.int .i64 (j:Int),.pointer (ab ⟨f,0,aa⟩),.pointer (ab ⟨h,0,aa⟩)] w fun e w'=>e=.returned (.int .u8 (x:Int))/\za w.heap.size w w':=by
 go_enter func40,ntmps40
 go_wp2
 go_quiet (fail)
 go_wp2
 go_ret
 exact ⟨rfl,ah (af _ _) _⟩
theorem WM (d f h o i j l E G:Nat) (a b:Option aq) (A B:List (List Nat)) (w:World) (H:i < A.length) (I:l < (Qh A i).length) (J:l < B.length) (K:j < (Qh B l).length) (hA:w.cell? ⟨d,0,aa⟩=ab (.slice a A.length E)) (hB:w.cell? ⟨h,0,aa⟩=ab (.slice b B.length G)) (hI:w.cell? ⟨f,0,aa⟩=ab (.int .i64 (i:Int))) (hJ:w.cell? ⟨o,0,aa⟩=ab (.int .i64 (j:Int))) (s:QJ w a A) (t:QJ w b B) (L:QR A) (M:QR B) :
 ai prog 60 #[.int .i64 (l:Int),.pointer (ab ⟨d,0,aa⟩),.pointer (ab ⟨f,0,aa⟩),.pointer (ab ⟨h,0,aa⟩),.pointer (ab ⟨o,0,aa⟩)] w fun e w'=>e=.returned (.int .u8 ((Gf.mul (Gf.nth (Qh A i) l) (Gf.nth (Qh B l) j):Nat):Int))/\za w.heap.size w w':=by
 obtain ⟨N,O,Q,S,T,rfl,U,V⟩:=s.at H I
 obtain ⟨W,Y,Z,b4,b5,rfl,b6,b7⟩:=t.at J K
 have z:=L i l
 have D:=M l j
 clear s t
 generalize Gf.nth (Qh A i) l=x at *
 generalize Gf.nth (Qh B l) j=y at *
 go_enter func60,ntmps60
 go_wp2
 go_quiet ((go_at_call 61;exact ae (k1 x y _ z D)))
 go_wp2
 go_ret
 exact ⟨rfl,ah (af _ _) _⟩
theorem x7 (n:Nat) (w:World) (o:n < 2 ^ 62):ai prog 65 #[.int .i64 (n:Int)] w fun e w'=>e=.returned (.bool (decide (1<=n/\n<=16)))/\w'=w:=by
 by_cases f:1<=n
 ·by_cases j:n<=16
  ·have d:Hid (decide (1<=n/\n<=16)=true):=decide_eq_true ⟨f,j⟩
   go_enter func65,ntmps65
   go_wp2
   go_ret
   exact ⟨sB ((decide_eq_true (by omega)).trans d.out.symm),rfl⟩
  ·have d:Hid (decide (1<=n/\n<=16)=false):=decide_eq_false (fun h=>j h.2)
   go_enter func65,ntmps65
   go_wp2
   go_ret
   exact ⟨sB ((decide_eq_false (by omega)).trans d.out.symm),rfl⟩
 ·rw [decide_eq_false (fun h=>f h.1:¬ (1<=n/\n<=16))]
  go_enter func65,ntmps65
  go_wp2
  go_ret
  exact ⟨rfl,rfl⟩
theorem E9 (n:Nat) (w:World) (d:1<=n) (f:n<=16):ai prog 65 #[.int .i64 (n:Int)] w fun e w'=>e=.returned (.bool true)/\w'=w:=by
 have:=x7 n w (by omega)
 rw [decide_eq_true (⟨d,f⟩:1<=n/\n<=16)] at this
 exact this
theorem x0 (n:Nat) (w:World) (d:n < 2 ^ 62) (h:¬ (1<=n/\n<=16)):ai prog 65 #[.int .i64 (n:Int)] w fun e w'=>e=.returned (.bool false)/\w'=w:=by
 have:=x7 n w d
 rw [decide_eq_false h] at this
 exact this
theorem wW (p:Option aq) (M:List (List Nat)) (J:Nat) (w:World) (d:jQ M) (h:QJ w p M) :
 ai prog 35 #[.slice p M.length J] w fun e w'=>e=.returned .nilIface/\w'=w:=by
 have A:Hid (jQ M):=d
 have f:1<=M.length:=d.1
 have B:M.length<=16:=d.2.1
 have D:1<=(Qh M 0).length:=(d.2.2 0 (by omega)).1
 have E:(Qh M 0).length<=16:=(d.2.2 0 (by omega)).2.1
 clear d
 rcases h with h | ⟨b,o,rfl,K,s⟩
 ·rw [h] at f;simp at f
 obtain ⟨G,c0,t,_⟩:=s 0 (by omega)
 have L:w.cell? ⟨b,o,aa⟩=ab (.slice G (Qh M 0).length c0):=t
 have H:Hid (∀ i,i < M.length->∃ q c,w.cell? ⟨b,o+i,aa⟩=ab (.slice q (Qh M 0).length c)):=fun i y=>by
  obtain ⟨q,c,z,_⟩:=s i y
  rw [(A.out.2.2 i y).2.2] at z
  exact ⟨q,c,z⟩
 clear s t
 generalize (Qh M 0).length=n at *
 go_enter func35,ntmps35
 go_wp2_with (first | (go_at_call 65;with_reducible refine (E9 M.length _ f B).mono ?_;rintro e w' ⟨rfl,rfl⟩) | (go_at_call 65;refine (E9 n _ D E).mono ?_;rintro e w' ⟨rfl,rfl⟩))
 go_loop [20] (fun j=>∃ k:Nat,k<=M.length/\j=.int .i64 k) (fun j=>M.length - (intOf j).toNat)
 case atStart=>exact ⟨0,by omega,rfl⟩
 case round =>
  obtain ⟨k,N,rfl⟩:=hrel
  by_cases I:k < M.length
  ·obtain ⟨q,c,O⟩:=H.out k I
   go_wp2
   go_round
   case rel=>exact ⟨k+1,by omega,by go_num⟩
   case measure=>simp [intOf];omega
  ·go_wp2
   go_ret
   exact ⟨rfl,rfl⟩
theorem S1 (p:Option aq) (M:List (List Nat)) (a1:Nat) (z:aq) (w:World) (hl:M.length < 2 ^ 62) (L:∀ i,(Qh M i).length < 2 ^ 62) (N:¬ jQ M) (h:QJ w p M)
 (hz:w.cell? ⟨1,0,aa⟩=ab (.iface 136 (.pointer (ab z)))) :
 ai prog 35 #[.slice p M.length a1] w fun e w'=>e=.returned (.iface 136 (.pointer (ab z)))/\w'=w:=by
 by_cases t:1<=M.length/\M.length<=16
 ·obtain ⟨f,y⟩:=t
  rcases h with h | ⟨b,o,rfl,hb,A⟩
  ·rw [h] at f;simp at f
  obtain ⟨O,c0,E,_⟩:=A 0 (by omega)
  have a2:w.cell? ⟨b,o,aa⟩=ab (.slice O (Qh M 0).length c0):=E
  have Q:=L 0
  have G:Hid (¬ jQ M):=N
  have S:Hid (∀ i,i < M.length->∃ q c,w.cell? ⟨b,o+i,aa⟩=ab (.slice q (Qh M i).length c)):=fun i d=>by
   obtain ⟨q,c,T,_⟩:=A i d
   exact ⟨q,c,T⟩
  clear A E N
  by_cases B:1<=(Qh M 0).length/\(Qh M 0).length<=16
  ·obtain ⟨H,I⟩:=B
   have U:Hid (∃ i,i < M.length/\(Qh M i).length≠(Qh M 0).length):=by
    refine Classical.byContradiction fun V=>G.out ⟨f,y,fun i d=>?_⟩
    have:(Qh M i).length=(Qh M 0).length:=Classical.byContradiction fun D=>V ⟨i,d,D⟩
    rw [this]
    exact ⟨H,I,rfl⟩
   clear G
   go_enter func35,ntmps35
   go_wp2_with (first | (go_at_call 65;with_reducible refine (E9 M.length _ f y).mono ?_;rintro e w' ⟨rfl,rfl⟩) | (go_at_call 65;refine (E9 (Qh M 0).length _ H I).mono ?_;rintro e w' ⟨rfl,rfl⟩))
   go_loop [20] (fun j=>∃ k:Nat,k<=M.length/\j=.int .i64 k/\∀ i,i < k->(Qh M i).length=(Qh M 0).length) (fun j=>M.length - (intOf j).toNat)
   case atStart=>exact ⟨0,by omega,rfl,fun i d=>absurd d (Nat.not_lt_zero _)⟩
   case round =>
    obtain ⟨k,hk,rfl,J⟩:=hrel
    have K:Hid (∀ i,i < k->(Qh M i).length=(Qh M 0).length):=J
    clear J
    by_cases W:k < M.length
    ·obtain ⟨q,c,Y⟩:=S.out k W
     have a3:=L k
     by_cases s:(Qh M k).length=(Qh M 0).length
     ·have Z:Hid ((Qh M k).length=(Qh M 0).length):=s
      rw [s] at Y
      clear s
      go_wp2
      go_round
      case rel =>
       refine ⟨k+1,by omega,by go_num,fun i d=>?_⟩
       by_cases e:i=k
       ·rw [e];exact Z.out
       ·exact K.out i (by omega)
      case measure=>simp [intOf];omega
     ·have ht:(((Qh M k).length:Int) != ((Qh M 0).length:Int))=true:=by simp;omega
      clear s
      go_wp2
      go_ret
      exact ⟨rfl,rfl⟩
    ·obtain ⟨i,d,D⟩:=U.out
     exact absurd (K.out i (by omega)) D
  ·have a0:Hid (¬ (1<=(Qh M 0).length/\(Qh M 0).length<=16)):=B
   clear B
   go_enter func35,ntmps35
   go_wp2_with (first | (go_at_call 65;with_reducible refine (E9 M.length _ f y).mono ?_;rintro e w' ⟨rfl,rfl⟩) | (go_at_call 65;refine (x0 (Qh M 0).length _ Q a0.out).mono ?_;rintro e w' ⟨rfl,rfl⟩))
   go_ret
   exact ⟨rfl,rfl⟩
 ·have HF:Hid (¬ (1<=M.length/\M.length<=16)):=t
  clear t
  go_enter func35,ntmps35
  go_wp2_with (first | (go_at_call 65;refine (x0 M.length _ hl HF.out).mono ?_;rintro e w' ⟨rfl,rfl⟩))
  go_ret
  exact ⟨rfl,rfl⟩
theorem FC (d:jQ M) (f:i < M.length):(Qh M i).length=(Qh M 0).length:=(d.2.2 i f).2.2
theorem R7 (h f i j H z:Nat) (a b:Option aq) (A B:List (List Nat)) (w:World) (Q:jQ A) (I:jQ B) (S:(Qh A 0).length=B.length) (T:i < A.length) (hj:j < (Qh B 0).length) (J:w.cell? ⟨h,0,aa⟩=ab (.slice a A.length H)) (K:w.cell? ⟨f,0,aa⟩=ab (.slice b B.length z)) (U:QJ w a A) (V:QJ w b B) (D:QR A) (W:QR B) :
 ai prog 58 #[.int .i64 (i:Int),.int .i64 (j:Int),.pointer (ab ⟨f,0,aa⟩),.pointer (ab ⟨h,0,aa⟩)] w fun e w'=>e=.returned (.int .u8 ((jM A B i j B.length:Nat):Int))/\za w.heap.size w w':=by
 have l2:B.length<=16:=I.2.1
 have Y:=Qf J
 have Z:=Qf K
 obtain ⟨d,o⟩:∃ d,d=(w.alloc (.cells #[.int .i64 (i:Int)] 3)).alloc (.cells #[.int .i64 (j:Int)] 3):=⟨_,rfl⟩
 have t:za w.heap.size w d:=by rw [o];exact ((af _ _).alloc (ag _) _).alloc (by simp) _
 have a3:d.heap.size=w.heap.size+2:=by rw [o];simp
 have L:d.cell? ⟨w.heap.size,0,aa⟩=ab (.int .i64 (i:Int)):=by rw [o,ap _ _ _ (by simp),ac _ _ _ _ rfl];rfl
 have M:d.cell? ⟨w.heap.size+1,0,aa⟩=ab (.int .i64 (j:Int)):=by rw [o,ac _ _ _ _ (by simp)];rfl
 have N:d.cell? ⟨h,0,aa⟩=ab (.slice a A.length H):=(t.cell (p:=⟨h,0,aa⟩) Y).trans J
 have E:d.cell? ⟨f,0,aa⟩=ab (.slice b B.length z):=(t.cell (p:=⟨f,0,aa⟩) Z).trans K
 have a4:((w.alloc (.cells #[.int .i64 (i:Int)] 3)).alloc (.cells #[.int .i64 (j:Int)] 3)).cell? ⟨f,0,aa⟩=ab (.slice b B.length z):=by rw [<- o];exact E
 have O:Hid (∀ l,l < B.length->∀ s,za d.heap.size d s->ai prog 60 (#[.int .i64 (l:Int)] ++ #[.pointer (ab ⟨h,0,aa⟩),.pointer (ab ⟨w.heap.size,0,aa⟩),.pointer (ab ⟨f,0,aa⟩),.pointer (ab ⟨w.heap.size+1,0,aa⟩)]) s fun e w3=>e=.returned (.int .u8 ((Gf.mul (Gf.nth (Qh A i) l) (Gf.nth (Qh B l) j):Nat):Int))/\za s.heap.size s w3):=by
  intro l G s y
  exact WM h w.heap.size f (w.heap.size+1) i j l H z a b A B s T (by rw [FC Q T,S];exact G) G (by rw [FC I G];exact hj) ((y.cell (p:=⟨h,0,aa⟩) (by show h < _;omega)).trans N) ((y.cell (p:=⟨f,0,aa⟩) (by show f < _;omega)).trans E) ((y.cell (p:=⟨w.heap.size,0,aa⟩) (by show w.heap.size < _;omega)).trans L) ((y.cell (p:=⟨w.heap.size+1,0,aa⟩) (by show w.heap.size+1 < _;omega)).trans M) ((U.below t).below y) ((V.below t).below y) D W
 have HS:=JsH B.length (fun l=>Gf.mul (Gf.nth (Qh A i) l) (Gf.nth (Qh B l) j)) 60 #[.pointer (ab ⟨h,0,aa⟩),.pointer (ab ⟨w.heap.size,0,aa⟩),.pointer (ab ⟨f,0,aa⟩),.pointer (ab ⟨w.heap.size+1,0,aa⟩)] d (by omega) (fun l=>Gf.aV (D i l) _) (enters_of func60 (by kernel_rfl) rfl) (jM A B i j) rfl (fun _=>rfl) (o8 A B D i j) O.out
 have a0:Hid (d=(w.alloc (.cells #[.int .i64 (i:Int)] 3)).alloc (.cells #[.int .i64 (j:Int)] 3)):=o
 have a1:Hid (za w.heap.size w d):=t
 clear Q I S o t L M N E U V J K D W O
 go_enter func58,ntmps58
 go_wp2_with (go_at_call 59;rw [<- a0.out];refine HS.mono ?_;rintro e s ⟨rfl,a2⟩)
 go_ret
 exact ⟨rfl,a1.out.trans (a2.mono (by omega))⟩
theorem RK (a b:Option aq) (A B:List (List Nat)) (h o:Nat) (w:World) (K:jQ A) (y:jQ B) (L:(Qh A 0).length=B.length) (bA:QR A) (bB:QR B) (mA:QJ w a A) (mB:QJ w b B) :
 ai prog 30 #[.slice a A.length h,.slice b B.length o] w fun e w'=>(∃ z,e=.returned (.tuple #[.slice (ab ⟨z,0,aa⟩) A.length A.length,.nilIface])/\QJ w' (ab ⟨z,0,aa⟩) (xW A B A.length))/\za w.heap.size w w':=by
 have d0:1<=A.length:=K.1
 have d1:A.length<=16:=K.2.1
 have d2:1<=B.length:=y.1
 have d3:B.length<=16:=y.2.1
 have d4:1<=(Qh B 0).length:=(y.2.2 0 (by omega)).1
 have d5:(Qh B 0).length<=16:=(y.2.2 0 (by omega)).2.1
 have T:Hid (jQ A):=K
 have U:Hid (jQ B):=y
 have V:Hid (QR A):=bA
 have BB:Hid (QR B):=bB
 obtain ⟨d,s⟩:∃ d,d=(w.alloc (.cells #[.slice a A.length h] 23)).alloc (.cells #[.slice b B.length o] 23):=⟨_,rfl⟩
 have D:za w.heap.size w d:=by rw [s];exact ((af _ _).alloc (ag _) _).alloc (by simp) _
 have d6:d.heap.size=w.heap.size+2:=by rw [s];simp
 have Y:d.cell? ⟨w.heap.size,0,aa⟩=ab (.slice a A.length h):=by rw [s,ap _ _ _ (by simp),ac _ _ _ _ rfl];rfl
 have Z:d.cell? ⟨w.heap.size+1,0,aa⟩=ab (.slice b B.length o):=by rw [s,ac _ _ _ _ (by simp)];rfl
 have M:Hid (QJ d a A):=mA.below D
 have N:Hid (QJ d b B):=mB.below D
 have HK:Hid ((Qh A 0).length=B.length):=L
 have a7:Hid (∀ W:World,za d.heap.size d W->∀ i j,i < A.length->j < (Qh B 0).length->∀ f,za W.heap.size W f->ai prog 58 (#[.int .i64 (i:Int),.int .i64 (j:Int)] ++ #[.pointer (ab ⟨w.heap.size+1,0,aa⟩),.pointer (ab ⟨w.heap.size,0,aa⟩)]) f fun e t=>e=.returned (.int .u8 ((jM A B i j B.length:Nat):Int))/\za f.heap.size f t):=by
  intro W hW i j hi hj f h2
  have E:za d.heap.size d f:=hW.trans (h2.mono hW.size)
  exact R7 w.heap.size (w.heap.size+1) i j h o a b A B f T.out U.out HK.out hi hj ((E.cell (p:=⟨w.heap.size,0,aa⟩) (by show w.heap.size < _;omega)).trans Y) ((E.cell (p:=⟨w.heap.size+1,0,aa⟩) (by show w.heap.size+1 < _;omega)).trans Z) (M.out.below E) (N.out.below E) V.out BB.out
 obtain ⟨O,Q,a3,a4,a5,rfl,d7,_,S,_⟩:=M.out.row (i:=0) (by omega) (by rw [L];omega)
 obtain ⟨G,H,b3,b4,b5,rfl,d8,_,a0,_⟩:=N.out.row (i:=0) (by omega) (by omega)
 rw [L] at S
 have cA:d.cell? ⟨O,Q,aa⟩=ab (.slice (ab ⟨a3,a4,aa⟩) B.length a5):=S
 have cB:d.cell? ⟨G,H,aa⟩=ab (.slice (ab ⟨b3,b4,aa⟩) (Qh B 0).length b5):=a0
 have a8:Hid (za w.heap.size w d):=D
 have a9:Hid (d=(w.alloc (.cells #[.slice (ab ⟨O,Q,aa⟩) A.length h] 23)).alloc (.cells #[.slice (ab ⟨G,H,aa⟩) B.length o] 23)):=s
 have ia:(0:Int) < (A.length:Int):=by omega
 have ib:(0:Int) < (B.length:Int):=by omega
 have na:0 < A.length:=by omega
 have nb:0 < B.length:=by omega
 clear K y L bA bB mA mB D s S a0
 go_enter func30,ntmps30
 go_wp2_with fail
 rw [<- a9.out]
 refine wp_region_still_lit (by kernel_rfl) (by kernel_rfl) ?_
 repeat still_step
 still_call (wW _ A h _ T.out (M.out.drewN 1))
 repeat still_step
 still_call (wW _ B o _ U.out (N.out.drewN 1))
 repeat still_step
 refine wpStill_nil ?_
 change Exit.then _ _ _ _ (d.drewN 1)
 have I:za d.heap.size d (d.drewN 1):=ah (af _ _) _
 have qA:(d.drewN 1).cell? ⟨w.heap.size,0,aa⟩=ab (.slice (ab ⟨O,Q,aa⟩) A.length h):=Y
 have qB:(d.drewN 1).cell? ⟨w.heap.size+1,0,aa⟩=ab (.slice (ab ⟨G,H,aa⟩) B.length o):=Z
 have qC:(d.drewN 1).cell? ⟨G,H,aa⟩=ab (.slice (ab ⟨b3,b4,aa⟩) (Qh B 0).length b5):=cB
 generalize d.drewN 1=f at I qA qB qC ⊢
 have b6:Hid (za d.heap.size d f):=I
 have d9:d.heap.size<=f.heap.size:=I.size
 clear I cA cB
 go_wp2_with fail
 refine wp_region_still_tail 7 (by kernel_rfl) (by kernel_rfl) ?_
 simp only [List.take_succ_cons,List.take_zero,List.drop_succ_cons,List.drop_zero]
 repeat still_step
 refine wpStill_nil ?_
 have J:za d.heap.size d (f.drewN 1):=ah b6.out 1
 change wpList _ _ _ _ _ (f.drewN 1)
 generalize f.drewN 1=t at J ⊢
 have a6:Hid (za d.heap.size d t):=J
 have e1:d.heap.size<=t.heap.size:=J.size
 clear J qA qB qC
 go_wp2_with (go_at_call 27;refine (tP A.length (Qh B 0).length (fun i j=>jM A B i j B.length) 58 #[.pointer (ab ⟨w.heap.size+1,0,aa⟩),.pointer (ab ⟨w.heap.size,0,aa⟩)] t (by omega) (by omega) (enters_of func58 (by kernel_rfl) rfl) (a7.out t a6.out)).mono ?_;rintro e w4 ⟨⟨z,gs,rfl,b7⟩,b8⟩)
 go_ret2
 exact ⟨⟨z,rfl,b7.tU (fun i j=>o8 A B V.out i j _) A.length (ag _)⟩,(a8.out.trans (a6.out.mono (by omega))).trans (b8.mono (by omega))⟩
def QO (d:Nat) (f:Nat->Nat) (r:Nat) (k:Nat):Prop:=k=d∨∃ i,i < r/\f i=k
theorem Zv.blocks {B:Nat} {j:Nat->Nat} {r:Nat} {f:Nat->Nat->Nat} (h:Zv w B d j r n f):∀ k,QO d j r k->B<=k/\k < w.heap.size:=fun k o=>by
 rcases o with rfl | ⟨i,s,rfl⟩
 ·exact h.rows.lt
 ·exact (h.all.row i s).lt
theorem EX {u:Nat->Nat->Lin.F} (h:Lin.cL n k v d) (o:∀ i,i < k->∀ j,j < n->v i j=u i j):Lin.cL n k u d:=by
 obtain ⟨b,s,t,y⟩:=h
 exact ⟨b,s,fun i f=>Lin.aX (t i f) o (fun _ _=>rfl),fun i f=>Lin.aX (y i f) (fun _ _ _ _=>rfl) (o i f)⟩
def JK (M:List (List Nat)) (r:Nat):Nat->Nat->Nat:=fun i j=>if j < r then Gf.nth (Qh M i) j else if i=j - r then 1 else 0
theorem OM (h:QR M) (r i j:Nat):JK M r i j < 256:=by
 unfold JK
 by_cases e:j < r
 ·rw [if_pos e];exact h i j
 ·by_cases d:i=j - r
  ·rw [if_neg e,if_pos d];decide
  ·rw [if_neg e,if_neg d];decide
theorem IW (M:List (List Nat)) (r i j:Nat) (d:j < r):Ym (JK M r) i j=Qk M i j:=by
 unfold Ym JK
 rw [if_pos d]
 rfl
theorem JkM (M:List (List Nat)) (r i j:Nat):Ym (JK M r) i (r+j)=Lin.one i j:=by
 unfold Ym JK Lin.one
 rw [if_neg (by omega),show r+j - r=j by omega]
 by_cases e:i=j
 ·rw [if_pos e,if_pos e];rfl
 ·rw [if_neg e,if_neg e];rfl
def xQ (w':World) (M:List (List Nat)) (z:aq) (e:Ending):Prop :=
 ∃ d:Nat,Lin.cL M.length M.length (Qk M) d/\((d < M.length/\e=.returned (.tuple #[.slice aa 0 0,.iface 136 (.pointer (ab z))])) ∨
  (d=M.length/\∃ (f:Nat) (x:Nat->Nat->Nat),e=.returned (.tuple #[.slice (ab ⟨f,0,aa⟩) M.length M.length,.nilIface])/\QJ w' (ab ⟨f,0,aa⟩) (XB M.length M.length x)/\(∀ i j,x i j < 256)/\∀ i j,i < M.length->j < M.length->Lin.mm M.length (Ym x) (Qk M) i j=Lin.one i j))
theorem FJ (p:Option aq) (M:List (List Nat)) (I:Nat) (z:aq) (w:World) (U:jQ M) (a3:(Qh M 0).length=M.length) (hb:QR M) (h:QJ w p M)
 (hz:w.cell? ⟨2,0,aa⟩=ab (.iface 136 (.pointer (ab z)))) :
 ai prog 18 #[.slice p M.length I] w fun e w'=>xQ w' M z e/\za w.heap.size w w':=by
 have HM:Hid (jQ M):=U
 have l1:1<=M.length:=U.1
 have l2:M.length<=16:=U.2.1
 have d7:2 < w.heap.size:=Qf hz
 have d8:Hid (QR M):=hb
 obtain ⟨A,N⟩:∃ A,A=w.alloc (.cells #[.slice p M.length I] 23):=⟨_,rfl⟩
 have V:za w.heap.size w A:=by rw [N];exact (af _ _).alloc (ag _) _
 have g9:A.heap.size=w.heap.size+1:=by rw [N];simp
 have a4:Hid (QJ A p M):=h.below V
 have a5:A.cell? ⟨w.heap.size,0,aa⟩=ab (.slice p M.length I):=by rw [N,ac _ _ _ _ rfl];rfl
 have d9:Hid (A.cell? ⟨2,0,aa⟩=ab (.iface 136 (.pointer (ab z)))):=(V.cell (p:=⟨2,0,aa⟩) d7).trans hz
 have e1:Hid (za w.heap.size w A):=V
 have e2:Hid (∀ i,i < M.length->(Qh M i).length=M.length):=fun i E=>(U.2.2 i E).2.2.trans a3
 obtain ⟨b,o,b1,o1,c1,e3,e4,_,a6,_⟩:=a4.out.row (i:=0) (by omega) (by rw [a3];omega)
 rw [a3] at a6
 have e5:A.cell? ⟨b,o,aa⟩=ab (.slice (ab ⟨b1,o1,aa⟩) M.length c1):=a6
 subst e3
 have e9:Hid (A=w.alloc (.cells #[.slice (ab ⟨b,o,aa⟩) M.length I] 23)):=N
 have i0:0 < M.length:=by omega
 have i1:(0:Int) < (M.length:Int):=by omega
 clear U hb h hz V N a6 a3
 go_enter func18,ntmps18
 go_wp2_with fail
 rw [<- e9.out]
 go_quiet ((go_at_call 35;exact ae (wW _ M I _ HM.out (a4.out.drewN _))))
 obtain ⟨y,Y⟩:∃ y,y=A.drewN nq:=⟨_,rfl⟩
 have a7:za A.heap.size A y:=by rw [Y];exact ah (af _ _) _
 have f0:y.heap.size=A.heap.size:=by rw [Y];rfl
 rw [<- Y]
 have f1:y.cell? ⟨w.heap.size,0,aa⟩=ab (.slice (ab ⟨b,o,aa⟩) M.length I):=(a7.cell (p:=⟨w.heap.size,0,aa⟩) (by show w.heap.size < _;omega)).trans a5
 obtain ⟨f,O⟩:∃ f,f=y.alloc (.cells #[.int .i64 (M.length:Int)] 3):=⟨_,rfl⟩
 have Q:za A.heap.size A f:=by rw [O];exact a7.alloc (by omega) _
 have h0:f.heap.size=w.heap.size+2:=by rw [O];simp;omega
 have a8:f.cell? ⟨w.heap.size+1,0,aa⟩=ab (.int .i64 (M.length:Int)):=by rw [O,ac _ _ _ _ (by omega)];rfl
 have b5:f.cell? ⟨w.heap.size,0,aa⟩=ab (.slice (ab ⟨b,o,aa⟩) M.length I):=(Q.cell (p:=⟨w.heap.size,0,aa⟩) (by show w.heap.size < _;omega)).trans a5
 have f2:Hid (QJ f (ab ⟨b,o,aa⟩) M):=a4.out.below Q
 have f3:Hid (f.cell? ⟨2,0,aa⟩=ab (.iface 136 (.pointer (ab z)))):=(Q.cell (p:=⟨2,0,aa⟩) (by show 2 < _;omega)).trans d9.out
 have f4:Hid (za w.heap.size w f):=e1.out.trans (Q.mono (by omega))
 have Z:Hid (∀ i j,i < M.length->j < 2*M.length->∀ y,za f.heap.size f y->ai prog 38 (#[.int .i64 (i:Int),.int .i64 (j:Int)] ++ #[.pointer (ab ⟨w.heap.size+1,0,aa⟩),.pointer (ab ⟨w.heap.size,0,aa⟩)]) y fun e f=>e=.returned (.int .u8 ((JK M M.length i j:Nat):Int))/\za y.heap.size y f):=by
  intro i j E K t h4
  exact UM (w.heap.size+1) w.heap.size i j M.length I _ M t E K (e2.out i E) (by omega) ((h4.cell (p:=⟨w.heap.size+1,0,aa⟩) (by show w.heap.size+1 < _;omega)).trans a8) ((h4.cell (p:=⟨w.heap.size,0,aa⟩) (by show w.heap.size < _;omega)).trans b5) (f2.out.below h4)
 have f5:Hid (f=y.alloc (.cells #[.int .i64 (M.length:Int)] 3)):=O
 have h1:y.heap.size=w.heap.size+1:=by omega
 clear Y a7 f0 O Q a5 e5 e4
 have a9:=tP M.length (2*M.length) (JK M M.length) 38 #[.pointer (ab ⟨w.heap.size+1,0,aa⟩),.pointer (ab ⟨w.heap.size,0,aa⟩)] f (by omega) (by omega) (enters_of func38 (by kernel_rfl) rfl) Z.out
 rw [show ((2*M.length:Nat):Int)=2*(M.length:Int) by omega] at a9
 go_wp2_with (go_at_call 27;rw [<- f5.out];refine a9.mono ?_;rintro e t ⟨⟨s,D,rfl,a0⟩,b2⟩)
 have b6:Hid (Zv t f.heap.size s D M.length (2*M.length) (JK M M.length)):=a0
 have h2:s < t.heap.size:=a0.rows.lt.2
 have f6:f.heap.size<=t.heap.size:=b2.size
 obtain ⟨B,S⟩:∃ B,B=t.alloc (.cells #[.slice (ab ⟨s,0,aa⟩) M.length M.length] 23):=⟨_,rfl⟩
 rw [<- S]
 have b3:za t.heap.size t B:=by rw [S];exact (af _ _).alloc (ag _) _
 have h3:B.heap.size=t.heap.size+1:=by rw [S];simp
 have a1:za f.heap.size f B:=b2.trans (b3.mono f6)
 have b7:B.cell? ⟨w.heap.size+1,0,aa⟩=ab (.int .i64 (M.length:Int)):=(a1.cell (p:=⟨w.heap.size+1,0,aa⟩) (by show w.heap.size+1 < _;omega)).trans a8
 have f7:B.cell? ⟨t.heap.size,0,aa⟩=ab (.slice (ab ⟨s,0,aa⟩) M.length M.length):=by rw [S,ac _ _ _ _ rfl];rfl
 have b8:Hid (B.cell? ⟨2,0,aa⟩=ab (.iface 136 (.pointer (ab z)))):=(a1.cell (p:=⟨2,0,aa⟩) (by show 2 < _;omega)).trans f3.out
 have f8:Hid (Zv B f.heap.size s D M.length (2*M.length) (JK M M.length)):=a0.below b3
 have f9:Hid (za w.heap.size w B):=f4.out.trans (a1.mono (by omega))
 have L:Hid (∀ k,QO s D M.length k->f.heap.size<=k/\k < t.heap.size):=b6.out.blocks
 have g0:Hid (∀ W:World,za B.heap.size B W->ai prog 37 #[.slice (ab ⟨s,0,aa⟩) M.length M.length,.int .i64 (M.length:Int)] W fun e w'=>∃ (d:Nat) (G:Nat->Nat) (g:Nat->Nat->Nat),e=.returned (.int .i64 (d:Int))/\ZI (QO s D M.length) B w'/\Zv w' f.heap.size s G M.length (2*M.length) g/\(∀ i j,g i j < 256)/\Lin.eO M.length (2*M.length) M.length (Ym (JK M M.length)) (Ym g) d):=by
  intro W hW
  refine (JnT (QO s D M.length) f.heap.size s D M.length (2*M.length) M.length (JK M M.length) z W (by omega) (by omega) (by omega) (OM d8.out M.length) (f8.out.below hW) (Or.inl rfl) (fun i E=>Or.inr ⟨i,E,rfl⟩) (fun k H=>⟨(L.out k H).1,by have:=(L.out k H).2;have:=hW.size;omega⟩) (by omega) ((hW.cell (p:=⟨2,0,aa⟩) (by show 2 < _;omega)).trans b8.out)).mono ?_
  rintro e w' ⟨hF,d,G,g,rfl,hG,hl,hR⟩
  exact ⟨d,G,g,rfl,(ZP hW).trans hF,hG,hl,hR⟩
 have nS:¬ QO s D M.length (w.heap.size+1):=fun H=>by have:=(L.out _ H).1;omega
 have nB:¬ QO s D M.length t.heap.size:=fun H=>by have:=(L.out _ H).2;omega
 have nE:¬ QO s D M.length 2:=fun H=>by have:=(L.out _ H).1;omega
 have NS:Hid (¬ QO s D M.length (w.heap.size+1)):=nS
 have NB:Hid (¬ QO s D M.length t.heap.size):=nB
 have NE:Hid (¬ QO s D M.length 2):=nE
 clear nS nB nE S b3 a1 b2 a0 b6 a8 f1 b5 a9 Z
 go_cut [30] from 26 to 30 (fun v wc=>∃ (d:Nat) (G:Nat->Nat) (g:Nat->Nat->Nat),v=.bool (decide (d < M.length))/\ZI (QO s D M.length) B wc/\Zv wc f.heap.size s G M.length (2*M.length) g/\(∀ i j,g i j < 256)/\Lin.eO M.length (2*M.length) M.length (Ym (JK M M.length)) (Ym g) d)
 case first =>
  go_region_with (go_at_call 37;refine (g0.out _ (by first | exact (Below.refl _ _).drew | exact Below.refl _ _)).mono ?_;rintro e w6 ⟨d,G,g,rfl,hF,hG,hl,hR⟩;have d0:=hF.cell b7 NS.out)
  all_goals (go_wp2_with fail;go_meet)
  all_goals exact ⟨d,G,g,rfl,hF,hG,hl,hR⟩
 case rest =>
  obtain ⟨d,G,g,rfl,J,d1,d2,a2⟩:=hcut
  have h5:Hid (ZI (QO s D M.length) B wc):=J
  have g1:Hid (Zv wc f.heap.size s G M.length (2*M.length) g):=d1
  have d3:Hid (∀ i j,g i j < 256):=d2
  have g2:Hid (Lin.eO M.length (2*M.length) M.length (Ym (JK M M.length)) (Ym g) d):=a2
  have d4:Hid (Lin.cL M.length M.length (Qk M) d):=EX (a2.xN (by omega)) (fun i _ j K=>IW M M.length i j K)
  have g3:wc.cell? ⟨2,0,aa⟩=ab (.iface 136 (.pointer (ab z))):=J.cell b8.out NE.out
  have d0:wc.cell? ⟨w.heap.size+1,0,aa⟩=ab (.int .i64 (M.length:Int)):=J.cell b7 NS.out
  have g4:wc.cell? ⟨t.heap.size,0,aa⟩=ab (.slice (ab ⟨s,0,aa⟩) M.length M.length):=J.cell f7 NB.out
  have h6:B.heap.size<=wc.heap.size:=J.size
  have d5:Hid (za w.heap.size w wc):=f9.out.trans ((J.below (fun k H=>(L.out k H).1) (by omega)).mono (by omega))
  have h8:d<=M.length:=a2.le
  clear J d1 d2 a2
  by_cases T:d < M.length
  ·have HD:Hid (d < M.length):=T
   rw [decide_eq_true T]
   clear T
   go_wp2
   go_quiet (fail)
   go_wp2
   go_ret2
   exact ⟨⟨d,d4.out,Or.inl ⟨HD.out,rfl⟩⟩,ah d5.out _⟩
  ·have b4:d=M.length:=by omega
   have HD:Hid (d=M.length):=b4
   have g5:Hid (Lin.eO M.length (2*M.length) M.length (Ym (JK M M.length)) (Ym g) M.length):=by have:=g2.out;rw [b4] at this;exact this
   rw [decide_eq_false T]
   clear T b4 g3
   have Z:Hid (∀ i j,i < M.length->j < M.length->∀ y,za wc.heap.size wc y->ai prog 40 (#[.int .i64 (i:Int),.int .i64 (j:Int)] ++ #[.pointer (ab ⟨t.heap.size,0,aa⟩),.pointer (ab ⟨w.heap.size+1,0,aa⟩)]) y fun e f=>e=.returned (.int .u8 ((g i (M.length+j):Nat):Int))/\za y.heap.size y f):=by
    intro i j E K w7 h7
    have d6:=g1.out.below h7
    refine JlF t.heap.size (w.heap.size+1) i j M.length s M.length (2*M.length) G (g i (M.length+j)) w7 E (by omega) (by omega) ((h7.cell (p:=⟨t.heap.size,0,aa⟩) (by show t.heap.size < _;omega)).trans g4) ((h7.cell (p:=⟨w.heap.size+1,0,aa⟩) (by show w.heap.size+1 < _;omega)).trans d0) (d6.rows.cell i E) ?_
    rw [(d6.all.row i E).cell (M.length+j) (by omega) (Jf _ _),Yq _ _ _ (by omega)]
   go_wp2_with (go_at_call 27;refine (tP M.length M.length (fun i j=>g i (M.length+j)) 40 #[.pointer (ab ⟨t.heap.size,0,aa⟩),.pointer (ab ⟨w.heap.size+1,0,aa⟩)] wc (by omega) (by omega) (enters_of func40 (by kernel_rfl) rfl) Z.out).mono ?_;rintro e w8 ⟨⟨g6,h9,rfl,g7⟩,g8⟩)
   go_ret2
   refine ⟨⟨d,d4.out,Or.inr ⟨HD.out,g6,fun i j=>g i (M.length+j),rfl,g7.tU (fun i j=>d3.out _ _) M.length (ag _),fun i j=>d3.out _ _,?_⟩⟩,d5.out.trans (g8.mono (by omega))⟩
   exact g5.out.kM (fun i j _ K=>IW M M.length i j K) (fun i j _ _=>JkM M M.length i j)
theorem JcL (p:Option aq) (M:List (List Nat)) (f:Nat) (z:aq) (w:World) (A:M.length < 2 ^ 62) (B:∀ i,(Qh M i).length < 2 ^ 62) (D:¬ jQ M) (h:QJ w p M)
 (t:w.cell? ⟨1,0,aa⟩=ab (.iface 136 (.pointer (ab z)))) :
 ai prog 18 #[.slice p M.length f] w fun e w'=>e=.returned (.tuple #[.slice aa 0 0,.iface 136 (.pointer (ab z))])/\za w.heap.size w w':=by
 obtain ⟨d,j⟩:∃ d,d=w.alloc (.cells #[.slice p M.length f] 23):=⟨_,rfl⟩
 have o:za w.heap.size w d:=by rw [j];exact (af _ _).alloc (ag _) _
 have E:d.cell? ⟨w.heap.size,0,aa⟩=ab (.slice p M.length f):=by rw [j,ac _ _ _ _ rfl];rfl
 have s:d.cell? ⟨1,0,aa⟩=ab (.iface 136 (.pointer (ab z))):=(o.cell (p:=⟨1,0,aa⟩) (Qf t)).trans t
 have G:Hid (∀ n,ai prog 35 #[.slice p M.length f] (d.drewN n) fun e w'=>e=.returned (.iface 136 (.pointer (ab z)))/\w'=d.drewN n):=fun n=>S1 p M f z _ A B D ((h.below o).drewN n) s
 have H:Hid (d=w.alloc (.cells #[.slice p M.length f] 23)):=j
 clear A B D h t j
 go_enter func18,ntmps18
 go_wp2_with fail
 rw [<- H.out]
 go_quiet ((go_at_call 35;exact ae (G.out _)))
 have I:(d.drewN nq).cell? ⟨1,0,aa⟩=ab (.iface 136 (.pointer (ab z))):=s
 have y:za w.heap.size w (d.drewN nq):=ah o _
 generalize d.drewN nq=J at I y ⊢
 clear s E
 go_wp2
 go_quiet (fail)
 go_wp2
 go_ret2
 exact ⟨rfl,ah y _⟩
theorem JcM (p:Option aq) (M:List (List Nat)) (f:Nat) (z:aq) (w:World) (j:jQ M) (O:(Qh M 0).length≠M.length) (h:QJ w p M)
 (y:w.cell? ⟨1,0,aa⟩=ab (.iface 136 (.pointer (ab z)))) :
 ai prog 18 #[.slice p M.length f] w fun e w'=>e=.returned (.tuple #[.slice aa 0 0,.iface 136 (.pointer (ab z))])/\za w.heap.size w w':=by
 have Q:1<=M.length:=j.1
 have S:M.length<=16:=j.2.1
 have T:1<=(Qh M 0).length:=(j.2.2 0 (by omega)).1
 have U:(Qh M 0).length<=16:=(j.2.2 0 (by omega)).2.1
 obtain ⟨d,s⟩:∃ d,d=w.alloc (.cells #[.slice p M.length f] 23):=⟨_,rfl⟩
 have t:za w.heap.size w d:=by rw [s];exact (af _ _).alloc (ag _) _
 have E:d.cell? ⟨w.heap.size,0,aa⟩=ab (.slice p M.length f):=by rw [s,ac _ _ _ _ rfl];rfl
 have A:d.cell? ⟨1,0,aa⟩=ab (.iface 136 (.pointer (ab z))):=(t.cell (p:=⟨1,0,aa⟩) (Qf y)).trans y
 have G:Hid (∀ n,ai prog 35 #[.slice p M.length f] (d.drewN n) fun e w'=>e=.returned .nilIface/\w'=d.drewN n):=fun n=>wW p M f _ j ((h.below t).drewN n)
 obtain ⟨b,o,H,I,c1,J,V,_,B,_⟩:=(h.below t).row (i:=0) (by omega) (by omega)
 have K:d.cell? ⟨b,o,aa⟩=ab (.slice (ab ⟨H,I,aa⟩) (Qh M 0).length c1):=B
 subst J
 have L:Hid (d=w.alloc (.cells #[.slice (ab ⟨b,o,aa⟩) M.length f] 23)):=s
 have W:((M.length:Int) != ((Qh M 0).length:Int))=true:=by simp;omega
 have Y:0 < M.length:=by omega
 have Z:(0:Int) < (M.length:Int):=by omega
 clear j h y s O B
 generalize (Qh M 0).length=n at *
 go_enter func18,ntmps18
 go_wp2_with fail
 rw [<- L.out]
 go_quiet ((go_at_call 35;exact ae (G.out _)))
 have N:(d.drewN nq).cell? ⟨1,0,aa⟩=ab (.iface 136 (.pointer (ab z))):=A
 have D:za w.heap.size w (d.drewN nq):=ah t _
 generalize d.drewN nq=w2 at N D ⊢
 clear A E K
 go_wp2
 go_quiet (fail)
 go_wp2
 go_ret2
 exact ⟨rfl,ah D _⟩
theorem nR (a b:Nat) (w:World) (E:a < 256) (_hb:b < 256) :
 ai prog 34 #[.int .u8 (a:Int),.int .u8 (b:Int)] w fun e w'=>e=.returned (.int .u8 ((Gf.mul a b:Nat):Int))/\w'=w:=by
 go_enter func34,ntmps34
 go_wp2
 go_loop [5,6] (fun p i=>∃ k:Nat,k<=8/\i=.int .i64 k/\p=.int .i64 (Gf.rprod a b k:Nat)) (fun _ i=>8 - (intOf i).toNat)
 case atStart=>exact ⟨0,by omega,rfl,rfl⟩
 case round =>
  obtain ⟨k,G,rfl,rfl⟩:=hrel
  have y:=Gf.eK E b k G
  by_cases K:k < 8
  ·have h:=x4 b k
   have L:a*2 ^ k < 2 ^ 15:=by
    have s:2 ^ k<=2 ^ 7:=ar (by decide) (by omega)
    have H:a*2 ^ k<=255*2 ^ 7:=au (by omega) s
    omega
   have j:aR ((a:Int)*2 ^ k)=((a*2 ^ k:Nat):Int):=by
    have:=z8 (a*2 ^ k) (by omega)
    simpa using this
   have t:Hid (bits .xor .i64 ((Gf.rprod a b k:Nat):Int) (aR ((a:Int)*2 ^ k))=((Gf.rprod a b k ^^^ (a*2 ^ k):Nat):Int)):=by show _=_;rw [j];exact sT _ _ (by omega) (by omega)
   clear j
   by_cases d:Gf.bT b k=1
   ·have f:Hid (Gf.rprod a b (k+1)=Gf.rprod a b k ^^^ (a*2 ^ k)):=by show _=_;simp [Gf.rprod,d]
    rw [decide_eq_true d] at h
    clear d
    go_wp2
    exact ⟨⟨k+1,by omega,by go_num,by rw [f.out,t.out]⟩,by simp [intOf];omega⟩
   ·have f:Hid (Gf.rprod a b (k+1)=Gf.rprod a b k):=by show _=_;simp [Gf.rprod,d]
    rw [decide_eq_false d] at h
    clear d
    go_wp2
    exact ⟨⟨k+1,by omega,by go_num,by rw [f.out]⟩,by simp [intOf];omega⟩
  ·have I:k=8:=by omega
   subst I
   go_wp2
   have z:Hid (Gf.rprod a b 8 < 2 ^ 15):=y
   have A:Hid (Gf.eS (Gf.rprod a b 8)=Gf.mul a b):=Gf.hT a b E
   generalize Gf.rprod a b 8=n at z A y ⊢
   go_loop [5,7] (fun p i=>∃ m:Nat,7<=m/\m<=14/\i=.int .i64 m/\p=.int .i64 (Gf.rr n (14 - m):Nat)) (fun _ i=>(intOf i).toNat)
   case atStart=>exact ⟨14,by omega,by omega,rfl,rfl⟩
   case round =>
    obtain ⟨m,M,N,rfl,rfl⟩:=hrel
    have O:=Gf.Jt7 z.out (14 - m)
    have B:Hid (Gf.rr n (14 - (m - 1))=if 8<=m then Gf.wP m (Gf.rr n (14 - m)) else Gf.rr n (14 - (m - 1))):=by
     show _=_
     by_cases o:8<=m
     ·rw [if_pos o,show 14 - (m - 1)=(14 - m)+1 from by omega]
      show Gf.wP (14 - (14 - m)) _=_
      rw [show 14 - (14 - m)=m from by omega]
     ·rw [if_neg o]
    by_cases o:8<=m
    ·have h:=x4 (Gf.rr n (14 - m)) m
     have Q:285*2 ^ (m - 8) < 2 ^ 15:=by
      have s:2 ^ (m - 8)<=2 ^ 6:=ar (by decide) (by omega)
      have H:285*2 ^ (m - 8)<=285*2 ^ 6:=au (ag _) s
      omega
     have j:aR ((285:Int)*2 ^ (m - 8))=((285*2 ^ (m - 8):Nat):Int):=by
      have:=z8 (285*2 ^ (m - 8)) (by omega)
      simpa using this
     have t:Hid (bits .xor .i64 ((Gf.rr n (14 - m):Nat):Int) (aR ((285:Int)*2 ^ (m - 8)))=((Gf.rr n (14 - m) ^^^ (285*2 ^ (m - 8)):Nat):Int)):=by show _=_;rw [j];exact sT _ _ (by omega) (by omega)
     have D:Hid (Gf.rr n (14 - (m - 1))=Gf.wP m (Gf.rr n (14 - m))):=by have:=B.out;rw [if_pos o] at this;exact this
     clear j B
     by_cases d:Gf.bT (Gf.rr n (14 - m)) m=1
     ·have f:Hid (Gf.wP m (Gf.rr n (14 - m))=Gf.rr n (14 - m) ^^^ (285*2 ^ (m - 8))):=by show _=_;simp [Gf.wP,d]
      rw [decide_eq_true d] at h
      clear d
      go_wp2
      exact ⟨⟨m - 1,by omega,by omega,by congr 1;omega,by rw [D.out,f.out,t.out]⟩,by simp [intOf];omega⟩
     ·have f:Hid (Gf.wP m (Gf.rr n (14 - m))=Gf.rr n (14 - m)):=by show _=_;simp [Gf.wP,d]
      rw [decide_eq_false d] at h
      clear d
      go_wp2
      exact ⟨⟨m - 1,by omega,by omega,by congr 1;omega,by rw [D.out,f.out]⟩,by simp [intOf];omega⟩
    ·have J:m=7:=by omega
     subst J
     go_wp2
     go_ret
     refine ⟨l4 ?_,rfl⟩
     have:=A.out
     rw [<- this]
     simp [Gf.eS]
theorem Jcu (a b c:Nat) (w:World) (d:a < 256) (f:b < 256) (h:Gf.mul a b=c) :
 ai prog 34 #[.int .u8 (a:Int),.int .u8 (b:Int)] w fun e w'=>e=.returned (.int .u8 ((c:Nat):Int))/\w'=w:=h ▸ nR a b w d f
theorem Jcl (a:Nat) (w:World) (d:a < 256) (f:a≠0) :
 ai prog 64 #[.int .u8 (a:Int)] w fun e w'=>e=.returned (.int .u8 ((Gf.inv a:Nat):Int))/\w'=w:=by
 have o:=Gf.cQ a
 have z:=Gf.inv_pos a d f
 have s:Hid (Gf.mul a (Gf.inv a)=1):=Gf.eG a d f
 have t:Hid (∀ b,b < 256->Gf.mul a b=1->b=Gf.inv a):=fun b y h=>Gf.eN a b d y f h
 clear f
 go_enter func64,ntmps64
 go_wp2
 go_loop [3] (fun i=>∃ k:Nat,1<=k/\k<=Gf.inv a/\i=.int .i64 k) (fun i=>256 - (intOf i).toNat)
 case atStart=>exact ⟨1,by omega,by omega,rfl⟩
 case round =>
  obtain ⟨k,A,B,rfl⟩:=hrel
  by_cases j:k=Gf.inv a
  ·subst j
   go_wp2_with fail
   refine (Jcu a (Gf.inv a) 1 _ d o s.out).mono ?_
   rintro e w' ⟨rfl,rfl⟩
   go_wp2
   go_ret
   exact ⟨rfl,rfl⟩
  ·have D : (((Gf.mul a k : Nat) : Int) == 1) = false := by
    simp only [beq_eq_false_iff_ne,ne_eq]
    intro h
    exact j (t.out k (by omega) (by omega))
   go_wp2_with fail
   refine (nR a k _ d (by omega)).mono ?_
   rintro e w' ⟨rfl,rfl⟩
   go_wp2
   exact ⟨⟨k+1,by omega,by omega,by go_num⟩,by simp [intOf];omega⟩
theorem T1 (p:Option aq) (l:List Nat) (a3 i x:Nat) (w:World) (K:x < 256) (hl:l.length < 2 ^ 40) (D:i < l.length) (f:l.Nodup) (y:jU w p l) :
 ai prog 33 #[.slice p l.length a3,.int .i64 (i:Int),.int .u8 (x:Int)] w fun e w'=>e=.returned (.int .u8 ((Gf.aQ l i x:Nat):Int))/\∃ n,w'=w.drewN n:=by
 obtain ⟨G,y⟩:=y
 rcases y with y | ⟨b,o,rfl,hb,H⟩
 ·rw [y] at D;simp at D
 have I:=G i
 have U:Hid (Gf.e0 l i x l.length=Gf.aQ l i x):=Gf.e7 l G f i x D K
 have L:Hid (∀ k,k < l.length->k≠i->Gf.nth l i ^^^ Gf.nth l k≠0):=fun k M e=>Gf.B0 fun V=>e (Gf.M0 l f M D V.symm)
 clear f
 go_enter func33,ntmps33
 go_wp2
 go_loopw [7,8] (fun s j wr=>(∃ n,wr=w.drewN n)/\∃ k:Nat,k<=l.length/\j=.int .i64 k/\s=.int .u8 (Gf.e0 l i x k:Nat)) (fun _ j _=>l.length - (intOf j).toNat)
 case atStart=>exact ⟨⟨0,rfl⟩,0,by omega,rfl,rfl⟩
 case round =>
  obtain ⟨N,k,M,rfl,rfl⟩:=hrel
  have z:Hid (∃ n,wr=w.drewN n):=N
  clear N
  have O:=Gf.e6 l i x k
  by_cases Q:k < l.length
  ·have W : wr.cell? ⟨b, o + k, aa⟩ = ab (.int .u8 ((Gf.nth l k : Nat) : Int)) := by
    obtain ⟨n,f⟩:=z.out
    rw [f]
    exact H k Q
   have Y:wr.cell? ⟨b,o+i,aa⟩=ab (.int .u8 ((Gf.nth l i:Nat):Int)):=by
    obtain ⟨n,f⟩:=z.out
    rw [f]
    exact H i D
   have A:=G k
   have E:Hid (Gf.e0 l i x (k+1)=if k=i then Gf.e0 l i x k else Gf.mul (Gf.e0 l i x k) (Gf.mul (x ^^^ Gf.nth l k) (Gf.inv (Gf.nth l i ^^^ Gf.nth l k)))):=rfl
   clear H
   by_cases B:k=i
   ·have h:=E.out
    rw [if_pos B] at h
    have t:Hid (Gf.e0 l i x (k+1)=Gf.e0 l i x k):=h
    have Z:((k:Int) != (i:Int))=false:=by simp;omega
    clear E h B
    go_wp2
    go_roundw
    case rel=>exact ⟨z.out,k+1,by omega,by go_num,by rw [t.out]⟩
    case measure=>simp [intOf];omega
   ·have h:=E.out
    rw [if_neg B] at h
    have t:Hid (Gf.e0 l i x (k+1)=Gf.mul (Gf.e0 l i x k) (Gf.mul (x ^^^ Gf.nth l k) (Gf.inv (Gf.nth l i ^^^ Gf.nth l k)))):=h
    have J:Hid (Gf.nth l i ^^^ Gf.nth l k≠0):=L.out k Q B
    have Z:((k:Int) != (i:Int))=true:=by simp;omega
    clear E h B L
    generalize Gf.e0 l i x k=S at O t ⊢
    generalize Gf.nth l k=c at W A t J
    generalize Gf.nth l i=d at Y I t J
    have T:=Gf.iK K A
    have a0:=Gf.iK I A
    have a4:=u8_xor_nat x c K A
    have a5:=u8_xor_nat d c I A
    have a1:=Gf.cQ (d ^^^ c)
    have hm:=Gf.aV T (Gf.inv (d ^^^ c))
    go_wp2
    go_quiet ((first | (go_at_call 64;exact ae (Jcl (d ^^^ c) _ a0 J.out)) | (go_at_call_of 34 (Value.int IntKind.u8 ((x ^^^ c:Nat):Int));exact ae (nR (x ^^^ c) (Gf.inv (d ^^^ c)) _ T a1)) | (go_at_call_of 34 (Value.int IntKind.u8 ((S:Nat):Int));exact ae (nR S (Gf.mul (x ^^^ c) (Gf.inv (d ^^^ c))) _ O hm))))
    go_wp2
    go_roundw
    case rel =>
     obtain ⟨n,f⟩:=z.out
     exact ⟨⟨n+nq,by rw [f,World.drewN_drewN]⟩,k+1,by omega,by go_num,by rw [t.out]⟩
    case measure=>simp [intOf];omega
  ·have a2:k=l.length:=by omega
   subst a2
   go_wp2
   go_ret
   exact ⟨by simp [U.out],z.out⟩
def kK (k n:Nat):List (List Nat):=(List.range n).map fun i=>Qi k fun j=>Gf.aQ (JB k) j i
theorem R1 (k n:Nat):kK k (n+1)=kK k n ++ [Qi k fun j=>Gf.aQ (JB k) j n]:=by simp [kK,List.range_succ]
theorem r6 (k n:Nat):(kK k n).length=n:=by simp [kK]
theorem sI (k:Nat):(JB k).Nodup:=List.nodup_range
theorem JE (k:Nat):(JB k).length=k:=by simp [JB]
theorem tA (k:Nat) (h:k<=256):Gf.Bytes (JB k):=fun i=>by
 by_cases d:i < k
 ·rw [Gf.aK _ _ (by rw [JE];exact d)];simp [JB];omega
 ·unfold Gf.nth;rw [aj,ak (by rw [JE];omega)];decide
theorem JbT (p:Option aq) (k d j x:Nat) (w:World) (f:x < 256) (t:k<=100) (o:j < k) (s:jU w p (JB k)) :
 ai prog 33 #[.slice p k d,.int .i64 (j:Int),.int .u8 (x:Int)] w fun e w'=>e=.returned (.int .u8 ((Gf.aQ (JB k) j x:Nat):Int))/\∃ n,w'=w.drewN n:=by
 have h:=T1 p (JB k) d j x w f (by rw [JE];omega) (by rw [JE];exact o) (sI k) s
 rw [JE] at h
 exact h
theorem p7 (k r:Nat) (h:r < k):Gf.nth (JB k) r=r:=by
 rw [Gf.aK _ r (by rw [JE];exact h)]
 simp [JB]
theorem IC (k:Nat) (s:k<=256):Lin.dD k k (Ym Gf.bZ):=by
 have h:=R3 (JB k) (tA k s) (sI k)
 rw [JE] at h
 intro c d
 refine h c (fun j f=>?_)
 rw [<- d j f]
 exact Lin.aH fun r o=>by
  show Lin.mu (c r) (Qm (Gf.bZ (Gf.nth (JB k) r) j))=_
  rw [p7 k r o]
  rfl
theorem BD  (h:Lin.dD n n v):Lin.cL n n v n:=⟨v,h,fun _ d=>Lin.aU v d,fun _ d=>Lin.aU v d⟩
theorem nY:∀ i j,Gf.bZ i j < 256:=fun i j=>Gf.dV i j
theorem N4 (n k:Nat) (G:n<=12) (H:k<=n) (x:Nat->Nat->Nat) (B:∀ i j,x i j < 256) (D:∀ i j,i < k->j < k->Lin.mm k (Ym x) (Ym Gf.bZ) i j=Lin.one i j) (i j:Nat) (E:i < n) (h:j < k) :
 jM (XB n k Gf.bZ) (XB k k x) i j k=Gf.aQ (JB k) j i:=by
 refine zA (o8 _ _ (J6 nY) i j k) (Gf.bL _ _ _) ?_
 rw [AF (J6 nY) (J6 B)]
 have o:Lin.aL k (fun t=>Lin.mu (Qk (XB n k Gf.bZ) i t) (Qk (XB k k x) t j))=Lin.mm k (fun i t=>Qm (Gf.bZ i t)) (Ym x) i j:=Lin.aH fun t f=>by rw [uN E f,uN f h];rfl
 rw [o]
 have s:=Lin.cK D
 have y:∀ m,m < k->Qm (Gf.bZ i m)=Lin.mm k (fun i j=>Qm (Gf.aQ (JB k) j i)) (Ym Gf.bZ) i m:=fun m d=>by
  have:=Y6 (JB k) (tA k (by omega)) (sI k) i m (by omega) (by rw [JE];exact d)
  rw [JE] at this
  rw [<- this]
  exact Lin.aH fun t f=>by rw [p7 k t f];rfl
 have z:Lin.mm k (fun i t=>Qm (Gf.bZ i t)) (Ym x) i j=Lin.mm k (Lin.mm k (fun i j=>Qm (Gf.aQ (JB k) j i)) (Ym Gf.bZ)) (Ym x) i j:=Lin.bQ k (fun m d=>y m d) (fun _ _=>rfl)
 rw [z,Lin.cN]
 have A:Lin.mm k (fun i j=>Qm (Gf.aQ (JB k) j i)) (Lin.mm k (Ym Gf.bZ) (Ym x)) i j=Lin.mm k (fun i j=>Qm (Gf.aQ (JB k) j i)) Lin.one i j:=Lin.bQ k (fun _ _=>rfl) (fun m d=>s m j d h)
 rw [A,Lin.fK k _ i j h]
theorem PI (n k:Nat) (y:1<=k) (h:n<=12) (o:k<=n) (x:Nat->Nat->Nat) (s:∀ i j,x i j < 256) (t:∀ i j,i < k->j < k->Lin.mm k (Ym x) (Ym Gf.bZ) i j=Lin.one i j) :
 xW (XB n k Gf.bZ) (XB k k x) n=kK k n:=by
 rw [K1,XD k k x 0 (by omega),Jf,Zs]
 unfold XB kK
 refine am fun i d=>?_
 exact YL k _ _ (fun j f=>N4 n k h o x s t i j (List.mem_range.1 d) f)
theorem Jo4 (n k:Nat) (z:aq) (w:World) (h:1<=k) (J:k<=n) (W:n<=12) (Y:w.cell? ⟨2,0,aa⟩=ab (.iface 136 (.pointer (ab z)))) :
 ai prog 11 #[.int .i64 (n:Int),.int .i64 (k:Int)] w fun e w'=>(∃ f,e=.returned (.tuple #[.slice (ab ⟨f,0,aa⟩) n n,.nilIface])/\QJ w' (ab ⟨f,0,aa⟩) (kK k n))/\za w.heap.size w w':=by
 have K:=K0 n k w h J W
 have A:Hid (w.cell? ⟨2,0,aa⟩=ab (.iface 136 (.pointer (ab z)))):=Y
 clear Y
 go_enter func11,ntmps11
 go_wp2_with fail
 refine K.mono ?_
 rintro e o ⟨⟨f,gs,rfl,B⟩,D⟩
 have L:Hid (QJ o (ab ⟨f,0,aa⟩) (XB n k Gf.bZ)):=B.tU nY n (ag _)
 have M:Hid (QJ o (ab ⟨f,0,aa⟩) (XB k k Gf.bZ)):=B.tU nY k J
 have N:Hid (o.cell? ⟨2,0,aa⟩=ab (.iface 136 (.pointer (ab z)))):=(D.cell (p:=⟨2,0,aa⟩) (Qf A.out)).trans A.out
 have O:Hid (za w.heap.size w o):=D
 clear B D K A
 have s:=FJ (ab ⟨f,0,aa⟩) (XB k k Gf.bZ) n z o (zH h (by omega) h (by omega)) (by rw [XD k k Gf.bZ 0 (by omega),Jf,Zs]) (J6 nY) M.out N.out
 unfold xQ at s
 rw [Zs] at s
 go_wp2_with fail
 refine s.mono ?_
 rintro e E ⟨⟨d,Q,Z⟩,G⟩
 have a0:d=k:=Lin.dY Q (EX (BD (IC k (by omega))) (fun i H j y=>(uN H y).symm))
 rcases Z with ⟨a4,_⟩ | ⟨_,g2,x,rfl,S,T,U⟩
 ·omega
 ·have V:Hid (za w.heap.size w E):=O.out.trans (G.mono O.out.size)
  have a1:w.heap.size<=E.heap.size:=V.out.size
  have I:=RK (ab ⟨f,0,aa⟩) (ab ⟨g2,0,aa⟩) (XB n k Gf.bZ) (XB k k x) n k E (zH (by omega) (by omega) h (by omega)) (zH h (by omega) h (by omega)) (by rw [XD n k Gf.bZ 0 (by omega),Jf,Zs]) (J6 nY) (J6 T) (L.out.below G) S
  rw [Zs,Zs,PI n k h W J x T (fun i j H y=>by
   rw [<- U i j H y]
   exact Lin.bQ k (fun _ _=>rfl) (fun t ht=>(uN ht y).symm))] at I
  clear Q a0 S U G s M L N
  go_wp2_with fail
  refine I.mono ?_
  rintro e w3 ⟨⟨g3,rfl,a2⟩,a3⟩
  clear I
  go_wp2
  go_ret2
  exact ⟨⟨g3,rfl,a2⟩,V.out.trans (a3.mono a1)⟩
theorem U1 (n k:Int) (z:aq) (w:World) (h:¬ (1<=k/\k<=n/\n<=12)) (d:w.cell? ⟨0,0,aa⟩=ab (.iface 136 (.pointer (ab z)))) :
 ai prog 11 #[.int .i64 n,.int .i64 k] w fun e w'=>e=.returned (.tuple #[.slice aa 0 0,.iface 136 (.pointer (ab z))])/\za w.heap.size w w':=by
 have f:=JbI n k z w h d
 clear h d
 go_enter func11,ntmps11
 go_wp2_with fail
 refine f.mono ?_
 rintro e o ⟨rfl,j⟩
 go_wp2
 go_ret2
 exact ⟨rfl,j⟩
def Jk (k size:Nat):Nat:=(size+(k - 1)) / k
theorem RS (d:1<=k) (h:i*k < size):i < Jk k size:=by
 unfold Jk
 rw [Nat.lt_iff_add_one_le,Nat.le_div_iff_mul_le (by omega),aB]
 omega
theorem xL (d:1<=k) (h:¬ i*k < size):Jk k size<=i:=by
 unfold Jk
 rw [<- Nat.lt_add_one_iff,Nat.div_lt_iff_lt_mul (by omega),aB]
 omega
theorem xR (d:1<=k):Jk k size<=size:=xL d (by
 have:size*1<=size*k:=Nat.mul_le_mul_left size d
 omega)
theorem JbX (k size:Nat) (w:World) (f:1<=k) (s:k<=1000) (B:size<=1000000) :
 ai prog 45 #[.int .i64 (k:Int),.int .i64 (size:Int)] w fun e w'=>e=.returned (.int .i64 ((Jk k size:Nat):Int))/\w'=w:=by
 have t:=xR (size:=size) f
 go_enter func45,ntmps45
 go_wp2
 go_loop [5] (fun x=>∃ i:Nat,i<=Jk k size/\x=.int .i64 i) (fun x=>Jk k size - (intOf x).toNat)
 case atStart=>exact ⟨0,Nat.zero_le _,rfl⟩
 case round =>
  obtain ⟨i,y,rfl⟩:=hrel
  have h:i*k<=1000000*1000:=au (by omega) s
  have z:(0:Int)<=(i:Int)*(k:Int):=by rw [<- al];omega
  have A:(i:Int)*(k:Int)<=1000000000:=by rw [<- al];omega
  by_cases d:i*k < size
  ·have j:=RS f d
   have o:(i:Int)*(k:Int) < (size:Int):=by rw [<- al];omega
   clear d h
   go_wp2
   go_round
   case rel=>exact ⟨i+1,by omega,by go_num⟩
   case measure=>simp [intOf];omega
  ·have j:=xL f d
   have o:¬ (i:Int)*(k:Int) < (size:Int):=by rw [<- al];omega
   obtain rfl:i=Jk k size:=by omega
   clear d h
   go_wp2
   go_ret
   exact ⟨rfl,rfl⟩
def Zj (s:ByteArray):List Nat:=s.data.toList.map UInt8.toNat
theorem xK (s:ByteArray):Gf.Bytes (Zj s):=fun i=>by
 by_cases d:i < (Zj s).length
 ·rw [Gf.aK _ i d]
  simp only [Zj,av]
  exact UInt8.toNat_lt _
 ·show (Zj s).getD i 0 < 256
  rw [aj,ak (by omega)]
  decide
theorem uD (s:ByteArray) (i:Nat) (h:i < s.size):Gf.nth (Zj s) i=(s[i]'h).toNat:=by
 rw [Gf.aK _ i (by simpa [Zj] using h)]
 simp only [Zj,av]
 rfl
theorem tZ (s:ByteArray):(Zj s).length=s.size:=by simp [Zj]
theorem W3 (h:Gf.Bytes l) {x:Nat} (f:x ∈ l):x < 256:=by
 obtain ⟨i,d,rfl⟩:=List.getElem_of_mem f
 have:=h i
 rwa [Gf.aK l i d] at this
theorem FK (h:Gf.Bytes l):Zj (Jp l)=l:=by
 unfold Zj Jp
 rw [strOfNums_data,ao,ao]
 conv=>rhs;rw [<- aC l]
 refine am fun x d=>?_
 have:=W3 h d
 simp only [Function.comp]
 show (UInt8.ofNat x).toNat=x
 simp only [UInt8.toNat_ofNat']
 omega
theorem CX (s:ByteArray):Jp (Zj s)=s:=by
 unfold Zj Jp strOfNums
 rw [ao,ao]
 have:(List.map (((fun n:Int=>UInt8.ofNat n.toNat) ∘ Int.ofNat) ∘ UInt8.toNat) s.data.toList)=s.data.toList:=by
  conv=>rhs;rw [<- aC s.data.toList]
  refine am fun x _=>?_
  show UInt8.ofNat x.toNat=x
  exact UInt8.ofNat_toNat
 rw [this]
theorem xG (l:List Nat):(Jp l).size=l.length:=by
 unfold Jp
 rw [strOfNums_size,List.length_map]
theorem EP (s:ByteArray) (i:Nat) (h:i < s.size) (W:World):Sem.run prog (Instr.index 9 (.string s) (.int .i64 (i:Int))) W=.ok (.int .u8 ((Gf.nth (Zj s) i:Nat):Int)) W:=by
 rw [run_index_string W 9 s .i64 _ underlying9,dif_pos ⟨by omega,by omega⟩,uD s i h]
 congr 3
theorem BO {m:List Nat} (j:l.length=m.length) (h:∀ i,i < l.length->Gf.nth l i=Gf.nth m i):l=m:=by
 refine List.ext_getElem j fun i d f=>?_
 rw [<- Gf.aK l i d,<- Gf.aK m i f]
 exact h i d
theorem F0  (h:l.length<=i):Gf.nth l i=0:=by
 show l.getD i 0=0
 rw [aj,ak h]
 rfl
end Go.Proofs.YtaaahibncffcmaaDoor
