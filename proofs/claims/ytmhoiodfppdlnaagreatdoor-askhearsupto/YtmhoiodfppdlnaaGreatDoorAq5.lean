import Derived.Test.YtmhoiodfppdlnaaGreatDoorAq4
import Derived.StillTailTactics
import Derived.Test.YtmhoiodfppdlnaaGreatDoorAq3
import Derived.Test.YtmhoiodfppdlnaaGreatDoorAq0
import Derived.Laws.RangeAny
import Derived.ProofKit
import Derived.OpenShut
import Derived.ChangeOld
import Derived.Deep.SlicePairs
import Derived.Lib.SmallJoins
import Derived.Sort.Grow
import Derived.BigQuiet
import Derived.Deep.Heap
set_option maxRecDepth 100000
set_option maxHeartbeats 8000000
namespace Go.Proofs.YtmhoiodfppdlnaaGreatDoor
open Go.RowKit
theorem rspread_any (n k:Nat)(w:World)(hn:n<=100)(hk1:1<=k)(hk:k<=100) :
 Calls Tryz.prog 90 #[.int .i64 (n:Int),.int .i64 (k:Int)] w fun e w'=>(∃ p' c',e=.returned (.slice p' n c')/\Mat w' p' (spreadM k n))/\Below w.heap.size w w':=by
 obtain⟨i1,hi1,hy0,hy1,hy2⟩:=info_parts rowinfo
 obtain⟨i0,hi0,hz0,hz1,hzb⟩:=info_parts u8info
 go_enter Tryz.func90,Tryz.ntmps90
 go_wp2_with fail
 refine(upTo_any k _ hk).mono ?_
 rintro e w2 ⟨⟨vx,rfl,hox⟩,hb2⟩
 obtain⟨px,cx,hvx,hsx⟩:=hox.seg (upToL_bytes k (by omega))
 rw [upToL_length] at hvx
 subst hvx
 have HSX:Hid (Seg w2 px (upToL k)):=hsx
 have HB2:Hid (Below w.heap.size w w2):=hb2
 have hzw:w.heap.size<=w2.heap.size:=hb2.size
 clear hox hsx hb2
 go_wp2
 go_loopw [6,7] (fun v x wr=>∃ i:Nat,i<=n/\x=.int .i64 i/\OwnMat w2.heap.size wr 138 v (spreadM k i)/\Below w2.heap.size w2 wr) (fun _ x _=>n - (intOf x).toNat)
 case atStart=>exact⟨0,by omega,rfl,OwnMat.nil _ _ _,Below.refl _ _⟩
 case round =>
  obtain⟨i,hi,rfl,hO,hBr⟩:=hrel
  have HO:Hid (OwnMat w2.heap.size wr 138 u6 (spreadM k i)):=hO
  have HBr:Hid (Below w2.heap.size w2 wr):=hBr
  have hz2:w2.heap.size<=wr.heap.size:=hBr.size
  clear hO hBr
  by_cases hil:i < n
  ·go_wp2_with (first | (at_make;refine wpList_make_row _ rfl (.tmp 17) (.tmp 17) 138 rfl 5 i0 (byteV 0) Tryz.underlying138 hi0 hz0 hz1 rfl .i64 .i64 k rfl rfl (by rw [hzb];omega) (by omega) ?_))
   obtain⟨w3,rfl⟩:∃ w3,w3=wr:=⟨_,rfl⟩
   have hmk:OwnN (w3.alloc (.cells (madeCells #[byteV 0] k) 5)) w3.heap.size 5 w3.heap.size k (rowFn k (fun c=>if c < 0 then Gf.shareOf (upToL k) c i else 0)):=by
    have:=OwnN.made w3 w3.heap.size 5 k (Nat.le_refl _) (by omega)
    rw [rowFn_congr k _ (fun c=>if c < 0 then Gf.shareOf (upToL k) c i else 0) (fun c _=>by rw [if_neg (Nat.not_lt_zero _)])] at this
    exact this
   have hbk:Below w3.heap.size w3 (w3.alloc (.cells (madeCells #[byteV 0] k) 5)):=(Below.refl _ _).alloc (Nat.le_refl _) _
   generalize w3.alloc (.cells (madeCells #[byteV 0] k) 5)=w4 at hmk hbk ⊢
   have HMK:Hid (OwnN w4 w3.heap.size 5 w3.heap.size k (rowFn k (fun c=>if c < 0 then Gf.shareOf (upToL k) c i else 0))):=hmk
   have HBK:Hid (Below w3.heap.size w3 w4):=hbk
   clear hmk hbk
   go_loopw [9] (fun x wq=>∃ j:Nat,j<=k/\x=.int .i64 j/\OwnN wq w3.heap.size 5 w3.heap.size k (rowFn k (fun c=>if c < j then Gf.shareOf (upToL k) c i else 0))/\Below w3.heap.size w3 wq) (fun x _=>k - (intOf x).toNat)
   case atStart=>exact⟨0,by omega,rfl,HMK.out,HBK.out⟩
   case round =>
    obtain⟨j,hj,rfl,hON,hBq⟩:=hrel
    obtain⟨w5,rfl⟩:∃ w5,w5=wr:=⟨_,rfl⟩
    have HON:Hid (OwnN w5 w3.heap.size 5 w3.heap.size k (rowFn k (fun c=>if c < j then Gf.shareOf (upToL k) c i else 0))):=hON
    have HBq:Hid (Below w3.heap.size w3 w5):=hBq
    have hz5:w3.heap.size<=w5.heap.size:=hBq.size
    clear hON hBq HMK HBK
    by_cases hjl:j < k
    ·have HS5:Hid (Seg w5 px (upToL k)):=(HSX.out.below HBr.out).below HBq.out
     go_wp2_with fail
     refine(basis_told px k cx j i _ (by omega) hk hjl HS5.out).mono ?_
     rintro e w6 ⟨rfl,m,hw6⟩
     have HO6:Hid (OwnN w6 w3.heap.size 5 w3.heap.size k (rowFn k (fun c=>if c < j then Gf.shareOf (upToL k) c i else 0))):=by rw [hw6];exact HON.out.drewN m
     have HB6:Hid (Below w3.heap.size w3 w6):=by rw [hw6];exact below_drewN HBq.out m
     have q5:w6.cell? ⟨w3.heap.size,j,none⟩=some (.int .u8 ((0:Nat):Int)):=by rw [HO6.out.cell j hjl (rowFn_length _ _),nth_rowFn _ _ j hjl,if_neg (Nat.lt_irrefl _)]
     have q6:w6.frozen? ⟨w3.heap.size,j,none⟩=false:=HO6.out.free j
     have HT:Hid (OwnN (w6.setCell ⟨w3.heap.size,j,none⟩ (.int .u8 ((Gf.shareOf (upToL k) j i:Nat):Int))) w3.heap.size 5 w3.heap.size k (rowFn k (fun c=>if c < j+1 then Gf.shareOf (upToL k) c i else 0))):=by
      have:=HO6.out.set j (Gf.shareOf (upToL k) j i)
      rw [rowFn_congr k (fun c=>if c < j+1 then Gf.shareOf (upToL k) c i else 0) (fun c=>if c=j then Gf.shareOf (upToL k) j i else if c < j then Gf.shareOf (upToL k) c i else 0) (fun c _=>by
       by_cases e:c=j
       ·subst e;rw [if_pos (by omega),if_pos rfl]
       ·rw [if_neg e]
        by_cases e':c < j
        ·rw [if_pos (by omega),if_pos e']
        ·rw [if_neg (by omega),if_neg e'])]
      exact this
     clear hw6 HON HBq HS5 HO6
     generalize Gf.shareOf (upToL k) j i=sh at HT ⊢
     go_wp2
     go_roundw
     case rel=>exact⟨j+1,by omega,by go_num,HT.out,HB6.out.setCell (Nat.le_refl _) _⟩
     case measure=>simp [intOf];omega
    ·have hje:j=k:=by omega
     subst hje
     obtain⟨vs,hmv⟩:=HO.out
     have HMV:Hid (OwnMatV w2.heap.size w3 138 u6 vs (spreadM j i)):=hmv
     have HV:Hid (OwnV w3 w2.heap.size 138 u6 vs):=hmv.1
     have HVL:Hid (vs.length=i):=hmv.2.1.trans (spreadM_length j i)
     have hr:Hid (Own w5 w3.heap.size 5 (.slice (some ⟨w3.heap.size,0,none⟩) j j) (rowFn j fun c=>Gf.shareOf (upToL j) c i)):=by
      refine OwnN.own ?_ (rowFn_length _ _)
      rw [rowFn_congr j _ (fun c=>if c < j then Gf.shareOf (upToL j) c i else 0) (fun c hc=>by rw [if_pos hc])]
      exact HON.out
     clear hmv HON
     go_wp2_with (first | (at_builtin;refine wpList_append_val rfl (.tmp 32) (.tmp 34) 162 rfl w2.heap.size 138 i1 (.slice none 0 0) 24 Tryz.underlying162 hi1 hy0 rfl hy1 hy2 (by decide) u6 vs rfl (((HV.out.kept (row:=none) ⟨HBq.out.os,HBq.out.tape,HBq.out.output,HBq.out.size,fun k hk _=>HBq.out.block k hk⟩ (by cases hv:u6.ownBlock <;> simp))).kept (World.grownBy_alloc w5 _ none) (by cases hv:u6.ownBlock <;> simp)) ⟨w5.heap.size,0,none⟩ 1 (.slice (some ⟨w3.heap.size,0,none⟩) j j) rfl rfl (by simp) (by have:=HVL.out;omega) (by simp;omega) ?_;intro v' w8 hV' hg' hw'))
     have hmv3:=HMV.out.snoc hz2 hr.out (rowFn_bytes _ _ fun c=>Gf.shareOf_lt _ c _) HBq.out hV' hg' hw'
     have hb8:Below w2.heap.size w2 w8:=((HBr.out.trans (HBq.out.mono hz2)).alloc (by omega) _).grown hg' (by simp;omega) (fun k' hk'=>(HV.out.block hk').1)
     go_roundw
     case rel=>exact⟨i+1,by omega,by go_num,⟨_,by rw [spreadM_succ];exact hmv3⟩,hb8⟩
     case measure=>simp [intOf];omega
  ·have hie:i=n:=by omega
   subst hie
   obtain⟨p',c',hv,hmat⟩:=HO.out.mat
   rw [spreadM_length] at hv
   subst hv
   clear HO
   go_wp2
   go_ret
   exact⟨⟨p',c',rfl,hmat⟩,HB2.out.trans (HBr.out.mono hzw)⟩
theorem sign_any (r:Nat)(W:World):Calls Tryz.prog 104 #[.int .i32 (r:Int)] W fun e w'=>e=.returned (.bool (!letterB r))/\w'=W:=by
 have key:∀ b,letterB r=b->Hid ((!letterB r)=(!b)):=fun b h=>by show _=_;rw [h]
 rcases(show(97<=r/\r<=122)∨(48<=r/\r<=57)∨r=45∨122 < r∨(57 < r/\r < 97)∨(r < 48/\r≠45) by omega) with hc | hc | hc | hc | hc | hc
 ·have HL:=key true (by simp [letterB,hc])
  obtain⟨hc1,hc2⟩:=hc
  have d1:decide ((r:Int) < 97)=false:=decide_eq_false (by omega)
  have d2:decide (122 < (r:Int))=false:=decide_eq_false (by omega)
  rw [HL.out]
  clear key
  go_enter Tryz.func104,Tryz.ntmps104
  go_wp2
  go_ret
  exact⟨rfl,rfl⟩
 ·have HL:=key true (by simp [letterB,hc])
  obtain⟨hc1,hc2⟩:=hc
  have d1:decide ((r:Int) < 97)=true:=decide_eq_true (by omega)
  have d3:decide ((r:Int) < 48)=false:=decide_eq_false (by omega)
  have d4:decide (57 < (r:Int))=false:=decide_eq_false (by omega)
  rw [HL.out]
  clear key
  go_enter Tryz.func104,Tryz.ntmps104
  go_wp2
  go_ret
  exact⟨rfl,rfl⟩
 ·have HL:=key true (by simp [letterB,hc])
  subst hc
  rw [HL.out]
  clear key
  go_enter Tryz.func104,Tryz.ntmps104
  go_wp2
  go_ret
  exact⟨rfl,rfl⟩
 ·have HL:=key false (by unfold letterB;rw [decide_eq_false (by omega),decide_eq_false (by omega),decide_eq_false (by omega)];rfl)
  have d1:decide ((r:Int) < 97)=false:=decide_eq_false (by omega)
  have d2:decide (122 < (r:Int))=true:=decide_eq_true (by omega)
  have d3:decide ((r:Int) < 48)=false:=decide_eq_false (by omega)
  have d4:decide (57 < (r:Int))=true:=decide_eq_true (by omega)
  have d5:((r:Int) != 45)=true:=by rw [bne_iff_ne];omega
  have d6:((r:Int)==45)=false:=by rw [beq_eq_false_iff_ne];omega
  rw [HL.out]
  clear key
  go_enter Tryz.func104,Tryz.ntmps104
  go_wp2
  go_ret
  exact⟨rfl,rfl⟩
 ·have HL:=key false (by unfold letterB;rw [decide_eq_false (by omega),decide_eq_false (by omega),decide_eq_false (by omega)];rfl)
  obtain⟨hc1,hc2⟩:=hc
  have d1:decide ((r:Int) < 97)=true:=decide_eq_true (by omega)
  have d3:decide ((r:Int) < 48)=false:=decide_eq_false (by omega)
  have d4:decide (57 < (r:Int))=true:=decide_eq_true (by omega)
  have d5:((r:Int) != 45)=true:=by rw [bne_iff_ne];omega
  have d6:((r:Int)==45)=false:=by rw [beq_eq_false_iff_ne];omega
  rw [HL.out]
  clear key
  go_enter Tryz.func104,Tryz.ntmps104
  go_wp2
  go_ret
  exact⟨rfl,rfl⟩
 ·have HL:=key false (by unfold letterB;rw [decide_eq_false (by omega),decide_eq_false (by omega),decide_eq_false (by omega)];rfl)
  obtain⟨hc1,hc2⟩:=hc
  have d1:decide ((r:Int) < 97)=true:=decide_eq_true (by omega)
  have d3:decide ((r:Int) < 48)=true:=decide_eq_true (by omega)
  have d5:((r:Int) != 45)=true:=by rw [bne_iff_ne];omega
  have d6:((r:Int)==45)=false:=by rw [beq_eq_false_iff_ne];omega
  rw [HL.out]
  clear key
  go_enter Tryz.func104,Tryz.ntmps104
  go_wp2
  go_ret
  exact⟨rfl,rfl⟩
theorem idxFrom (s:ByteArray):∀ (f i:Nat),s.size<=i+f->(decide (0<=Lib.idxFuncFrom (fun r=>!letterB r) true s f i)=true↔∃ j,i<=j/\j < s.size/\letterB (Gf.nth (bytesOf s) j)=false)
 | 0,i,h=>by
  constructor
  ·intro h1
   have h2:decide ((0:Int)<=-1)=true:=h1
   cases h2
  ·rintro⟨j,h1,h2,_⟩
   omega
 | f+1,i,h=>by
  show decide (0<=(if i < s.size then (if (!letterB (Utf8.decode s i).1)=true then (i:Int) else Lib.idxFuncFrom (fun r=>!letterB r) true s f (i+(Utf8.decode s i).2)) else -1))=true↔_
  by_cases hi:i < s.size
  ·rw [if_pos hi]
   by_cases ha:(s[i]'hi).toNat < 128
   ·rw [decode_ascii s i hi ha,<- bytesOf_nth s i hi]
    have ih:=idxFrom s f (i+1) (by omega)
    cases hl:letterB (Gf.nth (bytesOf s) i) with
    | false =>
     rw [if_pos (by rfl)]
     exact⟨fun _=>⟨i,Nat.le_refl _,hi,hl⟩,fun _=>decide_eq_true (by omega)⟩
    | true =>
     rw [if_neg (by simp),ih]
     constructor
     ·rintro⟨j,h1,h2,h3⟩
      exact⟨j,by omega,h2,h3⟩
     ·rintro⟨j,h1,h2,h3⟩
      refine⟨j,?_,h2,h3⟩
      by_cases e:j=i
      ·rw [e,hl] at h3;cases h3
      ·omega
   ·have h1:=(decode_high s i hi (by omega)).1
    have hl:letterB (Utf8.decode s i).1=false:=by
     unfold letterB
     rw [decide_eq_false (by omega),decide_eq_false (by omega),decide_eq_false (by omega)]
     rfl
    have hl2:letterB (Gf.nth (bytesOf s) i)=false:=by
     rw [bytesOf_nth s i hi]
     unfold letterB
     rw [decide_eq_false (by omega),decide_eq_false (by omega),decide_eq_false (by omega)]
     rfl
    rw [hl,if_pos (by rfl)]
    exact⟨fun _=>⟨i,Nat.le_refl _,hi,hl2⟩,fun _=>decide_eq_true (by omega)⟩
  ·rw [if_neg hi]
   constructor
   ·intro h1
    cases h1
   ·rintro⟨j,h1,h2,_⟩
    omega
theorem idxOf (s:ByteArray):decide (0<=Lib.idxFunc (fun r=>!letterB r) true s)=!((bytesOf s).all letterB):=by
 have h:=idxFrom s s.size 0 (by omega)
 cases ha:(bytesOf s).all letterB with
 | true =>
  rw [show(!true)=false from rfl,Bool.eq_false_iff]
  intro h1
  obtain⟨j,_,hj,h3⟩:=h.1 h1
  have hj':j < (bytesOf s).length:=by rw [bytesOf_length];exact hj
  rw [List.all_eq_true] at ha
  have:=ha (Gf.nth (bytesOf s) j) (by rw [Gf.nth_getElem _ j hj'];exact List.getElem_mem hj')
  rw [h3] at this
  cases this
 | false =>
  obtain⟨x,hx,hne⟩:=List.all_eq_false.1 ha
  obtain⟨j,hj,rfl⟩:=List.getElem_of_mem hx
  refine h.2 ⟨j,Nat.zero_le _,by rw [bytesOf_length] at hj;exact hj,?_⟩
  rw [Gf.nth_getElem _ j hj]
  exact Bool.eq_false_iff.2 hne
theorem pname_any (s:ByteArray)(w:World):Calls Tryz.prog 74 #[.string s] w fun e w'=>e=.returned (.bool (isN s))/\Below w.heap.size w w':=by
 by_cases h1:s.size < 1
 ·have HE:Hid (isN s=false):=isN_len (by omega)
  have d1:decide (1<=(s.size:Int))=false:=decide_eq_false (by omega)
  rw [HE.out]
  go_enter Tryz.func74,Tryz.ntmps74
  go_wp2
  go_ret
  exact⟨rfl,Below.refl _ _⟩
 have d1:decide (1<=(s.size:Int))=true:=decide_eq_true (by omega)
 by_cases h2:16 < s.size
 ·have HE:Hid (isN s=false):=isN_len (by omega)
  have d2:decide ((s.size:Int)<=16)=false:=decide_eq_false (by omega)
  rw [HE.out]
  go_enter Tryz.func74,Tryz.ntmps74
  go_wp2
  go_ret
  exact⟨rfl,Below.refl _ _⟩
 have d2:decide ((s.size:Int)<=16)=true:=decide_eq_true (by omega)
 have HC:=Tryz.strings_ContainsFunc 104 #[] (enters_of Tryz.func104 (by kernel_rfl) rfl) (fun r=>!letterB r) s w (fun W r _=>by
  unfold FnGives
  exact(sign_any r W).mono fun _ _ ⟨he,hw⟩=>⟨he,0,hw⟩)
 rw [idxOf] at HC
 have HE:Hid (isN s=(bytesOf s).all letterB):=by show _=_;unfold isN;rw [decide_eq_true ⟨by omega,by omega⟩,Bool.true_and]
 rw [HE.out]
 generalize (bytesOf s).all letterB=r at *
 clear HE
 go_enter Tryz.func74,Tryz.ntmps74
 go_wp2_with fail
 refine HC.mono ?_
 rintro e w1 ⟨rfl,hb1⟩
 clear HC
 cases r with
 | true =>
  go_wp2
  go_ret
  exact⟨rfl,hb1⟩
 | false =>
  go_wp2
  go_ret
  exact⟨rfl,hb1⟩
theorem errIs_fault {w w':World}{ad:Nat->Addr}{t:TypeId}(i:Nat)(hi:i < 12)(at_:Int)(hw:w'=w.alloc (.cells #[.int .i64 at_,.iface 252 (.pointer (some (ad i)))] t)):ErrIs w' ad (.iface 112 (.pointer (some ⟨w.heap.size,0,none⟩))) ((i+1:Nat):Int) at_:=by
 subst hw
 refine Or.inr (Or.inr ⟨i,w.heap.size,hi,rfl,rfl,?_,?_⟩)
 ·rw [World.cell?_alloc_at _ _ _ _ rfl];rfl
 ·rw [World.cell?_alloc_at _ _ _ _ rfl];rfl
theorem check_bound (ad:Nat->Addr)(p:Option Addr)(l:List ByteArray)(c:Nat)(w:World)(hl:l.length<=1000)(hE:ErrsQ w ad)(h:l.length < 1∨16 < l.length) :
 Calls Tryz.prog 102 #[.slice p l.length c] w fun e w'=>(∃ ev,e=.returned ev/\ErrIs w' ad ev 2 (-1))/\Below w.heap.size w w':=by
 have q1:=hE.c1
 have HI:Hid (∀ W,ErrIs W ad (.iface 252 (.pointer (some (ad 1)))) 2 (-1)):=fun W=>ErrIs.sent 1 (by decide)
 clear hE
 rcases h with h | h
 ·have d1:decide ((l.length:Int) < 1)=true:=decide_eq_true (by omega)
  go_enter Tryz.func102,Tryz.ntmps102
  go_wp2
  go_ret
  exact⟨⟨_,rfl,HI.out _⟩,Below.refl _ _⟩
 ·have d1:decide ((l.length:Int) < 1)=false:=decide_eq_false (by omega)
  have d2:decide (16 < (l.length:Int))=true:=decide_eq_true (by omega)
  go_enter Tryz.func102,Tryz.ntmps102
  go_wp2
  go_ret
  exact⟨⟨_,rfl,HI.out _⟩,Below.refl _ _⟩
theorem check_scan (ad:Nat->Addr)(p:Option Addr)(l:List ByteArray)(c:Nat)(w:World)(h1:¬ l.length < 1)(h2:¬ 16 < l.length)(hc:l.length<=c)(hs:Strs w p l)(hE:ErrsQ w ad) :
 Calls Tryz.prog 102 #[.slice p l.length c] w fun e w'=>(∃ ev,e=.returned ev/\ErrIs w' ad ev (scanF l 0 l.length).1 (scanF l 0 l.length).2)/\Below w.heap.size w w':=by
 have HS:Hid (Strs w p l):=hs
 have HE:Hid (ErrsQ w ad):=hE
 have g1:decide ((l.length:Int) < 1)=false:=decide_eq_false (by omega)
 have g2:decide (16 < (l.length:Int))=false:=decide_eq_false (by omega)
 obtain⟨b,o,rfl⟩:∃ b o,p=some ⟨b,o,none⟩:=by
  rcases hs with h0 | ⟨b,o,hp,_⟩
  ·rw [h0] at h1;exact absurd (by decide) h1
  ·exact⟨b,o,hp⟩
 clear hs hE
 obtain⟨R,hR⟩:∃ R,R=scanF l 0 l.length:=⟨_,rfl⟩
 rw [<- hR]
 have HR:Hid (R=scanF l 0 l.length):=hR
 clear hR
 go_enter Tryz.func102,Tryz.ntmps102
 go_wp2
 go_loopw [16] (fun x wq=>∃ i:Nat,i<=l.length/\x=.int .i64 i/\scanF l i (l.length - i)=R/\Below w.heap.size w wq) (fun x _=>l.length - (intOf x).toNat)
 case atStart=>exact⟨0,Nat.zero_le _,rfl,HR.out.symm,Below.refl _ _⟩
 case round =>
  obtain⟨i,hi,rfl,hsc,hbq⟩:=hrel
  obtain⟨w1,rfl⟩:∃ w1,w1=wr:=⟨_,rfl⟩
  have HSC:Hid (scanF l i (l.length - i)=R):=hsc
  have HBW:Hid (Below w.heap.size w w1):=hbq
  have HS1:Hid (Strs w1 (some ⟨b,o,none⟩) l):=HS.out.below hbq
  have HE1:Hid (ErrsQ w1 ad):=HE.out.below hbq
  clear hsc hbq HR HS HE
  by_cases hil:i < l.length
  ·have q3 : w1.cell? ⟨b, o + i, none⟩ = some (.string (txt l i)) := by
    rcases HS1.out with h0 | ⟨b',o',hp,_,hcell⟩
    ·rw [h0] at hil;exact absurd hil (Nat.not_lt_zero _)
    ·obtain⟨rfl,rfl⟩:b=b'/\o=o':=by simpa using hp
     exact hcell i hil
   have HNAME:Hid (∀ W,Calls Tryz.prog 74 #[.string (txt l i)] W fun e w'=>e=.returned (.bool (isN (txt l i)))/\Below W.heap.size W w'):=fun W=>pname_any _ W
   have HSUC:Hid (scanF l i (l.length - i)=if faultAt l i=0 then scanF l (i+1) (l.length - (i+1)) else (((faultAt l i:Nat):Int),(i:Int))):=by
    show _=_
    rw [show l.length - i=(l.length - (i+1))+1 by omega]
    rfl
   by_cases hN:isN (txt l i)=true
   ·have HCON:Hid (∀ W,Strs W (some ⟨b,o,none⟩) (l.take i)->Calls Tryz.prog 92 #[.slice (some ⟨b,o,none⟩) (l.take i).length c,.string (txt l i)] W fun e w'=>e=.returned (.bool (inL (l.take i) (txt l i)))/\w'=W):=fun W hW=>scont_any _ _ c _ W (by rw [List.length_take];omega) hW
    rw [show(l.take i).length=i by rw [List.length_take];omega] at HCON
    rw [hN] at HNAME
    by_cases hM:txt l i ∈ l.take i
    ·have HA : Hid (R = (6, (i : Int))) := by
      show _=_
      rw [<- HSC.out,HSUC.out,faultAt_twice hN hM,if_neg (by decide)]
      rfl
     rw [inL_iff.2 hM] at HCON
     clear HSC HSUC hN hM
     generalize txt l i=t at *
     go_wp2_with fail
     refine(HNAME.out _).mono ?_
     rintro e w2 ⟨rfl,hb2⟩
     have HB2:Hid (Below w.heap.size w w2):=HBW.out.trans (hb2.mono HBW.out.size)
     have HS2:Hid (Strs w2 (some ⟨b,o,none⟩) (l.take i)):=(HS1.out.below hb2).take i
     have hE2:ErrsQ w2 ad:=HE1.out.below hb2
     have q4:=hE2.c5
     clear hE2 hb2 HNAME q3
     go_wp2_with fail
     refine(HCON.out _ HS2.out).mono ?_
     rintro e w3 ⟨rfl,hw3⟩
     rw [hw3]
     clear hw3 w3 HCON HS2
     go_wp2
     go_ret
     exact⟨⟨_,rfl,by rw [HA.out];exact errIs_fault (w:=w2) 5 (by decide) (i:Int) rfl⟩,HB2.out.alloc HB2.out.size _⟩
    ·have HA : Hid (scanF l (i + 1) (l.length - (i + 1)) = R) := by
      show _=_
      rw [<- HSC.out,HSUC.out,faultAt_fine hN hM,if_pos rfl]
     rw [Bool.eq_false_iff.2 (fun h=>hM (inL_iff.1 h))] at HCON
     clear HSC HSUC hN hM
     generalize txt l i=t at *
     go_wp2_with fail
     refine(HNAME.out _).mono ?_
     rintro e w2 ⟨rfl,hb2⟩
     have HB2:Hid (Below w.heap.size w w2):=HBW.out.trans (hb2.mono HBW.out.size)
     have HS2:Hid (Strs w2 (some ⟨b,o,none⟩) (l.take i)):=(HS1.out.below hb2).take i
     clear hb2 HNAME q3
     go_wp2_with fail
     refine(HCON.out _ HS2.out).mono ?_
     rintro e w3 ⟨rfl,hw3⟩
     rw [hw3]
     clear hw3 w3 HCON HS2
     go_wp2
     go_roundw
     case rel=>exact⟨i+1,by omega,by go_num,HA.out,HB2.out⟩
     case measure=>simp [intOf];omega
   ·have hN':isN (txt l i)=false:=Bool.eq_false_iff.2 hN
    have HA:Hid (R=(4,(i:Int))):=by
     show _=_
     rw [<- HSC.out,HSUC.out,faultAt_name hN',if_neg (by decide)]
     rfl
    rw [hN'] at HNAME
    clear HSC HSUC hN hN'
    generalize txt l i=t at *
    go_wp2_with fail
    refine(HNAME.out _).mono ?_
    rintro e w2 ⟨rfl,hb2⟩
    have HB2:Hid (Below w.heap.size w w2):=HBW.out.trans (hb2.mono HBW.out.size)
    have hE2:ErrsQ w2 ad:=HE1.out.below hb2
    have q4:=hE2.c3
    clear hE2 hb2 HNAME q3
    go_wp2
    go_ret
    exact⟨⟨_,rfl,by rw [HA.out];exact errIs_fault (w:=w2) 3 (by decide) (i:Int) rfl⟩,HB2.out.alloc HB2.out.size _⟩
  ·have hie:i=l.length:=by omega
   subst hie
   have HA:Hid (R=(0,-1)):=by
    show _=_
    rw [<- HSC.out,Nat.sub_self]
    rfl
   clear HSC
   go_wp2
   go_ret
   exact⟨⟨_,rfl,by rw [HA.out];exact ErrIs.nil _ _⟩,HBW.out⟩
theorem check_any (ad:Nat->Addr)(p:Option Addr)(l:List ByteArray)(c:Nat)(w:World)(hl:l.length<=1000)(hc:l.length<=c)(hs:Strs w p l)(hE:ErrsQ w ad) :
 Calls Tryz.prog 102 #[.slice p l.length c] w fun e w'=>(∃ ev,e=.returned ev/\ErrIs w' ad ev (nodesF l).1 (nodesF l).2)/\Below w.heap.size w w':=by
 by_cases h:l.length < 1∨16 < l.length
 ·rw [nodesF_bound h]
  exact check_bound ad p l c w hl hE h
 ·rw [nodesF_scan (by omega) (by omega)]
  exact check_scan ad p l c w (by omega) (by omega) hc hs hE
structure CfgBox (w:World) (b:Nat) (c:Cfg) (lv:Value):Prop where
 f0:w.cell? ⟨b,0,none⟩=some (.int .i64 c.n)
 f1:w.cell? ⟨b,1,none⟩=some (.int .i64 c.k)
 f2:w.cell? ⟨b,2,none⟩=some lv
theorem CfgBox.below {w w':World}{b:Nat}{c:Cfg}{lv:Value}(h:CfgBox w b c lv)(hb:Below w.heap.size w w'):CfgBox w' b c lv :=
 ⟨(hb.cell (lt_of_cellE h.f0)).trans h.f0,(hb.cell (lt_of_cellE h.f0)).trans h.f1,(hb.cell (lt_of_cellE h.f0)).trans h.f2⟩
theorem cfgBox_made (w:World)(c:Cfg)(lv:Value)(t:TypeId):CfgBox (w.alloc (.cells #[.int .i64 c.n,.int .i64 c.k,lv] t)) w.heap.size c lv :=
 ⟨by rw [World.cell?_alloc_at _ _ _ _ rfl];rfl,by rw [World.cell?_alloc_at _ _ _ _ rfl];rfl,by rw [World.cell?_alloc_at _ _ _ _ rfl];rfl⟩
theorem qcheck_any (ad:Nat->Addr)(c:Cfg)(p:Option Addr)(cap:Nat)(w:World)(hc:CfgAt w c p cap)(hE:ErrsQ w ad) :
 Calls Tryz.prog 73 #[cfgA c (.slice p c.L.length cap)] w fun e w'=>(∃ ev,e=.returned ev/\ErrIs w' ad ev (cfgF c).1 (cfgF c).2)/\Below w.heap.size w w':=by
 obtain⟨w1,hw1⟩:∃ w1,w1=w.alloc (.cells #[.int .i64 c.n,.int .i64 c.k,.slice p c.L.length cap] 24):=⟨_,rfl⟩
 have hb1:Below w.heap.size w w1:=zBe hw1
 have hx1:CfgBox w1 w.heap.size c (.slice p c.L.length cap):=by rw [hw1];exact cfgBox_made w c _ _
 have hE1:=hE.below hb1
 have HCK:Hid (Calls Tryz.prog 102 #[.slice p c.L.length cap] w1 fun e w'=>(∃ ev,e=.returned ev/\ErrIs w' ad ev (nodesF c.L).1 (nodesF c.L).2)/\Below w1.heap.size w1 w'):=check_any ad p c.L cap w1 hc.len hc.room (hc.strs.below hb1) hE1
 have HW1:Hid (w1=w.alloc (.cells #[.int .i64 c.n,.int .i64 c.k,.slice p c.L.length cap] 24)):=hw1
 have HB1:Hid (Below w.heap.size w w1):=hb1
 have HMF:Hid (∀ W,Calls Tryz.prog 101 #[.int .i64 c.n,.int .i64 c.k] W fun e w'=>e=.returned (.bool (decide (1<=c.k/\c.k<=c.n/\c.n<=12)))/\w'=W):=fun W=>mfits_any c.n c.k W
 have q1:=hE1.c1
 have q2:=hE1.c2
 have f0:=hx1.f0
 have f1:=hx1.f1
 have f2:=hx1.f2
 have HI1:Hid (∀ W,ErrIs W ad (.iface 252 (.pointer (some (ad 1)))) 2 (-1)):=fun W=>ErrIs.sent 1 (by decide)
 have HI2:Hid (∀ W,ErrIs W ad (.iface 252 (.pointer (some (ad 2)))) 3 (-1)):=fun W=>ErrIs.sent 2 (by decide)
 have hl1:=hc.len
 unfold cfgA
 clear hw1 hb1 hx1 hE1 hE hc
 by_cases hf:1<=c.k/\c.k<=c.n/\c.n<=12
 ·have HMF1:Hid (∀ W,Calls Tryz.prog 101 #[.int .i64 c.n,.int .i64 c.k] W fun e w'=>e=.returned (.bool true)/\w'=W):=fun W=>by have:=HMF.out W;rw [decide_eq_true hf] at this;exact this
  by_cases hn:(c.L.length:Int)=c.n
  ·have HF:Hid (cfgF c=nodesF c.L):=cfgF_nodes hf hn
   rw [HF.out]
   obtain⟨n,k,L⟩:=c
   dsimp only at *
   subst hn
   clear HMF HF hf
   generalize nodesF L=R at *
   go_enter Tryz.func73,Tryz.ntmps73
   go_wp2_with fail
   rw [<- HW1.out]
   refine(HMF1.out _).mono ?_
   rintro e w2 ⟨rfl,hw2⟩
   rw [hw2]
   clear hw2 w2 HMF1
   go_wp2_with fail
   refine HCK.out.mono ?_
   rintro e w3 ⟨⟨ev,rfl,hev⟩,hb3⟩
   have HB3:Hid (Below w.heap.size w w3):=HB1.out.trans (hb3.mono HB1.out.size)
   have HEV:Hid (ErrIs w3 ad ev R.1 R.2):=hev
   clear hev hb3 HCK
   go_wp2
   go_ret
   exact⟨⟨_,rfl,HEV.out⟩,HB3.out⟩
  ·have HF:Hid (cfgF c=(3,-1)):=cfgF_shape hf hn
   rw [HF.out]
   obtain⟨n,k,L⟩:=c
   dsimp only at *
   clear HMF HF hf HCK
   go_enter Tryz.func73,Tryz.ntmps73
   go_wp2_with fail
   rw [<- HW1.out]
   refine(HMF1.out _).mono ?_
   rintro e w2 ⟨rfl,hw2⟩
   rw [hw2]
   clear hw2 w2 HMF1
   go_wp2
   go_ret
   exact⟨⟨_,rfl,HI2.out _⟩,HB1.out⟩
 ·have HF:Hid (cfgF c=(2,-1)):=cfgF_bound hf
  have HMF1:Hid (∀ W,Calls Tryz.prog 101 #[.int .i64 c.n,.int .i64 c.k] W fun e w'=>e=.returned (.bool false)/\w'=W):=fun W=>by have:=HMF.out W;rw [decide_eq_false hf] at this;exact this
  rw [HF.out]
  obtain⟨n,k,L⟩:=c
  dsimp only at *
  clear HMF HF hf HCK
  go_enter Tryz.func73,Tryz.ntmps73
  go_wp2_with fail
  rw [<- HW1.out]
  refine(HMF1.out _).mono ?_
  rintro e w2 ⟨rfl,hw2⟩
  rw [hw2]
  clear hw2 w2 HMF1
  go_wp2
  go_ret
  exact⟨⟨_,rfl,HI1.out _⟩,HB1.out⟩
theorem qenough_any (ad:Nat->Addr)(c:Cfg)(p:Option Addr)(cap:Nat)(w:World)(hc:CfgAt w c p cap)(hE:ErrsQ w ad) :
 Calls Tryz.prog 105 #[cfgA c (.slice p c.L.length cap)] w fun e w'=>(∃ ev,e=.returned (.tuple #[.int .i64 ((if 0 < (cfgF c).1 then 0 else enoughN c:Nat):Int),ev])/\ErrIs w' ad ev (cfgF c).1 (cfgF c).2)/\Below w.heap.size w w':=by
 obtain⟨w1,hw1⟩:∃ w1,w1=w.alloc (.cells #[.int .i64 c.n,.int .i64 c.k,.slice p c.L.length cap] 24):=⟨_,rfl⟩
 have hb1:Below w.heap.size w w1:=zBe hw1
 have hx1:CfgBox w1 w.heap.size c (.slice p c.L.length cap):=by rw [hw1];exact cfgBox_made w c _ _
 have HCK:=qcheck_any ad c p cap w1 (hc.below hb1) (hE.below hb1)
 have HW1:Hid (w1=w.alloc (.cells #[.int .i64 c.n,.int .i64 c.k,.slice p c.L.length cap] 24)):=hw1
 have HB1:Hid (Below w.heap.size w w1):=hb1
 have HX1:Hid (CfgBox w1 w.heap.size c (.slice p c.L.length cap)):=hx1
 have f0:=hx1.f0
 have f1:=hx1.f1
 have f2:=hx1.f2
 unfold cfgA at HCK ⊢
 clear hw1 hb1 hx1 hE hc
 by_cases hp:0 < (cfgF c).1
 ·rw [if_pos hp]
  have HP:Hid (0 < (cfgF c).1):=hp
  clear hp
  generalize cfgF c=R at *
  obtain⟨n,k,L⟩:=c
  dsimp only at *
  go_enter Tryz.func105,Tryz.ntmps105
  go_wp2_with fail
  rw [<- HW1.out]
  refine HCK.mono ?_
  rintro e w3 ⟨⟨ev,rfl,hev⟩,hb3⟩
  have HB3:Hid (Below w.heap.size w w3):=HB1.out.trans (hb3.mono HB1.out.size)
  have HEV:Hid (ErrIs w3 ad ev R.1 R.2):=hev
  obtain⟨et,eu,rfl⟩:=hev.some HP.out
  clear hev hb3 HCK
  go_wp2
  go_ret2
  exact⟨⟨_,rfl,HEV.out⟩,HB3.out⟩
 ·obtain⟨hf,hn,h0,_,_⟩:=cfgF_fine hp
  rw [if_neg hp,h0]
  rw [h0] at HCK
  have HEN:Hid ((c.n+c.k+1) / 2=((enoughN c:Nat):Int)):=by
   show _=_
   unfold enoughN
   omega
  have hf1:1<=c.k:=hf.1
  have hf2:c.k<=c.n:=hf.2.1
  have hf3:c.n<=12:=hf.2.2
  clear hp hn h0 hf
  generalize enoughN c=en at *
  obtain⟨n,k,L⟩:=c
  dsimp only at *
  go_enter Tryz.func105,Tryz.ntmps105
  go_wp2_with fail
  rw [<- HW1.out]
  refine HCK.mono ?_
  rintro e w3 ⟨⟨ev,rfl,hev⟩,hb3⟩
  have HB3:Hid (Below w.heap.size w w3):=HB1.out.trans (hb3.mono HB1.out.size)
  have hx3:=HX1.out.below hb3
  have g0:=hx3.f0
  have g1:=hx3.f1
  dsimp only at g0 g1
  obtain rfl:=ErrIs.isNil hev
  clear hev hb3 HCK hx3 f0 f1 f2
  go_wp2
  go_ret2
  exact⟨⟨_,by rw [HEN.out];rfl,ErrIs.nil _ _⟩,HB3.out⟩
end Go.Proofs.YtmhoiodfppdlnaaGreatDoor
namespace Go.Proofs.YtmhoiodfppdlnaaGreatDoor
open Go.ChangeShapes Go.WideShapes Go.ChangeAt Go.RowKit
theorem vCellsInt:Tryz.prog.cellsOf 3=1:=by kernel_rfl
theorem qVerFields:∃ f0 f1 f2,Tryz.prog.underlying 76=some (.struct #[f0,f1,f2])/\f0.offset=0/\f1.offset=2/\f2.offset=3/\f0.type=46/\f1.type=3/\f2.type=74:=⟨_,_,_,Tryz.underlying76,rfl,rfl,rfl,rfl,rfl,rfl⟩
theorem qTagFields:∃ f0 f1,Tryz.prog.underlying 46=some (.struct #[f0,f1])/\f0.offset=0/\f1.offset=1/\f0.type=3/\f1.type=3:=⟨_,_,Tryz.underlying46,rfl,rfl,rfl,rfl⟩
theorem qShardFields:∃ f0 f1,Tryz.prog.underlying 74=some (.struct #[f0,f1])/\f0.offset=0/\f1.offset=1/\f0.type=3/\f1.type=9:=⟨_,_,Tryz.underlying74,rfl,rfl,rfl,rfl⟩
theorem qCellsVer:Tryz.prog.cellsOf 76=5:=by kernel_rfl
theorem qCellsTag:Tryz.prog.cellsOf 46=2:=by kernel_rfl
theorem qCellsShard:Tryz.prog.cellsOf 74=2:=by kernel_rfl
theorem qCellsStr:Tryz.prog.cellsOf 9=1:=by kernel_rfl
theorem qCellsVers:Tryz.prog.cellsOf 55=1:=by kernel_rfl
structure IsBulk {H:Type} (m:DataW H->Nat):Prop where
 one:∀ d,1<=m d
 str:∀ l:List UInt8,l.length<=m (.lit (.string l))
 agg:∀ l:List (DataW H),(l.map m).sum<=m (.agg l)
 slice:∀ es sp:List (DataW H),(es.map m).sum<=m (.slice es sp)
theorem sum_range_le {f g:Nat->Nat}:∀ n,(∀ i,i < n->f i<=g i)->((List.range n).map f).sum<=((List.range n).map g).sum
 | 0,_=>Nat.le_refl _
 | n+1,h=>by
  have ih:=sum_range_le n (fun i hi=>h i (by omega))
  have:=h n (by omega)
  simp only [List.range_succ,List.map_append,List.sum_append,List.map_cons,List.map_nil,List.sum_cons,List.sum_nil]
  omega
theorem mem_sum_le {α:Type}{f:α->Nat}{l:List α}{x:α}(h:x ∈ l):f x<=(l.map f).sum:=by
 induction l with
 | nil=>cases h
 | cons y r ih =>
  rw [List.map_cons,List.sum_cons]
  cases List.mem_cons.1 h with
  | inl e=>subst e;omega
  | inr e=>have:=ih e;omega
theorem IsBulk.str' {H:Type}{m:DataW H->Nat}(hb:IsBulk m)(s:ByteArray):s.size<=m (.lit (.string s.data.toList)):=by
 have e:s.data.toList.length=s.size:=by simp
 have:=hb.str s.data.toList
 omega
theorem IsBulk.agg' {H:Type}{m:DataW H->Nat}(hb:IsBulk m){d:DataW H}{l:List (DataW H)}(h:d ∈ l):m d<=m (.agg l):=Nat.le_trans (mem_sum_le h) (hb.agg l)
theorem ver_elem8 {H:Type}{m:DataW H->Nat}(hb:IsBulk m){enc:TypeId×Value->H}{W:World}{fuel:Nat}{cs:List Value}{y:DataW H×List MemPlace}(h:DataW.trod enc Tryz.prog W 0 (fun _=>true) true fuel 76 cs=some y):∃ x:Ver,cs=verC x/\VerI64 x/\1+x.text.size / 20<=m y.1:=by
 obtain⟨g0,g1,g2,hsv,p0,p1,p2,u0,u1,u2⟩:=qVerFields
 obtain⟨a0,a1,hta,b0,b1,c0,c1⟩:=qTagFields
 obtain⟨d0,d1,hsh,e0,e1,i0,i1⟩:=qShardFields
 obtain⟨z0,z1,z2,n2,rfl,hlen,k0,k1,k2⟩:=Deep.trod_struct3 hsv h
 rw [qCellsVer] at hlen
 match cs,hlen with
 | [v0,v1,v2,v3,v4],_ =>
  rw [u0,p0,qCellsTag] at k0
  rw [u1,p1,vCellsInt] at k1
  rw [u2,p2,qCellsShard] at k2
  obtain⟨xs,hxs,_,ws⟩:=DataW.trod_int Tryz.underlying3 k1
  obtain⟨r0,r1,n3,_,_,l0,l1⟩:=trod_struct2 hta k0
  rw [c0,b0,vCellsInt] at l0
  rw [c1,b1,vCellsInt] at l1
  obtain⟨xn,hxn,_,wn⟩:=DataW.trod_int Tryz.underlying3 l0
  obtain⟨xw,hxw,_,ww⟩:=DataW.trod_int Tryz.underlying3 l1
  obtain⟨q0,q1,n4,hz2,_,m0,m1⟩:=trod_struct2 hsh k2
  rw [i0,e0,vCellsInt] at m0
  rw [i1,e1,qCellsStr] at m1
  obtain⟨xa,hxa,_,wa⟩:=DataW.trod_int Tryz.underlying3 m0
  obtain⟨xt,hxt,hq1,hzt⟩:=DataW.trod_string Tryz.underlying9 m1
  simp at hxs hxn hxw hxa hxt
  subst hxs hxn hxw hxa hxt
  refine⟨⟨xn,xw,xs,xa,xt⟩,rfl,⟨bounds_i64 wn,bounds_i64 ww,bounds_i64 ws,bounds_i64 wa⟩,?_⟩
  have h0:=hb.one (DataW.agg (H:=H) [z0.1,z1.1,z2.1])
  have h1:=hb.str' xt
  have h2:m q1.1<=m (.agg [q0.1,q1.1]):=hb.agg' (by simp)
  have h3:m z2.1<=m (.agg [z0.1,z1.1,z2.1]):=hb.agg' (by simp)
  have e1:m q1.1=m (DataW.lit (H:=H) (.string xt.data.toList)):=by rw [hq1]
  have e2:m z2.1=m (.agg [q0.1,q1.1]):=by rw [hz2]
  show 1+xt.size / 20<=m (.agg [z0.1,z1.1,z2.1])
  omega
theorem vers_arg8 {H:Type}{m:DataW H->Nat}(hb:IsBulk m){enc:TypeId×Value->H}{W:World}{fuel:Nat}{v:Value}{y:DataW H×List MemPlace}(h:DataW.trod enc Tryz.prog W 0 (fun _=>true) true fuel 55 [v]=some y) :
 ∃ p l cap,v=.slice p l.length cap/\Rec verE W p l/\l.length<=cap/\(p=none->l=[]/\cap=0)/\(∀ x ∈ l,VerI64 x)/\tolN l<=m y.1:=by
 rcases Deep.open_slice Tryz.underlying55 h with ⟨hcs,_⟩ | ⟨a,len0,cap0,m0,nn,D,Pl,hcs,_,hle,hcm,hm,hy,hx⟩
 ·simp at hcs
  subst hcs
  exact⟨none,[],0,rfl,Or.inl rfl,Nat.le_refl _,fun _=>⟨rfl,rfl⟩,(fun x hx=>by cases hx),Nat.zero_le _⟩
 ·simp at hcs
  subst hcs
  have hlm:len0<=m0:=by rw [hm];split <;> omega
  have hsum:((List.range len0).map fun i=>m (D i)).sum<=m y.1:=by
   rw [hy]
   have h1:=hb.slice ((List.range len0).map D)
   simp only [List.map_map] at h1
   exact h1 _
  have hv:∀ i,∃ x:Ver,i < len0->(∀ j u,(verC x)[j]?=some u->W.cell? ((a.add (i*5)).add j)=some u)/\VerI64 x/\1+x.text.size / 20<=m (D i):=fun i=>by
   by_cases hi:i < len0
   ·obtain⟨cs',h1,h2⟩:=hx i (by omega)
    obtain⟨x,hcx,hfx,hbx⟩:=ver_elem8 hb h2
    rw [qCellsVer] at h1
    obtain⟨_,hlen,hcell⟩:=World.cells?_some h1
    refine⟨x,fun _=>⟨fun j u hj=>?_,hfx,hbx⟩⟩
    have hj8:j < 5:=(List.getElem?_eq_some_iff.1 hj).1
    have:=hcell j (by omega)
    rw [this,hcx]
    exact hj
   ·exact⟨⟨0,0,0,0,⟨#[]⟩⟩,fun h=>absurd h hi⟩
  have hlen:((List.range len0).map fun i=>Classical.choose (hv i)).length=len0:=by simp
  have hat:∀ i,i < len0->((List.range len0).map fun i=>Classical.choose (hv i))[i]?=some (Classical.choose (hv i)):=fun i hi=>by
   rw [List.getElem?_map,List.getElem?_range hi]
   rfl
  refine⟨some a,(List.range len0).map fun i=>Classical.choose (hv i),cap0,by rw [hlen],?_,by rw [hlen];omega,(fun e=>by cases e),fun x hxm=>?_,?_⟩
  ·by_cases h0:len0=0
   ·exact Or.inl (List.length_eq_zero_iff.1 (by rw [hlen];exact h0))
   ·obtain⟨u0,hx0⟩:∃ u,W.cell? ((a.add (0*5)).add 0)=some u:=⟨_,(Classical.choose_spec (hv 0) (by omega)).1 0 _ rfl⟩
    obtain⟨b,off,sp⟩:=a
    have hsp:sp=none:=by
     cases sp with
     | none=>rfl
     | some q =>
      exfalso
      simp [Addr.add,World.cell?] at hx0
      revert hx0
      split <;> intro h9 <;> cases h9
    subst hsp
    refine Or.inr ⟨b,off,rfl,?_,fun i x hxi j u hj=>?_⟩
    ·rw [Addr.add_lit,Addr.add_lit] at hx0
     rcases Nat.lt_or_ge b W.heap.size with h' | h'
     ·exact h'
     ·simp [World.cell?,Array.getElem?_eq_none h'] at hx0
    ·have hi:i < len0:=by have:=(List.getElem?_eq_some_iff.1 hxi).1;rw [hlen] at this;exact this
     rw [hat i hi] at hxi
     have e:=Option.some.inj hxi
     have hc:=(Classical.choose_spec (hv i) hi).1 j u (by rw [e];exact hj)
     rw [Addr.add_lit,Addr.add_lit] at hc
     exact hc
  ·obtain⟨i,hi,rfl⟩:=List.mem_map.1 hxm
   exact(Classical.choose_spec (hv i) (List.mem_range.1 hi)).2.1
  ·refine Nat.le_trans ?_ hsum
   unfold tolN
   rw [List.map_map]
   exact sum_range_le len0 fun i hi=>(Classical.choose_spec (hv i) hi).2.2
end Go.Proofs.YtmhoiodfppdlnaaGreatDoor
namespace Go.Proofs.YtmhoiodfppdlnaaGreatDoor
open Go.RowKit Go.Sort
def cmpZ (a b:Int):Int:=if a < b then -1 else if b < a then 1 else 0
theorem nanZ (a:Int)(w:World):Calls Tryz.prog 158 #[.int .i64 a] w fun e w'=>e=.returned (.bool false)/\w'=w:=by
 go_enter Tryz.func158,Tryz.ntmps158
 go_wp2
 go_ret
 exact⟨rfl,rfl⟩
theorem cmpZ_any (a b:Int)(w:World):Calls Tryz.prog 136 #[.int .i64 a,.int .i64 b] w fun e w'=>e=.returned (.int .i64 (cmpZ a b))/\w'=w:=by
 have h1:=fun W=>nanZ a W
 have h2:=fun W=>nanZ b W
 rcases Int.lt_trichotomy a b with h | h | h
 ·have HE:Hid (cmpZ a b=-1):=if_pos h
  rw [HE.out]
  go_enter Tryz.func136,Tryz.ntmps136
  go_wp2_with fail
  refine(h1 _).mono ?_
  rintro e w1 ⟨rfl,hw1⟩
  rw [hw1]
  clear hw1 w1
  go_wp2_with fail
  refine(h2 _).mono ?_
  rintro e w1 ⟨rfl,hw1⟩
  rw [hw1]
  clear hw1 w1
  go_wp2
  go_ret
  exact⟨rfl,rfl⟩
 ·subst h
  have HE:Hid (cmpZ a a=0):=by show _=_;unfold cmpZ;rw [if_neg (Int.lt_irrefl _),if_neg (Int.lt_irrefl _)]
  rw [HE.out]
  go_enter Tryz.func136,Tryz.ntmps136
  go_wp2_with fail
  refine(h1 _).mono ?_
  rintro e w1 ⟨rfl,hw1⟩
  rw [hw1]
  clear hw1 w1
  go_wp2_with fail
  refine(h2 _).mono ?_
  rintro e w1 ⟨rfl,hw1⟩
  rw [hw1]
  clear hw1 w1
  go_wp2
  go_ret
  exact⟨rfl,rfl⟩
 ·have HE:Hid (cmpZ a b=1):=by show _=_;unfold cmpZ;rw [if_neg (by omega),if_pos h]
  have d1:decide (a < b)=false:=decide_eq_false (by omega)
  rw [HE.out]
  go_enter Tryz.func136,Tryz.ntmps136
  go_wp2_with fail
  refine(h1 _).mono ?_
  rintro e w1 ⟨rfl,hw1⟩
  rw [hw1]
  clear hw1 w1
  go_wp2_with fail
  refine(h2 _).mono ?_
  rintro e w1 ⟨rfl,hw1⟩
  rw [hw1]
  clear hw1 w1
  go_wp2
  go_ret
  exact⟨rfl,rfl⟩
def orZ (a b:Int):Int:=if a≠0 then a else b
theorem or_two (g o:Nat)(a b:Int)(w:World)(h0:w.cell? ⟨g,o,none⟩=some (.int .i64 a))(h1:w.cell? ⟨g,o+1,none⟩=some (.int .i64 b)) :
 Calls Tryz.prog 135 #[.slice (some ⟨g,o,none⟩) 2 2] w fun e w'=>e=.returned (.int .i64 (orZ a b))/\w'=w:=by
 obtain⟨f,hf⟩:∃ f:Nat->Int,f=fun i=>if i=0 then a else b:=⟨_,rfl⟩
 have HC:Hid (∀ i,i < 2->w.cell? ⟨g,o+i,none⟩=some (.int .i64 (f i))):=fun i hi=>by
  rw [hf]
  match i,hi with
  | 0,_=>exact h0
  | 1,_=>exact h1
 obtain⟨r,hr⟩:∃ r,r=orZ a b:=⟨_,rfl⟩
 have HR:Hid (∀ i,i < 2->(∀ j,j < i->f j=0)->f i≠0->r=f i):=fun i hi hall hne=>by
  rw [hr,hf]
  unfold orZ
  match i,hi with
  | 0,_=>rw [hf] at hne;have hne':a≠0:=hne;rw [if_pos hne'];rfl
  | 1,_ =>
   have:=hall 0 (by omega)
   rw [hf] at this
   have ha:a=0:=this
   rw [if_neg (by rw [ha];decide)];rfl
 have HZ:Hid ((∀ j,j < 2->f j=0)->r=0):=fun hall=>by
  have t0:=hall 0 (by omega)
  have t1:=hall 1 (by omega)
  rw [hf] at t0 t1
  have ha:a=0:=t0
  have hb:b=0:=t1
  rw [hr,ha,hb]
  decide
 rw [<- hr]
 clear hf hr h0 h1
 go_enter Tryz.func135,Tryz.ntmps135
 go_wp2
 go_loop [8] (fun x=>∃ i:Nat,i<=2/\x=.int .i64 i/\∀ j,j < i->f j=0) (fun x=>2 - (intOf x).toNat)
 case atStart=>exact⟨0,by omega,rfl,fun j hj=>absurd hj (Nat.not_lt_zero _)⟩
 case round =>
  obtain⟨i,hi,rfl,hall⟩:=hrel
  have HALL:Hid (∀ j,j < i->f j=0):=hall
  clear hall
  by_cases hil:i < 2
  ·have q1:=HC.out i hil
   have HRI:Hid (f i≠0->r=f i):=HR.out i hil HALL.out
   have HN:Hid (f i=0->∀ j,j < i+1->f j=0):=fun h j hj=>by
    rcases Nat.lt_or_ge j i with h' | h'
    ·exact HALL.out j h'
    ·obtain rfl:j=i:=by omega
     exact h
   clear HALL HR HC HZ
   generalize f i=y at *
   by_cases hy:y=0
   ·have HNX:=HN.out hy
    subst hy
    have HNX':Hid (∀ j,j < i+1->f j=0):=HNX
    clear HNX HN HRI
    go_wp2
    go_round
    case rel=>exact⟨i+1,by omega,by go_num,HNX'.out⟩
    case measure=>simp [intOf];omega
   ·have HE:Hid (r=y):=HRI.out hy
    have d1:(y==0)=false:=by rw [beq_eq_false_iff_ne];exact hy
    have d2:(y != 0)=true:=by rw [bne_iff_ne];exact hy
    clear HRI HN
    go_wp2
    go_ret
    exact⟨by rw [HE.out];rfl,rfl⟩
  ·have HE:Hid (r=0):=HZ.out (fun j hj=>HALL.out j (by omega))
   go_wp2
   go_ret
   exact⟨by rw [HE.out];rfl,rfl⟩
def tagC (a b:Int×Int):Int:=orZ (cmpZ a.1 b.1) (cmpZ a.2 b.2)
theorem tagC_lt {a b:Int×Int}:decide (tagC a b < 0)=lessB a b:=by
 unfold tagC orZ cmpZ lessB
 by_cases h1:a.1 < b.1
 ·simp [h1]
 ·by_cases h2:b.1 < a.1
  ·have h3:¬ a.1=b.1:=by omega
   simp [h1,h2,h3]
  ·have h3:a.1=b.1:=by omega
   simp only [h3]
   by_cases h4:a.2 < b.2
   ·simp [h4]
   ·by_cases h5:b.2 < a.2 <;> simp [h4,h5]
theorem compare_any (a b:Int×Int)(W:World):Calls Tryz.prog 109 #[.agg #[.int .i64 a.1,.int .i64 a.2],.agg #[.int .i64 b.1,.int .i64 b.2]] W fun e w'=>e=.returned (.int .i64 (tagC a b))/\∃ n os,w'=grow (W.drewN n) os:=by
 obtain⟨a1,a2⟩:=a
 obtain⟨b1,b2⟩:=b
 obtain⟨W2,hW2⟩:∃ W2,W2=(W.alloc (.cells #[.int .i64 a1,.int .i64 a2] 46)).alloc (.cells #[.int .i64 b1,.int .i64 b2] 46):=⟨_,rfl⟩
 have HG:Hid (∃ os,W2=grow W os):=⟨_,by rw [hW2,alloc_eq_grow,alloc_eq_grow,grow_grow]⟩
 have q1:W2.cell? ⟨W.heap.size,0,none⟩=some (.int .i64 a1):=by rw [hW2];simp
 have q2:W2.cell? ⟨W.heap.size,1,none⟩=some (.int .i64 a2):=by rw [hW2];simp
 have q4:W2.cell? ⟨W.heap.size+1,0,none⟩=some (.int .i64 b1):=by rw [hW2];simp
 have q5:W2.cell? ⟨W.heap.size+1,1,none⟩=some (.int .i64 b2):=by rw [hW2];simp
 have HW2:Hid (W2=(W.alloc (.cells #[.int .i64 a1,.int .i64 a2] 46)).alloc (.cells #[.int .i64 b1,.int .i64 b2] 46)):=hW2
 clear hW2
 show Calls Tryz.prog 109 #[.agg #[.int .i64 a1,.int .i64 a2],.agg #[.int .i64 b1,.int .i64 b2]] W fun e w'=>e=.returned (.int .i64 (orZ (cmpZ a1 b1) (cmpZ a2 b2)))/\∃ n os,w'=grow (W.drewN n) os
 have c1:=fun W=>cmpZ_any a1 b1 W
 have c2:=fun W=>cmpZ_any a2 b2 W
 have c4:=fun g W h0 h1=>or_two g 0 (cmpZ a1 b1) (cmpZ a2 b2) W h0 h1
 generalize cmpZ a1 b1=r1 at *
 generalize cmpZ a2 b2=r2 at *
 generalize orZ r1 r2=r at *
 have C1:Hid (∀ W,Calls Tryz.prog 136 #[.int .i64 a1,.int .i64 b1] W fun e w'=>e=.returned (.int .i64 r1)/\w'=W):=c1
 have C2:Hid (∀ W,Calls Tryz.prog 136 #[.int .i64 a2,.int .i64 b2] W fun e w'=>e=.returned (.int .i64 r2)/\w'=W):=c2
 have C4:Hid (∀ g W,W.cell? ⟨g,0,none⟩=some (.int .i64 r1)->W.cell? ⟨g,1,none⟩=some (.int .i64 r2)->Calls Tryz.prog 135 #[.slice (some ⟨g,0,none⟩) 2 2] W fun e w'=>e=.returned (.int .i64 r)/\w'=W):=c4
 clear c1 c2 c4
 go_enter Tryz.func109,Tryz.ntmps109
 go_wp2
 rw [<- HW2.out]
 clear HW2
 refine wp_region_still_tail 10 (by kernel_rfl) (by kernel_rfl) ?_
 simp only [List.take_succ_cons,List.take_zero,List.drop_succ_cons,List.drop_zero]
 still_step
 still_step
 still_step
 still_step
 still_call (C1.out _)
 still_step
 still_step
 still_step
 still_step
 still_call (C2.out _)
 refine wpStill_nil ?_
 change wpList _ _ _ _ _ (W2.drewN 1)
 have HG3:Hid (∃ os,W2.drewN 1=grow (W.drewN 1) os):=by
  obtain⟨os,h⟩:=HG.out
  exact⟨os,by rw [h];rfl⟩
 generalize W2.drewN 1=W3 at HG3 ⊢
 clear q1 q2 q4 q5
 go_wp2_with (go_at_call 135;refine(C4.out _ _ (by simp) (by simp)).mono ?_;rintro e w' ⟨rfl,rfl⟩)
 go_ret
 obtain⟨os,h⟩:=HG3.out
 exact⟨rfl,1,_,by rw [h,alloc_eq_grow,grow_grow]⟩
theorem grow_drewN (w:World)(os:Array Obj)(n:Nat):(grow w os).drewN n=grow (w.drewN n) os:=rfl
end Go.Proofs.YtmhoiodfppdlnaaGreatDoor
namespace Go.Proofs.YtmhoiodfppdlnaaGreatDoor
open Go.RowKit Go.Sort
theorem less_any (a b:Int×Int)(w:World):Calls Tryz.prog 81 #[.agg #[.int .i64 a.1,.int .i64 a.2],.agg #[.int .i64 b.1,.int .i64 b.2]] w fun e w'=>e=.returned (.bool (lessB a b))/\∃ q os,w'=grow (w.drewN q) os:=by
 have HC:Hid (∀ W,Calls Tryz.prog 109 #[.agg #[.int .i64 a.1,.int .i64 a.2],.agg #[.int .i64 b.1,.int .i64 b.2]] W fun e w'=>e=.returned (.int .i64 (tagC a b))/\∃ n os,w'=grow (W.drewN n) os):=fun W=>compare_any a b W
 have HR:Hid (decide (tagC a b < 0)=lessB a b):=tagC_lt
 generalize tagC a b=c at *
 generalize lessB a b=r at *
 obtain⟨a1,a2⟩:=a
 obtain⟨b1,b2⟩:=b
 have HG:Hid (∃ os,(w.alloc (.cells #[.int .i64 a1,.int .i64 a2] 46)).alloc (.cells #[.int .i64 b1,.int .i64 b2] 46)=grow w os):=⟨_,by rw [alloc_eq_grow,alloc_eq_grow,grow_grow]⟩
 go_enter Tryz.func81,Tryz.ntmps81
 go_wp2_with fail
 refine(HC.out _).mono ?_
 rintro e w2 ⟨rfl,n,os,hw2⟩
 have HE:Hid (∃ q os,w2=grow (w.drewN q) os):=by
  obtain⟨os0,h0⟩:=HG.out
  exact⟨n,os0 ++ os,by rw [hw2,h0,grow_drewN,grow_grow]⟩
 clear hw2 HG
 go_wp2
 go_ret
 exact⟨by rw [<- HR.out];rfl,HE.out⟩
end Go.Proofs.YtmhoiodfppdlnaaGreatDoor
namespace Go.Proofs.YtmhoiodfppdlnaaGreatDoor
open Go.RowKit
theorem OwnT.setC {w:World}{B b:Nat}{v:Value}{l:List ByteArray}(h:OwnT w B v l)(hb:b < B)(i:Nat)(x:Value):OwnT (w.setCell ⟨b,i,none⟩ x) B v l :=
 World.ownsRow.kept (row:=some b) h ⟨rfl,rfl,rfl,by simp,fun k _ hne=>Deep.blk_setCell_other _ _ _ _ (fun e=>hne (by rw [e]))⟩ (Or.inr fun e=>by have:=(h.block e).1;omega)
theorem ownConfig_any (c:Cfg)(p:Option Addr)(cap:Nat)(w:World)(hl:c.L.length<=8796093021952)(hs:Strs w p c.L)(hn:p=none->c.L=[]/\cap=0) :
 Calls Tryz.prog 9 #[cfgA c (.slice p c.L.length cap)] w fun e w'=>(∃ q d,e=.returned (cfgA c (.slice q c.L.length d))/\Strs w' q c.L/\c.L.length<=d/\(q=none->c.L=[]/\d=0))/\Below w.heap.size w w':=by
 obtain⟨cn,ck,cL⟩:=c
 unfold cfgA
 simp only [] at *
 obtain⟨w1,hw1⟩:∃ w1,w1=(w.alloc (.cells #[.int .i64 cn,.int .i64 ck,.slice p cL.length cap] 24)).alloc (.cells #[.int .i64 0,.int .i64 0,.slice none 0 0] 24):=⟨_,rfl⟩
 have HW1:Hid (w1=(w.alloc (.cells #[.int .i64 cn,.int .i64 ck,.slice p cL.length cap] 24)).alloc (.cells #[.int .i64 0,.int .i64 0,.slice none 0 0] 24)):=hw1
 have hb1:Below w.heap.size w w1:=by rw [hw1];exact((Below.refl _ _).alloc (Nat.le_refl _) _).alloc (by simp) _
 have e2:(w.alloc (.cells #[.int .i64 cn,.int .i64 ck,.slice p cL.length cap] 24)).heap.size=w.heap.size+1:=by simp
 have hx1:w1.heap[w.heap.size]?=some (.cells #[.int .i64 cn,.int .i64 ck,.slice p cL.length cap] 24 (0,0)):=by
  rw [hw1,heap_alloc_old _ _ (by rw [e2];omega)]
  exact heap_alloc_new _ _
 have hy1:w1.heap[w.heap.size+1]?=some (.cells #[.int .i64 0,.int .i64 0,.slice none 0 0] 24 (0,0)):=by
  rw [hw1,<- e2]
  exact heap_alloc_new _ _
 have hs1:w1.heap.size=w.heap.size+2:=by rw [hw1];simp
 have HS1:Hid (Strs w1 p cL):=hs.below hb1
 have HF1:Hid (w1.heap[w.heap.size]?=some (.cells #[.int .i64 cn,.int .i64 ck,.slice p cL.length cap] 24 (0,0))/\w1.heap[w.heap.size+1]?=some (.cells #[.int .i64 0,.int .i64 0,.slice none 0 0] 24 (0,0))/\Below w.heap.size w w1/\w1.heap.size=w.heap.size+2):=⟨hx1,hy1,hb1,hs1⟩
 have q2:w1.cell? ⟨w.heap.size,2,none⟩=some (.slice p cL.length cap):=by simp [World.cell?,hx1]
 clear hw1 hb1 e2 hx1 hy1 hs1 hs
 go_enter Tryz.func9,Tryz.ntmps9
 go_wp2_with (first | (at_builtin;rw [<- HW1.out];refine wpList_append_strs rfl (.tmp 4) (.tmp 6) rfl w1.heap.size (.slice none 0 0) [] rfl (OwnT.nil _ _) p cL cap rfl HS1.out hn (by show 0+cL.length<=_;omega) (Nat.le_refl _) ?_;intro v2 w2 hO2 hb2;rw [List.nil_append] at hO2;obtain⟨q,d,hv2,hS2,hd2,hn2,hbk2⟩:=hO2.form;subst hv2;have hx2:=(hb2.block _ (by have:=HF1.out.2.2.2;omega)).trans HF1.out.1;have hy2:=(hb2.block _ (by have:=HF1.out.2.2.2;omega)).trans HF1.out.2.1;have HN2:Hid (q=none->cL=[]/\d=0):=(fun e=>⟨(by rcases hS2 with h | ⟨b,o,hq,_⟩;exact h;rw [e] at hq;cases hq),hn2 e⟩);have HO2:Hid (OwnT w2 w1.heap.size (.slice q cL.length d) cL/\cL.length<=d/\Below w.heap.size w w2):=⟨hO2,hd2,HF1.out.2.2.1.trans (hb2.mono HF1.out.2.2.1.size)⟩;have k0:w2.cell? ⟨w.heap.size,0,none⟩=some (.int .i64 cn):=(by simp [World.cell?,hx2]);have k1:w2.cell? ⟨w.heap.size,1,none⟩=some (.int .i64 ck):=(by simp [World.cell?,hx2]);have k2:w2.cell? ⟨w.heap.size,2,none⟩=some (.slice p cL.length cap):=(by simp [World.cell?,hx2]);have k3:w2.frozen? ⟨w.heap.size,2,none⟩=false:=(by simp [World.frozen?,hx2]);have z0:w2.cell? ⟨w.heap.size+1,0,none⟩=some (.int .i64 0):=(by simp [World.cell?,hy2]);have z1:w2.cell? ⟨w.heap.size+1,1,none⟩=some (.int .i64 0):=(by simp [World.cell?,hy2]);have z2:w2.cell? ⟨w.heap.size+1,2,none⟩=some (.slice none 0 0):=(by simp [World.cell?,hy2]);have z3:∀ i,w2.frozen? ⟨w.heap.size+1,i,none⟩=false:=(fun i=>by simp [World.frozen?,hy2]);clear hO2 hb2 hS2 hd2 hn2 hbk2 hx2 hy2 q2))
 refine bodyPost_ret (v:=.agg #[.int .i64 cn,.int .i64 ck,.slice q cL.length d]) (by simp [results,Tryz.results9,go_sem,z0,z1,z2]) rfl ?_
 have hsz:=HF1.out.2.2.2
 have ho:=(((HO2.out.1.setC (b:=w.heap.size) (by omega) 2 (.slice q cL.length d)).setC (b:=w.heap.size+1) (by omega) 0 (.int .i64 cn)).setC (b:=w.heap.size+1) (by omega) 1 (.int .i64 ck)).setC (b:=w.heap.size+1) (by omega) 2 (.slice q cL.length d)
 obtain⟨q',d',hv,hS,_⟩:=ho.form
 injection hv with e1 _ e2
 subst e1 e2
 exact⟨⟨q,d,rfl,hS,HO2.out.2.1,HN2.out⟩,(((HO2.out.2.2.setCell (p:=⟨w.heap.size,2,none⟩) (Nat.le_refl _) _).setCell (p:=⟨w.heap.size+1,0,none⟩) (by show w.heap.size<=w.heap.size+1;omega) _).setCell (p:=⟨w.heap.size+1,1,none⟩) (by show w.heap.size<=w.heap.size+1;omega) _).setCell (p:=⟨w.heap.size+1,2,none⟩) (by show w.heap.size<=w.heap.size+1;omega) _⟩
def longC (c:Cfg):Bool:=decide (30 < c.L.length) || c.L.any fun x=>decide (60 < x.size)
theorem longC_fine {c:Cfg}(h:longC c=false):c.L.length<=30/\∀ x ∈ c.L,x.size<=60:=by
 unfold longC at h
 rw [Bool.or_eq_false_iff] at h
 refine⟨by have:=of_decide_eq_false h.1;omega,fun x hx=>?_⟩
 have:=List.any_eq_false.1 h.2 x hx
 simpa using this
theorem longConfig_any (c:Cfg)(p:Option Addr)(cap:Nat)(w:World)(hl:c.L.length<=maxLen)(hx:∀ x ∈ c.L,x.size<=maxLen)(hs:Strs w p c.L) :
 Calls Tryz.prog 6 #[cfgA c (.slice p c.L.length cap)] w fun e w'=>e=.returned (.bool (longC c))/\Below w.heap.size w w':=by
 obtain⟨cn,ck,l⟩:=c
 unfold maxLen at hl
 unfold cfgA
 simp only [] at *
 obtain⟨w1,hw1⟩:∃ w1,w1=w.alloc (.cells #[.int .i64 cn,.int .i64 ck,.slice p l.length cap] 24):=⟨_,rfl⟩
 have HW1:Hid (w1=w.alloc (.cells #[.int .i64 cn,.int .i64 ck,.slice p l.length cap] 24)):=hw1
 have hb1:Below w.heap.size w w1:=zBe hw1
 have q2:w1.cell? ⟨w.heap.size,2,none⟩=some (.slice p l.length cap):=zAc hw1 rfl
 have HB1:Hid (Below w.heap.size w w1):=hb1
 by_cases h1:30 < l.length
 ·have HR:Hid (longC ⟨cn,ck,l⟩=true):=by show _=_;unfold longC;rw [decide_eq_true h1,Bool.true_or]
  rw [HR.out]
  clear hw1 hb1 hs hx
  go_enter Tryz.func6,Tryz.ntmps6
  go_wp2
  go_ret
  exact⟨rfl,by rw [<- HW1.out];exact HB1.out⟩
 have HX:Hid (∀ i,i < l.length->(txt l i).size<=9223372036854775807):=fun i hi=>by have:=hx _ (txt_mem hi);unfold maxLen at this;omega
 have HT:Hid (∀ i,i < l.length->60 < (txt l i).size->longC ⟨cn,ck,l⟩=true):=fun i hi h=>by
  unfold longC
  rw [decide_eq_false h1,Bool.false_or,List.any_eq_true]
  exact⟨txt l i,txt_mem hi,decide_eq_true h⟩
 have HF:Hid ((∀ i,i < l.length->¬ 60 < (txt l i).size)->longC ⟨cn,ck,l⟩=false):=fun h=>by
  unfold longC
  rw [decide_eq_false h1,Bool.false_or,List.any_eq_false]
  intro x hx h2
  obtain⟨i,hi,rfl⟩:=txt_of_mem hx
  exact h i hi (of_decide_eq_true h2)
 generalize longC ⟨cn,ck,l⟩=r at *
 have HS:Hid (Strs w1 p l):=hs.below hb1
 clear hs hx hw1 hb1
 go_enter Tryz.func6,Tryz.ntmps6
 go_wp2
 rw [show w.alloc (.cells #[.int .i64 cn,.int .i64 ck,.slice p l.length cap] 24)=w1 from HW1.out.symm]
 clear HW1
 go_loopw [3] (fun x wr=>∃ i:Nat,i<=l.length/\x=.int .i64 i/\(∀ j,j < i->¬ 60 < (txt l j).size)/\wr=w1) (fun x _=>l.length - (intOf x).toNat)
 case atStart=>exact⟨0,Nat.zero_le _,rfl,(fun j hj=>absurd hj (Nat.not_lt_zero _)),rfl⟩
 case round =>
  obtain⟨i,hi,rfl,hall,hwr⟩:=hrel
  subst hwr
  have HALL:Hid (∀ j,j < i->¬ 60 < (txt l j).size):=hall
  clear hall
  by_cases hil:i < l.length
  ·rcases HS.out with h0 | ⟨b,o,rfl,hlt,hc⟩
   ·rw [h0] at hil;exact absurd hil (Nat.not_lt_zero _)
   have q1:=hc i hil
   have hsz:=HX.out i hil
   clear hc
   by_cases hbig:60 < (txt l i).size
   ·have HR:Hid (r=true):=HT.out i hil hbig
    clear HT HF HALL HX
    generalize txt l i=t at *
    go_wp2
    go_ret
    exact⟨by rw [HR.out];rfl,HB1.out⟩
   ·have HBG:Hid (¬ 60 < (txt l i).size):=hbig
    clear HT HF HX
    generalize hti:txt l i=t at *
    have HTI:Hid (txt l i=t):=hti
    clear hti
    go_wp2
    go_roundw
    case rel=>exact⟨i+1,by omega,by go_num,(fun j hj=>by
     rcases Nat.lt_or_ge j i with h | h
     ·exact HALL.out j h
     ·obtain rfl:j=i:=by omega
      rw [HTI.out];exact HBG.out),trivial⟩
    case measure=>simp [intOf];omega
  ·have HR:Hid (r=false):=HF.out (fun j hj=>HALL.out j (by omega))
   go_wp2
   go_ret
   exact⟨by rw [HR.out];rfl,HB1.out⟩
theorem cfgAt_of {w:World}{c:Cfg}{p:Option Addr}{cap:Nat}(h1:Strs w p c.L)(h2:c.L.length<=cap)(h3:p=none->c.L=[]/\cap=0)(h4:longC c=false)(h5:CfgIn c):CfgAt w c p cap :=
 ⟨h1,h2,h3,by have:=(longC_fine h4).1;omega,fun x hx=>by have:=(longC_fine h4).2 x hx;omega,h5⟩
def weighM (l:List Msg):Nat:=(l.map fun m=>20+bulkN m).sum
def fitsM (l:List Msg):Bool:=!(l.any fun m=>m.L.any bigV) && decide (weighM l < 6000)
theorem weighM_take {l:List Msg}{m:Msg}{i:Nat}(h:l[i]?=some m):weighM (l.take (i+1))=weighM (l.take i)+(20+bulkN m):=by
 unfold weighM
 rw [List.take_add_one,h,List.map_append,List.sum_append]
 simp
theorem weighM_le (l:List Msg)(i:Nat):weighM (l.take i)<=weighM l:=by
 have h:weighM l=weighM (l.take i)+weighM (l.drop i):=by
  unfold weighM
  rw [<- List.sum_append,<- List.map_append,List.take_append_drop]
 omega
theorem weighM_len (l:List Msg):l.length<=weighM l:=by
 unfold weighM
 induction l with
 | nil=>exact Nat.zero_le _
 | cons x r ih=>rw [List.map_cons,List.sum_cons,List.length_cons];omega
theorem weighM_one {l:List Msg}{m:Msg}(h:m ∈ l):20+bulkN m<=weighM l:=by
 unfold weighM
 induction l with
 | nil=>cases h
 | cons x r ih =>
  rw [List.map_cons,List.sum_cons]
  rcases List.mem_cons.1 h with e | e
  ·subst e;omega
  ·have:=ih e;omega
theorem fitsM_big {l:List Msg}{m:Msg}(h:m ∈ l)(hb:m.L.any bigV=true):fitsM l=false:=by
 unfold fitsM
 have:(l.any fun m=>m.L.any bigV)=true:=List.any_eq_true.2 ⟨m,h,hb⟩
 rw [this]
 rfl
theorem fitsM_end {l:List Msg}(h:∀ m ∈ l,m.L.any bigV=false):fitsM l=decide (weighM l < 6000):=by
 unfold fitsM
 have:(l.any fun m=>m.L.any bigV)=false:=List.any_eq_false.2 fun m hm hb=>by rw [h m hm] at hb;cases hb
 rw [this]
 rfl
theorem messagesFit_any (p:Option Addr)(l:List Msg)(cap:Nat)(w:World)(hw:weighM l<=4611686018427387904)(h:MsgsAt w p l) :
 Calls Tryz.prog 7 #[.slice p l.length cap] w fun e w'=>e=.returned (.bool (fitsM l))/\Below w.heap.size w w':=by
 obtain⟨ml,hml,hr,hh⟩:=h
 have hlen:l.length=ml.length:=by rw [<- hml,List.length_map]
 have hmlen:ml.length<=4611686018427387904:=by have:=weighM_len l;omega
 have HR:Hid (Rec mE w p ml):=hr
 have HH:Hid (∀ x ∈ ml,HasL w x):=hh
 have hmem:∀ i,i < ml.length->(msgAt ml i).1 ∈ l:=fun i hi=>by rw [<- hml];exact List.mem_map.2 ⟨_,msgAt_mem hi,rfl⟩
 have HG:Hid (∀ i,i < ml.length->l[i]?=some (msgAt ml i).1):=fun i hi=>by rw [<- hml,List.getElem?_map,List.getElem?_eq_getElem hi,msgAt_get hi];rfl
 have HWT:Hid (∀ i,i < ml.length->weighM (l.take (i+1))=weighM (l.take i)+(20+bulkN (msgAt ml i).1)):=fun i hi=>weighM_take (HG.out i hi)
 have HWL:Hid (∀ i,weighM (l.take i)<=weighM l):=fun i=>weighM_le l i
 have HWO:Hid (∀ i,i < ml.length->20+bulkN (msgAt ml i).1<=weighM l):=fun i hi=>weighM_one (hmem i hi)
 have HBG:Hid (∀ i,i < ml.length->(msgAt ml i).1.L.any bigV=true->fitsM l=false):=fun i hi hb=>fitsM_big (hmem i hi) hb
 have HEN:Hid ((∀ i,i < ml.length->(msgAt ml i).1.L.any bigV=false)->fitsM l=decide (weighM (l.take ml.length) < 6000)):=fun hall=>by
  rw [<- hlen,List.take_length]
  refine fitsM_end fun m hm=>?_
  rw [<- hml] at hm
  obtain⟨x,hx,rfl⟩:=List.mem_map.1 hm
  obtain⟨i,hi,rfl⟩:=List.getElem_of_mem hx
  have:=hall i hi
  rw [<- msgAt_get hi] at this
  exact this
 have H0:Hid (weighM (l.take 0)=0):=by show _=_;rfl
 rw [hlen]
 generalize fitsM l=R at *
 generalize weighM l=WW at *
 have HBU:Hid (∀ (x:Msg×Lv) W,HasL W x->bulkN x.1<=9223372036854775807->Calls Tryz.prog 32 #[.agg #[.string x.1.from_,.string x.1.to_,.string x.1.kind,.string x.1.key,.int .i64 x.1.op,.int .i64 x.1.config,.bool x.1.shut,.slice x.2.1 x.2.2.1 x.2.2.2]] W fun e w'=>e=.returned (.int .i64 ((bulkN x.1:Nat):Int))/\Below W.heap.size W w'):=fun x W hx hb=>by
  have h:=bulk_any x.1 x.2.1 x.2.2.2 W hx.recs hb
  rw [hx.len]
  exact h
 clear hr hh hml hlen hmem HG
 go_enter Tryz.func7,Tryz.ntmps7
 go_wp2
 go_loopw [3,4] (fun nv x wr=>∃ i:Nat,i<=ml.length/\x=.int .i64 i/\nv=.int .i64 ((weighM (l.take i):Nat):Int)/\(∀ j,j < i->(msgAt ml j).1.L.any bigV=false)/\Below w.heap.size w wr) (fun _ x _=>ml.length - (intOf x).toNat)
 case atStart=>exact⟨0,Nat.zero_le _,rfl,by rw [H0.out];rfl,fun j hj=>absurd hj (Nat.not_lt_zero _),Below.refl _ _⟩
 case round =>
  obtain⟨i,hi,rfl,rfl,hall,hB⟩:=hrel
  obtain⟨w1,rfl⟩:∃ w1,w1=wr:=⟨_,rfl⟩
  have HB:Hid (Below w.heap.size w w1):=hB
  have HALL:Hid (∀ j,j < i->(msgAt ml j).1.L.any bigV=false):=hall
  have hwi:=HWL.out i
  clear hall
  by_cases hil:i < ml.length
  ·obtain⟨b,o,hpp,hblt,d0,d1,d2,d3,d4,d5,d6,d7⟩:=msg_cells (HR.out.below hB) hil
   rw [msgAt_get hil] at d0 d1 d2 d3 d4 d5 d6 d7
   have hwo:=HWO.out i hil
   have hwt:=HWT.out i hil
   have hws:=HWL.out (i+1)
   rw [hwt] at hws
   have HHX:Hid (HasL w (msgAt ml i)):=HH.out _ (msgAt_mem hil)
   have HBX:=HBU.out (msgAt ml i) w1 (HHX.out.below hB) (by omega)
   have HWTI:Hid (weighM (l.take (i+1))=weighM (l.take i)+(20+bulkN (msgAt ml i).1)):=hwt
   have HBGI:Hid ((msgAt ml i).1.L.any bigV=true->R=false):=HBG.out i hil
   have HNX:Hid ((msgAt ml i).1.L.any bigV=false->∀ j,j < i+1->(msgAt ml j).1.L.any bigV=false):=fun hb j hj=>by
    by_cases e:j=i
    ·rw [e];exact hb
    ·exact HALL.out j (by omega)
   have hbl:=bulkV_len (msgAt ml i).1.L
   have hbn:bulkV (msgAt ml i).1.L<=bulkN (msgAt ml i).1:=by unfold bulkN;omega
   subst hpp
   clear hwt hB HH HBU HWT HWL HWO HBG HALL
   generalize msgAt ml i=x at *
   generalize weighM (l.take i)=ni at *
   obtain⟨⟨m1,m2,m3,m4,m5,m6,m7,mL⟩,lp,ln,lc⟩:=x
   have hln:ln=mL.length:=HHX.out.len
   subst hln
   dsimp only at *
   generalize bulkN ⟨m1,m2,m3,m4,m5,m6,m7,mL⟩=bn at *
   have HCE:Hid (∀ W,Below w1.heap.size w1 W->W.cell? ⟨b,o+i*8+7,none⟩=some (.slice lp mL.length lc)/\Rec verE W lp mL/\Below w.heap.size w W):=fun W hW=>⟨(hW.cell (p:=⟨b,o+i*8+7,none⟩) hblt).trans d7,(HHX.out.recs.below HB.out).below hW,HB.out.trans (hW.mono HB.out.size)⟩
   have HBI:Hid (∀ j,j < mL.length->bigV (verAt mL j)=true->mL.any bigV=true):=fun j hj hv=>big_of_at hj hv
   have HBS:Hid (∀ j,j < mL.length->(mL.take (j+1)).any bigV=((mL.take j).any bigV || bigV (verAt mL j))):=fun j hj=>big_succ hj
   have HTK:Hid (mL.take mL.length=mL):=List.take_length
   go_wp2_with fail
   refine HBX.mono ?_
   rintro e w2 ⟨rfl,hb2⟩
   have HB12:Hid (Below w1.heap.size w1 w2):=hb2
   have q7:=(HCE.out w2 hb2).1
   clear HBX hb2 d0 d1 d2 d3 d4 d5 d6 d7
   go_wp2
   go_loopw [5] (fun y wr=>∃ j:Nat,j<=mL.length/\y=.int .i64 j/\(mL.take j).any bigV=false/\wr=w2) (fun y _=>mL.length - (intOf y).toNat)
   case atStart=>exact⟨0,Nat.zero_le _,rfl,rfl,rfl⟩
   case round =>
    obtain⟨j,hj,rfl,hany,hwr⟩:=hrel
    subst hwr
    have HANY:Hid ((mL.take j).any bigV=false):=hany
    clear hany
    by_cases hjl:j < mL.length
    ·obtain⟨b',o',hpp,hblt',v0,v1,v2,v3,v4⟩:=ver_cells (HCE.out wr HB12.out).2.1 hjl
     subst hpp
     have HS:=HBS.out j hjl
     have HI:=HBI.out j hjl
     have HBE:Hid (bigV (verAt mL j)=decide (200 < (verAt mL j).size/\(verAt mL j).size<=1000)):=by show _=_;rfl
     rw [HANY.out,Bool.false_or] at HS
     have HSH:Hid ((mL.take (j+1)).any bigV=bigV (verAt mL j)):=HS
     have HIH:Hid (bigV (verAt mL j)=true->mL.any bigV=true):=HI
     clear HS HI v0 v1 v3 v4
     generalize verAt mL j=x at *
     obtain⟨xn,xw,xs,xa,xt⟩:=x
     dsimp only at v2 HBE
     by_cases h1:200 < xs
     ·have d1:decide (200 < xs)=true:=decide_eq_true h1
      by_cases h2:xs<=1000
      ·have d2:decide (xs<=1000)=true:=decide_eq_true h2
       have HR0:Hid (R=false):=HBGI.out (HIH.out (by rw [HBE.out];exact decide_eq_true ⟨h1,h2⟩))
       go_wp2
       go_ret
       exact⟨by rw [HR0.out];rfl,(HCE.out wr HB12.out).2.2⟩
      ·have d2:decide (xs<=1000)=false:=decide_eq_false h2
       have HN:Hid ((mL.take (j+1)).any bigV=false):=by show _=_;rw [HSH.out,HBE.out];exact decide_eq_false fun h=>h2 h.2
       go_wp2
       go_roundw
       case rel=>exact⟨j+1,by omega,by go_num,HN.out,trivial⟩
       case measure=>simp [intOf];omega
     ·have d1:decide (200 < xs)=false:=decide_eq_false h1
      have HN:Hid ((mL.take (j+1)).any bigV=false):=by show _=_;rw [HSH.out,HBE.out];exact decide_eq_false fun h=>h1 h.1
      go_wp2
      go_roundw
      case rel=>exact⟨j+1,by omega,by go_num,HN.out,trivial⟩
      case measure=>simp [intOf];omega
    ·have hje:mL.take j=mL:=List.take_of_length_le (by omega)
     have HN:Hid (mL.any bigV=false):=by have:=HANY.out;rw [hje] at this;exact this
     have HW3:Hid (((ni:Int)+20+(bn:Int))=((weighM (l.take (i+1)):Nat):Int)):=by show _=_;rw [HWTI.out];omega
     clear hje HANY
     go_wp2
     go_roundw
     case rel=>exact⟨i+1,by omega,by go_num,by rw [<- HW3.out],HNX.out HN.out,(HCE.out wr HB12.out).2.2⟩
     case measure=>simp [intOf];omega
  ·have HRE:Hid (R=decide (weighM (l.take ml.length) < 6000)):=HEN.out fun j hj=>HALL.out j (by omega)
   have hie:i=ml.length:=by omega
   rw [<- hie] at HRE
   clear hB hie
   generalize weighM (l.take i)=ni at *
   go_wp2
   go_ret
   exact⟨ret_bool (by rw [HRE.out];exact decide_eq_decide.2 (by omega)),HB.out⟩
end Go.Proofs.YtmhoiodfppdlnaaGreatDoor
namespace Go.Proofs.YtmhoiodfppdlnaaGreatDoor
open Go.ChangeShapes Go.WideShapes Go.ChangeAt Go.RowKit
def MsgI (x:Msg):Prop:=(∀ v ∈ x.L,VerI64 v)/\(-9223372036854775808<=x.config/\x.config<=9223372036854775807)
theorem aCellsBool:Tryz.prog.cellsOf 4=1:=by kernel_rfl
theorem aCellsMsg:Tryz.prog.cellsOf 59=8:=by kernel_rfl
theorem aMsgFields:∃ f0 f1 f2 f3 f4 f5 f6 f7,Tryz.prog.underlying 59=some (.struct #[f0,f1,f2,f3,f4,f5,f6,f7])/\(f0.offset=0/\f1.offset=1/\f2.offset=2/\f3.offset=3/\f4.offset=4/\f5.offset=5/\f6.offset=6/\f7.offset=7)/\f0.type=9/\f1.type=9/\f2.type=9/\f3.type=9/\f4.type=3/\f5.type=3/\f6.type=4/\f7.type=55:=⟨_,_,_,_,_,_,_,_,Tryz.underlying59,⟨rfl,rfl,rfl,rfl,rfl,rfl,rfl,rfl⟩,rfl,rfl,rfl,rfl,rfl,rfl,rfl,rfl⟩
theorem bulkV_tol (l:List Ver):bulkV l<=60*tolN l:=by
 induction l with
 | nil=>exact Nat.le_refl _
 | cons v l ih =>
  have e:tolN (v :: l)=1+v.text.size / 20+tolN l:=by simp [tolN]
  have e':bulkV (v :: l)=40+v.text.size+bulkV l:=by simp [bulkV]
  omega
theorem msg_elem9 {H:Type}{m:DataW H->Nat}(hb:IsBulk m){enc:TypeId×Value->H}{W:World}{fuel:Nat}{cs:List Value}{y:DataW H×List MemPlace}(h:DataW.trod enc Tryz.prog W 0 (fun _=>true) true fuel 59 cs=some y)(hcl:cs.length=8):∃ x:Msg×Lv,cs=msgC x/\HasL W x/\MsgI x.1/\20+bulkN x.1<=60*m y.1:=by
 obtain⟨f0,f1,f2,f3,f4,f5,f6,f7,hst,⟨o0,o1,o2,o3,o4,o5,o6,o7⟩,t0,t1,t2,t3,t4,t5,t6,t7⟩:=aMsgFields
 obtain⟨xs,n,_,hx,_,hlen,hr⟩:=DataW.trod_struct hst h
 match cs,hcl,xs,hlen with
 | [v0,v1,v2,v3,v4,v5,v6,v7],_,[y0,y1,y2,y3,y4,y5,y6,y7],_ =>
  have r0:=hr 0 f0 rfl
  have r1:=hr 1 f1 rfl
  have r2:=hr 2 f2 rfl
  have r3:=hr 3 f3 rfl
  have r4:=hr 4 f4 rfl
  have r5:=hr 5 f5 rfl
  have r6:=hr 6 f6 rfl
  have r7:=hr 7 f7 rfl
  rw [t0,o0,qCellsStr] at r0
  rw [t1,o1,qCellsStr] at r1
  rw [t2,o2,qCellsStr] at r2
  rw [t3,o3,qCellsStr] at r3
  rw [t4,o4,vCellsInt] at r4
  rw [t5,o5,vCellsInt] at r5
  rw [t6,o6,aCellsBool] at r6
  rw [t7,o7,qCellsVers] at r7
  obtain⟨m1,h1,e1,_⟩:=DataW.trod_string Tryz.underlying9 (show DataW.trod _ _ _ _ _ _ _ _ [v0]=some y0 from r0)
  obtain⟨m2,h2,e2,_⟩:=DataW.trod_string Tryz.underlying9 (show DataW.trod _ _ _ _ _ _ _ _ [v1]=some y1 from r1)
  obtain⟨m3,h3,e3,_⟩:=DataW.trod_string Tryz.underlying9 (show DataW.trod _ _ _ _ _ _ _ _ [v2]=some y2 from r2)
  obtain⟨m4,h4,e4,_⟩:=DataW.trod_string Tryz.underlying9 (show DataW.trod _ _ _ _ _ _ _ _ [v3]=some y3 from r3)
  obtain⟨m5,h5,_,_⟩:=DataW.trod_int Tryz.underlying3 (show DataW.trod _ _ _ _ _ _ _ _ [v4]=some y4 from r4)
  obtain⟨m6,h6,_,w6⟩:=DataW.trod_int Tryz.underlying3 (show DataW.trod _ _ _ _ _ _ _ _ [v5]=some y5 from r5)
  obtain⟨m7,h7,_⟩:=DataW.trod_bool Tryz.underlying4 (show DataW.trod _ _ _ _ _ _ _ _ [v6]=some y6 from r6)
  obtain⟨p,L,c,h8,hrec,hrm,hn,hvs,hll⟩:=vers_arg8 hb (show DataW.trod _ _ _ _ _ _ _ _ [v7]=some y7 from r7)
  simp only [List.cons.injEq,and_true] at h1 h2 h3 h4 h5 h6 h7
  subst h1 h2 h3 h4 h5 h6 h7 h8
  refine⟨(⟨m1,m2,m3,m4,m5,m6,m7,L⟩,(p,L.length,c)),rfl,⟨rfl,hrec,hrm,hn⟩,⟨hvs,by simp [Lit.wf,IntKind.min,IntKind.max,IntKind.bits,IntKind.signed] at w6;exact w6⟩,?_⟩
  have hd:y.1=.agg [y0.1,y1.1,y2.1,y3.1,y4.1,y5.1,y6.1,y7.1]:=by rw [hx];rfl
  have hs:=hb.agg [y0.1,y1.1,y2.1,y3.1,y4.1,y5.1,y6.1,y7.1]
  rw [<- hd] at hs
  simp only [List.map_cons,List.map_nil,List.sum_cons,List.sum_nil] at hs
  have b1:m1.size<=m y0.1:=by rw [e1];exact hb.str' m1
  have b2:m2.size<=m y1.1:=by rw [e2];exact hb.str' m2
  have b3:m3.size<=m y2.1:=by rw [e3];exact hb.str' m3
  have b4:m4.size<=m y3.1:=by rw [e4];exact hb.str' m4
  have b5:=hb.one y4.1
  have b6:=bulkV_tol L
  show 20+(m1.size+m2.size+m3.size+m4.size+bulkV L)<=_
  omega
theorem msgs_arg9 {H:Type}{m:DataW H->Nat}(hb:IsBulk m){enc:TypeId×Value->H}{W:World}{fuel:Nat}{v:Value}{y:DataW H×List MemPlace}(h:DataW.trod enc Tryz.prog W 0 (fun _=>true) true fuel 27 [v]=some y) :
 ∃ p l cap,v=.slice p l.length cap/\MsgsAt W p l/\(∀ x ∈ l,MsgI x)/\weighM l<=60*m y.1:=by
 rcases Deep.open_slice Tryz.underlying27 h with ⟨hcs,_⟩ | ⟨a,len0,cap0,m0,nn,D,Pl,hcs,_,hle,hcm,hm,hy,hx⟩
 ·simp at hcs
  subst hcs
  exact⟨none,[],0,rfl,MsgsAt.nil _ _,(fun x hx=>by cases hx),Nat.zero_le _⟩
 ·simp at hcs
  subst hcs
  have hlm:len0<=m0:=by rw [hm];split <;> omega
  have hsum:((List.range len0).map fun i=>m (D i)).sum<=m y.1:=by
   rw [hy]
   have h1:=hb.slice ((List.range len0).map D)
   simp only [List.map_map] at h1
   exact h1 _
  have hv:∀ i,∃ x:Msg×Lv,i < len0->(∀ j u,(msgC x)[j]?=some u->W.cell? ((a.add (i*8)).add j)=some u)/\HasL W x/\MsgI x.1/\20+bulkN x.1<=60*m (D i):=fun i=>by
   by_cases hi:i < len0
   ·obtain⟨cs',h1,h2⟩:=hx i (by omega)
    rw [aCellsMsg] at h1
    obtain⟨_,hlen,hcell⟩:=World.cells?_some h1
    obtain⟨x,hcx,hfx,hvx,hbx⟩:=msg_elem9 hb h2 hlen
    refine⟨x,fun _=>⟨fun j u hj=>?_,hfx,hvx,hbx⟩⟩
    have hj8:j < 8:=(List.getElem?_eq_some_iff.1 hj).1
    have:=hcell j (by omega)
    rw [this,hcx]
    exact hj
   ·exact⟨(⟨⟨#[]⟩,⟨#[]⟩,⟨#[]⟩,⟨#[]⟩,0,0,false,[]⟩,(none,0,0)),fun h=>absurd h hi⟩
  obtain⟨R,hR⟩:∃ R:Nat->Msg×Lv,∀ i,i < len0->(∀ j u,(msgC (R i))[j]?=some u->W.cell? ((a.add (i*8)).add j)=some u)/\HasL W (R i)/\MsgI (R i).1/\20+bulkN (R i).1<=60*m (D i):=⟨fun i=>Classical.choose (hv i),fun i=>Classical.choose_spec (hv i)⟩
  clear hv
  have hlen:((List.range len0).map R).length=len0:=by simp
  have hat:∀ i,i < len0->((List.range len0).map R)[i]?=some (R i):=fun i hi=>by
   rw [List.getElem?_map,List.getElem?_range hi]
   rfl
  refine⟨some a,((List.range len0).map R).map Prod.fst,cap0,by rw [List.length_map,hlen],⟨(List.range len0).map R,rfl,?_,fun x hxm=>?_⟩,fun x hxm=>?_,?_⟩
  ·by_cases h0:len0=0
   ·exact Or.inl (List.length_eq_zero_iff.1 (by rw [hlen];exact h0))
   ·obtain⟨u0,hx0⟩:∃ u,W.cell? ((a.add (0*8)).add 0)=some u:=⟨_,(hR 0 (by omega)).1 0 _ rfl⟩
    obtain⟨b,off,sp⟩:=a
    have hsp:sp=none:=by
     cases sp with
     | none=>rfl
     | some q =>
      exfalso
      simp [Addr.add,World.cell?] at hx0
      revert hx0
      split <;> intro h9 <;> cases h9
    subst hsp
    refine Or.inr ⟨b,off,rfl,?_,fun i x hxi j u hj=>?_⟩
    ·rw [Addr.add_lit,Addr.add_lit] at hx0
     rcases Nat.lt_or_ge b W.heap.size with h' | h'
     ·exact h'
     ·simp [World.cell?,Array.getElem?_eq_none h'] at hx0
    ·have hi:i < len0:=by have:=(List.getElem?_eq_some_iff.1 hxi).1;rw [hlen] at this;exact this
     rw [hat i hi] at hxi
     have e:=Option.some.inj hxi
     have hc:=(hR i hi).1 j u (by rw [e];exact hj)
     rw [Addr.add_lit,Addr.add_lit] at hc
     exact hc
  ·obtain⟨i,hi,rfl⟩:=List.mem_map.1 hxm
   exact(hR i (List.mem_range.1 hi)).2.1
  ·obtain⟨z,hz,rfl⟩:=List.mem_map.1 hxm
   obtain⟨i,hi,rfl⟩:=List.mem_map.1 hz
   exact(hR i (List.mem_range.1 hi)).2.2.1
  ·have h2 : weighM (((List.range len0).map R).map Prod.fst) <= ((List.range len0).map fun i => 60 * m (D i)).sum := by
    unfold weighM
    rw [List.map_map,List.map_map]
    exact sum_range_le len0 fun i hi=>(hR i hi).2.2.2
   have h3:∀ (L:List Nat),(L.map fun i=>60*m (D i)).sum=60*(L.map fun i=>m (D i)).sum:=by
    intro L
    induction L with
    | nil=>rfl
    | cons x r ih=>simp only [List.map_cons,List.sum_cons,ih];omega
   rw [h3] at h2
   omega
end Go.Proofs.YtmhoiodfppdlnaaGreatDoor
