import Derived.Test.YtghpdhegfnhmkaaGreatDoorS4
import Derived.Test.YtghpdhegfnhmkaaGreatDoorS21
namespace Go.Proofs.YtghpdhegfnhmkaaGreatDoor
open Go.RowKit
def pickN (k:Nat) (l:List (Int×ByteArray)):Nat->List (Int×ByteArray)
 | 0=>[]
 | i+1=>if decide ((pickN k l i).length < k) && !(pickN k l i).any (fun y=>y.1==(shAt l i).1) then pickN k l i ++ [shAt l i] else pickN k l i
theorem pickN_yes {k:Nat} {l:List (Int×ByteArray)} {i:Nat} (h1:(pickN k l i).length < k) (h2:(pickN k l i).any (fun y=>y.1==(shAt l i).1)=false):pickN k l (i+1)=pickN k l i ++ [shAt l i]:=by
 show (if _ then _ else _)=_
 rw [if_pos (by rw [decide_eq_true h1,h2];rfl)]
theorem pickN_full {k:Nat} {l:List (Int×ByteArray)} {i:Nat} (h1:¬ (pickN k l i).length < k):pickN k l (i+1)=pickN k l i:=by
 show (if _ then _ else _)=_
 rw [if_neg (by rw [decide_eq_false h1];simp)]
theorem pickN_twice {k:Nat} {l:List (Int×ByteArray)} {i:Nat} (h2:(pickN k l i).any (fun y=>y.1==(shAt l i).1)=true):pickN k l (i+1)=pickN k l i:=by
 show (if _ then _ else _)=_
 rw [if_neg (by rw [h2];simp)]
theorem pickN_le (k:Nat) (l:List (Int×ByteArray)):∀ i,(pickN k l i).length<=k
 | 0=>Nat.zero_le _
 | i+1=>by
  by_cases h1:(pickN k l i).length < k
  ·by_cases h2:(pickN k l i).any (fun y=>y.1==(shAt l i).1)=true
   ·rw [pickN_twice h2];omega
   ·rw [pickN_yes h1 (Bool.eq_false_iff.2 h2),List.length_append,List.length_singleton];omega
  ·rw [pickN_full h1];exact pickN_le k l i
theorem pickN_sub (k:Nat) (l:List (Int×ByteArray)):∀ i,i<=l.length->∀ x ∈ pickN k l i,x ∈ l
 | 0,_,x,h=>by cases h
 | i+1,hi,x,h=>by
  by_cases h1:(pickN k l i).length < k
  ·by_cases h2:(pickN k l i).any (fun y=>y.1==(shAt l i).1)=true
   ·rw [pickN_twice h2] at h;exact pickN_sub k l i (by omega) x h
   ·rw [pickN_yes h1 (Bool.eq_false_iff.2 h2)] at h
    rcases List.mem_append.1 h with h | h
    ·exact pickN_sub k l i (by omega) x h
    ·rw [List.mem_singleton.1 h];exact shAt_mem (by omega)
  ·rw [pickN_full h1] at h;exact pickN_sub k l i (by omega) x h
theorem pickN_nodup (k:Nat) (l:List (Int×ByteArray)):∀ i,((pickN k l i).map Prod.fst).Nodup
 | 0=>List.nodup_nil
 | i+1=>by
  by_cases h1:(pickN k l i).length < k
  ·by_cases h2:(pickN k l i).any (fun y=>y.1==(shAt l i).1)=true
   ·rw [pickN_twice h2];exact pickN_nodup k l i
   ·have h2':(pickN k l i).any (fun y=>y.1==(shAt l i).1)=false:=Bool.eq_false_iff.2 h2
    rw [pickN_yes h1 h2',List.map_append,List.nodup_append]
    refine ⟨pickN_nodup k l i,by simp,fun a ha b hb e=>?_⟩
    obtain ⟨y,hy,rfl⟩:=List.mem_map.1 ha
    have hb':b=(shAt l i).1:=by simpa using hb
    have:=List.any_eq_false.1 h2' y hy
    exact this (by simp [e,hb'])
  ·rw [pickN_full h1];exact pickN_nodup k l i
theorem shVals_snoc (l:List (Int×ByteArray)) (x:Int×ByteArray):shVals (l ++ [x])=shVals l ++ [.int .i64 x.1,.string x.2]:=by simp [shVals]
set_option maxRecDepth 10000 in
theorem unlike1_any (px:Nat) (x y:Int) (t:ByteArray) (w:World) (hx:w.cell? ⟨px,0,none⟩=some (.int .i64 x)) :
 Calls Tryz.prog 116 (#[.agg #[.int .i64 y,.string t]] ++ #[.pointer (some ⟨px,0,none⟩)]) w fun e w2=>e=.returned (.bool (y==x))/\Below w.heap.size w w2:=by
 have hlt:=lt_of_cell hx
 go_enter Tryz.func116,Tryz.ntmps116
 go_wp2
 go_ret
 exact ⟨rfl,(Below.refl _ _).alloc (Nat.le_refl _) _⟩
def badB (n:Int) (wd:Nat) (x:Int×ByteArray):Bool:=decide (x.1 < 0) || decide (n<=x.1) || !decide (x.2.size=wd)
set_option maxRecDepth 10000 in
set_option maxHeartbeats 4000000 in
theorem first_any (k:Nat) (p:Option Addr) (l:List (Int×ByteArray)) (cap:Nat) (w:World) (hk:k<=1000) (hl:l.length<=1000) (hs:Shs w p l) :
 Calls Tryz.prog 106 #[.int .i64 (k:Int),.slice p l.length cap] w fun e w'=>(∃ p' c',e=.returned (.slice p' (pickN k l l.length).length c')/\Shs w' p' (pickN k l l.length))/\Below w.heap.size w w':=by
 have HS:Hid (Shs w p l):=hs
 obtain ⟨i1,hi1,hy0,hy1,hy2⟩:=info_parts shinfo
 have hmk:∀ W:World,Sem.run Tryz.prog (Instr.makeSlice 32 (.int .i64 0) (.int .i64 (k:Int))) W=.ok (.slice (some ⟨W.heap.size,0,none⟩) 0 k) (W.alloc (.cells (madeCells #[.int .i64 0,.string ⟨#[]⟩] (k*2)) 45)):=fun W=>by
  have hr:=run_make (P:=Tryz.prog) W 32 45 i1 _ Tryz.underlying32 hi1 hy0 .i64 .i64 0 k (by omega) (by omega) (by rw [hy2];omega) (by omega)
  simp only [Int.toNat_natCast,hy1] at hr
  exact hr
 clear hs
 go_enter Tryz.func106,Tryz.ntmps106
 go_wp2
 have hO0:(w.alloc (.cells (madeCells #[.int .i64 0,.string ⟨#[]⟩] (k*2)) 45)).ownsRow w.heap.size 45 2 (.slice (some ⟨w.heap.size,0,none⟩) 0 k) 0 []:=World.ownsRow_made w _ k (Nat.le_refl _) (by unfold maxLen;omega) (size_madeCells _ _)
 have hB0:Below w.heap.size w (w.alloc (.cells (madeCells #[.int .i64 0,.string ⟨#[]⟩] (k*2)) 45)):=(Below.refl _ _).alloc (Nat.le_refl _) _
 generalize w.alloc (.cells (madeCells #[.int .i64 0,.string ⟨#[]⟩] (k*2)) 45)=w0 at hO0 hB0 ⊢
 have HO0:Hid (w0.ownsRow w.heap.size 45 2 (.slice (some ⟨w.heap.size,0,none⟩) 0 k) 0 []):=hO0
 have HB0:Hid (Below w.heap.size w w0):=hB0
 clear hO0 hB0 hmk
 go_loopw [5,12] (fun v x wr=>∃ i:Nat,i<=l.length/\x=.int .i64 i/\wr.ownsRow w.heap.size 45 2 v (pickN k l i).length (shVals (pickN k l i))/\Below w.heap.size w wr) (fun _ x _=>l.length - (intOf x).toNat)
 case atStart=>exact ⟨0,by omega,rfl,HO0.out,HB0.out⟩
 case round =>
  obtain ⟨i,hi,rfl,hO,hB⟩:=hrel
  obtain ⟨w3,rfl⟩:∃ w3,w3=wr:=⟨_,rfl⟩
  obtain ⟨pv,cv,rfl,hsh⟩:=shs_of_own hO
  have HO:Hid (w3.ownsRow w.heap.size 45 2 (.slice pv (pickN k l i).length cv) (pickN k l i).length (shVals (pickN k l i))):=hO
  have HB:Hid (Below w.heap.size w w3):=hB
  have HSH:Hid (Shs w3 pv (pickN k l i)):=hsh
  have hz3:w.heap.size<=w3.heap.size:=hB.size
  clear hO hB hsh HO0 HB0
  by_cases hil:i < l.length
  ·rcases (HS.out.below HB.out) with h0 | ⟨b1,o1,rfl,hb1,hc1⟩
   ·rw [h0] at hil;simp at hil
   obtain ⟨q1,q2⟩:=hc1 i hil
   clear hc1
   have HF:Hid (pickN k l (i+1)=pickN k l (i+1)):=by show _=_;rfl
   have hle:=pickN_le k l i
   by_cases hlt:(pickN k l i).length < k
   ·obtain ⟨w4,hw4⟩:∃ w4,w4=w3.alloc (.cells #[.int .i64 (shAt l i).1,.string (shAt l i).2] 45):=⟨_,rfl⟩
    have hb4:Below w3.heap.size w3 w4:=by rw [hw4];exact (Below.refl _ _).alloc (Nat.le_refl _) _
    have hs4:w4.heap.size=w3.heap.size+1:=by rw [hw4];simp
    have hx4:w4.cell? ⟨w3.heap.size,0,none⟩=some (.int .i64 (shAt l i).1):=by rw [hw4,World.cell?_alloc_at _ _ _ _ rfl];rfl
    have ht4:w4.cell? ⟨w3.heap.size,1,none⟩=some (.string (shAt l i).2):=by rw [hw4,World.cell?_alloc_at _ _ _ _ rfl];rfl
    have HASK:Asks w4 116 #[.pointer (some ⟨w3.heap.size,0,none⟩)] (pickN k l i) (fun y=>y.1==(shAt l i).1):=fun j hj w5 h5 =>
     unlike1_any w3.heap.size (shAt l i).1 (shAt (pickN k l i) j).1 (shAt (pickN k l i) j).2 w5 ((h5.cell (p:=⟨w3.heap.size,0,none⟩) (by show w3.heap.size < _;omega)).trans hx4)
    have HC:=contains_any pv (pickN k l i) cv 116 #[.pointer (some ⟨w3.heap.size,0,none⟩)] (fun y=>y.1==(shAt l i).1) w4 (by omega) (HSH.out.below hb4) (enters_of Tryz.func116 (by kernel_rfl) rfl) HASK
    have HW4:Hid (w4=w3.alloc (.cells #[.int .i64 (shAt l i).1,.string (shAt l i).2] 45)):=hw4
    have HB4:Hid (Below w.heap.size w w4):=HB.out.trans (hb4.mono hz3)
    have HO4:Hid (w4.ownsRow w.heap.size 45 2 (.slice pv (pickN k l i).length cv) (pickN k l i).length (shVals (pickN k l i))):=World.ownsRow.kept HO.out (below_grown hb4 none) (by cases hv:(Value.slice pv (pickN k l i).length cv).ownBlock <;> simp)
    have hs4':w3.heap.size < w4.heap.size:=by omega
    by_cases hany:(pickN k l i).any (fun y=>y.1==(shAt l i).1)=true
    ·have HP:Hid (pickN k l (i+1)=pickN k l i):=pickN_twice hany
     rw [hany] at HC
     clear hany hw4 hb4 hs4 hx4 ht4 HASK HF
     generalize pickN k l i=so at *
     go_wp2_with fail
     rw [<- HW4.out]
     refine HC.mono ?_
     rintro e w6 ⟨rfl,hb6⟩
     have HB6:Hid (Below w.heap.size w w6):=HB4.out.trans (hb6.mono HB4.out.size)
     have HO6:Hid (w6.ownsRow w.heap.size 45 2 (.slice pv so.length cv) so.length (shVals so)):=World.ownsRow.kept HO4.out (below_grown hb6 none) (by cases hv:(Value.slice pv so.length cv).ownBlock <;> simp)
     clear HC hb6
     go_wp2
     go_roundw
     case rel=>exact ⟨i+1,by omega,by go_num,by rw [HP.out];exact HO6.out,HB6.out⟩
     case measure=>simp [intOf];omega
    ·have hany':(pickN k l i).any (fun y=>y.1==(shAt l i).1)=false:=Bool.eq_false_iff.2 hany
     have HP:Hid (pickN k l (i+1)=pickN k l i ++ [shAt l i]):=pickN_yes hlt hany'
     rw [hany'] at HC
     have HX4:Hid (∀ W,Below w4.heap.size w4 W->W.cell? ⟨w3.heap.size,0,none⟩=some (.int .i64 (shAt l i).1)/\W.cell? ⟨w3.heap.size,1,none⟩=some (.string (shAt l i).2)):=fun W hW=>⟨(hW.cell (p:=⟨w3.heap.size,0,none⟩) (by show w3.heap.size < _;omega)).trans hx4,(hW.cell (p:=⟨w3.heap.size,1,none⟩) (by show w3.heap.size < _;omega)).trans ht4⟩
     clear hany hany' hw4 hb4 hs4 hx4 ht4 HASK HF
     generalize pickN k l i=so at *
     go_wp2_with fail
     rw [<- HW4.out]
     refine HC.mono ?_
     rintro e w6 ⟨rfl,hb6⟩
     have HB6:Hid (Below w.heap.size w w6):=HB4.out.trans (hb6.mono HB4.out.size)
     have HO6:Hid (w6.ownsRow w.heap.size 45 2 (.slice pv so.length cv) so.length (shVals so)):=World.ownsRow.kept HO4.out (below_grown hb6 none) (by cases hv:(Value.slice pv so.length cv).ownBlock <;> simp)
     obtain ⟨r1,r2⟩:=HX4.out w6 hb6
     have hz6:w.heap.size<=w6.heap.size:=HB6.out.size
     clear HC hb6 q1 q2 HX4 HW4 HO4 HB4
     generalize shAt l i=xs at *
     obtain ⟨x,t⟩:=xs
     go_wp2_with (first | (at_builtin;refine wpList_append_own _ rfl (.tmp 26) (.tmp 28) 32 rfl w.heap.size 45 i1 (.agg #[.int .i64 0,.string ⟨#[]⟩]) 2 24 Tryz.underlying32 hi1 hy0 hy1 hy2 rfl (by decide) (.slice pv so.length cv) so.length (shVals so) rfl (World.ownsRow.alloc HO6.out _) ⟨w6.heap.size,0,none⟩ 1 1 [.int .i64 x,.string t] rfl rfl (fun j u hj=>by match j,hj with | 0,hj=>(simp at hj;subst hj;simp [Addr.add]) | 1,hj=>(simp at hj;subst hj;simp [Addr.add])) (fun u hu=>by simp at hu;rcases hu with rfl | rfl <;> rfl) (by unfold maxLen;omega) (by omega) (by simp;omega) ?_;intro v' w8 hown' hg' _))
     have hb8:Below w.heap.size w w8:=(HB6.out.alloc (by omega) _).grown hg' (by simp;omega) (fun g hg=>(World.ownsRow.lt HO6.out g hg).1)
     go_roundw
     case rel=>exact ⟨i+1,by omega,by go_num,by rw [HP.out,shVals_snoc,List.length_append,List.length_singleton];exact hown',hb8⟩
     case measure=>simp [intOf];omega
   ·have HP:Hid (pickN k l (i+1)=pickN k l i):=pickN_full hlt
    have HB4:Hid (Below w.heap.size w (w3.alloc (.cells #[.int .i64 (shAt l i).1,.string (shAt l i).2] 45))):=HB.out.alloc hz3 _
    have HO4:Hid ((w3.alloc (.cells #[.int .i64 (shAt l i).1,.string (shAt l i).2] 45)).ownsRow w.heap.size 45 2 (.slice pv (pickN k l i).length cv) (pickN k l i).length (shVals (pickN k l i))):=World.ownsRow.alloc HO.out _
    clear HF
    generalize pickN k l i=so at *
    go_wp2
    go_roundw
    case rel=>exact ⟨i+1,by omega,by go_num,by rw [HP.out];exact HO4.out,HB4.out⟩
    case measure=>simp [intOf];omega
  ·have hie:i=l.length:=by omega
   subst hie
   go_wp2
   go_ret
   exact ⟨⟨pv,cv,rfl,HSH.out⟩,HB.out⟩
end Go.Proofs.YtghpdhegfnhmkaaGreatDoor
