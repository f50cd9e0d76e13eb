import Derived.Test.YtghpdhegfnhmkaaGreatDoorR26
import Derived.Test.YtghpdhegfnhmkaaGreatDoorR44
import Derived.Test.YtghpdhegfnhmkaaGreatDoorR22
import Derived.BigQuiet
namespace Go.Proofs.YtghpdhegfnhmkaaGreatDoor
open Go.RowKit
theorem wpList_append_run {ops:Array Oper} {rest:List Oper} {o:Oper} {a:Act} {Q:Exit->Act->World->Prop} {w w':World} {v u v':Value} (hgd:o.guard=none) (s x:Operand) (t:TypeId)
 (ho:o.op=.call { callee:=.builtin .append,args:=#[s,x],argTypes:=#[t,t] }) (hs:a.eval s=v) (hx:a.eval x=u) (hr:∀ ty,(Builtin.append_ #[t,t] ty #[v,u]).run Tryz.prog w=.ok v' w')
 (h:wpList Tryz.prog ops Q rest (a.put o.dst v') w'):wpList Tryz.prog ops Q (o :: rest) a w:=by
 refine wpList_plain hgd fun K hK=>?_
 unfold Oper.wp execOp
 simp only [ho,resolve,invoke,builtin,Sem.run_bind,Sem.run_pure,Result.andThen_ok,List.map_toArray,List.map_cons,List.map_nil,hs,hx,hr]
 exact hK _ _ h
section
variable {W W':World} {B:Nat} {Ka Kb:List (Option (List Kep))} {hp hm:Nat->Nat} {O:Nat->Option Nat} {Pa Pb:List (Option Nat)} {va vb:Value}
theorem SvAt.push (h:SvAt W B Ka Kb hp hm O Pa Pb va vb) (hla:Pa.length<=8796093022206) (hlb:Pb.length<=8796093022206) (x y:Option Nat) :
 ∃ qa na ca w2,(∀ ty,(Builtin.append_ #[34,34] ty #[va,.slice (some ⟨W.heap.size,0,none⟩) 1 1]).run Tryz.prog (W.alloc (.cells #[.pointer (x.map fun b=>⟨b,0,none⟩)] 35))=.ok (.slice qa na ca) w2) /\
  ∃ qb nb cb w4,(∀ ty,(Builtin.append_ #[55,55] ty #[vb,.slice (some ⟨w2.heap.size,0,none⟩) 1 1]).run Tryz.prog (w2.alloc (.cells #[.pointer (y.map fun b=>⟨b,0,none⟩)] 66))=.ok (.slice qb nb cb) w4) /\
   SvAt w4 B Ka Kb hp hm O (Pa ++ [x]) (Pb ++ [y]) (.slice qa na ca) (.slice qb nb cb)/\Below B W w4:=by
 have hb1:Below W.heap.size W (W.alloc (.cells #[.pointer (x.map fun b=>⟨b,0,none⟩)] 35)):=(Below.refl _ _).alloc (Nat.le_refl _) _
 obtain ⟨v1,w2,a1,⟨qa,na,ca,rfl⟩,a3,a4⟩:=(h.below hb1).appA hla (b:=W.heap.size) (x:=x) (by simp) (by rw [World.cell?_alloc_at _ _ _ _ rfl];rfl)
 have hb2:Below w2.heap.size w2 (w2.alloc (.cells #[.pointer (y.map fun b=>⟨b,0,none⟩)] 66)):=(Below.refl _ _).alloc (Nat.le_refl _) _
 obtain ⟨v2,w4,b1,⟨qb,nb,cb,rfl⟩,b3,b4⟩:=(a3.below hb2).appB hlb (b:=w2.heap.size) (x:=y) (by simp) (by rw [World.cell?_alloc_at _ _ _ _ rfl];rfl)
 exact ⟨qa,na,ca,w2,a1,qb,nb,cb,w4,b1,b3,((hb1.mono h.base).trans a4).trans ((hb2.mono a3.base).trans b4)⟩
theorem set_snoc {α:Type} (l:List α) (x y:α):(l ++ [x]).set l.length y=l ++ [y]:=by
 rw [List.set_append_right _ _ (Nat.le_refl _),Nat.sub_self]
 rfl
theorem get_snoc {α:Type} (l:List α) (x:α):(l ++ [x])[l.length]?=some x:=by
 rw [List.getElem?_append_right (Nat.le_refl _),Nat.sub_self]
 rfl
theorem SvAt.both {ad:Nat->Addr} {Ks:List (Option (List Kep))} {X:List Kep} {key:ByteArray} {v:Ver} {w:World} (hk:key.size<=maxLen) (ht:v.text.size<=maxLen) (hX:X.length<=60)
 (h:SvAt W B (Ks ++ [some X]) (Ks ++ [some X]) hp hm O Pa Pb va vb) (hE:HErrs W ad) (hw:Below B w W) :
 Calls Tryz.prog 10 #[.pointer (some ⟨hp Ks.length,0,none⟩),.string key,verA v] W fun e w3=>(∃ ev,e=.returned ev)/\Below B w w3 /\
  Calls Tryz.prog 22 #[.pointer (some ⟨hm Ks.length,0,none⟩),.string key,.agg #[.int .i64 v.n,.int .i64 v.who,.int .i64 v.size,.int .i64 v.at_,.string v.text]] w3 fun e w4=>(∃ z:Int,e=.returned (.int .i64 z))/\Below B w w4 /\
   ∃ O',SvAt w4 B (Ks ++ [some (putR X false key v).2]) (Ks ++ [some (putR X false key v).2]) hp hm O' Pa Pb va vb:=by
 have hi:(Ks ++ [some X])[Ks.length]?=some (some X):=get_snoc _ _
 refine (put_any (h.sh.own _ X hi) key v hk ht hE).mono fun e w3 hq=>?_
 obtain ⟨⟨ev,h1,_⟩,S',h3,h4⟩:=hq
 obtain ⟨O1,g1,g2⟩:=h.sh.put h.base hi h3 h4
 rw [set_snoc] at g1
 have hlow:Below B W w3:=g2.low h.base (fun k j e=>(h.sh.dom k j e).1)
 have s1:=h.turn g1 g2
 refine ⟨⟨ev,h1⟩,hw.trans hlow,(rput_any (hm Ks.length) X false key v w3 (by omega) ht (g1.model _ X hi).1).mono fun e w4 hq=>?_⟩
 obtain ⟨m1,m2,m3⟩:=hq
 obtain ⟨O2,k1,k2⟩:=g1.mput s1.base hi m2 m3
 rw [set_snoc] at k1
 exact ⟨⟨_,m1⟩,(hw.trans hlow).trans (k2.low s1.base (fun k j e=>(g1.dom k j e).1)),O2,s1.turn k1 k2⟩
end
set_option maxRecDepth 10000 in
set_option maxHeartbeats 8000000 in
theorem shelves_any (ad:Nat->Addr) (p:Option Addr) (l:List Shl) (cap:Nat) (key:ByteArray) (w:World) (hk:key.size<=maxLen) (hl:l.length<=8796093022206) (hx:∀ x ∈ l,x.L.length<=140737488355328/\∀ v ∈ x.L,v.text.size<=140737488355328) (hS:ShlsAt w p l) (hEr:∀ W,Below w.heap.size w W->HErrs W ad) :
 Calls Tryz.prog 16 #[.slice p l.length cap,.string key] w fun e w'=>(∃ va vb hp hm O,e=.returned (.tuple #[va,vb])/\SvAt w' w.heap.size (l.map (shlK key)) (l.map (shlK key)) hp hm O (ptL hp (l.map (shlK key))) (ptL hm (l.map (shlK key))) va vb)/\Below w.heap.size w w':=by
 obtain ⟨Kx,hKx⟩:∃ Kx:Nat->List (Option (List Kep)),Kx=fun i=>(l.take i).map (shlK key):=⟨_,rfl⟩
 have HK0:Hid (Kx 0=[]):=by show _=_;rw [hKx];rfl
 have HKE:Hid (Kx l.length=l.map (shlK key)):=by show _=_;rw [hKx];show (l.take l.length).map _=_;rw [List.take_length]
 have HKL:Hid (∀ i,i<=l.length->(Kx i).length=i):=fun i hi=>by rw [hKx];show ((l.take i).map _).length=i;rw [List.length_map,List.length_take];omega
 have HKS:Hid (∀ i,i < l.length->Kx (i+1)=Kx i ++ [shlK key (shlAt l i)]):=fun i hi=>by
  rw [hKx]
  show (l.take (i+1)).map _=(l.take i).map _ ++ _
  rw [List.take_add_one,shlAt_get hi,List.map_append]
  rfl
 have HS:Hid (ShlsAt w p l):=hS
 have HX:Hid (∀ i,i < l.length->(shlAt l i).L.length<=140737488355328/\∀ j,j < (shlAt l i).L.length->(verAt (shlAt l i).L j).text.size<=maxLen):=fun i hi=>by
  have h1:=hx _ (List.mem_of_getElem? (shlAt_get hi))
  exact ⟨h1.1,fun j hj=>by have:=h1.2 _ (List.mem_of_getElem? (verAt_get hj));unfold maxLen;omega⟩
 have HER:Hid (∀ W,Below w.heap.size w W->HErrs W ad):=hEr
 have HK:Hid (key.size<=maxLen):=hk
 rw [<- HKE.out]
 clear hS hx hEr hKx hk
 have HST:Hid (SvAt w w.heap.size (Kx 0) (Kx 0) (fun _=>0) (fun _=>0) (fun _=>none) (ptL (fun _=>0) (Kx 0)) (ptL (fun _=>0) (Kx 0)) (.slice none 0 0) (.slice none 0 0)):=by
  rw [HK0.out]
  exact ⟨⟨fun i L h=>by simp at h,fun i L h=>by simp at h,fun k j h=>by cases h⟩,OwnR.nil _ _ _,OwnR.nil _ _ _,(fun g h=>by cases h),(fun g h=>by cases h),(fun g h=>by cases h),Nat.le_refl _⟩
 generalize HGEN:(fun (e:Ending) (w':World)=>(∃ va vb hp hm O,e=.returned (.tuple #[va,vb])/\SvAt w' w.heap.size (Kx l.length) (Kx l.length) hp hm O (ptL hp (Kx l.length)) (ptL hm (Kx l.length)) va vb)/\Below w.heap.size w w')=G
 have HG:Hid (∀ e w',(∃ va vb hp hm O,e=.returned (.tuple #[va,vb])/\SvAt w' w.heap.size (Kx l.length) (Kx l.length) hp hm O (ptL hp (Kx l.length)) (ptL hm (Kx l.length)) va vb)/\Below w.heap.size w w'->G e w'):=fun e w' h=>by rw [<- HGEN];exact h
 clear HGEN
 go_enter Tryz.func16,Tryz.ntmps16
 go_wp2
 go_loopw [6,7,8] (fun va vb x wr=>∃ i:Nat,i<=l.length/\x=.int .i64 i/\(∃ hp hm O qa na ca qb nb cb,va=.slice qa na ca/\vb=.slice qb nb cb/\SvAt wr w.heap.size (Kx i) (Kx i) hp hm O (ptL hp (Kx i)) (ptL hm (Kx i)) va vb)/\Below w.heap.size w wr) (fun _ _ x _=>l.length - (intOf x).toNat)
 case atStart=>exact ⟨0,Nat.zero_le _,rfl,⟨_,_,_,none,0,0,none,0,0,rfl,rfl,HST.out⟩,Below.refl _ _⟩
 case round =>
  obtain ⟨i,hi,rfl,⟨hp,hm,O,qa0,na0,ca0,qb0,nb0,cb0,rfl,rfl,hSv⟩,hB⟩:=hrel
  obtain ⟨w1,rfl⟩:∃ w1,w1=wr:=⟨_,rfl⟩
  have HSV:Hid (SvAt w1 w.heap.size (Kx i) (Kx i) hp hm O (ptL hp (Kx i)) (ptL hm (Kx i)) (.slice qa0 na0 ca0) (.slice qb0 nb0 cb0)):=hSv
  have HB:Hid (Below w.heap.size w w1):=hB
  clear hSv hB HST
  by_cases hil:i < l.length
  ·obtain ⟨b,o,rfl,hlt,c0,c1,hrec⟩:=shl_cells (HS.out.below HB.out) hil
   have hlt0:b < w.heap.size:=by
    obtain ⟨b',o',e,h,_⟩:=shl_cells HS.out hil
    obtain ⟨rfl,_⟩:b=b'/\o=o':=by simpa using e
    exact h
   obtain ⟨hLl,hTx⟩:=HX.out i hil
   have HNX:Hid (Kx (i+1)=Kx i ++ [shlK key (shlAt l i)]):=HKS.out i hil
   have hlen:=HKL.out i hi
   have HPL:Hid (∀ h:Nat->Nat,(ptL h (Kx i)).length=i):=fun h=>(ptL_length _ _).trans hlen
   have HLEN:Hid ((Kx i).length=i):=hlen
   clear hlen
   cases hno:(shlAt l i).no with
   | true =>
    have HNX2:Hid (Kx (i+1)=Kx i ++ [none]):=by show _=_;rw [HNX.out];unfold shlK;rw [if_pos hno]
    rw [hno] at c0
    obtain ⟨qa,na,ca,w2,a1,qb,nb,cb,w4,a2,a3,a4⟩:=HSV.out.push (by rw [HPL.out];omega) (by rw [HPL.out];omega) none none
    have HD:Hid (SvAt w4 w.heap.size (Kx (i+1)) (Kx (i+1)) hp hm O (ptL hp (Kx (i+1))) (ptL hm (Kx (i+1))) (.slice qa na ca) (.slice qb nb cb)):=by
     rw [HNX2.out,ptL_snocNone,ptL_snocNone]
     exact ⟨a3.sh.snocNone,a3.ra,a3.rb,a3.oa,a3.ob,a3.ab,a3.base⟩
    have HB4:Hid (Below w.heap.size w w4):=HB.out.trans a4
    simp only [Option.map_none] at a1 a2
    clear a3 a4 c1 hrec hno hTx hLl HNX
    have HA1:Hid (∀ ty,(Builtin.append_ #[34,34] ty #[.slice qa0 na0 ca0,.slice (some ⟨w1.heap.size,0,none⟩) 1 1]).run Tryz.prog (w1.alloc (.cells #[.pointer none] 35))=.ok (.slice qa na ca) w2):=a1
    have HA2:Hid (∀ ty,(Builtin.append_ #[55,55] ty #[.slice qb0 nb0 cb0,.slice (some ⟨w2.heap.size,0,none⟩) 1 1]).run Tryz.prog (w2.alloc (.cells #[.pointer none] 66))=.ok (.slice qb nb cb) w4):=a2
    clear a1 a2
    go_wp2_with (first | (at_builtin;refine wpList_append_run rfl (.tmp 23) (.tmp 24) 34 rfl rfl rfl HA1.out ?_) | (at_builtin;refine wpList_append_run rfl (.tmp 26) (.tmp 27) 55 rfl rfl rfl HA2.out ?_))
    go_roundw
    case rel=>exact ⟨i+1,by omega,by go_num,⟨_,_,_,_,_,_,_,_,_,rfl,rfl,HD.out⟩,HB4.out⟩
    case measure=>simp [intOf];omega
   | false =>
    have HNX2:Hid (Kx (i+1)=Kx i ++ [some (putsL key (shlAt l i).L)]):=by show _=_;rw [HNX.out];unfold shlK;rw [if_neg (by rw [hno];simp)]
    rw [hno] at c0
    have HHP:Hid (updN hp (Kx i).length w1.heap.size (Kx i).length=w1.heap.size):=by show updN _ _ _ _=_;exact if_pos rfl
    have HHM:Hid (updN hm (Kx i).length (w1.heap.size+1) (Kx i).length=w1.heap.size+1):=by show updN _ _ _ _=_;exact if_pos rfl
    have HPA:Hid (∀ X,ptL (updN hp (Kx i).length w1.heap.size) (Kx i ++ [some X])=ptL hp (Kx i) ++ [some w1.heap.size]):=fun X=>ptL_snoc _ _ _ _
    have HPB:Hid (∀ X,ptL (updN hm (Kx i).length (w1.heap.size+1)) (Kx i ++ [some X])=ptL hm (Kx i) ++ [some (w1.heap.size+1)]):=fun X=>ptL_snoc _ _ _ _
    obtain ⟨w3,hw3⟩:∃ w3,w3=(w1.alloc (.cells #[.map none, .bool false] 38)).alloc (.cells #[.slice none 0 0,.bool false] 95):=⟨_,rfl⟩
    obtain ⟨O3,hS3,hU3⟩:=HSV.out.sh.fresh HSV.out.base rfl hw3
    have hV3:=HSV.out.turn hS3 hU3
    generalize updN hp (Kx i).length w1.heap.size=hp' at *
    generalize updN hm (Kx i).length (w1.heap.size+1)=hm' at *
    have hB3:Below w.heap.size w w3:=by rw [hw3];exact (HB.out.alloc HB.out.size _).alloc (by have:=HB.out.size;simp;omega) _
    have HW3:Hid (w3=(w1.alloc (.cells #[.map none, .bool false] 38)).alloc (.cells #[.slice none 0 0,.bool false] 95)):=hw3
    obtain ⟨D,hD⟩:∃ D:Nat->World->Prop,D=fun k W=>(∃ O,SvAt W w.heap.size (Kx i ++ [some (putsL key ((shlAt l i).L.take k))]) (Kx i ++ [some (putsL key ((shlAt l i).L.take k))]) hp' hm' O (ptL hp (Kx i)) (ptL hm (Kx i)) (.slice qa0 na0 ca0) (.slice qb0 nb0 cb0))/\Below w.heap.size w W:=⟨_,rfl⟩
    have HD0:Hid (D 0 w3):=by rw [hD];exact ⟨⟨O3,hV3⟩,hB3⟩
    have HSW:Hid (∀ W,Below w.heap.size w W->W.cell? ⟨b,o+i*2+1,none⟩=some (.slice (shlAt l i).lp (shlAt l i).L.length (shlAt l i).lc)/\Rec verE W (shlAt l i).lp (shlAt l i).L):=fun W hW=>by
     obtain ⟨b',o',e,_,_,h1,h2⟩:=shl_cells (HS.out.below hW) hil
     obtain ⟨rfl,rfl⟩:b=b'/\o=o':=by simpa using e
     exact ⟨h1,h2⟩
    have HRD:Hid (∀ k,k < (shlAt l i).L.length->∀ W,D k W->W.cell? ⟨b,o+i*2+1,none⟩=some (.slice (shlAt l i).lp (shlAt l i).L.length (shlAt l i).lc)/\Rec verE W (shlAt l i).lp (shlAt l i).L /\
     Calls Tryz.prog 10 #[.pointer (some ⟨w1.heap.size,0,none⟩),.string key,verA (verAt (shlAt l i).L k)] W fun e w4=>(∃ ev,e=.returned ev)/\w4.cell? ⟨b,o+i*2+1,none⟩=some (.slice (shlAt l i).lp (shlAt l i).L.length (shlAt l i).lc)/\Rec verE w4 (shlAt l i).lp (shlAt l i).L /\
      Calls Tryz.prog 22 #[.pointer (some ⟨w1.heap.size+1,0,none⟩),.string key,.agg #[.int .i64 (verAt (shlAt l i).L k).n,.int .i64 (verAt (shlAt l i).L k).who,.int .i64 (verAt (shlAt l i).L k).size,.int .i64 (verAt (shlAt l i).L k).at_,.string (verAt (shlAt l i).L k).text]] w4 fun e w5=>(∃ z:Int,e=.returned (.int .i64 z))/\D (k+1) w5):=fun k hkl W hW=>by
     rw [hD] at hW
     obtain ⟨⟨O4,hV⟩,hBW⟩:=hW
     obtain ⟨s1,s2⟩:=HSW.out W hBW
     refine ⟨s1,s2,?_⟩
     have hfew:(putsL key ((shlAt l i).L.take k)).length<=60:=by
      obtain ⟨m0,D0,r0,b0,hd0⟩:=hV.sh.own (Kx i).length _ (get_snoc _ _)
      exact hd0.few
     have hc:=hV.both HK.out (hTx k hkl) hfew (HER.out W hBW) hBW
     rw [HHP.out,HHM.out] at hc
     refine hc.mono fun e w4 hq=>?_
     obtain ⟨h1,h2,h3⟩:=hq
     obtain ⟨s3,s4⟩:=HSW.out w4 h2
     refine ⟨h1,s3,s4,h3.mono fun e w5 hq=>?_⟩
     obtain ⟨k1,k2,O5,k3⟩:=hq
     rw [hD]
     show _/\(∃ O,SvAt w5 w.heap.size (Kx i ++ [some (putsL key ((shlAt l i).L.take (k+1)))]) (Kx i ++ [some (putsL key ((shlAt l i).L.take (k+1)))]) hp' hm' O (ptL hp (Kx i)) (ptL hm (Kx i)) (.slice qa0 na0 ca0) (.slice qb0 nb0 cb0))/\Below w.heap.size w w5
     rw [putsL_succ hkl]
     exact ⟨k1,⟨O5,k3⟩,k2⟩
    have HEND:Hid (∀ W,D (shlAt l i).L.length W->W.cell? ⟨b,o+i*2+1,none⟩=some (.slice (shlAt l i).lp (shlAt l i).L.length (shlAt l i).lc) /\
     ∃ qa na ca w2,(∀ ty,(Builtin.append_ #[34,34] ty #[.slice qa0 na0 ca0,.slice (some ⟨W.heap.size,0,none⟩) 1 1]).run Tryz.prog (W.alloc (.cells #[.pointer (some ⟨w1.heap.size,0,none⟩)] 35))=.ok (.slice qa na ca) w2) /\
      ∃ qb nb cb w4,(∀ ty,(Builtin.append_ #[55,55] ty #[.slice qb0 nb0 cb0,.slice (some ⟨w2.heap.size,0,none⟩) 1 1]).run Tryz.prog (w2.alloc (.cells #[.pointer (some ⟨w1.heap.size+1,0,none⟩)] 66))=.ok (.slice qb nb cb) w4) /\
       (∃ hp hm O qa1 na1 ca1 qb1 nb1 cb1,Value.slice qa na ca=.slice qa1 na1 ca1/\Value.slice qb nb cb=.slice qb1 nb1 cb1/\SvAt w4 w.heap.size (Kx (i+1)) (Kx (i+1)) hp hm O (ptL hp (Kx (i+1))) (ptL hm (Kx (i+1))) (.slice qa na ca) (.slice qb nb cb))/\Below w.heap.size w w4):=fun W hW=>by
     rw [hD] at hW
     obtain ⟨⟨O4,hV⟩,hBW⟩:=hW
     rw [List.take_length] at hV
     refine ⟨(HSW.out W hBW).1,?_⟩
     obtain ⟨qa,na,ca,w2,a1,qb,nb,cb,w4,a2,a3,a4⟩:=hV.push (by rw [HPL.out];omega) (by rw [HPL.out];omega) (some w1.heap.size) (some (w1.heap.size+1))
     refine ⟨qa,na,ca,w2,a1,qb,nb,cb,w4,a2,⟨hp',hm',O4,_,_,_,_,_,_,rfl,rfl,?_⟩,hBW.trans a4⟩
     rw [HNX2.out,HPA.out,HPB.out]
     exact a3
    have hLl2:=hLl
    clear hw3 hS3 hU3 hV3 hB3 hD HSW HPA HPB HHP HHM hno hTx hLl HNX HNX2 HSV hrec HPL HLEN HX
    generalize (shlAt l i).L=L at *
    generalize (shlAt l i).lp=lp at *
    generalize (shlAt l i).lc=lc at *
    go_wp2
    rw [<- HW3.out]
    clear HW3 c0 c1
    go_loopw [11] (fun x wr=>∃ k:Nat,k<=L.length/\x=.int .i64 k/\D k wr) (fun x _=>L.length - (intOf x).toNat)
    case atStart=>exact ⟨0,Nat.zero_le _,rfl,HD0.out⟩
    case round =>
     obtain ⟨k,hkL,rfl,hDk⟩:=hrel
     obtain ⟨w5,rfl⟩:∃ w5,w5=wr:=⟨_,rfl⟩
     have HDK:Hid (D k w5):=hDk
     clear hDk HD0
     by_cases hkl:k < L.length
     ·obtain ⟨s1,s2,HC⟩:=HRD.out k hkl w5 HDK.out
      have s2':=s2
      obtain ⟨b2,o2,rfl,_,a0,a1,a2,a3,a4⟩:=ver_cells s2' hkl
      have HCV:Hid (∀ W,Rec verE W (some ⟨b2,o2,none⟩) L->W.cell? ⟨b2,o2+k*5,none⟩=some (.int .i64 (verAt L k).n)/\W.cell? ⟨b2,o2+k*5+1,none⟩=some (.int .i64 (verAt L k).who)/\W.cell? ⟨b2,o2+k*5+2,none⟩=some (.int .i64 (verAt L k).size)/\W.cell? ⟨b2,o2+k*5+3,none⟩=some (.int .i64 (verAt L k).at_)/\W.cell? ⟨b2,o2+k*5+4,none⟩=some (.string (verAt L k).text)):=fun W h=>by
       obtain ⟨b',o',e,_,h1⟩:=ver_cells h hkl
       obtain ⟨rfl,rfl⟩:b2=b'/\o2=o':=by simpa using e
       exact h1
      clear s2 s2'
      generalize verAt L k=v at *
      obtain ⟨vn,vw,vs,va,vt⟩:=v
      unfold verA at *
      dsimp only at a0 a1 a2 a3 a4 HC HCV
      go_wp2_with fail
      refine HC.mono ?_
      rintro e w6 ⟨⟨ev,rfl⟩,s3,s4,HC2⟩
      clear a0 a1 a2 a3 a4 s1 HC
      obtain ⟨a0,a1,a2,a3,a4⟩:=HCV.out w6 s4
      clear HCV s4
      go_wp2_with fail
      refine HC2.mono ?_
      rintro e w7 ⟨⟨z,rfl⟩,hD7⟩
      have HD7:Hid (D (k+1) w7):=hD7
      clear HC2 hD7 a0 a1 a2 a3 a4 s3
      go_wp2
      go_roundw
      case rel=>exact ⟨k+1,by omega,by go_num,HD7.out⟩
      case measure=>simp [intOf];omega
     ·obtain rfl:k=L.length:=by omega
      obtain ⟨s1,qa,na,ca,w2,a1,qb,nb,cb,w4,a2,a3,a4⟩:=HEND.out w5 HDK.out
      have HA1:Hid (∀ ty,(Builtin.append_ #[34,34] ty #[.slice qa0 na0 ca0,.slice (some ⟨w5.heap.size,0,none⟩) 1 1]).run Tryz.prog (w5.alloc (.cells #[.pointer (some ⟨w1.heap.size,0,none⟩)] 35))=.ok (.slice qa na ca) w2):=a1
      have HA2:Hid (∀ ty,(Builtin.append_ #[55,55] ty #[.slice qb0 nb0 cb0,.slice (some ⟨w2.heap.size,0,none⟩) 1 1]).run Tryz.prog (w2.alloc (.cells #[.pointer (some ⟨w1.heap.size+1,0,none⟩)] 66))=.ok (.slice qb nb cb) w4):=a2
      have HD:Hid (∃ hp hm O qa1 na1 ca1 qb1 nb1 cb1,Value.slice qa na ca=.slice qa1 na1 ca1/\Value.slice qb nb cb=.slice qb1 nb1 cb1/\SvAt w4 w.heap.size (Kx (i+1)) (Kx (i+1)) hp hm O (ptL hp (Kx (i+1))) (ptL hm (Kx (i+1))) (.slice qa na ca) (.slice qb nb cb)):=a3
      have HB4:Hid (Below w.heap.size w w4):=a4
      clear a1 a2 a3 a4 HDK HRD HEND
      go_wp2_with (first | (at_builtin;refine wpList_append_run rfl (.tmp 65) (.tmp 67) 34 rfl rfl rfl HA1.out ?_) | (at_builtin;refine wpList_append_run rfl (.tmp 69) (.tmp 71) 55 rfl rfl rfl HA2.out ?_))
      go_roundw
      case rel=>exact ⟨i+1,by omega,by go_num,HD.out,HB4.out⟩
      case measure=>simp [intOf];omega
  ·obtain rfl:i=l.length:=by omega
   have HE:=HG.out (.returned (.tuple #[.slice qa0 na0 ca0,.slice qb0 nb0 cb0])) w1 ⟨⟨_,_,hp,hm,O,rfl,HSV.out⟩,HB.out⟩
   have HE':Hid (G (.returned (.tuple #[.slice qa0 na0 ca0,.slice qb0 nb0 cb0])) w1):=HE
   clear HE
   go_wp2
   first | exact HE'.out | (go_ret2;exact HE'.out)
end Go.Proofs.YtghpdhegfnhmkaaGreatDoor
