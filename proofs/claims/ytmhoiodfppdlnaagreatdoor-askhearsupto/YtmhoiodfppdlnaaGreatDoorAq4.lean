import Derived.Test.YtmhoiodfppdlnaaGreatDoorAq3
import Derived.BigQuiet
import Derived.Laws.AppendOwn
import Derived.OwnWalk
import Derived.Deep.QuietTactic
import Derived.Laws.AppendOwnNone
import Derived.Test.YtmhoiodfppdlnaaGreatDoorAq0
import Derived.WalkSmall
import Derived.Test.YtmhoiodfppdlnaaGreatDoorAq1
import Derived.ProofKit
import Derived.OpenShut
import Derived.ChangeOld
import Derived.Deep.SlicePairs
import Derived.Deep.Strs
import Derived.Lib.SmallJoins
import Derived.Deep.OwnRows
import Derived.Shelf.Abstract
import Derived.Test.YtmhoiodfppdlnaaGreatDoorAq2
import Derived.Deep.RegionWith
import Derived.StillTailTactics
set_option maxRecDepth 100000
set_option maxHeartbeats 4000000
namespace Go.Proofs.YtmhoiodfppdlnaaGreatDoor
open Go.RowKit
theorem sameVers_any (pa pb:Option Addr)(l m:List Ver)(ca cb:Nat)(w:World)(hl:l.length<=1000000)(ha:Rec verE w pa l)(hb:Rec verE w pb m) :
 Calls Tryz.prog 62 #[.slice pa l.length ca,.slice pb m.length cb] w fun e w'=>e=.returned (.bool (decide (l=m)))/\Below w.heap.size w w':=by
 by_cases hlen:l.length=m.length
 ·have HT:Hid ((∀ i,i < l.length->verAt l i=verAt m i)->decide (l=m)=true):=fun h=>decide_eq_true (ver_ext hlen h)
  have HF:Hid (∀ i,i < l.length->verAt l i≠verAt m i->decide (l=m)=false):=fun i _ h=>decide_eq_false (fun e=>h (by rw [e]))
  generalize decide (l=m)=r at *
  have HM:Hid (m.length=l.length):=hlen.symm
  rw [<- hlen]
  clear hlen
  go_enter Tryz.func62,Tryz.ntmps62
  go_wp2
  go_loopw [5] (fun x wq=>∃ i:Nat,i<=l.length/\x=.int .i64 i/\(∀ j,j < i->verAt l j=verAt m j)/\∃ n,wq=w.drewN n) (fun x _=>l.length - (intOf x).toNat)
  case atStart=>exact⟨0,Nat.zero_le _,rfl,fun j hj=>absurd hj (Nat.not_lt_zero _),0,rfl⟩
  case round =>
   obtain⟨i,hi,rfl,hall,n,hw⟩:=hrel
   obtain⟨w1,rfl⟩:∃ w1,w1=wr:=⟨_,rfl⟩
   have HALL:Hid (∀ j,j < i->verAt l j=verAt m j):=hall
   have HW:Hid (∃ n,w1=w.drewN n):=⟨n,hw⟩
   have HA:Hid (Rec verE w1 pa l):=by show Rec verE w1 pa l;rw [hw];exact ha.drewN n
   have HB:Hid (Rec verE w1 pb m):=by show Rec verE w1 pb m;rw [hw];exact hb.drewN n
   clear hw hall
   by_cases hil:i < l.length
   ·obtain⟨b1,o1,hp1,_,a0,a1,a2,a3,a4⟩:=ver_cells HA.out hil
    obtain⟨b2,o2,hp2,_,e0,e1,e2,e3,e4⟩:=ver_cells HB.out (show i < m.length by have:=HM.out;omega)
    subst hp1 hp2
    by_cases he:verAt l i=verAt m i
    ·have HNX : Hid (∀ j, j < i + 1 -> verAt l j = verAt m j) := fun j hj => by
      rcases Nat.lt_or_ge j i with h | h
      ·exact HALL.out j h
      ·obtain rfl:j=i:=by omega
       exact he
     rw [<- he] at e0 e1 e2 e3 e4
     clear he HALL
     generalize verAt l i=x at *
     obtain⟨xn,xw,xs,xa,xt⟩:=x
     go_wp2
     go_quiet (fail)
     go_wp2
     go_roundw
     case rel=>exact⟨i+1,by omega,by go_num,HNX.out,by obtain⟨n,hn⟩:=HW.out;exact⟨_,by rw [hn,World.drewN_drewN]⟩⟩
     case measure=>simp [intOf];omega
    ·have HR:Hid (r=false):=HF.out i hil he
     have HNE:Hid (verAt l i≠verAt m i):=he
     clear he HF HT HALL
     generalize verAt l i=x at *
     generalize verAt m i=y at *
     obtain⟨xn,xw,xs,xa,xt⟩:=x
     obtain⟨yn,yw,ys,ya,yt⟩:=y
     have walk:((xn==yn)=false)∨xn=yn/\(((xw==yw)=false)∨xw=yw/\(((xs==ys)=false)∨xs=ys/\(((xa==ya)=false)∨xa=ya/\xt≠yt))):=by
      by_cases h1:xn=yn
      ·refine Or.inr ⟨h1,?_⟩
       by_cases h2:xw=yw
       ·refine Or.inr ⟨h2,?_⟩
        by_cases h3:xs=ys
        ·refine Or.inr ⟨h3,?_⟩
         by_cases h4:xa=ya
         ·refine Or.inr ⟨h4,fun h5=>HNE.out (by rw [h1,h2,h3,h4,h5])⟩
         ·exact Or.inl (beq_eq_false_iff_ne.2 h4)
        ·exact Or.inl (beq_eq_false_iff_ne.2 h3)
       ·exact Or.inl (beq_eq_false_iff_ne.2 h2)
      ·exact Or.inl (beq_eq_false_iff_ne.2 h1)
     clear HNE
     rcases walk with g | ⟨rfl,g | ⟨rfl,g | ⟨rfl,g | ⟨rfl,g⟩⟩⟩⟩
     rotate_right
     ·have d1:=toList_ne g
      have d2:=toList_beq g
      have d3:=bytes_beq g
      clear g
      go_wp2
      go_quiet (fail)
      go_wp2
      go_ret
      exact⟨by rw [HR.out];rfl,by obtain⟨n,hn⟩:=HW.out;rw [hn];exact below_drewN (below_drewN (Below.refl _ _) n) _⟩
     all_goals
      go_wp2
      go_quiet (fail)
      go_wp2
      go_ret
      exact⟨by rw [HR.out];rfl,by obtain⟨n,hn⟩:=HW.out;rw [hn];exact below_drewN (below_drewN (Below.refl _ _) n) _⟩
   ·have HR:Hid (r=true):=HT.out (fun j hj=>HALL.out j (by omega))
    go_wp2
    go_ret
    exact⟨by rw [HR.out];rfl,by obtain⟨n,hn⟩:=HW.out;rw [hn];exact below_drewN (Below.refl _ _) n⟩
 ·have HR:Hid (decide (l=m)=false):=decide_eq_false (fun e=>hlen (by rw [e]))
  rw [HR.out]
  have h6:((l.length:Int) != (m.length:Int))=true:=by rw [bne_iff_ne];omega
  clear hlen
  go_enter Tryz.func62,Tryz.ntmps62
  go_wp2
  go_ret
  exact⟨rfl,Below.refl _ _⟩
theorem backWire_any (m:Msg)(p:Option Addr)(n c:Nat)(w:World) :
 Calls Tryz.prog 41 #[msgA m (.slice p n c)] w fun e w'=>e=.returned (msgA m (.slice p n c))/\Below w.heap.size w w':=by
 obtain⟨m1,m2,m3,m4,m5,m6,m7,mL⟩:=m
 unfold msgA
 simp only []
 go_enter Tryz.func41,Tryz.ntmps41
 go_wp2
 refine bodyPost_ret (v:=.agg #[.string m1,.string m2,.string m3,.string m4,.int .i64 m5,.int .i64 m6,.bool m7,.slice p n c]) (by simp [results,Tryz.results41,go_sem]) rfl ⟨rfl,?_⟩
 exact((Below.refl _ _).alloc (Nat.le_refl _) _).alloc (by simp) _
theorem sameMsg_yes (m:Msg)(pa pb:Option Addr)(ca cb:Nat)(w:World)(hl:m.L.length<=1000000)(ha:Rec verE w pa m.L)(hb:Rec verE w pb m.L) :
 Calls Tryz.prog 40 #[msgA m (.slice pa m.L.length ca),msgA m (.slice pb m.L.length cb)] w fun e w'=>e=.returned (.bool true)/\Below w.heap.size w w':=by
 obtain⟨m1,m2,m3,m4,m5,m6,m7,mL⟩:=m
 unfold msgA
 simp only [] at *
 obtain⟨w1,hw1⟩:∃ w1,w1=(w.alloc (.cells #[.string m1,.string m2,.string m3,.string m4,.int .i64 m5,.int .i64 m6,.bool m7,.slice pa mL.length ca] 59)).alloc (.cells #[.string m1,.string m2,.string m3,.string m4,.int .i64 m5,.int .i64 m6,.bool m7,.slice pb mL.length cb] 59):=⟨_,rfl⟩
 have HW1:Hid (w1=(w.alloc (.cells #[.string m1,.string m2,.string m3,.string m4,.int .i64 m5,.int .i64 m6,.bool m7,.slice pa mL.length ca] 59)).alloc (.cells #[.string m1,.string m2,.string m3,.string m4,.int .i64 m5,.int .i64 m6,.bool m7,.slice pb mL.length cb] 59)):=hw1
 have hb1:Below w.heap.size w w1:=by rw [hw1];exact((Below.refl _ _).alloc (Nat.le_refl _) _).alloc (by simp) _
 have hsv:=sameVers_any pa pb mL mL ca cb w1 hl (ha.below hb1) (hb.below hb1)
 rw [decide_eq_true rfl] at hsv
 have HSV:Hid (Calls Tryz.prog 62 #[.slice pa mL.length ca,.slice pb mL.length cb] w1 fun e w'=>e=.returned (.bool true)/\Below w1.heap.size w1 w'):=hsv
 have HB1:Hid (Below w.heap.size w w1):=hb1
 clear hsv hb1 hw1 ha hb
 go_enter Tryz.func40,Tryz.ntmps40
 go_wp2_with fail
 rw [<- HW1.out]
 refine HSV.out.mono ?_
 rintro e w2 ⟨rfl,hb2⟩
 have HB2:Hid (Below w.heap.size w w2):=HB1.out.trans (hb2.mono HB1.out.size)
 clear hb2 HSV HW1
 go_wp2
 go_ret
 exact⟨rfl,HB2.out⟩
def byteV (n:Nat):Value:=.int .u8 (n:Int)
def Own (w:World)(B:Nat)(e:TypeId)(v:Value)(l:List Nat):Prop:=w.ownsRow B e 1 v l.length (l.map byteV)
theorem Own.nil (w:World)(B:Nat)(e:TypeId):Own w B e (.slice none 0 0) []:=World.ownsRow_nil w B e 1
theorem Own.kept {w w':World}{B:Nat}{e:TypeId}{v:Value}{l:List Nat}{row:Option Nat}(h:Own w B e v l)(hg:w.grownBy w' row)(hne:v.ownBlock=none∨v.ownBlock≠row):Own w' B e v l:=World.ownsRow.kept h hg hne
theorem Own.block {w:World}{B:Nat}{e:TypeId}{v:Value}{l:List Nat}(h:Own w B e v l){k:Nat}(hk:v.ownBlock=some k):B<=k/\k < w.heap.size:=World.ownsRow.lt h k hk
theorem grownBy_drewN (w:World)(n:Nat)(row:Option Nat):w.grownBy (w.drewN n) row:=⟨rfl,rfl,rfl,Nat.le_refl _,fun _ _ _=>rfl⟩
theorem Own.seg {w:World}{B:Nat}{e:TypeId}{v:Value}{l:List Nat}(h:Own w B e v l)(hl:Gf.Bytes l):∃ p cap,v=.slice p l.length cap/\Seg w p l:=by
 rcases h.2 with ⟨rfl,h0⟩ | ⟨g,cap,cur,rfl,hb,hg,hnc,hcm,hcs,htake⟩
 ·have:l=[]:=List.length_eq_zero_iff.1 h0
  subst this
  exact⟨none,0,rfl,hl,Or.inl rfl⟩
 ·refine⟨some ⟨g,0,none⟩,cap,rfl,hl,Or.inr ⟨g,0,rfl,(Array.getElem?_eq_some_iff.1 hg).1,fun i hi=>?_⟩⟩
  have hc:=World.ownsRow.cells (g:=g) h rfl i (byteV (Gf.nth l i)) (by rw [List.getElem?_map,List.getElem?_eq_getElem hi,Gf.nth_getElem l i hi];rfl)
  rw [Addr.add_lit] at hc
  exact hc
section
variable {P:Program} {w:World}
theorem append_where (B:Nat)(t ty e:TypeId)(i:TypeInfo)(z:Value)(ht:P.underlying t=some (.slice e))(hi:P.info? e=some i)(hz:i.zero=some z)(hsize:i.size=1)(hby:i.bytes=1)
 (v:Value) (l:List Nat) (hown:Own w B e v l) (ad:Addr) (c b:Nat) (hb:w.cell? ad=some (byteV b)) (hl:l.length+1<=1000000) {v':Value} {w':World}
 (hr:(Builtin.append_ #[t,t] ty #[v,.slice (some ad) 1 c]).run P w=.ok v' w'):v'.ownBlock=v.ownBlock∨v'.ownBlock=some w.heap.size:=by
 have hnews:∀ j u,[byteV b][j]?=some u->w.cell? (ad.add j)=some u:=by
  intro j u hj
  match j,hj with
  | 0,hj =>
   obtain rfl:byteV b=u:=by simpa using hj
   simpa [Addr.add] using hb
 rcases hown.2 with ⟨rfl,h0⟩ | ⟨g,cap,cur,rfl,hbg,hg,hnc,hcm,hcs,htake⟩
 ·have:=run_append_nil (P:=P) w t ty e i z ht hi hz ad 1 c [byteV b] (by rw [hsize];rfl) hnews (by decide) (by decide) (by rw [hby];decide)
  rw [this] at hr
  injection hr with h1 h2
  subst h1
  exact Or.inr rfl
 ·by_cases hroom:l.length+1<=cap
  ·have:=run_append_room (P:=P) w t ty e i ht hi g l.length cap cur hg ad 1 c [byteV b] (by rw [hsize];rfl) hnews (fun u hu=>by rw [List.mem_singleton.1 hu];rfl) hroom (by rw [hsize,hcs];simpa using hroom)
   rw [this] at hr
   injection hr with h1 h2
   subst h1
   exact Or.inl rfl
  ·have:=run_append_grow (P:=P) w t ty e i z ht hi hz ⟨g,0,none⟩ l.length cap (l.map byteV) (by rw [hsize];exact hown.1) (World.ownsRow.cells (g:=g) hown rfl) ad 1 c [byteV b] (by rw [hsize];rfl) hnews (by omega) (by omega) (growslice_fits (by omega) (by rw [hby];omega))
   rw [this] at hr
   injection hr with h1 h2
   subst h1
   exact Or.inr rfl
theorem wp_append_byte {o:Oper}{a:Act}{K:Act->World->Prop}{Q:Exit->Act->World->Prop}(s x:Operand)(t:TypeId)
 (ho:o.op=.call { callee:=.builtin .append,args:=#[s,x],argTypes:=#[t,t] })
 (B:Nat) (e:TypeId) (i:TypeInfo) (ht:P.underlying t=some (.slice e)) (hi:P.info? e=some i) (hz:i.zero=some (byteV 0)) (hsize:i.size=1) (hby:i.bytes=1)
 (v:Value) (l:List Nat) (hs:a.eval s=v) (hown:Own w B e v l) (ad:Addr) (c b:Nat) (hx:a.eval x=.slice (some ad) 1 c) (hb:w.cell? ad=some (byteV b)) (hl:l.length+1<=1000000) (hbase:B<=w.heap.size)
 (h:∀ v' w',Own w' B e v' (l ++ [b])->w.grownBy w' v.ownBlock->(v'.ownBlock=v.ownBlock∨v'.ownBlock=some w.heap.size)->K (a.put o.dst v') w'):o.wp P a w K Q:=by
 have hnews:∀ j u,[byteV b][j]?=some u->w.cell? (ad.add j)=some u:=by
  intro j u hj
  match j,hj with
  | 0,hj =>
   obtain rfl:byteV b=u:=by simpa using hj
   simpa [Addr.add] using hb
 obtain⟨v',w',hr,h2,h3,_⟩:=run_append_own (P:=P) w B t o.type e i (byteV 0) 1 1 ht hi hz hsize hby rfl (by decide) v l.length (l.map byteV) hown ad 1 c [byteV b] rfl hnews (fun u hu=>by rw [List.mem_singleton.1 hu];rfl) (by unfold maxLen;omega) (by omega) hbase
 have h4:=append_where B t o.type e i (byteV 0) ht hi hz hsize hby v l hown ad c b hb hl hr
 have h5:Own w' B e v' (l ++ [b]):=by
  unfold Own
  rw [List.length_append,List.map_append]
  exact h2
 unfold Oper.wp execOp
 simp only [ho,resolve,invoke,builtin,Sem.run_bind,Sem.run_pure,Result.andThen_ok,List.map_toArray,List.map_cons,List.map_nil,hs,hx,hr]
 exact h v' w' h5 h3 h4
theorem wpList_append_byte {ops:Array Oper}{rest:List Oper}{o:Oper}{a:Act}{Q:Exit->Act->World->Prop}(hgd:o.guard=none)(s x:Operand)(t:TypeId)
 (ho:o.op=.call { callee:=.builtin .append,args:=#[s,x],argTypes:=#[t,t] })
 (B:Nat) (e:TypeId) (i:TypeInfo) (ht:P.underlying t=some (.slice e)) (hi:P.info? e=some i) (hz:i.zero=some (byteV 0)) (hsize:i.size=1) (hby:i.bytes=1)
 (v:Value) (l:List Nat) (hs:a.eval s=v) (hown:Own w B e v l) (ad:Addr) (c b:Nat) (hx:a.eval x=.slice (some ad) 1 c) (hb:w.cell? ad=some (byteV b)) (hl:l.length+1<=1000000) (hbase:B<=w.heap.size)
 (h:∀ v' w',Own w' B e v' (l ++ [b])->w.grownBy w' v.ownBlock->(v'.ownBlock=v.ownBlock∨v'.ownBlock=some w.heap.size)->wpList P ops Q rest (a.put o.dst v') w'):wpList P ops Q (o :: rest) a w :=
 wpList_plain hgd fun _ hK=>wp_append_byte s x t ho B e i ht hi hz hsize hby v l hs hown ad c b hx hb hl hbase fun v' w' h2 h3 h4=>hK _ _ (h v' w' h2 h3 h4)
end
end Go.Proofs.YtmhoiodfppdlnaaGreatDoor
namespace Go.Proofs.YtmhoiodfppdlnaaGreatDoor
open Go.RowKit
theorem u8info:(Tryz.prog.info? 5).map (fun i=>(i.zero,i.size,i.bytes))=some (some (byteV 0),1,1):=by kernel_rfl
def upToL (k:Nat):List Nat:=List.range k
theorem upTo_any (k:Nat)(w:World)(hk:k<=100) :
 Calls Tryz.prog 121 #[.int .i64 (k:Int)] w fun e w'=>(∃ v,e=.returned v/\Own w' w.heap.size 5 v (upToL k))/\Below w.heap.size w w':=by
 obtain⟨i0,hi0,hz0,hz1,hz2⟩:=info_parts u8info
 go_enter Tryz.func121,Tryz.ntmps121
 go_wp2
 go_loopw [3,4] (fun v j wr=>∃ n:Nat,n<=k/\j=.int .i64 n/\Own wr w.heap.size 5 v (upToL n)/\Below w.heap.size w wr) (fun _ j _=>k - (intOf j).toNat)
 case atStart=>exact⟨0,by omega,rfl,Own.nil _ _ _,Below.refl _ _⟩
 case round =>
  obtain⟨n,hn,rfl,hown,hb⟩:=hrel
  have HO:Hid (Own wr w.heap.size 5 u3 (upToL n)):=hown
  have HB:Hid (Below w.heap.size w wr):=hb
  have hbz:w.heap.size<=wr.heap.size:=hb.size
  have hul:(upToL n).length=n:=by simp [upToL]
  clear hown hb
  by_cases hlt:n < k
  ·have HU:Hid (upToL (n+1)=upToL n ++ [n]):=by show _=_;simp [upToL,List.range_succ]
   go_wp2_with (first | (at_builtin;refine wpList_append_byte rfl (.tmp 10) (.tmp 13) 138 rfl w.heap.size 5 i0 Tryz.underlying138 hi0 hz0 hz1 hz2 u3 (upToL n) rfl (HO.out.kept (World.grownBy_alloc wr _ none) (by cases hv:u3.ownBlock <;> simp)) ⟨wr.heap.size,0,none⟩ 1 n rfl (by simp [byteV]) (by omega) (by simp;omega) ?_;intro v1 w1 hX hgX hwX))
   have hb1:Below w.heap.size w w1:=(HB.out.alloc hbz _).grown hgX (by simp;omega) (fun k' hk'=>(HO.out.block hk').1)
   go_roundw
   case rel=>exact⟨n+1,by omega,by go_num,by rw [HU.out];exact hX,hb1⟩
   case measure=>simp [intOf];omega
  ·have hne:n=k:=by omega
   subst hne
   go_wp2
   go_ret
   exact⟨⟨u3,rfl,HO.out⟩,HB.out⟩
def OwnV (w:World)(B:Nat)(e:TypeId)(v:Value)(vs:List Value):Prop:=w.ownsRow B e 1 v vs.length vs
theorem OwnV.nil (w:World)(B:Nat)(e:TypeId):OwnV w B e (.slice none 0 0) []:=World.ownsRow_nil w B e 1
theorem OwnV.kept {w w':World}{B:Nat}{e:TypeId}{v:Value}{l:List Value}{row:Option Nat}(h:OwnV w B e v l)(hg:w.grownBy w' row)(hne:v.ownBlock=none∨v.ownBlock≠row):OwnV w' B e v l:=World.ownsRow.kept h hg hne
theorem OwnV.block {w:World}{B:Nat}{e:TypeId}{v:Value}{l:List Value}(h:OwnV w B e v l){k:Nat}(hk:v.ownBlock=some k):B<=k/\k < w.heap.size:=World.ownsRow.lt h k hk
theorem OwnV.cells {w:World}{B:Nat}{e:TypeId}{v:Value}{l:List Value}(h:OwnV w B e v l):v=.slice none 0 0/\l=[]∨∃ g cap,v=.slice (some ⟨g,0,none⟩) l.length cap/\B<=g/\g < w.heap.size/\∀ i u,l[i]?=some u->w.cell? ⟨g,i,none⟩=some u:=by
 rcases h.2 with ⟨rfl,h0⟩ | ⟨g,cap,cur,rfl,hb,hg,hnc,hcm,hcs,htake⟩
 ·exact Or.inl ⟨rfl,List.length_eq_zero_iff.1 h0⟩
 ·refine Or.inr ⟨g,cap,rfl,hb,(Array.getElem?_eq_some_iff.1 hg).1,fun i u hu=>?_⟩
  have hc:=World.ownsRow.cells (g:=g) h rfl i u hu
  rw [Addr.add_lit,Nat.zero_add] at hc
  exact hc
section
variable {P:Program} {w:World}
theorem append_where_val (B:Nat)(t ty e:TypeId)(i:TypeInfo)(z:Value)(bytes:Nat)(ht:P.underlying t=some (.slice e))(hi:P.info? e=some i)(hz:i.zero=some z)(hsize:i.size=1)(hby:i.bytes=bytes)(h24:bytes<=64)
 (v:Value) (l:List Value) (hown:OwnV w B e v l) (ad:Addr) (c:Nat) (u:Value) (hu:u.oneCell'=true) (hb:w.cell? ad=some u) (hl:l.length+1<=1000000) {v':Value} {w':World}
 (hr:(Builtin.append_ #[t,t] ty #[v,.slice (some ad) 1 c]).run P w=.ok v' w'):v'.ownBlock=v.ownBlock∨v'.ownBlock=some w.heap.size:=by
 have hnews:∀ j x,[u][j]?=some x->w.cell? (ad.add j)=some x:=by
  intro j x hj
  match j,hj with
  | 0,hj =>
   obtain rfl:u=x:=by simpa using hj
   simpa [Addr.add] using hb
 rcases hown.2 with ⟨rfl,h0⟩ | ⟨g,cap,cur,rfl,hbg,hg,hnc,hcm,hcs,htake⟩
 ·have:=run_append_nil (P:=P) w t ty e i z ht hi hz ad 1 c [u] (by rw [hsize];rfl) hnews (by decide) (by decide) (by rw [hby];omega)
  rw [this] at hr
  injection hr with h1 h2
  subst h1
  exact Or.inr rfl
 ·by_cases hroom:l.length+1<=cap
  ·have:=run_append_room (P:=P) w t ty e i ht hi g l.length cap cur hg ad 1 c [u] (by rw [hsize];rfl) hnews (fun x hx=>by rw [List.mem_singleton.1 hx];exact hu) hroom (by rw [hsize,hcs];simpa using hroom)
   rw [this] at hr
   injection hr with h1 h2
   subst h1
   exact Or.inl rfl
  ·have hbd:(l.length+1)*bytes<=1000000*64:=Nat.mul_le_mul hl h24
   have:=run_append_grow (P:=P) w t ty e i z ht hi hz ⟨g,0,none⟩ l.length cap l (by rw [hsize];exact hown.1) (World.ownsRow.cells (g:=g) hown rfl) ad 1 c [u] (by rw [hsize];rfl) hnews (by omega) (by omega) (growslice_fits (by omega) (by rw [hby];omega))
   rw [this] at hr
   injection hr with h1 h2
   subst h1
   exact Or.inr rfl
theorem wpList_append_val {ops:Array Oper}{rest:List Oper}{o:Oper}{a:Act}{Q:Exit->Act->World->Prop}(hgd:o.guard=none)(s x:Operand)(t:TypeId)
 (ho:o.op=.call { callee:=.builtin .append,args:=#[s,x],argTypes:=#[t,t] })
 (B:Nat) (e:TypeId) (i:TypeInfo) (z:Value) (bytes:Nat) (ht:P.underlying t=some (.slice e)) (hi:P.info? e=some i) (hz:i.zero=some z) (hzs:z.cells.size=1) (hsize:i.size=1) (hby:i.bytes=bytes) (h24:bytes<=64)
 (v:Value) (l:List Value) (hs:a.eval s=v) (hown:OwnV w B e v l) (ad:Addr) (c:Nat) (u:Value) (hu:u.oneCell'=true) (hx:a.eval x=.slice (some ad) 1 c) (hb:w.cell? ad=some u) (hl:l.length+1<=1000000) (hbase:B<=w.heap.size)
 (h:∀ v' w',OwnV w' B e v' (l ++ [u])->w.grownBy w' v.ownBlock->(v'.ownBlock=v.ownBlock∨v'.ownBlock=some w.heap.size)->wpList P ops Q rest (a.put o.dst v') w'):wpList P ops Q (o :: rest) a w:=by
 have hnews:∀ j x,[u][j]?=some x->w.cell? (ad.add j)=some x:=by
  intro j x hj
  match j,hj with
  | 0,hj =>
   obtain rfl:u=x:=by simpa using hj
   simpa [Addr.add] using hb
 have hbd:(l.length+1)*bytes<=1000000*64:=Nat.mul_le_mul hl h24
 refine wpList_plain hgd fun K hK=>?_
 obtain⟨v',w',hr,h2,h3,_⟩:=run_append_own (P:=P) w B t o.type e i z 1 bytes ht hi hz hsize hby hzs (by decide) v l.length l hown ad 1 c [u] rfl hnews (fun x hx=>by rw [List.mem_singleton.1 hx];exact hu) (by unfold maxLen;omega) (by omega) hbase
 have h4:=append_where_val B t o.type e i z bytes ht hi hz hsize hby h24 v l hown ad c u hu hb hl hr
 have h5:OwnV w' B e v' (l ++ [u]):=by
  unfold OwnV
  rw [List.length_append]
  exact h2
 unfold Oper.wp execOp
 simp only [ho,resolve,invoke,builtin,Sem.run_bind,Sem.run_pure,Result.andThen_ok,List.map_toArray,List.map_cons,List.map_nil,hs,hx,hr]
 exact hK _ _ (h v' w' h5 h3 h4)
end
end Go.Proofs.YtmhoiodfppdlnaaGreatDoor
namespace Go.Proofs.YtmhoiodfppdlnaaGreatDoor
open Go.RowKit
def shVals (l:List (Int×ByteArray)):List Value:=l.flatMap fun x=>[.int .i64 x.1,.string x.2]
theorem shVals_at:∀ (l:List (Int×ByteArray)) (i:Nat),i < l.length->(shVals l)[i*2]?=some (.int .i64 (shAt l i).1)/\(shVals l)[i*2+1]?=some (.string (shAt l i).2)
 | [],i,h=>absurd h (Nat.not_lt_zero _)
 | x :: t,0,_=>⟨rfl,rfl⟩
 | x :: t,i+1,h=>by
  have h':=shVals_at t i (by simpa using h)
  have e:shVals (x :: t)=.int .i64 x.1 :: .string x.2 :: shVals t:=rfl
  have e2:shAt (x :: t) (i+1)=shAt t i:=rfl
  rw [e,e2,show(i+1)*2=i*2+1+1 by omega,show i*2+1+1+1=i*2+1+1+1 from rfl]
  exact⟨by simpa using h'.1,by simpa using h'.2⟩
theorem shs_of_own {w:World}{B:Nat}{v:Value}{l:List (Int×ByteArray)}{E:TypeId}(h:w.ownsRow B E 2 v l.length (shVals l)):∃ p c,v=.slice p l.length c/\Shs w p l:=by
 rcases h.2 with ⟨rfl,h0⟩ | ⟨g,cap,cur,rfl,hb,hg,hnc,hcm,hcs,htake⟩
 ·have:l=[]:=List.length_eq_zero_iff.1 h0
  subst this
  exact⟨none,0,rfl,Or.inl rfl⟩
 ·refine⟨some ⟨g,0,none⟩,cap,rfl,Or.inr ⟨g,0,rfl,(Array.getElem?_eq_some_iff.1 hg).1,fun i hi=>?_⟩⟩
  have hc:=World.ownsRow.cells (g:=g) h rfl
  have h1:=shVals_at l i hi
  have e1:=hc (i*2) _ h1.1
  have e2:=hc (i*2+1) _ h1.2
  rw [Addr.add_lit] at e1 e2
  exact⟨e1,by rw [Nat.add_assoc];exact e2⟩
def OwnT (w:World)(B:Nat)(v:Value)(l:List ByteArray):Prop:=OwnV w B 9 v (l.map Value.string)
theorem OwnT.nil (w:World)(B:Nat):OwnT w B (.slice none 0 0) []:=OwnV.nil w B _
theorem OwnT.block {w:World}{B:Nat}{v:Value}{l:List ByteArray}(h:OwnT w B v l){k:Nat}(hk:v.ownBlock=some k):B<=k/\k < w.heap.size:=OwnV.block h hk
theorem OwnT.form {w:World}{B:Nat}{v:Value}{l:List ByteArray}(h:OwnT w B v l):∃ p c,v=.slice p l.length c/\Strs w p l/\l.length<=c/\(p=none->c=0)/\∀ b o,p=some ⟨b,o,none⟩->B<=b/\b < w.heap.size:=by
 have hcell:=OwnV.cells h
 have h0:w.ownsRow B 9 1 v (l.map Value.string).length (l.map Value.string):=h
 rcases h0.2 with ⟨rfl,hz⟩ | ⟨g,cap,cur,rfl,hb,hg,hnc,hcm,hcs,htake⟩
 ·have e:l=[]:=by simpa using hz
  subst e
  exact⟨none,0,rfl,Or.inl rfl,Nat.le_refl _,fun _=>rfl,fun _ _ h=>by cases h⟩
 ·rw [List.length_map] at hnc ⊢
  have hlt:g < w.heap.size:=(Array.getElem?_eq_some_iff.1 hg).1
  refine⟨some ⟨g,0,none⟩,cap,rfl,Or.inr ⟨g,0,rfl,hlt,fun i hi=>?_⟩,hnc,fun h=>(by cases h),fun b o h=>?_⟩
  ·rcases hcell with ⟨h1,_⟩ | ⟨g',cap',hv,_,_,hc⟩
   ·cases h1
   ·have hgg : g = g' := by
     have:=congrArg Value.ownBlock hv
     simpa [Value.ownBlock] using this
    subst hgg
    rw [Nat.zero_add,hc i (.string (txt l i)) (by rw [List.getElem?_map,List.getElem?_eq_getElem hi,txt_getElem l i hi];rfl)]
  ·obtain⟨rfl,rfl⟩:g=b/\0=o:=by simpa using h
   exact⟨hb,hlt⟩
section
variable {w:World}
theorem wpList_append_strs {ops:Array Oper}{rest:List Oper}{o:Oper}{a:Act}{Q:Exit->Act->World->Prop}(hgd:o.guard=none)(s x:Operand)
 (ho:o.op=.call { callee:=.builtin .append,args:=#[s,x],argTypes:=#[22,22] })
 (B:Nat) (v:Value) (l:List ByteArray) (hs:a.eval s=v) (hown:OwnT w B v l) (q:Option Addr) (r:List ByteArray) (c:Nat) (hx:a.eval x=.slice q r.length c) (hq:Strs w q r) (hc0:q=none->r=[]/\c=0) (hl:l.length+r.length<=8796093022208) (hbase:B<=w.heap.size)
 (h:∀ v' w',OwnT w' B v' (l ++ r)->Below B w w'->wpList Tryz.prog ops Q rest (a.put o.dst v') w'):wpList Tryz.prog ops Q (o :: rest) a w:=by
 obtain⟨i0,hi0,hz0,hz1,hzb⟩:=info_parts (P:=Tryz.prog) (e:=9) (z:=.string ⟨#[]⟩) (size:=1) (bytes:=16) (by kernel_rfl)
 have hfin:∀ v' w',w'.ownsRow B 9 1 v' ((l.map Value.string).length+r.length) (l.map Value.string ++ r.map Value.string)->w.grownBy w' v.ownBlock->wpList Tryz.prog ops Q rest (a.put o.dst v') w':=fun v' w' h1 h2=>by
  refine h v' w' ?_ ((Below.refl _ _).grown h2 hbase (fun k hk=>(hown.block hk).1))
  unfold OwnT OwnV
  have e:(l.map Value.string ++ r.map Value.string).length=(l.map Value.string).length+r.length:=by simp
  rw [List.map_append,e]
  exact h1
 cases q with
 | none =>
  obtain⟨hr,hc⟩:=hc0 rfl
  subst hr hc
  refine wpList_append_own_none hgd s x _ ho B 9 i0 1 Tryz.underlying22 hi0 v (l.map Value.string).length (l.map Value.string) hs hown hx ?_
  have:=h v w (by rw [List.append_nil];exact hown) (Below.refl _ _)
  exact this
 | some ad =>
  refine wpList_append_own w hgd s x _ ho B 9 i0 (.string ⟨#[]⟩) 1 16 Tryz.underlying22 hi0 hz0 hz1 hzb rfl (by decide) v (l.map Value.string).length (l.map Value.string) hs hown ad r.length c (r.map Value.string) hx (by simp) ?_ ?_ (by rw [List.length_map];unfold maxLen;omega) (by rw [List.length_map];omega) hbase (fun v' w' h1 h2 _=>hfin v' w' h1 h2)
  ·intro j u hj
   rw [List.getElem?_map] at hj
   obtain⟨y,hy1,hy2⟩:=Option.map_eq_some_iff.1 hj
   have hjl:j < r.length:=(List.getElem?_eq_some_iff.1 hy1).1
   rcases hq with h0 | ⟨b,o',hp,_,hcell⟩
   ·rw [h0] at hjl;exact absurd hjl (Nat.not_lt_zero _)
   ·obtain rfl:ad=⟨b,o',none⟩:=by simpa using hp
    rw [Addr.add_lit,hcell j hjl,txt_getElem r j hjl,<- hy2,(List.getElem?_eq_some_iff.1 hy1).2]
  ·intro u hu
   obtain⟨y,_,rfl⟩:=List.mem_map.1 hu
   rfl
end
end Go.Proofs.YtmhoiodfppdlnaaGreatDoor
namespace Go.Proofs.YtmhoiodfppdlnaaGreatDoor
open Go.RowKit
def cfgA (c:Cfg)(lv:Value):Value:=.agg #[.int .i64 c.n,.int .i64 c.k,lv]
structure ErrsQ (w:World) (ad:Nat->Addr):Prop where
 c1:w.cell? ⟨0,0,none⟩=some (.iface 252 (.pointer (some (ad 1))))
 c2:w.cell? ⟨2,0,none⟩=some (.iface 252 (.pointer (some (ad 2))))
 c3:w.cell? ⟨3,0,none⟩=some (.iface 252 (.pointer (some (ad 3))))
 c4:w.cell? ⟨4,0,none⟩=some (.iface 252 (.pointer (some (ad 4))))
 c5:w.cell? ⟨5,0,none⟩=some (.iface 252 (.pointer (some (ad 5))))
theorem ErrsQ.below {w w':World}{ad:Nat->Addr}(h:ErrsQ w ad)(hb:Below w.heap.size w w'):ErrsQ w' ad where
 c1:=(hb.cell (lt_of_cellE h.c1)).trans h.c1
 c2:=(hb.cell (lt_of_cellE h.c2)).trans h.c2
 c3:=(hb.cell (lt_of_cellE h.c3)).trans h.c3
 c4:=(hb.cell (lt_of_cellE h.c4)).trans h.c4
 c5:=(hb.cell (lt_of_cellE h.c5)).trans h.c5
def CfgIn (c:Cfg):Prop:=(-9223372036854775808<=c.n/\c.n<=9223372036854775807)/\-9223372036854775808<=c.k/\c.k<=9223372036854775807
structure CfgAt (w:World) (c:Cfg) (p:Option Addr) (cap:Nat):Prop where
 strs:Strs w p c.L
 room:c.L.length<=cap
 empty:p=none->c.L=[]/\cap=0
 len:c.L.length<=1000
 size:∀ x ∈ c.L,x.size<=1000
 ints:CfgIn c
theorem CfgAt.below {w w':World}{c:Cfg}{p:Option Addr}{cap:Nat}(h:CfgAt w c p cap)(hb:Below w.heap.size w w'):CfgAt w' c p cap:=⟨h.strs.below hb,h.room,h.empty,h.len,h.size,h.ints⟩
theorem ErrIs.isNil {w:World}{ad:Nat->Addr}{ev:Value}{at_:Int}(h:ErrIs w ad ev 0 at_):ev=.nilIface:=by
 rcases h with ⟨h,_⟩ | ⟨i,_,_,h,_⟩ | ⟨i,_,_,_,h,_⟩
 ·exact h
 ·omega
 ·omega
theorem ErrIs.setInt {w:World}{ad:Nat->Addr}{ev:Value}{c at_:Int}{b:Nat}{z:Int}(h:ErrIs w ad ev c at_)(hz:w.cell? ⟨b,1,none⟩=Option.some (Value.int .i64 z))(i:Nat)(v:Value):ErrIs (w.setCell ⟨b,i,none⟩ v) ad ev c at_:=by
 rcases h with h | h | ⟨k,fb,hk,he,hc,h0,h1⟩
 ·exact Or.inl h
 ·exact Or.inr (Or.inl h)
 ·have hne : fb ≠ b := fun e => by
   subst e
   rw [hz] at h1
   cases h1
  exact Or.inr (Or.inr ⟨k,fb,hk,he,hc,(World.cell?_setCell_other _ _ _ _ (fun e=>hne (congrArg Addr.block e).symm)).trans h0,(World.cell?_setCell_other _ _ _ _ (fun e=>hne (congrArg Addr.block e).symm)).trans h1⟩)
structure TxsIn (w:World) (l:List ByteArray) (p:Option Addr) (cap:Nat):Prop where
 strs:Strs w p l
 room:l.length<=cap
 empty:p=none->l=[]/\cap=0
 len:l.length<=maxLen
 size:∀ x ∈ l,x.size<=maxLen
end Go.Proofs.YtmhoiodfppdlnaaGreatDoor
namespace Go.Proofs.YtmhoiodfppdlnaaGreatDoor
open Go.ChangeShapes Go.WideShapes Go.ChangeAt Go.RowKit
theorem qCfgFields:∃ f0 f1 f2,Tryz.prog.underlying 24=some (.struct #[f0,f1,f2])/\f0.offset=0/\f1.offset=1/\f2.offset=2/\f0.type=3/\f1.type=3/\f2.type=22:=⟨_,_,_,Tryz.underlying24,rfl,rfl,rfl,rfl,rfl,rfl⟩
theorem qCellsInt:Tryz.prog.cellsOf 3=1:=by kernel_rfl
theorem qCellsStrs:Tryz.prog.cellsOf 22=1:=by kernel_rfl
theorem qCellsCfg:Tryz.prog.cellsOf 24=3:=by kernel_rfl
theorem strs_arg8 {H:Type}{enc:TypeId×Value->H}{W:World}{fuel:Nat}{v:Value}{y:DataW H×List MemPlace}(h:DataW.trod enc Tryz.prog W 0 (fun _=>true) true fuel 22 [v]=some y):∃ p l cap,v=.slice p l.length cap/\TxsIn W l p cap:=by
 rcases Deep.open_strs Tryz.underlying22 Tryz.underlying9 (by kernel_rfl) h with ⟨hcs,_⟩ | ⟨a,len0,cap0,m,Sx,hcs,_,hle,hcm,hm,hd,hx⟩
 ·simp at hcs
  subst hcs
  exact⟨none,[],0,rfl,⟨Or.inl rfl,Nat.le_refl _,fun _=>⟨rfl,rfl⟩,Nat.zero_le _,fun x hx=>by cases hx⟩⟩
 ·simp at hcs
  subst hcs
  have hlm:len0<=m:=by rw [hm];split <;> omega
  have hlen:((List.range len0).map Sx).length=len0:=by simp
  have hat:∀ i,i < len0->txt ((List.range len0).map Sx) i=Sx i:=fun i hi=>by
   rw [txt_getElem _ i (by rw [hlen];exact hi)]
   simp
  refine⟨some a,(List.range len0).map Sx,cap0,by rw [hlen],⟨?_,by rw [hlen];exact hle,(fun e=>by cases e),by rw [hlen];omega,fun x hxm=>?_⟩⟩
  ·by_cases h0:len0=0
   ·exact Or.inl (List.length_eq_zero_iff.1 (by rw [hlen];exact h0))
   ·have hx0:=(hx 0 (by omega)).1
    obtain⟨b,off,sp⟩:=a
    have hsp:sp=none:=by
     cases sp with
     | none=>rfl
     | some q =>
      exfalso
      simp [Addr.add,World.cell?] at hx0
      revert hx0
      split <;> intro h9 <;> cases h9
    subst hsp
    refine Or.inr ⟨b,off,rfl,?_,fun i hi=>?_⟩
    ·rw [Addr.add_lit] at hx0
     rcases Nat.lt_or_ge b W.heap.size with h' | h'
     ·exact h'
     ·simp [World.cell?,Array.getElem?_eq_none h'] at hx0
    ·rw [hlen] at hi
     have:=(hx i (by omega)).1
     rw [Addr.add_lit] at this
     rw [hat i hi]
     exact this
  ·obtain⟨i,hi,rfl⟩:=List.mem_map.1 hxm
   exact(hx i (by have:=List.mem_range.1 hi;omega)).2
end Go.Proofs.YtmhoiodfppdlnaaGreatDoor
namespace Go.Proofs.YtmhoiodfppdlnaaGreatDoor
open Go.RowKit
theorem Seg.kept {w w':World}{q:Option Addr}{l:List Nat}{row:Option Nat}(h:Seg w q l)(hg:w.grownBy w' row)(hne:∀ ad,q=some ad->some ad.block≠row):Seg w' q l:=by
 refine⟨h.lt,?_⟩
 rcases h.cells with h | ⟨b,o,hp,hlt,hc⟩
 ·exact Or.inl h
 ·refine Or.inr ⟨b,o,hp,Nat.lt_of_lt_of_le hlt hg.size,fun i hi=>?_⟩
  exact(World.cell?_of_block (a:=⟨b,o+i,none⟩) (hg.block b hlt (hne _ hp))).trans (hc i hi)
def OwnMatV (B:Nat)(w:World)(e:TypeId)(v:Value)(vs:List Value)(M:List (List Nat)):Prop :=
 OwnV w B e v vs/\vs.length=M.length/\∀ i,i < M.length->∃ q c,vs[i]?=some (.slice q (rowOf M i).length c)/\Seg w q (rowOf M i)/\(q=none->c=0)/\∀ ad,q=some ad->B<=ad.block/\ad.block < w.heap.size/\v.ownBlock≠some ad.block
def OwnMat (B:Nat)(w:World)(e:TypeId)(v:Value)(M:List (List Nat)):Prop:=∃ vs,OwnMatV B w e v vs M
theorem OwnMat.nil (B:Nat)(w:World)(e:TypeId):OwnMat B w e (.slice none 0 0) []:=⟨[],OwnV.nil w B e,rfl,fun _ hi=>absurd hi (Nat.not_lt_zero _)⟩
theorem Own.form {w:World}{B:Nat}{e:TypeId}{v:Value}{l:List Nat}(h:Own w B e v l)(hl:Gf.Bytes l):∃ q c,v=.slice q l.length c/\Seg w q l/\(q=none->c=0)/\∀ ad,q=some ad->B<=ad.block/\ad.block < w.heap.size:=by
 rcases h.2 with ⟨rfl,h0⟩ | ⟨g,cap,cur,rfl,hb,hg,hnc,hcm,hcs,htake⟩
 ·have:l=[]:=List.length_eq_zero_iff.1 h0
  subst this
  exact⟨none,0,rfl,⟨hl,Or.inl rfl⟩,fun _=>rfl,fun ad h=>by cases h⟩
 ·refine⟨some ⟨g,0,none⟩,cap,rfl,?_,(fun h=>by cases h),(fun ad h=>by injection h with h;subst h;exact⟨hb,(Array.getElem?_eq_some_iff.1 hg).1⟩)⟩
  obtain⟨p,c,hv,hs⟩:=h.seg hl
  injection hv with h1 h2 h3
  subst h1
  exact hs
theorem OwnMatV.snoc {B:Nat}{w w1 w3:World}{T E:TypeId}{v v' r:Value}{vs:List Value}{M:List (List Nat)}{row:List Nat}{o:Obj}(h:OwnMatV B w T v vs M)(hB:B<=w.heap.size)(hr:Own w1 w.heap.size E r row)(hrow:Gf.Bytes row)(hb:Below w.heap.size w w1)
 (hv:OwnV w3 B T v' (vs ++ [r]))
 (hg:(w1.alloc o).grownBy w3 v.ownBlock) (hw:v'.ownBlock=v.ownBlock∨v'.ownBlock=some (w1.alloc o).heap.size):OwnMatV B w3 T v' (vs ++ [r]) (M ++ [row]):=by
 obtain⟨hvs,hlen,hall⟩:=h
 have hz:=hb.size
 have hsz:(w1.alloc o).heap.size=w1.heap.size+1:=by simp
 have hvb:∀ k,v.ownBlock=some k->k < w.heap.size:=fun k hk=>(hvs.block hk).2
 have hg1:w1.grownBy w3 v.ownBlock:=⟨hg.os,hg.tape,hg.output,by have:=hg.size;omega,fun k hk hne=>(hg.block k (by omega) hne).trans (Below.heap_alloc w1 o k hk)⟩
 refine⟨hv,by simp [hlen],fun i hi=>?_⟩
 rw [List.length_append,List.length_singleton] at hi
 by_cases hlt:i < M.length
 ·obtain⟨q,c,h1,h2,h3,h4⟩:=hall i hlt
  rw [rowOf_append_lt M row i hlt]
  refine⟨q,c,by rw [List.getElem?_append_left (by omega)];exact h1,(h2.below hb).kept hg1 (fun ad hq=>fun e=>(h4 ad hq).2.2 e.symm),h3,fun ad hq=>?_⟩
  have:=h4 ad hq
  refine⟨this.1,by have:=hg1.size;omega,?_⟩
  rcases hw with hw | hw
  ·rw [hw];exact this.2.2
  ·rw [hw,hsz];intro e;have:=Option.some.inj e;omega
 ·obtain rfl:i=M.length:=by omega
  rw [rowOf_append_eq]
  obtain⟨q,c,h1,h2,h3,h4⟩:=hr.form hrow
  refine⟨q,c,by rw [List.getElem?_append_right (by omega),hlen,Nat.sub_self,h1];rfl,h2.kept hg1 (fun ad hq=>?_),h3,fun ad hq=>?_⟩
  ·have:=h4 ad hq
   intro e
   have:=hvb _ e.symm
   omega
  ·have:=h4 ad hq
   refine⟨by omega,by have:=hg1.size;omega,?_⟩
   rcases hw with hw | hw
   ·rw [hw];intro e;have:=hvb _ e;omega
   ·rw [hw,hsz];intro e;have:=Option.some.inj e;omega
theorem OwnMat.mat {B:Nat}{w:World}{T:TypeId}{v:Value}{M:List (List Nat)}(h:OwnMat B w T v M):∃ p c,v=.slice p M.length c/\Mat w p M:=by
 obtain⟨vs,hvs,hlen,hall⟩:=h
 rcases hvs.cells with ⟨rfl,rfl⟩ | ⟨g,cap,rfl,hB,hg,hcell⟩
 ·have:M=[]:=List.length_eq_zero_iff.1 (by simpa using hlen.symm)
  subst this
  exact⟨none,0,rfl,Or.inl rfl⟩
 ·refine⟨some ⟨g,0,none⟩,cap,by rw [hlen],Or.inr ⟨g,0,rfl,hg,fun i hi=>?_⟩⟩
  obtain⟨q,c,h1,h2,h3,_⟩:=hall i hi
  refine⟨q,c,?_,h2,h3⟩
  rw [Nat.zero_add]
  exact hcell i _ h1
theorem rowinfo:(Tryz.prog.info? 138).map (fun i=>(i.zero,i.size,i.bytes))=some (some (.slice none 0 0),1,24):=by kernel_rfl
def OwnN (w:World)(B:Nat)(E:TypeId)(g n:Nat)(l:List Nat):Prop:=w.ownsRow B E 1 (.slice (some ⟨g,0,none⟩) n n) n (l.map byteV)
theorem OwnN.made (w:World)(B:Nat)(E:TypeId)(n:Nat)(hB:B<=w.heap.size)(hn:n<=1000000):OwnN (w.alloc (.cells (madeCells #[byteV 0] n) E)) B E w.heap.size n (rowFn n fun _=>0):=by
 have h:=World.ownsRow_lit (base:=B) (e:=E) (size:=1) w (madeCells #[byteV 0] n) n hB (by unfold maxLen;omega) (by have:=congrArg List.length (toList_madeCells_one (byteV 0) n);simpa using this)
 rw [toList_madeCells_one] at h
 have e:(rowFn n fun _=>0).map byteV=List.replicate n (byteV 0):=by
  simp [rowFn,List.map_const']
 unfold OwnN
 rw [e]
 exact h
theorem OwnN.cell {w:World}{B:Nat}{E:TypeId}{g n:Nat}{l:List Nat}(h:OwnN w B E g n l)(j:Nat)(hj:j < n)(hl:l.length=n):w.cell? ⟨g,j,none⟩=some (.int .u8 ((Gf.nth l j:Nat):Int)):=by
 rw [World.ownsRow.cellAt (w:=w) h j (by omega),List.getElem?_map,List.getElem?_eq_getElem (by omega),Gf.nth_getElem l j (by omega)]
 rfl
theorem OwnN.free {w:World}{B:Nat}{E:TypeId}{g n:Nat}{l:List Nat}(h:OwnN w B E g n l)(j:Nat):w.frozen? ⟨g,j,none⟩=false:=World.ownsRow.frozenAt (w:=w) h j
theorem OwnN.set {w:World}{B:Nat}{E:TypeId}{g n:Nat}{f:Nat->Nat}(h:OwnN w B E g n (rowFn n f))(j v:Nat):OwnN (w.setCell ⟨g,j,none⟩ (.int .u8 (v:Int))) B E g n (rowFn n (fun i=>if i=j then v else f i)):=by
 have:=(World.ownsRow.stored (w:=w) h j (byteV v)).1
 rw [<- List.map_set,rowFn_set] at this
 exact this
theorem OwnN.drewN {w:World}{B:Nat}{E:TypeId}{g n:Nat}{l:List Nat}(h:OwnN w B E g n l)(m:Nat):OwnN (w.drewN m) B E g n l:=World.ownsRow.kept h (grownBy_drewN w m none) (Or.inr (by simp [Value.ownBlock]))
theorem OwnN.own {w:World}{B:Nat}{E:TypeId}{g n:Nat}{l:List Nat}(h:OwnN w B E g n l)(hl:l.length=n):Own w B E (.slice (some ⟨g,0,none⟩) n n) l:=by
 unfold Own
 rw [hl]
 exact h
theorem OwnN.lt {w:World}{B:Nat}{E:TypeId}{g n:Nat}{l:List Nat}(h:OwnN w B E g n l):B<=g/\g < w.heap.size:=World.ownsRow.lt h g rfl
def dotN (A B:List (List Nat))(i j:Nat):Nat->Nat
 | 0=>0
 | k+1=>dotN A B i j k ^^^ Gf.mul (Gf.nth (rowOf A i) k) (Gf.nth (rowOf B k) j)
def prodM (A B:List (List Nat))(m:Nat):List (List Nat):=(List.range m).map fun i=>rowFn (rowOf B 0).length fun j=>dotN A B i j B.length
def BytesM (M:List (List Nat)):Prop:=∀ i,Gf.Bytes (rowOf M i)
theorem dotN_lt (A B:List (List Nat))(hA:BytesM A)(i j:Nat):∀ k,dotN A B i j k < 256
 | 0=>by show 0 < 256;decide
 | k+1=>Gf.xlt (dotN_lt A B hA i j k) (Gf.mul_lt (hA i k) _)
theorem Mat.row {w:World}{p:Option Addr}{M:List (List Nat)}(h:Mat w p M){i:Nat}(hi:i < M.length)(hne:0 < (rowOf M i).length) :
 ∃ b o b1 o1 c,p=some ⟨b,o,none⟩/\b < w.heap.size/\b1 < w.heap.size/\w.cell? ⟨b,o+i,none⟩=some (.slice (some ⟨b1,o1,none⟩) (rowOf M i).length c)/\∀ j,j < (rowOf M i).length->w.cell? ⟨b1,o1+j,none⟩=some (.int .u8 ((Gf.nth (rowOf M i) j:Nat):Int)):=by
 rcases h with h | ⟨b,o,hp,hb,hc⟩
 ·rw [h] at hi;exact absurd hi (Nat.not_lt_zero _)
 ·obtain⟨q,c,h1,h2,_⟩:=hc i hi
  rcases h2.cells with h3 | ⟨b1,o1,hq,hb1,hc1⟩
  ·rw [h3] at hne;exact absurd hne (Nat.lt_irrefl _)
  ·subst hq
   exact⟨b,o,b1,o1,c,hp,hb,hb1,h1,hc1⟩
theorem grown_trans {a b c:World}{row:Option Nat}(h:a.grownBy b row)(k:b.grownBy c row):a.grownBy c row :=
 ⟨k.os.trans h.os,k.tape.trans h.tape,k.output.trans h.output,Nat.le_trans h.size k.size,fun i hi hne=>(k.block i (Nat.lt_of_lt_of_le hi h.size) hne).trans (h.block i hi hne)⟩
theorem below_grown {w w':World}(h:Below w.heap.size w w')(row:Option Nat):w.grownBy w' row:=⟨h.os,h.tape,h.output,h.size,fun i hi _=>h.block i hi⟩
theorem grown_set (w:World)(g j:Nat)(v:Value):w.grownBy (w.setCell ⟨g,j,none⟩ v) (some g) :=
 ⟨rfl,rfl,rfl,by simp [World.setCell],fun i _ hne=>Below.heap_setCell w _ v i (fun e=>hne (by rw [e]))⟩
theorem OwnN.below {w w':World}{B:Nat}{E:TypeId}{g n:Nat}{l:List Nat}(h:OwnN w B E g n l)(hb:Below w.heap.size w w'):OwnN w' B E g n l:=World.ownsRow.kept h (below_grown hb none) (Or.inr (by simp [Value.ownBlock]))
theorem change_any (g n B:Nat)(old val:Nat->Nat)(fn:FuncId)(caps:Array Value)(w:World)(hn:n<=1000)(hent:∀ args W,Sem.run Tryz.prog (callFunc fn args) W=.ok (.enter fn args) W)(hO:OwnN w B 5 g n (rowFn n old))
 (hc:∀ j,j < n->∀ w1,w.grownBy w1 (some g)->OwnN w1 B 5 g n (rowFn n (fun i=>if i < j then val i else old i)) ->
  Calls Tryz.prog fn (#[.int .i64 (j:Int)] ++ caps) w1 fun e w2=>e=.returned (.int .u8 ((val j:Nat):Int))/\Below w1.heap.size w1 w2) :
 Calls Tryz.prog 162 #[.slice (some ⟨g,0,none⟩) n n,.func (.func fn) #[] caps] w fun e w'=>e=.returned (.tuple #[])/\OwnN w' B 5 g n (rowFn n val)/\w.grownBy w' (some g):=by
 go_enter Tryz.func162,Tryz.ntmps162
 go_wp2
 go_loopw [7] (fun x wr=>∃ k:Nat,k<=n/\x=.int .i64 k/\OwnN wr B 5 g n (rowFn n (fun i=>if i < k then val i else old i))/\w.grownBy wr (some g)) (fun x _=>n - (intOf x).toNat)
 case atStart=>exact⟨0,by omega,rfl,by simpa using hO,below_grown (Below.refl _ _) _⟩
 case round =>
  obtain⟨k,hk,rfl,hO1,hg1⟩:=hrel
  by_cases hlt:k < n
  ·have HC:=hc k hlt wr hg1 hO1
   have HO:Hid (OwnN wr B 5 g n (rowFn n (fun i=>if i < k then val i else old i))):=hO1
   have HG:Hid (w.grownBy wr (some g)):=hg1
   clear hO1 hg1 hc hO
   go_wp2_with fail
   refine HC.mono ?_
   rintro e w2 ⟨rfl,hb2⟩
   have hO2:=HO.out.below hb2
   have hf:w2.frozen? ⟨g,k,none⟩=false:=hO2.free k
   have hcl:=hO2.cell k hlt (rowFn_length _ _)
   have hO3:=hO2.set k (val k)
   rw [rowFn_congr n _ (fun i=>if i < k+1 then val i else old i) (fun i _=>by by_cases e:i=k <;> by_cases e':i < k <;> simp [e,e'] <;> omega)] at hO3
   have HO3:Hid (OwnN (w2.setCell ⟨g,k,none⟩ (.int .u8 ((val k:Nat):Int))) B 5 g n (rowFn n (fun i=>if i < k+1 then val i else old i))):=hO3
   have HG3:Hid (w.grownBy (w2.setCell ⟨g,k,none⟩ (.int .u8 ((val k:Nat):Int))) (some g)):=grown_trans (grown_trans HG.out (below_grown hb2 _)) (grown_set _ _ _ _)
   clear hO2 hO3 hb2 HC HO HG hent
   go_wp2
   go_roundw
   case rel=>exact⟨k+1,by omega,by go_num,HO3.out,HG3.out⟩
   case measure=>simp [intOf];omega
  ·have hke:k=n:=by omega
   subst hke
   go_wp2
   go_end0
   refine⟨rfl,?_,hg1⟩
   rw [rowFn_congr k val (fun i=>if i < k then val i else old i) (fun i hi=>by simp [hi])]
   exact hO1
theorem sum_any (n:Nat)(val:Nat->Nat)(fn:FuncId)(caps:Array Value)(w:World)(hn:n<=1000)(hval:∀ l,val l < 256)(hent:∀ args W,Sem.run Tryz.prog (callFunc fn args) W=.ok (.enter fn args) W)
 (tot:Nat->Nat) (ht0:tot 0=0) (hts:∀ l,tot (l+1)=tot l ^^^ val l) (htl:∀ l,tot l < 256)
 (hc:∀ l,l < n->∀ w1,Below w.heap.size w w1->Calls Tryz.prog fn (#[.int .i64 (l:Int)] ++ caps) w1 fun e w2=>e=.returned (.int .u8 ((val l:Nat):Int))/\Below w1.heap.size w1 w2) :
 Calls Tryz.prog 174 #[.int .i64 (n:Int),.func (.func fn) #[] caps] w fun e w'=>e=.returned (.int .u8 ((tot n:Nat):Int))/\Below w.heap.size w w':=by
 have HT0:Hid (tot 0=0):=ht0
 have HTS:Hid (∀ l,tot (l+1)=tot l ^^^ val l):=hts
 clear ht0 hts
 go_enter Tryz.func174,Tryz.ntmps174
 go_wp2
 go_loopw [5,8] (fun s x wr=>∃ k:Nat,k<=n/\x=.int .i64 k/\s=.int .u8 ((tot k:Nat):Int)/\Below w.heap.size w wr) (fun _ x _=>n - (intOf x).toNat)
 case atStart=>exact⟨0,by omega,rfl,by rw [HT0.out];rfl,Below.refl _ _⟩
 case round =>
  obtain⟨k,hk,rfl,rfl,hb⟩:=hrel
  by_cases hlt:k < n
  ·have HC:=hc k hlt wr hb
   have HB:Hid (Below w.heap.size w wr):=hb
   have hz:w.heap.size<=wr.heap.size:=hb.size
   have lt:=htl k
   have lv:=hval k
   have HS:Hid (tot (k+1)=tot k ^^^ val k):=HTS.out k
   clear hb hc HTS HT0 hval htl
   generalize tot k=t at HS lt ⊢
   generalize val k=v at HS lv HC
   go_wp2_with fail
   refine HC.mono ?_
   rintro e w2 ⟨rfl,hb2⟩
   have HB2:Hid (Below w.heap.size w w2):=HB.out.trans (hb2.mono hz)
   clear hb2 HC HB hent
   go_wp2_with (go_at_call 146;refine(add_any t v _ lt lv).mono ?_;rintro e w' ⟨rfl,rfl⟩)
   go_roundw
   case rel=>exact⟨k+1,by omega,by go_num,by rw [HS.out],HB2.out⟩
   case measure=>simp [intOf];omega
  ·have hke:k=n:=by omega
   subst hke
   go_wp2
   go_ret
   exact⟨rfl,hb⟩
theorem fits_any (n:Nat)(w:World)(hn:n < 2 ^ 62):Calls Tryz.prog 161 #[.int .i64 (n:Int)] w fun e w'=>e=.returned (.bool (decide (1<=n/\n<=16)))/\w'=w:=by
 by_cases h1:1<=n
 ·by_cases h2:n<=16
  ·have HD:Hid (decide (1<=n/\n<=16)=true):=decide_eq_true ⟨h1,h2⟩
   go_enter Tryz.func161,Tryz.ntmps161
   go_wp2
   go_ret
   exact⟨ret_bool ((decide_eq_true (by omega)).trans HD.out.symm),rfl⟩
  ·have HD:Hid (decide (1<=n/\n<=16)=false):=decide_eq_false (fun h=>h2 h.2)
   go_enter Tryz.func161,Tryz.ntmps161
   go_wp2
   go_ret
   exact⟨ret_bool ((decide_eq_false (by omega)).trans HD.out.symm),rfl⟩
 ·rw [decide_eq_false (fun h=>h1 h.1:¬ (1<=n/\n<=16))]
  go_enter Tryz.func161,Tryz.ntmps161
  go_wp2
  go_ret
  exact⟨rfl,rfl⟩
theorem fits_yes (n:Nat)(w:World)(h1:1<=n)(h2:n<=16):Calls Tryz.prog 161 #[.int .i64 (n:Int)] w fun e w'=>e=.returned (.bool true)/\w'=w:=by
 have:=fits_any n w (by omega)
 rw [decide_eq_true (⟨h1,h2⟩:1<=n/\n<=16)] at this
 exact this
theorem check_ok (p:Option Addr)(M:List (List Nat))(cap:Nat)(w:World)(hM:IsMat M)(h:Mat w p M) :
 Calls Tryz.prog 140 #[.slice p M.length cap] w fun e w'=>e=.returned .nilIface/\w'=w:=by
 have HM:Hid (IsMat M):=hM
 have l1:1<=M.length:=hM.1
 have l2:M.length<=16:=hM.2.1
 have n1:1<=(rowOf M 0).length:=(hM.2.2 0 (by omega)).1
 have n2:(rowOf M 0).length<=16:=(hM.2.2 0 (by omega)).2.1
 clear hM
 rcases h with h | ⟨b,o,rfl,hb,hc⟩
 ·rw [h] at l1;simp at l1
 obtain⟨q0,c0,hc0,_⟩:=hc 0 (by omega)
 have hc0':w.cell? ⟨b,o,none⟩=some (.slice q0 (rowOf M 0).length c0):=hc0
 have HC:Hid (∀ i,i < M.length->∃ q c,w.cell? ⟨b,o+i,none⟩=some (.slice q (rowOf M 0).length c)):=fun i hi=>by
  obtain⟨q,c,h1,_⟩:=hc i hi
  rw [(HM.out.2.2 i hi).2.2] at h1
  exact⟨q,c,h1⟩
 clear hc hc0
 generalize (rowOf M 0).length=n at *
 go_enter Tryz.func140,Tryz.ntmps140
 go_wp2_with (first | (go_at_call 161;with_reducible refine(fits_yes M.length _ l1 l2).mono ?_;rintro e w' ⟨rfl,rfl⟩) | (go_at_call 161;refine(fits_yes n _ n1 n2).mono ?_;rintro e w' ⟨rfl,rfl⟩))
 go_loop [20] (fun j=>∃ k:Nat,k<=M.length/\j=.int .i64 k) (fun j=>M.length - (intOf j).toNat)
 case atStart=>exact⟨0,by omega,rfl⟩
 case round =>
  obtain⟨k,hk,rfl⟩:=hrel
  by_cases hlt:k < M.length
  ·obtain⟨q,c,hq⟩:=HC.out k hlt
   go_wp2
   go_round
   case rel=>exact⟨k+1,by omega,by go_num⟩
   case measure=>simp [intOf];omega
  ·go_wp2
   go_ret
   exact⟨rfl,rfl⟩
theorem Mat.at {w:World}{p:Option Addr}{M:List (List Nat)}(h:Mat w p M){i j:Nat}(hi:i < M.length)(hj:j < (rowOf M i).length) :
 ∃ b o b1 o1 c,p=some ⟨b,o,none⟩/\w.cell? ⟨b,o+i,none⟩=some (.slice (some ⟨b1,o1,none⟩) (rowOf M i).length c)/\w.cell? ⟨b1,o1+j,none⟩=some (.int .u8 ((Gf.nth (rowOf M i) j:Nat):Int)):=by
 obtain⟨b,o,b1,o1,c,h1,_,_,h2,h3⟩:=h.row hi (by omega)
 exact⟨b,o,b1,o1,c,h1,h2,h3 j hj⟩
theorem diag_any (i j:Nat)(w:World):Calls Tryz.prog 143 #[.int .i64 (i:Int),.int .i64 (j:Int)] w fun e w'=>e=.returned (.int .u8 ((if i=j then 1 else 0:Nat):Int))/\w'=w:=by
 by_cases e:i=j
 ·subst e
  rw [if_pos rfl]
  go_enter Tryz.func143,Tryz.ntmps143
  go_wp2
  go_ret
  exact⟨rfl,rfl⟩
 ·have ht:((i:Int)==(j:Int))=false:=by simp;omega
  rw [if_neg e]
  clear e
  go_enter Tryz.func143,Tryz.ntmps143
  go_wp2
  go_ret
  exact⟨rfl,rfl⟩
theorem invert1_any (ps pm i j side cap:Nat)(p:Option Addr)(M:List (List Nat))(w:World)(hi:i < M.length)(hj:j < 2*side)(hs:(rowOf M i).length=side)(hn:side<=1000)(hps:w.cell? ⟨ps,0,none⟩=some (.int .i64 (side:Int)))(hp:w.cell? ⟨pm,0,none⟩=some (.slice p M.length cap))(h:Mat w p M) :
 Calls Tryz.prog 142 #[.int .i64 (i:Int),.int .i64 (j:Int),.pointer (some ⟨ps,0,none⟩),.pointer (some ⟨pm,0,none⟩)] w fun e w'=>e=.returned (.int .u8 (((if j < side then Gf.nth (rowOf M i) j else if i=j - side then 1 else 0:Nat)):Int))/\Below w.heap.size w w':=by
 by_cases hlt:j < side
 ·obtain⟨b,o,b1,o1,c,rfl,h1,h2⟩:=h.at hi (by rw [hs];exact hlt)
  rw [hs] at h1
  rw [if_pos hlt]
  clear hs h
  go_enter Tryz.func142,Tryz.ntmps142
  go_wp2
  go_ret
  exact⟨rfl,Below.refl _ _⟩
 ·rw [if_neg hlt]
  have hsub:((j:Int) - (side:Int))=((j - side:Nat):Int):=by omega
  clear hs h
  go_enter Tryz.func142,Tryz.ntmps142
  go_wp2_with (go_at_call 143;first | (rw [hsub];refine(diag_any i (j - side) _).mono ?_;rintro e w' ⟨rfl,rfl⟩) | (refine(diag_any i (j - side) _).mono ?_;rintro e w' ⟨rfl,rfl⟩))
  all_goals (go_ret;exact⟨rfl,Below.refl _ _⟩)
theorem invert2_any (pb ps i j side gm r n:Nat)(gs:Nat->Nat)(x:Nat)(w:World)(hi:i < r)(hj:side+j < n)(hn:n<=1000)(hb:w.cell? ⟨pb,0,none⟩=some (.slice (some ⟨gm,0,none⟩) r r))(hs:w.cell? ⟨ps,0,none⟩=some (.int .i64 (side:Int)))(h1:w.cell? ⟨gm,i,none⟩=some (.slice (some ⟨gs i,0,none⟩) n n))(h2:w.cell? ⟨gs i,side+j,none⟩=some (.int .u8 (x:Int))) :
 Calls Tryz.prog 145 #[.int .i64 (i:Int),.int .i64 (j:Int),.pointer (some ⟨pb,0,none⟩),.pointer (some ⟨ps,0,none⟩)] w fun e w'=>e=.returned (.int .u8 (x:Int))/\Below w.heap.size w w':=by
 go_enter Tryz.func145,Tryz.ntmps145
 go_wp2
 go_quiet (fail)
 go_wp2
 go_ret
 exact⟨rfl,below_drewN (Below.refl _ _) _⟩
theorem times11_any (pa pi pb pj i j l ca cb:Nat)(a b:Option Addr)(A B:List (List Nat))(w:World)(hi:i < A.length)(hl:l < (rowOf A i).length)(hlb:l < B.length)(hj:j < (rowOf B l).length)(hA:w.cell? ⟨pa,0,none⟩=some (.slice a A.length ca))(hB:w.cell? ⟨pb,0,none⟩=some (.slice b B.length cb))(hI:w.cell? ⟨pi,0,none⟩=some (.int .i64 (i:Int)))(hJ:w.cell? ⟨pj,0,none⟩=some (.int .i64 (j:Int)))(mA:Mat w a A)(mB:Mat w b B)(bA:BytesM A)(bB:BytesM B) :
 Calls Tryz.prog 175 #[.int .i64 (l:Int),.pointer (some ⟨pa,0,none⟩),.pointer (some ⟨pi,0,none⟩),.pointer (some ⟨pb,0,none⟩),.pointer (some ⟨pj,0,none⟩)] w fun e w'=>e=.returned (.int .u8 ((Gf.mul (Gf.nth (rowOf A i) l) (Gf.nth (rowOf B l) j):Nat):Int))/\Below w.heap.size w w':=by
 obtain⟨a1,a2,a3,a4,a5,rfl,a6,a7⟩:=mA.at hi hl
 obtain⟨b1,b2,b3,b4,b5,rfl,b6,b7⟩:=mB.at hlb hj
 have lx:=bA i l
 have ly:=bB l j
 clear mA mB
 generalize Gf.nth (rowOf A i) l=x at *
 generalize Gf.nth (rowOf B l) j=y at *
 go_enter Tryz.func175,Tryz.ntmps175
 go_wp2
 go_quiet ((go_at_call 147;exact Calls.quiet_of_same (mul_any x y _ lx ly)))
 go_wp2
 go_ret
 exact⟨rfl,below_drewN (Below.refl _ _) _⟩
theorem rmul_any (a b:Nat)(w:World)(ha:a < 256)(_hb:b < 256) :
 Calls Tryz.prog 91 #[.int .u8 (a:Int),.int .u8 (b:Int)] w fun e w'=>e=.returned (.int .u8 ((Gf.mul a b:Nat):Int))/\w'=w:=by
 go_enter Tryz.func91,Tryz.ntmps91
 go_wp2
 go_loop [5,6] (fun p i=>∃ k:Nat,k<=8/\i=.int .i64 k/\p=.int .i64 (Gf.rprod a b k:Nat)) (fun _ i=>8 - (intOf i).toNat)
 case atStart=>exact⟨0,by omega,rfl,rfl⟩
 case round =>
  obtain⟨k,hk,rfl,rfl⟩:=hrel
  have hp:=Gf.rprod_lt ha b k hk
  by_cases hlt:k < 8
  ·have hbt:=tmod_test b k
   have hak:a*2 ^ k < 2 ^ 15:=by
    have h1:2 ^ k<=2 ^ 7:=Nat.pow_le_pow_right (by decide) (by omega)
    have h2:a*2 ^ k<=255*2 ^ 7:=Nat.mul_le_mul (by omega) h1
    omega
   have hw1:wrap64 ((a:Int)*2 ^ k)=((a*2 ^ k:Nat):Int):=by
    have:=wrap64_small (a*2 ^ k) (by omega)
    simpa using this
   have HX:Hid (bits .xor .i64 ((Gf.rprod a b k:Nat):Int) (wrap64 ((a:Int)*2 ^ k))=((Gf.rprod a b k ^^^ (a*2 ^ k):Nat):Int)):=by show _=_;rw [hw1];exact i64_xor_nat _ _ (by omega) (by omega)
   clear hw1
   by_cases hbit:Gf.bitOf b k=1
   ·have HP:Hid (Gf.rprod a b (k+1)=Gf.rprod a b k ^^^ (a*2 ^ k)):=by show _=_;simp [Gf.rprod,hbit]
    rw [decide_eq_true hbit] at hbt
    clear hbit
    go_wp2
    exact⟨⟨k+1,by omega,by go_num,by rw [HP.out,HX.out]⟩,by simp [intOf];omega⟩
   ·have HP:Hid (Gf.rprod a b (k+1)=Gf.rprod a b k):=by show _=_;simp [Gf.rprod,hbit]
    rw [decide_eq_false hbit] at hbt
    clear hbit
    go_wp2
    exact⟨⟨k+1,by omega,by go_num,by rw [HP.out]⟩,by simp [intOf];omega⟩
  ·have hk8:k=8:=by omega
   subst hk8
   go_wp2
   have hn:Hid (Gf.rprod a b 8 < 2 ^ 15):=hp
   have HR:Hid (Gf.rmod (Gf.rprod a b 8)=Gf.mul a b):=Gf.rmul_eq a b ha
   generalize Gf.rprod a b 8=n at hn HR hp ⊢
   go_loop [5,7] (fun p i=>∃ m:Nat,7<=m/\m<=14/\i=.int .i64 m/\p=.int .i64 (Gf.rr n (14 - m):Nat)) (fun _ i=>(intOf i).toNat)
   case atStart=>exact⟨14,by omega,by omega,rfl,rfl⟩
   case round =>
    obtain⟨m,hm7,hm,rfl,rfl⟩:=hrel
    have hp2:=Gf.rr_lt hn.out (14 - m)
    have HE:Hid (Gf.rr n (14 - (m - 1))=if 8<=m then Gf.rstep m (Gf.rr n (14 - m)) else Gf.rr n (14 - (m - 1))):=by
     show _=_
     by_cases h8:8<=m
     ·rw [if_pos h8,show 14 - (m - 1)=(14 - m)+1 from by omega]
      show Gf.rstep (14 - (14 - m)) _=_
      rw [show 14 - (14 - m)=m from by omega]
     ·rw [if_neg h8]
    by_cases h8:8<=m
    ·have hbt:=tmod_test (Gf.rr n (14 - m)) m
     have h285:285*2 ^ (m - 8) < 2 ^ 15:=by
      have h1:2 ^ (m - 8)<=2 ^ 6:=Nat.pow_le_pow_right (by decide) (by omega)
      have h2:285*2 ^ (m - 8)<=285*2 ^ 6:=Nat.mul_le_mul (Nat.le_refl _) h1
      omega
     have hw1:wrap64 ((285:Int)*2 ^ (m - 8))=((285*2 ^ (m - 8):Nat):Int):=by
      have:=wrap64_small (285*2 ^ (m - 8)) (by omega)
      simpa using this
     have HX:Hid (bits .xor .i64 ((Gf.rr n (14 - m):Nat):Int) (wrap64 ((285:Int)*2 ^ (m - 8)))=((Gf.rr n (14 - m) ^^^ (285*2 ^ (m - 8)):Nat):Int)):=by show _=_;rw [hw1];exact i64_xor_nat _ _ (by omega) (by omega)
     have HE':Hid (Gf.rr n (14 - (m - 1))=Gf.rstep m (Gf.rr n (14 - m))):=by have:=HE.out;rw [if_pos h8] at this;exact this
     clear hw1 HE
     by_cases hbit:Gf.bitOf (Gf.rr n (14 - m)) m=1
     ·have HP:Hid (Gf.rstep m (Gf.rr n (14 - m))=Gf.rr n (14 - m) ^^^ (285*2 ^ (m - 8))):=by show _=_;simp [Gf.rstep,hbit]
      rw [decide_eq_true hbit] at hbt
      clear hbit
      go_wp2
      exact⟨⟨m - 1,by omega,by omega,by congr 1;omega,by rw [HE'.out,HP.out,HX.out]⟩,by simp [intOf];omega⟩
     ·have HP:Hid (Gf.rstep m (Gf.rr n (14 - m))=Gf.rr n (14 - m)):=by show _=_;simp [Gf.rstep,hbit]
      rw [decide_eq_false hbit] at hbt
      clear hbit
      go_wp2
      exact⟨⟨m - 1,by omega,by omega,by congr 1;omega,by rw [HE'.out,HP.out]⟩,by simp [intOf];omega⟩
    ·have hm':m=7:=by omega
     subst hm'
     go_wp2
     go_ret
     refine⟨ret_int ?_,rfl⟩
     have:=HR.out
     rw [<- this]
     simp [Gf.rmod]
theorem rmul_as (a b c:Nat)(w:World)(ha:a < 256)(hb:b < 256)(h:Gf.mul a b=c) :
 Calls Tryz.prog 91 #[.int .u8 (a:Int),.int .u8 (b:Int)] w fun e w'=>e=.returned (.int .u8 ((c:Nat):Int))/\w'=w:=h ▸ rmul_any a b w ha hb
theorem rinv_any (a:Nat)(w:World)(ha:a < 256)(h0:a≠0) :
 Calls Tryz.prog 127 #[.int .u8 (a:Int)] w fun e w'=>e=.returned (.int .u8 ((Gf.inv a:Nat):Int))/\w'=w:=by
 have hi:=Gf.inv_lt a
 have hip:=Gf.inv_pos a ha h0
 have HM:Hid (Gf.mul a (Gf.inv a)=1):=Gf.mul_inv a ha h0
 have HU:Hid (∀ b,b < 256->Gf.mul a b=1->b=Gf.inv a):=fun b hb h=>Gf.inv_unique a b ha hb h0 h
 clear h0
 go_enter Tryz.func127,Tryz.ntmps127
 go_wp2
 go_loop [3] (fun i=>∃ k:Nat,1<=k/\k<=Gf.inv a/\i=.int .i64 k) (fun i=>256 - (intOf i).toNat)
 case atStart=>exact⟨1,by omega,by omega,rfl⟩
 case round =>
  obtain⟨k,hk1,hk,rfl⟩:=hrel
  by_cases hki:k=Gf.inv a
  ·subst hki
   go_wp2_with fail
   refine(rmul_as a (Gf.inv a) 1 _ ha hi HM.out).mono ?_
   rintro e w' ⟨rfl,rfl⟩
   go_wp2
   go_ret
   exact⟨rfl,rfl⟩
  ·have hn1 : (((Gf.mul a k : Nat) : Int) == 1) = false := by
    simp only [beq_eq_false_iff_ne,ne_eq]
    intro h
    exact hki (HU.out k (by omega) (by omega))
   go_wp2_with fail
   refine(rmul_any a k _ ha (by omega)).mono ?_
   rintro e w' ⟨rfl,rfl⟩
   go_wp2
   exact⟨⟨k+1,by omega,by omega,by go_num⟩,by simp [intOf];omega⟩
theorem basis_any (p:Option Addr)(l:List Nat)(cap i x:Nat)(w:World)(hx:x < 256)(hl:l.length < 2 ^ 40)(hi:i < l.length)(hn:l.Nodup)(hs:Seg w p l) :
 Calls Tryz.prog 100 #[.slice p l.length cap,.int .i64 (i:Int),.int .u8 (x:Int)] w fun e w'=>e=.returned (.int .u8 ((Gf.shareOf l i x:Nat):Int))/\∃ n,w'=w.drewN n:=by
 obtain⟨hlt,hs⟩:=hs
 rcases hs with hs | ⟨b,o,rfl,hb,hc⟩
 ·rw [hs] at hi;simp at hi
 have hxi:=hlt i
 have HE:Hid (Gf.bas l i x l.length=Gf.shareOf l i x):=Gf.bas_share l hlt hn i x hi hx
 have HI:Hid (∀ k,k < l.length->k≠i->Gf.nth l i ^^^ Gf.nth l k≠0):=fun k hk e=>Gf.xor_ne fun h'=>e (Gf.nth_inj l hn hk hi h'.symm)
 clear hn
 go_enter Tryz.func100,Tryz.ntmps100
 go_wp2
 go_loopw [7,8] (fun s j wr=>(∃ n,wr=w.drewN n)/\∃ k:Nat,k<=l.length/\j=.int .i64 k/\s=.int .u8 (Gf.bas l i x k:Nat)) (fun _ j _=>l.length - (intOf j).toNat)
 case atStart=>exact⟨⟨0,rfl⟩,0,by omega,rfl,rfl⟩
 case round =>
  obtain⟨hw0,k,hk,rfl,rfl⟩:=hrel
  have HW:Hid (∃ n,wr=w.drewN n):=hw0
  clear hw0
  have hpa:=Gf.bas_lt l i x k
  by_cases hlt2:k < l.length
  ·have hc1 : wr.cell? ⟨b, o + k, none⟩ = some (.int .u8 ((Gf.nth l k : Nat) : Int)) := by
    obtain⟨n,hn⟩:=HW.out
    rw [hn]
    exact hc k hlt2
   have hc2:wr.cell? ⟨b,o+i,none⟩=some (.int .u8 ((Gf.nth l i:Nat):Int)):=by
    obtain⟨n,hn⟩:=HW.out
    rw [hn]
    exact hc i hi
   have hkl:=hlt k
   have HA:Hid (Gf.bas l i x (k+1)=if k=i then Gf.bas l i x k else Gf.mul (Gf.bas l i x k) (Gf.mul (x ^^^ Gf.nth l k) (Gf.inv (Gf.nth l i ^^^ Gf.nth l k)))):=rfl
   clear hc
   by_cases hki:k=i
   ·have HA':=HA.out
    rw [if_pos hki] at HA'
    have HA2:Hid (Gf.bas l i x (k+1)=Gf.bas l i x k):=HA'
    have ht:((k:Int) != (i:Int))=false:=by simp;omega
    clear HA HA' hki
    go_wp2
    go_roundw
    case rel=>exact⟨HW.out,k+1,by omega,by go_num,by rw [HA2.out]⟩
    case measure=>simp [intOf];omega
   ·have HA':=HA.out
    rw [if_neg hki] at HA'
    have HA2:Hid (Gf.bas l i x (k+1)=Gf.mul (Gf.bas l i x k) (Gf.mul (x ^^^ Gf.nth l k) (Gf.inv (Gf.nth l i ^^^ Gf.nth l k)))):=HA'
    have HZ:Hid (Gf.nth l i ^^^ Gf.nth l k≠0):=HI.out k hlt2 hki
    have ht:((k:Int) != (i:Int))=true:=by simp;omega
    clear HA HA' hki HI
    generalize Gf.bas l i x k=pa at hpa HA2 ⊢
    generalize Gf.nth l k=c at hc1 hkl HA2 HZ
    generalize Gf.nth l i=d at hc2 hxi HA2 HZ
    have hxc:=Gf.xlt hx hkl
    have hdc:=Gf.xlt hxi hkl
    have hb1:=u8_xor_nat x c hx hkl
    have hb2:=u8_xor_nat d c hxi hkl
    have hin:=Gf.inv_lt (d ^^^ c)
    have hm:=Gf.mul_lt hxc (Gf.inv (d ^^^ c))
    go_wp2
    go_quiet ((first | (go_at_call 127;exact Calls.quiet_of_same (rinv_any (d ^^^ c) _ hdc HZ.out)) | (go_at_call_of 91 (Value.int IntKind.u8 ((x ^^^ c:Nat):Int));exact Calls.quiet_of_same (rmul_any (x ^^^ c) (Gf.inv (d ^^^ c)) _ hxc hin)) | (go_at_call_of 91 (Value.int IntKind.u8 ((pa:Nat):Int));exact Calls.quiet_of_same (rmul_any pa (Gf.mul (x ^^^ c) (Gf.inv (d ^^^ c))) _ hpa hm))))
    go_wp2
    go_roundw
    case rel =>
     obtain⟨n,hn⟩:=HW.out
     exact⟨⟨n+nq,by rw [hn,World.drewN_drewN]⟩,k+1,by omega,by go_num,by rw [HA2.out]⟩
    case measure=>simp [intOf];omega
  ·have hke:k=l.length:=by omega
   subst hke
   go_wp2
   go_ret
   exact⟨by simp [HE.out],HW.out⟩
def spreadM (k n:Nat):List (List Nat):=(List.range n).map fun i=>rowFn k fun j=>Gf.shareOf (upToL k) j i
theorem spreadM_succ (k n:Nat):spreadM k (n+1)=spreadM k n ++ [rowFn k fun j=>Gf.shareOf (upToL k) j n]:=by simp [spreadM,List.range_succ]
theorem spreadM_length (k n:Nat):(spreadM k n).length=n:=by simp [spreadM]
theorem upToL_nodup (k:Nat):(upToL k).Nodup:=List.nodup_range
theorem upToL_length (k:Nat):(upToL k).length=k:=by simp [upToL]
theorem upToL_bytes (k:Nat)(h:k<=256):Gf.Bytes (upToL k):=fun i=>by
 by_cases hi:i < k
 ·rw [Gf.nth_getElem _ _ (by rw [upToL_length];exact hi)];simp [upToL];omega
 ·unfold Gf.nth;rw [List.getD_eq_getElem?_getD,List.getElem?_eq_none (by rw [upToL_length];omega)];decide
theorem basis_told (p:Option Addr)(k cap j x:Nat)(w:World)(hx:x < 256)(hk:k<=100)(hj:j < k)(hs:Seg w p (upToL k)) :
 Calls Tryz.prog 100 #[.slice p k cap,.int .i64 (j:Int),.int .u8 (x:Int)] w fun e w'=>e=.returned (.int .u8 ((Gf.shareOf (upToL k) j x:Nat):Int))/\∃ n,w'=w.drewN n:=by
 have h:=basis_any p (upToL k) cap j x w hx (by rw [upToL_length];omega) (by rw [upToL_length];exact hj) (upToL_nodup k) hs
 rw [upToL_length] at h
 exact h
theorem spreadM_row (k n i:Nat)(hi:i < n):rowOf (spreadM k n) i=rowFn k fun j=>Gf.shareOf (upToL k) j i:=by
 unfold rowOf spreadM
 rw [List.getD_eq_getElem?_getD,List.getElem?_map,List.getElem?_range hi]
 rfl
def encN (s:List Nat)(k wd i c:Nat):Nat->Nat
 | 0=>0
 | j+1=>if j*wd+c < s.length then encN s k wd i c j ^^^ Gf.mul (Gf.shareOf (upToL k) j i) (Gf.nth s (j*wd+c)) else encN s k wd i c j
def encRow (s:List Nat)(k wd i:Nat):List Nat:=rowFn wd fun c=>encN s k wd i c k
theorem encN_lt (s:List Nat)(k wd i c:Nat):∀ j,encN s k wd i c j < 256
 | 0=>by show 0 < 256;decide
 | j+1=>by
  show(if j*wd+c < s.length then encN s k wd i c j ^^^ Gf.mul (Gf.shareOf (upToL k) j i) (Gf.nth s (j*wd+c)) else encN s k wd i c j) < 256
  split
  ·exact Gf.xlt (encN_lt s k wd i c j) (Gf.mul_lt (Gf.shareOf_lt _ _ _) _)
  ·exact encN_lt s k wd i c j
def shCells (l:List (Nat×List Nat)):List Value:=l.flatMap fun x=>[.int .i64 (x.1:Int),.string (strOf x.2)]
def OwnSh (w:World)(B:Nat)(v:Value)(l:List (Nat×List Nat)):Prop:=w.ownsRow B 74 2 v l.length (shCells l)
theorem shinfo:(Tryz.prog.info? 74).map (fun i=>(i.zero,i.size,i.bytes))=some (some (.agg #[.int .i64 0,.string ⟨#[]⟩]),2,24):=by kernel_rfl
theorem shCells_snoc (l:List (Nat×List Nat))(x:Nat×List Nat):shCells (l ++ [x])=shCells l ++ [.int .i64 (x.1:Int),.string (strOf x.2)]:=by simp [shCells]
theorem OwnSh.snoc {w:World}{B:Nat}{v:Value}{l:List (Nat×List Nat)}{i:Nat}{row:List Nat}{n:Nat}(h:w.ownsRow B 74 2 v (n+1) (shCells l ++ [.int .i64 (i:Int),.string (strOf row)]))(hn:n=l.length):OwnSh w B v (l ++ [(i,row)]):=by
 unfold OwnSh
 rw [shCells_snoc,List.length_append,List.length_singleton,<- hn]
 exact h
def canB (n k:Nat)(v:Ver):Bool:=tagB v.n v.who && decide (0<=v.size/\v.size<=1000/\0<=v.at_/\v.at_ < n/\v.text.size=wideN k v.size.toNat)
theorem canBe_any (n k:Nat)(p:Option Addr)(ln cap:Nat)(v:Ver)(w:World)(hk1:1<=k)(hk:k<=12) :
 Calls Tryz.prog 98 #[.agg #[.int .i64 (n:Int),.int .i64 (k:Int),.slice p ln cap],.agg #[.int .i64 v.n,.int .i64 v.who,.int .i64 v.size,.int .i64 v.at_,.string v.text]] w fun e w'=>e=.returned (.bool (canB n k v))/\Below w.heap.size w w':=by
 obtain⟨wc,hwc⟩:∃ wc,wc=w.alloc (.cells #[.int .i64 (n:Int),.int .i64 (k:Int),.slice p ln cap] 24):=⟨_,rfl⟩
 have e1:wc.heap.size=w.heap.size+1:=by rw [hwc];simp
 obtain⟨w0,hw0⟩:∃ w0,w0=wc.alloc (.cells #[.int .i64 v.n,.int .i64 v.who,.int .i64 v.size,.int .i64 v.at_,.string v.text] 76):=⟨_,rfl⟩
 have hbc:Below w.heap.size w wc:=zBe hwc
 have hb0c:Below wc.heap.size wc w0:=zBe hw0
 have HB0:Hid (Below w.heap.size w w0):=hbc.trans (hb0c.mono hbc.size)
 have a0:w0.cell? ⟨w.heap.size,0,none⟩=some (.int .i64 (n:Int)):=(hb0c.cell (p:=⟨w.heap.size,0,none⟩) (by show w.heap.size < _;omega)).trans (zAc hwc rfl)
 have a1:w0.cell? ⟨w.heap.size,1,none⟩=some (.int .i64 (k:Int)):=(hb0c.cell (p:=⟨w.heap.size,1,none⟩) (by show w.heap.size < _;omega)).trans (zAc hwc rfl)
 have b0:w0.cell? ⟨w.heap.size+1,0,none⟩=some (.int .i64 v.n):=by rw [hw0,World.cell?_alloc_at _ _ _ _ e1.symm];rfl
 have b1:w0.cell? ⟨w.heap.size+1,1,none⟩=some (.int .i64 v.who):=by rw [hw0,World.cell?_alloc_at _ _ _ _ e1.symm];rfl
 have b2:w0.cell? ⟨w.heap.size+1,2,none⟩=some (.int .i64 v.size):=by rw [hw0,World.cell?_alloc_at _ _ _ _ e1.symm];rfl
 have b3:w0.cell? ⟨w.heap.size+1,3,none⟩=some (.int .i64 v.at_):=by rw [hw0,World.cell?_alloc_at _ _ _ _ e1.symm];rfl
 have b4:w0.cell? ⟨w.heap.size+1,4,none⟩=some (.string v.text):=by rw [hw0,World.cell?_alloc_at _ _ _ _ e1.symm];rfl
 have HALL:Hid (∀ W,Below w0.heap.size w0 W->W.cell? ⟨w.heap.size,0,none⟩=some (.int .i64 (n:Int))/\W.cell? ⟨w.heap.size,1,none⟩=some (.int .i64 (k:Int))/\W.cell? ⟨w.heap.size+1,2,none⟩=some (.int .i64 v.size)/\W.cell? ⟨w.heap.size+1,3,none⟩=some (.int .i64 v.at_)/\W.cell? ⟨w.heap.size+1,4,none⟩=some (.string v.text)):=fun W hW=>by
  have hx:w.heap.size+1 < w0.heap.size:=lt_of_cellH b0
  have hy:w.heap.size < w0.heap.size:=lt_of_cellH a0
  exact⟨(hW.cell (p:=⟨w.heap.size,0,none⟩) hy).trans a0,(hW.cell (p:=⟨w.heap.size,1,none⟩) hy).trans a1,(hW.cell (p:=⟨w.heap.size+1,2,none⟩) hx).trans b2,(hW.cell (p:=⟨w.heap.size+1,3,none⟩) hx).trans b3,(hW.cell (p:=⟨w.heap.size+1,4,none⟩) hx).trans b4⟩
 have HW0:Hid (w0=(w.alloc (.cells #[.int .i64 (n:Int),.int .i64 (k:Int),.slice p ln cap] 24)).alloc (.cells #[.int .i64 v.n,.int .i64 v.who,.int .i64 v.size,.int .i64 v.at_,.string v.text] 76)):=by rw [<- hwc];exact hw0
 have HTG:Hid (∀ W,Calls Tryz.prog 126 #[.agg #[.int .i64 v.n,.int .i64 v.who]] W fun e w'=>e=.returned (.bool (tagB v.n v.who))/\Below W.heap.size W w'):=fun W=>isTag_any v.n v.who W
 have HW:Hid ((tagB v.n v.who=false/\canB n k v=false)∨tagB v.n v.who=true/\((v.size < 0/\canB n k v=false)∨¬ v.size < 0/\((1000 < v.size/\canB n k v=false)∨¬ 1000 < v.size/\((v.at_ < 0/\canB n k v=false)∨¬ v.at_ < 0/\(((n:Int)<=v.at_/\canB n k v=false)∨¬ (n:Int)<=v.at_/\canB n k v=decide (v.text.size=wideN k v.size.toNat)))))):=by
  show _∨_
  unfold canB
  cases hT:tagB v.n v.who with
  | false=>exact Or.inl ⟨rfl,rfl⟩
  | true =>
   refine Or.inr ⟨rfl,?_⟩
   rw [Bool.true_and]
   by_cases g1:v.size < 0
   ·exact Or.inl ⟨g1,decide_eq_false (by omega)⟩
   refine Or.inr ⟨g1,?_⟩
   by_cases g2:1000 < v.size
   ·exact Or.inl ⟨g2,decide_eq_false (by omega)⟩
   refine Or.inr ⟨g2,?_⟩
   by_cases g3:v.at_ < 0
   ·exact Or.inl ⟨g3,decide_eq_false (by omega)⟩
   refine Or.inr ⟨g3,?_⟩
   by_cases g4:(n:Int)<=v.at_
   ·exact Or.inl ⟨g4,decide_eq_false (by omega)⟩
   refine Or.inr ⟨g4,?_⟩
   congr 1
   exact propext ⟨fun h=>h.2.2.2.2,fun h=>⟨by omega,by omega,by omega,by omega,h⟩⟩
 have HWD:Hid (∀ W (z:Nat),(z:Int)=v.size->z<=1000->Calls Tryz.prog 89 #[.int .i64 (k:Int),.int .i64 v.size] W fun e w'=>e=.returned (.int .i64 ((wideN k z:Nat):Int))/\w'=W):=fun W z hz h2=>by
  rw [<- hz]
  exact rwide_any k z W hk1 (by omega) (by omega)
 clear hwc hw0 hbc hb0c e1 b2 b3 b4 a0 a1
 generalize tagB v.n v.who=tb at *
 generalize canB n k v=r at *
 rcases HW.out with ⟨rfl,rfl⟩ | ⟨rfl,⟨g,rfl⟩ | ⟨g1,⟨g,rfl⟩ | ⟨g2,⟨g,rfl⟩ | ⟨g3,⟨g,rfl⟩ | ⟨g4,hr⟩⟩⟩⟩⟩
 all_goals
  go_enter Tryz.func98,Tryz.ntmps98
  go_wp2_with (rw [<- HW0.out])
  refine(HTG.out _).mono ?_
  rintro e w1 ⟨rfl,hb1⟩
  obtain⟨m0,m1,m3,m4,m5⟩:=HALL.out w1 hb1
  have HB1:Hid (Below w.heap.size w w1):=HB0.out.trans (hb1.mono HB0.out.size)
  clear HTG hb1 b0 b1
  try (go_wp2;go_ret;exact⟨rfl,HB1.out⟩)
 have HR:Hid (r=decide (v.text.size=wideN k v.size.toNat)):=hr
 have hz:((v.size.toNat:Nat):Int)=v.size:=by omega
 have HC:Hid (∀ W,Calls Tryz.prog 89 #[.int .i64 (k:Int),.int .i64 v.size] W fun e w'=>e=.returned (.int .i64 ((wideN k v.size.toNat:Nat):Int))/\w'=W):=fun W=>HWD.out W v.size.toNat hz (by omega)
 clear hr hz HWD HW
 generalize wideN k v.size.toNat=wd at *
 by_cases hq:v.text.size=wd
 ·have HR2:Hid (r=true):=by show _=_;rw [HR.out];exact decide_eq_true hq
  clear HR
  subst hq
  go_wp2
  go_quiet ((go_at_call 89;exact Calls.quiet_of_same (HC.out _)))
  go_wp2
  go_ret
  exact⟨by rw [HR2.out];simp,below_drewN HB1.out _⟩
 ·have HR2:Hid (r=false):=by show _=_;rw [HR.out];exact decide_eq_false hq
  clear HR
  have d:(((v.text.size:Nat):Int)==(wd:Int))=false:=by rw [beq_eq_false_iff_ne];omega
  go_wp2
  go_quiet ((go_at_call 89;exact Calls.quiet_of_same (HC.out _)))
  go_wp2
  go_ret
  exact⟨by rw [HR2.out];rfl,below_drewN HB1.out _⟩
end Go.Proofs.YtmhoiodfppdlnaaGreatDoor
