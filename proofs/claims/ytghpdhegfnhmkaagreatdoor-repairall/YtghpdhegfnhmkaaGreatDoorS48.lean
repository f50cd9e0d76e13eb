import Derived.Test.YtghpdhegfnhmkaaGreatDoorS46
import Derived.Test.YtghpdhegfnhmkaaGreatDoorS47
namespace Go.Proofs.YtghpdhegfnhmkaaGreatDoor
open Go.RowKit
section
variable {W W':World} {B:Nat} {Ka Kb:List (Option (List Kep))} {hp hm:Nat->Nat} {O:Nat->Option Nat} {Pa Pb:List (Option Nat)} {va vb:Value}
theorem ShAt.freshA (h:ShAt W B Ka Kb hp hm O) (hB:B<=W.heap.size) {W1:World} (hW1:W1=W.alloc (.cells #[.map none, .bool false] 38)) :
 ∃ O',ShAt W1 B (Ka ++ [some []]) (Kb ++ [none]) (updN hp Ka.length W.heap.size) hm O'/\Shf O O' W W1:=by
 classical
 have hz1:W1.heap.size=W.heap.size+1:=by rw [hW1];simp
 have hb:Below W.heap.size W W1:=by rw [hW1];exact (Below.refl _ _).alloc (Nat.le_refl _) _
 have hd:HdOf W1 W.heap.size (fun k=>k=W.heap.size) [] false:=by
  have:=hd_zero W
  rw [<- hW1] at this
  exact this
 let O':Nat->Option Nat:=fun k=>if k=W.heap.size then some (2*Ka.length) else if O k=some (2*Ka.length) then none else O k
 have q1:O' W.heap.size=some (2*Ka.length):=if_pos rfl
 have q3:∀ k j,k < W.heap.size->j≠2*Ka.length->(O' k=some j↔O k=some j):=fun k j hk hj=>by
  show (if k=W.heap.size then _ else if _ then none else O k)=some j↔_
  rw [if_neg (by omega)]
  split
  ·rename_i hc
   constructor
   ·intro e;cases e
   ·intro e;rw [hc] at e;exact absurd (Option.some.inj e).symm hj
  ·exact Iff.rfl
 have q4:∀ k j,O' k=some j->k=W.heap.size/\j=2*Ka.length∨O k=some j/\j≠2*Ka.length:=fun k j hk=>by
  change (if k=W.heap.size then _ else if _ then none else O k)=some j at hk
  split at hk
  ·rename_i e;exact Or.inl ⟨e,(Option.some.inj hk).symm⟩
  ·split at hk
   ·cases hk
   ·rename_i hc
    exact Or.inr ⟨hk,fun e=>hc (by rw [hk,e])⟩
 have q5:∀ i,i < Ka.length->(fun k=>O' k=some (2*i))=fun k=>O k=some (2*i):=fun i hi=>funext fun k=>propext ⟨fun e=>by
  rcases q4 k _ e with ⟨_,h1⟩ | ⟨h1,_⟩
  ·omega
  ·exact h1,fun e=>(q3 k _ (h.dom k _ e).2 (by omega)).2 e⟩
 refine ⟨O',⟨fun i L hi=>?_,fun i L hi=>?_,fun k j hk=>?_⟩,⟨hb.os,hb.tape,hb.output,hb.size,fun k hk _=>hb.block k hk,fun k hk=>?_⟩⟩
 ·rcases getElem?_snoc_cases hi with ⟨h1,h2⟩ | ⟨h1,h2⟩
  ·rw [q5 i h2,show updN hp Ka.length W.heap.size i=hp i from if_neg (by omega)]
   exact (h.own i L h1).below hb
  ·subst h1
   obtain rfl:L=[]:=by injection h2
   have hset:(fun k=>O' k=some (2*Ka.length))=fun k=>k=W.heap.size:=funext fun k=>propext ⟨fun e=>by
    rcases q4 k _ e with ⟨h3,_⟩ | ⟨_,h3⟩
    ·exact h3
    ·exact absurd rfl h3,fun e=>by rw [e];exact q1⟩
   rw [hset,show updN hp Ka.length W.heap.size Ka.length=W.heap.size from if_pos rfl]
   exact hd
 ·rcases getElem?_snoc_cases hi with ⟨h1,h2⟩ | ⟨_,h2⟩
  ·obtain ⟨g1,g2,g3⟩:=h.model i L h1
   have hlt:=(h.dom _ _ g2).2
   refine ⟨g1.below hb,(q3 _ _ hlt (by omega)).2 g2,fun hL b o n c e=>?_⟩
   have h4:=g3 hL b o n c (by rw [<- e];exact (hb.cell (p:=⟨hm i,0,none⟩) hlt).symm)
   exact (q3 _ _ (h.dom _ _ h4).2 (by omega)).2 h4
  ·cases h2
 ·rcases q4 k j hk with ⟨h1,_⟩ | ⟨h1,_⟩
  ·omega
  ·have:=h.dom k j h1;omega
 ·cases e:O' k with
  | none=>exact absurd e hk
  | some j =>
   rcases q4 k j e with ⟨h1,_⟩ | ⟨h1,_⟩
   ·exact Or.inr (by omega)
   ·exact Or.inl (by rw [h1];simp)
end
def nones (n:Nat):List (Option (List Kep)):=(List.range n).map fun _=>none
theorem nones_succ (n:Nat):nones (n+1)=nones n ++ [none]:=by unfold nones;rw [List.range_succ,List.map_append];rfl
theorem heldL_succ {key x:ByteArray} {k:Nat} {lost:List Int} (n:Nat):heldL key k x lost (n+1)=heldL key k x lost n ++ [heldK key k x lost n]:=by unfold heldL;rw [List.range_succ,List.map_append];rfl
def HaAt (B:Nat) (w W:World) (Ks:List (Option (List Kep))) (n:Nat) (va:Value):Prop:=(∃ hp O,SvAt W B Ks (nones n) hp (fun _=>0) O (ptL hp Ks) [] va (.slice none 0 0))/\Below B w W
theorem HaAt.below {B:Nat} {w W W':World} {Ks:List (Option (List Kep))} {n:Nat} {va:Value} (h:HaAt B w W Ks n va) (hb:Below W.heap.size W W'):HaAt B w W' Ks n va:=by
 obtain ⟨⟨hp,O,h1⟩,h2⟩:=h
 exact ⟨⟨hp,O,h1.below hb⟩,h2.trans (hb.mono h1.base)⟩
theorem HaAt.next {ad:Nat->Addr} {B:Nat} {w W:World} {key x:ByteArray} {k n:Nat} {lost:List Int} {va:Value} (h:HaAt B w W (heldL key k x lost n) n va) (hn:n<=12) (hkey:isN key=true) (hk100:key.size<=1000) (hk:1<=k) (hn12:n < 12) (hx:x.size<=1000) (hE:∀ W,Below B w W->HErrs W ad) {W1:World} (hW1:W1=W.alloc (.cells #[.map none, .bool false] 38)) :
 ∀ W2,Below W1.heap.size W1 W2->(lostB lost n=true->∃ q m c W4,(∀ ty,(Builtin.append_ #[34,34] ty #[va,.slice (some ⟨W2.heap.size,0,none⟩) 1 1]).run Tryz.prog (W2.alloc (.cells #[.pointer (some ⟨W.heap.size,0,none⟩)] 35))=.ok (.slice q m c) W4)/\HaAt B w W4 (heldL key k x lost (n+1)) (n+1) (.slice q m c)) /\
  (lostB lost n=false->Calls Tryz.prog 10 #[.pointer (some ⟨W.heap.size,0,none⟩),.string key,verA (genV k (1,0) x n)] W2 fun e W3=>e=.returned .nilIface/\Below B w W3/\∃ q m c W4,(∀ ty,(Builtin.append_ #[34,34] ty #[va,.slice (some ⟨W3.heap.size,0,none⟩) 1 1]).run Tryz.prog (W3.alloc (.cells #[.pointer (some ⟨W.heap.size,0,none⟩)] 35))=.ok (.slice q m c) W4)/\HaAt B w W4 (heldL key k x lost (n+1)) (n+1) (.slice q m c)):=by
 intro W2 hW2
 obtain ⟨⟨hp,O,hs⟩,hlow⟩:=h
 have hlen:(heldL key k x lost n).length=n:=heldL_length
 obtain ⟨O1,g1,g2⟩:=hs.sh.freshA hs.base hW1
 have s1:=(hs.turn g1 g2).below hW2
 have hl1:Below B w W1:=hlow.trans (g2.low hs.base (fun k j e=>(hs.sh.dom k j e).1))
 have hl2:Below B w W2:=hl1.trans (hW2.mono (Nat.le_trans hs.base g2.size))
 have hhp:updN hp (heldL key k x lost n).length W.heap.size (heldL key k x lost n).length=W.heap.size:=if_pos rfl
 have fin:∀ (W3:World) (O3:Nat->Option Nat) (X:List Kep),SvAt W3 B (heldL key k x lost n ++ [some X]) (nones n ++ [none]) (updN hp (heldL key k x lost n).length W.heap.size) (fun _=>0) O3 (ptL hp (heldL key k x lost n)) [] va (.slice none 0 0)->Below B w W3->heldK key k x lost n=some X->∃ q m c W4,(∀ ty,(Builtin.append_ #[34,34] ty #[va,.slice (some ⟨W3.heap.size,0,none⟩) 1 1]).run Tryz.prog (W3.alloc (.cells #[.pointer (some ⟨W.heap.size,0,none⟩)] 35))=.ok (.slice q m c) W4)/\HaAt B w W4 (heldL key k x lost (n+1)) (n+1) (.slice q m c):=fun W3 O3 X s3 hl3 hX=>by
  have hb1:Below W3.heap.size W3 (W3.alloc (.cells #[.pointer (some ⟨W.heap.size,0,none⟩)] 35)):=(Below.refl _ _).alloc (Nat.le_refl _) _
  obtain ⟨v1,W4,a1,⟨q,m,c,rfl⟩,a3,a4⟩:=(s3.below hb1).appA (by rw [ptL_length,hlen];omega) (b:=W3.heap.size) (x:=some W.heap.size) (by simp) (by rw [World.cell?_alloc_at _ _ _ _ rfl];rfl)
  refine ⟨q,m,c,W4,a1,⟨updN hp (heldL key k x lost n).length W.heap.size,O3,?_⟩,hl3.trans ((hb1.mono s3.base).trans a4)⟩
  rw [heldL_succ,hX,nones_succ,ptL_snoc]
  exact a3
 refine ⟨fun hb=>fin W2 O1 [] s1 hl2 (by unfold heldK;rw [hb];rfl),fun hb=>?_⟩
 have hi:(heldL key k x lost n ++ [some []])[(heldL key k x lost n).length]?=some (some []):=get_snoc _ _
 have hown:=s1.sh.own _ [] hi
 rw [hhp] at hown
 have hv:=verOk_gen (k:=k) (x:=x) hk hx hn12
 have htx:(genV k (1,0) x n).text.size<=maxLen:=by
  unfold verOk at hv
  simp only [Bool.and_eq_true,decide_eq_true_eq] at hv
  have:=hv.2.2.2.2.2
  unfold maxLen;omega
 refine (put_any hown key _ (by unfold maxLen;omega) htx (hE W2 hl2)).mono fun e W3 hq=>?_
 obtain ⟨⟨ev,h1,h2⟩,S',h3,h4⟩:=hq
 rw [putR_one hkey hv] at h2 h3
 have hev:ev=.nilIface:=by
  rcases h2 with ⟨h,_⟩ | ⟨i,_,_,h⟩
  ·exact h
  ·exfalso;dsimp only at h;omega
 subst hev
 rw [<- hhp] at h3
 obtain ⟨O2,k1,k2⟩:=s1.sh.put s1.base hi h3 h4
 rw [set_snoc] at k1
 have hl3:Below B w W3:=hl2.trans (k2.low s1.base (fun k j e=>(s1.sh.dom k j e).1))
 exact ⟨h1,hl3,fin W3 O2 _ (s1.turn k1 k2) hl3 (by unfold heldK oneK;rw [hb];rfl)⟩
end Go.Proofs.YtghpdhegfnhmkaaGreatDoor
