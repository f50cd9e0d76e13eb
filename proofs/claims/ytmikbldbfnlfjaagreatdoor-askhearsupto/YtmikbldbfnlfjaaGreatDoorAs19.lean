/- Texts laid together. -/
import Derived.Test.YtmikbldbfnlfjaaGreatDoorAs18
set_option maxRecDepth 20000
set_option maxHeartbeats 40000000
namespace Go.Proofs.YtmikbldbfnlfjaaGreatDoor
open Go.Proofs.Tryz
open Go.RowKit
variable {w W w20:World}{G I:Int}{h B ab M i mb j O:Nat}{a:Za}{mv nv:Value}{D m1 m2 m3:ByteArray}{J:Bool}{y:List Yb}{K N:Option Addr}{s:St}
section
variable {ad:Nat->Addr} {X:World->Prop} {Ak:World->Nat->Nat->(Nat->Prop)->Za->Prop}
theorem JbJ {n:Nat} (h:n < 6):(⟨#[99]⟩:ByteArray) ++ Jp [48+n]=JY (n:Int):=by
 match n,h with
 | 0,_=>decide +kernel
 | 1,_=>decide +kernel
 | 2,_=>decide +kernel
 | 3,_=>decide +kernel
 | 4,_=>decide +kernel
 | 5,_=>decide +kernel
def AkB (Ak:World->Nat->Nat->(Nat->Prop)->Za->Prop) (w W:World) (h:Nat) (a:Za):Prop:=∃ B S,Ak W B h S a/\B<=W.heap.size/\w.heap.size<=B
theorem AkB.below {G:World}  (M:AkB Ak w W h a) (I:WS ad X Ak) (j:Below W.heap.size W G):AkB Ak w G h a:=by
 obtain ⟨B,S,y,D,J⟩:=M
 exact ⟨B,S,I.aS y (j.mono D) (fun k K=>j.block k (I.dH y k K).2),Nat.le_trans D j.size,J⟩
theorem JbK {b:eT} (h:¬ 0 < (JX b).1):¬ 0 < (Jg b.c).1/\b.fits/\JX b=(0,-1):=by
 by_cases j:0 < (Jg b.c).1
 ·rw [WO j] at h;exact absurd j h
 ·cases y:Jo b.key with
  | false=>rw [LI j y] at h;exact absurd (by decide) h
  | true =>
   by_cases D:b.fits
   ·exact ⟨j,D,KZ j y D⟩
   ·rw [FZ j y D] at h;exact absurd (by decide) h
theorem Jb8 {G:Nat} {D:World} (hO:WS ad X Ak) (hw:D.heap.size=G) (a1:Below D.heap.size D W) (hX:X W) (hm:Qk Ak G B h ab mv nv M W a a) :
 Calls prog 16 #[.pointer (some ⟨h,0,none⟩)] W fun e w'=>∃ p c,e=.returned (.slice p a.begin.length c)/\Hid (pD M w' p a.begin/\Qk Ak G B h ab mv nv M w' a a)/\Below D.heap.size D w':=by
 obtain ⟨S,S',fv,lv,vs,K,I,N,h4,O,Q,U⟩:=hm
 have a0:∀ k,S k->D.heap.size<=k:=fun k j=>by have:=(hO.dH K k j).1;omega
 refine (hO.begin K hX).mono fun e w' hq=>?_
 obtain ⟨⟨p,c,e1,e2⟩,S1,g1,y⟩:=hq
 have Y:Below G W w':=⟨y.os,y.tape,y.output,y.size,fun k j=>y.block k (Nat.lt_of_lt_of_le j (Nat.le_trans Q O)) (fun J=>by have:=a0 k J;omega)⟩
 refine ⟨p,c,e1,⟨e2.mono U,S1,S',fv,lv,vs,g1,I.aS Y (fun k j=>y.block k (I.aO k j).2 (fun J=>N k J j)),fun k j Z=>?_,h4,Nat.le_trans O y.size,Q,Nat.le_trans U y.size⟩,a1.trans (hw ▸ Y)⟩
 rcases y.new k j with j | j
 ·exact N k j Z
 ·have:=(I.aO k Z).2
  omega
theorem Jby (b:eT):b.ask.begin.length=b.c.L.length/\∀ m ∈ b.ask.begin,m.L.length<=1000000:=by
 have e:b.ask.begin=b.ask.send rO false:=rfl
 rw [e]
 unfold Za.send
 refine ⟨by rw [List.length_map,List.length_range];rfl,fun m j=>?_⟩
 obtain ⟨i,_,rfl⟩:=List.mem_map.1 j
 exact Nat.zero_le _
theorem JcX (a:Za) (kind:ByteArray) (j:Bool):(a.send kind j).length=a.c.L.length/\∀ m ∈ a.send kind j,m.L.length<=1000000:=by
 unfold Za.send
 refine ⟨by rw [List.length_map,List.length_range],fun m y=>?_⟩
 obtain ⟨i,_,rfl⟩:=List.mem_map.1 y
 show (if j=true then [a.sQ i] else []).length<=1000000
 split <;> simp
theorem Jb0 (l:List Zb) (i:Nat):Qa (l.take i)<=Qa l:=by
 have e:Qa l=Qa (l.take i)+Qa (l.drop i):=by
  unfold Qa
  rw [<- List.sum_append,<- List.map_append,List.take_append_drop]
 omega
theorem JcY (m:Zb) (y:JU a):(a.aD m).2.length<=1000/\∀ x ∈ (a.aD m).2,x.L.length<=1000000:=by
 obtain ⟨⟨_,_,K⟩,M,_⟩:=Xm y.cfg
 unfold Za.aD
 split
 ·exact ⟨Nat.zero_le 1000,fun x j=>by cases j⟩
 ·split
  ·exact ⟨Nat.zero_le 1000,fun x j=>by cases j⟩
  ·split
   ·exact ⟨Nat.zero_le 1000,fun x j=>by cases j⟩
   ·split
    ·exact ⟨Nat.zero_le 1000,fun x j=>by cases j⟩
    ·split
     ·exact ⟨Nat.zero_le 1000,fun x j=>by cases j⟩
     ·obtain ⟨D,G⟩:=JcX (a.heard m).bR.keeps JJ true
      refine ⟨?_,G⟩
      show (Za.send _ JJ true).length<=1000
      rw [D]
      have I:(a.heard m).bR.keeps.c=a.c:=by
       have J:(a.heard m).bR.aI=false:=by rw [(YE (a.heard m)).2.2.2.1];exact y.still
       rw [MG J]
       show (a.heard m).bR.c=a.c
       rw [(YE (a.heard m)).1]
       rfl
      rw [I]
      omega
theorem Ja0 {P:Program} {D:Region.Mode} {G:Array Oper} {Q:Exit->Act->World->Prop} {S S':World->Prop} (I:∀ w,S' w->S w):∀ (fuel:Nat) (j:Array Bool) (a:Act) (w:World),wpAnyH P D G Q S' fuel j a w->wpAnyH P D G Q S fuel j a w
 | 0,_,_,_,h=>h
 | fuel+1,_,_,_,h=>⟨h.1,fun i J=>wpOp_mono (fun a' w' y=>⟨I w' y.1,Ja0 I fuel _ a' w' y.2⟩) (h.2 i J)⟩
theorem Jd1      (hO:WS ad X Ak) (a0:∀ W,Below w.heap.size w W->(W.cell? ⟨mb,j+i*8,none⟩=some (.string m1)/\W.cell? ⟨mb,j+i*8+1,none⟩=some (.string m2)/\W.cell? ⟨mb,j+i*8+2,none⟩=some (.string m3)/\W.cell? ⟨mb,j+i*8+3,none⟩=some (.string D)/\W.cell? ⟨mb,j+i*8+4,none⟩=some (.int .i64 G)/\W.cell? ⟨mb,j+i*8+5,none⟩=some (.int .i64 I)/\W.cell? ⟨mb,j+i*8+6,none⟩=some (.bool J)/\W.cell? ⟨mb,j+i*8+7,none⟩=some (.slice K y.length M)/\Below w.heap.size w W)) (a1:y.length<=1000) (Q:Jn w (⟨m1,m2,m3,D,G,I,J,y⟩,(K,y.length,M))):∀ W,(W.cell? ⟨mb,j+i*8,none⟩=some (.string m1)/\W.cell? ⟨mb,j+i*8+1,none⟩=some (.string m2)/\W.cell? ⟨mb,j+i*8+2,none⟩=some (.string m3)/\W.cell? ⟨mb,j+i*8+3,none⟩=some (.string D)/\W.cell? ⟨mb,j+i*8+4,none⟩=some (.int .i64 G)/\W.cell? ⟨mb,j+i*8+5,none⟩=some (.int .i64 I)/\W.cell? ⟨mb,j+i*8+6,none⟩=some (.bool J)/\W.cell? ⟨mb,j+i*8+7,none⟩=some (.slice K y.length M)/\Below w.heap.size w W)->Hid (Qk Ak w.heap.size B h ab mv nv w20.heap.size W a a)->Calls prog 19 #[.agg #[.string m1,.string m2,.string m3,.string D,.int .i64 G,.int .i64 I,.bool J,.slice K y.length M]] W fun e w'=>∃ q d,e=.returned (.agg #[.string m1,.string m2,.string m3,.string D,.int .i64 G,.int .i64 I,.bool J,.slice q y.length d])/\Hid (Jn w' (⟨m1,m2,m3,D,G,I,J,y⟩,(q,y.length,d))/\Qk Ak w.heap.size B h ab mv nv w20.heap.size w' a a)/\(w'.cell? ⟨mb,j+i*8,none⟩=some (.string m1)/\w'.cell? ⟨mb,j+i*8+1,none⟩=some (.string m2)/\w'.cell? ⟨mb,j+i*8+2,none⟩=some (.string m3)/\w'.cell? ⟨mb,j+i*8+3,none⟩=some (.string D)/\w'.cell? ⟨mb,j+i*8+4,none⟩=some (.int .i64 G)/\w'.cell? ⟨mb,j+i*8+5,none⟩=some (.int .i64 I)/\w'.cell? ⟨mb,j+i*8+6,none⟩=some (.bool J)/\w'.cell? ⟨mb,j+i*8+7,none⟩=some (.slice K y.length M)/\Below w.heap.size w w'):=by
 intro W N U
 refine (Jc1 ⟨m1,m2,m3,D,G,I,J,y⟩ K M W (by show y.length<=2932031007317;omega) (Q.below N.2.2.2.2.2.2.2.2).eC Q.empty).mono fun e w' Y=>?_
 obtain ⟨⟨lv,Z,e2⟩,O⟩:=Y
 obtain ⟨q,d,f1,f2,f3,f4,_⟩:=e2.form
 subst f1
 exact ⟨q,d,Z,⟨⟨rfl,f2,f3,f4⟩,U.out.below hO O⟩,a0 w' (N.2.2.2.2.2.2.2.2.trans (O.mono N.2.2.2.2.2.2.2.2.size))⟩
theorem Jd2      (hO:WS ad X Ak) (a0:∀ W,Below w.heap.size w W->(W.cell? ⟨mb,j+i*8,none⟩=some (.string m1)/\W.cell? ⟨mb,j+i*8+1,none⟩=some (.string m2)/\W.cell? ⟨mb,j+i*8+2,none⟩=some (.string m3)/\W.cell? ⟨mb,j+i*8+3,none⟩=some (.string D)/\W.cell? ⟨mb,j+i*8+4,none⟩=some (.int .i64 G)/\W.cell? ⟨mb,j+i*8+5,none⟩=some (.int .i64 I)/\W.cell? ⟨mb,j+i*8+6,none⟩=some (.bool J)/\W.cell? ⟨mb,j+i*8+7,none⟩=some (.slice N y.length O)/\Below w.heap.size w W)) (hG:∀ V:World,w.heap.size<=V.heap.size->(∀ k,k < w.heap.size->V.heap[k]?=w.heap[k]?)->Zp V ad/\X V) (a1:a.small ⟨m1,m2,m3,D,G,I,J,y⟩) (hv:∀ v ∈ y,Jt v):∀ W q d,(W.cell? ⟨mb,j+i*8,none⟩=some (.string m1)/\W.cell? ⟨mb,j+i*8+1,none⟩=some (.string m2)/\W.cell? ⟨mb,j+i*8+2,none⟩=some (.string m3)/\W.cell? ⟨mb,j+i*8+3,none⟩=some (.string D)/\W.cell? ⟨mb,j+i*8+4,none⟩=some (.int .i64 G)/\W.cell? ⟨mb,j+i*8+5,none⟩=some (.int .i64 I)/\W.cell? ⟨mb,j+i*8+6,none⟩=some (.bool J)/\W.cell? ⟨mb,j+i*8+7,none⟩=some (.slice N y.length O)/\Below w.heap.size w W)->Hid (Jn W (⟨m1,m2,m3,D,G,I,J,y⟩,(q,y.length,d))/\Qk Ak w.heap.size B h ab mv nv w20.heap.size W a a)->Calls prog 18 #[.pointer (some ⟨h,0,none⟩),.agg #[.string m1,.string m2,.string m3,.string D,.int .i64 G,.int .i64 I,.bool J,.slice q y.length d]] W fun e w'=>∃ K M,e=.returned (.slice K (a.aD ⟨m1,m2,m3,D,G,I,J,y⟩).2.length M)/\Hid (pD w20.heap.size w' K (a.aD ⟨m1,m2,m3,D,G,I,J,y⟩).2/\Qk Ak w.heap.size B h ab mv nv w20.heap.size w' a (a.aD ⟨m1,m2,m3,D,G,I,J,y⟩).1)/\(w'.cell? ⟨mb,j+i*8,none⟩=some (.string m1)/\w'.cell? ⟨mb,j+i*8+1,none⟩=some (.string m2)/\w'.cell? ⟨mb,j+i*8+2,none⟩=some (.string m3)/\w'.cell? ⟨mb,j+i*8+3,none⟩=some (.string D)/\w'.cell? ⟨mb,j+i*8+4,none⟩=some (.int .i64 G)/\w'.cell? ⟨mb,j+i*8+5,none⟩=some (.int .i64 I)/\w'.cell? ⟨mb,j+i*8+6,none⟩=some (.bool J)/\w'.cell? ⟨mb,j+i*8+7,none⟩=some (.slice N y.length O)/\Below w.heap.size w w'):=by
 intro W q d U Q
 refine (Jem hO hG rfl U.2.2.2.2.2.2.2.2 (⟨m1,m2,m3,D,G,I,J,y⟩,(q,y.length,d)) Q.out.1 a1 hv Q.out.2).mono fun e w' Y=>?_
 obtain ⟨K,M,Z,e2,e3,e4⟩:=Y
 exact ⟨K,M,Z,⟨e2,e3⟩,a0 w' e4⟩
theorem Jd3  {r1:Za} {y:List Zb} {M:ByteArray} {N O:Int} {Q:Bool} {U:List Yb} {Y:Option Addr} {Z:Nat} (hO:WS ad X Ak) (a0:∀ W,Below w.heap.size w W->(W.cell? ⟨mb,j+i*8,none⟩=some (.string m1)/\W.cell? ⟨mb,j+i*8+1,none⟩=some (.string m2)/\W.cell? ⟨mb,j+i*8+2,none⟩=some (.string m3)/\W.cell? ⟨mb,j+i*8+3,none⟩=some (.string M)/\W.cell? ⟨mb,j+i*8+4,none⟩=some (.int .i64 N)/\W.cell? ⟨mb,j+i*8+5,none⟩=some (.int .i64 O)/\W.cell? ⟨mb,j+i*8+6,none⟩=some (.bool Q)/\W.cell? ⟨mb,j+i*8+7,none⟩=some (.slice Y U.length Z)/\Below w.heap.size w W)) (hs:y.length<=1000):∀ W D I,(W.cell? ⟨mb,j+i*8,none⟩=some (.string m1)/\W.cell? ⟨mb,j+i*8+1,none⟩=some (.string m2)/\W.cell? ⟨mb,j+i*8+2,none⟩=some (.string m3)/\W.cell? ⟨mb,j+i*8+3,none⟩=some (.string M)/\W.cell? ⟨mb,j+i*8+4,none⟩=some (.int .i64 N)/\W.cell? ⟨mb,j+i*8+5,none⟩=some (.int .i64 O)/\W.cell? ⟨mb,j+i*8+6,none⟩=some (.bool Q)/\W.cell? ⟨mb,j+i*8+7,none⟩=some (.slice Y U.length Z)/\Below w.heap.size w W)->Hid (pD w20.heap.size W D y/\Qk Ak w.heap.size B h ab mv nv w20.heap.size W a r1)->Calls prog 15 #[.slice D y.length I] W fun e w'=>∃ G J,e=.returned (.slice G y.length J)/\Hid (pD w20.heap.size w' G y/\Qk Ak w.heap.size B h ab mv nv w20.heap.size w' a r1)/\(w'.cell? ⟨mb,j+i*8,none⟩=some (.string m1)/\w'.cell? ⟨mb,j+i*8+1,none⟩=some (.string m2)/\w'.cell? ⟨mb,j+i*8+2,none⟩=some (.string m3)/\w'.cell? ⟨mb,j+i*8+3,none⟩=some (.string M)/\w'.cell? ⟨mb,j+i*8+4,none⟩=some (.int .i64 N)/\w'.cell? ⟨mb,j+i*8+5,none⟩=some (.int .i64 O)/\w'.cell? ⟨mb,j+i*8+6,none⟩=some (.bool Q)/\w'.cell? ⟨mb,j+i*8+7,none⟩=some (.slice Y U.length Z)/\Below w.heap.size w w'):=by
 intro W D I hW K
 refine (JaL w20.heap.size D y I W hs (by obtain ⟨_,_,_,_,_,_,_,_,_,_,_,g⟩:=K.out.2;exact g) K.out.1).mono fun e w' hq=>?_
 obtain ⟨⟨G,J,e1,e2⟩,e3⟩:=hq
 exact ⟨G,J,e1,⟨e2,K.out.2.below hO e3⟩,a0 w' (hW.2.2.2.2.2.2.2.2.trans (e3.mono hW.2.2.2.2.2.2.2.2.size))⟩
theorem Jdm      (hO:WS ad X Ak) (a0:∀ W,Below w.heap.size w W->(W.cell? ⟨mb,j+i*8,none⟩=some (.string m1)/\W.cell? ⟨mb,j+i*8+1,none⟩=some (.string m2)/\W.cell? ⟨mb,j+i*8+2,none⟩=some (.string m3)/\W.cell? ⟨mb,j+i*8+3,none⟩=some (.string D)/\W.cell? ⟨mb,j+i*8+4,none⟩=some (.int .i64 G)/\W.cell? ⟨mb,j+i*8+5,none⟩=some (.int .i64 I)/\W.cell? ⟨mb,j+i*8+6,none⟩=some (.bool J)/\W.cell? ⟨mb,j+i*8+7,none⟩=some (.slice K y.length M)/\Below w.heap.size w W)) (hA:JU a) (a1:a.small ⟨m1,m2,m3,D,G,I,J,y⟩) (hx:Jn w (⟨m1,m2,m3,D,G,I,J,y⟩,(K,y.length,M))):∀ W O,(W.cell? ⟨mb,j+i*8,none⟩=some (.string m1)/\W.cell? ⟨mb,j+i*8+1,none⟩=some (.string m2)/\W.cell? ⟨mb,j+i*8+2,none⟩=some (.string m3)/\W.cell? ⟨mb,j+i*8+3,none⟩=some (.string D)/\W.cell? ⟨mb,j+i*8+4,none⟩=some (.int .i64 G)/\W.cell? ⟨mb,j+i*8+5,none⟩=some (.int .i64 I)/\W.cell? ⟨mb,j+i*8+6,none⟩=some (.bool J)/\W.cell? ⟨mb,j+i*8+7,none⟩=some (.slice K y.length M)/\Below w.heap.size w W)->Hid (pD w20.heap.size W O (a.aD ⟨m1,m2,m3,D,G,I,J,y⟩).2/\Qk Ak w.heap.size B h ab mv nv w20.heap.size W a (a.aD ⟨m1,m2,m3,D,G,I,J,y⟩).1)->Calls prog 20 #[.pointer (some ⟨ab,0,none⟩),.agg #[.string m1,.string m2,.string m3,.string D,.int .i64 G,.int .i64 I,.bool J,.slice K y.length M]] W fun e w'=>∃ N Q,e=.returned (.slice N (a.aD ⟨m1,m2,m3,D,G,I,J,y⟩).2.length Q)/\Hid ((mN w' N (a.aD ⟨m1,m2,m3,D,G,I,J,y⟩).2/\mN w' O (a.aD ⟨m1,m2,m3,D,G,I,J,y⟩).2)/\Qk Ak w.heap.size B h ab mv nv w'.heap.size w' (a.aD ⟨m1,m2,m3,D,G,I,J,y⟩).1 (a.aD ⟨m1,m2,m3,D,G,I,J,y⟩).1)/\(w'.cell? ⟨mb,j+i*8,none⟩=some (.string m1)/\w'.cell? ⟨mb,j+i*8+1,none⟩=some (.string m2)/\w'.cell? ⟨mb,j+i*8+2,none⟩=some (.string m3)/\w'.cell? ⟨mb,j+i*8+3,none⟩=some (.string D)/\w'.cell? ⟨mb,j+i*8+4,none⟩=some (.int .i64 G)/\w'.cell? ⟨mb,j+i*8+5,none⟩=some (.int .i64 I)/\w'.cell? ⟨mb,j+i*8+6,none⟩=some (.bool J)/\w'.cell? ⟨mb,j+i*8+7,none⟩=some (.slice K y.length M)/\Below w.heap.size w w'):=by
 intro W O Y U
 refine (JdU hO rfl Y.2.2.2.2.2.2.2.2 (⟨m1,m2,m3,D,G,I,J,y⟩,(K,y.length,M)) hA hx a1 U.out.1 U.out.2).mono fun e w' Z=>?_
 obtain ⟨N,Q,e1,e2,e3,e4⟩:=Z
 exact ⟨N,Q,e1,⟨e2,e3⟩,a0 w' e4⟩
theorem Jd4  {D:Za} {y:List Zb} {O:ByteArray} {Q U:Int} {Y:Bool} {Z:List Yb} {lq:Option Addr} {lc:Nat} (hO:WS ad X Ak) (a1:∀ W,Below w.heap.size w W->(W.cell? ⟨mb,j+i*8,none⟩=some (.string m1)/\W.cell? ⟨mb,j+i*8+1,none⟩=some (.string m2)/\W.cell? ⟨mb,j+i*8+2,none⟩=some (.string m3)/\W.cell? ⟨mb,j+i*8+3,none⟩=some (.string O)/\W.cell? ⟨mb,j+i*8+4,none⟩=some (.int .i64 Q)/\W.cell? ⟨mb,j+i*8+5,none⟩=some (.int .i64 U)/\W.cell? ⟨mb,j+i*8+6,none⟩=some (.bool Y)/\W.cell? ⟨mb,j+i*8+7,none⟩=some (.slice lq Z.length lc)/\Below w.heap.size w W)) (hs:y.length<=1000) (hl:∀ m ∈ y,m.L.length<=1000000):∀ W G I J K,(W.cell? ⟨mb,j+i*8,none⟩=some (.string m1)/\W.cell? ⟨mb,j+i*8+1,none⟩=some (.string m2)/\W.cell? ⟨mb,j+i*8+2,none⟩=some (.string m3)/\W.cell? ⟨mb,j+i*8+3,none⟩=some (.string O)/\W.cell? ⟨mb,j+i*8+4,none⟩=some (.int .i64 Q)/\W.cell? ⟨mb,j+i*8+5,none⟩=some (.int .i64 U)/\W.cell? ⟨mb,j+i*8+6,none⟩=some (.bool Y)/\W.cell? ⟨mb,j+i*8+7,none⟩=some (.slice lq Z.length lc)/\Below w.heap.size w W)->Hid ((mN W I y/\mN W G y)/\Qk Ak w.heap.size B h ab mv nv W.heap.size W D D)->Calls prog 14 #[.slice G y.length J,.slice I y.length K] W fun e w'=>e=.returned (.bool true)/\Hid (Qk Ak w.heap.size B h ab mv nv w'.heap.size w' D D)/\(w'.cell? ⟨mb,j+i*8,none⟩=some (.string m1)/\w'.cell? ⟨mb,j+i*8+1,none⟩=some (.string m2)/\w'.cell? ⟨mb,j+i*8+2,none⟩=some (.string m3)/\w'.cell? ⟨mb,j+i*8+3,none⟩=some (.string O)/\w'.cell? ⟨mb,j+i*8+4,none⟩=some (.int .i64 Q)/\w'.cell? ⟨mb,j+i*8+5,none⟩=some (.int .i64 U)/\w'.cell? ⟨mb,j+i*8+6,none⟩=some (.bool Y)/\w'.cell? ⟨mb,j+i*8+7,none⟩=some (.slice lq Z.length lc)/\Below w.heap.size w w')/\w'.cell? ⟨ab,13,none⟩=some (.string D.st.word):=by
 intro W G I J K hW M
 refine (JaS G I y J K W hs hl M.out.1.2 M.out.1.1).mono fun e w' N=>?_
 have a0:=(M.out.2.below hO N.2).up
 exact ⟨N.1,a0,a1 w' (hW.2.2.2.2.2.2.2.2.trans (N.2.mono hW.2.2.2.2.2.2.2.2.size)),a0.n5.1⟩
theorem Jdn  {y:Za} {G:ByteArray} {J:Int} {K:Bool} {M:List Yb}  (Z:WS ad X Ak) (a0:∀ W,Below w.heap.size w W->(W.cell? ⟨mb,j+i*8,none⟩=some (.string m1)/\W.cell? ⟨mb,j+i*8+1,none⟩=some (.string m2)/\W.cell? ⟨mb,j+i*8+2,none⟩=some (.string m3)/\W.cell? ⟨mb,j+i*8+3,none⟩=some (.string G)/\W.cell? ⟨mb,j+i*8+4,none⟩=some (.int .i64 I)/\W.cell? ⟨mb,j+i*8+5,none⟩=some (.int .i64 J)/\W.cell? ⟨mb,j+i*8+6,none⟩=some (.bool K)/\W.cell? ⟨mb,j+i*8+7,none⟩=some (.slice N M.length O)/\Below w.heap.size w W)):∀ W,(W.cell? ⟨mb,j+i*8,none⟩=some (.string m1)/\W.cell? ⟨mb,j+i*8+1,none⟩=some (.string m2)/\W.cell? ⟨mb,j+i*8+2,none⟩=some (.string m3)/\W.cell? ⟨mb,j+i*8+3,none⟩=some (.string G)/\W.cell? ⟨mb,j+i*8+4,none⟩=some (.int .i64 I)/\W.cell? ⟨mb,j+i*8+5,none⟩=some (.int .i64 J)/\W.cell? ⟨mb,j+i*8+6,none⟩=some (.bool K)/\W.cell? ⟨mb,j+i*8+7,none⟩=some (.slice N M.length O)/\Below w.heap.size w W)->Hid (Qk Ak w.heap.size B h ab mv nv W.heap.size W y y)->Calls prog 21 #[.pointer (some ⟨h,0,none⟩)] W fun e w'=>e=.returned (.string y.st.word)/\Hid (Qk Ak w.heap.size B h ab mv nv w'.heap.size w' y y)/\(w'.cell? ⟨mb,j+i*8,none⟩=some (.string m1)/\w'.cell? ⟨mb,j+i*8+1,none⟩=some (.string m2)/\w'.cell? ⟨mb,j+i*8+2,none⟩=some (.string m3)/\w'.cell? ⟨mb,j+i*8+3,none⟩=some (.string G)/\w'.cell? ⟨mb,j+i*8+4,none⟩=some (.int .i64 I)/\w'.cell? ⟨mb,j+i*8+5,none⟩=some (.int .i64 J)/\w'.cell? ⟨mb,j+i*8+6,none⟩=some (.bool K)/\w'.cell? ⟨mb,j+i*8+7,none⟩=some (.slice N M.length O)/\Below w.heap.size w w')/\w'.cell? ⟨ab,13,none⟩=some (.string y.st.word):=by
 intro W Q U
 obtain ⟨S,S',fv,lv,vs,g1,_⟩:=id U.out
 refine (Z.state g1).mono fun e w' D=>?_
 have Y:=(U.out.below Z D.2).up
 exact ⟨D.1,Y,a0 w' (Q.2.2.2.2.2.2.2.2.trans (D.2.mono Q.2.2.2.2.2.2.2.2.size)),Y.n5.1⟩
theorem Jd5  {j:Za} (J:WS ad X Ak) (M:(j.st=.done/\j.found=true)):∀ W,Below w.heap.size w W->Qk Ak w.heap.size B h ab mv nv W.heap.size W j j->Calls prog 22 #[.pointer (some ⟨h,0,none⟩)] W fun e w'=>e=.returned (.tuple #[.agg #[.int .i64 j.tag.1,.int .i64 j.tag.2],.string j.text,.bool true])/\(w'.cell? ⟨ab,13,none⟩=some (.string j.st.word)/\w'.cell? ⟨ab,19,none⟩=some (.bool j.found)/\w'.cell? ⟨ab,16,none⟩=some (.int .i64 j.tag.1)/\w'.cell? ⟨ab,17,none⟩=some (.int .i64 j.tag.2)/\w'.cell? ⟨ab,18,none⟩=some (.string j.text))/\Qk Ak w.heap.size B h ab mv nv w'.heap.size w' j j/\Below w.heap.size w w':=by
 intro W D G
 obtain ⟨S,S',fv,lv,N,K,_⟩:=id G
 refine (J.answer K).mono fun e w' y=>?_
 have I:=(G.below J y.2).up
 refine ⟨?_,I.n5,I,D.trans (y.2.mono D.size)⟩
 rw [y.1,if_pos M]
theorem Jd6  {j:Za} (J:WS ad X Ak) (M:¬ (j.st=.done/\j.found=true)):∀ W,Below w.heap.size w W->Qk Ak w.heap.size B h ab mv nv W.heap.size W j j->Calls prog 22 #[.pointer (some ⟨h,0,none⟩)] W fun e w'=>e=.returned (.tuple #[.agg #[.int .i64 0,.int .i64 0],.string ⟨#[]⟩,.bool false])/\(w'.cell? ⟨ab,13,none⟩=some (.string j.st.word)/\w'.cell? ⟨ab,19,none⟩=some (.bool j.found)/\w'.cell? ⟨ab,16,none⟩=some (.int .i64 j.tag.1)/\w'.cell? ⟨ab,17,none⟩=some (.int .i64 j.tag.2)/\w'.cell? ⟨ab,18,none⟩=some (.string j.text))/\Qk Ak w.heap.size B h ab mv nv w'.heap.size w' j j/\Below w.heap.size w w':=by
 intro W D G
 obtain ⟨S,S',fv,lv,N,K,_⟩:=id G
 refine (J.answer K).mono fun e w' y=>?_
 have I:=(G.below J y.2).up
 refine ⟨?_,I.n5,I,D.trans (y.2.mono D.size)⟩
 rw [y.1,if_neg M]
theorem Jdo :s.word=⟨#[100,111,110,101]⟩↔s=.done:=by cases s <;> simp [St.word] <;> decide
theorem JcZ (h:s≠.done):¬ s.word.toList=[100,111,110,101]:=by cases s <;> first | exact absurd rfl h | decide +kernel
theorem JcQ   {l:List Zb} {lp:Option Addr} (hO:WS ad X Ak) (hF:∀ (w:World) (B h:Nat) (S:Nat->Prop) (a:Za),Ak w B h S a->JU a) (hG:∀ V:World,w.heap.size<=V.heap.size->(∀ k,k < w.heap.size->V.heap[k]?=w.heap[k]?)->Zp V ad/\X V) (b4:mN w lp l) (b5:∀ m ∈ l,∀ v ∈ m.L,Jt v) (d2:Qa l < 6000) (b6:i < l.length) (hA:JU a) (d3:Xi a.L.flatten<=Qa (l.take i)):∃ (mb j:Nat) (m1 m2 m3 D:ByteArray) (G I:Int) (J:Bool) (y:List Yb) (M:Option Addr) (N:Nat) (K:Za) (U:List Zb) (rl:Nat) (sw:ByteArray) (fd:Bool) (t1 t2:Int) (tx:ByteArray),lp=some ⟨mb,j,none⟩/\Hid (∀ W,Below w.heap.size w W->(W.cell? ⟨mb,j+i*8,none⟩=some (.string m1)/\W.cell? ⟨mb,j+i*8+1,none⟩=some (.string m2)/\W.cell? ⟨mb,j+i*8+2,none⟩=some (.string m3)/\W.cell? ⟨mb,j+i*8+3,none⟩=some (.string D)/\W.cell? ⟨mb,j+i*8+4,none⟩=some (.int .i64 G)/\W.cell? ⟨mb,j+i*8+5,none⟩=some (.int .i64 I)/\W.cell? ⟨mb,j+i*8+6,none⟩=some (.bool J)/\W.cell? ⟨mb,j+i*8+7,none⟩=some (.slice M y.length N)/\Below w.heap.size w W))/\Hid (∀ W,(W.cell? ⟨mb,j+i*8,none⟩=some (.string m1)/\W.cell? ⟨mb,j+i*8+1,none⟩=some (.string m2)/\W.cell? ⟨mb,j+i*8+2,none⟩=some (.string m3)/\W.cell? ⟨mb,j+i*8+3,none⟩=some (.string D)/\W.cell? ⟨mb,j+i*8+4,none⟩=some (.int .i64 G)/\W.cell? ⟨mb,j+i*8+5,none⟩=some (.int .i64 I)/\W.cell? ⟨mb,j+i*8+6,none⟩=some (.bool J)/\W.cell? ⟨mb,j+i*8+7,none⟩=some (.slice M y.length N)/\Below w.heap.size w W)->Hid (Qk Ak w.heap.size B h ab mv nv w20.heap.size W a a)->Calls prog 19 #[.agg #[.string m1,.string m2,.string m3,.string D,.int .i64 G,.int .i64 I,.bool J,.slice M y.length N]] W fun e w'=>∃ q d,e=.returned (.agg #[.string m1,.string m2,.string m3,.string D,.int .i64 G,.int .i64 I,.bool J,.slice q y.length d])/\Hid (Jn w' (⟨m1,m2,m3,D,G,I,J,y⟩,(q,y.length,d))/\Qk Ak w.heap.size B h ab mv nv w20.heap.size w' a a)/\(w'.cell? ⟨mb,j+i*8,none⟩=some (.string m1)/\w'.cell? ⟨mb,j+i*8+1,none⟩=some (.string m2)/\w'.cell? ⟨mb,j+i*8+2,none⟩=some (.string m3)/\w'.cell? ⟨mb,j+i*8+3,none⟩=some (.string D)/\w'.cell? ⟨mb,j+i*8+4,none⟩=some (.int .i64 G)/\w'.cell? ⟨mb,j+i*8+5,none⟩=some (.int .i64 I)/\w'.cell? ⟨mb,j+i*8+6,none⟩=some (.bool J)/\w'.cell? ⟨mb,j+i*8+7,none⟩=some (.slice M y.length N)/\Below w.heap.size w w'))/\Hid (∀ W q d,(W.cell? ⟨mb,j+i*8,none⟩=some (.string m1)/\W.cell? ⟨mb,j+i*8+1,none⟩=some (.string m2)/\W.cell? ⟨mb,j+i*8+2,none⟩=some (.string m3)/\W.cell? ⟨mb,j+i*8+3,none⟩=some (.string D)/\W.cell? ⟨mb,j+i*8+4,none⟩=some (.int .i64 G)/\W.cell? ⟨mb,j+i*8+5,none⟩=some (.int .i64 I)/\W.cell? ⟨mb,j+i*8+6,none⟩=some (.bool J)/\W.cell? ⟨mb,j+i*8+7,none⟩=some (.slice M y.length N)/\Below w.heap.size w W)->Hid (Jn W (⟨m1,m2,m3,D,G,I,J,y⟩,(q,y.length,d))/\Qk Ak w.heap.size B h ab mv nv w20.heap.size W a a)->Calls prog 18 #[.pointer (some ⟨h,0,none⟩),.agg #[.string m1,.string m2,.string m3,.string D,.int .i64 G,.int .i64 I,.bool J,.slice q y.length d]] W fun e w'=>∃ O c',e=.returned (.slice O rl c')/\Hid (pD w20.heap.size w' O U/\Qk Ak w.heap.size B h ab mv nv w20.heap.size w' a K)/\(w'.cell? ⟨mb,j+i*8,none⟩=some (.string m1)/\w'.cell? ⟨mb,j+i*8+1,none⟩=some (.string m2)/\w'.cell? ⟨mb,j+i*8+2,none⟩=some (.string m3)/\w'.cell? ⟨mb,j+i*8+3,none⟩=some (.string D)/\w'.cell? ⟨mb,j+i*8+4,none⟩=some (.int .i64 G)/\w'.cell? ⟨mb,j+i*8+5,none⟩=some (.int .i64 I)/\w'.cell? ⟨mb,j+i*8+6,none⟩=some (.bool J)/\w'.cell? ⟨mb,j+i*8+7,none⟩=some (.slice M y.length N)/\Below w.heap.size w w'))/\Hid (∀ W O c',(W.cell? ⟨mb,j+i*8,none⟩=some (.string m1)/\W.cell? ⟨mb,j+i*8+1,none⟩=some (.string m2)/\W.cell? ⟨mb,j+i*8+2,none⟩=some (.string m3)/\W.cell? ⟨mb,j+i*8+3,none⟩=some (.string D)/\W.cell? ⟨mb,j+i*8+4,none⟩=some (.int .i64 G)/\W.cell? ⟨mb,j+i*8+5,none⟩=some (.int .i64 I)/\W.cell? ⟨mb,j+i*8+6,none⟩=some (.bool J)/\W.cell? ⟨mb,j+i*8+7,none⟩=some (.slice M y.length N)/\Below w.heap.size w W)->Hid (pD w20.heap.size W O U/\Qk Ak w.heap.size B h ab mv nv w20.heap.size W a K)->Calls prog 15 #[.slice O rl c'] W fun e w'=>∃ Y d',e=.returned (.slice Y rl d')/\Hid (pD w20.heap.size w' Y U/\Qk Ak w.heap.size B h ab mv nv w20.heap.size w' a K)/\(w'.cell? ⟨mb,j+i*8,none⟩=some (.string m1)/\w'.cell? ⟨mb,j+i*8+1,none⟩=some (.string m2)/\w'.cell? ⟨mb,j+i*8+2,none⟩=some (.string m3)/\w'.cell? ⟨mb,j+i*8+3,none⟩=some (.string D)/\w'.cell? ⟨mb,j+i*8+4,none⟩=some (.int .i64 G)/\w'.cell? ⟨mb,j+i*8+5,none⟩=some (.int .i64 I)/\w'.cell? ⟨mb,j+i*8+6,none⟩=some (.bool J)/\w'.cell? ⟨mb,j+i*8+7,none⟩=some (.slice M y.length N)/\Below w.heap.size w w'))/\Hid (∀ W O,(W.cell? ⟨mb,j+i*8,none⟩=some (.string m1)/\W.cell? ⟨mb,j+i*8+1,none⟩=some (.string m2)/\W.cell? ⟨mb,j+i*8+2,none⟩=some (.string m3)/\W.cell? ⟨mb,j+i*8+3,none⟩=some (.string D)/\W.cell? ⟨mb,j+i*8+4,none⟩=some (.int .i64 G)/\W.cell? ⟨mb,j+i*8+5,none⟩=some (.int .i64 I)/\W.cell? ⟨mb,j+i*8+6,none⟩=some (.bool J)/\W.cell? ⟨mb,j+i*8+7,none⟩=some (.slice M y.length N)/\Below w.heap.size w W)->Hid (pD w20.heap.size W O U/\Qk Ak w.heap.size B h ab mv nv w20.heap.size W a K)->Calls prog 20 #[.pointer (some ⟨ab,0,none⟩),.agg #[.string m1,.string m2,.string m3,.string D,.int .i64 G,.int .i64 I,.bool J,.slice M y.length N]] W fun e w'=>∃ Y d',e=.returned (.slice Y rl d')/\Hid ((mN w' Y U/\mN w' O U)/\Qk Ak w.heap.size B h ab mv nv w'.heap.size w' K K)/\(w'.cell? ⟨mb,j+i*8,none⟩=some (.string m1)/\w'.cell? ⟨mb,j+i*8+1,none⟩=some (.string m2)/\w'.cell? ⟨mb,j+i*8+2,none⟩=some (.string m3)/\w'.cell? ⟨mb,j+i*8+3,none⟩=some (.string D)/\w'.cell? ⟨mb,j+i*8+4,none⟩=some (.int .i64 G)/\w'.cell? ⟨mb,j+i*8+5,none⟩=some (.int .i64 I)/\w'.cell? ⟨mb,j+i*8+6,none⟩=some (.bool J)/\w'.cell? ⟨mb,j+i*8+7,none⟩=some (.slice M y.length N)/\Below w.heap.size w w'))/\Hid (∀ W O Y c' d',(W.cell? ⟨mb,j+i*8,none⟩=some (.string m1)/\W.cell? ⟨mb,j+i*8+1,none⟩=some (.string m2)/\W.cell? ⟨mb,j+i*8+2,none⟩=some (.string m3)/\W.cell? ⟨mb,j+i*8+3,none⟩=some (.string D)/\W.cell? ⟨mb,j+i*8+4,none⟩=some (.int .i64 G)/\W.cell? ⟨mb,j+i*8+5,none⟩=some (.int .i64 I)/\W.cell? ⟨mb,j+i*8+6,none⟩=some (.bool J)/\W.cell? ⟨mb,j+i*8+7,none⟩=some (.slice M y.length N)/\Below w.heap.size w W)->Hid ((mN W Y U/\mN W O U)/\Qk Ak w.heap.size B h ab mv nv W.heap.size W K K)->Calls prog 14 #[.slice O rl c',.slice Y rl d'] W fun e w'=>e=.returned (.bool true)/\Hid (Qk Ak w.heap.size B h ab mv nv w'.heap.size w' K K)/\(w'.cell? ⟨mb,j+i*8,none⟩=some (.string m1)/\w'.cell? ⟨mb,j+i*8+1,none⟩=some (.string m2)/\w'.cell? ⟨mb,j+i*8+2,none⟩=some (.string m3)/\w'.cell? ⟨mb,j+i*8+3,none⟩=some (.string D)/\w'.cell? ⟨mb,j+i*8+4,none⟩=some (.int .i64 G)/\w'.cell? ⟨mb,j+i*8+5,none⟩=some (.int .i64 I)/\w'.cell? ⟨mb,j+i*8+6,none⟩=some (.bool J)/\w'.cell? ⟨mb,j+i*8+7,none⟩=some (.slice M y.length N)/\Below w.heap.size w w')/\w'.cell? ⟨ab,13,none⟩=some (.string sw))/\Hid (∀ W,(W.cell? ⟨mb,j+i*8,none⟩=some (.string m1)/\W.cell? ⟨mb,j+i*8+1,none⟩=some (.string m2)/\W.cell? ⟨mb,j+i*8+2,none⟩=some (.string m3)/\W.cell? ⟨mb,j+i*8+3,none⟩=some (.string D)/\W.cell? ⟨mb,j+i*8+4,none⟩=some (.int .i64 G)/\W.cell? ⟨mb,j+i*8+5,none⟩=some (.int .i64 I)/\W.cell? ⟨mb,j+i*8+6,none⟩=some (.bool J)/\W.cell? ⟨mb,j+i*8+7,none⟩=some (.slice M y.length N)/\Below w.heap.size w W)->Hid (Qk Ak w.heap.size B h ab mv nv W.heap.size W K K)->Calls prog 21 #[.pointer (some ⟨h,0,none⟩)] W fun e w'=>e=.returned (.string sw)/\Hid (Qk Ak w.heap.size B h ab mv nv w'.heap.size w' K K)/\(w'.cell? ⟨mb,j+i*8,none⟩=some (.string m1)/\w'.cell? ⟨mb,j+i*8+1,none⟩=some (.string m2)/\w'.cell? ⟨mb,j+i*8+2,none⟩=some (.string m3)/\w'.cell? ⟨mb,j+i*8+3,none⟩=some (.string D)/\w'.cell? ⟨mb,j+i*8+4,none⟩=some (.int .i64 G)/\w'.cell? ⟨mb,j+i*8+5,none⟩=some (.int .i64 I)/\w'.cell? ⟨mb,j+i*8+6,none⟩=some (.bool J)/\w'.cell? ⟨mb,j+i*8+7,none⟩=some (.slice M y.length N)/\Below w.heap.size w w')/\w'.cell? ⟨ab,13,none⟩=some (.string sw))/\((Hid (sw=⟨#[100,111,110,101]⟩/\fd=true)/\Hid (∀ W,Below w.heap.size w W->Qk Ak w.heap.size B h ab mv nv W.heap.size W K K->Calls prog 22 #[.pointer (some ⟨h,0,none⟩)] W fun e w'=>e=.returned (.tuple #[.agg #[.int .i64 t1,.int .i64 t2],.string tx,.bool true])/\(w'.cell? ⟨ab,13,none⟩=some (.string sw)/\w'.cell? ⟨ab,19,none⟩=some (.bool fd)/\w'.cell? ⟨ab,16,none⟩=some (.int .i64 t1)/\w'.cell? ⟨ab,17,none⟩=some (.int .i64 t2)/\w'.cell? ⟨ab,18,none⟩=some (.string tx))/\Qk Ak w.heap.size B h ab mv nv w'.heap.size w' K K/\Below w.heap.size w w'))∨(Hid (¬ sw.toList=[100,111,110,101]∨fd=false)/\Hid (∀ W,Below w.heap.size w W->Qk Ak w.heap.size B h ab mv nv W.heap.size W K K->Calls prog 22 #[.pointer (some ⟨h,0,none⟩)] W fun e w'=>e=.returned (.tuple #[.agg #[.int .i64 0,.int .i64 0],.string ⟨#[]⟩,.bool false])/\(w'.cell? ⟨ab,13,none⟩=some (.string sw)/\w'.cell? ⟨ab,19,none⟩=some (.bool fd)/\w'.cell? ⟨ab,16,none⟩=some (.int .i64 t1)/\w'.cell? ⟨ab,17,none⟩=some (.int .i64 t2)/\w'.cell? ⟨ab,18,none⟩=some (.string tx))/\Qk Ak w.heap.size B h ab mv nv w'.heap.size w' K K/\Below w.heap.size w w')))/\Hid (∀ W,Qk Ak w.heap.size B h ab mv nv W.heap.size W K K->JU K)/\Hid (Xi K.L.flatten<=Qa (l.take (i+1))):=by
 obtain ⟨ml,a5,a7,a8⟩:=b4
 have a1:i < ml.length:=by rw [<- List.length_map (f:=Prod.fst),a5];exact b6
 obtain ⟨mb,j,a9,Z,t0,t1,t2,t3,t4,t5,t6,t7⟩:=ML a7 a1
 have a6:l[i]?=some (JN ml i).1:=by rw [<- a5,List.getElem?_map,List.getElem?_eq_getElem a1,rR a1];rfl
 have b0:=b5 _ (List.mem_of_getElem? a6)
 have a2:=a8 _ (vV a1)
 rw [rR a1] at t0 t1 t2 t3 t4 t5 t6 t7
 have b7:=JbB a6
 have d0:=Jb0 l (i+1)
 have d1:=JdV a (JN ml i).1
 generalize JN ml i=x at *
 obtain ⟨⟨m1,m2,m3,D,G,I,J,y⟩,M,ln,N⟩:=x
 have b1:ln=y.length:=a2.len
 subst b1
 dsimp only at *
 have a3:a.small ⟨m1,m2,m3,D,G,I,J,y⟩:=Jef (by omega)
 have b2:Xi (a.aD ⟨m1,m2,m3,D,G,I,J,y⟩).1.L.flatten<=Qa (l.take (i+1)):=by omega
 have b3:y.length<=1000:=(EM a3).2.1
 have a0:∀ W,Below w.heap.size w W->(W.cell? ⟨mb,j+i*8,none⟩=some (.string m1)/\W.cell? ⟨mb,j+i*8+1,none⟩=some (.string m2)/\W.cell? ⟨mb,j+i*8+2,none⟩=some (.string m3)/\W.cell? ⟨mb,j+i*8+3,none⟩=some (.string D)/\W.cell? ⟨mb,j+i*8+4,none⟩=some (.int .i64 G)/\W.cell? ⟨mb,j+i*8+5,none⟩=some (.int .i64 I)/\W.cell? ⟨mb,j+i*8+6,none⟩=some (.bool J)/\W.cell? ⟨mb,j+i*8+7,none⟩=some (.slice M y.length N)/\Below w.heap.size w W):=fun W Q=>⟨(Q.cell (p:=⟨mb,j+i*8,none⟩) Z).trans t0,(Q.cell (p:=⟨mb,j+i*8+1,none⟩) Z).trans t1,(Q.cell (p:=⟨mb,j+i*8+2,none⟩) Z).trans t2,(Q.cell (p:=⟨mb,j+i*8+3,none⟩) Z).trans t3,(Q.cell (p:=⟨mb,j+i*8+4,none⟩) Z).trans t4,(Q.cell (p:=⟨mb,j+i*8+5,none⟩) Z).trans t5,(Q.cell (p:=⟨mb,j+i*8+6,none⟩) Z).trans t6,(Q.cell (p:=⟨mb,j+i*8+7,none⟩) Z).trans t7,Q⟩
 have a4:=JcY ⟨m1,m2,m3,D,G,I,J,y⟩ hA
 refine ⟨mb,j,m1,m2,m3,D,G,I,J,y,M,N,(a.aD ⟨m1,m2,m3,D,G,I,J,y⟩).1,(a.aD ⟨m1,m2,m3,D,G,I,J,y⟩).2,_,_,(a.aD ⟨m1,m2,m3,D,G,I,J,y⟩).1.found,(a.aD ⟨m1,m2,m3,D,G,I,J,y⟩).1.tag.1,(a.aD ⟨m1,m2,m3,D,G,I,J,y⟩).1.tag.2,(a.aD ⟨m1,m2,m3,D,G,I,J,y⟩).1.text,a9,a0,Jd1 hO a0 b3 a2,Jd2 hO a0 hG a3 b0,Jd3 hO a0 a4.1,Jdm hO a0 hA a3 a2,Jd4 hO a0 a4.1 a4.2,Jdn hO a0,?_,fun W hm=>?_,b2⟩
 ·by_cases hc:(a.aD ⟨m1,m2,m3,D,G,I,J,y⟩).1.st=.done/\(a.aD ⟨m1,m2,m3,D,G,I,J,y⟩).1.found=true
  ·exact Or.inl ⟨⟨Jdo.2 hc.1,hc.2⟩,Jd5 hO hc⟩
  ·refine Or.inr ⟨?_,Jd6 hO hc⟩
   by_cases h1:(a.aD ⟨m1,m2,m3,D,G,I,J,y⟩).1.st=.done
   ·exact Or.inr (by simpa [h1] using hc)
   ·exact Or.inl (JcZ h1)
 ·obtain ⟨S,S',fv,lv,vs,g1,_⟩:=hm
  exact hF _ _ _ _ _ g1
end
section
variable {ad:Nat->Addr} {X:World->Prop} {Ak:World->Nat->Nat->(Nat->Prop)->Za->Prop}
theorem Jbu (hO:WS ad X Ak) (b:eT) (p:Option Addr) (y:Nat) (l:List Zb) (lp:Option Addr) (p1:Nat) (w:World) (J:sS ad X b p y l lp w) (hF:∀ {w B h S a},Ak w B h S a->JU a) (h1:Zx b.c=false) (h2:¬ 100 < b.key.size) (h3:b.text.size<=100∨1000 < b.text.size/\b.text.size<=2000) (h4:X5 l=true) (h5:b.put=true) (h6:¬ 0 < (JX b).1):Calls prog 3 #[.agg #[.bool b.put,.int .i64 b.who,.int .i64 b.op,.int .i64 b.config,.int .i64 b.c.n,.int .i64 b.c.k,.slice p b.c.L.length y,.string b.key,.string b.text],.slice lp l.length p1] w fun e w'=>e=.returned (.bool true)/\Below w.heap.size w w':=by
 rw [h5]
 obtain ⟨j,b6⟩:∃ j,j=w.alloc (.cells #[.bool true,.int .i64 b.who,.int .i64 b.op,.int .i64 b.config,.int .i64 b.c.n,.int .i64 b.c.k,.slice p b.c.L.length y,.string b.key,.string b.text] 26):=⟨_,rfl⟩
 have a2:Below w.heap.size w j:=by rw [b6];exact (Below.refl _ _).alloc (Nat.le_refl _) _
 have p4:w.heap.size < j.heap.size:=by rw [b6];simp
 have p5:j.heap[w.heap.size]?=some (.cells #[.bool true,.int .i64 b.who,.int .i64 b.op,.int .i64 b.config,.int .i64 b.c.n,.int .i64 b.c.k,.slice p b.c.L.length y,.string b.key,.string b.text] 26 (0,0)):=by
  rw [b6]
  show (w.heap.push _)[w.heap.size]?=_
  simp
 have a6:Hid (∀ W,Below j.heap.size j W->(W.cell? ⟨w.heap.size,0,none⟩=some (.bool true)/\W.cell? ⟨w.heap.size,1,none⟩=some (.int .i64 b.who)/\W.cell? ⟨w.heap.size,2,none⟩=some (.int .i64 b.op)/\W.cell? ⟨w.heap.size,3,none⟩=some (.int .i64 b.config)/\W.cell? ⟨w.heap.size,4,none⟩=some (.int .i64 b.c.n)/\W.cell? ⟨w.heap.size,5,none⟩=some (.int .i64 b.c.k)/\W.cell? ⟨w.heap.size,6,none⟩=some (.slice p b.c.L.length y)/\W.cell? ⟨w.heap.size,7,none⟩=some (.string b.key)/\W.cell? ⟨w.heap.size,8,none⟩=some (.string b.text)/\Below j.heap.size j W)):=fun W G=>by
  have hb:=(G.block _ p4).trans p5
  exact ⟨(Ja hb 0).1,(Ja hb 1).1,(Ja hb 2).1,(Ja hb 3).1,(Ja hb 4).1,(Ja hb 5).1,(Ja hb 6).1,(Ja hb 7).1,(Ja hb 8).1,G⟩
 have p6:=zE hO j (fun V hV=>(J.ok (a2.trans (hV.mono a2.size))).1) (fun V hV=>(J.ok (a2.trans (hV.mono a2.size))).2)
 have h7:Hid (∀ W,Below j.heap.size j W->Calls prog 6 #[.agg #[.int .i64 b.c.n,.int .i64 b.c.k,.slice p b.c.L.length y]] W fun e w'=>e=.returned (.bool (Zx b.c))/\Below j.heap.size j w'):=fun W G=>(X3 b.c p y W J.len J.size ((J.strs.below a2).below G)).mono fun e w' hq=>⟨hq.1,G.trans (hq.2.mono G.size)⟩
 have h8:Hid (∀ W,Below j.heap.size j W->Calls prog 7 #[.slice lp l.length p1] W fun e w'=>e=.returned (.bool (X5 l))/\Below j.heap.size j w'):=fun W G=>(Qy lp l p1 W J.pE ((J.msgs.below a2).below G)).mono fun e w' hq=>⟨hq.1,G.trans (hq.2.mono G.size)⟩
 have j5:Hid (j=w.alloc (.cells #[.bool true,.int .i64 b.who,.int .i64 b.op,.int .i64 b.config,.int .i64 b.c.n,.int .i64 b.c.k,.slice p b.c.L.length y,.string b.key,.string b.text] 26)):=b6
 have p7:Hid (Below w.heap.size w j):=a2
 rw [h1] at h7
 rw [h4] at h8
 obtain ⟨n1,n2⟩:=L1 h1
 have j6:Hid (∀ W,Below j.heap.size j W->Strs W p b.c.L):=fun W G=>(J.strs.below a2).below G
 have j8:Hid (∀ W q d,Strs W q b.c.L->b.c.L.length<=d->(q=none->b.c.L=[]/\d=0)->Yn W b.c q d):=fun W q d g1 g2 g3=>Ja5 g1 g2 g3 h1 J.ints
 have p8:Hid (∀ W,(W.cell? ⟨w.heap.size,0,none⟩=some (.bool true)/\W.cell? ⟨w.heap.size,1,none⟩=some (.int .i64 b.who)/\W.cell? ⟨w.heap.size,2,none⟩=some (.int .i64 b.op)/\W.cell? ⟨w.heap.size,3,none⟩=some (.int .i64 b.config)/\W.cell? ⟨w.heap.size,4,none⟩=some (.int .i64 b.c.n)/\W.cell? ⟨w.heap.size,5,none⟩=some (.int .i64 b.c.k)/\W.cell? ⟨w.heap.size,6,none⟩=some (.slice p b.c.L.length y)/\W.cell? ⟨w.heap.size,7,none⟩=some (.string b.key)/\W.cell? ⟨w.heap.size,8,none⟩=some (.string b.text)/\Below j.heap.size j W)->Calls prog 9 #[.agg #[.int .i64 b.c.n,.int .i64 b.c.k,.slice p b.c.L.length y]] W fun e w'=>∃ q d,e=.returned (.agg #[.int .i64 b.c.n,.int .i64 b.c.k,.slice q b.c.L.length d])/\Hid (Yn w' b.c q d)/\(w'.cell? ⟨w.heap.size,0,none⟩=some (.bool true)/\w'.cell? ⟨w.heap.size,1,none⟩=some (.int .i64 b.who)/\w'.cell? ⟨w.heap.size,2,none⟩=some (.int .i64 b.op)/\w'.cell? ⟨w.heap.size,3,none⟩=some (.int .i64 b.config)/\w'.cell? ⟨w.heap.size,4,none⟩=some (.int .i64 b.c.n)/\w'.cell? ⟨w.heap.size,5,none⟩=some (.int .i64 b.c.k)/\w'.cell? ⟨w.heap.size,6,none⟩=some (.slice p b.c.L.length y)/\w'.cell? ⟨w.heap.size,7,none⟩=some (.string b.key)/\w'.cell? ⟨w.heap.size,8,none⟩=some (.string b.text)/\Below j.heap.size j w')):=fun W G=>(Jao b.c p y W (by omega) (j6.out W G.2.2.2.2.2.2.2.2.2) J.empty).mono fun e w' hq=>by
  obtain ⟨⟨q,d,e1,e2,e3,e4⟩,e5⟩:=hq
  exact ⟨q,d,e1,j8.out w' q d e2 e3 e4,a6.out w' (G.2.2.2.2.2.2.2.2.2.trans (e5.mono G.2.2.2.2.2.2.2.2.2.size))⟩
 have k1:Hid (∀ W,Below j.heap.size j W->Zp W ad/\X W):=fun W G=>J.ok (a2.trans (G.mono a2.size))
 obtain ⟨c1,c2,c3⟩:=JbK h6
 have p9:Hid (∀ W q d,Hid (Yn W b.c q d)->(W.cell? ⟨w.heap.size,0,none⟩=some (.bool true)/\W.cell? ⟨w.heap.size,1,none⟩=some (.int .i64 b.who)/\W.cell? ⟨w.heap.size,2,none⟩=some (.int .i64 b.op)/\W.cell? ⟨w.heap.size,3,none⟩=some (.int .i64 b.config)/\W.cell? ⟨w.heap.size,4,none⟩=some (.int .i64 b.c.n)/\W.cell? ⟨w.heap.size,5,none⟩=some (.int .i64 b.c.k)/\W.cell? ⟨w.heap.size,6,none⟩=some (.slice p b.c.L.length y)/\W.cell? ⟨w.heap.size,7,none⟩=some (.string b.key)/\W.cell? ⟨w.heap.size,8,none⟩=some (.string b.text)/\Below j.heap.size j W)->Calls prog 8 #[.int .i64 b.who,.int .i64 b.op,.agg #[.int .i64 b.c.n,.int .i64 b.c.k,.slice q b.c.L.length d],.int .i64 b.config,.string b.key,.string b.text] W fun e w'=>∃ h,e=.returned (.tuple #[.pointer (some ⟨h,0,none⟩),.nilIface])/\Hid (AkB Ak w w' h b.ask)/\(w'.cell? ⟨w.heap.size,0,none⟩=some (.bool true)/\w'.cell? ⟨w.heap.size,1,none⟩=some (.int .i64 b.who)/\w'.cell? ⟨w.heap.size,2,none⟩=some (.int .i64 b.op)/\w'.cell? ⟨w.heap.size,3,none⟩=some (.int .i64 b.config)/\w'.cell? ⟨w.heap.size,4,none⟩=some (.int .i64 b.c.n)/\w'.cell? ⟨w.heap.size,5,none⟩=some (.int .i64 b.c.k)/\w'.cell? ⟨w.heap.size,6,none⟩=some (.slice p b.c.L.length y)/\w'.cell? ⟨w.heap.size,7,none⟩=some (.string b.key)/\w'.cell? ⟨w.heap.size,8,none⟩=some (.string b.text)/\Below j.heap.size j w')):=fun W q d hc G=>(hO.put b q d W hc.out h5 (by omega) (by omega) J.who J.op J.config (k1.out W G.2.2.2.2.2.2.2.2.2).1 (k1.out W G.2.2.2.2.2.2.2.2.2).2).mono fun e w' hq=>by
  obtain ⟨⟨ev,g1,g2⟩,g3⟩:=hq
  rw [c3] at g1 g2
  obtain rfl:=Jd.isNil g1
  have x5:Below j.heap.size j w':=G.2.2.2.2.2.2.2.2.2.trans (g3.mono G.2.2.2.2.2.2.2.2.2.size)
  rcases g2 with ⟨g2,_⟩ | ⟨_,h,S1,g4,g5⟩
  ·exact absurd g2 (by decide)
  ·exact ⟨h,g4,⟨_,S1,g5,g3.size,Nat.le_trans a2.size G.2.2.2.2.2.2.2.2.2.size⟩,a6.out w' x5⟩
 have k2:Hid (∀ W,Below j.heap.size j W->Calls prog 11 #[.agg #[.bool true,.int .i64 b.who,.int .i64 b.op,.int .i64 b.config,.int .i64 b.c.n,.int .i64 b.c.k,.slice p b.c.L.length y,.string b.key,.string b.text]] W fun e w'=>e=.returned (.agg #[.int .i64 (JX b).1,.int .i64 (JX b).2])/\Below W.heap.size W w'):=fun W G=>by
  have k3:=Jau b p y W (j8.out W p y (j6.out W G) J.room J.empty) (by omega)
  unfold O2 at k3
  rw [h5] at k3
  exact k3
 rw [c3] at k2
 obtain ⟨wn,k4⟩:∃ wn:Nat,b.who=(wn:Int):=⟨b.who.toNat,by have:=c2.1;omega⟩
 have x7:wn < 6:=by have:=c2.2.1;omega
 have q0:∀ W,Calls prog 13 #[.int .i64 b.who] W fun e w'=>e=.returned (.string (Jp [48+wn]))/\Below W.heap.size W w':=fun W=>by rw [k4];exact Jbe wn (by omega) W
 have q6:Hid (∀ W h,(W.cell? ⟨w.heap.size,0,none⟩=some (.bool true)/\W.cell? ⟨w.heap.size,1,none⟩=some (.int .i64 b.who)/\W.cell? ⟨w.heap.size,2,none⟩=some (.int .i64 b.op)/\W.cell? ⟨w.heap.size,3,none⟩=some (.int .i64 b.config)/\W.cell? ⟨w.heap.size,4,none⟩=some (.int .i64 b.c.n)/\W.cell? ⟨w.heap.size,5,none⟩=some (.int .i64 b.c.k)/\W.cell? ⟨w.heap.size,6,none⟩=some (.slice p b.c.L.length y)/\W.cell? ⟨w.heap.size,7,none⟩=some (.string b.key)/\W.cell? ⟨w.heap.size,8,none⟩=some (.string b.text)/\Below j.heap.size j W)->Hid (AkB Ak w W h b.ask)->Calls prog 13 #[.int .i64 b.who] W fun e w'=>e=.returned (.string (Jp [48+wn]))/\Hid (AkB Ak w w' h b.ask)/\(w'.cell? ⟨w.heap.size,0,none⟩=some (.bool true)/\w'.cell? ⟨w.heap.size,1,none⟩=some (.int .i64 b.who)/\w'.cell? ⟨w.heap.size,2,none⟩=some (.int .i64 b.op)/\w'.cell? ⟨w.heap.size,3,none⟩=some (.int .i64 b.config)/\w'.cell? ⟨w.heap.size,4,none⟩=some (.int .i64 b.c.n)/\w'.cell? ⟨w.heap.size,5,none⟩=some (.int .i64 b.c.k)/\w'.cell? ⟨w.heap.size,6,none⟩=some (.slice p b.c.L.length y)/\w'.cell? ⟨w.heap.size,7,none⟩=some (.string b.key)/\w'.cell? ⟨w.heap.size,8,none⟩=some (.string b.text)/\Below j.heap.size j w')):=fun W h G hA=>(q0 W).mono fun e w' hq=>⟨hq.1,hA.out.below hO hq.2,a6.out w' (G.2.2.2.2.2.2.2.2.2.trans (hq.2.mono G.2.2.2.2.2.2.2.2.2.size))⟩
 have y1:∀ W:World,Sem.run prog (Op.stringOp .add ⟨#[99]⟩ (Jp [48+wn])) W=.ok (.string (JY b.who)) W:=fun W=>by
  rw [k4,<- JbJ x7]
  exact run_string_add_sum W _ _ (by rw [xG];show 1+1<=_;omega)
 have q7:Qa l < 6000:=by unfold X5 at h4;rw [Bool.and_eq_true] at h4;exact of_decide_eq_true h4.2
 have r0:Hid (∀ m ∈ l,∀ v ∈ m.L,Jt v):=J.cM
 have k6:Hid (∀ V:World,w.heap.size<=V.heap.size->(∀ k,k < w.heap.size->V.heap[k]?=w.heap[k]?)->Zp V ad/\X V):=J.eZ
 have r3:Hid (¬ 0 < (Jg b.c).1):=c1
 have b7:Hid (Strs w p b.c.L/\b.c.L.length<=y/\(p=none->b.c.L=[]/\y=0)):=⟨J.strs,J.room,J.empty⟩
 have U:Hid (WS ad X Ak):=hO
 have k7:Hid (∀ (w:World) (B h:Nat) (S:Nat->Prop) (a:Za),Ak w B h S a->JU a):=fun w B h S a hA=>hF hA
 have r4:Hid (mN w lp l):=J.msgs
 have r5:Hid (Qa l < 6000):=q7
 have B8:l.length<=6000:=Nat.le_trans (Jbd l) (by omega)
 clear c2 c3 hF q7
 have d9:Hid (∀ W,Below j.heap.size j W->(W.cell? ⟨w.heap.size,0,none⟩=some (.bool true)/\W.cell? ⟨w.heap.size,1,none⟩=some (.int .i64 b.who)/\W.cell? ⟨w.heap.size,2,none⟩=some (.int .i64 b.op)/\W.cell? ⟨w.heap.size,3,none⟩=some (.int .i64 b.config)/\W.cell? ⟨w.heap.size,4,none⟩=some (.int .i64 b.c.n)/\W.cell? ⟨w.heap.size,5,none⟩=some (.int .i64 b.c.k)/\W.cell? ⟨w.heap.size,6,none⟩=some (.slice p b.c.L.length y)/\W.cell? ⟨w.heap.size,7,none⟩=some (.string b.key)/\W.cell? ⟨w.heap.size,8,none⟩=some (.string b.text)/\Below j.heap.size j W)):=a6.out
 have H5:Hid (b.put=true):=h5
 clear h1 h4 h5 h6
 clear k4
 clear J hO b6 a2 p4 p5 n2 j8 j6 k1
 go_enter func3,ntmps3
 go_wp2_with (first | rw [<- j5.out] | fail)
 refine p6.mono ?_
 rintro e w2 ⟨rfl,r6⟩
 have h9:Hid (Below j.heap.size j w2):=r6
 clear r6 p6
 go_upto_region 2 with fail
 go_cut [50] from 15 to 50 (fun v W=>v=.bool false/\Below j.heap.size j W)
 case first =>
  obtain ⟨d0,d1,d2,d3,d4,d5,d6,d7,d8,_⟩:=a6.out w2 h9.out
  rcases h3 with h3 | h3
  ·skip
   have q1:decide ((100:Int) < (b.key.size:Int))=false:=decide_eq_false (by omega)
   have q2:decide ((100:Int) < (b.text.size:Int))=false:=decide_eq_false (by omega)
   have q4:decide ((2000:Int) < (b.text.size:Int))=false:=decide_eq_false (by omega)
   go_wp2_with fail
   refine (h7.out w2 h9.out).mono ?_
   rintro e w3 ⟨rfl,a7⟩
   clear d0 d1 d2 d3 d4 d5 d6 d7 d8
   obtain ⟨d0,d1,d2,d3,d4,d5,d6,d7,d8,_⟩:=a6.out w3 a7
   have l0:Hid (Below j.heap.size j w3):=a7
   clear a7
   go_wp2_with fail
   refine (h8.out w3 l0.out).mono ?_
   rintro e w4 ⟨rfl,a4⟩
   have e9:Hid (Below j.heap.size j w4):=a4
   clear d0 d1 d2 d3 d4 d5 d6 d7 d8 a4
   go_wp2_with fail
   go_meet
   exact ⟨rfl,e9.out⟩
  ·skip
   have q1:decide ((100:Int) < (b.key.size:Int))=false:=decide_eq_false (by omega)
   have q2:decide ((100:Int) < (b.text.size:Int))=true:=decide_eq_true (by omega)
   have q3:decide ((b.text.size:Int)<=1000)=false:=decide_eq_false (by omega)
   have q4:decide ((2000:Int) < (b.text.size:Int))=false:=decide_eq_false (by omega)
   go_wp2_with fail
   refine (h7.out w2 h9.out).mono ?_
   rintro e w3 ⟨rfl,a7⟩
   clear d0 d1 d2 d3 d4 d5 d6 d7 d8
   obtain ⟨d0,d1,d2,d3,d4,d5,d6,d7,d8,_⟩:=a6.out w3 a7
   have l0:Hid (Below j.heap.size j w3):=a7
   clear a7
   go_wp2_with fail
   refine (h8.out w3 l0.out).mono ?_
   rintro e w4 ⟨rfl,a4⟩
   have e9:Hid (Below j.heap.size j w4):=a4
   clear d0 d1 d2 d3 d4 d5 d6 d7 d8 a4
   go_wp2_with fail
   go_meet
   exact ⟨rfl,e9.out⟩
 case rest =>
  obtain ⟨rfl,a4⟩:=hcut
  obtain ⟨w4,rfl⟩:∃ w4,w4=wc:=⟨_,rfl⟩
  have e9:Hid (Below j.heap.size j w4):=a4
  have d0:=(a6.out w4 a4).1
  have r7:=d9.out w4.drew a4.drew
  clear a4 h7 h8 h3 h9
  go_wp2
  go_region_held3 (fun W=>(W.cell? ⟨w.heap.size,0,none⟩=some (.bool true)/\W.cell? ⟨w.heap.size,1,none⟩=some (.int .i64 b.who)/\W.cell? ⟨w.heap.size,2,none⟩=some (.int .i64 b.op)/\W.cell? ⟨w.heap.size,3,none⟩=some (.int .i64 b.config)/\W.cell? ⟨w.heap.size,4,none⟩=some (.int .i64 b.c.n)/\W.cell? ⟨w.heap.size,5,none⟩=some (.int .i64 b.c.k)/\W.cell? ⟨w.heap.size,6,none⟩=some (.slice p b.c.L.length y)/\W.cell? ⟨w.heap.size,7,none⟩=some (.string b.key)/\W.cell? ⟨w.heap.size,8,none⟩=some (.string b.text)/\Below j.heap.size j W)) (first | assumption | exact r7) (first | (go_at_call 9;refine (p8.out _ (by assumption)).mono ?_;rintro e w5 ⟨q5,d5,rfl,y2,a5⟩) | (go_at_call 8;refine (p9.out _ _ _ (by assumption) (by assumption)).mono ?_;rintro e w6 ⟨h,rfl,s2,b3⟩))
  obtain ⟨e0,e1,e2,e3,e4,e5,e6,e7,e8,l1⟩:=b3
  have l2:Hid (Below j.heap.size j w6):=l1
  have s3:=k2.out w6 l1
  clear l1 r7 p8 p9 y2 a5 d0 k2
  go_wp2_with fail
  refine s3.mono ?_
  rintro e w7 ⟨rfl,l3⟩
  obtain ⟨w8,i0⟩:∃ w8,w8=w7.alloc (.cells #[.int .i64 0,.int .i64 (-1)] 39):=⟨_,rfl⟩
  have s4:Below w7.heap.size w7 w8:=by rw [i0];exact (Below.refl _ _).alloc (Nat.le_refl _) _
  have k0:w8.cell? ⟨w7.heap.size,0,none⟩=some (.int .i64 0):=by rw [i0,World.cell?_alloc_at _ _ _ _ rfl];rfl
  have l7:Below w6.heap.size w6 w8:=l3.trans (s4.mono l3.size)
  have i1:Below j.heap.size j w8:=l2.out.trans (l7.mono l2.out.size)
  have y3:Hid (Below j.heap.size j w8):=i1
  have s5:Hid (w8=w7.alloc (.cells #[.int .i64 0,.int .i64 (-1)] 39)):=i0
  have y4:Hid (AkB Ak w w8.drew h b.ask):=(s2.out.below U.out l7).below U.out (Below.refl _ _).drew
  obtain ⟨e0,e1,e2,e3,e4,e5,e6,e7,e8,_⟩:=d9.out w8 i1
  have s6:=d9.out w8.drew i1.drew
  clear s2 i0 s4 l7 i1 l3 s3
  go_wp2_with (first | rw [<- s5.out] | fail)
  go_region_held3 (fun W=>(W.cell? ⟨w.heap.size,0,none⟩=some (.bool true)/\W.cell? ⟨w.heap.size,1,none⟩=some (.int .i64 b.who)/\W.cell? ⟨w.heap.size,2,none⟩=some (.int .i64 b.op)/\W.cell? ⟨w.heap.size,3,none⟩=some (.int .i64 b.config)/\W.cell? ⟨w.heap.size,4,none⟩=some (.int .i64 b.c.n)/\W.cell? ⟨w.heap.size,5,none⟩=some (.int .i64 b.c.k)/\W.cell? ⟨w.heap.size,6,none⟩=some (.slice p b.c.L.length y)/\W.cell? ⟨w.heap.size,7,none⟩=some (.string b.key)/\W.cell? ⟨w.heap.size,8,none⟩=some (.string b.text)/\Below j.heap.size j W)) (first | assumption | exact s6 | exact d9.out _ (b4.2.2.2.2.2.2.2.2.2.alloc b4.2.2.2.2.2.2.2.2.2.size _)) (first | (go_at_call 13;refine (q6.out _ _ (by assumption) (by assumption)).mono ?_;rintro e I ⟨rfl,l8,b4⟩))
  have i2:Below j.heap.size j I:=b4.2.2.2.2.2.2.2.2.2
  have l9:w.heap.size < I.heap.size:=Nat.lt_of_lt_of_le (by have:=j5.out;rw [this];simp) i2.size
  have m0:Below I.heap.size I (I.alloc (.cells #[.string (JY b.who),.string b.key,.int .i64 b.who,.int .i64 b.op,.int .i64 b.config,.int .i64 b.c.n,.int .i64 b.c.k,.slice p b.c.L.length y,.int .i64 0,.int .i64 0,.slice none 0 0,.bool true,.bool false,.string ⟨#[108,111,111,107,105,110,103]⟩,.slice none 0 0,.slice none 0 0,.int .i64 0,.int .i64 0,.string ⟨#[]⟩,.bool false] 48)):=(Below.refl _ _).alloc (Nat.le_refl _) _
  have y0:(I.alloc (.cells #[.string (JY b.who),.string b.key,.int .i64 b.who,.int .i64 b.op,.int .i64 b.config,.int .i64 b.c.n,.int .i64 b.c.k,.slice p b.c.L.length y,.int .i64 0,.int .i64 0,.slice none 0 0,.bool true,.bool false,.string ⟨#[108,111,111,107,105,110,103]⟩,.slice none 0 0,.slice none 0 0,.int .i64 0,.int .i64 0,.string ⟨#[]⟩,.bool false] 48)).cell? ⟨w.heap.size,0,none⟩=some (.bool true):=by rw [m0.cell (p:=⟨w.heap.size,0,none⟩) l9,b4.1]
  have y8:(I.alloc (.cells #[.string (JY b.who),.string b.key,.int .i64 b.who,.int .i64 b.op,.int .i64 b.config,.int .i64 b.c.n,.int .i64 b.c.k,.slice p b.c.L.length y,.int .i64 0,.int .i64 0,.slice none 0 0,.bool true,.bool false,.string ⟨#[108,111,111,107,105,110,103]⟩,.slice none 0 0,.slice none 0 0,.int .i64 0,.int .i64 0,.string ⟨#[]⟩,.bool false] 48)).cell? ⟨w.heap.size,8,none⟩=some (.string b.text):=by rw [m0.cell (p:=⟨w.heap.size,8,none⟩) l9];exact b4.2.2.2.2.2.2.2.2.1
  obtain ⟨Q,f3⟩:∃ Q,Q=I.alloc (.cells #[.string (JY b.who),.string b.key,.int .i64 b.who,.int .i64 b.op,.int .i64 b.config,.int .i64 b.c.n,.int .i64 b.c.k,.slice p b.c.L.length y,.int .i64 0,.int .i64 0,.slice none 0 0,.bool true,.bool false,.string ⟨#[108,111,111,107,105,110,103]⟩,.slice none 0 0,.slice none 0 0,.int .i64 0,.int .i64 0,.string b.text,.bool false] 48):=⟨_,rfl⟩
  have f4:Below I.heap.size I Q:=by rw [f3];exact (Below.refl _ _).alloc (Nat.le_refl _) _
  have y5:Q.heap.size=I.heap.size+1:=by rw [f3];simp
  have s7:Below j.heap.size j Q:=i2.trans (f4.mono i2.size)
  have m8:Below w.heap.size w Q:=p7.out.trans (s7.mono p7.out.size)
  have s8:Q.heap[I.heap.size]?=some (.cells #[.string (JY b.who),.string b.key,.int .i64 b.who,.int .i64 b.op,.int .i64 b.config,.int .i64 b.c.n,.int .i64 b.c.k,.slice p b.c.L.length y,.int .i64 0,.int .i64 0,.slice none 0 0,.bool true,.bool false,.string ⟨#[108,111,111,107,105,110,103]⟩,.slice none 0 0,.slice none 0 0,.int .i64 0,.int .i64 0,.string b.text,.bool false] 48 (0,0)):=by rw [f3];show (I.heap.push _)[I.heap.size]?=_;simp
  obtain ⟨⟨_,_,y6⟩,m9,_,_,_⟩:=Xm (c:=b.c) (by have:=r3.out;omega)
  have s9:Hid (∃ B,Qk Ak w.heap.size B h I.heap.size (.slice p b.c.L.length y) (.slice none 0 0) Q.heap.size Q b.ask b.ask):=by
   obtain ⟨B,S,g1,g2,g3⟩:=l8.out.below U.out f4
   obtain ⟨B',S',n0,t0,y7⟩:=l8.out
   have z0:Xh Q w.heap.size (fun k=>k=I.heap.size) I.heap.size b.ask (.slice p b.c.L.length y) (.slice none 0 0) (.slice none 0 0) (.slice none 0 0) []:=by
    refine ⟨s8.trans ?_,⟨p,y,rfl,b7.out.1.below m8,b7.out.2.1,b7.out.2.2,fun b' o' e'=>?_⟩,⟨none,0,rfl,Or.inl rfl,Nat.le_refl _,fun _=>⟨rfl,rfl⟩,(fun b' o' e'=>by cases e')⟩,Zq.nil _ _,⟨JM.nil _ _ _,rfl,fun i J=>absurd J (Nat.not_lt_zero _)⟩,rfl,(fun k hk=>by cases hk),(fun k hk=>by cases hk),(fun v hv=>by cases hv),fun k hk=>⟨by rw [hk];omega,by rw [hk];omega⟩⟩
    ·unfold Qo eT.ask
     rw [H5.out]
     rfl
    ·rcases b7.out.1 with e0 | ⟨b2,o2,e2,e3,_⟩
     ·rw [e0] at m9;simp at m9;omega
     ·rw [e2] at e';injection e' with e';injection e' with e4;omega
   refine ⟨B',S',(fun k=>k=I.heap.size),.slice none 0 0,.slice none 0 0,[],U.out.aS n0 (f4.mono t0) (fun k hk=>f4.block k (U.out.dH n0 k hk).2),z0,fun k hk B9=>by have:=(U.out.dH n0 k hk).2;omega,fun k hk=>⟨by rw [hk];exact t0,by rw [hk];omega⟩,by omega,y7,Nat.le_refl _⟩
  have t3:Hid (Q=I.alloc (.cells #[.string (JY b.who),.string b.key,.int .i64 b.who,.int .i64 b.op,.int .i64 b.config,.int .i64 b.c.n,.int .i64 b.c.k,.slice p b.c.L.length y,.int .i64 0,.int .i64 0,.slice none 0 0,.bool true,.bool false,.string ⟨#[108,111,111,107,105,110,103]⟩,.slice none 0 0,.slice none 0 0,.int .i64 0,.int .i64 0,.string b.text,.bool false] 48)):=f3
  have i3:Hid (Below w.heap.size w Q):=m8
  have C0:=l9
  clear l8 b4 m0 f3 f4 s7 m8 s8 q6 s6 y4 e0 e1 e2 e3 e4 e5 e6 e7 e8 k0 i2 b7 y1 q0 y5 y6 m9 s5 y3 l2
  obtain ⟨B,i4⟩:=s9.out
  have z1:Hid (Qk Ak w.heap.size B h I.heap.size (.slice p b.c.L.length y) (.slice none 0 0) Q.heap.size Q b.ask b.ask):=i4
  have t4:=(k6.out Q i3.out.size (fun k hk=>i3.out.block k hk)).2
  have n3:=Jb8 U.out rfl i3.out t4 i4
  obtain ⟨z2,t5⟩:=Jby b
  have f5:Hid (b.ask.begin.length<=1000/\∀ m ∈ b.ask.begin,m.L.length<=1000000):=⟨by omega,t5⟩
  have t6:Hid (JU b.ask):=by obtain ⟨S,S',fv,lv,vs,g1,_⟩:=i4;exact k7.out _ _ _ _ _ g1
  clear i4 s9 z2 t5 t4
  obtain ⟨BG,n4⟩:∃ BG,BG=b.ask.begin:=⟨_,rfl⟩
  rw [<- n4] at n3 f5
  have t7:Hid (b.ask.begin=BG):=n4.symm
  clear n4
  go_wp2_with (first | rw [<- t3.out] | fail)
  refine n3.mono ?_
  rintro e n5 ⟨z3,oP,rfl,i5,t8⟩
  have f6:=JaL Q.heap.size z3 BG oP n5 f5.out.1 (by obtain ⟨_,_,_,_,_,_,_,_,_,_,_,g⟩:=i5.out.2;exact g) i5.out.1
  have t9:Hid (Qk Ak w.heap.size B h I.heap.size (.slice p b.c.L.length y) (.slice none 0 0) Q.heap.size n5 b.ask b.ask):=i5.out.2
  have n6:Hid (Below w.heap.size w n5):=t8
  clear i5 t8 n3 y0 y8 z1 i3
  go_wp2_with fail
  refine f6.mono ?_
  rintro e b5 ⟨⟨u0,z4,rfl,u1⟩,n7⟩
  have u2:Hid (pD Q.heap.size b5 u0 BG):=u1
  have n8:=t9.out.below U.out n7
  have u3:Hid (Qk Ak w.heap.size B h I.heap.size (.slice p b.c.L.length y) (.slice none 0 0) Q.heap.size b5 b.ask b.ask):=n8
  have o0:Hid (Below w.heap.size w b5):=n6.out.trans (n7.mono n6.out.size)
  have u6:Hid (Calls prog 17 #[.pointer (some ⟨I.heap.size,0,none⟩)] b5 fun e w'=>(∃ p c,e=.returned (.slice p BG.length c)/\mN w' p BG)/\Below b5.heap.size b5 w'):=by
   obtain ⟨S,S',fv,lv,vs,_,g2,_⟩:=n8
   have:=JbI g2 (by show b.c.L.length<=1000;omega)
   rw [t7.out] at this
   exact this
  clear u1 n7 n8 f6 t9 n6
  go_wp2_with fail
  refine u6.out.mono ?_
  rintro e o1 ⟨⟨z5,z6,rfl,u7⟩,i7⟩
  have f7:=JaS u0 z5 BG z4 z6 o1 f5.out.1 f5.out.2 (u2.out.below i7).at_ u7
  have u8:Hid (Qk Ak w.heap.size B h I.heap.size (.slice p b.c.L.length y) (.slice none 0 0) Q.heap.size o1 b.ask b.ask):=u3.out.below U.out i7
  have o3:Hid (Below w.heap.size w o1):=o0.out.trans (i7.mono o0.out.size)
  clear u7 i7 u6 u3 o0 u2
  go_wp2_with fail
  refine f7.mono ?_
  rintro e o4 ⟨rfl,o5⟩
  have u9:Hid (Qk Ak w.heap.size B h I.heap.size (.slice p b.c.L.length y) (.slice none 0 0) o4.heap.size o4 b.ask b.ask):=(u8.out.below U.out o5).up
  have v0:Hid (Below w.heap.size w o4):=o3.out.trans (o5.mono o3.out.size)
  clear o5 f7 u8 o3 f5
  go_wp2
  generalize I.heap.size=ab at *
  clear a6 j5 d9 H5 r3 e9 t3 t7
  go_loopw [10] (fun x wr=>∃ i:Nat,i<=l.length/\x=.int .i64 i/\(∃ a,Qk Ak w.heap.size B h ab (.slice p b.c.L.length y) (.slice none 0 0) wr.heap.size wr a a/\JU a/\Xi a.L.flatten<=Qa (l.take i))/\Below w.heap.size w wr) (fun x _=>l.length - (intOf x).toNat)
  case atStart=>exact ⟨0,Nat.zero_le _,rfl,⟨b.ask,u9.out,t6.out,Nat.zero_le _⟩,v0.out⟩
  case round =>
   obtain ⟨i,J,rfl,⟨a,hM,hA,o6⟩,hB⟩:=hrel
   obtain ⟨w20,rfl⟩:∃ w20,w20=wr:=⟨_,rfl⟩
   have o7:Hid (Below w.heap.size w w20):=hB
   clear u9 v0 t6
   by_cases z7:i < l.length
   ·obtain ⟨mb,mo,m1,m2,m3,m4,m5,m6,m7,mL,lq,lc,Y,r2,rl,sw,fd,t1,t2,tx,z8,o9,v7,v8,f6,v9,f7,w0,x0,i8,i9⟩:=JcQ (w20:=w20) (B:=B) (h:=h) (ab:=ab) (mv:=(.slice p b.c.L.length y)) (nv:=(.slice none 0 0)) U.out k7.out k6.out r4.out r0.out r5.out z7 hA o6
    have x1:=o9.out w20.drew o7.out.drew
    have z9:Hid (Qk Ak w.heap.size B h ab (.slice p b.c.L.length y) (.slice none 0 0) w20.heap.size w20.drew a a):=hM.below U.out (Below.refl _ _).drew
    subst z8
    have j0:Hid ((Hid (sw=⟨#[100,111,110,101]⟩/\fd=true)/\Hid (∀ W,Below w.heap.size w W->Qk Ak w.heap.size B h ab (.slice p b.c.L.length y) (.slice none 0 0) W.heap.size W Y Y->Calls prog 22 #[.pointer (some ⟨h,0,none⟩)] W fun e w'=>e=.returned (.tuple #[.agg #[.int .i64 t1,.int .i64 t2],.string tx,.bool true])/\(w'.cell? ⟨ab,13,none⟩=some (.string sw)/\w'.cell? ⟨ab,19,none⟩=some (.bool fd)/\w'.cell? ⟨ab,16,none⟩=some (.int .i64 t1)/\w'.cell? ⟨ab,17,none⟩=some (.int .i64 t2)/\w'.cell? ⟨ab,18,none⟩=some (.string tx))/\Qk Ak w.heap.size B h ab (.slice p b.c.L.length y) (.slice none 0 0) w'.heap.size w' Y Y/\Below w.heap.size w w'))∨(Hid (¬ sw.toList=[100,111,110,101]∨fd=false)/\Hid (∀ W,Below w.heap.size w W->Qk Ak w.heap.size B h ab (.slice p b.c.L.length y) (.slice none 0 0) W.heap.size W Y Y->Calls prog 22 #[.pointer (some ⟨h,0,none⟩)] W fun e w'=>e=.returned (.tuple #[.agg #[.int .i64 0,.int .i64 0],.string ⟨#[]⟩,.bool false])/\(w'.cell? ⟨ab,13,none⟩=some (.string sw)/\w'.cell? ⟨ab,19,none⟩=some (.bool fd)/\w'.cell? ⟨ab,16,none⟩=some (.int .i64 t1)/\w'.cell? ⟨ab,17,none⟩=some (.int .i64 t2)/\w'.cell? ⟨ab,18,none⟩=some (.string tx))/\Qk Ak w.heap.size B h ab (.slice p b.c.L.length y) (.slice none 0 0) w'.heap.size w' Y Y/\Below w.heap.size w w'))):=x0
    clear hM hA o6 hB x0 r4 r0 r5 k6 k7
    go_upto_region 22 with fail
    go_cut [166] from 136 to 212 (fun v W=>v=.bool false/\Qk Ak w.heap.size B h ab (.slice p b.c.L.length y) (.slice none 0 0) W.heap.size W Y Y/\Below w.heap.size w W)
    case first =>
     clear j0 i8 i9 U o9
     refine wp_region_held_drew (S:=fun W=>(W.cell? ⟨mb,mo+i*8,none⟩=some (.string m1)/\W.cell? ⟨mb,mo+i*8+1,none⟩=some (.string m2)/\W.cell? ⟨mb,mo+i*8+2,none⟩=some (.string m3)/\W.cell? ⟨mb,mo+i*8+3,none⟩=some (.string m4)/\W.cell? ⟨mb,mo+i*8+4,none⟩=some (.int .i64 m5)/\W.cell? ⟨mb,mo+i*8+5,none⟩=some (.int .i64 m6)/\W.cell? ⟨mb,mo+i*8+6,none⟩=some (.bool m7)/\W.cell? ⟨mb,mo+i*8+7,none⟩=some (.slice lq mL.length lc)/\Below w.heap.size w W)) (by kernel_rfl) x1 (fun O=>?_)
     refine wpAnyH_take (i:=0) (oi:={ dst:=some 142,op:=Op.move (Operand.tmp 6),type:=31,pos := "parts.go:490",after:=#[],guard:=none }) (v:=?_) rfl (by kernel_rfl) (by kernel_rfl) (by kernel_rfl) (fun _ _ _ h=>h) (Or.inl ⟨by rfl,?_⟩) O ?_
     rotate_left
     ·(intro w D;(try dsimp only at D);go_simp;try with_reducible rfl)
     try simp only [Act.put,List.setIfInBounds_toArray,List.set_cons_zero,List.set_cons_succ]
     refine wpAnyH_take (i:=1) (oi:={ dst:=some 143,op:=Op.move (Operand.tmp 1),type:=27,pos := "parts.go:490",after:=#[],guard:=none }) (v:=?_) rfl (by kernel_rfl) (by kernel_rfl) (by kernel_rfl) (fun _ _ _ h=>h) (Or.inl ⟨by rfl,?_⟩) O ?_
     rotate_left
     ·(intro w D;(try dsimp only at D);go_simp;try with_reducible rfl)
     try simp only [Act.put,List.setIfInBounds_toArray,List.set_cons_zero,List.set_cons_succ]
     refine wpAnyH_take (i:=2) (oi:={ dst:=some 144,op:=Op.move (Operand.tmp 10),type:=3,pos := "parts.go:490",after:=#[],guard:=none }) (v:=?_) rfl (by kernel_rfl) (by kernel_rfl) (by kernel_rfl) (fun _ _ _ h=>h) (Or.inl ⟨by rfl,?_⟩) O ?_
     rotate_left
     ·(intro w D;(try dsimp only at D);go_simp;try with_reducible rfl)
     try simp only [Act.put,List.setIfInBounds_toArray,List.set_cons_zero,List.set_cons_succ]
     refine wpAnyH_take (i:=3) (oi:={ dst:=some 145,op:=Op.indexAddr 27 (Operand.tmp 143) (Operand.tmp 144),type:=0,pos := "parts.go:490",after:=#[{ on:=1,ground:=Ground.data },{ on:=2,ground:=Ground.data }],guard:=none }) (v:=?_) rfl (by kernel_rfl) (by kernel_rfl) (by kernel_rfl) (fun _ _ _ h=>h) (Or.inl ⟨by rfl,?_⟩) O ?_
     rotate_left
     ·(intro w D;(try dsimp only at D);go_simp;try with_reducible rfl)
     try simp only [Act.put,List.setIfInBounds_toArray,List.set_cons_zero,List.set_cons_succ]
     refine wpAnyH_take (i:=4) (oi:={ dst:=some 146,op:=Op.load 59 (Operand.tmp 145),type:=59,pos := "parts.go:490",after:=#[{ on:=3,ground:=Ground.data }],guard:=none }) (v:=?_) rfl (by kernel_rfl) (by kernel_rfl) (by kernel_rfl) (fun _ _ _ h=>h) (Or.inl ⟨by rfl,?_⟩) O ?_
     rotate_left
     ·(intro w D;(try dsimp only at D);go_simp;try with_reducible rfl)
     try simp only [Act.put,List.setIfInBounds_toArray,List.set_cons_zero,List.set_cons_succ]
     refine wpAnyH_take (i:=8) (oi:={ dst:=some 150,op:=Op.move (Operand.tmp 9),type:=42,pos := "parts.go:490",after:=#[],guard:=none }) (v:=?_) rfl (by kernel_rfl) (by kernel_rfl) (by kernel_rfl) (fun _ _ _ h=>h) (Or.inl ⟨by rfl,?_⟩) O ?_
     rotate_left
     ·(intro w D;(try dsimp only at D);go_simp;try with_reducible rfl)
     try simp only [Act.put,List.setIfInBounds_toArray,List.set_cons_zero,List.set_cons_succ]
     refine wpAnyH_take (i:=9) (oi:={ dst:=some 151,op:=Op.move (Operand.tmp 1),type:=27,pos := "parts.go:490",after:=#[],guard:=none }) (v:=?_) rfl (by kernel_rfl) (by kernel_rfl) (by kernel_rfl) (fun _ _ _ h=>h) (Or.inl ⟨by rfl,?_⟩) O ?_
     rotate_left
     ·(intro w D;(try dsimp only at D);go_simp;try with_reducible rfl)
     try simp only [Act.put,List.setIfInBounds_toArray,List.set_cons_zero,List.set_cons_succ]
     refine wpAnyH_take (i:=10) (oi:={ dst:=some 152,op:=Op.move (Operand.tmp 10),type:=3,pos := "parts.go:490",after:=#[],guard:=none }) (v:=?_) rfl (by kernel_rfl) (by kernel_rfl) (by kernel_rfl) (fun _ _ _ h=>h) (Or.inl ⟨by rfl,?_⟩) O ?_
     rotate_left
     ·(intro w D;(try dsimp only at D);go_simp;try with_reducible rfl)
     try simp only [Act.put,List.setIfInBounds_toArray,List.set_cons_zero,List.set_cons_succ]
     refine wpAnyH_take (i:=11) (oi:={ dst:=some 153,op:=Op.indexAddr 27 (Operand.tmp 151) (Operand.tmp 152),type:=0,pos := "parts.go:490",after:=#[{ on:=9,ground:=Ground.data },{ on:=10,ground:=Ground.data }],guard:=none }) (v:=?_) rfl (by kernel_rfl) (by kernel_rfl) (by kernel_rfl) (fun _ _ _ h=>h) (Or.inl ⟨by rfl,?_⟩) O ?_
     rotate_left
     ·(intro w D;(try dsimp only at D);go_simp;try with_reducible rfl)
     try simp only [Act.put,List.setIfInBounds_toArray,List.set_cons_zero,List.set_cons_succ]
     refine wpAnyH_take (i:=12) (oi:={ dst:=some 154,op:=Op.load 59 (Operand.tmp 153),type:=59,pos := "parts.go:490",after:=#[{ on:=11,ground:=Ground.data }],guard:=none }) (v:=?_) rfl (by kernel_rfl) (by kernel_rfl) (by kernel_rfl) (fun _ _ _ h=>h) (Or.inl ⟨by rfl,?_⟩) O ?_
     rotate_left
     ·(intro w D;(try dsimp only at D);go_simp;try with_reducible rfl)
     try simp only [Act.put,List.setIfInBounds_toArray,List.set_cons_zero,List.set_cons_succ]
     refine wpAnyH_ready (rs:=[5]) (by kernel_rfl) (by simp) ?_
     refine AllReadyH.cons (o:={ dst:=some 147,op:=Op.call { callee:=Callee.value (Operand.func 19),args:=#[Operand.tmp 146],argTypes:=#[59] },type:=57,pos := "parts.go:490",after:=#[{ on:=4,ground:=Ground.data }],guard:=none }) rfl (fun K M=>?_) AllReadyH.nil
     go_simp
     (go_at_call 19;refine (v7.out _ (by assumption) (by assumption)).mono ?_;rintro e v1 ⟨q1,d1,rfl,C1,A1⟩)
     first | (refine M.out _ _ ?_ (fun O=>?_)) | (go_wp2_with fail;refine M.out _ _ ?_ (fun O=>?_))
     ·exact A1
     clear M K
     try simp only [Act.put,List.setIfInBounds_toArray,List.set_cons_zero,List.set_cons_succ]
     refine wpAnyH_ready (rs:=[6]) (by kernel_rfl) (by simp) ?_
     refine AllReadyH.cons (o:={ dst:=some 148,op:=Op.call { callee:=Callee.value (Operand.func 18),args:=#[Operand.tmp 142,Operand.tmp 147],argTypes:=#[31,57] },type:=51,pos := "parts.go:490",after:=#[{ on:=0,ground:=Ground.data },{ on:=5,ground:=Ground.data },{ on:=5,ground:=Ground.chain }],guard:=none }) rfl (fun K M=>?_) AllReadyH.nil
     go_simp
     (go_at_call 18;refine (v8.out _ _ _ (by assumption) (by assumption)).mono ?_;rintro e v2 ⟨p2,c2,rfl,C2,A2⟩)
     first | (refine M.out _ _ ?_ (fun O=>?_)) | (go_wp2_with fail;refine M.out _ _ ?_ (fun O=>?_))
     ·exact A2
     clear M K
     try simp only [Act.put,List.setIfInBounds_toArray,List.set_cons_zero,List.set_cons_succ]
     refine wpAnyH_ready (rs:=[7]) (by kernel_rfl) (by simp) ?_
     refine AllReadyH.cons (o:={ dst:=some 149,op:=Op.call { callee:=Callee.value (Operand.func 15),args:=#[Operand.tmp 148],argTypes:=#[51] },type:=27,pos := "parts.go:490",after:=#[{ on:=6,ground:=Ground.data },{ on:=6,ground:=Ground.chain }],guard:=none }) rfl (fun K M=>?_) AllReadyH.nil
     go_simp
     (go_at_call 15;refine (f6.out _ _ _ (by assumption) (by assumption)).mono ?_;rintro e v3 ⟨p3,c3,rfl,C4,A3⟩)
     first | (refine M.out _ _ ?_ (fun O=>?_)) | (go_wp2_with fail;refine M.out _ _ ?_ (fun O=>?_))
     ·exact A3
     clear M K
     try simp only [Act.put,List.setIfInBounds_toArray,List.set_cons_zero,List.set_cons_succ]
     refine wpAnyH_ready (rs:=[13]) (by kernel_rfl) (by simp) ?_
     refine AllReadyH.cons (o:={ dst:=some 155,op:=Op.call { callee:=Callee.value (Operand.func 20),args:=#[Operand.tmp 150,Operand.tmp 154],argTypes:=#[42,59] },type:=27,pos := "parts.go:490",after:=#[{ on:=8,ground:=Ground.data },{ on:=12,ground:=Ground.data },{ on:=7,ground:=Ground.chain }],guard:=none }) rfl (fun K M=>?_) AllReadyH.nil
     go_simp
     (go_at_call 20;refine (v9.out _ p3 (by assumption) (by assumption)).mono ?_;rintro e v4 ⟨q4,d4,rfl,C5,A5⟩)
     first | (refine M.out _ _ ?_ (fun O=>?_)) | (go_wp2_with fail;refine M.out _ _ ?_ (fun O=>?_))
     ·exact A5
     clear M K
     try simp only [Act.put,List.setIfInBounds_toArray,List.set_cons_zero,List.set_cons_succ]
     refine wpAnyH_ready (rs:=[14]) (by kernel_rfl) (by simp) ?_
     refine AllReadyH.cons (o:={ dst:=some 156,op:=Op.call { callee:=Callee.value (Operand.func 14),args:=#[Operand.tmp 149,Operand.tmp 155],argTypes:=#[27,27] },type:=4,pos := "parts.go:490",after:=#[{ on:=7,ground:=Ground.data },{ on:=13,ground:=Ground.data },{ on:=13,ground:=Ground.chain }],guard:=none }) rfl (fun K M=>?_) AllReadyH.nil
     go_simp
     (go_at_call 14;refine (f7.out _ _ _ _ _ (by assumption) (by assumption)).mono ?_;rintro e v5 ⟨rfl,C9,a5,a8⟩)
     first | (refine M.out _ _ ?_ (fun O=>?_)) | (go_wp2_with fail;refine M.out _ _ ?_ (fun O=>?_))
     ·exact a5
     clear M K
     try simp only [Act.put,List.setIfInBounds_toArray,List.set_cons_zero,List.set_cons_succ]
     refine Ja0 (S':=fun W=>(W.cell? ⟨mb,mo+i*8,none⟩=some (.string m1)/\W.cell? ⟨mb,mo+i*8+1,none⟩=some (.string m2)/\W.cell? ⟨mb,mo+i*8+2,none⟩=some (.string m3)/\W.cell? ⟨mb,mo+i*8+3,none⟩=some (.string m4)/\W.cell? ⟨mb,mo+i*8+4,none⟩=some (.int .i64 m5)/\W.cell? ⟨mb,mo+i*8+5,none⟩=some (.int .i64 m6)/\W.cell? ⟨mb,mo+i*8+6,none⟩=some (.bool m7)/\W.cell? ⟨mb,mo+i*8+7,none⟩=some (.slice lq mL.length lc)/\Below w.heap.size w W)/\W.cell? ⟨ab,13,none⟩=some (.string sw)) (fun w h=>h.1) _ _ _ _ ?_
     refine wpAnyH_take (i:=15) (oi:={ dst:=some 157,op:=Op.unOp UnOp.not 4 (Operand.tmp 156),type:=4,pos := "parts.go:490",after:=#[{ on:=14,ground:=Ground.data }],guard:=none }) (v:=?_) rfl (by kernel_rfl) (by kernel_rfl) (by kernel_rfl) (fun _ _ _ h=>h) (Or.inl ⟨by rfl,?_⟩) ⟨a5,a8⟩ ?_
     rotate_left
     ·(intro w D;(try dsimp only at D);go_simp;try with_reducible rfl)
     try simp only [Act.put,List.setIfInBounds_toArray,List.set_cons_zero,List.set_cons_succ]
     refine wpAnyH_take (i:=16) (oi:={ dst:=some 158,op:=Op.move (Operand.tmp 157),type:=4,pos := "parts.go:490",after:=#[{ on:=15,ground:=Ground.data },{ on:=14,ground:=Ground.chain }],guard:=none }) (v:=?_) rfl (by kernel_rfl) (by kernel_rfl) (by kernel_rfl) (fun _ _ _ h=>h) (Or.inl ⟨by rfl,?_⟩) ⟨a5,a8⟩ ?_
     rotate_left
     ·(intro w D;(try dsimp only at D);go_simp;try with_reducible rfl)
     try simp only [Act.put,List.setIfInBounds_toArray,List.set_cons_zero,List.set_cons_succ]
     refine wpAnyH_take (i:=17) (oi:={ dst:=some 159,op:=Op.move (Operand.tmp 6),type:=31,pos := "parts.go:490",after:=#[{ on:=16,ground:=Ground.guard }],guard:=some (16,false) }) (v:=?_) rfl (by kernel_rfl) (by kernel_rfl) (by kernel_rfl) (fun _ _ _ h=>h) (Or.inl ⟨by rfl,?_⟩) ⟨a5,a8⟩ ?_
     rotate_left
     ·(intro w D;(try dsimp only at D);go_simp;try with_reducible rfl)
     try simp only [Act.put,List.setIfInBounds_toArray,List.set_cons_zero,List.set_cons_succ]
     refine wpAnyH_take (i:=19) (oi:={ dst:=some 161,op:=Op.move (Operand.tmp 9),type:=42,pos := "parts.go:490",after:=#[{ on:=16,ground:=Ground.guard }],guard:=some (16,false) }) (v:=?_) rfl (by kernel_rfl) (by kernel_rfl) (by kernel_rfl) (fun _ _ _ h=>h) (Or.inl ⟨by rfl,?_⟩) ⟨a5,a8⟩ ?_
     rotate_left
     ·(intro w D;(try dsimp only at D);go_simp;try with_reducible rfl)
     try simp only [Act.put,List.setIfInBounds_toArray,List.set_cons_zero,List.set_cons_succ]
     refine wpAnyH_take (i:=20) (oi:={ dst:=some 162,op:=Op.nilCheck (Operand.tmp 161),type:=0,pos := "parts.go:490",after:=#[{ on:=19,ground:=Ground.data },{ on:=16,ground:=Ground.guard }],guard:=some (16,false) }) (v:=?_) rfl (by kernel_rfl) (by kernel_rfl) (by kernel_rfl) (fun _ _ _ h=>h) (Or.inl ⟨by rfl,?_⟩) ⟨a5,a8⟩ ?_
     rotate_left
     ·(intro w D;(try dsimp only at D);go_simp;try with_reducible rfl)
     try simp only [Act.put,List.setIfInBounds_toArray,List.set_cons_zero,List.set_cons_succ]
     refine wpAnyH_take (i:=21) (oi:={ dst:=some 163,op:=Op.fieldAddr 48 (Operand.tmp 162) 9,type:=0,pos := "parts.go:490",after:=#[{ on:=20,ground:=Ground.data },{ on:=16,ground:=Ground.guard }],guard:=some (16,false) }) (v:=?_) rfl (by kernel_rfl) (by kernel_rfl) (by kernel_rfl) (fun _ _ _ h=>h) (Or.inl ⟨by rfl,?_⟩) ⟨a5,a8⟩ ?_
     rotate_left
     ·(intro w D;(try dsimp only at D);go_simp;try with_reducible rfl)
     try simp only [Act.put,List.setIfInBounds_toArray,List.set_cons_zero,List.set_cons_succ]
     refine wpAnyH_take (i:=22) (oi:={ dst:=some 164,op:=Op.load 9 (Operand.tmp 163),type:=9,pos := "parts.go:490",after:=#[{ on:=21,ground:=Ground.data },{ on:=16,ground:=Ground.guard }],guard:=some (16,false) }) (v:=?_) rfl (by kernel_rfl) (by kernel_rfl) (by kernel_rfl) (fun _ _ _ h=>h) (Or.inl ⟨by rfl,?_⟩) ⟨a5,a8⟩ ?_
     rotate_left
     ·(intro w D;(try dsimp only at D);go_simp;try with_reducible rfl)
     try simp only [Act.put,List.setIfInBounds_toArray,List.set_cons_zero,List.set_cons_succ]
     refine wpAnyH_ready (rs:=[18]) (by kernel_rfl) (by simp) ?_
     refine AllReadyH.cons (o:={ dst:=some 160,op:=Op.call { callee:=Callee.value (Operand.func 21),args:=#[Operand.tmp 159],argTypes:=#[31] },type:=9,pos := "parts.go:490",after:=#[{ on:=17,ground:=Ground.data },{ on:=16,ground:=Ground.chain },{ on:=16,ground:=Ground.guard }],guard:=some (16,false) }) rfl (fun K M=>?_) AllReadyH.nil
     go_simp
     (go_at_call 21;refine (w0.out _ (by assumption) (by assumption)).mono ?_;rintro e v6 ⟨rfl,A6,b3,p0⟩)
     first | (refine M.out _ _ ?_ (fun O=>?_)) | (go_wp2_with fail;refine M.out _ _ ?_ (fun O=>?_))
     ·exact ⟨b3,p0⟩
     clear M K
     try simp only [Act.put,List.setIfInBounds_toArray,List.set_cons_zero,List.set_cons_succ]
     refine wpAnyH_take (i:=23) (oi:={ dst:=some 165,op:=Op.binOp BinOp.neq 9 (Operand.tmp 160) (Operand.tmp 164) 9,type:=4,pos := "parts.go:490",after:=#[{ on:=18,ground:=Ground.data },{ on:=22,ground:=Ground.data },{ on:=16,ground:=Ground.guard }],guard:=some (16,false) }) (v:=?_) rfl (by kernel_rfl) (by kernel_rfl) (by kernel_rfl) (fun _ _ _ h=>h) (Or.inl ⟨by rfl,?_⟩) ⟨b3,p0⟩ ?_
     rotate_left
     ·(intro w D;(try dsimp only at D);go_simp;try with_reducible rfl)
     try simp only [Act.put,List.setIfInBounds_toArray,List.set_cons_zero,List.set_cons_succ]
     refine wpAnyH_take (i:=24) (oi:={ dst:=some 166,op:=Op.pick (Operand.tmp 158) (Operand.const (Value.bool true)) (Operand.tmp 165),type:=4,pos := "parts.go:490",after:=#[{ on:=16,ground:=Ground.data },{ on:=23,ground:=Ground.data }],guard:=none }) (v:=?_) rfl (by kernel_rfl) (by kernel_rfl) (by kernel_rfl) (fun _ _ _ h=>h) (Or.inl ⟨by rfl,?_⟩) ⟨b3,p0⟩ ?_
     rotate_left
     ·(intro w D;(try dsimp only at D);go_simp;try with_reducible rfl)
     try simp only [Act.put,List.setIfInBounds_toArray,List.set_cons_zero,List.set_cons_succ]
     refine wpAnyH_done (by kernel_rfl) ?_ _
     all_goals (go_wp2_with fail;go_meet)
     all_goals exact ⟨by first | rfl | simp,A6.out,b3.2.2.2.2.2.2.2.2⟩
    case rest =>
     obtain ⟨rfl,hm,hb⟩:=hcut
     obtain ⟨j1,rfl⟩:∃ j1,j1=wc:=⟨_,rfl⟩
     clear v7 v8 f6 v9 f7 w0 x1 z9 o9 o7
     rcases j0.out with ⟨HC,f8⟩ | ⟨HC,f8⟩
     ·have f9:=f8.out j1 hb hm
      obtain ⟨rfl,rfl⟩:=HC.out
      clear j0 f8 HC hm hb
      go_wp2_with fail
      refine f9.mono ?_
      rintro e a0 ⟨rfl,⟨a9,g0,g6,g7,g8⟩,g9,b0⟩
      obtain ⟨N,a3⟩:∃ N,N=a0.alloc (.cells #[.int .i64 t1,.int .i64 t2] 46):=⟨_,rfl⟩
      have Z:Below a0.heap.size a0 N:=by rw [a3];exact (Below.refl _ _).alloc (Nat.le_refl _) _
      have s0:N.cell? ⟨a0.heap.size,0,none⟩=some (.int .i64 t1):=by rw [a3];simp
      have s1:N.cell? ⟨a0.heap.size,1,none⟩=some (.int .i64 t2):=by rw [a3];simp
      have a1:=Zn a9
      have A9:=(Z.cell (p:=⟨ab,13,none⟩) a1).trans a9
      have B0:=(Z.cell (p:=⟨ab,19,none⟩) a1).trans g0
      have B2:=(Z.cell (p:=⟨ab,16,none⟩) a1).trans g6
      have B3:=(Z.cell (p:=⟨ab,17,none⟩) a1).trans g7
      have B5:=(Z.cell (p:=⟨ab,18,none⟩) a1).trans g8
      have b1:Hid (Qk Ak w.heap.size B h ab (.slice p b.c.L.length y) (.slice none 0 0) N.heap.size N Y Y):=(g9.below U.out Z).up
      have h0:Hid (Below w.heap.size w N):=b0.trans (Z.mono b0.size)
      have j2:Hid (N=a0.alloc (.cells #[.int .i64 t1,.int .i64 t2] 46)):=a3
      clear a3 Z a1 a9 g0 g6 g7 g8 g9 b0 f9
      go_upto_region 28 with (first | rw [<- j2.out] | fail)
      go_cut [212] from 136 to 212 (fun v W=>v=.bool false/\Below N.heap.size N W)
      case first =>
       go_quiet (fail)
       all_goals (go_wp2_with fail;go_meet)
       all_goals exact ⟨by first | rfl | simp,below_drewN (Below.refl _ _) _⟩
      case rest =>
       obtain ⟨rfl,x2⟩:=hcut
       have x4:Hid (Below N.heap.size N wc):=x2
       clear x2
       go_wp2
       go_roundw
       case rel=>exact ⟨i+1,by omega,by go_num,⟨Y,(b1.out.below U.out x4.out).up,i8.out _ b1.out,i9.out⟩,h0.out.trans (x4.out.mono h0.out.size)⟩
       case measure=>simp [intOf];omega
     ·have f9:=f8.out j1 hb hm
      have j3:=HC.out
      clear j0 f8 HC hm hb
      go_wp2_with fail
      refine f9.mono ?_
      rintro e a0 ⟨rfl,⟨a9,g0,g6,g7,g8⟩,g9,b0⟩
      obtain ⟨N,a3⟩:∃ N,N=a0.alloc (.cells #[.int .i64 0,.int .i64 0] 46):=⟨_,rfl⟩
      have Z:Below a0.heap.size a0 N:=by rw [a3];exact (Below.refl _ _).alloc (Nat.le_refl _) _
      have s0:N.cell? ⟨a0.heap.size,0,none⟩=some (.int .i64 0):=by rw [a3];simp
      have s1:N.cell? ⟨a0.heap.size,1,none⟩=some (.int .i64 0):=by rw [a3];simp
      have a1:=Zn a9
      have A9:=(Z.cell (p:=⟨ab,13,none⟩) a1).trans a9
      have B0:=(Z.cell (p:=⟨ab,19,none⟩) a1).trans g0
      have B2:=(Z.cell (p:=⟨ab,16,none⟩) a1).trans g6
      have B3:=(Z.cell (p:=⟨ab,17,none⟩) a1).trans g7
      have B5:=(Z.cell (p:=⟨ab,18,none⟩) a1).trans g8
      have b1:Hid (Qk Ak w.heap.size B h ab (.slice p b.c.L.length y) (.slice none 0 0) N.heap.size N Y Y):=(g9.below U.out Z).up
      have h0:Hid (Below w.heap.size w N):=b0.trans (Z.mono b0.size)
      have j2:Hid (N=a0.alloc (.cells #[.int .i64 0,.int .i64 0] 46)):=a3
      clear a3 Z a1 a9 g0 g6 g7 g8 g9 b0 f9 U
      rcases j3 with j3 | j3
      ·skip
       go_upto_region 25 with fail
       rw [<- j2.out]
       go_wp2
       all_goals (go_roundw;(case rel=>exact ⟨i+1,by omega,by go_num,⟨Y,b1.out,i8.out _ b1.out,i9.out⟩,h0.out⟩);(case measure=>simp [intOf];omega))
      ·subst j3
       go_upto_region 25 with fail
       rw [<- j2.out]
       go_wp2
       all_goals (go_roundw;(case rel=>exact ⟨i+1,by omega,by go_num,⟨Y,b1.out,i8.out _ b1.out,i9.out⟩,h0.out⟩);(case measure=>simp [intOf];omega))
   ·clear hM hA o6 hB
    go_wp2
    go_ret
    exact ⟨rfl,o7.out⟩
end
end Go.Proofs.YtmikbldbfnlfjaaGreatDoor
