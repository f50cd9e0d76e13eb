import Derived.Test.YtmhoiodfppdlnaaGreatDoorAq38
import Derived.Test.YtmhoiodfppdlnaaGreatDoorAq5
import Derived.Test.YtmhoiodfppdlnaaGreatDoorAq3
namespace Go.Proofs.YtmhoiodfppdlnaaGreatDoor
open Go.RowKit
variable {ad:Nat->Addr} {X:World->Prop} {Ak:World->Nat->Nat->(Nat->Prop)->MAsk->Prop}
theorem client_sum {n:Nat}(h:n < 6):(⟨#[99]⟩:ByteArray) ++ strOf [48+n]=clientN (n:Int):=by
 match n,h with
 | 0,_=>decide +kernel
 | 1,_=>decide +kernel
 | 2,_=>decide +kernel
 | 3,_=>decide +kernel
 | 4,_=>decide +kernel
 | 5,_=>decide +kernel
def AkB (Ak:World->Nat->Nat->(Nat->Prop)->MAsk->Prop)(w W:World)(h:Nat)(a:MAsk):Prop:=∃ B S,Ak W B h S a/\B<=W.heap.size/\w.heap.size<=B
theorem AkB.below {w W W':World}{h:Nat}{a:MAsk}(hA:AkB Ak w W h a)(hO:AskOk ad X Ak)(hb:Below W.heap.size W W'):AkB Ak w W' h a:=by
 obtain⟨B,S,h1,h2,h3⟩:=hA
 exact⟨B,S,hO.keep h1 (hb.mono h2) (fun k hk=>hb.block k (hO.inS h1 k hk).2),Nat.le_trans h2 hb.size,h3⟩
theorem bidF_fine' {b:Bid}(h:¬ 0 < (bidF b).1):¬ 0 < (cfgF b.c).1/\b.fits/\bidF b=(0,-1):=by
 by_cases h1:0 < (cfgF b.c).1
 ·rw [bidF_cfg h1] at h;exact absurd h1 h
 ·cases h2:isN b.key with
  | false=>rw [bidF_key h1 h2] at h;exact absurd (by decide) h
  | true =>
   by_cases h3:b.fits
   ·exact⟨h1,h3,bidF_fine h1 h2 h3⟩
   ·rw [bidF_bound h1 h2 h3] at h;exact absurd (by decide) h
theorem mid_begin {B0 B h ab M:Nat}{mv nv:Value}{w0 W:World}{a:MAsk}(hO:AskOk ad X Ak)(hw:w0.heap.size=B0)(hb0:Below w0.heap.size w0 W)(hX:X W)(hm:Mid Ak B0 B h ab mv nv M W a a) :
 Calls Tryz.prog 16 #[.pointer (some ⟨h,0,none⟩)] W fun e w'=>∃ p c,e=.returned (.slice p a.begin.length c)/\Hid (MsgsN M w' p a.begin/\Mid Ak B0 B h ab mv nv M w' a a)/\Below w0.heap.size w0 w':=by
 obtain⟨S,S',fv,lv,vs,h1,h2,h3,h4,h5,h6,h7⟩:=hm
 have hSB:∀ k,S k->w0.heap.size<=k:=fun k hk=>by have:=(hO.inS h1 k hk).1;omega
 refine(hO.begin h1 hX).mono fun e w' hq=>?_
 obtain⟨⟨p,c,e1,e2⟩,S1,g1,g2⟩:=hq
 have hbB:Below B0 W w':=⟨g2.os,g2.tape,g2.output,g2.size,fun k hk=>g2.block k (Nat.lt_of_lt_of_le hk (Nat.le_trans h6 h5)) (fun hS=>by have:=hSB k hS;omega)⟩
 refine⟨p,c,e1,⟨e2.mono h7,S1,S',fv,lv,vs,g1,h2.keep hbB (fun k hk=>g2.block k (h2.inB k hk).2 (fun hS=>h3 k hS hk)),fun k hk hk'=>?_,h4,Nat.le_trans h5 g2.size,h6,Nat.le_trans h7 g2.size⟩,hb0.trans (hw ▸ hbB)⟩
 rcases g2.new k hk with hk | hk
 ·exact h3 k hk hk'
 ·have:=(h2.inB k hk').2
  omega
theorem begin_short (b:Bid):b.ask.begin.length=b.c.L.length/\∀ m ∈ b.ask.begin,m.L.length<=1000000:=by
 have e:b.ask.begin=b.ask.send wLook false:=rfl
 rw [e]
 unfold MAsk.send
 refine⟨by rw [List.length_map,List.length_range];rfl,fun m hm=>?_⟩
 obtain⟨i,_,rfl⟩:=List.mem_map.1 hm
 exact Nat.zero_le _
theorem send_short (a:MAsk)(kind:ByteArray)(wt:Bool):(a.send kind wt).length=a.c.L.length/\∀ m ∈ a.send kind wt,m.L.length<=1000000:=by
 unfold MAsk.send
 refine⟨by rw [List.length_map,List.length_range],fun m hm=>?_⟩
 obtain⟨i,_,rfl⟩:=List.mem_map.1 hm
 show(if wt=true then [a.ver i] else []).length<=1000000
 split <;> simp
theorem weighM_take_le (l:List Msg)(i:Nat):weighM (l.take i)<=weighM l:=by
 have e:weighM l=weighM (l.take i)+weighM (l.drop i):=by
  unfold weighM
  rw [<- List.sum_append,<- List.map_append,List.take_append_drop]
 omega
theorem hear_short {a:MAsk}(m:Msg)(hf:AFine a):(a.hear m).2.length<=1000/\∀ x ∈ (a.hear m).2,x.L.length<=1000000:=by
 obtain⟨⟨_,_,h3⟩,h4,_⟩:=cfgF_fine hf.cfg
 unfold MAsk.hear
 split
 ·exact⟨Nat.zero_le 1000,fun x hx=>by cases hx⟩
 ·split
  ·exact⟨Nat.zero_le 1000,fun x hx=>by cases hx⟩
  ·split
   ·exact⟨Nat.zero_le 1000,fun x hx=>by cases hx⟩
   ·split
    ·exact⟨Nat.zero_le 1000,fun x hx=>by cases hx⟩
    ·split
     ·exact⟨Nat.zero_le 1000,fun x hx=>by cases hx⟩
     ·obtain⟨e1,e2⟩:=send_short (a.heard m).found_.keeps wKeep true
      refine⟨?_,e2⟩
      show(MAsk.send _ wKeep true).length<=1000
      rw [e1]
      have e3:(a.heard m).found_.keeps.c=a.c:=by
       have h1:(a.heard m).found_.moves=false:=by rw [(found_same (a.heard m)).2.2.2.1];exact hf.still
       rw [keeps_eq h1]
       show(a.heard m).found_.c=a.c
       rw [(found_same (a.heard m)).1]
       rfl
      rw [e3]
      omega
theorem wpAnyH_weak {P:Program}{md:Region.Mode}{ops:Array Oper}{Q:Exit->Act->World->Prop}{S S':World->Prop}(hs:∀ w,S' w->S w):∀ (fuel:Nat) (listed:Array Bool) (a:Act) (w:World),wpAnyH P md ops Q S' fuel listed a w->wpAnyH P md ops Q S fuel listed a w
 | 0,_,_,_,h=>h
 | fuel+1,_,_,_,h=>⟨h.1,fun i hi=>wpOp_mono (fun a' w' h'=>⟨hs w' h'.1,wpAnyH_weak hs fuel _ a' w' h'.2⟩) (h.2 i hi)⟩
theorem rnd_wire {w w20:World}{B h ab i:Nat}{mv nv:Value}{a:MAsk}{mb mo:Nat}{m1 m2 m3 m4:ByteArray}{m5 m6:Int}{m7:Bool}{mL:List Ver}{lq:Option Addr}{lc:Nat}(hO:AskOk ad X Ak)(hSC:∀ W,Below w.heap.size w W->(W.cell? ⟨mb,mo+i*8,none⟩=some (.string m1)/\W.cell? ⟨mb,mo+i*8+1,none⟩=some (.string m2)/\W.cell? ⟨mb,mo+i*8+2,none⟩=some (.string m3)/\W.cell? ⟨mb,mo+i*8+3,none⟩=some (.string m4)/\W.cell? ⟨mb,mo+i*8+4,none⟩=some (.int .i64 m5)/\W.cell? ⟨mb,mo+i*8+5,none⟩=some (.int .i64 m6)/\W.cell? ⟨mb,mo+i*8+6,none⟩=some (.bool m7)/\W.cell? ⟨mb,mo+i*8+7,none⟩=some (.slice lq mL.length lc)/\Below w.heap.size w W))(hmL:mL.length<=150)(hx:HasL w (⟨m1,m2,m3,m4,m5,m6,m7,mL⟩,(lq,mL.length,lc))):∀ W,(W.cell? ⟨mb,mo+i*8,none⟩=some (.string m1)/\W.cell? ⟨mb,mo+i*8+1,none⟩=some (.string m2)/\W.cell? ⟨mb,mo+i*8+2,none⟩=some (.string m3)/\W.cell? ⟨mb,mo+i*8+3,none⟩=some (.string m4)/\W.cell? ⟨mb,mo+i*8+4,none⟩=some (.int .i64 m5)/\W.cell? ⟨mb,mo+i*8+5,none⟩=some (.int .i64 m6)/\W.cell? ⟨mb,mo+i*8+6,none⟩=some (.bool m7)/\W.cell? ⟨mb,mo+i*8+7,none⟩=some (.slice lq mL.length lc)/\Below w.heap.size w W)->Hid (Mid Ak w.heap.size B h ab mv nv w20.heap.size W a a)->Calls Tryz.prog 19 #[.agg #[.string m1,.string m2,.string m3,.string m4,.int .i64 m5,.int .i64 m6,.bool m7,.slice lq mL.length lc]] W fun e w'=>∃ q d,e=.returned (.agg #[.string m1,.string m2,.string m3,.string m4,.int .i64 m5,.int .i64 m6,.bool m7,.slice q mL.length d])/\Hid (HasL w' (⟨m1,m2,m3,m4,m5,m6,m7,mL⟩,(q,mL.length,d))/\Mid Ak w.heap.size B h ab mv nv w20.heap.size w' a a)/\(w'.cell? ⟨mb,mo+i*8,none⟩=some (.string m1)/\w'.cell? ⟨mb,mo+i*8+1,none⟩=some (.string m2)/\w'.cell? ⟨mb,mo+i*8+2,none⟩=some (.string m3)/\w'.cell? ⟨mb,mo+i*8+3,none⟩=some (.string m4)/\w'.cell? ⟨mb,mo+i*8+4,none⟩=some (.int .i64 m5)/\w'.cell? ⟨mb,mo+i*8+5,none⟩=some (.int .i64 m6)/\w'.cell? ⟨mb,mo+i*8+6,none⟩=some (.bool m7)/\w'.cell? ⟨mb,mo+i*8+7,none⟩=some (.slice lq mL.length lc)/\Below w.heap.size w w'):=by
 intro W hW hm
 refine(wireOf_any ⟨m1,m2,m3,m4,m5,m6,m7,mL⟩ lq lc W (by show mL.length<=2932031007317;omega) (hx.below hW.2.2.2.2.2.2.2.2).recs hx.empty).mono fun e w' hq=>?_
 obtain⟨⟨lv,e1,e2⟩,e3⟩:=hq
 obtain⟨q,d,f1,f2,f3,f4,_⟩:=e2.form
 subst f1
 exact⟨q,d,e1,⟨⟨rfl,f2,f3,f4⟩,hm.out.below hO e3⟩,hSC w' (hW.2.2.2.2.2.2.2.2.trans (e3.mono hW.2.2.2.2.2.2.2.2.size))⟩
theorem rnd_hear {w w20:World}{B h ab i:Nat}{mv nv:Value}{a:MAsk}{mb mo:Nat}{m1 m2 m3 m4:ByteArray}{m5 m6:Int}{m7:Bool}{mL:List Ver}{lq:Option Addr}{lc:Nat}(hO:AskOk ad X Ak)(hSC:∀ W,Below w.heap.size w W->(W.cell? ⟨mb,mo+i*8,none⟩=some (.string m1)/\W.cell? ⟨mb,mo+i*8+1,none⟩=some (.string m2)/\W.cell? ⟨mb,mo+i*8+2,none⟩=some (.string m3)/\W.cell? ⟨mb,mo+i*8+3,none⟩=some (.string m4)/\W.cell? ⟨mb,mo+i*8+4,none⟩=some (.int .i64 m5)/\W.cell? ⟨mb,mo+i*8+5,none⟩=some (.int .i64 m6)/\W.cell? ⟨mb,mo+i*8+6,none⟩=some (.bool m7)/\W.cell? ⟨mb,mo+i*8+7,none⟩=some (.slice lq mL.length lc)/\Below w.heap.size w W))(hG:∀ V:World,w.heap.size<=V.heap.size->(∀ k,k < w.heap.size->V.heap[k]?=w.heap[k]?)->ErrsQ V ad/\X V)(hsm:a.small ⟨m1,m2,m3,m4,m5,m6,m7,mL⟩)(hv:∀ v ∈ mL,VerI64 v):∀ W q d,(W.cell? ⟨mb,mo+i*8,none⟩=some (.string m1)/\W.cell? ⟨mb,mo+i*8+1,none⟩=some (.string m2)/\W.cell? ⟨mb,mo+i*8+2,none⟩=some (.string m3)/\W.cell? ⟨mb,mo+i*8+3,none⟩=some (.string m4)/\W.cell? ⟨mb,mo+i*8+4,none⟩=some (.int .i64 m5)/\W.cell? ⟨mb,mo+i*8+5,none⟩=some (.int .i64 m6)/\W.cell? ⟨mb,mo+i*8+6,none⟩=some (.bool m7)/\W.cell? ⟨mb,mo+i*8+7,none⟩=some (.slice lq mL.length lc)/\Below w.heap.size w W)->Hid (HasL W (⟨m1,m2,m3,m4,m5,m6,m7,mL⟩,(q,mL.length,d))/\Mid Ak w.heap.size B h ab mv nv w20.heap.size W a a)->Calls Tryz.prog 18 #[.pointer (some ⟨h,0,none⟩),.agg #[.string m1,.string m2,.string m3,.string m4,.int .i64 m5,.int .i64 m6,.bool m7,.slice q mL.length d]] W fun e w'=>∃ p' c',e=.returned (.slice p' (a.hear ⟨m1,m2,m3,m4,m5,m6,m7,mL⟩).2.length c')/\Hid (MsgsN w20.heap.size w' p' (a.hear ⟨m1,m2,m3,m4,m5,m6,m7,mL⟩).2/\Mid Ak w.heap.size B h ab mv nv w20.heap.size w' a (a.hear ⟨m1,m2,m3,m4,m5,m6,m7,mL⟩).1)/\(w'.cell? ⟨mb,mo+i*8,none⟩=some (.string m1)/\w'.cell? ⟨mb,mo+i*8+1,none⟩=some (.string m2)/\w'.cell? ⟨mb,mo+i*8+2,none⟩=some (.string m3)/\w'.cell? ⟨mb,mo+i*8+3,none⟩=some (.string m4)/\w'.cell? ⟨mb,mo+i*8+4,none⟩=some (.int .i64 m5)/\w'.cell? ⟨mb,mo+i*8+5,none⟩=some (.int .i64 m6)/\w'.cell? ⟨mb,mo+i*8+6,none⟩=some (.bool m7)/\w'.cell? ⟨mb,mo+i*8+7,none⟩=some (.slice lq mL.length lc)/\Below w.heap.size w w'):=by
 intro W q d hW hm
 refine(mid_hear hO hG rfl hW.2.2.2.2.2.2.2.2 (⟨m1,m2,m3,m4,m5,m6,m7,mL⟩,(q,mL.length,d)) hm.out.1 hsm hv hm.out.2).mono fun e w' hq=>?_
 obtain⟨p',c',e1,e2,e3,e4⟩:=hq
 exact⟨p',c',e1,⟨e2,e3⟩,hSC w' e4⟩
theorem rnd_back {w w20:World}{B h ab i:Nat}{mv nv:Value}{a r1:MAsk}{r2:List Msg}{mb mo:Nat}{m1 m2 m3 m4:ByteArray}{m5 m6:Int}{m7:Bool}{mL:List Ver}{lq:Option Addr}{lc:Nat}(hO:AskOk ad X Ak)(hSC:∀ W,Below w.heap.size w W->(W.cell? ⟨mb,mo+i*8,none⟩=some (.string m1)/\W.cell? ⟨mb,mo+i*8+1,none⟩=some (.string m2)/\W.cell? ⟨mb,mo+i*8+2,none⟩=some (.string m3)/\W.cell? ⟨mb,mo+i*8+3,none⟩=some (.string m4)/\W.cell? ⟨mb,mo+i*8+4,none⟩=some (.int .i64 m5)/\W.cell? ⟨mb,mo+i*8+5,none⟩=some (.int .i64 m6)/\W.cell? ⟨mb,mo+i*8+6,none⟩=some (.bool m7)/\W.cell? ⟨mb,mo+i*8+7,none⟩=some (.slice lq mL.length lc)/\Below w.heap.size w W))(hs:r2.length<=1000):∀ W p' c',(W.cell? ⟨mb,mo+i*8,none⟩=some (.string m1)/\W.cell? ⟨mb,mo+i*8+1,none⟩=some (.string m2)/\W.cell? ⟨mb,mo+i*8+2,none⟩=some (.string m3)/\W.cell? ⟨mb,mo+i*8+3,none⟩=some (.string m4)/\W.cell? ⟨mb,mo+i*8+4,none⟩=some (.int .i64 m5)/\W.cell? ⟨mb,mo+i*8+5,none⟩=some (.int .i64 m6)/\W.cell? ⟨mb,mo+i*8+6,none⟩=some (.bool m7)/\W.cell? ⟨mb,mo+i*8+7,none⟩=some (.slice lq mL.length lc)/\Below w.heap.size w W)->Hid (MsgsN w20.heap.size W p' r2/\Mid Ak w.heap.size B h ab mv nv w20.heap.size W a r1)->Calls Tryz.prog 15 #[.slice p' r2.length c'] W fun e w'=>∃ q' d',e=.returned (.slice q' r2.length d')/\Hid (MsgsN w20.heap.size w' q' r2/\Mid Ak w.heap.size B h ab mv nv w20.heap.size w' a r1)/\(w'.cell? ⟨mb,mo+i*8,none⟩=some (.string m1)/\w'.cell? ⟨mb,mo+i*8+1,none⟩=some (.string m2)/\w'.cell? ⟨mb,mo+i*8+2,none⟩=some (.string m3)/\w'.cell? ⟨mb,mo+i*8+3,none⟩=some (.string m4)/\w'.cell? ⟨mb,mo+i*8+4,none⟩=some (.int .i64 m5)/\w'.cell? ⟨mb,mo+i*8+5,none⟩=some (.int .i64 m6)/\w'.cell? ⟨mb,mo+i*8+6,none⟩=some (.bool m7)/\w'.cell? ⟨mb,mo+i*8+7,none⟩=some (.slice lq mL.length lc)/\Below w.heap.size w w'):=by
 intro W p' c' hW hm
 refine(backWires_any w20.heap.size p' r2 c' W hs (by obtain⟨_,_,_,_,_,_,_,_,_,_,_,g⟩:=hm.out.2;exact g) hm.out.1).mono fun e w' hq=>?_
 obtain⟨⟨q',d',e1,e2⟩,e3⟩:=hq
 exact⟨q',d',e1,⟨e2,hm.out.2.below hO e3⟩,hSC w' (hW.2.2.2.2.2.2.2.2.trans (e3.mono hW.2.2.2.2.2.2.2.2.size))⟩
theorem rnd_rhear {w w20:World}{B h ab i:Nat}{mv nv:Value}{a:MAsk}{mb mo:Nat}{m1 m2 m3 m4:ByteArray}{m5 m6:Int}{m7:Bool}{mL:List Ver}{lq:Option Addr}{lc:Nat}(hO:AskOk ad X Ak)(hSC:∀ W,Below w.heap.size w W->(W.cell? ⟨mb,mo+i*8,none⟩=some (.string m1)/\W.cell? ⟨mb,mo+i*8+1,none⟩=some (.string m2)/\W.cell? ⟨mb,mo+i*8+2,none⟩=some (.string m3)/\W.cell? ⟨mb,mo+i*8+3,none⟩=some (.string m4)/\W.cell? ⟨mb,mo+i*8+4,none⟩=some (.int .i64 m5)/\W.cell? ⟨mb,mo+i*8+5,none⟩=some (.int .i64 m6)/\W.cell? ⟨mb,mo+i*8+6,none⟩=some (.bool m7)/\W.cell? ⟨mb,mo+i*8+7,none⟩=some (.slice lq mL.length lc)/\Below w.heap.size w W))(hA:AFine a)(hsm:a.small ⟨m1,m2,m3,m4,m5,m6,m7,mL⟩)(hx:HasL w (⟨m1,m2,m3,m4,m5,m6,m7,mL⟩,(lq,mL.length,lc))):∀ W p',(W.cell? ⟨mb,mo+i*8,none⟩=some (.string m1)/\W.cell? ⟨mb,mo+i*8+1,none⟩=some (.string m2)/\W.cell? ⟨mb,mo+i*8+2,none⟩=some (.string m3)/\W.cell? ⟨mb,mo+i*8+3,none⟩=some (.string m4)/\W.cell? ⟨mb,mo+i*8+4,none⟩=some (.int .i64 m5)/\W.cell? ⟨mb,mo+i*8+5,none⟩=some (.int .i64 m6)/\W.cell? ⟨mb,mo+i*8+6,none⟩=some (.bool m7)/\W.cell? ⟨mb,mo+i*8+7,none⟩=some (.slice lq mL.length lc)/\Below w.heap.size w W)->Hid (MsgsN w20.heap.size W p' (a.hear ⟨m1,m2,m3,m4,m5,m6,m7,mL⟩).2/\Mid Ak w.heap.size B h ab mv nv w20.heap.size W a (a.hear ⟨m1,m2,m3,m4,m5,m6,m7,mL⟩).1)->Calls Tryz.prog 20 #[.pointer (some ⟨ab,0,none⟩),.agg #[.string m1,.string m2,.string m3,.string m4,.int .i64 m5,.int .i64 m6,.bool m7,.slice lq mL.length lc]] W fun e w'=>∃ q' d',e=.returned (.slice q' (a.hear ⟨m1,m2,m3,m4,m5,m6,m7,mL⟩).2.length d')/\Hid ((MsgsAt w' q' (a.hear ⟨m1,m2,m3,m4,m5,m6,m7,mL⟩).2/\MsgsAt w' p' (a.hear ⟨m1,m2,m3,m4,m5,m6,m7,mL⟩).2)/\Mid Ak w.heap.size B h ab mv nv w'.heap.size w' (a.hear ⟨m1,m2,m3,m4,m5,m6,m7,mL⟩).1 (a.hear ⟨m1,m2,m3,m4,m5,m6,m7,mL⟩).1)/\(w'.cell? ⟨mb,mo+i*8,none⟩=some (.string m1)/\w'.cell? ⟨mb,mo+i*8+1,none⟩=some (.string m2)/\w'.cell? ⟨mb,mo+i*8+2,none⟩=some (.string m3)/\w'.cell? ⟨mb,mo+i*8+3,none⟩=some (.string m4)/\w'.cell? ⟨mb,mo+i*8+4,none⟩=some (.int .i64 m5)/\w'.cell? ⟨mb,mo+i*8+5,none⟩=some (.int .i64 m6)/\w'.cell? ⟨mb,mo+i*8+6,none⟩=some (.bool m7)/\w'.cell? ⟨mb,mo+i*8+7,none⟩=some (.slice lq mL.length lc)/\Below w.heap.size w w'):=by
 intro W p' hW hm
 refine(mid_rhear hO rfl hW.2.2.2.2.2.2.2.2 (⟨m1,m2,m3,m4,m5,m6,m7,mL⟩,(lq,mL.length,lc)) hA hx hsm hm.out.1 hm.out.2).mono fun e w' hq=>?_
 obtain⟨q',d',e1,e2,e3,e4⟩:=hq
 exact⟨q',d',e1,⟨e2,e3⟩,hSC w' e4⟩
theorem rnd_same {w:World}{B h ab i:Nat}{mv nv:Value}{r1:MAsk}{r2:List Msg}{mb mo:Nat}{m1 m2 m3 m4:ByteArray}{m5 m6:Int}{m7:Bool}{mL:List Ver}{lq:Option Addr}{lc:Nat}(hO:AskOk ad X Ak)(hSC:∀ W,Below w.heap.size w W->(W.cell? ⟨mb,mo+i*8,none⟩=some (.string m1)/\W.cell? ⟨mb,mo+i*8+1,none⟩=some (.string m2)/\W.cell? ⟨mb,mo+i*8+2,none⟩=some (.string m3)/\W.cell? ⟨mb,mo+i*8+3,none⟩=some (.string m4)/\W.cell? ⟨mb,mo+i*8+4,none⟩=some (.int .i64 m5)/\W.cell? ⟨mb,mo+i*8+5,none⟩=some (.int .i64 m6)/\W.cell? ⟨mb,mo+i*8+6,none⟩=some (.bool m7)/\W.cell? ⟨mb,mo+i*8+7,none⟩=some (.slice lq mL.length lc)/\Below w.heap.size w W))(hs:r2.length<=1000)(hl:∀ m ∈ r2,m.L.length<=1000000):∀ W p' q' c' d',(W.cell? ⟨mb,mo+i*8,none⟩=some (.string m1)/\W.cell? ⟨mb,mo+i*8+1,none⟩=some (.string m2)/\W.cell? ⟨mb,mo+i*8+2,none⟩=some (.string m3)/\W.cell? ⟨mb,mo+i*8+3,none⟩=some (.string m4)/\W.cell? ⟨mb,mo+i*8+4,none⟩=some (.int .i64 m5)/\W.cell? ⟨mb,mo+i*8+5,none⟩=some (.int .i64 m6)/\W.cell? ⟨mb,mo+i*8+6,none⟩=some (.bool m7)/\W.cell? ⟨mb,mo+i*8+7,none⟩=some (.slice lq mL.length lc)/\Below w.heap.size w W)->Hid ((MsgsAt W q' r2/\MsgsAt W p' r2)/\Mid Ak w.heap.size B h ab mv nv W.heap.size W r1 r1)->Calls Tryz.prog 14 #[.slice p' r2.length c',.slice q' r2.length d'] W fun e w'=>e=.returned (.bool true)/\Hid (Mid Ak w.heap.size B h ab mv nv w'.heap.size w' r1 r1)/\(w'.cell? ⟨mb,mo+i*8,none⟩=some (.string m1)/\w'.cell? ⟨mb,mo+i*8+1,none⟩=some (.string m2)/\w'.cell? ⟨mb,mo+i*8+2,none⟩=some (.string m3)/\w'.cell? ⟨mb,mo+i*8+3,none⟩=some (.string m4)/\w'.cell? ⟨mb,mo+i*8+4,none⟩=some (.int .i64 m5)/\w'.cell? ⟨mb,mo+i*8+5,none⟩=some (.int .i64 m6)/\w'.cell? ⟨mb,mo+i*8+6,none⟩=some (.bool m7)/\w'.cell? ⟨mb,mo+i*8+7,none⟩=some (.slice lq mL.length lc)/\Below w.heap.size w w')/\w'.cell? ⟨ab,13,none⟩=some (.string r1.st.word):=by
 intro W p' q' c' d' hW hm
 refine(sameMsgs_yes p' q' r2 c' d' W hs hl hm.out.1.2 hm.out.1.1).mono fun e w' hq=>?_
 have hm':=(hm.out.2.below hO hq.2).up
 exact⟨hq.1,hm',hSC w' (hW.2.2.2.2.2.2.2.2.trans (hq.2.mono hW.2.2.2.2.2.2.2.2.size)),hm'.cell13.1⟩
theorem rnd_state {w:World}{B h ab i:Nat}{mv nv:Value}{r1:MAsk}{mb mo:Nat}{m1 m2 m3 m4:ByteArray}{m5 m6:Int}{m7:Bool}{mL:List Ver}{lq:Option Addr}{lc:Nat}(hO:AskOk ad X Ak)(hSC:∀ W,Below w.heap.size w W->(W.cell? ⟨mb,mo+i*8,none⟩=some (.string m1)/\W.cell? ⟨mb,mo+i*8+1,none⟩=some (.string m2)/\W.cell? ⟨mb,mo+i*8+2,none⟩=some (.string m3)/\W.cell? ⟨mb,mo+i*8+3,none⟩=some (.string m4)/\W.cell? ⟨mb,mo+i*8+4,none⟩=some (.int .i64 m5)/\W.cell? ⟨mb,mo+i*8+5,none⟩=some (.int .i64 m6)/\W.cell? ⟨mb,mo+i*8+6,none⟩=some (.bool m7)/\W.cell? ⟨mb,mo+i*8+7,none⟩=some (.slice lq mL.length lc)/\Below w.heap.size w W)):∀ W,(W.cell? ⟨mb,mo+i*8,none⟩=some (.string m1)/\W.cell? ⟨mb,mo+i*8+1,none⟩=some (.string m2)/\W.cell? ⟨mb,mo+i*8+2,none⟩=some (.string m3)/\W.cell? ⟨mb,mo+i*8+3,none⟩=some (.string m4)/\W.cell? ⟨mb,mo+i*8+4,none⟩=some (.int .i64 m5)/\W.cell? ⟨mb,mo+i*8+5,none⟩=some (.int .i64 m6)/\W.cell? ⟨mb,mo+i*8+6,none⟩=some (.bool m7)/\W.cell? ⟨mb,mo+i*8+7,none⟩=some (.slice lq mL.length lc)/\Below w.heap.size w W)->Hid (Mid Ak w.heap.size B h ab mv nv W.heap.size W r1 r1)->Calls Tryz.prog 21 #[.pointer (some ⟨h,0,none⟩)] W fun e w'=>e=.returned (.string r1.st.word)/\Hid (Mid Ak w.heap.size B h ab mv nv w'.heap.size w' r1 r1)/\(w'.cell? ⟨mb,mo+i*8,none⟩=some (.string m1)/\w'.cell? ⟨mb,mo+i*8+1,none⟩=some (.string m2)/\w'.cell? ⟨mb,mo+i*8+2,none⟩=some (.string m3)/\w'.cell? ⟨mb,mo+i*8+3,none⟩=some (.string m4)/\w'.cell? ⟨mb,mo+i*8+4,none⟩=some (.int .i64 m5)/\w'.cell? ⟨mb,mo+i*8+5,none⟩=some (.int .i64 m6)/\w'.cell? ⟨mb,mo+i*8+6,none⟩=some (.bool m7)/\w'.cell? ⟨mb,mo+i*8+7,none⟩=some (.slice lq mL.length lc)/\Below w.heap.size w w')/\w'.cell? ⟨ab,13,none⟩=some (.string r1.st.word):=by
 intro W hW hm
 obtain⟨S,S',fv,lv,vs,g1,_⟩:=id hm.out
 refine(hO.state g1).mono fun e w' hq=>?_
 have hm':=(hm.out.below hO hq.2).up
 exact⟨hq.1,hm',hSC w' (hW.2.2.2.2.2.2.2.2.trans (hq.2.mono hW.2.2.2.2.2.2.2.2.size)),hm'.cell13.1⟩
theorem rnd_ans1 {w:World}{B h ab:Nat}{mv nv:Value}{r1:MAsk}(hO:AskOk ad X Ak)(hc:(r1.st=.done/\r1.found=true)):∀ W,Below w.heap.size w W->Mid Ak w.heap.size B h ab mv nv W.heap.size W r1 r1->Calls Tryz.prog 22 #[.pointer (some ⟨h,0,none⟩)] W fun e w'=>e=.returned (.tuple #[.agg #[.int .i64 r1.tag.1,.int .i64 r1.tag.2],.string r1.text,.bool true])/\(w'.cell? ⟨ab,13,none⟩=some (.string r1.st.word)/\w'.cell? ⟨ab,19,none⟩=some (.bool r1.found)/\w'.cell? ⟨ab,16,none⟩=some (.int .i64 r1.tag.1)/\w'.cell? ⟨ab,17,none⟩=some (.int .i64 r1.tag.2)/\w'.cell? ⟨ab,18,none⟩=some (.string r1.text))/\Mid Ak w.heap.size B h ab mv nv w'.heap.size w' r1 r1/\Below w.heap.size w w':=by
 intro W hW hm
 obtain⟨S,S',fv,lv,vs,g1,_⟩:=id hm
 refine(hO.answer g1).mono fun e w' hq=>?_
 have hm':=(hm.below hO hq.2).up
 refine⟨?_,hm'.cell13,hm',hW.trans (hq.2.mono hW.size)⟩
 rw [hq.1,if_pos hc]
theorem rnd_ans0 {w:World}{B h ab:Nat}{mv nv:Value}{r1:MAsk}(hO:AskOk ad X Ak)(hc:¬ (r1.st=.done/\r1.found=true)):∀ W,Below w.heap.size w W->Mid Ak w.heap.size B h ab mv nv W.heap.size W r1 r1->Calls Tryz.prog 22 #[.pointer (some ⟨h,0,none⟩)] W fun e w'=>e=.returned (.tuple #[.agg #[.int .i64 0,.int .i64 0],.string ⟨#[]⟩,.bool false])/\(w'.cell? ⟨ab,13,none⟩=some (.string r1.st.word)/\w'.cell? ⟨ab,19,none⟩=some (.bool r1.found)/\w'.cell? ⟨ab,16,none⟩=some (.int .i64 r1.tag.1)/\w'.cell? ⟨ab,17,none⟩=some (.int .i64 r1.tag.2)/\w'.cell? ⟨ab,18,none⟩=some (.string r1.text))/\Mid Ak w.heap.size B h ab mv nv w'.heap.size w' r1 r1/\Below w.heap.size w w':=by
 intro W hW hm
 obtain⟨S,S',fv,lv,vs,g1,_⟩:=id hm
 refine(hO.answer g1).mono fun e w' hq=>?_
 have hm':=(hm.below hO hq.2).up
 refine⟨?_,hm'.cell13,hm',hW.trans (hq.2.mono hW.size)⟩
 rw [hq.1,if_neg hc]
theorem word_done {s:St}:s.word=⟨#[100,111,110,101]⟩↔s=.done:=by cases s <;> simp [St.word] <;> decide
theorem word_ndone {s:St}(h:s≠.done):¬ s.word.toList=[100,111,110,101]:=by cases s <;> first | exact absurd rfl h | decide +kernel
theorem rnd_all {w w20:World}{B h ab i:Nat}{mv nv:Value}{a:MAsk}{l:List Msg}{lp:Option Addr}(hO:AskOk ad X Ak)(hF:∀ (w:World) (B h:Nat) (S:Nat->Prop) (a:MAsk),Ak w B h S a->AFine a)(hG:∀ V:World,w.heap.size<=V.heap.size->(∀ k,k < w.heap.size->V.heap[k]?=w.heap[k]?)->ErrsQ V ad/\X V)(hms:MsgsAt w lp l)(hVI:∀ m ∈ l,∀ v ∈ m.L,VerI64 v)(hfit:weighM l < 6000)(hil:i < l.length)(hA:AFine a)(hbk:bulkV a.L.flatten<=weighM (l.take i)):∃ (mb mo:Nat) (m1 m2 m3 m4:ByteArray) (m5 m6:Int) (m7:Bool) (mL:List Ver) (lq:Option Addr) (lc:Nat) (r1:MAsk) (r2:List Msg) (rl:Nat) (sw:ByteArray) (fd:Bool) (t1 t2:Int) (tx:ByteArray),lp=some ⟨mb,mo,none⟩/\Hid (∀ W,Below w.heap.size w W->(W.cell? ⟨mb,mo+i*8,none⟩=some (.string m1)/\W.cell? ⟨mb,mo+i*8+1,none⟩=some (.string m2)/\W.cell? ⟨mb,mo+i*8+2,none⟩=some (.string m3)/\W.cell? ⟨mb,mo+i*8+3,none⟩=some (.string m4)/\W.cell? ⟨mb,mo+i*8+4,none⟩=some (.int .i64 m5)/\W.cell? ⟨mb,mo+i*8+5,none⟩=some (.int .i64 m6)/\W.cell? ⟨mb,mo+i*8+6,none⟩=some (.bool m7)/\W.cell? ⟨mb,mo+i*8+7,none⟩=some (.slice lq mL.length lc)/\Below w.heap.size w W))/\Hid (∀ W,(W.cell? ⟨mb,mo+i*8,none⟩=some (.string m1)/\W.cell? ⟨mb,mo+i*8+1,none⟩=some (.string m2)/\W.cell? ⟨mb,mo+i*8+2,none⟩=some (.string m3)/\W.cell? ⟨mb,mo+i*8+3,none⟩=some (.string m4)/\W.cell? ⟨mb,mo+i*8+4,none⟩=some (.int .i64 m5)/\W.cell? ⟨mb,mo+i*8+5,none⟩=some (.int .i64 m6)/\W.cell? ⟨mb,mo+i*8+6,none⟩=some (.bool m7)/\W.cell? ⟨mb,mo+i*8+7,none⟩=some (.slice lq mL.length lc)/\Below w.heap.size w W)->Hid (Mid Ak w.heap.size B h ab mv nv w20.heap.size W a a)->Calls Tryz.prog 19 #[.agg #[.string m1,.string m2,.string m3,.string m4,.int .i64 m5,.int .i64 m6,.bool m7,.slice lq mL.length lc]] W fun e w'=>∃ q d,e=.returned (.agg #[.string m1,.string m2,.string m3,.string m4,.int .i64 m5,.int .i64 m6,.bool m7,.slice q mL.length d])/\Hid (HasL w' (⟨m1,m2,m3,m4,m5,m6,m7,mL⟩,(q,mL.length,d))/\Mid Ak w.heap.size B h ab mv nv w20.heap.size w' a a)/\(w'.cell? ⟨mb,mo+i*8,none⟩=some (.string m1)/\w'.cell? ⟨mb,mo+i*8+1,none⟩=some (.string m2)/\w'.cell? ⟨mb,mo+i*8+2,none⟩=some (.string m3)/\w'.cell? ⟨mb,mo+i*8+3,none⟩=some (.string m4)/\w'.cell? ⟨mb,mo+i*8+4,none⟩=some (.int .i64 m5)/\w'.cell? ⟨mb,mo+i*8+5,none⟩=some (.int .i64 m6)/\w'.cell? ⟨mb,mo+i*8+6,none⟩=some (.bool m7)/\w'.cell? ⟨mb,mo+i*8+7,none⟩=some (.slice lq mL.length lc)/\Below w.heap.size w w'))/\Hid (∀ W q d,(W.cell? ⟨mb,mo+i*8,none⟩=some (.string m1)/\W.cell? ⟨mb,mo+i*8+1,none⟩=some (.string m2)/\W.cell? ⟨mb,mo+i*8+2,none⟩=some (.string m3)/\W.cell? ⟨mb,mo+i*8+3,none⟩=some (.string m4)/\W.cell? ⟨mb,mo+i*8+4,none⟩=some (.int .i64 m5)/\W.cell? ⟨mb,mo+i*8+5,none⟩=some (.int .i64 m6)/\W.cell? ⟨mb,mo+i*8+6,none⟩=some (.bool m7)/\W.cell? ⟨mb,mo+i*8+7,none⟩=some (.slice lq mL.length lc)/\Below w.heap.size w W)->Hid (HasL W (⟨m1,m2,m3,m4,m5,m6,m7,mL⟩,(q,mL.length,d))/\Mid Ak w.heap.size B h ab mv nv w20.heap.size W a a)->Calls Tryz.prog 18 #[.pointer (some ⟨h,0,none⟩),.agg #[.string m1,.string m2,.string m3,.string m4,.int .i64 m5,.int .i64 m6,.bool m7,.slice q mL.length d]] W fun e w'=>∃ p' c',e=.returned (.slice p' rl c')/\Hid (MsgsN w20.heap.size w' p' r2/\Mid Ak w.heap.size B h ab mv nv w20.heap.size w' a r1)/\(w'.cell? ⟨mb,mo+i*8,none⟩=some (.string m1)/\w'.cell? ⟨mb,mo+i*8+1,none⟩=some (.string m2)/\w'.cell? ⟨mb,mo+i*8+2,none⟩=some (.string m3)/\w'.cell? ⟨mb,mo+i*8+3,none⟩=some (.string m4)/\w'.cell? ⟨mb,mo+i*8+4,none⟩=some (.int .i64 m5)/\w'.cell? ⟨mb,mo+i*8+5,none⟩=some (.int .i64 m6)/\w'.cell? ⟨mb,mo+i*8+6,none⟩=some (.bool m7)/\w'.cell? ⟨mb,mo+i*8+7,none⟩=some (.slice lq mL.length lc)/\Below w.heap.size w w'))/\Hid (∀ W p' c',(W.cell? ⟨mb,mo+i*8,none⟩=some (.string m1)/\W.cell? ⟨mb,mo+i*8+1,none⟩=some (.string m2)/\W.cell? ⟨mb,mo+i*8+2,none⟩=some (.string m3)/\W.cell? ⟨mb,mo+i*8+3,none⟩=some (.string m4)/\W.cell? ⟨mb,mo+i*8+4,none⟩=some (.int .i64 m5)/\W.cell? ⟨mb,mo+i*8+5,none⟩=some (.int .i64 m6)/\W.cell? ⟨mb,mo+i*8+6,none⟩=some (.bool m7)/\W.cell? ⟨mb,mo+i*8+7,none⟩=some (.slice lq mL.length lc)/\Below w.heap.size w W)->Hid (MsgsN w20.heap.size W p' r2/\Mid Ak w.heap.size B h ab mv nv w20.heap.size W a r1)->Calls Tryz.prog 15 #[.slice p' rl c'] W fun e w'=>∃ q' d',e=.returned (.slice q' rl d')/\Hid (MsgsN w20.heap.size w' q' r2/\Mid Ak w.heap.size B h ab mv nv w20.heap.size w' a r1)/\(w'.cell? ⟨mb,mo+i*8,none⟩=some (.string m1)/\w'.cell? ⟨mb,mo+i*8+1,none⟩=some (.string m2)/\w'.cell? ⟨mb,mo+i*8+2,none⟩=some (.string m3)/\w'.cell? ⟨mb,mo+i*8+3,none⟩=some (.string m4)/\w'.cell? ⟨mb,mo+i*8+4,none⟩=some (.int .i64 m5)/\w'.cell? ⟨mb,mo+i*8+5,none⟩=some (.int .i64 m6)/\w'.cell? ⟨mb,mo+i*8+6,none⟩=some (.bool m7)/\w'.cell? ⟨mb,mo+i*8+7,none⟩=some (.slice lq mL.length lc)/\Below w.heap.size w w'))/\Hid (∀ W p',(W.cell? ⟨mb,mo+i*8,none⟩=some (.string m1)/\W.cell? ⟨mb,mo+i*8+1,none⟩=some (.string m2)/\W.cell? ⟨mb,mo+i*8+2,none⟩=some (.string m3)/\W.cell? ⟨mb,mo+i*8+3,none⟩=some (.string m4)/\W.cell? ⟨mb,mo+i*8+4,none⟩=some (.int .i64 m5)/\W.cell? ⟨mb,mo+i*8+5,none⟩=some (.int .i64 m6)/\W.cell? ⟨mb,mo+i*8+6,none⟩=some (.bool m7)/\W.cell? ⟨mb,mo+i*8+7,none⟩=some (.slice lq mL.length lc)/\Below w.heap.size w W)->Hid (MsgsN w20.heap.size W p' r2/\Mid Ak w.heap.size B h ab mv nv w20.heap.size W a r1)->Calls Tryz.prog 20 #[.pointer (some ⟨ab,0,none⟩),.agg #[.string m1,.string m2,.string m3,.string m4,.int .i64 m5,.int .i64 m6,.bool m7,.slice lq mL.length lc]] W fun e w'=>∃ q' d',e=.returned (.slice q' rl d')/\Hid ((MsgsAt w' q' r2/\MsgsAt w' p' r2)/\Mid Ak w.heap.size B h ab mv nv w'.heap.size w' r1 r1)/\(w'.cell? ⟨mb,mo+i*8,none⟩=some (.string m1)/\w'.cell? ⟨mb,mo+i*8+1,none⟩=some (.string m2)/\w'.cell? ⟨mb,mo+i*8+2,none⟩=some (.string m3)/\w'.cell? ⟨mb,mo+i*8+3,none⟩=some (.string m4)/\w'.cell? ⟨mb,mo+i*8+4,none⟩=some (.int .i64 m5)/\w'.cell? ⟨mb,mo+i*8+5,none⟩=some (.int .i64 m6)/\w'.cell? ⟨mb,mo+i*8+6,none⟩=some (.bool m7)/\w'.cell? ⟨mb,mo+i*8+7,none⟩=some (.slice lq mL.length lc)/\Below w.heap.size w w'))/\Hid (∀ W p' q' c' d',(W.cell? ⟨mb,mo+i*8,none⟩=some (.string m1)/\W.cell? ⟨mb,mo+i*8+1,none⟩=some (.string m2)/\W.cell? ⟨mb,mo+i*8+2,none⟩=some (.string m3)/\W.cell? ⟨mb,mo+i*8+3,none⟩=some (.string m4)/\W.cell? ⟨mb,mo+i*8+4,none⟩=some (.int .i64 m5)/\W.cell? ⟨mb,mo+i*8+5,none⟩=some (.int .i64 m6)/\W.cell? ⟨mb,mo+i*8+6,none⟩=some (.bool m7)/\W.cell? ⟨mb,mo+i*8+7,none⟩=some (.slice lq mL.length lc)/\Below w.heap.size w W)->Hid ((MsgsAt W q' r2/\MsgsAt W p' r2)/\Mid Ak w.heap.size B h ab mv nv W.heap.size W r1 r1)->Calls Tryz.prog 14 #[.slice p' rl c',.slice q' rl d'] W fun e w'=>e=.returned (.bool true)/\Hid (Mid Ak w.heap.size B h ab mv nv w'.heap.size w' r1 r1)/\(w'.cell? ⟨mb,mo+i*8,none⟩=some (.string m1)/\w'.cell? ⟨mb,mo+i*8+1,none⟩=some (.string m2)/\w'.cell? ⟨mb,mo+i*8+2,none⟩=some (.string m3)/\w'.cell? ⟨mb,mo+i*8+3,none⟩=some (.string m4)/\w'.cell? ⟨mb,mo+i*8+4,none⟩=some (.int .i64 m5)/\w'.cell? ⟨mb,mo+i*8+5,none⟩=some (.int .i64 m6)/\w'.cell? ⟨mb,mo+i*8+6,none⟩=some (.bool m7)/\w'.cell? ⟨mb,mo+i*8+7,none⟩=some (.slice lq mL.length lc)/\Below w.heap.size w w')/\w'.cell? ⟨ab,13,none⟩=some (.string sw))/\Hid (∀ W,(W.cell? ⟨mb,mo+i*8,none⟩=some (.string m1)/\W.cell? ⟨mb,mo+i*8+1,none⟩=some (.string m2)/\W.cell? ⟨mb,mo+i*8+2,none⟩=some (.string m3)/\W.cell? ⟨mb,mo+i*8+3,none⟩=some (.string m4)/\W.cell? ⟨mb,mo+i*8+4,none⟩=some (.int .i64 m5)/\W.cell? ⟨mb,mo+i*8+5,none⟩=some (.int .i64 m6)/\W.cell? ⟨mb,mo+i*8+6,none⟩=some (.bool m7)/\W.cell? ⟨mb,mo+i*8+7,none⟩=some (.slice lq mL.length lc)/\Below w.heap.size w W)->Hid (Mid Ak w.heap.size B h ab mv nv W.heap.size W r1 r1)->Calls Tryz.prog 21 #[.pointer (some ⟨h,0,none⟩)] W fun e w'=>e=.returned (.string sw)/\Hid (Mid Ak w.heap.size B h ab mv nv w'.heap.size w' r1 r1)/\(w'.cell? ⟨mb,mo+i*8,none⟩=some (.string m1)/\w'.cell? ⟨mb,mo+i*8+1,none⟩=some (.string m2)/\w'.cell? ⟨mb,mo+i*8+2,none⟩=some (.string m3)/\w'.cell? ⟨mb,mo+i*8+3,none⟩=some (.string m4)/\w'.cell? ⟨mb,mo+i*8+4,none⟩=some (.int .i64 m5)/\w'.cell? ⟨mb,mo+i*8+5,none⟩=some (.int .i64 m6)/\w'.cell? ⟨mb,mo+i*8+6,none⟩=some (.bool m7)/\w'.cell? ⟨mb,mo+i*8+7,none⟩=some (.slice lq mL.length lc)/\Below w.heap.size w w')/\w'.cell? ⟨ab,13,none⟩=some (.string sw))/\((Hid (sw=⟨#[100,111,110,101]⟩/\fd=true)/\Hid (∀ W,Below w.heap.size w W->Mid Ak w.heap.size B h ab mv nv W.heap.size W r1 r1->Calls Tryz.prog 22 #[.pointer (some ⟨h,0,none⟩)] W fun e w'=>e=.returned (.tuple #[.agg #[.int .i64 t1,.int .i64 t2],.string tx,.bool true])/\(w'.cell? ⟨ab,13,none⟩=some (.string sw)/\w'.cell? ⟨ab,19,none⟩=some (.bool fd)/\w'.cell? ⟨ab,16,none⟩=some (.int .i64 t1)/\w'.cell? ⟨ab,17,none⟩=some (.int .i64 t2)/\w'.cell? ⟨ab,18,none⟩=some (.string tx))/\Mid Ak w.heap.size B h ab mv nv w'.heap.size w' r1 r1/\Below w.heap.size w w'))∨(Hid (¬ sw.toList=[100,111,110,101]∨fd=false)/\Hid (∀ W,Below w.heap.size w W->Mid Ak w.heap.size B h ab mv nv W.heap.size W r1 r1->Calls Tryz.prog 22 #[.pointer (some ⟨h,0,none⟩)] W fun e w'=>e=.returned (.tuple #[.agg #[.int .i64 0,.int .i64 0],.string ⟨#[]⟩,.bool false])/\(w'.cell? ⟨ab,13,none⟩=some (.string sw)/\w'.cell? ⟨ab,19,none⟩=some (.bool fd)/\w'.cell? ⟨ab,16,none⟩=some (.int .i64 t1)/\w'.cell? ⟨ab,17,none⟩=some (.int .i64 t2)/\w'.cell? ⟨ab,18,none⟩=some (.string tx))/\Mid Ak w.heap.size B h ab mv nv w'.heap.size w' r1 r1/\Below w.heap.size w w')))/\Hid (∀ W,Mid Ak w.heap.size B h ab mv nv W.heap.size W r1 r1->AFine r1)/\Hid (bulkV r1.L.flatten<=weighM (l.take (i+1))):=by
 obtain⟨ml,hml,hmr,hmh⟩:=hms
 have hix:i < ml.length:=by rw [<- List.length_map (f:=Prod.fst),hml];exact hil
 obtain⟨mb,mo,hmp,hmlt,t0,t1,t2,t3,t4,t5,t6,t7⟩:=msg_cells hmr hix
 have hxl:l[i]?=some (msgAt ml i).1:=by rw [<- hml,List.getElem?_map,List.getElem?_eq_getElem hix,msgAt_get hix];rfl
 have hxv:=hVI _ (List.mem_of_getElem? hxl)
 have hxh:=hmh _ (msgAt_mem hix)
 rw [msgAt_get hix] at t0 t1 t2 t3 t4 t5 t6 t7
 have hwt:=weighM_take hxl
 have hwl:=weighM_take_le l (i+1)
 have hhb:=hear_bulk a (msgAt ml i).1
 generalize msgAt ml i=x at *
 obtain⟨⟨m1,m2,m3,m4,m5,m6,m7,mL⟩,lq,ln,lc⟩:=x
 have hln:ln=mL.length:=hxh.len
 subst hln
 dsimp only at *
 have hsm:a.small ⟨m1,m2,m3,m4,m5,m6,m7,mL⟩:=by unfold MAsk.small;omega
 have hNB:bulkV (a.hear ⟨m1,m2,m3,m4,m5,m6,m7,mL⟩).1.L.flatten<=weighM (l.take (i+1)):=by omega
 have hmL:mL.length<=150:=(bulk_from hsm).2.1
 have hSC:∀ W,Below w.heap.size w W->(W.cell? ⟨mb,mo+i*8,none⟩=some (.string m1)/\W.cell? ⟨mb,mo+i*8+1,none⟩=some (.string m2)/\W.cell? ⟨mb,mo+i*8+2,none⟩=some (.string m3)/\W.cell? ⟨mb,mo+i*8+3,none⟩=some (.string m4)/\W.cell? ⟨mb,mo+i*8+4,none⟩=some (.int .i64 m5)/\W.cell? ⟨mb,mo+i*8+5,none⟩=some (.int .i64 m6)/\W.cell? ⟨mb,mo+i*8+6,none⟩=some (.bool m7)/\W.cell? ⟨mb,mo+i*8+7,none⟩=some (.slice lq mL.length lc)/\Below w.heap.size w W):=fun W hW=>⟨(hW.cell (p:=⟨mb,mo+i*8,none⟩) hmlt).trans t0,(hW.cell (p:=⟨mb,mo+i*8+1,none⟩) hmlt).trans t1,(hW.cell (p:=⟨mb,mo+i*8+2,none⟩) hmlt).trans t2,(hW.cell (p:=⟨mb,mo+i*8+3,none⟩) hmlt).trans t3,(hW.cell (p:=⟨mb,mo+i*8+4,none⟩) hmlt).trans t4,(hW.cell (p:=⟨mb,mo+i*8+5,none⟩) hmlt).trans t5,(hW.cell (p:=⟨mb,mo+i*8+6,none⟩) hmlt).trans t6,(hW.cell (p:=⟨mb,mo+i*8+7,none⟩) hmlt).trans t7,hW⟩
 have hsh:=hear_short ⟨m1,m2,m3,m4,m5,m6,m7,mL⟩ hA
 refine⟨mb,mo,m1,m2,m3,m4,m5,m6,m7,mL,lq,lc,(a.hear ⟨m1,m2,m3,m4,m5,m6,m7,mL⟩).1,(a.hear ⟨m1,m2,m3,m4,m5,m6,m7,mL⟩).2,_,_,(a.hear ⟨m1,m2,m3,m4,m5,m6,m7,mL⟩).1.found,(a.hear ⟨m1,m2,m3,m4,m5,m6,m7,mL⟩).1.tag.1,(a.hear ⟨m1,m2,m3,m4,m5,m6,m7,mL⟩).1.tag.2,(a.hear ⟨m1,m2,m3,m4,m5,m6,m7,mL⟩).1.text,hmp,hSC,rnd_wire hO hSC hmL hxh,rnd_hear hO hSC hG hsm hxv,rnd_back hO hSC hsh.1,rnd_rhear hO hSC hA hsm hxh,rnd_same hO hSC hsh.1 hsh.2,rnd_state hO hSC,?_,fun W hm=>?_,hNB⟩
 ·by_cases hc:(a.hear ⟨m1,m2,m3,m4,m5,m6,m7,mL⟩).1.st=.done/\(a.hear ⟨m1,m2,m3,m4,m5,m6,m7,mL⟩).1.found=true
  ·exact Or.inl ⟨⟨word_done.2 hc.1,hc.2⟩,rnd_ans1 hO hc⟩
  ·refine Or.inr ⟨?_,rnd_ans0 hO hc⟩
   by_cases h1:(a.hear ⟨m1,m2,m3,m4,m5,m6,m7,mL⟩).1.st=.done
   ·exact Or.inr (by simpa [h1] using hc)
   ·exact Or.inl (word_ndone h1)
 ·obtain⟨S,S',fv,lv,vs,g1,_⟩:=hm
  exact hF _ _ _ _ _ g1
end Go.Proofs.YtmhoiodfppdlnaaGreatDoor
