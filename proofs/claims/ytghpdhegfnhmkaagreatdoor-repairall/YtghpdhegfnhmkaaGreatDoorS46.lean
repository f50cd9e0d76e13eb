import Derived.Test.YtghpdhegfnhmkaaGreatDoorS44
import Derived.Test.YtghpdhegfnhmkaaGreatDoorS45
import Derived.Test.YtghpdhegfnhmkaaGreatDoorS42
import Derived.Test.YtghpdhegfnhmkaaGreatDoorS6
import Derived.Test.YtghpdhegfnhmkaaGreatDoorS10
import Derived.Test.YtghpdhegfnhmkaaGreatDoorS2
import Derived.Test.YtghpdhegfnhmkaaGreatDoorS5
namespace Go.Proofs.YtghpdhegfnhmkaaGreatDoor
open Go.RowKit
theorem OwnR.atBlock {α:Type} {E:Enc α} {T:TypeId} {w:World} {B n c:Nat} {p:Option Addr} {l:List α} (h:OwnR E T w B (.slice p n c) l):Rec E w p l/\∀ b o,p=some ⟨b,o,none⟩->(Value.slice p n c).ownBlock=some b:=by
 obtain ⟨q,d,hv,hr,_⟩:=h.form
 obtain ⟨rfl,_,_⟩:=Value.slice.inj hv
 refine ⟨hr,fun b o e=>?_⟩
 rcases h.2 with ⟨h1,_⟩ | ⟨g,cap,cur,h1,_⟩
 ·obtain ⟨h2,_,_⟩:=Value.slice.inj h1
  rw [h2] at e;cases e
 ·obtain ⟨h2,_,_⟩:=Value.slice.inj h1
  rw [h2] at e ⊢
  obtain ⟨rfl,rfl⟩:g=b/\0=o:=by simpa using e
  rfl
section
variable {wB W W':World} {Ks Ka Kb:List (Option (List Kep))} {hp hm:Nat->Nat} {O:Nat->Option Nat} {pa pb:Option Addr} {ca cb:Nat}
theorem Sent.herrsR {w:World} {ad:Nat->Addr} (h:Sent w ad):HErrs w ad:=⟨h.c1,h.c3,h.c5,h.c6,h.c9⟩
end
end Go.Proofs.YtghpdhegfnhmkaaGreatDoor
