import Derived.Test.YtghpdhegfnhmkaaGreatDoorR7
import Derived.Test.YtghpdhegfnhmkaaGreatDoorR11
import Derived.Deep.RegionHeld3
namespace Go.Proofs.YtghpdhegfnhmkaaGreatDoor
open Go.RowKit
theorem kep_new (key:ByteArray) (v:Ver) (z1:World):∀ j u,(kepE.enc (key,v))[j]?=some u->(z1.alloc (.cells #[.string key,.int .i64 v.n,.int .i64 v.who,.int .i64 v.size,.int .i64 v.at_,.string v.text] 100)).cell? ⟨z1.heap.size,0+j,none⟩=some u:=fun j u hj=>by
 rw [Nat.zero_add,World.cell?_alloc_at _ _ _ _ rfl]
 match j,hj with
 | 0,hj=>exact hj
 | 1,hj=>exact hj
 | 2,hj=>exact hj
 | 3,hj=>exact hj
 | 4,hj=>exact hj
 | 5,hj=>exact hj
end Go.Proofs.YtghpdhegfnhmkaaGreatDoor
