/- The document's own Byte: a number's last byte as a text. -/
import Derived.Test.YteppmkpckdmnaaaDoorTxtB
import Derived.Test.YteppmkpckdmnaaaDoorStrB
import Derived.Below
import Derived.WalkSmall
namespace Go.Proofs.YteppmkpckdmnaaaDoor
open Go.RowKit
theorem strOf_append' (l m : List Nat) : strOf l ++ strOf m = strOf (l ++ m) := by
  unfold strOf strOfNums
  apply ByteArray.ext
  simp
set_option maxRecDepth 10000 in
theorem rbyte_any (n : Nat) (w : World) :
    Calls Tryd.prog 33 #[.int .i64 (n : Int)] w fun e w' => e = .returned (.string (strOf [n % 256])) ∧ Below w.heap.size w w' := by
  have hcv : Sem.run Tryd.prog (convert 52 9 (.slice (some ⟨w.heap.size, 0, none⟩) 1 1)) (w.alloc (.cells #[.int .u8 ((n : Int) % 256)] 5)) = .ok (.string (strOf [n % 256])) (w.alloc (.cells #[.int .u8 ((n : Int) % 256)] 5)) := by
    have hsg : Seg (w.alloc (.cells #[.int .u8 ((n : Int) % 256)] 5)) (some ⟨w.heap.size, 0, none⟩) [n % 256] := ⟨fun i => by
      match i with
      | 0 => show n % 256 < 256; omega
      | i + 1 => show (([n % 256] : List Nat).getD (i + 1) 0) < 256; simp, Or.inr ⟨w.heap.size, 0, rfl, by simp, fun i hi => by
      obtain rfl : i = 0 := by simpa using hi
      rw [World.cell?_alloc_at _ _ _ _ rfl]
      show some (Value.int .u8 ((n : Int) % 256)) = some (.int .u8 ((n % 256 : Nat) : Int))
      rw [Int.natCast_emod]
      rfl⟩⟩
    exact conv_seg hsg 1
  go_enter Tryd.func33, Tryd.ntmps33
  go_wp2
  go_ret
  exact ⟨rfl, (Below.refl _ _).alloc (Nat.le_refl _) _⟩
end Go.Proofs.YteppmkpckdmnaaaDoor
