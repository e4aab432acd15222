/- nat.Of and nat.Write. -/
import Derived.Test.YthipdagebijbiaaGreatDoorSmall
namespace Go.Proofs.YthipdagebijbiaaGreatDoor
set_option linter.unusedSimpArgs false
set_option linter.unusedVariables false
open Go.RowKit

theorem of_any (n : Nat) (x : Int) (hx : x = (n : Int)) (hn : n < 18446744073709551616) (w : World) : Calls Tryz.prog 25 #[.int .u64 x] w (Ret n w) := by
  subst hx
  have how : Ow (w.alloc (.cells #[.int .u64 (n : Int)] 47)) w.heap.size [n] := heap_alloc_new w _
  have hb : Below w.heap.size w (w.alloc (.cells #[.int .u64 (n : Int)] 47)) := (Below.refl _ _).alloc (Nat.le_refl _) _
  have Hcut := Lib.hid (cut_res how (Nat.le_refl _) hb (by unfold maxLen; simp) (Lim.one hn) rfl (val_one _ n))
  go_enter Tryz.func25, Tryz.ntmps25
  go_wp2_with (go_at_call 49; refine Hcut.out.mono ?_; rintro e w' ⟨A', n', c', xs', rfl, hres⟩)
  go_ret
  exact ⟨_, _, _, _, rfl, hres⟩

end Go.Proofs.YthipdagebijbiaaGreatDoor
