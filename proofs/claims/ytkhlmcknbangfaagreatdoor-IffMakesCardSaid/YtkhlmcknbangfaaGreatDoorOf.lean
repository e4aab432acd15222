/- nat.Of and nat.Write. -/
import Derived.Test.YtkhlmcknbangfaaGreatDoorSmall
namespace Go.Proofs.YtkhlmcknbangfaaGreatDoor
set_option linter.unusedSimpArgs false
set_option linter.unusedVariables false
open Go.RowKit
set_option linter.unusedVariables false

theorem of_any (n : Nat) (x : Int) (hx : x = (n : Int)) (hn : n < 18446744073709551616) (w : World) : Calls Tryz.prog 23 #[.int .u64 x] w (Ret n w) := by
  subst hx
  have how : Ow (w.alloc (.cells #[.int .u64 (n : Int)] 23)) w.heap.size [n] := heap_alloc_new w _
  have hb : Below w.heap.size w (w.alloc (.cells #[.int .u64 (n : Int)] 23)) := (Below.refl _ _).alloc (Nat.le_refl _) _
  have Hcut := Lib.hid (cut_res how (Nat.le_refl _) hb (by unfold maxLen; simp) (Lim.one hn) rfl (val_one _ n))
  go_enter Tryz.func23, Tryz.ntmps23
  go_wp2_with (go_at_call 82; refine Hcut.out.mono ?_; rintro e w' ⟨A', n', c', xs', rfl, hres⟩)
  go_ret
  exact ⟨_, _, _, _, rfl, hres⟩

end Go.Proofs.YtkhlmcknbangfaaGreatDoor
