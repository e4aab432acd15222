/- nat.Of and nat.Write. -/
import Derived.Test.YtkhlmcknbangfaaDoorSmall
namespace Go.Proofs.YtkhlmcknbangfaaDoor
set_option linter.unusedSimpArgs false
set_option linter.unusedVariables false
open Go.RowKit

theorem of_any (n : Nat) (x : Int) (hx : x = (n : Int)) (hn : n < 18446744073709551616) (w : World) : Calls Tryd.prog 9 #[.int .u64 x] w (Ret n w) := by
  subst hx
  have how : Ow (w.alloc (.cells #[.int .u64 (n : Int)] 30)) w.heap.size [n] := heap_alloc_new w _
  have hb : Below w.heap.size w (w.alloc (.cells #[.int .u64 (n : Int)] 30)) := (Below.refl _ _).alloc (Nat.le_refl _) _
  have Hcut := Lib.hid (cut_res how (Nat.le_refl _) hb (by unfold maxLen; simp) (Lim.one hn) rfl (val_one _ n))
  go_enter Tryd.func9, Tryd.ntmps9
  go_wp2_with (go_at_call 18; refine Hcut.out.mono ?_; rintro e w' ⟨A', n', c', xs', rfl, hres⟩)
  go_ret
  exact ⟨_, _, _, _, rfl, hres⟩

end Go.Proofs.YtkhlmcknbangfaaDoor
