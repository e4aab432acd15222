/- clepsydralaw04.alive: the fixed calls. -/
import Derived.Test.YtddjgjaifflpeaaDoorPrint
import Derived.Test.YtddjgjaifflpeaaDoorReckon
namespace Go.Proofs.YtddjgjaifflpeaaDoor
open Go.RowKit
set_option linter.unusedVariables false
set_option maxRecDepth 100000

def sLong : ByteArray := ⟨#[49, 46, 53, 48, 48, 48, 48, 48, 48, 48, 48, 48]⟩
def sShort : ByteArray := ⟨#[49, 46, 53]⟩
theorem parse_long (w : World) : Calls Tryd.prog 31 #[.string sLong] w fun e w' => e = .returned (.tuple #[.int .u64 ((6442450944 : Nat) : Int), .int .i64 0]) ∧ Below w.heap.size w w' :=
  parse_fit sLong (sLong.extract 0 1) (sLong.extract 2 sLong.size) 6442450944 (by decide +kernel) (by decide +kernel) (by decide +kernel) (scut_hit sLong 1 (by decide +kernel) (by decide +kernel) (by decide +kernel)) (by decide +kernel) w
theorem parse_short (w : World) : Calls Tryd.prog 31 #[.string sShort] w fun e w' => e = none_ ∧ Below w.heap.size w w' :=
  parse_unfit sShort (sShort.extract 0 1) (sShort.extract 2 sShort.size) (scut_hit sShort 1 (by decide +kernel) (by decide +kernel) (by decide +kernel)) (by decide +kernel) w
theorem print_long (w : World) : Calls Tryd.prog 33 #[.int .u64 ((6442450944 : Nat) : Int)] w fun e w' => e = .returned (.string sLong) ∧ Below w.heap.size w w' := by
  have h := print_any 6442450944 (by decide +kernel) w
  rwa [show bstr (printed 6442450944) = sLong by decide +kernel] at h
def Yes (w : World) (e : Ending) (w' : World) : Prop := e = .returned (.bool true) ∧ Below w.heap.size w w'
theorem alive_any (w : World) : Calls Tryd.prog 11 #[] w (Yes w) := by
  have o1 := Lib.hid (offset_any 0 7 7 4)
  have o2 := Lib.hid (delay_any 0 7 7 4)
  go_enter Tryd.func11, Tryd.ntmps11
  go_wp2_with fail
  refine (parse_long _).mono ?_
  rintro e w1 ⟨rfl, b1⟩
  go_wp2_with fail
  refine (parse_short _).mono ?_
  rintro e w2 ⟨he, b2⟩
  subst he
  have B2 := then_ b1 b2
  clear b1 b2
  unfold none_
  go_wp2_with fail
  refine (o1.out _).mono ?_
  rintro e w3 ⟨rfl, rfl⟩
  rw [show (df 7 0 + df 7 4) / 2 = 5 by decide]
  go_wp2_with fail
  refine (o2.out _).mono ?_
  rintro e w3 ⟨rfl, rfl⟩
  rw [show max (-9223372036854775808) (min 9223372036854775807 (df 4 0 - df 7 7)) = 4 by decide]
  go_wp2_with fail
  refine (print_long _).mono ?_
  rintro e w4 ⟨rfl, b4⟩
  have B4 := then_ B2 b4
  go_wp2_with fail
  go_ret
  refine ⟨?_, B4⟩
  show Ending.returned (Value.bool (sLong.toList == [49, 46, 53, 48, 48, 48, 48, 48, 48, 48, 48, 48])) = _
  rw [Lib.toList_data]
  rfl
end Go.Proofs.YtddjgjaifflpeaaDoor
