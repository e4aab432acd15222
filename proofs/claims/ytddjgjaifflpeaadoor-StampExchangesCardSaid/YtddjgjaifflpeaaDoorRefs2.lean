/- The document's own offsets and delays. -/
import Derived.Test.YtddjgjaifflpeaaDoorRefs
namespace Go.Proofs.YtddjgjaifflpeaaDoor
open Go.RowKit
set_option linter.unusedVariables false
set_option maxRecDepth 100000

theorem rhalf_any (x y : Int) (hx : -9223372036854775808 ≤ x ∧ x < 9223372036854775808) (hy : -9223372036854775808 ≤ y ∧ y < 9223372036854775808) (w : World) : Calls Tryd.prog 36 #[.int .i64 x, .int .i64 y] w fun e w' => e = .returned (.int .i64 ((x + y) / 2)) ∧ w = w' := by
  have dx := fun w => rdown_any x hx w
  have dy := fun w => rdown_any y hy w
  obtain ⟨q, hq⟩ : ∃ q, x / 2 = q := ⟨_, rfl⟩
  obtain ⟨r, hr⟩ : ∃ r, y / 2 = r := ⟨_, rfl⟩
  obtain ⟨u, hu⟩ : ∃ u, x - 2 * q = u := ⟨_, rfl⟩
  obtain ⟨v, hv⟩ : ∃ v, y - 2 * r = v := ⟨_, rfl⟩
  have bu : 0 ≤ u ∧ u ≤ 1 := by omega
  have bv : 0 ≤ v ∧ v ≤ 1 := by omega
  have bq : -4611686018427387904 ≤ q ∧ q < 4611686018427387904 := by omega
  have br : -4611686018427387904 ≤ r ∧ r < 4611686018427387904 := by omega
  have hE : Hid ((x + y) / 2 = q + r + (u + v) / 2) := Lib.hid (by omega)
  have bE : Hid (wrap64 (q + r + (u + v) / 2) = q + r + (u + v) / 2) := Lib.hid (by unfold wrap64; omega)
  rw [hq] at dx
  rw [hr] at dy
  have DX := Lib.hid dx
  have DY := Lib.hid dy
  clear hq hr dx dy
  go_enter Tryd.func36, Tryd.ntmps36
  go_wp2_with fail
  refine (DX.out _).mono ?_
  rintro e w' ⟨rfl, rfl⟩
  go_wp2_with fail
  refine (DY.out _).mono ?_
  rintro e w' ⟨rfl, rfl⟩
  go_wp2_with fail
  go_ret
  refine ⟨?_, rfl⟩
  rw [hE.out]
  first | rfl | (rw [← bE.out]; rfl)
theorem roffset_any (a b c d : Int) (ha : 0 ≤ a ∧ a < 18446744073709551616) (hb : 0 ≤ b ∧ b < 18446744073709551616) (hc : 0 ≤ c ∧ c < 18446744073709551616) (hd : 0 ≤ d ∧ d < 18446744073709551616) (w : World) :
    Calls Tryd.prog 22 #[.int .u64 a, .int .u64 b, .int .u64 c, .int .u64 d] w fun e w' => e = .returned (.int .i64 ((df b a + df c d) / 2)) ∧ w = w' := by
  have H := Lib.hid (fun w => rhalf_any (df b a) (df c d) (df_bounds b a) (df_bounds c d) w)
  have D1 := Lib.hid (fun w => rdiff_any b a hb ha w)
  have D2 := Lib.hid (fun w => rdiff_any c d hc hd w)
  go_enter Tryd.func22, Tryd.ntmps22
  go_wp2_with fail
  refine (D1.out _).mono ?_
  rintro e w' ⟨rfl, rfl⟩
  go_wp2_with fail
  refine (D2.out _).mono ?_
  rintro e w' ⟨rfl, rfl⟩
  go_wp2_with fail
  refine (H.out _).mono ?_
  rintro e w' ⟨rfl, rfl⟩
  go_wp2_with fail
  go_ret
  exact ⟨rfl, rfl⟩
theorem rdelay_any (a b c d : Int) (ha : 0 ≤ a ∧ a < 18446744073709551616) (hb : 0 ≤ b ∧ b < 18446744073709551616) (hc : 0 ≤ c ∧ c < 18446744073709551616) (hd : 0 ≤ d ∧ d < 18446744073709551616) (w : World) :
    Calls Tryd.prog 24 #[.int .u64 a, .int .u64 b, .int .u64 c, .int .u64 d] w fun e w' => e = .returned (.int .i64 (max (-9223372036854775808) (min 9223372036854775807 (df d a - df c b)))) ∧ w = w' := by
  have D1 := fun w => rdiff_any d a hd ha w
  have D2 := fun w => rdiff_any c b hc hb w
  have b1 := df_bounds d a
  have b2 := df_bounds c b
  generalize df d a = x at *
  generalize df c b = y at *
  have dx := fun w => rdown_any x b1 w
  have dy := fun w => rdown_any y b2 w
  obtain ⟨q, hq⟩ : ∃ q, x / 2 = q := ⟨_, rfl⟩
  obtain ⟨r, hr⟩ : ∃ r, y / 2 = r := ⟨_, rfl⟩
  obtain ⟨u, hu⟩ : ∃ u, x - 2 * q = u := ⟨_, rfl⟩
  obtain ⟨v, hv⟩ : ∃ v, y - 2 * r = v := ⟨_, rfl⟩
  have bu : 0 ≤ u ∧ u ≤ 1 := by omega
  have bv : 0 ≤ v ∧ v ≤ 1 := by omega
  have bq : -4611686018427387904 ≤ q ∧ q < 4611686018427387904 := by omega
  have br : -4611686018427387904 ≤ r ∧ r < 4611686018427387904 := by omega
  have hE : Hid (x - y = 2 * (q - r) + (u - v)) := Lib.hid (by omega)
  rw [hq] at dx
  rw [hr] at dy
  have DX := Lib.hid dx
  have DY := Lib.hid dy
  have E1 := Lib.hid D1
  have E2 := Lib.hid D2
  clear hq hr dx dy D1 D2
  go_enter Tryd.func24, Tryd.ntmps24
  go_wp2_with fail
  refine (E1.out _).mono ?_
  rintro e w' ⟨rfl, rfl⟩
  go_wp2_with fail
  refine (E2.out _).mono ?_
  rintro e w' ⟨rfl, rfl⟩
  go_wp2_with fail
  refine (DX.out _).mono ?_
  rintro e w' ⟨rfl, rfl⟩
  go_wp2_with fail
  refine (DY.out _).mono ?_
  rintro e w' ⟨rfl, rfl⟩
  by_cases c1 : 4611686018427387904 ≤ q - r
  · go_wp2_with fail
    go_ret
    refine ⟨?_, rfl⟩
    rw [hE.out]
    show Ending.returned (Value.int IntKind.i64 _) = Ending.returned (Value.int IntKind.i64 _)
    congr 2
    omega
  · go_wp2_with fail
    refine (DX.out _).mono ?_
    rintro e w' ⟨rfl, rfl⟩
    go_wp2_with fail
    refine (DY.out _).mono ?_
    rintro e w' ⟨rfl, rfl⟩
    go_wp2_with fail
    all_goals (go_ret; refine ⟨?_, rfl⟩; rw [hE.out]; show Ending.returned (Value.int IntKind.i64 _) = Ending.returned (Value.int IntKind.i64 _); congr 2; first | omega | (simp at *; omega))
end Go.Proofs.YtddjgjaifflpeaaDoor
