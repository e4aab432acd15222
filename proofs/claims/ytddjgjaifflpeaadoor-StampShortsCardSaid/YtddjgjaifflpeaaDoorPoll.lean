/- Short times and intervals. -/
import Derived.Test.YtddjgjaifflpeaaDoorRefs
namespace Go.Proofs.YtddjgjaifflpeaaDoor
open Go.RowKit
set_option linter.unusedVariables false
set_option maxRecDepth 100000

theorem short_any (d : Int) (hd : -9223372036854775808 ≤ d ∧ d < 9223372036854775808) (w : World) : Calls Tryd.prog 27 #[.int .i64 d] w fun e w' => e = .returned (.int .u32 (min (max d 0 / 65536) 4294967295)) ∧ w = w' := by
  go_enter Tryd.func27, Tryd.ntmps27
  go_wp2
  all_goals (go_ret; refine ⟨?_, rfl⟩; show Ending.returned (Value.int IntKind.u32 _) = Ending.returned (Value.int IntKind.u32 _); congr 2; omega)
theorem rshort_any (d : Int) (hd : -9223372036854775808 ≤ d ∧ d < 9223372036854775808) (w : World) : Calls Tryd.prog 28 #[.int .i64 d] w fun e w' => e = .returned (.int .u32 (min (max d 0 / 65536) 4294967295)) ∧ w = w' := by
  go_enter Tryd.func28, Tryd.ntmps28
  go_wp2
  all_goals (go_ret; refine ⟨?_, rfl⟩; show Ending.returned (Value.int IntKind.u32 _) = Ending.returned (Value.int IntKind.u32 _); congr 2; omega)
theorem long_any (s : Int) (hs : 0 ≤ s ∧ s < 4294967296) (w : World) : Calls Tryd.prog 29 #[.int .u32 s] w fun e w' => e = .returned (.int .i64 (s * 65536)) ∧ w = w' := by
  go_enter Tryd.func29, Tryd.ntmps29
  go_wp2
  go_ret
  exact ⟨rfl, rfl⟩
theorem rlong_any (s : Int) (hs : 0 ≤ s ∧ s < 4294967296) (w : World) : Calls Tryd.prog 30 #[.int .u32 s] w fun e w' => e = .returned (.int .i64 (s * 65536)) ∧ w = w' := by
  go_enter Tryd.func30, Tryd.ntmps30
  go_wp2
  go_ret
  exact ⟨rfl, rfl⟩
theorem poll_out (p : Int) (h : p < 0 ∨ 17 < p) (w : World) : Calls Tryd.prog 25 #[.int .i64 p] w fun e w' => e = .returned (.tuple #[.int .i64 0, .int .i64 1]) ∧ w = w' := by
  by_cases h1 : p < 0
  · go_enter Tryd.func25, Tryd.ntmps25
    go_wp2
    go_ret2
    exact ⟨rfl, rfl⟩
  · have h2 : 17 < p := by omega
    go_enter Tryd.func25, Tryd.ntmps25
    go_wp2
    go_ret2
    exact ⟨rfl, rfl⟩
theorem rpoll_out (p : Int) (h : p < 0 ∨ 17 < p) (w : World) : Calls Tryd.prog 26 #[.int .i64 p] w fun e w' => e = .returned (.tuple #[.int .i64 0, .int .i64 1]) ∧ w = w' := by
  by_cases h1 : p < 0
  · go_enter Tryd.func26, Tryd.ntmps26
    go_wp2
    go_ret2
    exact ⟨rfl, rfl⟩
  · have h2 : 17 < p := by omega
    go_enter Tryd.func26, Tryd.ntmps26
    go_wp2
    go_ret2
    exact ⟨rfl, rfl⟩
theorem shl_in (p : Nat) (h : p ≤ 17) : wrap64 (2 ^ (32 + p)) = ((4294967296 * 2 ^ p : Nat) : Int) := by
  have : ∀ k : Fin 18, wrap64 ((2 : Int) ^ (32 + k.val)) = ((4294967296 * 2 ^ k.val : Nat) : Int) := by decide +kernel
  exact this ⟨p, by omega⟩
theorem poll_in (p : Nat) (h : p ≤ 17) (w : World) : Calls Tryd.prog 25 #[.int .i64 (p : Int)] w fun e w' => e = .returned (.tuple #[.int .i64 ((4294967296 * 2 ^ p : Nat) : Int), .int .i64 0]) ∧ w = w' := by
  have H := Lib.hid (shl_in p h)
  go_enter Tryd.func25, Tryd.ntmps25
  go_wp2
  go_ret2
  refine ⟨?_, rfl⟩
  rw [← H.out]
  rfl
theorem rpoll_in (p : Nat) (h : p ≤ 17) (w : World) : Calls Tryd.prog 26 #[.int .i64 (p : Int)] w fun e w' => e = .returned (.tuple #[.int .i64 ((4294967296 * 2 ^ p : Nat) : Int), .int .i64 0]) ∧ w = w' := by
  go_enter Tryd.func26, Tryd.ntmps26
  go_wp2
  go_loopw [5, 4] (fun i n wr => ∃ k : Nat, k ≤ p ∧ i = .int .i64 k ∧ n = .int .i64 ((4294967296 * 2 ^ k : Nat) : Int) ∧ wr = w) (fun i _ _ => p - (intOf i).toNat)
  case atStart => exact ⟨0, by omega, rfl, rfl, rfl⟩
  case round =>
    obtain ⟨k, hk, rfl, rfl, rfl⟩ := hrel
    by_cases hlt : k < p
    · have hb : 4294967296 * 2 ^ k ≤ 4294967296 * 2 ^ 16 := Nat.mul_le_mul_left _ (Nat.pow_le_pow_right (by omega) (by omega))
      have hs : 4294967296 * 2 ^ (k + 1) = 2 * (4294967296 * 2 ^ k) := by rw [Nat.pow_succ]; omega
      have Hs := Lib.hid hs
      clear hs
      generalize 4294967296 * 2 ^ k = m at *
      have hm : m ≤ 281474976710656 := hb
      clear hb
      go_wp2
      go_roundw
      case rel => exact ⟨k + 1, by omega, by go_num, by rw [Hs.out]; go_num, trivial⟩
      case measure => simp [intOf]; omega
    · have e : k = p := by omega
      obtain ⟨m, hm⟩ : ∃ m, 4294967296 * 2 ^ k = m := ⟨_, rfl⟩
      rw [hm]
      have HM : Hid (4294967296 * 2 ^ p = m) := Lib.hid (by rw [← e]; exact hm)
      have hge : p ≤ k := by omega
      clear hlt e hm
      go_wp2
      go_ret2
      refine ⟨?_, rfl⟩
      rw [HM.out]
      rfl
end Go.Proofs.YtddjgjaifflpeaaDoor
