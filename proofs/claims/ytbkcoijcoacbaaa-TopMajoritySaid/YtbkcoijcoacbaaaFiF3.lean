/- filter: whole roots; the reference's distance. -/
import Derived.Test.YtbkcoijcoacbaaaFiF2
namespace Go.Proofs.Ytbkcoijcoacbaaa.Fi
open Go.RowKit Go.Sort
set_option linter.unusedVariables false
set_option linter.unusedSimpArgs false
set_option maxRecDepth 100000

def isRoot (n r : Nat) : Prop := r * r ≤ n ∧ n < (r + 1) * (r + 1)
theorem isRoot.eq {n r s : Nat} (h : isRoot n r) (k : isRoot n s) : r = s := by
  obtain ⟨h1, h2⟩ := h
  obtain ⟨k1, k2⟩ := k
  rcases Nat.lt_trichotomy r s with h | h | h
  · have := Nat.mul_le_mul (show r + 1 ≤ s from h) (show r + 1 ≤ s from h); omega
  · exact h
  · have := Nat.mul_le_mul (show s + 1 ≤ r from h) (show s + 1 ≤ r from h); omega
theorem or_u64 {r d k : Nat} (hd : 2 ^ k = d) (hr : r % (2 * d) = 0) (hl : r + 2 * d ≤ 4294967296) : bits .or .u64 (r : Int) (d : Int) = ((r + d : Nat) : Int) := by
  have h : r ||| d = r + d := by
    have h1 := Nat.two_pow_add_eq_or_of_lt (i := k + 1) (b := d) (by rw [Nat.pow_succ]; have := Nat.two_pow_pos k; omega) (r / 2 ^ (k + 1))
    have h2 : 2 ^ (k + 1) * (r / 2 ^ (k + 1)) = r := by
      have e : 2 ^ (k + 1) = 2 * d := by rw [Nat.pow_succ]; omega
      rw [e]
      have := Nat.div_add_mod r (2 * d)
      omega
    rw [h2] at h1
    exact h1.symm
  rw [u64_or_nat r d (by omega) (by omega), h]
theorem root_step {n r d k : Nat} (hd : 2 ^ k = d) (hpos : 0 < d) (hm : r % (2 * d) = 0) (h2 : n < (r + 2 * d) * (r + 2 * d)) (h3 : r + 2 * d ≤ 4294967296) (h1 : r * r ≤ n) :
    (IntKind.u64.wrap (bits .or .u64 (r : Int) (d : Int) * bits .or .u64 (r : Int) (d : Int)) ≤ (n : Int) → (r + d) * (r + d) ≤ n) ∧ ((n : Int) < IntKind.u64.wrap (bits .or .u64 (r : Int) (d : Int) * bits .or .u64 (r : Int) (d : Int)) → n < (r + d) * (r + d)) := by
  rw [or_u64 hd hm h3]
  have hl : (r + d) * (r + d) ≤ 4294967295 * 4294967295 := Nat.mul_le_mul (by omega) (by omega)
  have e : IntKind.u64.wrap (((r + d : Nat) : Int) * ((r + d : Nat) : Int)) = (((r + d) * (r + d) : Nat) : Int) := by
    rw [IntKind.wrap_u64, ← Int.natCast_mul]
    exact Int.emod_eq_of_lt (by omega) (by omega)
  rw [e]
  exact ⟨fun h => by omega, fun h => by omega⟩
set_option maxHeartbeats 1000000 in
theorem root_any (n : Nat) (hn : n < 18446744073709551616) (w : World) :
    Calls Try.prog 23 #[.int .u64 (n : Int)] w fun e w' => (∃ r : Nat, e = .returned (.int .u64 (r : Int)) ∧ isRoot n r ∧ r < 4294967296) ∧ w' = w := by
  go_enter Try.func23, Try.ntmps23
  go_wp2_with fail
  go_loopw [4, 3] (fun d r wr => ∃ k r0 : Nat, k ≤ 32 ∧ d = .int .u64 ((2 ^ k / 2 : Nat) : Int) ∧ r = .int .u64 (r0 : Int) ∧ r0 % 2 ^ k = 0 ∧ r0 * r0 ≤ n ∧ n < (r0 + 2 ^ k) * (r0 + 2 ^ k) ∧ r0 + 2 ^ k ≤ 4294967296 ∧ wr = w) (fun d _ _ => (match d with | .int _ i => i.toNat | _ => 0))
  case atStart => exact ⟨32, 0, by omega, rfl, rfl, by omega, by omega, by omega, by omega, rfl⟩
  case round =>
    obtain ⟨k, r0, hk, rfl, rfl, hm, h1, h2, h3, rfl⟩ := hrel
    cases k with
    | zero =>
      rw [show (2 ^ 0 / 2 : Nat) = 0 by rfl]
      have HR := Lib.hid (show isRoot n r0 ∧ r0 < 4294967296 from ⟨⟨h1, by simpa using h2⟩, by omega⟩)
      clear h1 h2 h3 hm
      go_wp2_with fail
      go_ret
      exact ⟨⟨r0, rfl, HR.out⟩, rfl⟩
    | succ k =>
      rw [show (2 ^ (k + 1) / 2 : Nat) = 2 ^ k by rw [Nat.pow_succ]; omega]
      have hpos : 0 < 2 ^ k := Nat.two_pow_pos k
      rw [show 2 ^ (k + 1) = 2 * 2 ^ k by rw [Nat.pow_succ]; omega] at hm h2 h3
      obtain ⟨d, hd⟩ : ∃ d, 2 ^ k = d := ⟨_, rfl⟩
      rw [hd] at hm h2 h3 hpos ⊢
      have HS := Lib.hid (root_step hd hpos hm h2 h3 h1)
      have HO := Lib.hid (or_u64 hd hm h3)
      have HD := Lib.hid hd
      have H1 := Lib.hid h1
      have H2 := Lib.hid h2
      have HM := Lib.hid hm
      clear hd h1 h2 hm
      have hdz : (0 : Int) < (d : Int) := by omega
      go_wp2_with fail
      all_goals
        have hd := HD.out
        have hm := HM.out
        have h1 := H1.out
        have h2 := H2.out
        refine ⟨?_, by show ((d : Int) / 2).toNat < ((d : Int)).toNat; omega⟩
      · have hs := HS.out.1 (by assumption)
        refine ⟨k, r0 + d, by omega, by rw [hd]; congr 1, by rw [HO.out], ?_, hs, ?_, by omega, trivial⟩
        · rw [hd]
          have := Nat.div_add_mod r0 (2 * d)
          rw [hm] at this
          rw [show r0 = d * (2 * (r0 / (2 * d))) by rw [← Nat.mul_assoc, Nat.mul_comm d 2]; omega, Nat.add_mod, Nat.mul_mod_right, Nat.mod_self]
          rfl
        · rw [hd]; rw [show r0 + d + d = r0 + 2 * d by omega]; exact h2
      · have hs := HS.out.2 (by assumption)
        refine ⟨k, r0, by omega, by rw [hd]; congr 1, rfl, ?_, h1, by rw [hd]; exact hs, by omega, trivial⟩
        rw [hd]
        have := Nat.div_add_mod r0 (2 * d)
        rw [hm] at this
        rw [show r0 = d * (2 * (r0 / (2 * d))) by rw [← Nat.mul_assoc, Nat.mul_comm d 2]; omega, Nat.mul_mod_right]
end Go.Proofs.Ytbkcoijcoacbaaa.Fi
