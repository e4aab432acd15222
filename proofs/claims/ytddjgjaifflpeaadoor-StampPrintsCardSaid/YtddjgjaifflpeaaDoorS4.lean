/- the document's Print. -/
import Derived.Test.YtddjgjaifflpeaaDoorS3
namespace Go.Proofs.YtddjgjaifflpeaaDoor
open Go.RowKit
set_option linter.unusedVariables false
set_option linter.unusedSimpArgs false
set_option maxRecDepth 100000
theorem printed_len (t : Nat) (ht : t < 18446744073709551616) : (printed t).length ≤ 21 := by
  rw [printed_dec t ht, List.length_append, List.length_cons, fr_low 10 _ (by omega), length_low]
  have := dec_len 9 (t / 4294967296) (by omega)
  omega
set_option maxHeartbeats 2000000 in
theorem rprint_any (t : Nat) (ht : t < 18446744073709551616) (w : World) : Calls Tryd.prog 34 #[.int .u64 (t : Int)] w fun e w' => e = .returned (.string (bstr (printed t))) ∧ Below w.heap.size w w' := by
  have HD := Lib.hid (fun n (hn : n < 18446744073709551616) w => rdigits_any n hn w)
  have HL := Lib.hid (printed_len t ht)
  have HP := Lib.hid (printed_dec t ht)
  obtain ⟨S, hS⟩ : ∃ S, S = t / 4294967296 := ⟨_, rfl⟩
  obtain ⟨p0, hp0⟩ : ∃ p0, p0 = t % 4294967296 := ⟨_, rfl⟩
  have e1 : (t : Int) / 4294967296 = (S : Int) := by omega
  have e2 : (t : Int) % 4294967296 = (p0 : Int) := by omega
  have lS : S < 4294967296 := by omega
  have lp : p0 < 4294967296 := by omega
  rw [← hS, ← hp0] at HP
  obtain ⟨PT, hPT⟩ : ∃ PT, printed t = PT := ⟨_, rfl⟩
  rw [hPT] at HP HL
  rw [hPT]
  have hl0 := dec_len 9 S (by omega)
  have s1 : (bstr (dec S)).size + (⟨#[46]⟩ : ByteArray).size ≤ 9223372036854775807 := by
    rw [size_bstr]
    have : (⟨#[46]⟩ : ByteArray).size = 1 := rfl
    omega
  have ha : bstr (dec S) ++ (⟨#[46]⟩ : ByteArray) = bstr (dec S ++ [46]) := by rw [dot_bstr, bstr_append]
  have Ha := Lib.hid ha
  clear hS hp0 hPT ha hl0
  go_enter Tryd.func34, Tryd.ntmps34
  go_wp2_with fail
  refine (HD.out S (by omega) _).mono ?_
  rintro e w1 ⟨rfl, b1⟩
  have hs := run_string_add_sum (P := Tryd.prog) w1 (bstr (dec S)) ⟨#[46]⟩ s1
  generalize bstr (dec S) = B1 at *
  go_wp2_with fail
  rw [Ha.out]
  have E2z := Lib.hid e2
  clear e1 e2 hs s1
  go_loopw [3, 4, 5] (fun s l i wr => ∃ (k p : Nat) (X : List Nat), k ≤ 10 ∧ i = .int .i64 (k : Int) ∧ p < 4294967296 ∧ l = .int .u64 (p : Int) ∧ s = .string (bstr X) ∧ Hid (X ++ fr p (10 - k) = PT) ∧ Hid (Below w.heap.size w wr)) (fun _ _ i _ => 10 - (intOf i).toNat)
  case atStart => exact ⟨0, p0, dec S ++ [46], Nat.zero_le _, rfl, lp, by rw [E2z.out], rfl, Lib.hid (by rw [HP.out]; simp), Lib.hid b1⟩
  case round =>
    clear b1
    obtain ⟨k, p, X, hk, rfl, hp, rfl, rfl, HX, HB⟩ := hrel
    have hXl : X.length ≤ 21 := by
      have := congrArg List.length HX.out
      rw [List.length_append] at this
      have := HL.out
      omega
    by_cases hlt : k < 10
    · have hd : decide ((k : Int) < 10) = true := by simp; omega
      obtain ⟨q, hq⟩ : ∃ q, q = 10 * p / 4294967296 := ⟨_, rfl⟩
      obtain ⟨r, hr⟩ : ∃ r, r = 10 * p % 4294967296 := ⟨_, rfl⟩
      have e1 : 10 * (p : Int) / 4294967296 = (q : Int) := by omega
      have e2 : 10 * (p : Int) % 4294967296 = (r : Int) := by omega
      have lq : q < 10 := by omega
      have lr : r < 4294967296 := by omega
      have hX2 : (X ++ [48 + q]) ++ fr r (10 - (k + 1)) = PT := by
        have h := HX.out
        rw [show 10 - k = (10 - (k + 1)) + 1 by omega, fr, ← hq, ← hr] at h
        rw [List.append_assoc]
        exact h
      have HX2 := Lib.hid hX2
      have Hd := HD.out q (by omega)
      rw [dec_small lq] at Hd
      have HDq := Lib.hid Hd
      have s1 : (bstr X).size + (bstr [48 + q]).size ≤ 9223372036854775807 := by
        rw [size_bstr, size_bstr]
        simp; omega
      have ha : bstr X ++ bstr [48 + q] = bstr (X ++ [48 + q]) := bstr_append _ _
      have Ha := Lib.hid ha
      have E1 := Lib.hid e1
      have E2 := Lib.hid e2
      clear hX2 hq hr Hd ha e1 e2
      generalize bstr X = B1 at *
      generalize bstr [48 + q] = B2 at *
      go_wp2_with fail
      rw [E1.out]
      refine (HDq.out _).mono ?_
      rintro e w2 ⟨rfl, b2⟩
      have hs := run_string_add_sum (P := Tryd.prog) w2 B1 B2 s1
      have HB2 := Lib.hid (HB.out.trans (b2.mono HB.out.size))
      clear b2
      go_wp2_with fail
      rw [Ha.out, E2.out]
      go_roundw
      case rel => exact ⟨k + 1, r, X ++ [48 + q], hlt, by simp, lr, rfl, rfl, HX2, HB2⟩
      case measure => simp [intOf]; omega
    · have hd : ((k : Int) < 10) = False := by simp only [eq_iff_iff, iff_false]; omega
      obtain rfl : k = 10 := by omega
      have hX := HX.out
      rw [show fr p (10 - 10) = [] from rfl, List.append_nil] at hX
      subst hX
      clear hXl
      go_wp2_with fail
      go_ret
      exact ⟨rfl, HB.out⟩
end Go.Proofs.YtddjgjaifflpeaaDoor
