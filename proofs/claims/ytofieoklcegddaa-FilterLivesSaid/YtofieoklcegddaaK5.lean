/- The reference's Jitter. -/
import Derived.Test.YtofieoklcegddaaK4
namespace Go.Proofs.Ytofieoklcegddaa
open Go.RowKit Go.Sort Go.Shelf Go.Lib
set_option linter.unusedVariables false
set_option linter.unusedSimpArgs false
set_option maxRecDepth 100000

theorem sqD_cases (a b e : Int) (he : e = a - b) : (e < 0 → -e ≤ 1073741824 → e * e = sqD a b) ∧ (0 ≤ e → e ≤ 1073741824 → e * e = sqD a b) ∧ (1073741824 < e → 1152921504606846976 = sqD a b) ∧ (1073741824 < -e → 1152921504606846976 = sqD a b) := by
  subst he
  unfold sqD clamp
  generalize a - b = e
  refine ⟨fun h1 h2 => ?_, fun h1 h2 => ?_, fun h1 => ?_, fun h1 => ?_⟩
  · rw [show max (-1073741824) (min e 1073741824) = e by omega]
  · rw [show max (-1073741824) (min e 1073741824) = e by omega]
  · rw [show max (-1073741824) (min e 1073741824) = 1073741824 by omega]; rfl
  · rw [show max (-1073741824) (min e 1073741824) = -1073741824 by omega]; rfl
theorem wr_u64i {n : Int} (h0 : 0 ≤ n) (h1 : n < 18446744073709551616) : IntKind.u64.wrap n = n := by rw [IntKind.wrap_u64]; omega
set_option maxHeartbeats 4000000 in
theorem rjitter_any {w : World} {p : Option Addr} {L : List S4} (now : Int) (h : Rf w p L) (hm : ∀ s ∈ L, s.may) :
    Calls Try.prog 27 #[.pointer p, .int .i64 now] w fun e w' => e = .returned (.int .i64 (jit (sorted now L))) ∧ RowKit.Below w.heap.size w w' := by
  have h8 : L.length ≤ 8 := by obtain ⟨_, _, _, _, _, _, _, h8⟩ := h; exact h8
  have HRo := Lib.hid (rrow_rf now h)
  obtain ⟨M, hM⟩ : ∃ M, M = sorted now L := ⟨_, rfl⟩
  have hsf := sorted_facts now L
  rw [← hM] at hsf HRo ⊢
  have hmm : ∀ s ∈ M, s.may := fun s hs => hm s (hsf.2.1.mem_iff.1 hs)
  have hln := hsf.1
  obtain ⟨n, hn⟩ : ∃ n, n = L.length := ⟨_, rfl⟩
  rw [← hn] at h8 hln HRo
  clear hn hsf hM h hm
  by_cases h2 : n < 2
  · have hj : jit M = 0 := by unfold jit; rw [if_pos (by omega)]
    rw [hj]
    have h2' : (n : Int) < 2 := by omega
    clear hj hmm
    go_enter Try.func27, Try.ntmps27
    go_wp2_with fail
    refine HRo.out.mono ?_
    rintro e w1 ⟨A, c, rfl, hr, hc, hb⟩
    have HB := Lib.hid hb
    clear hr hb
    go_wp2_with fail
    go_ret
    exact ⟨rfl, HB.out⟩
  · have h2' : ((n : Int) < 2) = False := by simp only [eq_iff_iff, iff_false]; omega
    obtain ⟨b, T, rfl⟩ : ∃ b T, M = b :: T := by
      cases M with
      | nil => simp at hln; omega
      | cons b T => exact ⟨b, T, rfl⟩
    have hT : T.length = n - 1 := by simp at hln; omega
    obtain ⟨m, hm⟩ : ∃ m, n = m + 1 := ⟨n - 1, by omega⟩
    subst hm
    rw [Nat.add_sub_cancel] at hT
    have hj : jit (b :: T) = ((rt ((jsum b T).toNat / m) : Nat) : Int) := by unfold jit; rw [if_neg (by omega), hln]; rfl
    have hjl := jsum_lim b T
    have hm7 : T.length ≤ 7 := by omega
    obtain ⟨v, hvv⟩ : ∃ v : Nat, (v : Int) = jsum b T := ⟨(jsum b T).toNat, by omega⟩
    have hv7 : v ≤ 7 * 1152921504606846976 := by omega
    rw [hj, ← hvv, Int.toNat_natCast]
    have HVV := Lib.hid hvv
    clear hj hln hvv hjl hm7
    have hbm := hmm b (by simp)
    have hbo : inB b.o := hbm.1
    unfold inB at hbo
    have HMM := Lib.hid hmm
    have HTl := Lib.hid hT
    clear hmm hT hbm
    go_enter Try.func27, Try.ntmps27
    go_wp2_with fail
    refine HRo.out.mono ?_
    rintro e w1 ⟨A, c, rfl, hr, hc, hb⟩
    have HB := Lib.hid hb
    have HR := Lib.hid hr
    obtain ⟨g, off, rfl, hg, hcl⟩ := hr.cells (by omega)
    have HC := Lib.hid hcl
    clear hr hb hcl
    go_wp2_with fail
    go_loopw [7, 6] (fun i v wr => ∃ j : Nat, j ≤ m ∧ i = .int .i64 ((j : Int) + 1) ∧ v = .int .u64 (jsum b (T.take j)) ∧ RowKit.Below w1.heap.size w1 wr) (fun i _ _ => (m + 1 - (match i with | .int _ z => z.toNat | _ => 0)))
    case atStart => exact ⟨0, by omega, rfl, rfl, Below.refl _ _⟩
    case round =>
      obtain ⟨j, hjm, rfl, rfl, hb⟩ := hrel
      have HBr := Lib.hid hb
      clear hb
      by_cases hj : j < m
      · have e1 : (j : Int) + 1 < (m : Int) + 1 := by omega
        obtain ⟨s, hs⟩ : ∃ s, T[j]? = some s := ⟨_, List.getElem?_eq_getElem (by have := HTl.out; omega)⟩
        obtain ⟨c0, c1, c2, c3⟩ := HC.out wr HBr.out (j + 1) s (by simpa using hs)
        have hso : inB s.o := (HMM.out s (by simp [List.mem_of_getElem? hs])).1
        unfold inB at hso
        have HJ := Lib.hid (jsum_next (b := b) hs)
        have hjl := jsum_lim b (T.take j)
        have hjl2 : jsum b (T.take j) ≤ 6 * 1152921504606846976 := by
          have : (T.take j).length ≤ 6 := by simp; omega
          omega
        have hql := sqD_lim s.o b.o
        obtain ⟨d0, d1, d2, d3⟩ := HC.out wr HBr.out 0 b rfl
        rw [Nat.zero_mul, Nat.add_zero] at d0 d1 d2 d3
        obtain ⟨e, he⟩ : ∃ e, e = s.o - b.o := ⟨_, rfl⟩
        have hsub : IntKind.i64.wrap (s.o - b.o) = e := by rw [he]; exact wr_i64 (by omega) (by omega)
        have hel : -2305843009213693952 ≤ e := by omega
        have heu : e ≤ 2305843009213693952 := by omega
        obtain ⟨q1, q2, q3, q4⟩ := sqD_cases s.o b.o e he
        have hadd : IntKind.u64.wrap (jsum b (T.take j) + sqD s.o b.o) = jsum b (T.take (j + 1)) := by rw [HJ.out]; exact wr_u64i (by omega) (by omega)
        obtain ⟨q, hq⟩ : ∃ q, q = sqD s.o b.o := ⟨_, rfl⟩
        rw [← hq] at q1 q2 q3 q4 hadd hql
        obtain ⟨v', hv'⟩ : ∃ v', v' = jsum b (T.take (j + 1)) := ⟨_, rfl⟩
        rw [← hv'] at hadd
        have HV' := Lib.hid hv'
        have HQ := Lib.hid (show (e < 0 → -e ≤ 1073741824 → e * e = q) ∧ (0 ≤ e → e ≤ 1073741824 → e * e = q) ∧ (1073741824 < e → 1152921504606846976 = q) ∧ (1073741824 < -e → 1152921504606846976 = q) from ⟨q1, q2, q3, q4⟩)
        clear hs he q1 q2 q3 q4 hq hv' hjl hjl2 HJ
        generalize jsum b (T.take j) = v0 at *
        have fin : ∀ (w5 : World), RowKit.Below w1.heap.size w1 w5 → (∃ j : Nat, j ≤ m ∧ Value.int .i64 ((j : Int) + 1) = .int .i64 ((j : Int) + 1) ∧ RowKit.Below w1.heap.size w1 w5) := fun w5 h => ⟨j, by omega, rfl, h⟩
        clear fin
        by_cases h1 : e < 0
        · by_cases h2 : 1073741824 < -e
          · have hq := HQ.out.2.2.2 h2
            subst hq
            go_upto_region 8 with fail
            go_quiet (fail)
            go_wp2_with fail
            exact ⟨⟨j + 1, by omega, rfl, by rw [← HV'.out, ← hadd], ⟨HBr.out.os, HBr.out.tape, HBr.out.output, HBr.out.size, HBr.out.block⟩⟩, by show m + 1 - ((j : Int) + 1 + 1).toNat < m + 1 - ((j : Int) + 1).toNat; omega⟩
          · have h2' : (1073741824 < -e) = False := by simp only [h2]
            have h2i : -e ≤ 1073741824 := by omega
            have hq := HQ.out.1 h1 h2i
            have hmul : IntKind.u64.wrap (e * e) = q := by rw [hq]; exact wr_u64i (by omega) (by omega)
            have hmul2 : IntKind.u64.wrap (-e * -e) = q := by rw [Int.neg_mul_neg]; exact hmul
            have hcv : IntKind.u64.wrap (-e) = -e := wr_u64i (by omega) (by omega)
            clear hq
            go_upto_region 8 with fail
            go_quiet (fail)
            go_wp2_with fail
            exact ⟨⟨j + 1, by omega, rfl, by rw [← HV'.out, ← hadd], ⟨HBr.out.os, HBr.out.tape, HBr.out.output, HBr.out.size, HBr.out.block⟩⟩, by show m + 1 - ((j : Int) + 1 + 1).toNat < m + 1 - ((j : Int) + 1).toNat; omega⟩
        · have h1' : (e < 0) = False := by simp only [h1]
          have h1i : 0 ≤ e := by omega
          by_cases h2 : 1073741824 < e
          · have hq := HQ.out.2.2.1 h2
            subst hq
            go_upto_region 8 with fail
            go_quiet (fail)
            go_wp2_with fail
            exact ⟨⟨j + 1, by omega, rfl, by rw [← HV'.out, ← hadd], ⟨HBr.out.os, HBr.out.tape, HBr.out.output, HBr.out.size, HBr.out.block⟩⟩, by show m + 1 - ((j : Int) + 1 + 1).toNat < m + 1 - ((j : Int) + 1).toNat; omega⟩
          · have h2' : (1073741824 < e) = False := by simp only [h2]
            have h2i : e ≤ 1073741824 := by omega
            have hq := HQ.out.2.1 h1i h2i
            have hmul : IntKind.u64.wrap (e * e) = q := by rw [hq]; exact wr_u64i (by omega) (by omega)
            have hcv : IntKind.u64.wrap e = e := wr_u64i (by omega) (by omega)
            clear hq
            go_upto_region 8 with fail
            go_quiet (fail)
            go_wp2_with fail
            exact ⟨⟨j + 1, by omega, rfl, by rw [← HV'.out, ← hadd], ⟨HBr.out.os, HBr.out.tape, HBr.out.output, HBr.out.size, HBr.out.block⟩⟩, by show m + 1 - ((j : Int) + 1 + 1).toNat < m + 1 - ((j : Int) + 1).toNat; omega⟩
      · have e1 : ((j : Int) + 1 < (m : Int) + 1) = False := by simp only [eq_iff_iff, iff_false]; omega
        have hv : jsum b (T.take j) = (v : Int) := by rw [HVV.out, List.take_of_length_le (by have := HTl.out; omega)]
        rw [hv]
        have hm0 : 0 < m := by omega
        have hq : v / m < 18446744073709551616 := by have := Nat.div_le_self v m; omega
        have hq2 := hq
        have HRt := Lib.hid (fun w => rroot_rt (v / m) hq w)
        have hrl := rt_lt hq
        have HBw := Lib.hid (bthen HB.out HBr.out (Nat.le_refl _))
        clear hv hq
        have hw2 : IntKind.u64.wrap (m : Int) = (m : Int) := by rw [IntKind.wrap_u64]; omega
        have hdv : IntKind.u64.wrap ((v : Int) / (m : Int)) = ((v / m : Nat) : Int) := by
          rw [show (v : Int) / (m : Int) = ((v / m : Nat) : Int) by simp]
          exact wr_u64 hq2
        go_wp2_with fail
        refine (HRt.out _).mono ?_
        rintro e w5 ⟨rfl, hw5⟩
        subst hw5
        go_wp2_with fail
        go_ret
        exact ⟨rfl, HBw.out⟩
end Go.Proofs.Ytofieoklcegddaa
