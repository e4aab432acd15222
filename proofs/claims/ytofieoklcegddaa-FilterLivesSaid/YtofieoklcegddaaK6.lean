/- The reference's Disp. -/
import Derived.Test.YtofieoklcegddaaK5
namespace Go.Proofs.Ytofieoklcegddaa
open Go.RowKit Go.Sort Go.Shelf Go.Lib
set_option linter.unusedVariables false
set_option linter.unusedSimpArgs false
set_option maxRecDepth 100000

theorem raged_below (s : S4) (now : Int) (h : inB s.a) (w : World) : Calls Try.prog 31 #[.agg #[.int .i64 s.o, .int .i64 s.d, .int .i64 s.p, .int .i64 s.a], .int .i64 now] w fun e w' => e = .returned (.int .i64 (agedI s.a now)) ∧ RowKit.Below w.heap.size w w' := by
  refine (raged_any s now h w).mono ?_
  rintro e w' ⟨rfl, q, os, hw⟩
  exact ⟨rfl, below_of_grow (Nat.le_refl _) hw⟩
theorem quo_wrap {x : Int} (i : Nat) (h0 : 0 ≤ x) (h1 : x ≤ 1152956688978935808) : IntKind.i64.wrap (x.tdiv (2 ^ (i + 1))) = x / 2 ^ (i + 1) := by
  rw [Int.tdiv_eq_ediv_of_nonneg h0]
  have := half_lim i h0 h1
  exact wr_i64 (by omega) (by omega)
set_option maxHeartbeats 4000000 in
theorem rdisp_any {w : World} {p : Option Addr} {L : List S4} (now : Int) (h : Rf w p L) (hm : ∀ s ∈ L, s.may) :
    Calls Try.prog 28 #[.pointer p, .int .i64 now] w fun e w' => e = .returned (.int .i64 (dsum (sorted now L) now 8)) ∧ RowKit.Below w.heap.size w w' := by
  have h8 : L.length ≤ 8 := by obtain ⟨_, _, _, _, _, _, _, h8⟩ := h; exact h8
  have HRo := Lib.hid (rrow_rf now h)
  obtain ⟨M, hM⟩ : ∃ M, M = sorted now L := ⟨_, rfl⟩
  have hsf := sorted_facts now L
  rw [← hM] at hsf HRo ⊢
  have hmm : ∀ s ∈ M, s.may := fun s hs => hm s (hsf.2.1.mem_iff.1 hs)
  have hln := hsf.1
  obtain ⟨n, hn⟩ : ∃ n, n = L.length := ⟨_, rfl⟩
  rw [← hn] at h8 hln HRo
  have HL := Lib.hid hln
  have HMM := Lib.hid hmm
  clear hn hsf hM h hm hln hmm
  go_enter Try.func28, Try.ntmps28
  go_wp2_with fail
  refine HRo.out.mono ?_
  rintro e w1 ⟨A, c, rfl, hr, hc, hb⟩
  have HB := Lib.hid hb
  have HR := Lib.hid hr
  clear hr hb
  go_wp2_with fail
  go_loopw [8, 6, 7] (fun i v pt wr => ∃ j : Nat, j ≤ 8 ∧ i = .int .i64 (j : Int) ∧ v = .int .i64 (dsum M now j) ∧ pt = .int .i64 (2 ^ (j + 1) : Int) ∧ RowKit.Below w1.heap.size w1 wr) (fun i _ _ _ => (8 - (match i with | .int _ z => z.toNat | _ => 0)))
  case atStart => exact ⟨0, by omega, rfl, rfl, rfl, Below.refl _ _⟩
  case round =>
    obtain ⟨j, hj8, rfl, rfl, rfl, hb⟩ := hrel
    have HBr := Lib.hid hb
    clear hb
    by_cases hj : j < 8
    · have e1 : (j : Int) < 8 := by omega
      have hdl := dsum_lim HMM.out now j
      have hpl := dpart_lim HMM.out now j
      have hadd : IntKind.i64.wrap (dsum M now j + dpart M now j) = dsum M now (j + 1) := by rw [dsum_next]; exact wr_i64 (by omega) (by omega)
      have HDp := Lib.hid (show dpart M now j = (match M[j]? with | some s => s.p + agedI s.a now | none => 68719476736) / 2 ^ (j + 1) from rfl)
      have hP1 : (0 : Int) < 2 ^ (j + 1) := Int.pow_pos (by omega)
      have hP2 : (2 : Int) ^ (j + 1) ≤ 256 := by
        have h1 : (2 : Nat) ^ (j + 1) ≤ 2 ^ 8 := Nat.pow_le_pow_right (by omega) (by omega)
        have h2 : ((2 ^ (j + 1) : Nat) : Int) = (2 : Int) ^ (j + 1) := by push_cast; rfl
        omega
      have HP3 := Lib.hid (show (2 : Int) ^ (j + 1 + 1) = 2 * 2 ^ (j + 1) by rw [Int.pow_succ, Int.mul_comm])
      have hqz := fun (x : Int) (h0 : 0 ≤ x) (h1 : x ≤ 1152956688978935808) => quo_wrap (x := x) j h0 h1
      obtain ⟨P, hP⟩ : ∃ P : Int, P = 2 ^ (j + 1) := ⟨_, rfl⟩
      rw [← hP] at hP1 hP2 HP3 hqz HDp ⊢
      have HPe := Lib.hid hP
      obtain ⟨dp, hdp⟩ : ∃ dp, dp = dpart M now j := ⟨_, rfl⟩
      rw [← hdp] at hadd HDp hpl
      obtain ⟨v', hv'⟩ : ∃ v', v' = dsum M now (j + 1) := ⟨_, rfl⟩
      rw [← hv'] at hadd
      have HV' := Lib.hid hv'
      clear hP hdp hv'
      have hPne : (P = 0) = False := by simp only [eq_iff_iff, iff_false]; omega
      by_cases hjn : j < n
      · have e2 : (j : Int) < (n : Int) := by omega
        obtain ⟨s, hs⟩ : ∃ s, M[j]? = some s := ⟨_, List.getElem?_eq_getElem (by have := HL.out; omega)⟩
        have hq := HDp.out
        rw [hs] at hq
        have hsm := HMM.out s (List.mem_of_getElem? hs)
        have hpa := may_pa hsm now
        have hquo : IntKind.i64.wrap ((s.p + agedI s.a now).tdiv P) = dp := by rw [hqz _ (by omega) (by omega)]; exact hq.symm
        have HAg := Lib.hid (fun p : Bel w1.heap.size w1 => Calls.bel (Nat.le_refl _) p (raged_below s now hsm.2.1 p.w))
        obtain ⟨g, off, rfl, hg, hcl⟩ := HR.out.cells (by omega)
        have d0 := fun p : Bel w1.heap.size w1 => (hcl p.w p.h j s hs).1
        have d1 := fun p : Bel w1.heap.size w1 => (hcl p.w p.h j s hs).2.1
        have d2 := fun p : Bel w1.heap.size w1 => (hcl p.w p.h j s hs).2.2.1
        have d3 := fun p : Bel w1.heap.size w1 => (hcl p.w p.h j s hs).2.2.2
        have hsum : IntKind.i64.wrap (s.p + agedI s.a now) = s.p + agedI s.a now := wr_i64 (by omega) (by omega)
        clear hq hs hsm hpa hcl hqz
        generalize agedI s.a now = ag at *
        go_upto_region 8 with fail
        refine wp_region_quiet_bel HBr.out (by kernel_rfl) (by kernel_rfl) ?_
        repeat (go_big_quiet_step ((go_at_call 31; with_reducible exact HAg.out _)))
        refine wpQuiet_nil ?_
        intro _ hw'
        obtain ⟨⟨w5, h5⟩, hw''⟩ := hw'
        subst hw''
        have HB5 := Lib.hid h5
        clear d0 d1 d2 d3 h5
        go_wp2_with fail
        exact ⟨⟨j + 1, by omega, rfl, by rw [HV'.out], by rw [HP3.out], HB5.out⟩, by show 8 - ((j : Int) + 1).toNat < 8 - (j : Int).toNat; omega⟩
      · have e2 : ((j : Int) < (n : Int)) = False := by simp only [eq_iff_iff, iff_false]; omega
        have hq := HDp.out
        rw [List.getElem?_eq_none (by have := HL.out; omega)] at hq
        have hquo : IntKind.i64.wrap ((68719476736 : Int).tdiv P) = dp := by rw [hqz _ (by omega) (by omega)]; exact hq.symm
        have hquo2 : (68719476736 : Int) / P = dp := hq.symm
        clear hq hqz
        go_wp2_with fail
        exact ⟨⟨j + 1, by omega, rfl, by rw [HV'.out], by rw [HP3.out], HBr.out⟩, by show 8 - ((j : Int) + 1).toNat < 8 - (j : Int).toNat; omega⟩
    · have e1 : ((j : Int) < 8) = False := by simp only [eq_iff_iff, iff_false]; omega
      have hj' : j = 8 := by omega
      subst hj'
      have HBw := Lib.hid (bthen HB.out HBr.out (Nat.le_refl _))
      go_wp2_with fail
      go_ret
      exact ⟨rfl, HBw.out⟩
end Go.Proofs.Ytofieoklcegddaa
