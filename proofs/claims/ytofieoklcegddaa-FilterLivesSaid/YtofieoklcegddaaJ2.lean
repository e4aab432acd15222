/- filter: Disp. -/
import Derived.Test.YtofieoklcegddaaJ1
namespace Go.Proofs.Ytofieoklcegddaa
open Go.RowKit Go.Sort Go.Shelf Go.Lib
set_option linter.unusedVariables false
set_option linter.unusedSimpArgs false
set_option maxRecDepth 100000

/-- what place i of a row gives -/
def dpart (M : List S4) (now : Int) (i : Nat) : Int := (match M[i]? with | some s => s.p + agedI s.a now | none => 68719476736) / 2 ^ (i + 1)
def dsum (M : List S4) (now : Int) (k : Nat) : Int := ((List.range k).map (dpart M now)).sum
theorem dsum_next (M : List S4) (now : Int) (k : Nat) : dsum M now (k + 1) = dsum M now k + dpart M now k := by
  unfold dsum
  rw [List.range_succ, List.map_append, List.sum_append]
  simp
theorem may_pa {s : S4} (h : s.may) (now : Int) : 0 ≤ s.p ∧ s.p ≤ 1152921504606846976 ∧ 0 ≤ agedI s.a now ∧ agedI s.a now ≤ 35184372088832 := by
  have hl := aged_lim (now := now) h.2.1
  have h3 := h.2.2.2.2.1
  have h4 := h.2.2.2.2.2
  unfold inB at h3
  omega
theorem half_lim {x X : Int} (i : Nat) (h0 : 0 ≤ x) (h1 : x ≤ X) : 0 ≤ x / 2 ^ (i + 1) ∧ x / 2 ^ (i + 1) ≤ X / 2 := by
  have h2 : (0 : Int) < 2 ^ i := Int.pow_pos (by omega)
  have e : x / 2 ^ (i + 1) = x / 2 / 2 ^ i := by rw [Int.pow_succ, Int.mul_comm, Int.ediv_ediv_of_nonneg (by omega)]
  rw [e]
  refine ⟨Int.ediv_nonneg (by omega) (by omega), ?_⟩
  have := Int.ediv_le_self (2 ^ i) (show (0 : Int) ≤ x / 2 by omega)
  omega
theorem dpart_lim {M : List S4} (hm : ∀ s ∈ M, s.may) (now : Int) (i : Nat) : 0 ≤ dpart M now i ∧ dpart M now i ≤ 576478344489467904 := by
  unfold dpart
  cases h : M[i]? with
  | none =>
    have := half_lim (x := 68719476736) (X := 68719476736) i (by omega) (by omega)
    show 0 ≤ 68719476736 / 2 ^ (i + 1) ∧ 68719476736 / 2 ^ (i + 1) ≤ _
    omega
  | some s =>
    have hp := may_pa (hm s (List.mem_of_getElem? h)) now
    have := half_lim (x := s.p + agedI s.a now) (X := 1152956688978935808) i (by omega) (by omega)
    show 0 ≤ (s.p + agedI s.a now) / 2 ^ (i + 1) ∧ (s.p + agedI s.a now) / 2 ^ (i + 1) ≤ _
    omega
theorem dsum_lim {M : List S4} (hm : ∀ s ∈ M, s.may) (now : Int) (k : Nat) : 0 ≤ dsum M now k ∧ dsum M now k ≤ k * 576478344489467904 := by
  induction k with
  | zero => exact ⟨by simp [dsum], by simp [dsum]⟩
  | succ k ih =>
    have := dpart_lim hm now k
    rw [dsum_next]
    constructor
    · omega
    · push_cast; omega
theorem aged_below (s : S4) (now : Int) (h : inB s.a) (w : World) : Calls Try.prog 30 #[.agg #[.int .i64 s.o, .int .i64 s.d, .int .i64 s.p, .int .i64 s.a], .int .i64 now] w fun e w' => e = .returned (.int .i64 (agedI s.a now)) ∧ RowKit.Below w.heap.size w w' := by
  refine (aged_any s now h w).mono ?_
  rintro e w' ⟨rfl, q, os, hw⟩
  exact ⟨rfl, below_of_grow (Nat.le_refl _) hw⟩
set_option maxHeartbeats 4000000 in
theorem disp_any {w : World} {p : Option Addr} {L : List S4} (now : Int) (h : Pf w p L) (hm : ∀ s ∈ L, s.may) :
    Calls Try.prog 19 #[.pointer p, .int .i64 now] w fun e w' => e = .returned (.int .i64 (dsum (sorted now L) now 8)) ∧ RowKit.Below w.heap.size w w' := by
  have h8 := h.ct
  have HRo := Lib.hid (row_any now h)
  obtain ⟨M, hM⟩ : ∃ M, M = sorted now L := ⟨_, rfl⟩
  have hsf := sorted_facts now L
  rw [← hM] at hsf HRo ⊢
  have hmm : ∀ s ∈ M, s.may := fun s hs => hm s (hsf.2.1.mem_iff.1 hs)
  have hln := hsf.1
  obtain ⟨n, hn⟩ : ∃ n, n = L.length := ⟨_, rfl⟩
  rw [← hn] at h8 hln HRo
  have HL := Lib.hid hln
  have HMM := Lib.hid hmm
  clear hn hsf hM h hm hln hmm
  go_enter Try.func19, Try.ntmps19
  go_wp2_with fail
  refine HRo.out.mono ?_
  rintro e w1 ⟨A, c, rfl, hr, hc, hb⟩
  have HB := Lib.hid hb
  have HR := Lib.hid hr
  clear hr hb
  go_wp2_with fail
  go_loopw [12, 6] (fun i v wr => ∃ j : Nat, j ≤ 8 ∧ i = .int .i64 (j : Int) ∧ v = .int .i64 (dsum M now j) ∧ RowKit.Below w1.heap.size w1 wr) (fun i _ _ => (8 - (match i with | .int _ z => z.toNat | _ => 0)))
  case atStart => exact ⟨0, by omega, rfl, rfl, Below.refl _ _⟩
  case round =>
    obtain ⟨j, hj8, rfl, rfl, hb⟩ := hrel
    have HBr := Lib.hid hb
    clear hb
    by_cases hj : j < 8
    · have e1 : decide ((j : Int) < 8) = true := by simp; omega
      have e1' : (j : Int) < 8 := by omega
      have hdl := dsum_lim HMM.out now j
      have hpl := dpart_lim HMM.out now j
      have HA64 := Lib.hid (show wrap64 (dsum M now j + dpart M now j) = dsum M now (j + 1) by rw [dsum_next]; unfold wrap64; omega)
      have HDp := Lib.hid (show dpart M now j = (match M[j]? with | some s => s.p + agedI s.a now | none => 68719476736) / 2 ^ (j + 1) from rfl)
      generalize dpart M now j = dp at *
      by_cases hjn : j < n
      · have e2 : (j : Int) < (n : Int) := by omega
        obtain ⟨s, hs⟩ : ∃ s, M[j]? = some s := ⟨_, List.getElem?_eq_getElem (by have := HL.out; omega)⟩
        have hq := HDp.out
        rw [hs] at hq
        have HQ := Lib.hid (show dp = (s.p + agedI s.a now) / 2 ^ (j + 1) from hq)
        have hsm := HMM.out s (List.mem_of_getElem? hs)
        have hpa := may_pa hsm now
        have HAg := Lib.hid (fun p : Bel w1.heap.size w1 => Calls.bel (Nat.le_refl _) p (aged_below s now hsm.2.1 p.w))
        obtain ⟨g, off, rfl, hg, hcl⟩ := HR.out.cells (by omega)
        have d0 := fun p : Bel w1.heap.size w1 => (hcl p.w p.h j s hs).1
        have d1 := fun p : Bel w1.heap.size w1 => (hcl p.w p.h j s hs).2.1
        have d2 := fun p : Bel w1.heap.size w1 => (hcl p.w p.h j s hs).2.2.1
        have d3 := fun p : Bel w1.heap.size w1 => (hcl p.w p.h j s hs).2.2.2
        have hsum : IntKind.i64.wrap (s.p + agedI s.a now) = s.p + agedI s.a now := wr_i64 (by omega) (by omega)
        clear hq hs hsm hpa hcl
        generalize agedI s.a now = ag at *
        go_upto_region 8 with fail
        refine wp_region_quiet_bel HBr.out (by kernel_rfl) (by kernel_rfl) ?_
        repeat (go_big_quiet_step ((go_at_call 30; with_reducible exact HAg.out _)))
        refine wpQuiet_nil ?_
        intro _ hw'
        obtain ⟨⟨w5, h5⟩, hw''⟩ := hw'
        subst hw''
        have HB5 := Lib.hid h5
        clear d0 d1 d2 d3 h5
        go_wp2_with fail
        exact ⟨⟨j + 1, by omega, rfl, by rw [← HQ.out, HA64.out], HB5.out⟩, by show 8 - ((j : Int) + 1).toNat < 8 - (j : Int).toNat; omega⟩
      · have e2 : ((j : Int) < (n : Int)) = False := by simp only [eq_iff_iff, iff_false]; omega
        have hq := HDp.out
        rw [List.getElem?_eq_none (by have := HL.out; omega)] at hq
        have HQ := Lib.hid (show dp = 68719476736 / 2 ^ (j + 1) from hq)
        clear hq
        go_wp2_with fail
        exact ⟨⟨j + 1, by omega, rfl, by rw [← HQ.out, HA64.out], HBr.out⟩, by show 8 - ((j : Int) + 1).toNat < 8 - (j : Int).toNat; omega⟩
    · have e1 : ((j : Int) < 8) = False := by simp only [eq_iff_iff, iff_false]; omega
      have hj' : j = 8 := by omega
      subst hj'
      have HBw := Lib.hid (bthen HB.out HBr.out (Nat.le_refl _))
      go_wp2_with fail
      go_ret
      exact ⟨rfl, HBw.out⟩
end Go.Proofs.Ytofieoklcegddaa
