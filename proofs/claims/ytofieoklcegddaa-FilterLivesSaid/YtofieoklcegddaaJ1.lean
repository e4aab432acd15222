/- filter: Jitter. -/
import Derived.Test.YtofieoklcegddaaG5
namespace Go.Proofs.Ytofieoklcegddaa
open Go.RowKit Go.Sort Go.Shelf Go.Lib
set_option linter.unusedVariables false
set_option linter.unusedSimpArgs false
set_option maxRecDepth 100000

theorem wr_u64 {n : Nat} (h : n < 18446744073709551616) : IntKind.u64.wrap (n : Int) = (n : Int) := by rw [IntKind.wrap_u64]; omega
/-- the whole root -/
def rt : Nat → Nat
  | 0 => 0
  | n + 1 => if (rt n + 1) * (rt n + 1) ≤ n + 1 then rt n + 1 else rt n
theorem rt_root (n : Nat) : isRoot n (rt n) := by
  induction n with
  | zero => exact ⟨Nat.le_refl _, by decide⟩
  | succ n ih =>
    obtain ⟨h1, h2⟩ := ih
    unfold rt
    split
    · rename_i h
      refine ⟨h, ?_⟩
      have : (rt n + 1 + 1) * (rt n + 1 + 1) = (rt n + 1) * (rt n + 1) + 2 * (rt n + 1) + 1 := by
        rw [Nat.add_mul, Nat.mul_add]; omega
      omega
    · exact ⟨by omega, by omega⟩
theorem root_rt (n : Nat) (hn : n < 18446744073709551616) (w : World) : Calls Try.prog 12 #[.int .u64 (n : Int)] w fun e w' => e = .returned (.int .u64 ((rt n : Nat) : Int)) ∧ w' = w := by
  refine (root_any n hn w).mono ?_
  rintro e w' ⟨⟨r, rfl, hr, _⟩, rfl⟩
  exact ⟨by rw [hr.eq (rt_root n)], rfl⟩
theorem rroot_rt (n : Nat) (hn : n < 18446744073709551616) (w : World) : Calls Try.prog 13 #[.int .u64 (n : Int)] w fun e w' => e = .returned (.int .u64 ((rt n : Nat) : Int)) ∧ w' = w := by
  refine (rroot_any n hn w).mono ?_
  rintro e w' ⟨⟨r, rfl, hr, _⟩, rfl⟩
  exact ⟨by rw [hr.eq (rt_root n)], rfl⟩
theorem rt_lt {n : Nat} (hn : n < 18446744073709551616) : rt n < 4294967296 := by
  rcases Nat.lt_or_ge (rt n) 4294967296 with h | h
  · exact h
  · have h1 := (rt_root n).1
    have := Nat.mul_le_mul h h
    omega
/-- the square of how much a differs from b -/
def sqD (a b : Int) : Int := clamp (a - b) 1073741824 * clamp (a - b) 1073741824
theorem clamp30 (n : Int) : -1073741824 ≤ clamp n 1073741824 ∧ clamp n 1073741824 ≤ 1073741824 := by unfold clamp; omega
theorem sqD_lim (a b : Int) : 0 ≤ sqD a b ∧ sqD a b ≤ 1152921504606846976 := by
  unfold sqD
  have h := clamp30 (a - b)
  generalize clamp (a - b) 1073741824 = d at *
  rcases Int.le_total 0 d with h0 | h0
  · exact ⟨Int.mul_nonneg h0 h0, by have := Int.mul_le_mul h.2 h.2 h0 (by omega); omega⟩
  · have e : d * d = (-d) * (-d) := by rw [Int.neg_mul_neg]
    rw [e]
    exact ⟨Int.mul_nonneg (by omega) (by omega), by have := Int.mul_le_mul (show -d ≤ 1073741824 by omega) (show -d ≤ 1073741824 by omega) (by omega) (by omega); omega⟩
def jsum (b : S4) (T : List S4) : Int := (T.map fun s => sqD s.o b.o).sum
theorem jsum_next {b : S4} {T : List S4} {j : Nat} {s : S4} (h : T[j]? = some s) : jsum b (T.take (j + 1)) = jsum b (T.take j) + sqD s.o b.o := by
  unfold jsum
  rw [List.take_add_one, h, List.map_append, List.sum_append]
  simp
theorem jsum_lim (b : S4) (T : List S4) : 0 ≤ jsum b T ∧ jsum b T ≤ T.length * 1152921504606846976 := by
  unfold jsum
  induction T with
  | nil => simp
  | cons s T ih =>
    have := sqD_lim s.o b.o
    rw [List.map_cons, List.sum_cons, List.length_cons]
    omega
/-- the jitter of a row -/
def jit (M : List S4) : Int := if M.length < 2 then 0 else ((rt ((jsum (headS M) M.tail).toNat / (M.length - 1)) : Nat) : Int)
set_option maxHeartbeats 4000000 in
theorem jitter_any {w : World} {p : Option Addr} {L : List S4} (now : Int) (h : Pf w p L) (hm : ∀ s ∈ L, s.may) :
    Calls Try.prog 17 #[.pointer p, .int .i64 now] w fun e w' => e = .returned (.int .i64 (jit (sorted now L))) ∧ RowKit.Below w.heap.size w w' := by
  have h8 := h.ct
  have HRo := Lib.hid (row_any now h)
  obtain ⟨M, hM⟩ : ∃ M, M = sorted now L := ⟨_, rfl⟩
  have hsf := sorted_facts now L
  rw [← hM] at hsf HRo ⊢
  have hmm : ∀ s ∈ M, s.may := fun s hs => hm s (hsf.2.1.mem_iff.1 hs)
  have hln := hsf.1
  obtain ⟨n, hn⟩ : ∃ n, n = L.length := ⟨_, rfl⟩
  rw [← hn] at h8 hln HRo
  clear hn hsf hM h hm
  by_cases h2 : n < 2
  · have hj : jit M = 0 := by unfold jit; rw [if_pos (by omega)]
    rw [hj]
    have h2' : (n : Int) < 2 := by omega
    clear hj hmm
    go_enter Try.func17, Try.ntmps17
    go_wp2_with fail
    refine HRo.out.mono ?_
    rintro e w1 ⟨A, c, rfl, hr, hc, hb⟩
    have HB := Lib.hid hb
    clear hr hb
    go_wp2_with fail
    go_ret
    exact ⟨rfl, HB.out⟩
  · have h2' : ((n : Int) < 2) = False := by simp only [eq_iff_iff, iff_false]; omega
    obtain ⟨b, T, rfl⟩ : ∃ b T, M = b :: T := by
      cases M with
      | nil => simp at hln; omega
      | cons b T => exact ⟨b, T, rfl⟩
    have hT : T.length = n - 1 := by simp at hln; omega
    obtain ⟨m, hm⟩ : ∃ m, n = m + 1 := ⟨n - 1, by omega⟩
    subst hm
    rw [Nat.add_sub_cancel] at hT
    have hj : jit (b :: T) = ((rt ((jsum b T).toNat / m) : Nat) : Int) := by unfold jit; rw [if_neg (by omega), hln]; rfl
    have hjl := jsum_lim b T
    have hm7 : T.length ≤ 7 := by omega
    obtain ⟨v, hvv⟩ : ∃ v : Nat, (v : Int) = jsum b T := ⟨(jsum b T).toNat, by omega⟩
    have hv7 : v ≤ 7 * 1152921504606846976 := by omega
    rw [hj, ← hvv, Int.toNat_natCast]
    have HVV := Lib.hid hvv
    clear hj hln hvv hjl hm7
    have hbm := hmm b (by simp)
    have hbo : inB b.o := hbm.1
    unfold inB at hbo
    have HMM := Lib.hid hmm
    have HTl := Lib.hid hT
    clear hmm hT hbm
    go_enter Try.func17, Try.ntmps17
    go_wp2_with fail
    refine HRo.out.mono ?_
    rintro e w1 ⟨A, c, rfl, hr, hc, hb⟩
    have HB := Lib.hid hb
    have HR := Lib.hid hr
    obtain ⟨g, off, rfl, hg, hcl⟩ := hr.cells (by omega)
    have HC := Lib.hid hcl
    clear hr hb hcl
    go_wp2_with fail
    go_loopw [19, 6] (fun i v wr => ∃ j : Nat, j ≤ m ∧ i = .int .i64 (j : Int) ∧ v = .int .i64 (jsum b (T.take j)) ∧ RowKit.Below w1.heap.size w1 wr) (fun i _ _ => (m - (match i with | .int _ z => z.toNat | _ => 0)))
    case atStart => exact ⟨0, by omega, rfl, rfl, Below.refl _ _⟩
    case round =>
      obtain ⟨j, hjm, rfl, rfl, hb⟩ := hrel
      have HBr := Lib.hid hb
      clear hb
      by_cases hj : j < m
      · have e1 : decide ((j : Int) < (m : Int)) = true := by simp; omega
        obtain ⟨s, hs⟩ : ∃ s, T[j]? = some s := ⟨_, List.getElem?_eq_getElem (by have := HTl.out; omega)⟩
        obtain ⟨c0, c1, c2, c3⟩ := HC.out wr HBr.out (j + 1) s (by simpa using hs)
        rw [show off + (j + 1) * 4 = off + 4 + j * 4 by omega] at c0 c1 c2 c3
        have hso : inB s.o := (HMM.out s (by simp [List.mem_of_getElem? hs])).1
        unfold inB at hso
        have HJ := Lib.hid (jsum_next (b := b) hs)
        have hjl := jsum_lim b (T.take j)
        have hjl2 : jsum b (T.take j) ≤ 6 * 1152921504606846976 := by
          have : (T.take j).length ≤ 6 := by simp; omega
          omega
        have hql := sqD_lim s.o b.o
        obtain ⟨w2, hw2⟩ : ∃ w2, w2 = wr.alloc (.cells #[.int .i64 s.o, .int .i64 s.d, .int .i64 s.p, .int .i64 s.a] 23) := ⟨_, rfl⟩
        have b2 : RowKit.Below wr.heap.size wr w2 := by rw [hw2]; exact (Below.refl _ _).alloc (Nat.le_refl _) _
        have x2 : Box w2 wr.heap.size s := by rw [hw2]; exact World.alloc_heap_new wr _
        obtain ⟨f0, f1, f2, f3⟩ := x2.cells
        have HB2 := Lib.hid (bthen HBr.out b2 (Nat.le_refl _))
        obtain ⟨d0, d1, d2, d3⟩ := HC.out w2 HB2.out 0 b rfl
        rw [Nat.zero_mul, Nat.add_zero] at d0 d1 d2 d3
        have HW2 := Lib.hid hw2
        have HWi := Lib.hid (fun w => within_any (s.o - b.o) 1073741824 (by omega) (by omega) w)
        have hd := clamp30 (s.o - b.o)
        have hqd : sqD s.o b.o = clamp (s.o - b.o) 1073741824 * clamp (s.o - b.o) 1073741824 := rfl
        obtain ⟨e, he⟩ : ∃ e, e = s.o - b.o := ⟨_, rfl⟩
        have hsub : IntKind.i64.wrap (s.o - b.o) = e := by rw [he]; exact wr_i64 (by omega) (by omega)
        rw [← he] at HWi hd hqd
        have hmul : IntKind.i64.wrap (clamp e 1073741824 * clamp e 1073741824) = sqD s.o b.o := by rw [← hqd]; exact wr_i64 (by omega) (by omega)
        have hadd : IntKind.i64.wrap (jsum b (T.take j) + sqD s.o b.o) = jsum b (T.take (j + 1)) := by rw [HJ.out]; exact wr_i64 (by omega) (by omega)
        clear hs hw2 b2 x2 hqd hjl hjl2 hql HJ he
        obtain ⟨v', hv'⟩ : ∃ v', v' = jsum b (T.take (j + 1)) := ⟨_, rfl⟩
        rw [← hv'] at hadd
        have HV' := Lib.hid hv'
        clear hv'
        generalize jsum b (T.take j) = v0 at *
        generalize sqD s.o b.o = q at *
        generalize clamp e 1073741824 = d at *
        go_upto_region 8 with fail
        rw [← HW2.out]
        go_quiet ((go_at_call 32; with_reducible exact Calls.quiet_of_same (HWi.out _)))
        go_wp2_with fail
        exact ⟨⟨j + 1, by omega, rfl, by rw [HV'.out], ⟨HB2.out.os, HB2.out.tape, HB2.out.output, HB2.out.size, HB2.out.block⟩⟩, by show m - ((j : Int) + 1).toNat < m - (j : Int).toNat; omega⟩
      · have e1 : ((j : Int) < (m : Int)) = False := by simp only [eq_iff_iff, iff_false]; omega
        have hv : jsum b (T.take j) = (v : Int) := by rw [HVV.out, List.take_of_length_le (by have := HTl.out; omega)]
        rw [hv]
        have hm0 : 0 < m := by omega
        have hq : v / m < 18446744073709551616 := by have := Nat.div_le_self v m; omega
        have hq2 := hq
        have HRt := Lib.hid (fun w => root_rt (v / m) hq w)
        have hrl := rt_lt hq
        have HBw := Lib.hid (bthen HB.out HBr.out (Nat.le_refl _))
        clear hv hq
        have hw1 : IntKind.u64.wrap (v : Int) = (v : Int) := by rw [IntKind.wrap_u64]; omega
        have hw2 : IntKind.u64.wrap (m : Int) = (m : Int) := by rw [IntKind.wrap_u64]; omega
        have hdv : IntKind.u64.wrap ((v : Int) / (m : Int)) = ((v / m : Nat) : Int) := by
          rw [show (v : Int) / (m : Int) = ((v / m : Nat) : Int) by simp]
          exact wr_u64 hq2
        go_wp2_with fail
        refine (HRt.out _).mono ?_
        rintro e w5 ⟨rfl, hw5⟩
        subst hw5
        go_wp2_with fail
        go_ret
        exact ⟨rfl, HBw.out⟩
end Go.Proofs.Ytofieoklcegddaa
