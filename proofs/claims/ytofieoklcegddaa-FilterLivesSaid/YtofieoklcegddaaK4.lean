/- The reference's Best, Jitter and Disp. -/
import Derived.Test.YtofieoklcegddaaK3
namespace Go.Proofs.Ytofieoklcegddaa
open Go.RowKit Go.Sort Go.Shelf Go.Lib
set_option linter.unusedVariables false
set_option linter.unusedSimpArgs false
set_option maxRecDepth 100000

/-- the reference's filter at h has the samples L, the last one ahead -/
def Rf (w : World) (p : Option Addr) (L : List S4) : Prop := ∃ h A n c, p = some ⟨h, 0, none⟩ ∧ w.cell? ⟨h, 0, none⟩ = some (.slice A n c) ∧ Rd w w.heap.size A n L.reverse ∧ L.length ≤ 8
theorem Rf.below {w w' : World} {p : Option Addr} {L : List S4} (k : Rf w p L) (b : RowKit.Below w.heap.size w w') : Rf w' p L := by
  obtain ⟨h, A, n, c, rfl, hc, hr, h8⟩ := k
  have hl := World.block_lt_of_cell? w _ hc
  exact ⟨h, A, n, c, rfl, (World.cell?_of_block (b.block h hl)).trans hc, (hr.below b (Nat.le_refl _)).le b.size, h8⟩
theorem rrow_rf {w : World} {p : Option Addr} {L : List S4} (now : Int) (k : Rf w p L) :
    Calls Try.prog 26 #[.pointer p, .int .i64 now] w fun e w' => ∃ A c, e = .returned (.slice A L.length c) ∧ Rd w' w'.heap.size A L.length (sorted now L) ∧ True ∧ RowKit.Below w.heap.size w w' := by
  obtain ⟨h, A, n, c, rfl, hc, hr, h8⟩ := k
  refine (rrow_any now hc hr h8).mono ?_
  rintro e w' ⟨A', c', rfl, hr', hb'⟩
  exact ⟨A', c', rfl, hr', trivial, hb'⟩
set_option maxHeartbeats 2000000 in
theorem rbest_any {w : World} {p : Option Addr} {L : List S4} (now : Int) (h : Rf w p L) :
    Calls Try.prog 25 #[.pointer p, .int .i64 now] w fun e w' => e = .returned (.tuple #[(headS (sorted now L)).val, .int .i64 (if L = [] then 4 else 0)]) ∧ RowKit.Below w.heap.size w w' := by
  obtain ⟨w1, hw1⟩ : ∃ w1, w1 = w.alloc (.cells #[.int .i64 0, .int .i64 0, .int .i64 0, .int .i64 0] 23) := ⟨_, rfl⟩
  have b1 : RowKit.Below w.heap.size w w1 := by rw [hw1]; exact (Below.refl _ _).alloc (Nat.le_refl _) _
  have x1 : Box w1 w.heap.size ⟨0, 0, 0, 0⟩ := by rw [hw1]; exact World.alloc_heap_new w _
  have HR := Lib.hid (rrow_rf now (h.below b1))
  have HW := Lib.hid hw1
  have HF := Lib.hid (show RowKit.Below w.heap.size w w1 ∧ Box w1 w.heap.size ⟨0, 0, 0, 0⟩ ∧ w.heap.size ≤ w1.heap.size from ⟨b1, x1, b1.size⟩)
  clear hw1 b1 x1 h
  by_cases hL : L = []
  · have e4 : (if L = [] then (4 : Int) else 0) = 4 := if_pos hL
    rw [e4]
    subst hL
    rw [sorted_nil] at HR ⊢
    clear e4
    go_enter Try.func25, Try.ntmps25
    go_upto_region 1 with fail
    rw [← HW.out]
    go_wp2_with fail
    refine HR.out.mono ?_
    rintro e w2 ⟨A, c, rfl, hr, hc, hb⟩
    have x2 : Box w2 w.heap.size ⟨0, 0, 0, 0⟩ := (hb.block _ HF.out.2.1.lt).trans HF.out.2.1
    obtain ⟨c0, c1, c2, c3⟩ := x2.cells
    have f0 := x2.fr
    have HB := Lib.hid hb
    have HX := Lib.hid x2
    clear hr hb x2
    go_wp2_with fail
    exact bodyPost_ret ((HX.out.put ⟨0, 0, 0, 0⟩).ret rfl 4 _ rfl rfl) rfl ⟨rfl, below_put4 (HF.out.1.trans (HB.out.mono HF.out.2.2)) (Nat.le_refl _) ⟨0, 0, 0, 0⟩⟩
  · have e4 : (if L = [] then (4 : Int) else 0) = 0 := if_neg hL
    rw [e4]
    have hl := (sorted_facts now L).1
    have hpos : 0 < L.length := by
      rcases Nat.eq_zero_or_pos L.length with h0 | h0
      · exact absurd (List.length_eq_zero_iff.1 h0) hL
      · exact h0
    generalize sorted now L = M at *
    obtain ⟨s, T, rfl⟩ : ∃ s T, M = s :: T := by
      cases M with
      | nil => simp at hl; omega
      | cons s T => exact ⟨s, T, rfl⟩
    generalize L.length = n at *
    clear e4 hl hL
    have hn0 : ((n : Int) = 0) = False := by simp only [eq_iff_iff, iff_false]; omega
    have hn1 : (0 : Int) < (n : Int) := by omega
    go_enter Try.func25, Try.ntmps25
    go_upto_region 1 with fail
    rw [← HW.out]
    go_wp2_with fail
    refine HR.out.mono ?_
    rintro e w2 ⟨A, c, rfl, hr, hc, hb⟩
    have x2 : Box w2 w.heap.size ⟨0, 0, 0, 0⟩ := (hb.block _ HF.out.2.1.lt).trans HF.out.2.1
    obtain ⟨c0, c1, c2, c3⟩ := x2.cells
    have f0 := x2.fr
    have HB := Lib.hid hb
    have HX := Lib.hid x2
    rcases hr.2 with h0 | ⟨g, off, rfl, hg, hcl⟩
    · omega
    obtain ⟨d0, d1, d2, d3⟩ := hcl 0 s rfl
    rw [Nat.zero_mul, Nat.add_zero] at d0 d1 d2 d3
    clear hr hb x2 hcl
    go_wp2_with fail
    exact bodyPost_ret ((HX.out.put s).ret rfl 0 _ rfl rfl) rfl ⟨rfl, below_put4 (HF.out.1.trans (HB.out.mono HF.out.2.2)) (Nat.le_refl _) s⟩
end Go.Proofs.Ytofieoklcegddaa
