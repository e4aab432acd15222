/- prime.Passes; iff: lessOne, generates, Right. iff: generates, Right. iff: power, less, markOf. iff: Face, Mark, Answer, Holds, Extract. iff: Holds, Extract. layer 6's statements: heavy, Heavy, small. layer 6's statements: alive. -/
import Derived.Test.YtkhlmcknbangfaaGreatDoorRd
import Derived.Test.YtkhlmcknbangfaaGreatDoorM15
import Derived.Deep.RegionHeld3
namespace Go.Proofs.YtkhlmcknbangfaaGreatDoor
set_option linter.unusedSimpArgs false
set_option linter.unusedVariables false
open Go.RowKit
set_option linter.unusedVariables false
set_option maxRecDepth 100000

def b12 : List Nat := [2, 3, 5, 7, 11, 13, 17, 19, 23, 29, 31, 37]
theorem lim_b12 : Lim 18446744073709551616 b12 := by
  intro x hx
  simp only [b12, List.mem_cons, List.not_mem_nil, or_false] at hx
  omega
/-- the block of the bases -/
def B12 : Obj := .cells #[.int .u64 2, .int .u64 3, .int .u64 5, .int .u64 7, .int .u64 11, .int .u64 13, .int .u64 17, .int .u64 19, .int .u64 23, .int .u64 29, .int .u64 31, .int .u64 37] 23
theorem nt_b12 {w w1 : World} (e1 : w1 = w.alloc B12) : Nt w1 w1.heap.size (some ⟨w.heap.size, 0, none⟩) 12 12 b12 ∧ Below w.heap.size w w1 := by
  refine ⟨⟨rfl, Nat.le_refl _, by unfold maxLen; omega, lim_b12, fun _ => ⟨w.heap.size, 0, rfl, by rw [e1]; simp, fun j x hj => ?_⟩⟩, e1 ▸ (Below.refl _ w).alloc (Nat.le_refl _) _⟩
  rw [e1, Nat.zero_add]
  unfold B12
  rw [cell_of_row _ _ j _ 23 (0, 0) (heap_alloc_new w _)]
  have hl : j < 12 := by
    rcases Nat.lt_or_ge j 12 with h | h
    · exact h
    · rw [List.getElem?_eq_none (by simp [b12]; omega)] at hj; cases hj
  rcases (show j = 0 ∨ j = 1 ∨ j = 2 ∨ j = 3 ∨ j = 4 ∨ j = 5 ∨ j = 6 ∨ j = 7 ∨ j = 8 ∨ j = 9 ∨ j = 10 ∨ j = 11 by omega) with rfl | rfl | rfl | rfl | rfl | rfl | rfl | rfl | rfl | rfl | rfl | rfl <;> (simp [b12] at hj; subst hj; rfl)
set_option maxHeartbeats 1000000 in
theorem passes_any {w : World} {A : Option Addr} {n c N : Nat} {xs : List Nat} (h : Nt w w.heap.size A n c xs) (hN : val 18446744073709551616 xs = N) (hn : n ≤ 100000) :
    Calls Tryz.prog 65 #[.slice A n c] w fun e w' => e = .returned (.bool (primeN N b12)) ∧ Below w.heap.size w w' := by
  obtain ⟨w1, e1⟩ : ∃ w1, w1 = w.alloc B12 := ⟨_, rfl⟩
  obtain ⟨hB, b1⟩ := nt_b12 e1
  have hp := prime_any (h.up b1) hB (by omega) (by omega)
  rw [hN] at hp
  generalize primeN N b12 = t at *
  have Hp := Lib.hid hp
  clear hp
  go_enter Tryz.func65, Tryz.ntmps65
  go_wp2_with fail
  rw [← show w1 = w.alloc (.cells #[.int .u64 2, .int .u64 3, .int .u64 5, .int .u64 7, .int .u64 11, .int .u64 13, .int .u64 17, .int .u64 19, .int .u64 23, .int .u64 29, .int .u64 31, .int .u64 37] 23) from e1]
  refine Hp.out.mono ?_
  rintro e w2 ⟨rfl, b2⟩
  have B2 := bthen b1 b2
  clear e1
  go_wp2_with fail
  go_ret
  exact ⟨rfl, B2⟩

/-- a struct of three rows that lies in a block of its own -/
structure Bx (w : World) (p : Nat) (v1 v2 v3 : Value) : Prop where
  lt : p < w.heap.size
  c0 : w.cell? ⟨p, 0, none⟩ = some v1
  c1 : w.cell? ⟨p, 1, none⟩ = some v2
  c2 : w.cell? ⟨p, 2, none⟩ = some v3
theorem Bx.up {w w' : World} {p : Nat} {v1 v2 v3 : Value} (h : Bx w p v1 v2 v3) (hb : Below w.heap.size w w') : Bx w' p v1 v2 v3 :=
  ⟨Nat.lt_of_lt_of_le h.lt hb.size, (hb.cell (p := ⟨p, 0, none⟩) h.lt).trans h.c0, (hb.cell (p := ⟨p, 1, none⟩) h.lt).trans h.c1, (hb.cell (p := ⟨p, 2, none⟩) h.lt).trans h.c2⟩
theorem Bx.dr {w : World} {p : Nat} {v1 v2 v3 : Value} (h : Bx w p v1 v2 v3) (d : Nat) : Bx (w.drewN d) p v1 v2 v3 := ⟨h.lt, h.c0, h.c1, h.c2⟩
theorem box_new {w w0 : World} {v1 v2 v3 : Value} {t : TypeId} (e0 : w0 = w.alloc (.cells #[v1, v2, v3] t)) : Bx w0 w.heap.size v1 v2 v3 ∧ Below w.heap.size w w0 := by
  refine ⟨⟨by rw [e0]; simp, ?_, ?_, ?_⟩, e0 ▸ (Below.refl _ w).alloc (Nat.le_refl _) _⟩ <;> (rw [e0, cell_of_row _ _ _ #[v1, v2, v3] t (0, 0) (heap_alloc_new w _)]; rfl)
/-- parameters in memory -/
structure Pr (w : World) (v : Value) (P Q G : Nat) : Prop where
  ex : ∃ A1 n1 c1 x1 A2 n2 c2 x2 A3 n3 c3 x3, v = .agg #[.slice A1 n1 c1, .slice A2 n2 c2, .slice A3 n3 c3] ∧
    Nt w w.heap.size A1 n1 c1 x1 ∧ val 18446744073709551616 x1 = P ∧ n1 ≤ 100 ∧ Nt w w.heap.size A2 n2 c2 x2 ∧ val 18446744073709551616 x2 = Q ∧ n2 ≤ 100 ∧ Nt w w.heap.size A3 n3 c3 x3 ∧ val 18446744073709551616 x3 = G ∧ n3 ≤ 100
theorem Pr.up {w w' : World} {v : Value} {P Q G : Nat} (h : Pr w v P Q G) (hb : Below w.heap.size w w') : Pr w' v P Q G := by
  obtain ⟨A1, n1, c1, x1, A2, n2, c2, x2, A3, n3, c3, x3, rfl, h1, e1, l1, h2, e2, l2, h3, e3, l3⟩ := h.ex
  exact ⟨_, _, _, _, _, _, _, _, _, _, _, _, rfl, h1.up hb, e1, l1, h2.up hb, e2, l2, h3.up hb, e3, l3⟩
theorem Pr.dr {w : World} {v : Value} {P Q G : Nat} (h : Pr w v P Q G) (d : Nat) : Pr (w.drewN d) v P Q G := by
  obtain ⟨A1, n1, c1, x1, A2, n2, c2, x2, A3, n3, c3, x3, rfl, h1, e1, l1, h2, e2, l2, h3, e3, l3⟩ := h.ex
  exact ⟨_, _, _, _, _, _, _, _, _, _, _, _, rfl, h1.dr d, e1, l1, h2.dr d, e2, l2, h3.dr d, e3, l3⟩

set_option maxHeartbeats 1000000 in
theorem lessOne_any {w : World} {A : Option Addr} {n c N : Nat} {xs : List Nat} (h : Nt w w.heap.size A n c xs) (hN : val 18446744073709551616 xs = N) (hn : n ≤ 100000) (h1 : 1 ≤ N) :
    Calls Tryz.prog 56 #[.slice A n c] w (RetS (N - 1) w) := by
  go_enter Tryz.func56, Tryz.ntmps56
  go_wp2_with fail
  refine (of_any 1 _ rfl (by omega) _).mono ?_
  rintro e w1 ⟨A1, n1, c1, x1, rfl, r1⟩
  have v1 := r1.is
  go_wp2_with fail
  refine (sub_ok (h.up r1.bel) r1.nt (by omega) (by rw [v1, hN]; exact h1)).mono ?_
  rintro e w2 ⟨A2, n2, c2, x2, rfl, r2⟩
  rw [v1, hN] at r2
  go_wp2_with fail
  go_ret
  exact ⟨_, _, _, _, rfl, r2.nt, r2.trm, r2.is, bthen r1.bel r2.bel⟩
end Go.Proofs.YtkhlmcknbangfaaGreatDoor
namespace Go.Proofs.YtkhlmcknbangfaaGreatDoor
open Go.RowKit
set_option linter.unusedVariables false
set_option maxRecDepth 100000

def genN (P Q G : Nat) : Bool := decide (1 < G) && decide (G ^ Q % P = 1)
def rightN (P Q G : Nat) : Bool := decide (bl P ≤ 1024) && (primeN P b12 && (decide (0 < Q) && (decide ((P - 1) % Q = 0) && (primeN Q b12 && (decide (G < P) && genN P Q G)))))
theorem primeN_two {n : Nat} {bs : List Nat} (h : primeN n bs = true) : 2 ≤ n := by
  unfold primeN at h
  simp only [Bool.and_eq_true, decide_eq_true_eq] at h
  exact h.1
set_option maxHeartbeats 2000000 in
theorem generates_any {w : World} {v : Value} {P Q G : Nat} (h : Pr w v P Q G) (hP : 0 < P) :
    Calls Tryz.prog 67 #[v] w fun e w' => e = .returned (.bool (genN P Q G)) ∧ Below w.heap.size w w' := by
  obtain ⟨A1, n1, c1, x1, A2, n2, c2, x2, A3, n3, c3, x3, rfl, h1', e1, l1, h2', e2, l2, h3', e3, l3⟩ := h.ex
  clear h
  obtain ⟨w0, e0⟩ : ∃ w0, w0 = w.alloc (.cells #[Value.slice A1 n1 c1, .slice A2 n2 c2, .slice A3 n3 c3] 37) := ⟨_, rfl⟩
  obtain ⟨hx0, b0⟩ := box_new e0
  have h1 := h1'.up b0
  have h2 := h2'.up b0
  have h3 := h3'.up b0
  clear h1' h2' h3'
  obtain ⟨r, hr⟩ : ∃ r, genN P Q G = r := ⟨_, rfl⟩
  rw [hr]
  unfold genN at hr
  have Hr := Lib.hid hr
  clear hr
  go_enter Tryz.func67, Tryz.ntmps67
  go_wp2_with fail
  rw [← e0]
  clear e0
  refine (of_any 1 _ rfl (by omega) _).mono ?_
  rintro e w1 ⟨A4, n4, c4, x4, rfl, r4⟩
  have v4 := r4.is
  have B1 := r4.bel
  have hx1 := hx0.up B1
  have q0 := hx1.c0
  have q1 := hx1.c1
  have q2 := hx1.c2
  have hc := cmp_any (h3.up B1) r4.nt
  rw [e3, v4] at hc
  rcases Nat.lt_or_ge 1 G with hg | hg
  · have hr := Hr.out
    rw [decide_eq_true hg, Bool.true_and] at hr
    have Hr2 := Lib.hid hr
    have hs : sgn (G : Int) ((1 : Nat) : Int) = 1 := sgn_gt hg
    rw [hs] at hc
    have Hc := Lib.hid hc
    clear hr Hr hc hs
    go_wp2_with fail
    refine Hc.out.mono ?_
    rintro e w2 ⟨rfl, d, rfl⟩
    have B2 := bdr B1 d
    have hx2 := hx1.dr d
    have p0 := hx2.c0
    have p1 := hx2.c1
    have p2 := hx2.c2
    go_wp2_with fail
    refine (mpow_pos (h3.up B2) (h2.up B2) (h1.up B2) (by omega) (by omega) (by omega) (by rw [e1]; exact hP)).mono ?_
    rintro e w3 ⟨A5, n5, c5, x5, rfl, r5⟩
    rw [e1, e2, e3] at r5
    have v5 := r5.is
    have B3 := bthen B2 r5.bel
    have hc := cmp_any r5.nt ((r4.nt.dr d).up r5.bel)
    rw [v4, v5] at hc
    obtain ⟨s, hs⟩ : ∃ s, sgn ((G ^ Q % P : Nat) : Int) ((1 : Nat) : Int) = s := ⟨_, rfl⟩
    have hsz : decide (s = 0) = decide (G ^ Q % P = 1) := by
      rw [← hs]
      by_cases h : G ^ Q % P = 1
      · rw [h, sgn_self]; rfl
      · rw [decide_eq_false h, decide_eq_false (sgn_ne h)]
    rw [Hr2.out] at hsz
    rw [hs] at hc
    have Hc := Lib.hid hc
    have Hsz := Lib.hid hsz
    clear hc hs hsz
    go_wp2_with fail
    refine Hc.out.mono ?_
    rintro e w4 ⟨rfl, d4, rfl⟩
    have B4 := bdr B3 d4
    go_wp2_with fail
    go_ret
    exact ⟨by rw [← Hsz.out]; congr 2, bthen b0 B4⟩
  · have hr := Hr.out
    rw [decide_eq_false (by omega), Bool.false_and] at hr
    subst hr
    have hs : sgn (G : Int) ((1 : Nat) : Int) ≤ 0 := by
      unfold sgn
      split
      · omega
      · split <;> omega
    generalize sgn (G : Int) ((1 : Nat) : Int) = s at *
    have Hc := Lib.hid hc
    clear Hr hc
    go_wp2_with fail
    refine Hc.out.mono ?_
    rintro e w2 ⟨rfl, d, rfl⟩
    have B2 := bdr B1 d
    go_wp2_with fail
    go_ret
    exact ⟨rfl, bthen b0 B2⟩

set_option maxHeartbeats 4000000 in
theorem right_any {w : World} {v : Value} {P Q G : Nat} (h : Pr w v P Q G) :
    Calls Tryz.prog 18 #[v] w fun e w' => e = .returned (.int .i64 (if rightN P Q G then 0 else 60)) ∧ Below w.heap.size w w' := by
  have hgen := fun W (k : Pr W v P Q G) => generates_any (w := W) k
  have Hgen := Lib.hid hgen
  clear hgen
  have Hh := Lib.hid h
  obtain ⟨A1, n1, c1, x1, A2, n2, c2, x2, A3, n3, c3, x3, rfl, h1', e1, l1, h2', e2, l2, h3', e3, l3⟩ := h.ex
  clear h
  obtain ⟨w0, e0⟩ : ∃ w0, w0 = w.alloc (.cells #[Value.slice A1 n1 c1, .slice A2 n2 c2, .slice A3 n3 c3] 37) := ⟨_, rfl⟩
  obtain ⟨hx0, b0⟩ := box_new e0
  have h1 := h1'.up b0
  have h2 := h2'.up b0
  have h3 := h3'.up b0
  clear h1' h2' h3'
  have q0 := hx0.c0
  obtain ⟨r, hr⟩ : ∃ r, (if rightN P Q G then (0 : Int) else 60) = r := ⟨_, rfl⟩
  rw [hr]
  unfold rightN at hr
  have Hr := Lib.hid hr
  clear hr
  have hbits := bits_any h1 (by omega)
  rw [e1] at hbits
  have Hbits := Lib.hid hbits
  clear hbits
  go_enter Tryz.func18, Tryz.ntmps18
  go_wp2_with fail
  rw [← e0]
  clear e0
  refine Hbits.out.mono ?_
  rintro e w1 ⟨rfl, rfl⟩
  rcases Nat.lt_or_ge 1024 (bl P) with hb | hb
  · have hr := Hr.out
    rw [decide_eq_false (by omega), Bool.false_and] at hr
    simp only [Bool.false_eq_true, if_false] at hr
    subst hr
    clear Hr
    generalize bl P = k at *
    go_wp2_with fail
    go_ret
    exact ⟨rfl, b0⟩
  have hr := Hr.out
  rw [decide_eq_true hb, Bool.true_and] at hr
  have Hr2 := Lib.hid hr
  clear hr Hr
  have hpass := passes_any h1 e1 (by omega)
  obtain ⟨t, ht⟩ : ∃ t, primeN P b12 = t := ⟨_, rfl⟩
  rw [ht] at hpass
  have Ht := Lib.hid ht
  have Hpass := Lib.hid hpass
  clear ht hpass
  generalize bl P = k at *
  go_wp2_with fail
  refine Hpass.out.mono ?_
  rintro e w2 ⟨rfl, b2⟩
  have h12 := h1.up b2
  have h22 := h2.up b2
  have h32 := h3.up b2
  have hy2 := hx0.up b2
  have hy20 := hy2.c0
  have hy21 := hy2.c1
  have hy22 := hy2.c2
  cases t with
  | false =>
    have hr := Hr2.out
    rw [Ht.out, Bool.false_and] at hr
    simp only [Bool.false_eq_true, if_false] at hr
    subst hr
    clear Hr2
    go_wp2_with fail
    go_ret
    exact ⟨rfl, bthen b0 b2⟩
  | true =>
  have hP2 := primeN_two Ht.out
  have hr := Hr2.out
  rw [Ht.out, Bool.true_and] at hr
  have Hr3 := Lib.hid hr
  clear hr Hr2
  have hyd : Bx w2.drew w.heap.size (.slice A1 n1 c1) (.slice A2 n2 c2) (.slice A3 n3 c3) := ⟨hy2.lt, hy2.c0, hy2.c1, hy2.c2⟩
  have h1d := h12.drew
  have h2d := h22.drew
  have b2d := b2.drew
  have hpl : P - 1 < 18446744073709551616 ^ 100 := Nat.lt_of_le_of_lt (Nat.sub_le _ _) (by rw [← e1]; exact h1.below_pow l1)
  have Hpl := Lib.hid hpl
  clear hpl
  rcases Nat.eq_zero_or_pos Q with hq | hq
  · have hr := Hr3.out
    rw [decide_eq_false (by omega), Bool.false_and] at hr
    simp only [Bool.false_eq_true, if_false] at hr
    subst hr
    clear Hr3
    go_wp2_with fail
    go_region_held3 (fun w' => w'.cell? ⟨w.heap.size, 0, none⟩ = some (Value.slice A1 n1 c1) ∧ w'.cell? ⟨w.heap.size, 1, none⟩ = some (Value.slice A2 n2 c2))
      (first | exact ⟨g4.c0, g4.c1⟩ | exact ⟨g3.c0, g3.c1⟩ | exact ⟨hyd.c0, hyd.c1⟩)
      ((first
        | (go_at_call 56; refine (lessOne_any h1d e1 (by omega) (by omega)).mono ?_; rintro e w3 ⟨A5, n5, c5, x5, rfl, r5⟩
           have g3 := hyd.up r5.bel
           have l5 : n5 ≤ 100 := r5.le Hpl.out)
        | (go_at_call 66; refine (mod_nil r5.nt (h2d.up r5.bel) (by omega) (by rw [e2]; exact hq)).mono ?_; rintro e w4 ⟨rfl, b4⟩
           have g4 := g3.up b4)))
    all_goals
      have B4 := bthen (bthen b2d r5.bel) b4
      go_wp2_with fail
      go_ret
      exact ⟨rfl, bthen b0 B4⟩
  have hr := Hr3.out
  rw [decide_eq_true hq, Bool.true_and] at hr
  have Hr4 := Lib.hid hr
  clear hr Hr3
  go_wp2_with fail
  go_region_held3 (fun w' => w'.cell? ⟨w.heap.size, 0, none⟩ = some (Value.slice A1 n1 c1) ∧ w'.cell? ⟨w.heap.size, 1, none⟩ = some (Value.slice A2 n2 c2))
    (first | exact ⟨g4.c0, g4.c1⟩ | exact ⟨g3.c0, g3.c1⟩ | exact ⟨hyd.c0, hyd.c1⟩)
    ((first
      | (go_at_call 56; refine (lessOne_any h1d e1 (by omega) (by omega)).mono ?_; rintro e w3 ⟨A5, n5, c5, x5, rfl, r5⟩
         have g3 := hyd.up r5.bel
         have l5 : n5 ≤ 100 := r5.le Hpl.out)
      | (go_at_call 66; refine (mod_pos r5.nt (h2d.up r5.bel) (by omega) (by rw [e2]; exact hq)).mono ?_; rintro e w4 ⟨A6, n6, c6, x6, rfl, r6⟩
         have g4 := g3.up r6.bel)))
  have v5 := r5.is
  rw [v5, e2] at r6
  have B3 := bthen b2d r5.bel
  have v6 := r6.is
  have l6 : n6 ≤ 100 := r6.le (Nat.lt_of_le_of_lt (Nat.mod_le _ _) Hpl.out)
  have B4 := bthen B3 r6.bel
  have hy4 := hx0.up B4
  have hy40 := hy4.c0
  have hy41 := hy4.c1
  have hy42 := hy4.c2
  have hbits := bits_any r6.nt (by omega)
  rw [v6] at hbits
  have Hbits2 := Lib.hid hbits
  clear hbits
  go_wp2_with fail
  refine Hbits2.out.mono ?_
  rintro e w5 ⟨rfl, rfl⟩
  rcases Nat.eq_zero_or_pos ((P - 1) % Q) with hz | hz
  · rw [hz, show bl 0 = 0 by decide]
    have hr := Hr4.out
    rw [decide_eq_true hz, Bool.true_and] at hr
    have Hr5 := Lib.hid hr
    clear hr Hr4
    have hpass := passes_any (h2.up B4) e2 (by omega)
    obtain ⟨t, ht⟩ : ∃ t, primeN Q b12 = t := ⟨_, rfl⟩
    rw [ht] at hpass
    have Ht2 := Lib.hid ht
    have Hpass2 := Lib.hid hpass
    clear ht hpass Hbits2
    go_wp2_with fail
    refine Hpass2.out.mono ?_
    rintro e w6 ⟨rfl, b6⟩
    have B6 := bthen B4 b6
    have hy6 := hx0.up B6
    have hy60 := hy6.c0
    have hy61 := hy6.c1
    have hy62 := hy6.c2
    cases t with
    | false =>
      have hr := Hr5.out
      rw [Ht2.out, Bool.false_and] at hr
      simp only [Bool.false_eq_true, if_false] at hr
      subst hr
      clear Hr5
      go_wp2_with fail
      go_ret
      exact ⟨rfl, bthen b0 B6⟩
    | true =>
    have hr := Hr5.out
    rw [Ht2.out, Bool.true_and] at hr
    have Hr6 := Lib.hid hr
    clear hr Hr5
    rcases Nat.lt_or_ge G P with hgp | hgp
    · have hr := Hr6.out
      rw [decide_eq_true hgp, Bool.true_and] at hr
      have Hr7 := Lib.hid hr
      clear hr Hr6
      go_wp2_with fail
      refine (cmp_lt (h3.up B6) (h1.up B6) (by rw [e3, e1]; exact hgp)).mono ?_
      rintro e w7 ⟨rfl, d7, rfl⟩
      have B7 := bdr B6 d7
      have hy7 := hy6.dr d7
      have hy70 := hy7.c0
      have hy71 := hy7.c1
      have hy72 := hy7.c2
      have hg := Hgen.out _ (((Hh.out.up b0).up B6).dr d7) (by omega)
      obtain ⟨t, ht⟩ : ∃ t, genN P Q G = t := ⟨_, rfl⟩
      rw [ht] at hg
      have hr := Hr7.out
      rw [ht] at hr
      have Hg := Lib.hid hg
      have Hr8 := Lib.hid hr
      clear ht hg hr Hr7
      go_wp2_with fail
      refine Hg.out.mono ?_
      rintro e w8 ⟨rfl, b8⟩
      have B8 := bthen B7 b8
      cases t with
      | false =>
        have hr := Hr8.out
        simp only [Bool.false_eq_true, if_false] at hr
        subst hr
        clear Hr8
        go_wp2_with fail
        go_ret
        exact ⟨rfl, bthen b0 B8⟩
      | true =>
        have hr := Hr8.out
        simp only [if_true] at hr
        subst hr
        clear Hr8
        go_wp2_with fail
        go_ret
        exact ⟨rfl, bthen b0 B8⟩
    · have hr := Hr6.out
      rw [decide_eq_false (by omega), Bool.false_and] at hr
      simp only [Bool.false_eq_true, if_false] at hr
      subst hr
      clear Hr6
      have hc := cmp_any (h3.up B6) (h1.up B6)
      rw [e3, e1] at hc
      have hs : 0 ≤ sgn (G : Int) (P : Int) := by
        unfold sgn
        split
        · omega
        · split <;> omega
      generalize sgn (G : Int) (P : Int) = s at *
      have Hc := Lib.hid hc
      clear hc
      go_wp2_with fail
      refine Hc.out.mono ?_
      rintro e w7 ⟨rfl, d7, rfl⟩
      have B7 := bdr B6 d7
      go_wp2_with fail
      go_ret
      exact ⟨rfl, bthen b0 B7⟩
  · have hbp := bl_pos hz
    have hr := Hr4.out
    rw [decide_eq_false (by omega), Bool.false_and] at hr
    simp only [Bool.false_eq_true, if_false] at hr
    subst hr
    clear Hr4 Hbits2
    generalize bl ((P - 1) % Q) = k2 at *
    go_wp2_with fail
    go_ret
    exact ⟨rfl, bthen b0 B4⟩
end Go.Proofs.YtkhlmcknbangfaaGreatDoor
namespace Go.Proofs.YtkhlmcknbangfaaGreatDoor
open Go.RowKit
set_option linter.unusedVariables false
set_option maxRecDepth 100000

set_option maxHeartbeats 2000000 in
theorem ipower_any {w : World} {v : Value} {P Q G : Nat} (h : Pr w v P Q G) (hP : 0 < P) (hQ : 0 < Q) {A : Option Addr} {n c a : Nat} {xs : List Nat} (ha : Nt w w.heap.size A n c xs) (ea : val 18446744073709551616 xs = a) (hn : n ≤ 100000) :
    Calls Tryz.prog 112 #[v, .slice A n c] w (RetS (G ^ (a % Q) % P) w) := by
  obtain ⟨A1, n1, c1, x1, A2, n2, c2, x2, A3, n3, c3, x3, rfl, h1', e1, l1, h2', e2, l2, h3', e3, l3⟩ := h.ex
  clear h
  obtain ⟨w0, e0⟩ : ∃ w0, w0 = w.alloc (.cells #[Value.slice A1 n1 c1, .slice A2 n2 c2, .slice A3 n3 c3] 37) := ⟨_, rfl⟩
  obtain ⟨hx0, b0⟩ := box_new e0
  have h1 := h1'.up b0
  have h2 := h2'.up b0
  have h3 := h3'.up b0
  have ha0 := ha.up b0
  clear h1' h2' h3'
  have q0 := hx0.c0
  have q1 := hx0.c1
  have q2 := hx0.c2
  go_enter Tryz.func112, Tryz.ntmps112
  go_wp2_with fail
  rw [← e0]
  clear e0
  refine (mod_pos ha0 h2 (by omega) (by rw [e2]; exact hQ)).mono ?_
  rintro e w1 ⟨A4, n4, c4, x4, rfl, r4⟩
  rw [ea, e2] at r4
  have v4 := r4.is
  have l4 : n4 ≤ 100 := r4.le (Nat.lt_trans (Nat.mod_lt _ hQ) (by rw [← e2]; exact h2.below_pow l2))
  have B1 := r4.bel
  have hy := hx0.up B1
  have y0 := hy.c0
  have y1 := hy.c1
  have y2 := hy.c2
  go_wp2_with fail
  refine (mpow_pos (h3.up B1) r4.nt (h1.up B1) (by omega) (by omega) (by omega) (by rw [e1]; exact hP)).mono ?_
  rintro e w2 ⟨A5, n5, c5, x5, rfl, r5⟩
  rw [e3, v4, e1] at r5
  go_wp2_with fail
  go_ret
  exact ⟨_, _, _, _, rfl, r5.nt, r5.trm, r5.is, bthen b0 (bthen B1 r5.bel)⟩

def lessN (a b n : Nat) : Nat := (a % n + n - b % n) % n
set_option maxHeartbeats 2000000 in
theorem iless_any {w : World} {A B C : Option Addr} {na ca nb cb nc cc a b n : Nat} {xs ys zs : List Nat} (ha : Nt w w.heap.size A na ca xs) (hb : Nt w w.heap.size B nb cb ys) (hc : Nt w w.heap.size C nc cc zs)
    (ea : val 18446744073709551616 xs = a) (eb : val 18446744073709551616 ys = b) (en : val 18446744073709551616 zs = n) (hna : na ≤ 1000) (hnb : nb ≤ 1000) (hnc : nc ≤ 100) (h0 : 0 < n) :
    Calls Tryz.prog 113 #[.slice A na ca, .slice B nb cb, .slice C nc cc] w (RetS (lessN a b n) w) := by
  have pn := hc.below_pow hnc
  rw [en] at pn
  have hlt := fun t => Nat.lt_trans (Nat.mod_lt t h0) pn
  have Hlt := Lib.hid hlt
  have hlb := Nat.mod_lt b h0
  have Pn := Lib.hid pn
  have hla := Nat.mod_lt a h0
  clear hlt pn
  go_enter Tryz.func113, Tryz.ntmps113
  go_wp2_with fail
  refine (mod_pos ha hc (by omega) (by rw [en]; exact h0)).mono ?_
  rintro e w1 ⟨A4, n4, c4, x4, rfl, r4⟩
  rw [ea, en] at r4
  have v4 := r4.is
  have l4 : n4 ≤ 100 := r4.le (Hlt.out _)
  have B1 := r4.bel
  go_wp2_with fail
  refine (mod_pos (hb.up B1) (hc.up B1) (by omega) (by rw [en]; exact h0)).mono ?_
  rintro e w2 ⟨A5, n5, c5, x5, rfl, r5⟩
  rw [eb, en] at r5
  have v5 := r5.is
  have l5 : n5 ≤ 100 := r5.le (Hlt.out _)
  have B2 := bthen B1 r5.bel
  go_wp2_with fail
  refine (add_any (r4.nt.up r5.bel) (hc.up B2) (by omega) (by omega)).mono ?_
  rintro e w3 ⟨A6, n6, c6, x6, rfl, r6⟩
  rw [v4, en] at r6
  have v6 := r6.is
  have l6 : n6 ≤ 101 := r6.le (by have := Pn.out; rw [Nat.pow_succ]; omega)
  have B3 := bthen B2 r6.bel
  go_wp2_with fail
  refine (sub_ok r6.nt (r5.nt.up r6.bel) (by omega) (by rw [v5, v6]; omega)).mono ?_
  rintro e w4 ⟨A7, n7, c7, x7, rfl, r7⟩
  rw [v5, v6] at r7
  have v7 := r7.is
  have l7 : n7 ≤ 101 := r7.le (by have := Pn.out; rw [Nat.pow_succ]; omega)
  have B4 := bthen B3 r7.bel
  go_wp2_with fail
  refine (mod_pos r7.nt (hc.up B4) (by omega) (by rw [en]; exact h0)).mono ?_
  rintro e w5 ⟨A8, n8, c8, x8, rfl, r8⟩
  rw [v7, en] at r8
  have B5 := bthen B4 r8.bel
  go_wp2_with fail
  go_ret
  exact ⟨_, _, _, _, rfl, r8.nt, r8.trm, r8.is, B5⟩

theorem lim_bts (v : Nat) : ∀ n, Lim 256 (bts v n)
  | 0 => Lim.nil _
  | n + 1 => fun x hx => by
    rcases List.mem_cons.1 hx with rfl | hx
    · exact Nat.mod_lt _ (by omega)
    · exact lim_bts v n x hx
/-- a number's mark -/
def markN (v : Nat) : List Nat := (Sh.sha (bts v ((bl v + 7) / 8))).take 16
/-- what hands back a mark -/
def MarkIs (v : Nat) (w : World) (w' : World) (A : Option Addr) (c : Nat) : Prop := Sh.Nb w' w'.heap.size A 16 c (markN v) ∧ Below w.heap.size w w'
set_option maxHeartbeats 2000000 in
theorem markOf_any {w : World} (hk : Sh.Ks w) {A : Option Addr} {n c v : Nat} {xs : List Nat} (h : Nt w w.heap.size A n c xs) (ev : val 18446744073709551616 xs = v) (hn : n ≤ 1000) :
    Calls Tryz.prog 115 #[.slice A n c] w fun e w' => ∃ A' c', e = .returned (.slice A' 16 c') ∧ MarkIs v w w' A' c' := by
  have hb := bits_any h (by omega)
  have hble : bl v ≤ 64 * n := by
    have hp := h.below_pow (Nat.le_refl n)
    rw [ev, base_pow] at hp
    exact bl_le hp
  rw [ev] at hb
  have hw := fun k (hk : bl v ≤ 8 * k) (h2 : k ≤ 65536) => write_ok h (by omega) k _ rfl h2 (by rw [ev]; exact hk)
  rw [ev] at hw
  obtain ⟨k, hke⟩ : ∃ k, (bl v + 7) / 8 = k := ⟨_, rfl⟩
  have hm : markN v = (Sh.sha (bts v k)).take 16 := by unfold markN; rw [hke]
  have hw2 := hw k (by omega) (by omega)
  unfold MarkIs
  rw [hm]
  have Hk := Lib.hid hk
  have Hb := Lib.hid hb
  have Hw := Lib.hid hw2
  have hk64 : k ≤ 8000 := by omega
  have hdiv : ((bl v : Int) + 7).tdiv 8 = (k : Int) := by
    rw [Int.tdiv_eq_ediv_of_nonneg (by omega)]; omega
  have hdiv2 : ((bl v : Int) + 7) / 8 = (k : Int) := by omega
  have hb64 : bl v ≤ 64000 := by omega
  clear hm hw hw2 hb hk hke hble
  generalize bl v = b at *
  go_enter Tryz.func115, Tryz.ntmps115
  go_wp2_with fail
  refine Hb.out.mono ?_
  rintro e w1 ⟨rfl, rfl⟩
  go_wp2_with fail
  refine Hw.out.mono ?_
  rintro e w2 ⟨rfl, ho, b2⟩
  have hN := (ho.nb (length_bts _ _) (by unfold maxLen; omega) (lim_bts _ _)).sh
  have ht := Sh.trunc_in (Hk.out.bel b2) hN (by omega) 16 (by omega)
  have Ht := Lib.hid ht
  clear ht
  go_wp2_with fail
  refine Ht.out.mono ?_
  rintro e w3 ⟨A3, c3, rfl, hN3, b3⟩
  go_wp2_with fail
  go_ret
  exact ⟨_, _, rfl, hN3, bthen b2 b3⟩
end Go.Proofs.YtkhlmcknbangfaaGreatDoor
namespace Go.Proofs.YtkhlmcknbangfaaGreatDoor
open Go.RowKit
set_option linter.unusedVariables false
set_option maxRecDepth 100000

theorem rightN_parts {P Q G : Nat} (h : rightN P Q G = true) : 2 ≤ P ∧ 2 ≤ Q ∧ G < P ∧ 1 < G ∧ G ^ Q % P = 1 ∧ (P - 1) % Q = 0 := by
  unfold rightN genN at h
  simp only [Bool.and_eq_true, decide_eq_true_eq] at h
  obtain ⟨_, h1, _, h2, h3, h4, h5, h6⟩ := h
  exact ⟨primeN_two h1, primeN_two h3, h4, h5, h6, h2⟩
set_option maxHeartbeats 2000000 in
theorem face_any {w : World} {v : Value} {P Q G : Nat} (h : Pr w v P Q G) {A : Option Addr} {n c b : Nat} {xs : List Nat} (hb : Nt w w.heap.size A n c xs) (eb : val 18446744073709551616 xs = b) (hn : n ≤ 1000) (hR : rightN P Q G = true) :
    Calls Tryz.prog 47 #[v, .slice A n c] w (RetT (G ^ (lessN 0 b Q % Q) % P) w) := by
  have hr := right_any h
  rw [hR] at hr
  have hpow := fun W (k : Pr W v P Q G) => ipower_any (w := W) k
  have Hpow := Lib.hid hpow
  have Hh := Lib.hid h
  clear hpow
  obtain ⟨A1, n1, c1, x1, A2, n2, c2, x2, A3, n3, c3, x3, rfl, h1', e1, l1, h2', e2, l2, h3', e3, l3⟩ := h.ex
  clear h hr
  obtain ⟨w0, e0⟩ : ∃ w0, w0 = w.alloc (.cells #[Value.slice A1 n1 c1, .slice A2 n2 c2, .slice A3 n3 c3] 37) := ⟨_, rfl⟩
  obtain ⟨hx0, b0⟩ := box_new e0
  have hr := right_any (Hh.out.up b0)
  rw [hR] at hr
  obtain ⟨hP2, hQ2, _, _, _, _⟩ := rightN_parts hR
  have h2 := h2'.up b0
  have hb0 := hb.up b0
  clear h1' h2' h3' hR
  have Hr := Lib.hid hr
  clear hr
  have q0 := hx0.c0
  have q1 := hx0.c1
  have q2 := hx0.c2
  go_enter Tryz.func47, Tryz.ntmps47
  go_wp2_with fail
  rw [← e0]
  clear e0
  refine Hr.out.mono ?_
  rintro e w1 ⟨rfl, B1⟩
  have hy := hx0.up B1
  have y0 := hy.c0
  have y1 := hy.c1
  have y2 := hy.c2
  simp only [if_true]
  have hyd : Bx w1.drew w.heap.size (.slice A1 n1 c1) (.slice A2 n2 c2) (.slice A3 n3 c3) := ⟨hy.lt, hy.c0, hy.c1, hy.c2⟩
  have hpd := ((Hh.out.up b0).up B1).dr 1
  have h2d := (h2.up B1).drew
  have hbd := (hb0.up B1).drew
  have B1d := B1.drew
  have hz : val 18446744073709551616 [] = 0 := rfl
  go_wp2_with fail
  go_region_held3 (fun w' => w'.cell? ⟨w.heap.size, 0, none⟩ = some (Value.slice A1 n1 c1) ∧ w'.cell? ⟨w.heap.size, 1, none⟩ = some (Value.slice A2 n2 c2) ∧ w'.cell? ⟨w.heap.size, 2, none⟩ = some (Value.slice A3 n3 c3))
    (first | exact ⟨g4.c0, g4.c1, g4.c2⟩ | exact ⟨g3.c0, g3.c1, g3.c2⟩ | exact ⟨hyd.c0, hyd.c1, hyd.c2⟩)
    ((first
      | (go_at_call 113; refine (iless_any (nt_nil _ _) hbd h2d hz eb e2 (by omega) (by omega) (by omega) (by omega)).mono ?_; rintro e w3 ⟨A5, n5, c5, x5, rfl, r5⟩
         have g3 := hyd.up r5.bel
         have v5 := r5.is
         have l5 : n5 ≤ 100 := r5.le (Nat.lt_trans (Nat.mod_lt _ (by omega)) (by rw [← e2]; exact h2d.below_pow l2)))
      | (go_at_call 112; refine (Hpow.out _ (hpd.up r5.bel) (by omega) (by omega) r5.nt v5 (by omega)).mono ?_; rintro e w4 ⟨A6, n6, c6, x6, rfl, r6⟩
         have g4 := g3.up r6.bel)))
  all_goals
    have B4 := bthen (bthen B1d r5.bel) r6.bel
    go_wp2_with fail
    go_ret2
    exact ⟨_, _, _, _, rfl, r6.nt, r6.trm, r6.is, bthen b0 B4⟩
set_option maxHeartbeats 2000000 in
theorem face_bad {w : World} {v : Value} {P Q G : Nat} (h : Pr w v P Q G) (Ab : Option Addr) (nb cb : Nat) (hR : rightN P Q G = false) :
    Calls Tryz.prog 47 #[v, .slice Ab nb cb] w (RetBad 60 w) := by
  have hpow := fun W (k : Pr W v P Q G) => ipower_any (w := W) k
  have Hpow := Lib.hid hpow
  have Hh := Lib.hid h
  clear hpow
  obtain ⟨A1, n1, c1, x1, A2, n2, c2, x2, A3, n3, c3, x3, rfl, h1', e1, l1, h2', e2, l2, h3', e3, l3⟩ := h.ex
  clear h
  obtain ⟨w0, e0⟩ : ∃ w0, w0 = w.alloc (.cells #[Value.slice A1 n1 c1, .slice A2 n2 c2, .slice A3 n3 c3] 37) := ⟨_, rfl⟩
  obtain ⟨hx0, b0⟩ := box_new e0
  have hr := right_any (Hh.out.up b0)
  rw [hR] at hr
  have Hr := Lib.hid hr
  have h1 := h1'.up b0
  have h2 := h2'.up b0
  have h3 := h3'.up b0
  clear hr h1' h2' h3'
  have q0 := hx0.c0
  have q1 := hx0.c1
  have q2 := hx0.c2
  go_enter Tryz.func47, Tryz.ntmps47
  go_wp2_with fail
  rw [← e0]
  clear e0
  refine Hr.out.mono ?_
  rintro e w1 ⟨rfl, B1⟩
  simp only [Bool.false_eq_true, if_false]
  go_wp2_with fail
  go_ret2
  exact ⟨rfl, bthen b0 B1⟩
set_option maxHeartbeats 2000000 in
theorem answer_bad {w : World} {v : Value} {P Q G : Nat} (h : Pr w v P Q G) (Ab : Option Addr) (nb cb : Nat) (Ak : Option Addr) (nk ck : Nat) (Ar : Option Addr) (nr cr : Nat) (hR : rightN P Q G = false) :
    Calls Tryz.prog 49 #[v, .slice Ab nb cb, .slice Ak nk ck, .slice Ar nr cr] w (RetBad 60 w) := by
  have hpow := fun W (k : Pr W v P Q G) => ipower_any (w := W) k
  have Hpow := Lib.hid hpow
  have Hh := Lib.hid h
  clear hpow
  obtain ⟨A1, n1, c1, x1, A2, n2, c2, x2, A3, n3, c3, x3, rfl, h1', e1, l1, h2', e2, l2, h3', e3, l3⟩ := h.ex
  clear h
  obtain ⟨w0, e0⟩ : ∃ w0, w0 = w.alloc (.cells #[Value.slice A1 n1 c1, .slice A2 n2 c2, .slice A3 n3 c3] 37) := ⟨_, rfl⟩
  obtain ⟨hx0, b0⟩ := box_new e0
  have hr := right_any (Hh.out.up b0)
  rw [hR] at hr
  have Hr := Lib.hid hr
  have h1 := h1'.up b0
  have h2 := h2'.up b0
  have h3 := h3'.up b0
  clear hr h1' h2' h3'
  have q0 := hx0.c0
  have q1 := hx0.c1
  have q2 := hx0.c2
  go_enter Tryz.func49, Tryz.ntmps49
  go_wp2_with fail
  rw [← e0]
  clear e0
  refine Hr.out.mono ?_
  rintro e w1 ⟨rfl, B1⟩
  simp only [Bool.false_eq_true, if_false]
  go_wp2_with fail
  go_ret2
  exact ⟨rfl, bthen b0 B1⟩
set_option maxHeartbeats 2000000 in
theorem mark_any {w : World} (hk : Sh.Ks w) {v : Value} {P Q G : Nat} (h : Pr w v P Q G) {Aa : Option Addr} {na ca a : Nat} {xa : List Nat} (ha : Nt w w.heap.size Aa na ca xa) (ea : val 18446744073709551616 xa = a) (la : na ≤ 1000) (hR : rightN P Q G = true) :
    Calls Tryz.prog 50 #[v, .slice Aa na ca] w fun e w' => ∃ A' c', e = .returned (.tuple #[.slice A' 16 c', .int .i64 0]) ∧ MarkIs (G ^ (a % Q) % P) w w' A' c' := by
  have hpow := fun W (k : Pr W v P Q G) => ipower_any (w := W) k
  have Hpow := Lib.hid hpow
  have Hh := Lib.hid h
  clear hpow
  obtain ⟨A1, n1, c1, x1, A2, n2, c2, x2, A3, n3, c3, x3, rfl, h1', e1, l1, h2', e2, l2, h3', e3, l3⟩ := h.ex
  clear h
  obtain ⟨w0, e0⟩ : ∃ w0, w0 = w.alloc (.cells #[Value.slice A1 n1 c1, .slice A2 n2 c2, .slice A3 n3 c3] 37) := ⟨_, rfl⟩
  obtain ⟨hx0, b0⟩ := box_new e0
  have hr := right_any (Hh.out.up b0)
  rw [hR] at hr
  have Hr := Lib.hid hr
  have h1 := h1'.up b0
  have h2 := h2'.up b0
  have h3 := h3'.up b0
  clear hr h1' h2' h3'
  have q0 := hx0.c0
  have q1 := hx0.c1
  have q2 := hx0.c2
  have ia := ha.up b0
  have ik := hk.bel b0
  go_enter Tryz.func50, Tryz.ntmps50
  go_wp2_with fail
  rw [← e0]
  clear e0
  refine Hr.out.mono ?_
  rintro e w1 ⟨rfl, B1⟩
  have hy := hx0.up B1
  have y0 := hy.c0
  have y1 := hy.c1
  have y2 := hy.c2
  simp only [if_true]
  obtain ⟨hP2, hQ2, _, _, _, _⟩ := rightN_parts hR
  clear hR Hr
  have hyd : Bx w1.drew w.heap.size (.slice A1 n1 c1) (.slice A2 n2 c2) (.slice A3 n3 c3) := ⟨hy.lt, hy.c0, hy.c1, hy.c2⟩
  have hpu := (Hh.out.up b0).up B1
  have hpd := hpu.dr 1
  have h1u := h1.up B1
  have h1d := h1u.drew
  have h2u := h2.up B1
  have h2d := h2u.drew
  have B1d := B1.drew
  have ja := ia.up B1
  have ka := ja.drew
  have jk := ik.bel B1
  have kk_ := jk.drew
  go_wp2_with fail
  refine (Hpow.out _ hpu (by omega) (by omega) ja ea (by omega)).mono ?_
  rintro e w3 ⟨A5, n5, c5, x5, rfl, r5⟩
  have l5 : n5 ≤ 100 := r5.le (Nat.lt_trans (Nat.mod_lt _ (by omega)) (by rw [← e1]; exact h1.below_pow l1))
  have B3 := bthen B1 r5.bel
  go_wp2_with fail
  refine (markOf_any (jk.bel r5.bel) r5.nt r5.is (by omega)).mono ?_
  rintro e w4 ⟨A6, c6, rfl, hm, b4⟩
  have B4 := bthen B3 b4
  go_wp2_with fail
  go_ret2
  exact ⟨_, _, rfl, hm, bthen b0 B4⟩
set_option maxHeartbeats 2000000 in
theorem answer_any {w : World} {v : Value} {P Q G : Nat} (h : Pr w v P Q G) {Ab : Option Addr} {nb cb b : Nat} {xb : List Nat} (hb : Nt w w.heap.size Ab nb cb xb) (eb : val 18446744073709551616 xb = b) (lb : nb ≤ 1000) {Ak : Option Addr} {nk ck k : Nat} {xk : List Nat} (hk : Nt w w.heap.size Ak nk ck xk) (ek : val 18446744073709551616 xk = k) (lk : nk ≤ 1000) {Ar : Option Addr} {nr cr r : Nat} {xr : List Nat} (hr : Nt w w.heap.size Ar nr cr xr) (er : val 18446744073709551616 xr = r) (lr : nr ≤ 1000) (hR : rightN P Q G = true) :
    Calls Tryz.prog 49 #[v, .slice Ab nb cb, .slice Ak nk ck, .slice Ar nr cr] w (RetT ((k + b * r % Q) % Q) w) := by
  have hpow := fun W (k : Pr W v P Q G) => ipower_any (w := W) k
  have Hpow := Lib.hid hpow
  have Hh := Lib.hid h
  clear hpow
  obtain ⟨A1, n1, c1, x1, A2, n2, c2, x2, A3, n3, c3, x3, rfl, h1', e1, l1, h2', e2, l2, h3', e3, l3⟩ := h.ex
  clear h
  obtain ⟨w0, e0⟩ : ∃ w0, w0 = w.alloc (.cells #[Value.slice A1 n1 c1, .slice A2 n2 c2, .slice A3 n3 c3] 37) := ⟨_, rfl⟩
  obtain ⟨hx0, b0⟩ := box_new e0
  have hr := right_any (Hh.out.up b0)
  rw [hR] at hr
  have Hr := Lib.hid hr
  have h1 := h1'.up b0
  have h2 := h2'.up b0
  have h3 := h3'.up b0
  clear hr h1' h2' h3'
  have q0 := hx0.c0
  have q1 := hx0.c1
  have q2 := hx0.c2
  have ib := hb.up b0
  have ik := hk.up b0
  have ir := hr.up b0
  go_enter Tryz.func49, Tryz.ntmps49
  go_wp2_with fail
  rw [← e0]
  clear e0
  refine Hr.out.mono ?_
  rintro e w1 ⟨rfl, B1⟩
  have hy := hx0.up B1
  have y0 := hy.c0
  have y1 := hy.c1
  have y2 := hy.c2
  simp only [if_true]
  obtain ⟨hP2, hQ2, _, _, _, _⟩ := rightN_parts hR
  clear hR Hr
  have hyd : Bx w1.drew w.heap.size (.slice A1 n1 c1) (.slice A2 n2 c2) (.slice A3 n3 c3) := ⟨hy.lt, hy.c0, hy.c1, hy.c2⟩
  have hpu := (Hh.out.up b0).up B1
  have hpd := hpu.dr 1
  have h1u := h1.up B1
  have h1d := h1u.drew
  have h2u := h2.up B1
  have h2d := h2u.drew
  have B1d := B1.drew
  have jb := ib.up B1
  have kb := jb.drew
  have jk := ik.up B1
  have kk := jk.drew
  have jr := ir.up B1
  have kr := jr.drew
  have pk := jk.below_pow lk
  rw [ek] at pk
  have pq := h2u.below_pow l2
  rw [e2] at pq
  have Pq := Lib.hid pq
  set_option exponentiation.threshold 5000 in
  have Psum := Lib.hid (add_pow pk (more_pow (Nat.lt_trans (Nat.mod_lt (b * r) (show 0 < Q by omega)) pq) (show 100 ≤ 1000 by omega)))
  clear pk pq
  go_wp2_with fail
  refine (mmul_pos jb jr h2u (by omega) (by omega) (by omega) (by rw [e2]; omega)).mono ?_
  rintro e w3 ⟨A5, n5, c5, x5, rfl, r5⟩
  rw [eb, er, e2] at r5
  have v5 := r5.is
  have l5 : n5 ≤ 100 := r5.le (Nat.lt_trans (Nat.mod_lt _ (by omega)) Pq.out)
  have B3 := bthen B1 r5.bel
  have hz := hy.up r5.bel
  have hyd : Bx w3.drew w.heap.size (.slice A1 n1 c1) (.slice A2 n2 c2) (.slice A3 n3 c3) := ⟨hz.lt, hz.c0, hz.c1, hz.c2⟩
  have z0 := hz.c0
  have z1 := hz.c1
  have z2 := hz.c2
  have B3d := B3.drew
  have m5 := r5.nt.drew
  have mk := (jk.up r5.bel).drew
  have m2 := (h2u.up r5.bel).drew
  go_wp2_with fail
  go_region_held3 (fun w' => w'.cell? ⟨w.heap.size, 0, none⟩ = some (Value.slice A1 n1 c1) ∧ w'.cell? ⟨w.heap.size, 1, none⟩ = some (Value.slice A2 n2 c2) ∧ w'.cell? ⟨w.heap.size, 2, none⟩ = some (Value.slice A3 n3 c3))
    (first | exact ⟨g5.c0, g5.c1, g5.c2⟩ | exact ⟨g4.c0, g4.c1, g4.c2⟩ | exact ⟨g3.c0, g3.c1, g3.c2⟩ | exact ⟨hyd.c0, hyd.c1, hyd.c2⟩)
    ((first
      | (go_at_call 55; refine (add_any mk m5 (by omega) (by omega)).mono ?_; rintro e w4 ⟨A6, n6, c6, x6, rfl, r6⟩
         have g3 := hyd.up r6.bel
         rw [ek, v5] at r6
         have v6 := r6.is
         have l6 : n6 ≤ 1001 := r6.le Psum.out)
      | (go_at_call 66; refine (mod_pos r6.nt (m2.up r6.bel) (by omega) (by rw [e2]; omega)).mono ?_; rintro e w5 ⟨A7, n7, c7, x7, rfl, r7⟩
         rw [v6, e2] at r7
         have g4 := g3.up r7.bel)))
  all_goals
    have B5 := bthen (bthen B3d r6.bel) r7.bel
    go_wp2_with fail
    go_ret2
    exact ⟨_, _, _, _, rfl, r7.nt, r7.trm, r7.is, bthen b0 B5⟩
end Go.Proofs.YtkhlmcknbangfaaGreatDoor
namespace Go.Proofs.YtkhlmcknbangfaaGreatDoor
open Go.RowKit
set_option linter.unusedVariables false
set_option maxRecDepth 100000

theorem Sh.Nb.go {w w' : World} {A : Option Addr} {n c : Nat} {xs : List Nat} (h : Sh.Nb w w.heap.size A n c xs) (hb : Below w.heap.size w w') : Sh.Nb w' w'.heap.size A n c xs := h.bel hb (Nat.le_refl _)
set_option maxHeartbeats 2000000 in
theorem holds_any {w : World} (hk : Sh.Ks w) {v : Value} {P Q G : Nat} (h : Pr w v P Q G) {Av1 : Option Addr} {nv1 cv1 v1 : Nat} {xv1 : List Nat} (hv1 : Nt w w.heap.size Av1 nv1 cv1 xv1) (ev1 : val 18446744073709551616 xv1 = v1) (lv1 : nv1 ≤ 1000) {Ar : Option Addr} {nr cr r : Nat} {xr : List Nat} (hr : Nt w w.heap.size Ar nr cr xr) (er : val 18446744073709551616 xr = r) (lr : nr ≤ 1000) {Ay : Option Addr} {ny cy y : Nat} {xy : List Nat} (hy : Nt w w.heap.size Ay ny cy xy) (ey : val 18446744073709551616 xy = y) (ly : ny ≤ 1000) {Am : Option Addr} {nm cm : Nat} {mm : List Nat} (hm : Sh.Nb w w.heap.size Am nm cm mm) (hR : rightN P Q G = true) :
    Calls Tryz.prog 51 #[v, .slice Av1 nv1 cv1, .slice Ar nr cr, .slice Ay ny cy, .slice Am nm cm] w fun e w' => e = .returned (.bool ((bstr (markN (G ^ (y % Q) % P * (v1 ^ r % P) % P))).toList == (bstr mm).toList)) ∧ Below w.heap.size w w' := by
  obtain ⟨rb, hrb⟩ : ∃ rb, ((bstr (markN (G ^ (y % Q) % P * (v1 ^ r % P) % P))).toList == (bstr mm).toList) = rb := ⟨_, rfl⟩
  rw [hrb]
  have Hrb := Lib.hid hrb
  clear hrb
  have hpow := fun W (k : Pr W v P Q G) => ipower_any (w := W) k
  have Hpow := Lib.hid hpow
  have Hh := Lib.hid h
  clear hpow
  obtain ⟨A1, n1, c1, x1, A2, n2, c2, x2, A3, n3, c3, x3, rfl, h1', e1, l1, h2', e2, l2, h3', e3, l3⟩ := h.ex
  clear h
  obtain ⟨w0, e0⟩ : ∃ w0, w0 = w.alloc (.cells #[Value.slice A1 n1 c1, .slice A2 n2 c2, .slice A3 n3 c3] 37) := ⟨_, rfl⟩
  obtain ⟨hx0, b0⟩ := box_new e0
  have hr := right_any (Hh.out.up b0)
  rw [hR] at hr
  have Hr := Lib.hid hr
  have h1 := h1'.up b0
  have h2 := h2'.up b0
  have h3 := h3'.up b0
  clear hr h1' h2' h3'
  have q0 := hx0.c0
  have q1 := hx0.c1
  have q2 := hx0.c2
  have iv1 := hv1.up b0
  have ir := hr.up b0
  have iy := hy.up b0
  have ik := hk.bel b0
  have im := hm.go b0
  go_enter Tryz.func51, Tryz.ntmps51
  go_wp2_with fail
  rw [← e0]
  clear e0
  refine Hr.out.mono ?_
  rintro e w1 ⟨rfl, B1⟩
  have hy := hx0.up B1
  have y0 := hy.c0
  have y1 := hy.c1
  have y2 := hy.c2
  simp only [if_true]
  obtain ⟨hP2, hQ2, _, _, _, _⟩ := rightN_parts hR
  clear hR Hr
  have hyd : Bx w1.drew w.heap.size (.slice A1 n1 c1) (.slice A2 n2 c2) (.slice A3 n3 c3) := ⟨hy.lt, hy.c0, hy.c1, hy.c2⟩
  have hpu := (Hh.out.up b0).up B1
  have hpd := hpu.dr 1
  have h1u := h1.up B1
  have h1d := h1u.drew
  have h2u := h2.up B1
  have h2d := h2u.drew
  have B1d := B1.drew
  have jv1 := iv1.up B1
  have kv1 := jv1.drew
  have jr := ir.up B1
  have kr := jr.drew
  have jy := iy.up B1
  have ky := jy.drew
  have jk := ik.bel B1
  have kk_ := jk.drew
  have jm := im.go B1
  have pp := h1u.below_pow l1
  rw [e1] at pp
  have hlt := fun t => Nat.lt_trans (Nat.mod_lt t (show 0 < P by omega)) pp
  have Hlt := Lib.hid hlt
  clear hlt pp
  go_wp2_with fail
  refine (mpow_pos jv1 jr h1u (by omega) (by omega) (by omega) (by rw [e1]; omega)).mono ?_
  rintro e w3 ⟨A5, n5, c5, x5, rfl, r5⟩
  rw [ev1, er, e1] at r5
  have v5 := r5.is
  have l5 : n5 ≤ 100 := r5.le (Hlt.out _)
  have B3 := bthen B1 r5.bel
  have hz := hy.up r5.bel
  have hyd : Bx w3.drew w.heap.size (.slice A1 n1 c1) (.slice A2 n2 c2) (.slice A3 n3 c3) := ⟨hz.lt, hz.c0, hz.c1, hz.c2⟩
  have z0 := hz.c0
  have z1 := hz.c1
  have z2 := hz.c2
  have B3d := B3.drew
  have m5 := r5.nt.drew
  have my := (jy.up r5.bel).drew
  have m1 := (h1u.up r5.bel).drew
  have mp := (hpu.up r5.bel).dr 1
  go_wp2_with fail
  go_region_held3 (fun w' => w'.cell? ⟨w.heap.size, 0, none⟩ = some (Value.slice A1 n1 c1) ∧ w'.cell? ⟨w.heap.size, 1, none⟩ = some (Value.slice A2 n2 c2) ∧ w'.cell? ⟨w.heap.size, 2, none⟩ = some (Value.slice A3 n3 c3))
    (first | exact ⟨g5.c0, g5.c1, g5.c2⟩ | exact ⟨g4.c0, g4.c1, g4.c2⟩ | exact ⟨g3.c0, g3.c1, g3.c2⟩ | exact ⟨hyd.c0, hyd.c1, hyd.c2⟩)
    ((first
      | (go_at_call 112; refine (Hpow.out _ mp (by omega) (by omega) my ey (by omega)).mono ?_; rintro e w4 ⟨A6, n6, c6, x6, rfl, r6⟩
         have g3 := hyd.up r6.bel
         have v6 := r6.is
         have l6 : n6 ≤ 100 := r6.le (Hlt.out _))
      | (go_at_call 114; refine (mmul_pos r6.nt (m5.up r6.bel) (m1.up r6.bel) (by omega) (by omega) (by omega) (by rw [e1]; omega)).mono ?_; rintro e w5 ⟨A7, n7, c7, x7, rfl, r7⟩
         rw [v6, v5, e1] at r7
         have l7 : n7 ≤ 100 := r7.le (Hlt.out _)
         have g4 := g3.up r7.bel)))
  all_goals
    have B5 := bthen (bthen B3d r6.bel) r7.bel
    have bk := (((jk.bel r5.bel).bel (show Below w3.heap.size w3 w3.drew from (Below.refl _ _).drew)).bel r6.bel).bel r7.bel
    have bm := (((jm.go r5.bel).go (show Below w3.heap.size w3 w3.drew from (Below.refl _ _).drew)).go r6.bel).go r7.bel
    go_wp2_with fail
    refine (markOf_any bk r7.nt r7.is (by omega)).mono ?_
    rintro e w6 ⟨A8, c8, rfl, hmk⟩
    have B6 := bthen B5 hmk.2
    go_wp2_with fail
    refine (equal_any hmk.1 (bm.go hmk.2)).mono ?_
    rintro e w7 ⟨rfl, rfl⟩
    rw [Hrb.out]
    go_wp2_with fail
    go_ret
    exact ⟨rfl, bthen b0 B6⟩

end Go.Proofs.YtkhlmcknbangfaaGreatDoor
namespace Go.Proofs.YtkhlmcknbangfaaGreatDoor
open Go.RowKit
set_option linter.unusedVariables false
set_option maxRecDepth 100000

theorem Sh.Ks.dr {w : World} (h : Sh.Ks w) (d : Nat) : Sh.Ks (w.drewN d) := ⟨h.size, h.cell⟩
theorem Sh.Nb.dr {w : World} {A : Option Addr} {n c : Nat} {xs : List Nat} (h : Sh.Nb w w.heap.size A n c xs) (d : Nat) : Sh.Nb (w.drewN d) (w.drewN d).heap.size A n c xs := h.drewN d


set_option maxHeartbeats 1000000 in
theorem heavyP_any (A1 A2 A3 : Option Addr) (n1 c1 n2 c2 n3 c3 : Nat) (h1 : n1 ≤ 9223372036854775807) (h2 : n2 ≤ 9223372036854775807) (h3 : n3 ≤ 9223372036854775807) (w : World) :
    Calls Tryz.prog 13 #[.agg #[.slice A1 n1 c1, .slice A2 n2 c2, .slice A3 n3 c3]] w fun e w' => e = .returned (.bool (decide (3 < n1 ∨ 3 < n2 ∨ 3 < n3))) ∧ Below w.heap.size w w' := by
  obtain ⟨w0, e0⟩ : ∃ w0, w0 = w.alloc (.cells #[Value.slice A1 n1 c1, .slice A2 n2 c2, .slice A3 n3 c3] 37) := ⟨_, rfl⟩
  obtain ⟨hx0, b0⟩ := box_new e0
  have q0 := hx0.c0
  have q1 := hx0.c1
  have q2 := hx0.c2
  by_cases g1 : 3 < n1
  · rw [decide_eq_true (.inl g1)]
    have hd : decide ((3 : Int) < (n1 : Int)) = true := by simp; omega
    go_enter Tryz.func13, Tryz.ntmps13
    go_wp2_with fail
    rw [← e0]
    go_ret
    exact ⟨rfl, b0⟩
  · have hd1 : decide ((3 : Int) < (n1 : Int)) = false := by simp; omega
    by_cases g2 : 3 < n2
    · rw [decide_eq_true (.inr (.inl g2))]
      have hd : decide ((3 : Int) < (n2 : Int)) = true := by simp; omega
      go_enter Tryz.func13, Tryz.ntmps13
      go_wp2_with fail
      rw [← e0]
      go_ret
      exact ⟨rfl, b0⟩
    · have hd2 : decide ((3 : Int) < (n2 : Int)) = false := by simp; omega
      by_cases g3 : 3 < n3
      · rw [decide_eq_true (.inr (.inr g3))]
        have hd : decide ((3 : Int) < (n3 : Int)) = true := by simp; omega
        go_enter Tryz.func13, Tryz.ntmps13
        go_wp2_with fail
        rw [← e0]
        go_ret
        exact ⟨rfl, b0⟩
      · rw [decide_eq_false (by omega)]
        have hd : decide ((3 : Int) < (n3 : Int)) = false := by simp; omega
        go_enter Tryz.func13, Tryz.ntmps13
        go_wp2_with fail
        rw [← e0]
        go_ret
        exact ⟨rfl, b0⟩
theorem three_fin {w : World} {g : Nat} {o1 o2 o3 v1 v2 v3 : Value} {t : TypeId} (h : w.heap[g]? = some (.cells #[o1, o2, o3] t (0, 0))) :
    (((w.setCell ⟨g, 0, none⟩ v1).setCell ⟨g, 1, none⟩ v2).setCell ⟨g, 2, none⟩ v3).heap[g]? = some (.cells #[v1, v2, v3] t (0, 0)) := by
  simp [World.setCell, Array.getElem?_modify, h]
theorem three_cells {w : World} {g : Nat} {o1 o2 o3 : Value} {t : TypeId} (h : w.heap[g]? = some (.cells #[o1, o2, o3] t (0, 0))) :
    w.cell? ⟨g, 0, none⟩ = some o1 ∧ w.cell? ⟨g, 1, none⟩ = some o2 ∧ w.cell? ⟨g, 2, none⟩ = some o3 ∧ w.frozen? ⟨g, 0, none⟩ = false ∧ w.frozen? ⟨g, 1, none⟩ = false ∧ w.frozen? ⟨g, 2, none⟩ = false := by
  refine ⟨?_, ?_, ?_, ?_, ?_, ?_⟩
  · rw [cell_of_row w _ 0 _ t (0, 0) h]; rfl
  · rw [cell_of_row w _ 1 _ t (0, 0) h]; rfl
  · rw [cell_of_row w _ 2 _ t (0, 0) h]; rfl
  all_goals simp [World.frozen?, h]
theorem Nt.away {w : World} {B n c g k : Nat} {A : Option Addr} {xs : List Nat} {v : Value} (h : Nt w B A n c xs) (hne : 0 < n → ∀ b off, A = some ⟨b, off, none⟩ → b ≠ g) : Nt (w.setCell ⟨g, k, none⟩ v) B A n c xs :=
  ⟨h.len, h.cap, h.room, h.lim, fun h0 => by
    obtain ⟨b, off, e, hb, hc⟩ := h.cell h0
    exact ⟨b, off, e, hb, fun j x hx => keep_store (hc j x hx) (hne h0 b off e)⟩⟩
theorem Res.ne {w w' : World} {N n c g : Nat} {A : Option Addr} {xs : List Nat} (h : Res w w' N A n c xs) (hg : g < w.heap.size) : 0 < n → ∀ b off, A = some ⟨b, off, none⟩ → b ≠ g := fun h0 b off e => by
  obtain ⟨g', _, e', hg', _⟩ := h.fresh h0
  rw [e'] at e
  injection e with e
  injection e with e1
  omega
theorem Nt.away3 {w : World} {B n c g : Nat} {A : Option Addr} {xs : List Nat} {v1 v2 v3 : Value} (h : Nt w w.heap.size A n c xs) (hne : 0 < n → ∀ b off, A = some ⟨b, off, none⟩ → b ≠ g) :
    Nt (((w.setCell ⟨g, 0, none⟩ v1).setCell ⟨g, 1, none⟩ v2).setCell ⟨g, 2, none⟩ v3) (((w.setCell ⟨g, 0, none⟩ v1).setCell ⟨g, 1, none⟩ v2).setCell ⟨g, 2, none⟩ v3).heap.size A n c xs := by
  rw [size_setCell, size_setCell, size_setCell]
  exact ((h.away hne).away hne).away hne
/-- P 23, Q 11, G 2 -/
theorem small_any (w : World) : Calls Tryz.prog 48 #[] w fun e w' => ∃ v, e = .returned v ∧ Pr w' v 23 11 2 ∧ Below w.heap.size w w' := by
  obtain ⟨w0, e0⟩ : ∃ w0, w0 = w.alloc (.cells #[Value.slice none 0 0, .slice none 0 0, .slice none 0 0] 37) := ⟨_, rfl⟩
  have hx0 : w0.heap[w.heap.size]? = some (.cells #[Value.slice none 0 0, .slice none 0 0, .slice none 0 0] 37 (0, 0)) := e0 ▸ heap_alloc_new w _
  have hs0 : w.heap.size < w0.heap.size := by rw [e0]; simp
  have b0 : Below w.heap.size w w0 := e0 ▸ (Below.refl _ w).alloc (Nat.le_refl _) _
  go_enter Tryz.func48, Tryz.ntmps48
  go_wp2_with fail
  rw [← e0]
  clear e0
  refine (of_any 23 _ rfl (by omega) _).mono ?_
  rintro e w1 ⟨A1, n1, c1, x1, rfl, r1⟩
  have hs1 := r1.bel.size
  have l1 : n1 ≤ 1 := r1.le (by omega)
  go_wp2_with fail
  refine (of_any 11 _ rfl (by omega) _).mono ?_
  rintro e w2 ⟨A2, n2, c2, x2, rfl, r2⟩
  have hs2 := r2.bel.size
  have l2 : n2 ≤ 1 := r2.le (by omega)
  go_wp2_with fail
  refine (of_any 2 _ rfl (by omega) _).mono ?_
  rintro e w3 ⟨A3, n3, c3, x3, rfl, r3⟩
  have l3 : n3 ≤ 1 := r3.le (by omega)
  have B3 := bthen (bthen (bthen b0 r1.bel) r2.bel) r3.bel
  have hx3 := (r3.bel.block w.heap.size (by omega)).trans ((r2.bel.block w.heap.size (by omega)).trans ((r1.bel.block w.heap.size (by omega)).trans hx0))
  obtain ⟨q0, q1, q2, q3, q4, q5⟩ := three_cells hx3
  go_wp2_with fail
  refine bodyPost_ret (results_cell_row rfl _ _ w.heap.size 37 _ (0, 0) _ rfl (three_fin hx3) Tryz.underlying37 rfl (by kernel_rfl)) rfl ?_
  have hb := ((B3.setCell (p := ⟨w.heap.size, 0, none⟩) (by simp) (.slice A1 n1 c1)).setCell (p := ⟨w.heap.size, 1, none⟩) (by simp) (.slice A2 n2 c2)).setCell (p := ⟨w.heap.size, 2, none⟩) (by simp) (.slice A3 n3 c3)
  refine ⟨_, rfl, ⟨_, _, _, _, _, _, _, _, _, _, _, _, rfl, ?_, r1.is, by omega, ?_, r2.is, by omega, ?_, r3.is, by omega⟩, hb⟩
  · exact ((r1.nt.up r2.bel).up r3.bel).away3 (B := 0) (r1.ne hs0)
  · exact (r2.nt.up r3.bel).away3 (B := 0) (r2.ne (by omega))
  · exact r3.nt.away3 (B := 0) (r3.ne (by omega))
end Go.Proofs.YtkhlmcknbangfaaGreatDoor
namespace Go.Proofs.YtkhlmcknbangfaaGreatDoor
open Go.RowKit
set_option linter.unusedVariables false
set_option maxRecDepth 100000

theorem small_right : rightN 23 11 2 = true := by decide +kernel
theorem none_right : rightN 0 0 0 = false := by decide +kernel
theorem pr_none (w : World) : Pr w (.agg #[.slice none 0 0, .slice none 0 0, .slice none 0 0]) 0 0 0 :=
  ⟨none, 0, 0, [], none, 0, 0, [], none, 0, 0, [], rfl, nt_nil _ _, rfl, by omega, nt_nil _ _, rfl, by omega, nt_nil _ _, rfl, by omega⟩
set_option maxHeartbeats 8000000 in
theorem alive_any {w : World} (hk : Sh.Ks w) : Calls Tryz.prog 14 #[] w (Yes w) := by
  have Hs := Lib.hid small_right
  have Hn := Lib.hid none_right
  go_enter Tryz.func14, Tryz.ntmps14
  go_wp2_with fail
  refine (small_any _).mono ?_
  rintro e W1 ⟨V1, rfl, p1, b1⟩
  have B1 := b1
  have X1ks := hk.bel b1
  go_wp2_with fail
  refine (of_any 3 _ rfl (by omega) _).mono ?_
  rintro e W2 ⟨A2, n2, c2, x2, rfl, r2⟩
  have l2 := r2.le (k := 1) (by omega)
  have v2 := r2.is
  have t2 := r2.trm
  have B2 := bthen B1 r2.bel
  have X2ks := X1ks.bel r2.bel
  have X2p := p1.up r2.bel
  go_wp2_with fail
  refine (face_any X2p r2.nt v2 (by omega) Hs.out).mono ?_
  rintro e W3 ⟨A3, n3, c3, x3, rfl, r3⟩
  rw [show 2 ^ (lessN 0 3 11 % 11) % 23 = 3 by decide] at r3
  have l3 := r3.le (k := 1) (by omega)
  have v3 := r3.is
  have t3 := r3.trm
  have N3a := r2.nt.up r3.bel
  have B3 := bthen B2 r3.bel
  have X3ks := X2ks.bel r3.bel
  have X3p := X2p.up r3.bel
  go_wp2_with fail
  refine (small_any _).mono ?_
  rintro e W4 ⟨V4, rfl, p4, b4⟩
  have N4a := N3a.up b4
  have N4v := r3.nt.up b4
  have B4 := bthen B3 b4
  have X4ks := X3ks.bel b4
  have X4p := X3p.up b4
  go_wp2_with fail
  refine (of_any 3 _ rfl (by omega) _).mono ?_
  rintro e W5 ⟨A5, n5, c5, x5, rfl, r5⟩
  have l5 := r5.le (k := 1) (by omega)
  have v5 := r5.is
  have t5 := r5.trm
  have N5v := N4v.up r5.bel
  have B5 := bthen B4 r5.bel
  have X5ks := X4ks.bel r5.bel
  have X5p := p4.up r5.bel
  go_wp2_with fail
  refine (of_any 5 _ rfl (by omega) _).mono ?_
  rintro e W6 ⟨A6, n6, c6, x6, rfl, r6⟩
  have l6 := r6.le (k := 1) (by omega)
  have v6 := r6.is
  have t6 := r6.trm
  have N6v := N5v.up r6.bel
  have N6a := r5.nt.up r6.bel
  have B6 := bthen B5 r6.bel
  have X6ks := X5ks.bel r6.bel
  have X6p := X5p.up r6.bel
  go_wp2_with fail
  refine (of_any 7 _ rfl (by omega) _).mono ?_
  rintro e W7 ⟨A7, n7, c7, x7, rfl, r7⟩
  have l7 := r7.le (k := 1) (by omega)
  have v7 := r7.is
  have t7 := r7.trm
  have N7v := N6v.up r7.bel
  have N7a := N6a.up r7.bel
  have N7b := r6.nt.up r7.bel
  have B7 := bthen B6 r7.bel
  have X7ks := X6ks.bel r7.bel
  have X7p := X6p.up r7.bel
  go_wp2_with fail
  refine (answer_any X7p N7a v5 (by omega) N7b v6 (by omega) r7.nt v7 (by omega) Hs.out).mono ?_
  rintro e W8 ⟨A8, n8, c8, x8, rfl, r8⟩
  rw [show (5 + 3 * 7 % 11) % 11 = 4 by decide] at r8
  have l8 := r8.le (k := 1) (by omega)
  have v8 := r8.is
  have t8 := r8.trm
  have N8v := N7v.up r8.bel
  have N8a := N7a.up r8.bel
  have N8b := N7b.up r8.bel
  have N8c := r7.nt.up r8.bel
  have B8 := bthen B7 r8.bel
  have X8ks := X7ks.bel r8.bel
  have X8p := X7p.up r8.bel
  go_wp2_with fail
  refine (small_any _).mono ?_
  rintro e W9 ⟨V9, rfl, p9, b9⟩
  have N9v := N8v.up b9
  have N9y := r8.nt.up b9
  have B9 := bthen B8 b9
  have X9ks := X8ks.bel b9
  have X9p := X8p.up b9
  go_wp2_with fail
  refine (of_any 5 _ rfl (by omega) _).mono ?_
  rintro e W10 ⟨A10, n10, c10, x10, rfl, r10⟩
  have l10 := r10.le (k := 1) (by omega)
  have v10 := r10.is
  have t10 := r10.trm
  have N10v := N9v.up r10.bel
  have N10y := N9y.up r10.bel
  have B10 := bthen B9 r10.bel
  have X10ks := X9ks.bel r10.bel
  have X10p := p9.up r10.bel
  go_wp2_with fail
  refine (mark_any X10ks X10p r10.nt v10 (by omega) Hs.out).mono ?_
  rintro e W11 ⟨A11, c11, rfl, hm⟩
  rw [show 2 ^ (5 % 11) % 23 = 9 by decide] at hm
  obtain ⟨hm1, hm2⟩ := hm
  have N11v := N10v.up hm2
  have N11y := N10y.up hm2
  have N11a := r10.nt.up hm2
  have B11 := bthen B10 hm2
  have X11ks := X10ks.bel hm2
  have X11p := X10p.up hm2
  generalize hmk : markN 9 = mk at *
  have Hmk := Lib.hid hmk
  clear hmk
  go_wp2_with fail
  refine (small_any _).mono ?_
  rintro e W12 ⟨V12, rfl, p12, b12⟩
  have N12v := N11v.up b12
  have N12y := N11y.up b12
  have B12 := bthen B11 b12
  have X12ks := X11ks.bel b12
  have X12p := X11p.up b12
  have X12m := hm1.go b12
  go_wp2_with fail
  refine (right_any p12).mono ?_
  rintro e W13 ⟨rfl, b13⟩
  have N13v := N12v.up b13
  have N13y := N12y.up b13
  have B13 := bthen B12 b13
  have X13ks := X12ks.bel b13
  have X13p := p12.up b13
  have X13m := X12m.go b13
  rw [Hs.out]
  simp only [if_true]
  go_wp2_with fail
  refine (right_any (pr_none _)).mono ?_
  rintro e W14 ⟨rfl, b14⟩
  have N14v := N13v.up b14
  have N14y := N13y.up b14
  have B14 := bthen B13 b14
  have X14ks := X13ks.bel b14
  have X14p := X13p.up b14
  have X14m := X13m.go b14
  rw [Hn.out]
  simp only [Bool.false_eq_true, if_false]
  go_wp2_with fail
  refine (of_any 3 _ rfl (by omega) _).mono ?_
  rintro e W15 ⟨A15, n15, c15, x15, rfl, r15⟩
  have l15 := r15.le (k := 1) (by omega)
  have v15 := r15.is
  have t15 := r15.trm
  have N15v := N14v.up r15.bel
  have N15y := N14y.up r15.bel
  have B15 := bthen B14 r15.bel
  have X15ks := X14ks.bel r15.bel
  have X15p := X14p.up r15.bel
  have X15m := X14m.go r15.bel
  go_wp2_with fail
  refine (cmp_eq N15v r15.nt (by rw [v3, v15])).mono ?_
  rintro e W16 ⟨rfl, d16, rfl⟩
  have N16v := N15v.dr d16
  have N16y := N15y.dr d16
  have N16a := r15.nt.dr d16
  have B16 := bdr B15 d16
  have X16ks := X15ks.dr d16
  have X16p := X15p.dr d16
  have X16m := X15m.dr d16
  go_wp2_with fail
  refine (of_any 4 _ rfl (by omega) _).mono ?_
  rintro e W17 ⟨A17, n17, c17, x17, rfl, r17⟩
  have l17 := r17.le (k := 1) (by omega)
  have v17 := r17.is
  have t17 := r17.trm
  have N17v := N16v.up r17.bel
  have N17y := N16y.up r17.bel
  have B17 := bthen B16 r17.bel
  have X17ks := X16ks.bel r17.bel
  have X17p := X16p.up r17.bel
  have X17m := X16m.go r17.bel
  go_wp2_with fail
  refine (cmp_eq N17y r17.nt (by rw [v8, v17])).mono ?_
  rintro e W18 ⟨rfl, d18, rfl⟩
  have N18v := N17v.dr d18
  have N18y := N17y.dr d18
  have N18a := r17.nt.dr d18
  have B18 := bdr B17 d18
  have X18ks := X17ks.dr d18
  have X18p := X17p.dr d18
  have X18m := X17m.dr d18
  go_wp2_with fail
  refine (small_any _).mono ?_
  rintro e W19 ⟨V19, rfl, p19, b19⟩
  have N19v := N18v.up b19
  have N19y := N18y.up b19
  have B19 := bthen B18 b19
  have X19ks := X18ks.bel b19
  have X19p := X18p.up b19
  have X19m := X18m.go b19
  go_wp2_with fail
  refine (of_any 7 _ rfl (by omega) _).mono ?_
  rintro e W20 ⟨A20, n20, c20, x20, rfl, r20⟩
  have l20 := r20.le (k := 1) (by omega)
  have v20 := r20.is
  have t20 := r20.trm
  have N20v := N19v.up r20.bel
  have N20y := N19y.up r20.bel
  have B20 := bthen B19 r20.bel
  have X20ks := X19ks.bel r20.bel
  have X20p := p19.up r20.bel
  have X20m := X19m.go r20.bel
  go_wp2_with fail
  refine (holds_any X20ks X20p N20v v3 (by omega) r20.nt v20 (by omega) N20y v8 (by omega) X20m Hs.out).mono ?_
  rintro e W21 ⟨rfl, b21⟩
  have N21v := N20v.up b21
  have N21y := N20y.up b21
  have N21a := r20.nt.up b21
  have B21 := bthen B20 b21
  have X21ks := X20ks.bel b21
  have X21p := X20p.up b21
  have X21m := X20m.go b21
  rw [show 2 ^ (4 % 11) % 23 * (3 ^ 7 % 23) % 23 = 9 by decide, Hmk.out, eq_self]
  go_wp2_with fail
  go_ret
  exact ⟨rfl, B21⟩
end Go.Proofs.YtkhlmcknbangfaaGreatDoor
