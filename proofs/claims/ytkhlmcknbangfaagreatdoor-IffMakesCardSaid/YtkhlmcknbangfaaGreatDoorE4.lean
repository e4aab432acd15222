/- pkey: Right, secretRight, fits of any key. -/
import Derived.Test.YtkhlmcknbangfaaGreatDoorPk
namespace Go.Proofs.YtkhlmcknbangfaaGreatDoor
set_option linter.unusedSimpArgs false
set_option linter.unusedVariables false
open Go.RowKit
set_option linter.unusedVariables false
set_option maxRecDepth 100000

def rightK (N E D : Nat) : Bool := decide (N % 2 = 1 ∧ 16 ≤ bl N ∧ bl N ≤ 1024 ∧ E % 2 = 1 ∧ 1 < E ∧ E < N ∧ D < N)
theorem isOdd_no {w : World} {A : Option Addr} {n c N : Nat} {xs : List Nat} (h : Nt w w.heap.size A n c xs) (hN : val 18446744073709551616 xs = N) (ho : N % 2 = 0) :
    Calls Tryz.prog 91 #[.slice A n c] w fun e w' => e = .returned (.bool false) ∧ w = w' := by
  have hb := bit_any h 0 (by omega)
  rw [hN, show btN N 0 = N % 2 by simp [btN], ho] at hb
  have Hb := Lib.hid hb
  clear hb
  go_enter Tryz.func91, Tryz.ntmps91
  go_wp2_with fail
  refine Hb.out.mono ?_
  rintro e w1 ⟨rfl, rfl⟩
  go_wp2_with fail
  go_ret
  exact ⟨rfl, rfl⟩
set_option maxHeartbeats 4000000 in
theorem kright_b1 {w : World} {v : Value} {N E D : Nat} (h : Pr w v N E D) (hN2 : N % 2 = 0) :
    Calls Tryz.prog 33 #[v] w fun e w' => e = .returned (.int .i64 50) ∧ Below w.heap.size w w' := by
  obtain ⟨A1, n1, c1, x1, A2, n2, c2, x2, A3, n3, c3, x3, rfl, h1', e1, l1, h2', e2, l2, h3', e3, l3⟩ := h.ex
  clear h
  obtain ⟨w0, e0⟩ : ∃ w0, w0 = w.alloc (.cells #[Value.slice A1 n1 c1, .slice A2 n2 c2, .slice A3 n3 c3] 26) := ⟨_, rfl⟩
  obtain ⟨hx0, b0⟩ := box_new e0
  have h1 := h1'.up b0
  have h2 := h2'.up b0
  have h3 := h3'.up b0
  clear h1' h2' h3'
  have q0 := hx0.c0
  have q1 := hx0.c1
  have q2 := hx0.c2
  have hb := bits_any h1 (by omega)
  rw [e1] at hb
  have Hb := Lib.hid hb
  have Ho := Lib.hid (isOdd_no h1 e1 hN2)
  clear hb
  generalize bl N = k at *
  go_enter Tryz.func33, Tryz.ntmps33
  go_wp2_with fail
  rw [← e0]
  clear e0
  refine Hb.out.mono ?_
  rintro e w1 ⟨rfl, rfl⟩
  go_wp2_with fail
  refine Ho.out.mono ?_
  rintro e w1 ⟨rfl, rfl⟩
  go_wp2_with fail
  go_ret
  exact ⟨rfl, b0⟩
set_option maxHeartbeats 4000000 in
theorem kright_b2 {w : World} {v : Value} {N E D : Nat} (h : Pr w v N E D) (hN2 : N % 2 = 1) (hb1 : bl N < 16) :
    Calls Tryz.prog 33 #[v] w fun e w' => e = .returned (.int .i64 50) ∧ Below w.heap.size w w' := by
  obtain ⟨A1, n1, c1, x1, A2, n2, c2, x2, A3, n3, c3, x3, rfl, h1', e1, l1, h2', e2, l2, h3', e3, l3⟩ := h.ex
  clear h
  obtain ⟨w0, e0⟩ : ∃ w0, w0 = w.alloc (.cells #[Value.slice A1 n1 c1, .slice A2 n2 c2, .slice A3 n3 c3] 26) := ⟨_, rfl⟩
  obtain ⟨hx0, b0⟩ := box_new e0
  have h1 := h1'.up b0
  have h2 := h2'.up b0
  have h3 := h3'.up b0
  clear h1' h2' h3'
  have q0 := hx0.c0
  have q1 := hx0.c1
  have q2 := hx0.c2
  have hb := bits_any h1 (by omega)
  rw [e1] at hb
  have Hb := Lib.hid hb
  have Ho := Lib.hid (isOdd_yes h1 e1 hN2)
  clear hb
  generalize bl N = k at *
  go_enter Tryz.func33, Tryz.ntmps33
  go_wp2_with fail
  rw [← e0]
  clear e0
  refine Hb.out.mono ?_
  rintro e w1 ⟨rfl, rfl⟩
  go_wp2_with fail
  refine Ho.out.mono ?_
  rintro e w1 ⟨rfl, rfl⟩
  go_wp2_with fail
  go_ret
  exact ⟨rfl, b0⟩
set_option maxHeartbeats 4000000 in
theorem kright_b3 {w : World} {v : Value} {N E D : Nat} (h : Pr w v N E D) (hN2 : N % 2 = 1) (hb1 : 1024 < bl N) :
    Calls Tryz.prog 33 #[v] w fun e w' => e = .returned (.int .i64 50) ∧ Below w.heap.size w w' := by
  obtain ⟨A1, n1, c1, x1, A2, n2, c2, x2, A3, n3, c3, x3, rfl, h1', e1, l1, h2', e2, l2, h3', e3, l3⟩ := h.ex
  clear h
  obtain ⟨w0, e0⟩ : ∃ w0, w0 = w.alloc (.cells #[Value.slice A1 n1 c1, .slice A2 n2 c2, .slice A3 n3 c3] 26) := ⟨_, rfl⟩
  obtain ⟨hx0, b0⟩ := box_new e0
  have h1 := h1'.up b0
  have h2 := h2'.up b0
  have h3 := h3'.up b0
  clear h1' h2' h3'
  have q0 := hx0.c0
  have q1 := hx0.c1
  have q2 := hx0.c2
  have hb := bits_any h1 (by omega)
  rw [e1] at hb
  have Hb := Lib.hid hb
  have Ho := Lib.hid (isOdd_yes h1 e1 hN2)
  clear hb
  have hb0 : ¬ bl N < 16 := by omega
  generalize bl N = k at *
  go_enter Tryz.func33, Tryz.ntmps33
  go_wp2_with fail
  rw [← e0]
  clear e0
  refine Hb.out.mono ?_
  rintro e w1 ⟨rfl, rfl⟩
  go_wp2_with fail
  refine Ho.out.mono ?_
  rintro e w1 ⟨rfl, rfl⟩
  go_wp2_with fail
  go_ret
  exact ⟨rfl, b0⟩
set_option maxHeartbeats 4000000 in
theorem kright_b4 {w : World} {v : Value} {N E D : Nat} (h : Pr w v N E D) (hN2 : N % 2 = 1) (hb1 : 16 ≤ bl N) (hb2 : bl N ≤ 1024) (hE2 : E % 2 = 0) :
    Calls Tryz.prog 33 #[v] w fun e w' => e = .returned (.int .i64 50) ∧ Below w.heap.size w w' := by
  obtain ⟨A1, n1, c1, x1, A2, n2, c2, x2, A3, n3, c3, x3, rfl, h1', e1, l1, h2', e2, l2, h3', e3, l3⟩ := h.ex
  clear h
  obtain ⟨w0, e0⟩ : ∃ w0, w0 = w.alloc (.cells #[Value.slice A1 n1 c1, .slice A2 n2 c2, .slice A3 n3 c3] 26) := ⟨_, rfl⟩
  obtain ⟨hx0, b0⟩ := box_new e0
  have h1 := h1'.up b0
  have h2 := h2'.up b0
  have h3 := h3'.up b0
  clear h1' h2' h3'
  have q0 := hx0.c0
  have q1 := hx0.c1
  have q2 := hx0.c2
  have hb := bits_any h1 (by omega)
  rw [e1] at hb
  have Hb := Lib.hid hb
  have Ho := Lib.hid (isOdd_yes h1 e1 hN2)
  clear hb
  generalize bl N = k at *
  go_enter Tryz.func33, Tryz.ntmps33
  go_wp2_with fail
  rw [← e0]
  clear e0
  refine Hb.out.mono ?_
  rintro e w1 ⟨rfl, rfl⟩
  go_wp2_with fail
  refine Ho.out.mono ?_
  rintro e w1 ⟨rfl, rfl⟩
  go_wp2_with fail
  have hyd : Bx w0.drew w.heap.size (.slice A1 n1 c1) (.slice A2 n2 c2) (.slice A3 n3 c3) := ⟨hx0.lt, hx0.c0, hx0.c1, hx0.c2⟩
  have h1d := h1.drew
  have h2d := h2.drew
  have h3d := h3.drew
  have bd : Below w0.heap.size w0 w0.drew := (Below.refl _ _).drew
  have Ho2 := Lib.hid (isOdd_no h2d e2 hE2)
  have z0 := hyd.c0
  have z1 := hyd.c1
  have hwd : ∀ d, Bx (w0.drewN d) w.heap.size (.slice A1 n1 c1) (.slice A2 n2 c2) (.slice A3 n3 c3) := fun d => hx0.dr d
  first
   | (go_region_with ((first
      | (go_at_call 91; refine Ho2.out.mono ?_; rintro e w3 ⟨rfl, rfl⟩))))
   | fail
  all_goals
    go_wp2_with fail
    go_ret
    exact ⟨rfl, bthen b0 bd⟩
set_option maxHeartbeats 4000000 in
theorem kright_b5 {w : World} {v : Value} {N E D : Nat} (h : Pr w v N E D) (hN2 : N % 2 = 1) (hb1 : 16 ≤ bl N) (hb2 : bl N ≤ 1024) (hE2 : E % 2 = 1) (hE : E = 1) :
    Calls Tryz.prog 33 #[v] w fun e w' => e = .returned (.int .i64 50) ∧ Below w.heap.size w w' := by
  obtain ⟨A1, n1, c1, x1, A2, n2, c2, x2, A3, n3, c3, x3, rfl, h1', e1, l1, h2', e2, l2, h3', e3, l3⟩ := h.ex
  clear h
  obtain ⟨w0, e0⟩ : ∃ w0, w0 = w.alloc (.cells #[Value.slice A1 n1 c1, .slice A2 n2 c2, .slice A3 n3 c3] 26) := ⟨_, rfl⟩
  obtain ⟨hx0, b0⟩ := box_new e0
  have h1 := h1'.up b0
  have h2 := h2'.up b0
  have h3 := h3'.up b0
  clear h1' h2' h3'
  have q0 := hx0.c0
  have q1 := hx0.c1
  have q2 := hx0.c2
  have hb := bits_any h1 (by omega)
  rw [e1] at hb
  have Hb := Lib.hid hb
  have Ho := Lib.hid (isOdd_yes h1 e1 hN2)
  clear hb
  generalize bl N = k at *
  go_enter Tryz.func33, Tryz.ntmps33
  go_wp2_with fail
  rw [← e0]
  clear e0
  refine Hb.out.mono ?_
  rintro e w1 ⟨rfl, rfl⟩
  go_wp2_with fail
  refine Ho.out.mono ?_
  rintro e w1 ⟨rfl, rfl⟩
  go_wp2_with fail
  have hyd : Bx w0.drew w.heap.size (.slice A1 n1 c1) (.slice A2 n2 c2) (.slice A3 n3 c3) := ⟨hx0.lt, hx0.c0, hx0.c1, hx0.c2⟩
  have h1d := h1.drew
  have h2d := h2.drew
  have h3d := h3.drew
  have bd : Below w0.heap.size w0 w0.drew := (Below.refl _ _).drew
  have Ho2 := Lib.hid (isOdd_yes h2d e2 hE2)
  have z0 := hyd.c0
  have z1 := hyd.c1
  have hwd : ∀ d, Bx (w0.drewN d) w.heap.size (.slice A1 n1 c1) (.slice A2 n2 c2) (.slice A3 n3 c3) := fun d => hx0.dr d
  first
   | (go_region_with ((first
      | (go_at_call 91; refine Ho2.out.mono ?_; rintro e w3 ⟨rfl, rfl⟩)
      | (go_at_call 23; refine (of_any 1 _ rfl (by omega) _).mono ?_; rintro e w4 ⟨A4, n4, c4, x4, rfl, r4⟩
         have g4 := hyd.up r4.bel
         have g40 := g4.c0
         have g41 := g4.c1
         have v4 := r4.is)
      | (go_at_call 26; with_reducible refine (cmp_eq (h2d.up r4.bel) r4.nt (by rw [e2, v4]; exact hE)).mono ?_; rintro e w5 ⟨rfl, d5, rfl⟩
         have g5 := g4.dr d5
         have g50 := g5.c0
         have g51 := g5.c1))))
   | fail
  all_goals
    go_wp2_with fail
    go_ret
    exact ⟨rfl, bthen b0 (bdr (bthen bd r4.bel) d5)⟩
set_option maxHeartbeats 4000000 in
theorem kright_b6 {w : World} {v : Value} {N E D : Nat} (h : Pr w v N E D) (hN2 : N % 2 = 1) (hb1 : 16 ≤ bl N) (hb2 : bl N ≤ 1024) (hE2 : E % 2 = 1) (hE : 1 < E) (hEN : N < E) :
    Calls Tryz.prog 33 #[v] w fun e w' => e = .returned (.int .i64 50) ∧ Below w.heap.size w w' := by
  obtain ⟨A1, n1, c1, x1, A2, n2, c2, x2, A3, n3, c3, x3, rfl, h1', e1, l1, h2', e2, l2, h3', e3, l3⟩ := h.ex
  clear h
  obtain ⟨w0, e0⟩ : ∃ w0, w0 = w.alloc (.cells #[Value.slice A1 n1 c1, .slice A2 n2 c2, .slice A3 n3 c3] 26) := ⟨_, rfl⟩
  obtain ⟨hx0, b0⟩ := box_new e0
  have h1 := h1'.up b0
  have h2 := h2'.up b0
  have h3 := h3'.up b0
  clear h1' h2' h3'
  have q0 := hx0.c0
  have q1 := hx0.c1
  have q2 := hx0.c2
  have hb := bits_any h1 (by omega)
  rw [e1] at hb
  have Hb := Lib.hid hb
  have Ho := Lib.hid (isOdd_yes h1 e1 hN2)
  clear hb
  generalize bl N = k at *
  go_enter Tryz.func33, Tryz.ntmps33
  go_wp2_with fail
  rw [← e0]
  clear e0
  refine Hb.out.mono ?_
  rintro e w1 ⟨rfl, rfl⟩
  go_wp2_with fail
  refine Ho.out.mono ?_
  rintro e w1 ⟨rfl, rfl⟩
  go_wp2_with fail
  have hyd : Bx w0.drew w.heap.size (.slice A1 n1 c1) (.slice A2 n2 c2) (.slice A3 n3 c3) := ⟨hx0.lt, hx0.c0, hx0.c1, hx0.c2⟩
  have h1d := h1.drew
  have h2d := h2.drew
  have h3d := h3.drew
  have bd : Below w0.heap.size w0 w0.drew := (Below.refl _ _).drew
  have Ho2 := Lib.hid (isOdd_yes h2d e2 hE2)
  have z0 := hyd.c0
  have z1 := hyd.c1
  have hwd : ∀ d, Bx (w0.drewN d) w.heap.size (.slice A1 n1 c1) (.slice A2 n2 c2) (.slice A3 n3 c3) := fun d => hx0.dr d
  first
   | (go_region_with ((first
      | (go_at_call 91; refine Ho2.out.mono ?_; rintro e w3 ⟨rfl, rfl⟩)
      | (go_at_call 23; refine (of_any 1 _ rfl (by omega) _).mono ?_; rintro e w4 ⟨A4, n4, c4, x4, rfl, r4⟩
         have g4 := hyd.up r4.bel
         have g40 := g4.c0
         have g41 := g4.c1
         have v4 := r4.is)
      | (go_at_call 26; with_reducible refine (cmp_gt (h2d.up r4.bel) r4.nt (by rw [e2, v4]; exact hE)).mono ?_; rintro e w5 ⟨rfl, d5, rfl⟩
         have g5 := g4.dr d5
         have g50 := g5.c0
         have g51 := g5.c1)
      | (go_at_call 26; with_reducible refine (cmp_gt ((h2d.up r4.bel).dr d5) ((h1d.up r4.bel).dr d5) (by rw [e2, e1]; exact hEN)).mono ?_; rintro e w6 ⟨rfl, d6, rfl⟩))))
   | fail
  all_goals
    go_wp2_with fail
    go_ret
    exact ⟨rfl, bthen b0 (bdr (bthen bd r4.bel) (d5 + d6))⟩
set_option maxHeartbeats 4000000 in
theorem kright_b7 {w : World} {v : Value} {N E D : Nat} (h : Pr w v N E D) (hN2 : N % 2 = 1) (hb1 : 16 ≤ bl N) (hb2 : bl N ≤ 1024) (hE2 : E % 2 = 1) (hE : 1 < E) (hEN : E = N) :
    Calls Tryz.prog 33 #[v] w fun e w' => e = .returned (.int .i64 50) ∧ Below w.heap.size w w' := by
  obtain ⟨A1, n1, c1, x1, A2, n2, c2, x2, A3, n3, c3, x3, rfl, h1', e1, l1, h2', e2, l2, h3', e3, l3⟩ := h.ex
  clear h
  obtain ⟨w0, e0⟩ : ∃ w0, w0 = w.alloc (.cells #[Value.slice A1 n1 c1, .slice A2 n2 c2, .slice A3 n3 c3] 26) := ⟨_, rfl⟩
  obtain ⟨hx0, b0⟩ := box_new e0
  have h1 := h1'.up b0
  have h2 := h2'.up b0
  have h3 := h3'.up b0
  clear h1' h2' h3'
  have q0 := hx0.c0
  have q1 := hx0.c1
  have q2 := hx0.c2
  have hb := bits_any h1 (by omega)
  rw [e1] at hb
  have Hb := Lib.hid hb
  have Ho := Lib.hid (isOdd_yes h1 e1 hN2)
  clear hb
  generalize bl N = k at *
  go_enter Tryz.func33, Tryz.ntmps33
  go_wp2_with fail
  rw [← e0]
  clear e0
  refine Hb.out.mono ?_
  rintro e w1 ⟨rfl, rfl⟩
  go_wp2_with fail
  refine Ho.out.mono ?_
  rintro e w1 ⟨rfl, rfl⟩
  go_wp2_with fail
  have hyd : Bx w0.drew w.heap.size (.slice A1 n1 c1) (.slice A2 n2 c2) (.slice A3 n3 c3) := ⟨hx0.lt, hx0.c0, hx0.c1, hx0.c2⟩
  have h1d := h1.drew
  have h2d := h2.drew
  have h3d := h3.drew
  have bd : Below w0.heap.size w0 w0.drew := (Below.refl _ _).drew
  have Ho2 := Lib.hid (isOdd_yes h2d e2 hE2)
  have z0 := hyd.c0
  have z1 := hyd.c1
  have hwd : ∀ d, Bx (w0.drewN d) w.heap.size (.slice A1 n1 c1) (.slice A2 n2 c2) (.slice A3 n3 c3) := fun d => hx0.dr d
  first
   | (go_region_with ((first
      | (go_at_call 91; refine Ho2.out.mono ?_; rintro e w3 ⟨rfl, rfl⟩)
      | (go_at_call 23; refine (of_any 1 _ rfl (by omega) _).mono ?_; rintro e w4 ⟨A4, n4, c4, x4, rfl, r4⟩
         have g4 := hyd.up r4.bel
         have g40 := g4.c0
         have g41 := g4.c1
         have v4 := r4.is)
      | (go_at_call 26; with_reducible refine (cmp_gt (h2d.up r4.bel) r4.nt (by rw [e2, v4]; exact hE)).mono ?_; rintro e w5 ⟨rfl, d5, rfl⟩
         have g5 := g4.dr d5
         have g50 := g5.c0
         have g51 := g5.c1)
      | (go_at_call 26; with_reducible refine (cmp_eq ((h2d.up r4.bel).dr d5) ((h1d.up r4.bel).dr d5) (by rw [e2, e1]; exact hEN)).mono ?_; rintro e w6 ⟨rfl, d6, rfl⟩))))
   | fail
  all_goals
    go_wp2_with fail
    go_ret
    exact ⟨rfl, bthen b0 (bdr (bthen bd r4.bel) (d5 + d6))⟩
set_option maxHeartbeats 4000000 in
theorem kright_b8 {w : World} {v : Value} {N E D : Nat} (h : Pr w v N E D) (hN2 : N % 2 = 1) (hb1 : 16 ≤ bl N) (hb2 : bl N ≤ 1024) (hE2 : E % 2 = 1) (hE : 1 < E) (hEN : E < N) (hDN : N < D) :
    Calls Tryz.prog 33 #[v] w fun e w' => e = .returned (.int .i64 50) ∧ Below w.heap.size w w' := by
  obtain ⟨A1, n1, c1, x1, A2, n2, c2, x2, A3, n3, c3, x3, rfl, h1', e1, l1, h2', e2, l2, h3', e3, l3⟩ := h.ex
  clear h
  obtain ⟨w0, e0⟩ : ∃ w0, w0 = w.alloc (.cells #[Value.slice A1 n1 c1, .slice A2 n2 c2, .slice A3 n3 c3] 26) := ⟨_, rfl⟩
  obtain ⟨hx0, b0⟩ := box_new e0
  have h1 := h1'.up b0
  have h2 := h2'.up b0
  have h3 := h3'.up b0
  clear h1' h2' h3'
  have q0 := hx0.c0
  have q1 := hx0.c1
  have q2 := hx0.c2
  have hb := bits_any h1 (by omega)
  rw [e1] at hb
  have Hb := Lib.hid hb
  have Ho := Lib.hid (isOdd_yes h1 e1 hN2)
  clear hb
  generalize bl N = k at *
  go_enter Tryz.func33, Tryz.ntmps33
  go_wp2_with fail
  rw [← e0]
  clear e0
  refine Hb.out.mono ?_
  rintro e w1 ⟨rfl, rfl⟩
  go_wp2_with fail
  refine Ho.out.mono ?_
  rintro e w1 ⟨rfl, rfl⟩
  go_wp2_with fail
  have hyd : Bx w0.drew w.heap.size (.slice A1 n1 c1) (.slice A2 n2 c2) (.slice A3 n3 c3) := ⟨hx0.lt, hx0.c0, hx0.c1, hx0.c2⟩
  have h1d := h1.drew
  have h2d := h2.drew
  have h3d := h3.drew
  have bd : Below w0.heap.size w0 w0.drew := (Below.refl _ _).drew
  have Ho2 := Lib.hid (isOdd_yes h2d e2 hE2)
  have z0 := hyd.c0
  have z1 := hyd.c1
  have hwd : ∀ d, Bx (w0.drewN d) w.heap.size (.slice A1 n1 c1) (.slice A2 n2 c2) (.slice A3 n3 c3) := fun d => hx0.dr d
  first
   | (go_region_with ((first
      | (go_at_call 91; refine Ho2.out.mono ?_; rintro e w3 ⟨rfl, rfl⟩)
      | (go_at_call 23; refine (of_any 1 _ rfl (by omega) _).mono ?_; rintro e w4 ⟨A4, n4, c4, x4, rfl, r4⟩
         have g4 := hyd.up r4.bel
         have g40 := g4.c0
         have g41 := g4.c1
         have v4 := r4.is)
      | (go_at_call 26; with_reducible refine (cmp_gt (h2d.up r4.bel) r4.nt (by rw [e2, v4]; exact hE)).mono ?_; rintro e w5 ⟨rfl, d5, rfl⟩
         have g5 := g4.dr d5
         have g50 := g5.c0
         have g51 := g5.c1)
      | (go_at_call 26; with_reducible refine (cmp_lt ((h2d.up r4.bel).dr d5) ((h1d.up r4.bel).dr d5) (by rw [e2, e1]; exact hEN)).mono ?_; rintro e w6 ⟨rfl, d6, rfl⟩))))
   | fail
  all_goals
    have y := g4.dr (d5 + d6)
    have y0 := y.c0
    have y1 := y.c1
    have y2 := y.c2
    go_wp2_with fail
    refine (cmp_gt ((h3d.up r4.bel).dr (d5 + d6)) ((h1d.up r4.bel).dr (d5 + d6)) (by rw [e3, e1]; exact hDN)).mono ?_
    rintro e w7 ⟨rfl, d7, rfl⟩
    have B7 := bdr (w1 := _) (bthen bd r4.bel) (d5 + d6 + d7)
    go_wp2_with fail
    go_ret
    exact ⟨rfl, bthen b0 B7⟩
set_option maxHeartbeats 4000000 in
theorem kright_b9 {w : World} {v : Value} {N E D : Nat} (h : Pr w v N E D) (hN2 : N % 2 = 1) (hb1 : 16 ≤ bl N) (hb2 : bl N ≤ 1024) (hE2 : E % 2 = 1) (hE : 1 < E) (hEN : E < N) (hDN : D = N) :
    Calls Tryz.prog 33 #[v] w fun e w' => e = .returned (.int .i64 50) ∧ Below w.heap.size w w' := by
  obtain ⟨A1, n1, c1, x1, A2, n2, c2, x2, A3, n3, c3, x3, rfl, h1', e1, l1, h2', e2, l2, h3', e3, l3⟩ := h.ex
  clear h
  obtain ⟨w0, e0⟩ : ∃ w0, w0 = w.alloc (.cells #[Value.slice A1 n1 c1, .slice A2 n2 c2, .slice A3 n3 c3] 26) := ⟨_, rfl⟩
  obtain ⟨hx0, b0⟩ := box_new e0
  have h1 := h1'.up b0
  have h2 := h2'.up b0
  have h3 := h3'.up b0
  clear h1' h2' h3'
  have q0 := hx0.c0
  have q1 := hx0.c1
  have q2 := hx0.c2
  have hb := bits_any h1 (by omega)
  rw [e1] at hb
  have Hb := Lib.hid hb
  have Ho := Lib.hid (isOdd_yes h1 e1 hN2)
  clear hb
  generalize bl N = k at *
  go_enter Tryz.func33, Tryz.ntmps33
  go_wp2_with fail
  rw [← e0]
  clear e0
  refine Hb.out.mono ?_
  rintro e w1 ⟨rfl, rfl⟩
  go_wp2_with fail
  refine Ho.out.mono ?_
  rintro e w1 ⟨rfl, rfl⟩
  go_wp2_with fail
  have hyd : Bx w0.drew w.heap.size (.slice A1 n1 c1) (.slice A2 n2 c2) (.slice A3 n3 c3) := ⟨hx0.lt, hx0.c0, hx0.c1, hx0.c2⟩
  have h1d := h1.drew
  have h2d := h2.drew
  have h3d := h3.drew
  have bd : Below w0.heap.size w0 w0.drew := (Below.refl _ _).drew
  have Ho2 := Lib.hid (isOdd_yes h2d e2 hE2)
  have z0 := hyd.c0
  have z1 := hyd.c1
  have hwd : ∀ d, Bx (w0.drewN d) w.heap.size (.slice A1 n1 c1) (.slice A2 n2 c2) (.slice A3 n3 c3) := fun d => hx0.dr d
  first
   | (go_region_with ((first
      | (go_at_call 91; refine Ho2.out.mono ?_; rintro e w3 ⟨rfl, rfl⟩)
      | (go_at_call 23; refine (of_any 1 _ rfl (by omega) _).mono ?_; rintro e w4 ⟨A4, n4, c4, x4, rfl, r4⟩
         have g4 := hyd.up r4.bel
         have g40 := g4.c0
         have g41 := g4.c1
         have v4 := r4.is)
      | (go_at_call 26; with_reducible refine (cmp_gt (h2d.up r4.bel) r4.nt (by rw [e2, v4]; exact hE)).mono ?_; rintro e w5 ⟨rfl, d5, rfl⟩
         have g5 := g4.dr d5
         have g50 := g5.c0
         have g51 := g5.c1)
      | (go_at_call 26; with_reducible refine (cmp_lt ((h2d.up r4.bel).dr d5) ((h1d.up r4.bel).dr d5) (by rw [e2, e1]; exact hEN)).mono ?_; rintro e w6 ⟨rfl, d6, rfl⟩))))
   | fail
  all_goals
    have y := g4.dr (d5 + d6)
    have y0 := y.c0
    have y1 := y.c1
    have y2 := y.c2
    go_wp2_with fail
    refine (cmp_eq ((h3d.up r4.bel).dr (d5 + d6)) ((h1d.up r4.bel).dr (d5 + d6)) (by rw [e3, e1]; exact hDN)).mono ?_
    rintro e w7 ⟨rfl, d7, rfl⟩
    have B7 := bdr (w1 := _) (bthen bd r4.bel) (d5 + d6 + d7)
    go_wp2_with fail
    go_ret
    exact ⟨rfl, bthen b0 B7⟩
theorem kright_bad {w : World} {v : Value} {N E D : Nat} (h : Pr w v N E D) (hR : rightK N E D = false) :
    Calls Tryz.prog 33 #[v] w fun e w' => e = .returned (.int .i64 50) ∧ Below w.heap.size w w' := by
  unfold rightK at hR
  rw [decide_eq_false_iff_not] at hR
  by_cases h1 : N % 2 = 1
  · by_cases h2 : bl N < 16
    · exact kright_b2 h h1 h2
    · by_cases h3 : 1024 < bl N
      · exact kright_b3 h h1 h3
      · by_cases h4 : E % 2 = 1
        · by_cases h5 : E = 1
          · exact kright_b5 h h1 (by omega) (by omega) h4 h5
          · rcases Nat.lt_trichotomy E N with h6 | h6 | h6
            · rcases Nat.lt_trichotomy D N with h7 | h7 | h7
              · exact absurd ⟨h1, by omega, by omega, h4, by omega, h6, h7⟩ hR
              · exact kright_b9 h h1 (by omega) (by omega) h4 (by omega) h6 h7
              · exact kright_b8 h h1 (by omega) (by omega) h4 (by omega) h6 h7
            · exact kright_b7 h h1 (by omega) (by omega) h4 (by omega) h6
            · exact kright_b6 h h1 (by omega) (by omega) h4 (by omega) h6
        · exact kright_b4 h h1 (by omega) (by omega) (by omega)
  · exact kright_b1 h (by omega)
theorem kright_ok {w : World} {v : Value} {N E D : Nat} (h : Pr w v N E D) (hR : rightK N E D = true) :
    Calls Tryz.prog 33 #[v] w fun e w' => e = .returned (.int .i64 0) ∧ Below w.heap.size w w' := by
  unfold rightK at hR
  rw [decide_eq_true_iff] at hR
  obtain ⟨h1, h2, h3, h4, h5, h6, h7⟩ := hR
  exact kright_any h h1 h2 h3 h4 h5 h6 h7
theorem rightK_pos {N E D : Nat} (hR : rightK N E D = true) : 0 < N ∧ (bl N + 7) / 8 ≤ 128 ∧ 2 ≤ (bl N + 7) / 8 := by
  unfold rightK at hR
  rw [decide_eq_true_iff] at hR
  omega
end Go.Proofs.YtkhlmcknbangfaaGreatDoor
