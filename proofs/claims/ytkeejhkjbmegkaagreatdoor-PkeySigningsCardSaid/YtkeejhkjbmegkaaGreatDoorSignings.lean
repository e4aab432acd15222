/- For every key, every text and every signature the Go function PkeySignings returns true and leaves its arguments as they were. No condition but the laid constants. Verify of any key: the program and the reference. clepsydraref05: Verify of any key. clepsydraref05: Verify of any key. clepsydraref05: Verify of any key. clepsydraref05: Verify of any key. clepsydraref05: Verify of any key. clepsydraref05: Verify of any key. Sign and Verify of any key: what they tell; Heavy. -/
import Derived.Test.YtkeejhkjbmegkaaGreatDoorFa

namespace Go.Proofs.YtkeejhkjbmegkaaGreatDoor
open Go.RowKit
set_option linter.unusedVariables false
set_option maxRecDepth 100000
set_option exponentiation.threshold 70000

set_option maxHeartbeats 4000000 in
theorem verify_bad {w : World} {v : Value} {N E D : Nat} (h : Pr w v N E D) {A : Option Addr} {n c : Nat} {xs : List Nat} (hx : Sh.Nb w w.heap.size A n c xs) (hn : n ≤ 1000) {A4 : Option Addr} {m c4 : Nat} {bs : List Nat} (hb : Nb w w.heap.size A4 m c4 bs) (hm : m ≤ 1000) (hR : rightK N E D = false) :
    Calls Tryz.prog 12 #[v, .slice A n c, .slice A4 m c4] w fun e w' => e = .returned (.bool false) ∧ Below w.heap.size w w' := by
  have HR := Lib.hid hR
  clear hR
  have Hh := Lib.hid h
  obtain ⟨A1, n1, c1, x1, A2, n2, c2, x2, A3, n3, c3, x3, rfl, h1', e1, l1, h2', e2, l2, h3', e3, l3⟩ := h.ex
  clear h
  obtain ⟨w0, e0⟩ : ∃ w0, w0 = w.alloc (.cells #[Value.slice A1 n1 c1, .slice A2 n2 c2, .slice A3 n3 c3] 24) := ⟨_, rfl⟩
  obtain ⟨hx0, b0⟩ := box_new e0
  have h1 := h1'.up b0
  have h2 := h2'.up b0
  have h3 := h3'.up b0
  clear h1' h2' h3'
  have q0 := hx0.c0
  have q1 := hx0.c1
  have q2 := hx0.c2
  have gx := hx.go b0
  have gb := hb.up b0
  go_enter Tryz.func12, Tryz.ntmps12
  go_wp2_with fail
  rw [← e0]
  clear e0
  refine (kright_bad (Hh.out.up b0) HR.out).mono ?_
  rintro e w1 ⟨rfl, b1⟩
  go_wp2_with fail
  go_ret
  exact ⟨rfl, bthen b0 b1⟩
set_option maxHeartbeats 4000000 in
theorem verify_pad {w : World} {v : Value} {N E D : Nat} (h : Pr w v N E D) {A : Option Addr} {n c : Nat} {xs : List Nat} (hx : Sh.Nb w w.heap.size A n c xs) (hn : n ≤ 1000) {A4 : Option Addr} {m c4 : Nat} {bs : List Nat} (hb : Nb w w.heap.size A4 m c4 bs) (hm : m ≤ 1000) {s : Nat} (hR : rightK N E D = true) (hs : (bl N + 7) / 8 = s) (h27 : s < 27) :
    Calls Tryz.prog 12 #[v, .slice A n c, .slice A4 m c4] w fun e w' => e = .returned (.bool false) ∧ Below w.heap.size w w' := by
  have HR := Lib.hid hR
  have hs2 : s ≤ 128 := by have := rightK_pos hR; omega
  have hN0 : 0 < N := (rightK_pos hR).1
  have Hs := Lib.hid hs
  clear hR hs
  have Hh := Lib.hid h
  obtain ⟨A1, n1, c1, x1, A2, n2, c2, x2, A3, n3, c3, x3, rfl, h1', e1, l1, h2', e2, l2, h3', e3, l3⟩ := h.ex
  clear h
  obtain ⟨w0, e0⟩ : ∃ w0, w0 = w.alloc (.cells #[Value.slice A1 n1 c1, .slice A2 n2 c2, .slice A3 n3 c3] 24) := ⟨_, rfl⟩
  obtain ⟨hx0, b0⟩ := box_new e0
  have h1 := h1'.up b0
  have h2 := h2'.up b0
  have h3 := h3'.up b0
  clear h1' h2' h3'
  have q0 := hx0.c0
  have q1 := hx0.c1
  have q2 := hx0.c2
  have gx := hx.go b0
  have gb := hb.up b0
  go_enter Tryz.func12, Tryz.ntmps12
  go_wp2_with fail
  rw [← e0]
  clear e0
  refine (kright_ok (Hh.out.up b0) HR.out).mono ?_
  rintro e w1 ⟨rfl, b1⟩
  have hx1 := hx0.up b1
  have p0 := hx1.c0
  have p1 := hx1.c1
  have p2 := hx1.c2
  have hz1 := size_any ((Hh.out.up b0).up b1)
  rw [Hs.out] at hz1
  have Hz1 := Lib.hid hz1
  clear hz1
  go_wp2_with fail
  refine Hz1.out.mono ?_
  rintro e w2 ⟨rfl, b2⟩
  have B2 := bthen b1 b2
  have hx2 := hx0.up B2
  have r0 := hx2.c0
  have r1 := hx2.c1
  have r2 := hx2.c2
  go_wp2_with fail
  go_ret
  exact ⟨rfl, bthen b0 B2⟩
set_option maxHeartbeats 4000000 in
theorem verify_len {w : World} {v : Value} {N E D : Nat} (h : Pr w v N E D) {A : Option Addr} {n c : Nat} {xs : List Nat} (hx : Sh.Nb w w.heap.size A n c xs) (hn : n ≤ 1000) {A4 : Option Addr} {m c4 : Nat} {bs : List Nat} (hb : Nb w w.heap.size A4 m c4 bs) (hm : m ≤ 1000) {s : Nat} (hR : rightK N E D = true) (hs : (bl N + 7) / 8 = s) (h27 : 27 ≤ s) (hms : m ≠ s) :
    Calls Tryz.prog 12 #[v, .slice A n c, .slice A4 m c4] w fun e w' => e = .returned (.bool false) ∧ Below w.heap.size w w' := by
  have HR := Lib.hid hR
  have hs2 : s ≤ 128 := by have := rightK_pos hR; omega
  have hN0 : 0 < N := (rightK_pos hR).1
  have Hs := Lib.hid hs
  have Hms := Lib.hid hms
  clear hR hs hms
  have Hh := Lib.hid h
  obtain ⟨A1, n1, c1, x1, A2, n2, c2, x2, A3, n3, c3, x3, rfl, h1', e1, l1, h2', e2, l2, h3', e3, l3⟩ := h.ex
  clear h
  obtain ⟨w0, e0⟩ : ∃ w0, w0 = w.alloc (.cells #[Value.slice A1 n1 c1, .slice A2 n2 c2, .slice A3 n3 c3] 24) := ⟨_, rfl⟩
  obtain ⟨hx0, b0⟩ := box_new e0
  have h1 := h1'.up b0
  have h2 := h2'.up b0
  have h3 := h3'.up b0
  clear h1' h2' h3'
  have q0 := hx0.c0
  have q1 := hx0.c1
  have q2 := hx0.c2
  have gx := hx.go b0
  have gb := hb.up b0
  go_enter Tryz.func12, Tryz.ntmps12
  go_wp2_with fail
  rw [← e0]
  clear e0
  refine (kright_ok (Hh.out.up b0) HR.out).mono ?_
  rintro e w1 ⟨rfl, b1⟩
  have hx1 := hx0.up b1
  have p0 := hx1.c0
  have p1 := hx1.c1
  have p2 := hx1.c2
  have hz1 := size_any ((Hh.out.up b0).up b1)
  rw [Hs.out] at hz1
  have Hz1 := Lib.hid hz1
  clear hz1
  go_wp2_with fail
  refine Hz1.out.mono ?_
  rintro e w2 ⟨rfl, b2⟩
  have B2 := bthen b1 b2
  have hx2 := hx0.up B2
  have r0 := hx2.c0
  have r1 := hx2.c1
  have r2 := hx2.c2
  go_wp2_with fail
  refine (fits_wrong ((Hh.out.up b0).up B2) Hs.out Hms.out).mono ?_
  rintro e w3 ⟨rfl, b3⟩
  go_wp2_with fail
  go_ret
  exact ⟨rfl, bthen b0 (bthen B2 b3)⟩
end Go.Proofs.YtkeejhkjbmegkaaGreatDoor
namespace Go.Proofs.YtkeejhkjbmegkaaGreatDoor
open Go.RowKit
set_option linter.unusedVariables false
set_option maxRecDepth 100000
set_option exponentiation.threshold 70000

set_option maxHeartbeats 4000000 in
theorem rverify_bad {w : World} {v : Value} {N E D : Nat} (h : Pr w v N E D) {A : Option Addr} {n c : Nat} {xs : List Nat} (hx : Sh.Nb w w.heap.size A n c xs) (hn : n ≤ 1000) {A4 : Option Addr} {m c4 : Nat} {bs : List Nat} (hb : Nb w w.heap.size A4 m c4 bs) (hm : m ≤ 1000) (hR : rightK N E D = false) :
    Calls Tryz.prog 13 #[v, .slice A n c, .slice A4 m c4] w fun e w' => e = .returned (.bool false) ∧ Below w.heap.size w w' := by
  have HR := Lib.hid hR
  clear hR
  have Hh := Lib.hid h
  obtain ⟨A1, n1, c1, x1, A2, n2, c2, x2, A3, n3, c3, x3, rfl, h1', e1, l1, h2', e2, l2, h3', e3, l3⟩ := h.ex
  clear h
  obtain ⟨w0, e0⟩ : ∃ w0, w0 = w.alloc (.cells #[Value.slice A1 n1 c1, .slice A2 n2 c2, .slice A3 n3 c3] 24) := ⟨_, rfl⟩
  obtain ⟨hx0, b0⟩ := box_new e0
  have h1 := h1'.up b0
  have h2 := h2'.up b0
  have h3 := h3'.up b0
  clear h1' h2' h3'
  have q0 := hx0.c0
  have q1 := hx0.c1
  have q2 := hx0.c2
  have gx := hx.go b0
  have gb := hb.up b0
  go_enter Tryz.func13, Tryz.ntmps13
  go_wp2_with fail
  rw [← e0]
  clear e0
  have hyd : Bx w0.drew w.heap.size (.slice A1 n1 c1) (.slice A2 n2 c2) (.slice A3 n3 c3) := ⟨hx0.lt, hx0.c0, hx0.c1, hx0.c2⟩
  have bd : Below w0.heap.size w0 w0.drew := (Below.refl _ _).drew
  have z0 := hyd.c0
  have z1 := hyd.c1
  have z2 := hyd.c2
  have pd := (Hh.out.up b0).up bd
  have gbd := gb.up bd
  have h1d := h1.up bd
  first
   | (go_region_with ((first
      | (go_at_call 48; refine (rkright_bad pd HR.out).mono ?_; rintro e w3 ⟨rfl, b3⟩
         have g3 := hyd.up b3
         have g30 := g3.c0
         have g31 := g3.c1
         have g32 := g3.c2))))
   | fail
  all_goals
    go_wp2_with fail
    go_ret
    exact ⟨rfl, bthen b0 (bthen bd b3)⟩
end Go.Proofs.YtkeejhkjbmegkaaGreatDoor
namespace Go.Proofs.YtkeejhkjbmegkaaGreatDoor
open Go.RowKit
set_option linter.unusedVariables false
set_option maxRecDepth 100000
set_option exponentiation.threshold 70000

set_option maxHeartbeats 4000000 in
theorem rverify_pad {w : World} {v : Value} {N E D : Nat} (h : Pr w v N E D) {A : Option Addr} {n c : Nat} {xs : List Nat} (hx : Sh.Nb w w.heap.size A n c xs) (hn : n ≤ 1000) {A4 : Option Addr} {m c4 : Nat} {bs : List Nat} (hb : Nb w w.heap.size A4 m c4 bs) (hm : m ≤ 1000) {s : Nat} (hR : rightK N E D = true) (hs : (bl N + 7) / 8 = s) (h27 : s < 27) :
    Calls Tryz.prog 13 #[v, .slice A n c, .slice A4 m c4] w fun e w' => e = .returned (.bool false) ∧ Below w.heap.size w w' := by
  have HR := Lib.hid hR
  have hs2 : s ≤ 128 := by have := rightK_pos hR; omega
  have hN0 : 0 < N := (rightK_pos hR).1
  have hd27 : decide ((s : Int) < 27) = true := by simp; omega
  have Hs := Lib.hid hs
  clear hR hs
  have Hh := Lib.hid h
  obtain ⟨A1, n1, c1, x1, A2, n2, c2, x2, A3, n3, c3, x3, rfl, h1', e1, l1, h2', e2, l2, h3', e3, l3⟩ := h.ex
  clear h
  obtain ⟨w0, e0⟩ : ∃ w0, w0 = w.alloc (.cells #[Value.slice A1 n1 c1, .slice A2 n2 c2, .slice A3 n3 c3] 24) := ⟨_, rfl⟩
  obtain ⟨hx0, b0⟩ := box_new e0
  have h1 := h1'.up b0
  have h2 := h2'.up b0
  have h3 := h3'.up b0
  clear h1' h2' h3'
  have q0 := hx0.c0
  have q1 := hx0.c1
  have q2 := hx0.c2
  have gx := hx.go b0
  have gb := hb.up b0
  go_enter Tryz.func13, Tryz.ntmps13
  go_wp2_with fail
  rw [← e0]
  clear e0
  have hyd : Bx w0.drew w.heap.size (.slice A1 n1 c1) (.slice A2 n2 c2) (.slice A3 n3 c3) := ⟨hx0.lt, hx0.c0, hx0.c1, hx0.c2⟩
  have bd : Below w0.heap.size w0 w0.drew := (Below.refl _ _).drew
  have z0 := hyd.c0
  have z1 := hyd.c1
  have z2 := hyd.c2
  have pd := (Hh.out.up b0).up bd
  have gbd := gb.up bd
  have h1d := h1.up bd
  first
   | (go_region_with ((first
      | (go_at_call 48; refine (rkright_ok pd HR.out).mono ?_; rintro e w3 ⟨rfl, b3⟩
         have g3 := hyd.up b3
         have g30 := g3.c0
         have g31 := g3.c1
         have g32 := g3.c2)
      | (go_at_call 42; have ct := rSize_any (pd.up b3); rw [Hs.out] at ct; (with_reducible refine ct.mono ?_); rintro e w4 ⟨rfl, b4⟩
         have g4 := g3.up b4
         have g40 := g4.c0
         have g41 := g4.c1
         have g42 := g4.c2))))
   | fail
  all_goals
    go_wp2_with fail
    go_ret
    exact ⟨rfl, bthen b0 (bthen (bthen bd b3) b4)⟩
end Go.Proofs.YtkeejhkjbmegkaaGreatDoor
namespace Go.Proofs.YtkeejhkjbmegkaaGreatDoor
open Go.RowKit
set_option linter.unusedVariables false
set_option maxRecDepth 100000
set_option exponentiation.threshold 70000

set_option maxHeartbeats 4000000 in
theorem rverify_len {w : World} {v : Value} {N E D : Nat} (h : Pr w v N E D) {A : Option Addr} {n c : Nat} {xs : List Nat} (hx : Sh.Nb w w.heap.size A n c xs) (hn : n ≤ 1000) {A4 : Option Addr} {m c4 : Nat} {bs : List Nat} (hb : Nb w w.heap.size A4 m c4 bs) (hm : m ≤ 1000) {s : Nat} (hR : rightK N E D = true) (hs : (bl N + 7) / 8 = s) (h27 : 27 ≤ s) (hms : m ≠ s) :
    Calls Tryz.prog 13 #[v, .slice A n c, .slice A4 m c4] w fun e w' => e = .returned (.bool false) ∧ Below w.heap.size w w' := by
  have HR := Lib.hid hR
  have hs2 : s ≤ 128 := by have := rightK_pos hR; omega
  have hN0 : 0 < N := (rightK_pos hR).1
  have hd27 : decide ((s : Int) < 27) = false := by simp; omega
  have Hs := Lib.hid hs
  have hmd : ((m : Int) != (s : Int)) = true := by simp; omega
  clear hR hs hms
  have Hh := Lib.hid h
  obtain ⟨A1, n1, c1, x1, A2, n2, c2, x2, A3, n3, c3, x3, rfl, h1', e1, l1, h2', e2, l2, h3', e3, l3⟩ := h.ex
  clear h
  obtain ⟨w0, e0⟩ : ∃ w0, w0 = w.alloc (.cells #[Value.slice A1 n1 c1, .slice A2 n2 c2, .slice A3 n3 c3] 24) := ⟨_, rfl⟩
  obtain ⟨hx0, b0⟩ := box_new e0
  have h1 := h1'.up b0
  have h2 := h2'.up b0
  have h3 := h3'.up b0
  clear h1' h2' h3'
  have q0 := hx0.c0
  have q1 := hx0.c1
  have q2 := hx0.c2
  have gx := hx.go b0
  have gb := hb.up b0
  go_enter Tryz.func13, Tryz.ntmps13
  go_wp2_with fail
  rw [← e0]
  clear e0
  have hyd : Bx w0.drew w.heap.size (.slice A1 n1 c1) (.slice A2 n2 c2) (.slice A3 n3 c3) := ⟨hx0.lt, hx0.c0, hx0.c1, hx0.c2⟩
  have bd : Below w0.heap.size w0 w0.drew := (Below.refl _ _).drew
  have z0 := hyd.c0
  have z1 := hyd.c1
  have z2 := hyd.c2
  have pd := (Hh.out.up b0).up bd
  have gbd := gb.up bd
  have h1d := h1.up bd
  first
   | (go_region_with ((first
      | (go_at_call 48; refine (rkright_ok pd HR.out).mono ?_; rintro e w3 ⟨rfl, b3⟩
         have g3 := hyd.up b3
         have g30 := g3.c0
         have g31 := g3.c1
         have g32 := g3.c2)
      | (go_at_call 42; have ct := rSize_any (pd.up b3); rw [Hs.out] at ct; (with_reducible refine ct.mono ?_); rintro e w4 ⟨rfl, b4⟩
         have g4 := g3.up b4
         have g40 := g4.c0
         have g41 := g4.c1
         have g42 := g4.c2)
      | (go_at_call 42; have ct := rSize_any ((pd.up b3).up b4); rw [Hs.out] at ct; (with_reducible refine ct.mono ?_); rintro e w5 ⟨rfl, b5⟩
         have g5 := g4.up b5
         have g50 := g5.c0
         have g51 := g5.c1
         have g52 := g5.c2))))
   | fail
  all_goals
    go_wp2_with fail
    go_ret
    exact ⟨rfl, bthen b0 (bthen (bthen (bthen bd b3) b4) b5)⟩
end Go.Proofs.YtkeejhkjbmegkaaGreatDoor
namespace Go.Proofs.YtkeejhkjbmegkaaGreatDoor
open Go.RowKit
set_option linter.unusedVariables false
set_option maxRecDepth 100000
set_option exponentiation.threshold 70000

set_option maxHeartbeats 4000000 in
theorem rverify_big {w : World} {v : Value} {N E D : Nat} (h : Pr w v N E D) {A : Option Addr} {n c : Nat} {xs : List Nat} (hx : Sh.Nb w w.heap.size A n c xs) (hn : n ≤ 1000) {A4 : Option Addr} {m c4 : Nat} {bs : List Nat} (hb : Nb w w.heap.size A4 m c4 bs) (hm : m ≤ 1000) {s : Nat} (hR : rightK N E D = true) (hs : (bl N + 7) / 8 = s) (h27 : 27 ≤ s) (hms : m = s) (hv : N < val 256 bs.reverse) :
    Calls Tryz.prog 13 #[v, .slice A n c, .slice A4 m c4] w fun e w' => e = .returned (.bool false) ∧ Below w.heap.size w w' := by
  have HR := Lib.hid hR
  have hs2 : s ≤ 128 := by have := rightK_pos hR; omega
  have hN0 : 0 < N := (rightK_pos hR).1
  have hvb : val 256 bs.reverse < 18446744073709551616 ^ 1000 := by
    have h1 := val_lt (β := 256) (xs := bs.reverse) (fun y hy => hb.lim y (List.mem_reverse.1 hy))
    rw [List.length_reverse, hb.len] at h1
    refine Nat.lt_of_lt_of_le h1 ?_
    rw [show (256 : Nat) = 2 ^ 8 by rfl, show (18446744073709551616 : Nat) = 2 ^ 64 by rfl, ← Nat.pow_mul, ← Nat.pow_mul]
    exact Nat.pow_le_pow_right (by omega) (by omega)
  have Hvb := Lib.hid hvb
  clear hvb
  have hd27 : decide ((s : Int) < 27) = false := by simp; omega
  have Hs := Lib.hid hs
  have hmd : ((m : Int) != (s : Int)) = false := by simp; omega
  clear hR hs hms
  have Hh := Lib.hid h
  obtain ⟨A1, n1, c1, x1, A2, n2, c2, x2, A3, n3, c3, x3, rfl, h1', e1, l1, h2', e2, l2, h3', e3, l3⟩ := h.ex
  clear h
  obtain ⟨w0, e0⟩ : ∃ w0, w0 = w.alloc (.cells #[Value.slice A1 n1 c1, .slice A2 n2 c2, .slice A3 n3 c3] 24) := ⟨_, rfl⟩
  obtain ⟨hx0, b0⟩ := box_new e0
  have h1 := h1'.up b0
  have h2 := h2'.up b0
  have h3 := h3'.up b0
  clear h1' h2' h3'
  have q0 := hx0.c0
  have q1 := hx0.c1
  have q2 := hx0.c2
  have gx := hx.go b0
  have gb := hb.up b0
  go_enter Tryz.func13, Tryz.ntmps13
  go_wp2_with fail
  rw [← e0]
  clear e0
  have hyd : Bx w0.drew w.heap.size (.slice A1 n1 c1) (.slice A2 n2 c2) (.slice A3 n3 c3) := ⟨hx0.lt, hx0.c0, hx0.c1, hx0.c2⟩
  have bd : Below w0.heap.size w0 w0.drew := (Below.refl _ _).drew
  have z0 := hyd.c0
  have z1 := hyd.c1
  have z2 := hyd.c2
  have pd := (Hh.out.up b0).up bd
  have gbd := gb.up bd
  have h1d := h1.up bd
  first
   | (go_region_held3 (fun w' => w'.cell? ⟨w.heap.size, 0, none⟩ = some (Value.slice A1 n1 c1) ∧ w'.cell? ⟨w.heap.size, 1, none⟩ = some (Value.slice A2 n2 c2) ∧ w'.cell? ⟨w.heap.size, 2, none⟩ = some (Value.slice A3 n3 c3))
    (first | exact ⟨g7.c0, g7.c1, g7.c2⟩ | exact ⟨g6.c0, g6.c1, g6.c2⟩ | exact ⟨g5.c0, g5.c1, g5.c2⟩ | exact ⟨g4.c0, g4.c1, g4.c2⟩ | exact ⟨g3.c0, g3.c1, g3.c2⟩ | exact ⟨hyd.c0, hyd.c1, hyd.c2⟩)
    ((first
      | (go_at_call 48; refine (rkright_ok pd HR.out).mono ?_; rintro e w3 ⟨rfl, b3⟩
         have g3 := hyd.up b3
         have g30 := g3.c0
         have g31 := g3.c1
         have g32 := g3.c2)
      | (go_at_call 42; have ct := rSize_any (pd.up b3); rw [Hs.out] at ct; (with_reducible refine ct.mono ?_); rintro e w4 ⟨rfl, b4⟩
         have g4 := g3.up b4
         have g40 := g4.c0
         have g41 := g4.c1
         have g42 := g4.c2)
      | (go_at_call 42; have ct := rSize_any ((pd.up b3).up b4); rw [Hs.out] at ct; (with_reducible refine ct.mono ?_); rintro e w5 ⟨rfl, b5⟩
         have g5 := g4.up b5
         have g50 := g5.c0
         have g51 := g5.c1
         have g52 := g5.c2)
      | (go_at_call 50; refine (Rn.rread_any (((gbd.up b3).up b4).up b5) (by omega)).mono ?_; intro e w6 hr6; obtain ⟨A6, n6, c6, x6, rfl, r6⟩ := hr6.s
         have g6 := g5.up r6.bel
         have g60 := g6.c0
         have g61 := g6.c1
         have g62 := g6.c2
         have v6 := r6.is
         have l6 : n6 ≤ 1000 := r6.le Hvb.out)
      | (go_at_call 49; refine (rcmp_gt r6.nt ((((h1d.up b3).up b4).up b5).up r6.bel) (by omega) (by omega) (by rw [v6, e1]; exact hv)).mono ?_; rintro e w7 ⟨rfl, b7⟩
         have g7 := g6.up b7
         have g70 := g7.c0
         have g71 := g7.c1
         have g72 := g7.c2))))
   | fail
  all_goals
    go_wp2_with fail
    go_ret
    exact ⟨rfl, bthen b0 (bthen (bthen (bthen (bthen (bthen bd b3) b4) b5) r6.bel) b7)⟩
end Go.Proofs.YtkeejhkjbmegkaaGreatDoor
namespace Go.Proofs.YtkeejhkjbmegkaaGreatDoor
open Go.RowKit
set_option linter.unusedVariables false
set_option maxRecDepth 100000
set_option exponentiation.threshold 70000

set_option maxHeartbeats 4000000 in
theorem rverify_beq {w : World} {v : Value} {N E D : Nat} (h : Pr w v N E D) {A : Option Addr} {n c : Nat} {xs : List Nat} (hx : Sh.Nb w w.heap.size A n c xs) (hn : n ≤ 1000) {A4 : Option Addr} {m c4 : Nat} {bs : List Nat} (hb : Nb w w.heap.size A4 m c4 bs) (hm : m ≤ 1000) {s : Nat} (hR : rightK N E D = true) (hs : (bl N + 7) / 8 = s) (h27 : 27 ≤ s) (hms : m = s) (hv : val 256 bs.reverse = N) :
    Calls Tryz.prog 13 #[v, .slice A n c, .slice A4 m c4] w fun e w' => e = .returned (.bool false) ∧ Below w.heap.size w w' := by
  have HR := Lib.hid hR
  have hs2 : s ≤ 128 := by have := rightK_pos hR; omega
  have hN0 : 0 < N := (rightK_pos hR).1
  have hvb : val 256 bs.reverse < 18446744073709551616 ^ 1000 := by
    have h1 := val_lt (β := 256) (xs := bs.reverse) (fun y hy => hb.lim y (List.mem_reverse.1 hy))
    rw [List.length_reverse, hb.len] at h1
    refine Nat.lt_of_lt_of_le h1 ?_
    rw [show (256 : Nat) = 2 ^ 8 by rfl, show (18446744073709551616 : Nat) = 2 ^ 64 by rfl, ← Nat.pow_mul, ← Nat.pow_mul]
    exact Nat.pow_le_pow_right (by omega) (by omega)
  have Hvb := Lib.hid hvb
  clear hvb
  have hd27 : decide ((s : Int) < 27) = false := by simp; omega
  have Hs := Lib.hid hs
  have hmd : ((m : Int) != (s : Int)) = false := by simp; omega
  clear hR hs hms
  have Hh := Lib.hid h
  obtain ⟨A1, n1, c1, x1, A2, n2, c2, x2, A3, n3, c3, x3, rfl, h1', e1, l1, h2', e2, l2, h3', e3, l3⟩ := h.ex
  clear h
  obtain ⟨w0, e0⟩ : ∃ w0, w0 = w.alloc (.cells #[Value.slice A1 n1 c1, .slice A2 n2 c2, .slice A3 n3 c3] 24) := ⟨_, rfl⟩
  obtain ⟨hx0, b0⟩ := box_new e0
  have h1 := h1'.up b0
  have h2 := h2'.up b0
  have h3 := h3'.up b0
  clear h1' h2' h3'
  have q0 := hx0.c0
  have q1 := hx0.c1
  have q2 := hx0.c2
  have gx := hx.go b0
  have gb := hb.up b0
  go_enter Tryz.func13, Tryz.ntmps13
  go_wp2_with fail
  rw [← e0]
  clear e0
  have hyd : Bx w0.drew w.heap.size (.slice A1 n1 c1) (.slice A2 n2 c2) (.slice A3 n3 c3) := ⟨hx0.lt, hx0.c0, hx0.c1, hx0.c2⟩
  have bd : Below w0.heap.size w0 w0.drew := (Below.refl _ _).drew
  have z0 := hyd.c0
  have z1 := hyd.c1
  have z2 := hyd.c2
  have pd := (Hh.out.up b0).up bd
  have gbd := gb.up bd
  have h1d := h1.up bd
  first
   | (go_region_held3 (fun w' => w'.cell? ⟨w.heap.size, 0, none⟩ = some (Value.slice A1 n1 c1) ∧ w'.cell? ⟨w.heap.size, 1, none⟩ = some (Value.slice A2 n2 c2) ∧ w'.cell? ⟨w.heap.size, 2, none⟩ = some (Value.slice A3 n3 c3))
    (first | exact ⟨g7.c0, g7.c1, g7.c2⟩ | exact ⟨g6.c0, g6.c1, g6.c2⟩ | exact ⟨g5.c0, g5.c1, g5.c2⟩ | exact ⟨g4.c0, g4.c1, g4.c2⟩ | exact ⟨g3.c0, g3.c1, g3.c2⟩ | exact ⟨hyd.c0, hyd.c1, hyd.c2⟩)
    ((first
      | (go_at_call 48; refine (rkright_ok pd HR.out).mono ?_; rintro e w3 ⟨rfl, b3⟩
         have g3 := hyd.up b3
         have g30 := g3.c0
         have g31 := g3.c1
         have g32 := g3.c2)
      | (go_at_call 42; have ct := rSize_any (pd.up b3); rw [Hs.out] at ct; (with_reducible refine ct.mono ?_); rintro e w4 ⟨rfl, b4⟩
         have g4 := g3.up b4
         have g40 := g4.c0
         have g41 := g4.c1
         have g42 := g4.c2)
      | (go_at_call 42; have ct := rSize_any ((pd.up b3).up b4); rw [Hs.out] at ct; (with_reducible refine ct.mono ?_); rintro e w5 ⟨rfl, b5⟩
         have g5 := g4.up b5
         have g50 := g5.c0
         have g51 := g5.c1
         have g52 := g5.c2)
      | (go_at_call 50; refine (Rn.rread_any (((gbd.up b3).up b4).up b5) (by omega)).mono ?_; intro e w6 hr6; obtain ⟨A6, n6, c6, x6, rfl, r6⟩ := hr6.s
         have g6 := g5.up r6.bel
         have g60 := g6.c0
         have g61 := g6.c1
         have g62 := g6.c2
         have v6 := r6.is
         have l6 : n6 ≤ 1000 := r6.le Hvb.out)
      | (go_at_call 49; refine (rcmp_eq r6.nt ((((h1d.up b3).up b4).up b5).up r6.bel) (by omega) (by omega) (by rw [v6, e1]; exact hv)).mono ?_; rintro e w7 ⟨rfl, b7⟩
         have g7 := g6.up b7
         have g70 := g7.c0
         have g71 := g7.c1
         have g72 := g7.c2))))
   | fail
  all_goals
    go_wp2_with fail
    go_ret
    exact ⟨rfl, bthen b0 (bthen (bthen (bthen (bthen (bthen bd b3) b4) b5) r6.bel) b7)⟩
end Go.Proofs.YtkeejhkjbmegkaaGreatDoor
namespace Go.Proofs.YtkeejhkjbmegkaaGreatDoor
open Go.RowKit
set_option linter.unusedVariables false
set_option maxRecDepth 100000
set_option exponentiation.threshold 70000

set_option maxHeartbeats 4000000 in
theorem rverify_ok {w : World} {v : Value} {N E D : Nat} (h : Pr w v N E D) {A : Option Addr} {n c : Nat} {xs : List Nat} (hx : Sh.Nb w w.heap.size A n c xs) (hn : n ≤ 1000) {A4 : Option Addr} {m c4 : Nat} {bs : List Nat} (hb : Nb w w.heap.size A4 m c4 bs) (hm : m ≤ 1000) {s : Nat} (hR : rightK N E D = true) (hs : (bl N + 7) / 8 = s) (h27 : 27 ≤ s) (hms : m = s) (hv : val 256 bs.reverse < N) :
    Calls Tryz.prog 13 #[v, .slice A n c, .slice A4 m c4] w fun e w' => e = .returned (.bool ((bstr (bts (val 256 bs.reverse ^ E % N) s)).toList == (bstr (signN s xs)).toList)) ∧ Below w.heap.size w w' := by
  have HR := Lib.hid hR
  have hs2 : s ≤ 128 := by have := rightK_pos hR; omega
  have hN0 : 0 < N := (rightK_pos hR).1
  have hvb : val 256 bs.reverse < 18446744073709551616 ^ 1000 := by
    have h1 := val_lt (β := 256) (xs := bs.reverse) (fun y hy => hb.lim y (List.mem_reverse.1 hy))
    rw [List.length_reverse, hb.len] at h1
    refine Nat.lt_of_lt_of_le h1 ?_
    rw [show (256 : Nat) = 2 ^ 8 by rfl, show (18446744073709551616 : Nat) = 2 ^ 64 by rfl, ← Nat.pow_mul, ← Nat.pow_mul]
    exact Nat.pow_le_pow_right (by omega) (by omega)
  have Hvb := Lib.hid hvb
  clear hvb
  obtain ⟨S1, hS1⟩ : ∃ S, bstr (bts (val 256 bs.reverse ^ E % N) s) = S := ⟨_, rfl⟩
  obtain ⟨S2, hS2⟩ : ∃ S, bstr (signN s xs) = S := ⟨_, rfl⟩
  rw [hS1, hS2]
  obtain ⟨rb, hrb⟩ : ∃ b, (S1.toList == S2.toList) = b := ⟨_, rfl⟩
  rw [hrb]
  have HS1 := Lib.hid hS1
  have HS2 := Lib.hid hS2
  clear hS1 hS2
  have hwk := fun W (k : Pr W v N E D) {A n c pw xs} (kp : Nt W W.heap.size A n c xs) (ep : val 18446744073709551616 xs = pw) (lp : n ≤ 100) {A4 m c4 bs} (kb : Nb W W.heap.size A4 m c4 bs) (km : m ≤ 1000) => rwork_any k hN0 hs (by omega) kp ep lp kb km
  have Hwk := Lib.hid hwk
  clear hwk
  have hd27 : decide ((s : Int) < 27) = false := by simp; omega
  have Hs := Lib.hid hs
  have hmd : ((m : Int) != (s : Int)) = false := by simp; omega
  clear hR hs hms
  have Hh := Lib.hid h
  obtain ⟨A1, n1, c1, x1, A2, n2, c2, x2, A3, n3, c3, x3, rfl, h1', e1, l1, h2', e2, l2, h3', e3, l3⟩ := h.ex
  clear h
  obtain ⟨w0, e0⟩ : ∃ w0, w0 = w.alloc (.cells #[Value.slice A1 n1 c1, .slice A2 n2 c2, .slice A3 n3 c3] 24) := ⟨_, rfl⟩
  obtain ⟨hx0, b0⟩ := box_new e0
  have h1 := h1'.up b0
  have h2 := h2'.up b0
  have h3 := h3'.up b0
  clear h1' h2' h3'
  have q0 := hx0.c0
  have q1 := hx0.c1
  have q2 := hx0.c2
  have gx := hx.go b0
  have gb := hb.up b0
  go_enter Tryz.func13, Tryz.ntmps13
  go_wp2_with fail
  rw [← e0]
  clear e0
  have hyd : Bx w0.drew w.heap.size (.slice A1 n1 c1) (.slice A2 n2 c2) (.slice A3 n3 c3) := ⟨hx0.lt, hx0.c0, hx0.c1, hx0.c2⟩
  have bd : Below w0.heap.size w0 w0.drew := (Below.refl _ _).drew
  have z0 := hyd.c0
  have z1 := hyd.c1
  have z2 := hyd.c2
  have pd := (Hh.out.up b0).up bd
  have gbd := gb.up bd
  have h1d := h1.up bd
  first
   | (go_region_held3 (fun w' => w'.cell? ⟨w.heap.size, 0, none⟩ = some (Value.slice A1 n1 c1) ∧ w'.cell? ⟨w.heap.size, 1, none⟩ = some (Value.slice A2 n2 c2) ∧ w'.cell? ⟨w.heap.size, 2, none⟩ = some (Value.slice A3 n3 c3))
    (first | exact ⟨g7.c0, g7.c1, g7.c2⟩ | exact ⟨g6.c0, g6.c1, g6.c2⟩ | exact ⟨g5.c0, g5.c1, g5.c2⟩ | exact ⟨g4.c0, g4.c1, g4.c2⟩ | exact ⟨g3.c0, g3.c1, g3.c2⟩ | exact ⟨hyd.c0, hyd.c1, hyd.c2⟩)
    ((first
      | (go_at_call 48; refine (rkright_ok pd HR.out).mono ?_; rintro e w3 ⟨rfl, b3⟩
         have g3 := hyd.up b3
         have g30 := g3.c0
         have g31 := g3.c1
         have g32 := g3.c2)
      | (go_at_call 42; have ct := rSize_any (pd.up b3); rw [Hs.out] at ct; (with_reducible refine ct.mono ?_); rintro e w4 ⟨rfl, b4⟩
         have g4 := g3.up b4
         have g40 := g4.c0
         have g41 := g4.c1
         have g42 := g4.c2)
      | (go_at_call 42; have ct := rSize_any ((pd.up b3).up b4); rw [Hs.out] at ct; (with_reducible refine ct.mono ?_); rintro e w5 ⟨rfl, b5⟩
         have g5 := g4.up b5
         have g50 := g5.c0
         have g51 := g5.c1
         have g52 := g5.c2)
      | (go_at_call 50; refine (Rn.rread_any (((gbd.up b3).up b4).up b5) (by omega)).mono ?_; intro e w6 hr6; obtain ⟨A6, n6, c6, x6, rfl, r6⟩ := hr6.s
         have g6 := g5.up r6.bel
         have g60 := g6.c0
         have g61 := g6.c1
         have g62 := g6.c2
         have v6 := r6.is
         have l6 : n6 ≤ 1000 := r6.le Hvb.out)
      | (go_at_call 49; refine (rcmp_lt r6.nt ((((h1d.up b3).up b4).up b5).up r6.bel) (by omega) (by omega) (by rw [v6, e1]; exact hv)).mono ?_; rintro e w7 ⟨rfl, b7⟩
         have g7 := g6.up b7
         have g70 := g7.c0
         have g71 := g7.c1
         have g72 := g7.c2))))
   | fail
  all_goals
    have B7 := (bthen (bthen (bthen (bthen (bthen bd b3) b4) b5) r6.bel) b7)
    go_wp2_with fail
    have hye : Bx w7.drew w.heap.size (.slice A1 n1 c1) (.slice A2 n2 c2) (.slice A3 n3 c3) := ⟨g7.lt, g7.c0, g7.c1, g7.c2⟩
    have be : Below w7.heap.size w7 w7.drew := (Below.refl _ _).drew
    have Be := bthen B7 be
    have pe := (Hh.out.up b0).up Be
    have gbe := gb.up Be
    have gxe := gx.go Be
    have h2e := h2.up Be
    have y0 := hye.c0
    have y1 := hye.c1
    have y2 := hye.c2
    first
     | (go_region_with ((first
        | (go_at_call 43; refine (Hwk.out _ pe h2e e2 l2 gbe (by omega)).mono ?_; rintro e w8 ⟨A8, c8, rfl, m8, _, b8⟩
           have g8 := hye.up b8
           have g80 := g8.c0
           have g81 := g8.c1
           have g82 := g8.c2
           have cv8 := conv_any m8.sh
           rw [HS1.out] at cv8)
        | (go_at_call 42; have ct := rSize_any (pe.up b8); rw [Hs.out] at ct; (with_reducible refine ct.mono ?_); rintro e w9 ⟨rfl, b9⟩
           have cv9 := conv_any (m8.sh.go b9)
           rw [HS1.out] at cv9)
        | (go_at_call 44; refine (rsigned_any h27 (by omega) ((gxe.go b8).go b9) (by omega)).mono ?_; rintro e w10 ⟨A10, c10, rfl, m10, b10⟩
           have cv10 := conv_any m10
           rw [HS2.out] at cv10
           have cv11 := conv_any ((m8.sh.go b9).go b10)
           rw [HS1.out] at cv11))))
     | fail
    all_goals
      have B10 := bthen (bthen (bthen Be b8) b9) b10
      go_wp2_with fail
      go_ret
      exact ⟨rfl, bthen b0 B10⟩
end Go.Proofs.YtkeejhkjbmegkaaGreatDoor
namespace Go.Proofs.YtkeejhkjbmegkaaGreatDoor
open Go.RowKit
set_option linter.unusedVariables false
set_option maxRecDepth 100000

/-- what Verify tells of any key -/
def vfB (N E D s : Nat) (xs bs : List Nat) : Bool := decide (rightK N E D = true ∧ 27 ≤ s ∧ bs.length = s) && (decide (val 256 bs.reverse < N) && ((bstr (bts (val 256 bs.reverse ^ E % N) s)).toList == (bstr (signN s xs)).toList))
theorem vfB_no {N E D s : Nat} {xs bs : List Nat} (h : ¬ (rightK N E D = true ∧ 27 ≤ s ∧ bs.length = s)) : vfB N E D s xs bs = false := by
  unfold vfB; rw [decide_eq_false h]; rfl
theorem vfB_big {N E D s : Nat} {xs bs : List Nat} (h : N ≤ val 256 bs.reverse) : vfB N E D s xs bs = false := by
  unfold vfB; rw [show decide (val 256 bs.reverse < N) = false by simp; omega, Bool.false_and, Bool.and_false]
theorem vfB_yes {N E D s : Nat} {xs bs : List Nat} (h1 : rightK N E D = true) (h2 : 27 ≤ s) (h3 : bs.length = s) : vfB N E D s xs bs = (decide (val 256 bs.reverse < N) && ((bstr (bts (val 256 bs.reverse ^ E % N) s)).toList == (bstr (signN s xs)).toList)) := by
  unfold vfB; rw [decide_eq_true ⟨h1, h2, h3⟩, Bool.true_and]
theorem verify_all {w : World} (hk : Sh.Ks w) {v : Value} {N E D s : Nat} (h : Pr w v N E D) (hs : (bl N + 7) / 8 = s) {A : Option Addr} {n c : Nat} {xs : List Nat} (hx : Sh.Nb w w.heap.size A n c xs) (hn : n ≤ 1000) {A4 : Option Addr} {m c4 : Nat} {bs : List Nat} (hb : Nb w w.heap.size A4 m c4 bs) (hm : m ≤ 1000) :
    Calls Tryz.prog 12 #[v, .slice A n c, .slice A4 m c4] w fun e w' => e = .returned (.bool (vfB N E D s xs bs)) ∧ Below w.heap.size w w' := by
  have hl := hb.len
  cases hR : rightK N E D with
  | false =>
    rw [vfB_no (by rw [hR]; simp)]
    exact verify_bad h hx hn hb hm hR
  | true =>
    rcases Nat.lt_or_ge s 27 with h27 | h27
    · rw [vfB_no (by omega)]
      exact verify_pad h hx hn hb hm hR hs h27
    · by_cases hms : m = s
      · subst hms
        rw [vfB_yes hR h27 hl]
        have hR2 := hR
        unfold rightK at hR2
        rw [decide_eq_true_iff] at hR2
        obtain ⟨f1, f2, f3, f4, f5, f6, f7⟩ := hR2
        exact verify_any hk h f1 f2 f3 f4 f5 f6 f7 hs h27 hx hn hb
      · rw [vfB_no (by omega)]
        exact verify_len h hx hn hb hm hR hs h27 hms
theorem rverify_all {w : World} {v : Value} {N E D s : Nat} (h : Pr w v N E D) (hs : (bl N + 7) / 8 = s) {A : Option Addr} {n c : Nat} {xs : List Nat} (hx : Sh.Nb w w.heap.size A n c xs) (hn : n ≤ 1000) {A4 : Option Addr} {m c4 : Nat} {bs : List Nat} (hb : Nb w w.heap.size A4 m c4 bs) (hm : m ≤ 1000) :
    Calls Tryz.prog 13 #[v, .slice A n c, .slice A4 m c4] w fun e w' => e = .returned (.bool (vfB N E D s xs bs)) ∧ Below w.heap.size w w' := by
  have hl := hb.len
  cases hR : rightK N E D with
  | false =>
    rw [vfB_no (by rw [hR]; simp)]
    exact rverify_bad h hx hn hb hm hR
  | true =>
    rcases Nat.lt_or_ge s 27 with h27 | h27
    · rw [vfB_no (by omega)]
      exact rverify_pad h hx hn hb hm hR hs h27
    · by_cases hms : m = s
      · rcases Nat.lt_trichotomy (val 256 bs.reverse) N with hv | hv | hv
        · rw [vfB_yes hR h27 (by omega), decide_eq_true hv, Bool.true_and]
          exact rverify_ok h hx hn hb hm hR hs h27 hms hv
        · rw [vfB_big (by omega)]
          exact rverify_beq h hx hn hb hm hR hs h27 hms hv
        · rw [vfB_big (by omega)]
          exact rverify_big h hx hn hb hm hR hs h27 hms hv
      · rw [vfB_no (by omega)]
        exact rverify_len h hx hn hb hm hR hs h27 hms
/-- what Sign tells of any key -/
def sgL (N E D s : Nat) (xs : List Nat) : List Nat := if secK N E D = true ∧ 27 ≤ s then bts (val 256 (signN s xs).reverse ^ D % N) s else []
def sgE (N E D s : Nat) : Int := if secK N E D = true then if 27 ≤ s then 0 else 51 else 50
def SgIs (N E D s : Nat) (xs : List Nat) (w : World) (e : Ending) (w' : World) : Prop := ∃ A m c, e = .returned (.tuple #[.slice A m c, .int .i64 (sgE N E D s)]) ∧ m ≤ 1000 ∧ Sh.Nb w' w'.heap.size A m c (sgL N E D s xs) ∧ Below w.heap.size w w'
theorem sign_all {w : World} (hk : Sh.Ks w) {v : Value} {N E D s : Nat} (h : Pr w v N E D) (hs : (bl N + 7) / 8 = s) {A : Option Addr} {n c : Nat} {xs : List Nat} (hx : Sh.Nb w w.heap.size A n c xs) (hn : n ≤ 1000) :
    Calls Tryz.prog 10 #[v, .slice A n c] w (SgIs N E D s xs w) := by
  unfold SgIs sgL sgE
  cases hS : secK N E D with
  | false =>
    refine (sign_bad (s := s) h hx hn hS).mono ?_
    rintro e w' ⟨rfl, b⟩
    exact ⟨none, 0, 0, by simp, by omega, by simpa using Sh.Nb.nil _ _ _ (by omega) _, b⟩
  | true =>
    rcases Nat.lt_or_ge s 27 with h27 | h27
    · refine (sign_pad h hx hn hS hs h27).mono ?_
      rintro e w' ⟨rfl, b⟩
      rw [if_pos rfl, if_neg (by omega), if_neg (by omega)]
      exact ⟨none, 0, 0, rfl, by omega, Sh.Nb.nil _ _ _ (by omega) _, b⟩
    · have hs2 : s ≤ 128 := by
        have : rightK N E D = true := by unfold secK at hS; rw [Bool.and_eq_true] at hS; exact hS.1
        have := rightK_pos this; omega
      refine (sign_any hk h hx hn hS hs h27).mono ?_
      rintro e w' ⟨A5, c5, rfl, m5, b⟩
      rw [if_pos rfl, if_pos h27, if_pos ⟨rfl, h27⟩]
      exact ⟨_, _, _, rfl, by omega, m5, b⟩
theorem rsign_all {w : World} {v : Value} {N E D s : Nat} (h : Pr w v N E D) (hs : (bl N + 7) / 8 = s) {A : Option Addr} {n c : Nat} {xs : List Nat} (hx : Sh.Nb w w.heap.size A n c xs) (hn : n ≤ 1000) :
    Calls Tryz.prog 11 #[v, .slice A n c] w (SgIs N E D s xs w) := by
  unfold SgIs sgL sgE
  cases hS : secK N E D with
  | false =>
    refine (rsign_bad (s := s) h hx hn hS).mono ?_
    rintro e w' ⟨rfl, b⟩
    exact ⟨none, 0, 0, by simp, by omega, by simpa using Sh.Nb.nil _ _ _ (by omega) _, b⟩
  | true =>
    rcases Nat.lt_or_ge s 27 with h27 | h27
    · refine (rsign_pad h hx hn hS hs h27).mono ?_
      rintro e w' ⟨rfl, b⟩
      rw [if_pos rfl, if_neg (by omega), if_neg (by omega)]
      exact ⟨none, 0, 0, rfl, by omega, Sh.Nb.nil _ _ _ (by omega) _, b⟩
    · have hs2 : s ≤ 128 := by
        have : rightK N E D = true := by unfold secK at hS; rw [Bool.and_eq_true] at hS; exact hS.1
        have := rightK_pos this; omega
      refine (rsign_ok h hx hn hS hs h27).mono ?_
      rintro e w' ⟨A5, c5, rfl, m5, b⟩
      rw [if_pos rfl, if_pos h27, if_pos ⟨rfl, h27⟩]
      exact ⟨_, _, _, rfl, by omega, m5, b⟩
set_option maxHeartbeats 1000000 in
theorem heavyK_any (A1 A2 A3 : Option Addr) (n1 c1 n2 c2 n3 c3 : Nat) (h1 : n1 ≤ 9223372036854775807) (h2 : n2 ≤ 9223372036854775807) (h3 : n3 ≤ 9223372036854775807) (w : World) :
    Calls Tryz.prog 8 #[.agg #[.slice A1 n1 c1, .slice A2 n2 c2, .slice A3 n3 c3]] w fun e w' => e = .returned (.bool (decide (4 < n1 ∨ 4 < n2 ∨ 4 < n3))) ∧ Below w.heap.size w w' := by
  obtain ⟨w0, e0⟩ : ∃ w0, w0 = w.alloc (.cells #[Value.slice A1 n1 c1, .slice A2 n2 c2, .slice A3 n3 c3] 24) := ⟨_, rfl⟩
  obtain ⟨hx0, b0⟩ := box_new e0
  have q0 := hx0.c0
  have q1 := hx0.c1
  have q2 := hx0.c2
  by_cases g1 : 4 < n1
  · rw [decide_eq_true (.inl g1)]
    have hd : decide ((4 : Int) < (n1 : Int)) = true := by simp; omega
    go_enter Tryz.func8, Tryz.ntmps8
    go_wp2_with fail
    rw [← e0]
    go_ret
    exact ⟨rfl, b0⟩
  · have hd1 : decide ((4 : Int) < (n1 : Int)) = false := by simp; omega
    by_cases g2 : 4 < n2
    · rw [decide_eq_true (.inr (.inl g2))]
      have hd : decide ((4 : Int) < (n2 : Int)) = true := by simp; omega
      go_enter Tryz.func8, Tryz.ntmps8
      go_wp2_with fail
      rw [← e0]
      go_ret
      exact ⟨rfl, b0⟩
    · have hd2 : decide ((4 : Int) < (n2 : Int)) = false := by simp; omega
      by_cases g3 : 4 < n3
      · rw [decide_eq_true (.inr (.inr g3))]
        have hd : decide ((4 : Int) < (n3 : Int)) = true := by simp; omega
        go_enter Tryz.func8, Tryz.ntmps8
        go_wp2_with fail
        rw [← e0]
        go_ret
        exact ⟨rfl, b0⟩
      · rw [decide_eq_false (by omega)]
        have hd : decide ((4 : Int) < (n3 : Int)) = false := by simp; omega
        go_enter Tryz.func8, Tryz.ntmps8
        go_wp2_with fail
        rw [← e0]
        go_ret
        exact ⟨rfl, b0⟩
end Go.Proofs.YtkeejhkjbmegkaaGreatDoor
namespace Go.Proofs.YtkeejhkjbmegkaaGreatDoor.pkeySigningsP
open Go.ChangeShapes Go.WideShapes Go.ChangeAt Go.RowKit
set_option linter.unusedVariables false
set_option maxRecDepth 100000

set_option maxHeartbeats 8000000 in
theorem law_any {w : World} (hk : Sh.Ks w) {A1 A2 A3 A B : Option Addr} {n1 c1 n2 c2 n3 c3 n c l d : Nat} {x1 x2 x3 xs bs : List Nat} (h1 : Nt w w.heap.size A1 n1 c1 x1) (h2 : Nt w w.heap.size A2 n2 c2 x2) (h3 : Nt w w.heap.size A3 n3 c3 x3) (hx : Nb w w.heap.size A n c xs) (hb : Nb w w.heap.size B l d bs) :
    Calls Tryz.prog 3 #[.agg #[.slice A1 n1 c1, .slice A2 n2 c2, .slice A3 n3 c3], .slice A n c, .slice B l d] w (Yes w) := by
  have hr1 := h1.rooms
  have hr2 := h2.rooms
  have hr3 := h3.rooms
  have hrx := hx.rooms
  have hrb := hb.rooms
  obtain ⟨w0, e0⟩ : ∃ w0, w0 = w.alloc (.cells #[Value.slice A1 n1 c1, .slice A2 n2 c2, .slice A3 n3 c3] 24) := ⟨_, rfl⟩
  obtain ⟨hx0, b0⟩ := box_new e0
  have q0 := hx0.c0
  have q1 := hx0.c1
  have q2 := hx0.c2
  have HA := Lib.hid (fun W => alive05_any W)
  have HHv := Lib.hid (fun W => heavyK_any A1 A2 A3 n1 c1 n2 c2 n3 c3 hr1.1 hr2.1 hr3.1 W)
  obtain ⟨hv, hhv⟩ : ∃ hv, decide (4 < n1 ∨ 4 < n2 ∨ 4 < n3) = hv := ⟨_, rfl⟩
  rw [hhv] at HHv
  have Hhv := Lib.hid hhv
  clear hhv
  cases hv with
  | true =>
    go_enter Tryz.func3, Tryz.ntmps3
    go_wp2_with fail
    rw [← e0]
    clear e0
    refine (HHv.out _).mono ?_
    rintro e W1 ⟨rfl, b1⟩
    go_wp2_with fail
    refine (HA.out _).mono ?_
    rintro e W2 ⟨rfl, b2⟩
    go_wp2_with fail
    go_ret
    exact ⟨rfl, bthen b0 (bthen b1 b2)⟩
  | false =>
  have hn := of_decide_eq_false Hhv.out
  have hn1 : n1 ≤ 4 := by omega
  have hn2 : n2 ≤ 4 := by omega
  have hn3 : n3 ≤ 4 := by omega
  clear hn
  by_cases y1 : 200 < n
  · have hd : decide ((200 : Int) < (n : Int)) = true := by simp; omega
    go_enter Tryz.func3, Tryz.ntmps3
    go_wp2_with fail
    rw [← e0]
    clear e0
    refine (HHv.out _).mono ?_
    rintro e W1 ⟨rfl, b1⟩
    go_wp2_with fail
    refine (HA.out _).mono ?_
    rintro e W2 ⟨rfl, b2⟩
    go_wp2_with fail
    go_ret
    exact ⟨rfl, bthen b0 (bthen b1 b2)⟩
  have hd1 : decide ((200 : Int) < (n : Int)) = false := by simp; omega
  by_cases y2 : 100 < l
  · have hd : decide ((100 : Int) < (l : Int)) = true := by simp; omega
    go_enter Tryz.func3, Tryz.ntmps3
    go_wp2_with fail
    rw [← e0]
    clear e0
    refine (HHv.out _).mono ?_
    rintro e W1 ⟨rfl, b1⟩
    go_wp2_with fail
    refine (HA.out _).mono ?_
    rintro e W2 ⟨rfl, b2⟩
    go_wp2_with fail
    go_ret
    exact ⟨rfl, bthen b0 (bthen b1 b2)⟩
  have hd2 : decide ((100 : Int) < (l : Int)) = false := by simp; omega
  obtain ⟨N, e1⟩ : ∃ v, val 18446744073709551616 x1 = v := ⟨_, rfl⟩
  obtain ⟨E, e2⟩ : ∃ v, val 18446744073709551616 x2 = v := ⟨_, rfl⟩
  obtain ⟨D, e3⟩ : ∃ v, val 18446744073709551616 x3 = v := ⟨_, rfl⟩
  have hp0 : Pr w0 (.agg #[.slice A1 n1 c1, .slice A2 n2 c2, .slice A3 n3 c3]) N E D := ⟨_, _, _, _, _, _, _, _, _, _, _, _, rfl, h1.up b0, e1, by omega, h2.up b0, e2, by omega, h3.up b0, e3, by omega⟩
  obtain ⟨s, hs⟩ : ∃ s, (bl N + 7) / 8 = s := ⟨_, rfl⟩
  have hk0 := hk.bel b0
  have gx := (hx.up b0).sh
  have gb := hb.up b0
  have Hs := Lib.hid hs
  have HP := Lib.hid hp0
  clear hs e1 e2 e3 h1 h2 h3 hp0
  go_enter Tryz.func3, Tryz.ntmps3
  go_wp2_with fail
  rw [← e0]
  clear e0
  refine (HHv.out _).mono ?_
  rintro e w1 ⟨rfl, b1⟩
  have i1 := hx0.up b1
  have i10 := i1.c0
  have i11 := i1.c1
  have i12 := i1.c2
  go_wp2_with fail
  refine (sign_all (hk0.bel b1) (HP.out.up b1) Hs.out (gx.go b1) (by omega)).mono ?_
  rintro e w2 ⟨A5, m5, c5, rfl, l5, k5, b2⟩
  have B2 := bthen b1 b2
  have i2 := hx0.up B2
  have i20 := i2.c0
  have i21 := i2.c1
  have i22 := i2.c2
  obtain ⟨er, her⟩ : ∃ x, sgE N E D s = x := ⟨_, rfl⟩
  rw [her]
  have Her := Lib.hid her
  clear her
  go_wp2_with fail
  refine (rsign_all (HP.out.up B2) Hs.out (gx.go B2) (by omega)).mono ?_
  rintro e w3 ⟨A6, m6, c6, rfl, l6, k6, b3⟩
  rw [Her.out]
  have B3 := bthen B2 b3
  have i3 := hx0.up B3
  have i30 := i3.c0
  have i31 := i3.c1
  have i32 := i3.c2
  have k5' := k5.go b3
  go_wp2_with fail
  obtain ⟨L, hL⟩ : ∃ L, sgL N E D s xs = L := ⟨_, rfl⟩
  rw [hL] at k5' k6
  obtain ⟨S, hS⟩ : ∃ S, bstr L = S := ⟨_, rfl⟩
  have hSS : (S.toList == S.toList) = true := by simp
  have hee : (er == er) = true := by simp
  obtain ⟨T1, hT1⟩ : ∃ T, vfB N E D s xs bs = T := ⟨_, rfl⟩
  obtain ⟨T2, hT2⟩ : ∃ T, vfB N E D s xs L = T := ⟨_, rfl⟩
  have HS := Lib.hid hS
  have HT1 := Lib.hid hT1
  have HT2 := Lib.hid hT2
  have bd : Below w3.heap.size w3 w3.drew := (Below.refl _ _).drew
  have b0_0 := bthen B3 bd
  have z0 := i3.up bd
  have p0 := HP.out.up b0_0
  have kk0 := hk0.bel b0_0
  have gx0 := gx.go b0_0
  have gb0 := gb.up b0_0
  have kx0 := k5'.go bd
  have ky0 := k6.go bd
  have cx0 := conv_any kx0
  have cy0 := conv_any ky0
  rw [hS] at cx0 cy0
  have z00 := z0.c0
  have z01 := z0.c1
  have z02 := z0.c2
  clear hS hT1 hT2 hL k5 k5' k6
  go_region_held3 (fun w' => w'.cell? ⟨w.heap.size, 0, none⟩ = some (Value.slice A1 n1 c1) ∧ w'.cell? ⟨w.heap.size, 1, none⟩ = some (Value.slice A2 n2 c2) ∧ w'.cell? ⟨w.heap.size, 2, none⟩ = some (Value.slice A3 n3 c3) ∧ (convert 25 9 (.slice A5 m5 c5)).run Tryz.prog w' = .ok (.string S) w' ∧ (convert 25 9 (.slice A6 m6 c6)).run Tryz.prog w' = .ok (.string S) w')
    (first | exact ⟨z5.c0, z5.c1, z5.c2, cx5, cy5⟩ | exact ⟨z4.c0, z4.c1, z4.c2, cx4, cy4⟩ | exact ⟨z3.c0, z3.c1, z3.c2, cx3, cy3⟩ | exact ⟨z2.c0, z2.c1, z2.c2, cx2, cy2⟩ | exact ⟨z1.c0, z1.c1, z1.c2, cx1, cy1⟩ | exact ⟨z0.c0, z0.c1, z0.c2, cx0, cy0⟩)
    ((first
      | (go_at_call 9; refine (HA.out _).mono ?_; rintro e w_1 ⟨rfl, b_1⟩
         have z1 := z0.up b_1
         have p1 := p0.up b_1
         have kk1 := kk0.bel b_1
         have gx1 := gx0.go b_1
         have gb1 := gb0.up b_1
         have kx1 := kx0.go b_1
         have ky1 := ky0.go b_1
         have cx1 := conv_any kx1
         have cy1 := conv_any ky1
         rw [HS.out] at cx1 cy1
         have b0_1 := bthen b0_0 b_1)
      | (go_at_call 12; have ct := verify_all kk1 p1 Hs.out gx1 (by omega) gb1 (by omega); rw [HT1.out] at ct; have Ct := Lib.hid ct; clear ct; (with_reducible refine Ct.out.mono ?_); clear Ct; rintro e w_2 ⟨rfl, b_2⟩
         have z2 := z1.up b_2
         have p2 := p1.up b_2
         have kk2 := kk1.bel b_2
         have gx2 := gx1.go b_2
         have gb2 := gb1.up b_2
         have kx2 := kx1.go b_2
         have ky2 := ky1.go b_2
         have cx2 := conv_any kx2
         have cy2 := conv_any ky2
         rw [HS.out] at cx2 cy2
         have b0_2 := bthen b0_1 b_2)
      | (go_at_call 13; have ct := rverify_all p2 Hs.out gx2 (by omega) gb2 (by omega); rw [HT1.out] at ct; have Ct := Lib.hid ct; clear ct; (with_reducible refine Ct.out.mono ?_); clear Ct; rintro e w_3 ⟨rfl, b_3⟩
         have z3 := z2.up b_3
         have p3 := p2.up b_3
         have kk3 := kk2.bel b_3
         have gx3 := gx2.go b_3
         have gb3 := gb2.up b_3
         have kx3 := kx2.go b_3
         have ky3 := ky2.go b_3
         have cx3 := conv_any kx3
         have cy3 := conv_any ky3
         rw [HS.out] at cx3 cy3
         have b0_3 := bthen b0_2 b_3)
      | (go_at_call 12; have ct := verify_all kk3 p3 Hs.out gx3 (by omega) (nb_of_sh kx3) l5; rw [HT2.out] at ct; have Ct := Lib.hid ct; clear ct; (with_reducible refine Ct.out.mono ?_); clear Ct; rintro e w_4 ⟨rfl, b_4⟩
         have z4 := z3.up b_4
         have p4 := p3.up b_4
         have kk4 := kk3.bel b_4
         have gx4 := gx3.go b_4
         have gb4 := gb3.up b_4
         have kx4 := kx3.go b_4
         have ky4 := ky3.go b_4
         have cx4 := conv_any kx4
         have cy4 := conv_any ky4
         rw [HS.out] at cx4 cy4
         have b0_4 := bthen b0_3 b_4)
      | (go_at_call 13; have ct := rverify_all p4 Hs.out gx4 (by omega) (nb_of_sh ky4) l6; rw [HT2.out] at ct; have Ct := Lib.hid ct; clear ct; (with_reducible refine Ct.out.mono ?_); clear Ct; rintro e w_5 ⟨rfl, b_5⟩
         have z5 := z4.up b_5
         have p5 := p4.up b_5
         have kk5 := kk4.bel b_5
         have gx5 := gx4.go b_5
         have gb5 := gb4.up b_5
         have kx5 := kx4.go b_5
         have ky5 := ky4.go b_5
         have cx5 := conv_any kx5
         have cy5 := conv_any ky5
         rw [HS.out] at cx5 cy5
         have b0_5 := bthen b0_4 b_5)))
  all_goals
    go_wp2_with fail
    go_ret
    exact ⟨rfl, bthen b0 b0_5⟩

set_option maxRecDepth 100000 in
theorem door_met (os : Os) (args : Array Value) : laidMetH Tryz.prog [("clepsydra/sha.constants", Rows.laid_clepsydra_sha_constants)] ((World.doorLaid Tryz.prog 4000 os).forCall (fun _ _ => 0) ⟨#[], args, []⟩).memory :=
  laidMetH_of_parts3 (fuel := 8) (laidMet_of_run' 8 (by kernel_rfl) (by kernel_rfl)) (by kernel_rfl) (by kernel_rfl)
set_option maxRecDepth 100000 in
theorem lifted (os : Os) (started : os.Started) (H : Type) (enc : TypeId × Value → H) :
    ReturnsInHanded {} Tryz.checked os 3 .any (fun w args => (Rows.pkeySigningsSpec.pre enc Tryz.prog Tryz.f3 [] false w args ∧ laidMetH Tryz.prog [("clepsydra/sha.constants", Rows.laid_clepsydra_sha_constants)] w) ∧ sizedMet enc Tryz.prog Tryz.f3 (OpenSpec.ofChange Rows.pkeySigningsSpec) false w args)
      (Rows.pkeySigningsSpec.post enc Tryz.prog Tryz.f3 false true false false) := by
  refine returnsInHanded_of_change_and (C := Tryz.checked) (X := fun w _ => laidMetH Tryz.prog [("clepsydra/sha.constants", Rows.laid_clepsydra_sha_constants)] w) (fun _ _ _ hh h => h.of_heap hh) own started (by kernel_rfl) Tryz.func3
    (ChangeSpec.witness_shaped (enc := enc) (C := Tryz.checked) (os := os) (X := fun w _ => laidMetH Tryz.prog [("clepsydra/sha.constants", Rows.laid_clepsydra_sha_constants)] w) false (World.doorLaid Tryz.prog 4000 os) #[.agg #[.slice none 0 0, .slice none 0 0, .slice none 0 0], .slice none 0 0, .slice none 0 0] 8 rfl (World.shaped_of_RefB (by kernel_rfl) (by kernel_rfl)) (by kernel_rfl) (by kernel_rfl) (by kernel_rfl) (door_met os _)) ?_
  intro W base args ds gs before hval0 hW _ hsz0 hL _
  have hsz : (DataW.weightsEach Tryz.prog (Tryz.f3.params.toList ++ Rows.pkeySigningsSpec.plain.varTypes Tryz.prog) (ds ++ gs)).all (· ≤ reachBytes) = true := hsz0
  have hval : ∀ (j : Nat) t v, Tryz.f3.params[j]? = some t → args[j]? = some v → Value.okWide Tryz.prog W .any base t v := hval0
  have hW' := hW
  obtain ⟨p, q, hA0, hV, rfl, hfz, hnd⟩ := hW
  have hA : DataW.TrodAll enc Tryz.prog W 0 (fun _ => true) true Tryz.f3.params.toList args.toList ds p := hA0
  rw [Tryz.params3] at hA hval hsz
  obtain ⟨v0, vs0, d0, ds0, p0, q0, hargs, rfl, rfl, h0, r0⟩ := trodAll_cons hA
  obtain ⟨v1, vs1, d1, ds1, p1, q1, rfl, rfl, rfl, h1, r1⟩ := trodAll_cons r0
  obtain ⟨v2, vs2, d2, ds2, p2, q2, rfl, rfl, rfl, h2, r2⟩ := trodAll_cons r1
  obtain ⟨rfl, rfl, rfl⟩ := trodAll_nil r2
  obtain rfl : args = #[v0, v1, v2] := by cases args; simp_all
  obtain ⟨rfl, rfl⟩ := trodVars_none hV
  obtain ⟨cs0, rfl, _⟩ := okWide_struct Tryz.underlying24 (hval 0 24 v0 rfl rfl)
  have k0 := h0
  have lt0 : ∀ x ∈ p0, x.block < W.heap.size := by obtain ⟨m, hm⟩ := k0; exact DataW.trod_lt m _ _ _ hm
  obtain ⟨A1, n1, c1, x1, A2, n2, c2, x2, A3, n3, c3, x3, rfl, w0a, w0b, w0c⟩ := key_open h0
  obtain ⟨a1, len1, cap1, rfl⟩ := okWide_slice Tryz.underlying25 (hval 1 25 v1 rfl rfl)
  have k1 := h1
  have lt1 : ∀ x ∈ p1, x.block < W.heap.size := by obtain ⟨m, hm⟩ := k1; exact DataW.trod_lt m _ _ _ hm
  obtain ⟨z1, w1⟩ : ∃ zs, Nb W W.heap.size a1 len1 cap1 zs := by
    obtain ⟨fuel, hf⟩ := h1
    rcases open_ints Tryz.underlying25 Tryz.underlying5 (by kernel_rfl) hf with ⟨hcs, _⟩ | ⟨x, l, c, zs, hcs, _, hl, hm, hz, hd, hcell, hwz⟩
    · simp [Value.cells] at hcs
      obtain ⟨rfl, rfl, rfl⟩ := hcs
      exact ⟨[], nb_nil _ _⟩
    · simp [Value.cells] at hcs
      obtain ⟨rfl, rfl, rfl⟩ := hcs
      exact ⟨_, nb_of_row hl hm (by simpa using hz) hcell hwz⟩
  obtain ⟨a2, len2, cap2, rfl⟩ := okWide_slice Tryz.underlying25 (hval 2 25 v2 rfl rfl)
  have k2 := h2
  have lt2 : ∀ x ∈ p2, x.block < W.heap.size := by obtain ⟨m, hm⟩ := k2; exact DataW.trod_lt m _ _ _ hm
  obtain ⟨z2, w2⟩ : ∃ zs, Nb W W.heap.size a2 len2 cap2 zs := by
    obtain ⟨fuel, hf⟩ := h2
    rcases open_ints Tryz.underlying25 Tryz.underlying5 (by kernel_rfl) hf with ⟨hcs, _⟩ | ⟨x, l, c, zs, hcs, _, hl, hm, hz, hd, hcell, hwz⟩
    · simp [Value.cells] at hcs
      obtain ⟨rfl, rfl, rfl⟩ := hcs
      exact ⟨[], nb_nil _ _⟩
    · simp [Value.cells] at hcs
      obtain ⟨rfl, rfl, rfl⟩ := hcs
      exact ⟨_, nb_of_row hl hm (by simpa using hz) hcell hwz⟩
  clear hA0 hval0
  refine (law_any (of_laid hL) w0a w0b w0c w1 w2).mono fun e W' ⟨he, bel⟩ => ?_
  subst he
  exact ⟨_, rfl, _, _, _, [], _, [], hW', trodAll_mk1 (shut_bool Tryz.underlying4 _), (trodAll_cons_mk (Below.trod laidOut (by kernel_rfl) (of_decide_eq_true (by kernel_rfl)) k0 bel lt0) (trodAll_cons_mk (Below.trod laidOut (by kernel_rfl) (of_decide_eq_true (by kernel_rfl)) k1 bel lt1) (trodAll_cons_mk (Below.trod laidOut (by kernel_rfl) (of_decide_eq_true (by kernel_rfl)) k2 bel lt2) trodAll_mk0))), rfl, bel.frame _, fun h => by cases h⟩

theorem pkeySignings_holds : Rows.PkeySigningsSaid :=
  OpenClaim.holds_of_wide 3 Tryz.f3 rfl rfl rfl rfl rfl rfl rfl ⟨rfl, rfl, rfl, rfl, rfl⟩ rfl rfl rfl rfl rfl (by kernel_rfl) Tryz.func3 (by kernel_rfl)
    (of_decide_eq_true (by kernel_rfl)) (by unfold Func.isWrapper; first | (rw [if_pos (by decide +kernel)]; kernel_rfl) | (rw [if_neg (by decide +kernel)]; exact ⟨rfl, rfl⟩))
    (fun os started H enc _ => lifted os started H enc)
theorem pkeySignings_card : Rows.PkeySigningsCardSaid :=
  Claim7.holds_tied_plain_at .later [] [.data] true (true, "08b5c815c4ce98d0939ca56bd09f004e88258d10564a8ae8158c8b934526e78b") false
    pkeySignings_holds (fun _ h => by cases h) (by kernel_rfl) (fun _ h => by cases h) pkeySignings_row_tie rfl ⟨rfl, rfl⟩ (by kernel_rfl) rfl
    (fun f fn hf hfn => by
      obtain rfl : f = 3 := Option.some.inj ((show Tryz.prog.funcNamed "clepsydra/clepsydralaw05.PkeySignings" = some 3 by kernel_rfl).symm.trans hf) |>.symm
      obtain rfl : fn = Tryz.f3 := (Option.some.inj (Tryz.func3.symm.trans hfn)).symm
      exact ⟨by kernel_rfl, fun j t ht => by
        rw [Tryz.params3] at ht
        have hm : t ∈ [24, 25, 25] := by simpa using Array.mem_of_getElem? ht
        have hall : ([24, 25, 25].all fun u => !Tryz.prog.wantsStandIn u) = true := by kernel_rfl
        exact (show Tryz.prog.wantsStandIn t = false by simpa using List.all_eq_true.1 hall t hm)⟩)
    (by kernel_rfl)
#print axioms pkeySignings_card
end Go.Proofs.YtkeejhkjbmegkaaGreatDoor.pkeySigningsP
