/- clepsydraref06: one, passes, Right. clepsydraref05: Size, Right, secret, Heavy. law05.alive. What the laid variable gives; how rows and structs that came in are read. -/
import Derived.Test.YtkhlmcknbangfaaGreatDoorDf
import Derived.Test.YtkhlmcknbangfaaGreatDoorRf
import Derived.Test.YtkhlmcknbangfaaGreatDoorRn
import Derived.Test.YtkhlmcknbangfaaGreatDoorE4
import Derived.Test.YtkhlmcknbangfaaGreatDoorPk
import Derived.Test.YtkhlmcknbangfaaGreatDoorRows
import Derived.Test.YtkhlmcknbangfaaGreatDoorCards
import Derived.Test.YtkhlmcknbangfaaGreatDoorTie
import Derived.Test.YtkhlmcknbangfaaGreatDoorRd
import Derived.Test.YtkhlmcknbangfaaGreatDoorFew
import Derived.ProofKit
import Derived.LaidMore
import Derived.OpenShut
import Derived.ShutString
import Derived.ChangeOld
import Derived.Stop.Joined
import Derived.SevenTiedAt
import Derived.SizedLaws
import Derived.Deep.Strs
namespace Go.Proofs.YtkhlmcknbangfaaGreatDoor
set_option linter.unusedSimpArgs false
set_option linter.unusedVariables false
open Go.RowKit
set_option linter.unusedVariables false
set_option maxRecDepth 100000

theorem Rn.RetN.s {N : Nat} {w w' : World} {e : Ending} (h : Rn.RetN N w e w') : RetS N w e w' := by
  obtain ⟨A, n, c, xs, he, hn, ht, hv, hb⟩ := h
  exact ⟨A, n, c, xs, he, hn, ht, hv, hb⟩
set_option maxHeartbeats 1000000 in
theorem rof_any (n : Nat) (hn : n < 18446744073709551616) (w : World) : Calls Tryz.prog 102 #[.int .u64 (n : Int)] w (RetS n w) := by
  have hG := Rn.Gu.nil (w.alloc (.cells #[.int .u64 (n : Int)] 23)) w.heap.size
  have hb : Below w.heap.size w (w.alloc (.cells #[.int .u64 (n : Int)] 23)) := (Below.refl _ _).alloc (Nat.le_refl _) _
  have hc := Rn.cell_new w (.int .u64 (n : Int)) 23
  go_enter Tryz.func102, Tryz.ntmps102
  go_wp2_with (refine Rn.wpList_app_u _ rfl (.tmp 4) (.tmp 6) rfl rfl hG rfl hc (by omega) hb (by simp) ?_; intro A7 c7 w7 hG7 hB7)
  have hL : Lim 18446744073709551616 ([] ++ [n]) := fun x hx => by simp at hx; omega
  have m7 := hG7.nt hL
  refine (Rn.rtrim_any m7 (by omega)).mono ?_
  rintro e w8 ⟨A8, n8, c8, x8, rfl, m8, t8, v8, b8⟩
  go_wp2_with fail
  go_ret
  exact ⟨_, _, _, _, rfl, m8, t8, by rw [v8]; simp [val], bthen hB7 b8⟩
set_option maxHeartbeats 1000000 in
theorem rone_any (w : World) : Calls Tryz.prog 61 #[] w (RetS 1 w) := by
  go_enter Tryz.func61, Tryz.ntmps61
  go_wp2_with fail
  refine (rof_any 1 (by omega) w).mono ?_
  rintro e w1 ⟨A1, n1, c1, x1, rfl, r1⟩
  go_wp2_with fail
  go_ret
  exact ⟨_, _, _, _, rfl, r1⟩
set_option maxHeartbeats 1000000 in
theorem rsmall_any (n : Nat) (hn : n < 18446744073709551616) (w : World) : Calls Tryz.prog 39 #[.int .u64 (n : Int)] w (RetS n w) := by
  go_enter Tryz.func39, Tryz.ntmps39
  go_wp2_with fail
  refine (rof_any n hn w).mono ?_
  rintro e w1 ⟨A1, n1, c1, x1, rfl, r1⟩
  go_wp2_with fail
  go_ret
  exact ⟨_, _, _, _, rfl, r1⟩
set_option maxHeartbeats 1000000 in
theorem rbases_any (w : World) : Calls Tryz.prog 37 #[] w fun e w' => ∃ g, e = .returned (.slice (some ⟨g, 0, none⟩) 12 12) ∧ Nt w' w'.heap.size (some ⟨g, 0, none⟩) 12 12 b12 ∧ Below w.heap.size w w' := by
  obtain ⟨w1, e1⟩ : ∃ w1, w1 = w.alloc B12 := ⟨_, rfl⟩
  obtain ⟨hB, b1⟩ := nt_b12 e1
  go_enter Tryz.func37, Tryz.ntmps37
  go_wp2_with fail
  rw [← show w1 = w.alloc (.cells #[.int .u64 2, .int .u64 3, .int .u64 5, .int .u64 7, .int .u64 11, .int .u64 13, .int .u64 17, .int .u64 19, .int .u64 23, .int .u64 29, .int .u64 31, .int .u64 37] 23) from e1]
  clear e1
  go_ret
  exact ⟨_, rfl, hB, b1⟩
set_option maxHeartbeats 1000000 in
theorem rpasses_any {w : World} {A : Option Addr} {n c N : Nat} {xs : List Nat} (h : Nt w w.heap.size A n c xs) (hN : val 18446744073709551616 xs = N) (hn : n ≤ 10000) :
    Calls Tryz.prog 59 #[.slice A n c] w fun e w' => e = .returned (.bool (primeN N b12)) ∧ Below w.heap.size w w' := by
  have hp := fun W (b : Below w.heap.size w W) (A2 : Option Addr) (hB : Nt W W.heap.size A2 12 12 b12) => rprime_any (h.up b) hB (by omega) (by omega)
  rw [hN] at hp
  generalize primeN N b12 = t at *
  have Hp := Lib.hid hp
  clear hp
  go_enter Tryz.func59, Tryz.ntmps59
  go_wp2_with fail
  refine (rbases_any w).mono ?_
  rintro e w1 ⟨g, rfl, hB, b1⟩
  go_wp2_with fail
  refine (Hp.out _ b1 _ hB).mono ?_
  rintro e w2 ⟨rfl, b2⟩
  go_wp2_with fail
  go_ret
  exact ⟨rfl, bthen b1 b2⟩
theorem rcmp_lt {w : World} {A A2 : Option Addr} {n c n2 c2 : Nat} {xs ys : List Nat} (h : Nt w w.heap.size A n c xs) (h2 : Nt w w.heap.size A2 n2 c2 ys) (hn : n ≤ 1000000) (hn2 : n2 ≤ 1000000) (hv : val 18446744073709551616 xs < val 18446744073709551616 ys) :
    Calls Tryz.prog 35 #[.slice A n c, .slice A2 n2 c2] w fun e w' => e = .returned (.int .i64 (-1)) ∧ Below w.heap.size w w' := by
  have := Rn.rcmp_any h h2 hn hn2
  rwa [sgn_lt hv] at this
theorem rcmp_gt {w : World} {A A2 : Option Addr} {n c n2 c2 : Nat} {xs ys : List Nat} (h : Nt w w.heap.size A n c xs) (h2 : Nt w w.heap.size A2 n2 c2 ys) (hn : n ≤ 1000000) (hn2 : n2 ≤ 1000000) (hv : val 18446744073709551616 ys < val 18446744073709551616 xs) :
    Calls Tryz.prog 35 #[.slice A n c, .slice A2 n2 c2] w fun e w' => e = .returned (.int .i64 1) ∧ Below w.heap.size w w' := by
  have := Rn.rcmp_any h h2 hn hn2
  rwa [sgn_gt hv] at this
theorem rcmp_eq {w : World} {A A2 : Option Addr} {n c n2 c2 : Nat} {xs ys : List Nat} (h : Nt w w.heap.size A n c xs) (h2 : Nt w w.heap.size A2 n2 c2 ys) (hn : n ≤ 1000000) (hn2 : n2 ≤ 1000000) (hv : val 18446744073709551616 xs = val 18446744073709551616 ys) :
    Calls Tryz.prog 35 #[.slice A n c, .slice A2 n2 c2] w fun e w' => e = .returned (.int .i64 0) ∧ Below w.heap.size w w' := by
  have := Rn.rcmp_any h h2 hn hn2
  rwa [hv, sgn_self] at this
theorem rsub_ok {w : World} {A A2 : Option Addr} {n c n2 c2 : Nat} {xs ys : List Nat} (h : Nt w w.heap.size A n c xs) (h2 : Nt w w.heap.size A2 n2 c2 ys) (hn : n ≤ 1000000) (hn2 : n2 ≤ 1000000) (hv : val 18446744073709551616 ys ≤ val 18446744073709551616 xs) :
    Calls Tryz.prog 60 #[.slice A n c, .slice A2 n2 c2] w (RetT (val 18446744073709551616 xs - val 18446744073709551616 ys) w) :=
  (Rn.rsub_any h h2 hn hn2).mono fun e w' hr => by
    rcases hr with ⟨_, A, n, c, xs, he, hn, ht, hv, hb⟩ | ⟨hlt, _⟩
    · exact ⟨A, n, c, xs, he, hn, ht, hv, hb⟩
    · omega
theorem rsub_no {w : World} {A A2 : Option Addr} {n c n2 c2 : Nat} {xs ys : List Nat} (h : Nt w w.heap.size A n c xs) (h2 : Nt w w.heap.size A2 n2 c2 ys) (hn : n ≤ 1000000) (hn2 : n2 ≤ 1000000) (hv : val 18446744073709551616 xs < val 18446744073709551616 ys) :
    Calls Tryz.prog 60 #[.slice A n c, .slice A2 n2 c2] w (RetBad 10 w) :=
  (Rn.rsub_any h h2 hn hn2).mono fun e w' hr => by
    rcases hr with ⟨hle, _⟩ | ⟨_, he, hb⟩
    · omega
    · exact ⟨he, hb⟩
/-- the reference's Right, in its own order -/
def rightR (P Q G : Nat) : Bool := decide (bl P ≤ 1024 ∧ primeN P b12 = true ∧ primeN Q b12 = true ∧ 1 < G ∧ G < P ∧ (P - 1) % Q = 0 ∧ G ^ Q % P = 1)
theorem rightR_eq (P Q G : Nat) : rightR P Q G = rightN P Q G := by
  rw [Bool.eq_iff_iff]
  unfold rightR rightN genN
  simp only [decide_eq_true_eq, Bool.and_eq_true]
  constructor
  · rintro ⟨h1, h2, h3, h4, h5, h6, h7⟩
    have := primeN_two h3
    exact ⟨h1, h2, by omega, h6, h3, h5, h4, h7⟩
  · rintro ⟨h1, h2, h3, h4, h5, h6, h7, h8⟩
    exact ⟨h1, h2, h5, h7, h6, h4, h8⟩
end Go.Proofs.YtkhlmcknbangfaaGreatDoor
namespace Go.Proofs.YtkhlmcknbangfaaGreatDoor
open Go.RowKit
set_option linter.unusedVariables false
set_option maxRecDepth 100000
set_option exponentiation.threshold 70000


set_option maxHeartbeats 4000000 in
theorem rkright_c1 {w : World} {v : Value} {N E D : Nat} (h : Pr w v N E D) (hb1 : bl N < 16) :
    Calls Tryz.prog 42 #[v] w fun e w' => e = .returned (.int .i64 50) ∧ Below w.heap.size w w' := by
  obtain ⟨A1, n1, c1, x1, A2, n2, c2, x2, A3, n3, c3, x3, rfl, h1', e1, l1, h2', e2, l2, h3', e3, l3⟩ := h.ex
  clear h
  obtain ⟨w0, e0⟩ : ∃ w0, w0 = w.alloc (.cells #[Value.slice A1 n1 c1, .slice A2 n2 c2, .slice A3 n3 c3] 26) := ⟨_, rfl⟩
  obtain ⟨hx0, b0⟩ := box_new e0
  have h1 := h1'.up b0
  have h2 := h2'.up b0
  have h3 := h3'.up b0
  clear h1' h2' h3'
  have q0 := hx0.c0
  have q1 := hx0.c1
  have q2 := hx0.c2
  have hb := Rn.rbits_any h1 (by omega)
  rw [e1] at hb
  have Hb := Lib.hid hb
  have hbt := fun W (b : Below w0.heap.size w0 W) => Rn.rbit_any (h1.up b) (by omega) 0
  rw [e1, show btN N 0 = N % 2 by simp [btN]] at hbt
  have Hbt := Lib.hid hbt
  clear hb hbt
  generalize bl N = k at *
  go_enter Tryz.func42, Tryz.ntmps42
  go_wp2_with fail
  rw [← e0]
  clear e0
  refine Hb.out.mono ?_
  rintro e w1 ⟨rfl, b1⟩
  have hx1 := hx0.up b1
  have p0 := hx1.c0
  have p1 := hx1.c1
  have p2 := hx1.c2
  go_wp2_with fail
  go_ret
  exact ⟨rfl, bthen b0 b1⟩
set_option maxHeartbeats 4000000 in
theorem rkright_c2 {w : World} {v : Value} {N E D : Nat} (h : Pr w v N E D) (hb1 : 1024 < bl N) :
    Calls Tryz.prog 42 #[v] w fun e w' => e = .returned (.int .i64 50) ∧ Below w.heap.size w w' := by
  obtain ⟨A1, n1, c1, x1, A2, n2, c2, x2, A3, n3, c3, x3, rfl, h1', e1, l1, h2', e2, l2, h3', e3, l3⟩ := h.ex
  clear h
  obtain ⟨w0, e0⟩ : ∃ w0, w0 = w.alloc (.cells #[Value.slice A1 n1 c1, .slice A2 n2 c2, .slice A3 n3 c3] 26) := ⟨_, rfl⟩
  obtain ⟨hx0, b0⟩ := box_new e0
  have h1 := h1'.up b0
  have h2 := h2'.up b0
  have h3 := h3'.up b0
  clear h1' h2' h3'
  have q0 := hx0.c0
  have q1 := hx0.c1
  have q2 := hx0.c2
  have hb := Rn.rbits_any h1 (by omega)
  rw [e1] at hb
  have Hb := Lib.hid hb
  have hbt := fun W (b : Below w0.heap.size w0 W) => Rn.rbit_any (h1.up b) (by omega) 0
  rw [e1, show btN N 0 = N % 2 by simp [btN]] at hbt
  have Hbt := Lib.hid hbt
  clear hb hbt
  have hb0 : ¬ bl N < 16 := by omega
  generalize bl N = k at *
  go_enter Tryz.func42, Tryz.ntmps42
  go_wp2_with fail
  rw [← e0]
  clear e0
  refine Hb.out.mono ?_
  rintro e w1 ⟨rfl, b1⟩
  have hx1 := hx0.up b1
  have p0 := hx1.c0
  have p1 := hx1.c1
  have p2 := hx1.c2
  go_wp2_with fail
  go_ret
  exact ⟨rfl, bthen b0 b1⟩
set_option maxHeartbeats 4000000 in
theorem rkright_c3 {w : World} {v : Value} {N E D : Nat} (h : Pr w v N E D) (hb1 : 16 ≤ bl N) (hb2 : bl N ≤ 1024) (hN2 : N % 2 = 0) :
    Calls Tryz.prog 42 #[v] w fun e w' => e = .returned (.int .i64 50) ∧ Below w.heap.size w w' := by
  obtain ⟨A1, n1, c1, x1, A2, n2, c2, x2, A3, n3, c3, x3, rfl, h1', e1, l1, h2', e2, l2, h3', e3, l3⟩ := h.ex
  clear h
  obtain ⟨w0, e0⟩ : ∃ w0, w0 = w.alloc (.cells #[Value.slice A1 n1 c1, .slice A2 n2 c2, .slice A3 n3 c3] 26) := ⟨_, rfl⟩
  obtain ⟨hx0, b0⟩ := box_new e0
  have h1 := h1'.up b0
  have h2 := h2'.up b0
  have h3 := h3'.up b0
  clear h1' h2' h3'
  have q0 := hx0.c0
  have q1 := hx0.c1
  have q2 := hx0.c2
  have hb := Rn.rbits_any h1 (by omega)
  rw [e1] at hb
  have Hb := Lib.hid hb
  have hbt := fun W (b : Below w0.heap.size w0 W) => Rn.rbit_any (h1.up b) (by omega) 0
  rw [e1, show btN N 0 = N % 2 by simp [btN]] at hbt
  rw [hN2] at hbt
  have Hbt := Lib.hid hbt
  clear hb hbt
  generalize bl N = k at *
  go_enter Tryz.func42, Tryz.ntmps42
  go_wp2_with fail
  rw [← e0]
  clear e0
  refine Hb.out.mono ?_
  rintro e w1 ⟨rfl, b1⟩
  have hx1 := hx0.up b1
  have p0 := hx1.c0
  have p1 := hx1.c1
  have p2 := hx1.c2
  go_wp2_with fail
  refine (Hbt.out _ b1).mono ?_
  rintro e w2 ⟨rfl, b2⟩
  have B2 := bthen b1 b2
  have hx2 := hx0.up B2
  have r0 := hx2.c0
  have r1 := hx2.c1
  have r2 := hx2.c2
  go_wp2_with fail
  go_ret
  exact ⟨rfl, bthen b0 B2⟩
set_option maxHeartbeats 4000000 in
theorem rkright_c4 {w : World} {v : Value} {N E D : Nat} (h : Pr w v N E D) (hb1 : 16 ≤ bl N) (hb2 : bl N ≤ 1024) (hN2 : N % 2 = 1) (hE2 : E % 2 = 0) :
    Calls Tryz.prog 42 #[v] w fun e w' => e = .returned (.int .i64 50) ∧ Below w.heap.size w w' := by
  obtain ⟨A1, n1, c1, x1, A2, n2, c2, x2, A3, n3, c3, x3, rfl, h1', e1, l1, h2', e2, l2, h3', e3, l3⟩ := h.ex
  clear h
  obtain ⟨w0, e0⟩ : ∃ w0, w0 = w.alloc (.cells #[Value.slice A1 n1 c1, .slice A2 n2 c2, .slice A3 n3 c3] 26) := ⟨_, rfl⟩
  obtain ⟨hx0, b0⟩ := box_new e0
  have h1 := h1'.up b0
  have h2 := h2'.up b0
  have h3 := h3'.up b0
  clear h1' h2' h3'
  have q0 := hx0.c0
  have q1 := hx0.c1
  have q2 := hx0.c2
  have hb := Rn.rbits_any h1 (by omega)
  rw [e1] at hb
  have Hb := Lib.hid hb
  have hbt := fun W (b : Below w0.heap.size w0 W) => Rn.rbit_any (h1.up b) (by omega) 0
  rw [e1, show btN N 0 = N % 2 by simp [btN]] at hbt
  rw [hN2] at hbt
  have Hbt := Lib.hid hbt
  clear hb hbt
  generalize bl N = k at *
  go_enter Tryz.func42, Tryz.ntmps42
  go_wp2_with fail
  rw [← e0]
  clear e0
  refine Hb.out.mono ?_
  rintro e w1 ⟨rfl, b1⟩
  have hx1 := hx0.up b1
  have p0 := hx1.c0
  have p1 := hx1.c1
  have p2 := hx1.c2
  go_wp2_with fail
  refine (Hbt.out _ b1).mono ?_
  rintro e w2 ⟨rfl, b2⟩
  have B2 := bthen b1 b2
  have hx2 := hx0.up B2
  have r0 := hx2.c0
  have r1 := hx2.c1
  have r2 := hx2.c2
  go_wp2_with fail
  have hyd : Bx w2.drew w.heap.size (.slice A1 n1 c1) (.slice A2 n2 c2) (.slice A3 n3 c3) := ⟨hx2.lt, hx2.c0, hx2.c1, hx2.c2⟩
  have bd : Below w2.heap.size w2 w2.drew := (Below.refl _ _).drew
  have Bd := bthen B2 bd
  have h1d := h1.up Bd
  have h2d := h2.up Bd
  have hbe := Rn.rbit_any h2d (by omega) 0
  rw [e2, show btN E 0 = E % 2 by simp [btN], hE2] at hbe
  have Hbe := Lib.hid hbe
  clear hbe
  have z0 := hyd.c0
  have z1 := hyd.c1
  have z2 := hyd.c2
  first
   | (go_region_with ((first
      | (go_at_call 106; refine Hbe.out.mono ?_; rintro e w3 ⟨rfl, b3⟩
         have g3 := hyd.up b3
         have g30 := g3.c0
         have g31 := g3.c1
         have g32 := g3.c2))))
   | fail
  all_goals
    go_wp2_with fail
    go_ret
    exact ⟨rfl, bthen b0 (bthen Bd b3)⟩
set_option maxHeartbeats 4000000 in
theorem rkright_c5 {w : World} {v : Value} {N E D : Nat} (h : Pr w v N E D) (hb1 : 16 ≤ bl N) (hb2 : bl N ≤ 1024) (hN2 : N % 2 = 1) (hE2 : E % 2 = 1) (hE : E = 1) :
    Calls Tryz.prog 42 #[v] w fun e w' => e = .returned (.int .i64 50) ∧ Below w.heap.size w w' := by
  obtain ⟨A1, n1, c1, x1, A2, n2, c2, x2, A3, n3, c3, x3, rfl, h1', e1, l1, h2', e2, l2, h3', e3, l3⟩ := h.ex
  clear h
  obtain ⟨w0, e0⟩ : ∃ w0, w0 = w.alloc (.cells #[Value.slice A1 n1 c1, .slice A2 n2 c2, .slice A3 n3 c3] 26) := ⟨_, rfl⟩
  obtain ⟨hx0, b0⟩ := box_new e0
  have h1 := h1'.up b0
  have h2 := h2'.up b0
  have h3 := h3'.up b0
  clear h1' h2' h3'
  have q0 := hx0.c0
  have q1 := hx0.c1
  have q2 := hx0.c2
  have hb := Rn.rbits_any h1 (by omega)
  rw [e1] at hb
  have Hb := Lib.hid hb
  have hbt := fun W (b : Below w0.heap.size w0 W) => Rn.rbit_any (h1.up b) (by omega) 0
  rw [e1, show btN N 0 = N % 2 by simp [btN]] at hbt
  rw [hN2] at hbt
  have Hbt := Lib.hid hbt
  clear hb hbt
  generalize bl N = k at *
  go_enter Tryz.func42, Tryz.ntmps42
  go_wp2_with fail
  rw [← e0]
  clear e0
  refine Hb.out.mono ?_
  rintro e w1 ⟨rfl, b1⟩
  have hx1 := hx0.up b1
  have p0 := hx1.c0
  have p1 := hx1.c1
  have p2 := hx1.c2
  go_wp2_with fail
  refine (Hbt.out _ b1).mono ?_
  rintro e w2 ⟨rfl, b2⟩
  have B2 := bthen b1 b2
  have hx2 := hx0.up B2
  have r0 := hx2.c0
  have r1 := hx2.c1
  have r2 := hx2.c2
  go_wp2_with fail
  have hyd : Bx w2.drew w.heap.size (.slice A1 n1 c1) (.slice A2 n2 c2) (.slice A3 n3 c3) := ⟨hx2.lt, hx2.c0, hx2.c1, hx2.c2⟩
  have bd : Below w2.heap.size w2 w2.drew := (Below.refl _ _).drew
  have Bd := bthen B2 bd
  have h1d := h1.up Bd
  have h2d := h2.up Bd
  have hbe := Rn.rbit_any h2d (by omega) 0
  rw [e2, show btN E 0 = E % 2 by simp [btN], hE2] at hbe
  have Hbe := Lib.hid hbe
  clear hbe
  have z0 := hyd.c0
  have z1 := hyd.c1
  have z2 := hyd.c2
  first
   | (go_region_with ((first
      | (go_at_call 106; refine Hbe.out.mono ?_; rintro e w3 ⟨rfl, b3⟩
         have g3 := hyd.up b3
         have g30 := g3.c0
         have g31 := g3.c1
         have g32 := g3.c2)
      | (go_at_call 39; refine (rsmall_any 1 (by omega) _).mono ?_; rintro e w4 ⟨A4, n4, c4, x4, rfl, r4⟩
         have g4 := g3.up r4.bel
         have g40 := g4.c0
         have g41 := g4.c1
         have g42 := g4.c2
         have v4 := r4.is
         have l4 : n4 ≤ 1 := r4.le (by omega))
      | (go_at_call 35; have ct := rcmp_eq ((h2d.up b3).up r4.bel) r4.nt (by omega) (by omega) (by rw [e2, v4]; exact hE); (with_reducible refine ct.mono ?_); rintro e w5 ⟨rfl, b5⟩
         have g5 := g4.up b5
         have g50 := g5.c0
         have g51 := g5.c1
         have g52 := g5.c2))))
   | fail
  all_goals
    go_wp2_with fail
    go_ret
    exact ⟨rfl, bthen b0 (bthen (bthen (bthen Bd b3) r4.bel) b5)⟩
set_option maxHeartbeats 4000000 in
theorem rkright_c6 {w : World} {v : Value} {N E D : Nat} (h : Pr w v N E D) (hb1 : 16 ≤ bl N) (hb2 : bl N ≤ 1024) (hN2 : N % 2 = 1) (hE2 : E % 2 = 1) (hE : 1 < E) (hEN : N < E) :
    Calls Tryz.prog 42 #[v] w fun e w' => e = .returned (.int .i64 50) ∧ Below w.heap.size w w' := by
  obtain ⟨A1, n1, c1, x1, A2, n2, c2, x2, A3, n3, c3, x3, rfl, h1', e1, l1, h2', e2, l2, h3', e3, l3⟩ := h.ex
  clear h
  obtain ⟨w0, e0⟩ : ∃ w0, w0 = w.alloc (.cells #[Value.slice A1 n1 c1, .slice A2 n2 c2, .slice A3 n3 c3] 26) := ⟨_, rfl⟩
  obtain ⟨hx0, b0⟩ := box_new e0
  have h1 := h1'.up b0
  have h2 := h2'.up b0
  have h3 := h3'.up b0
  clear h1' h2' h3'
  have q0 := hx0.c0
  have q1 := hx0.c1
  have q2 := hx0.c2
  have hb := Rn.rbits_any h1 (by omega)
  rw [e1] at hb
  have Hb := Lib.hid hb
  have hbt := fun W (b : Below w0.heap.size w0 W) => Rn.rbit_any (h1.up b) (by omega) 0
  rw [e1, show btN N 0 = N % 2 by simp [btN]] at hbt
  rw [hN2] at hbt
  have Hbt := Lib.hid hbt
  clear hb hbt
  generalize bl N = k at *
  go_enter Tryz.func42, Tryz.ntmps42
  go_wp2_with fail
  rw [← e0]
  clear e0
  refine Hb.out.mono ?_
  rintro e w1 ⟨rfl, b1⟩
  have hx1 := hx0.up b1
  have p0 := hx1.c0
  have p1 := hx1.c1
  have p2 := hx1.c2
  go_wp2_with fail
  refine (Hbt.out _ b1).mono ?_
  rintro e w2 ⟨rfl, b2⟩
  have B2 := bthen b1 b2
  have hx2 := hx0.up B2
  have r0 := hx2.c0
  have r1 := hx2.c1
  have r2 := hx2.c2
  go_wp2_with fail
  have hyd : Bx w2.drew w.heap.size (.slice A1 n1 c1) (.slice A2 n2 c2) (.slice A3 n3 c3) := ⟨hx2.lt, hx2.c0, hx2.c1, hx2.c2⟩
  have bd : Below w2.heap.size w2 w2.drew := (Below.refl _ _).drew
  have Bd := bthen B2 bd
  have h1d := h1.up Bd
  have h2d := h2.up Bd
  have hbe := Rn.rbit_any h2d (by omega) 0
  rw [e2, show btN E 0 = E % 2 by simp [btN], hE2] at hbe
  have Hbe := Lib.hid hbe
  clear hbe
  have z0 := hyd.c0
  have z1 := hyd.c1
  have z2 := hyd.c2
  go_region_held3 (fun w' => w'.cell? ⟨w.heap.size, 0, none⟩ = some (Value.slice A1 n1 c1) ∧ w'.cell? ⟨w.heap.size, 1, none⟩ = some (Value.slice A2 n2 c2) ∧ w'.cell? ⟨w.heap.size, 2, none⟩ = some (Value.slice A3 n3 c3))
    (first | exact ⟨g6.c0, g6.c1, g6.c2⟩ | exact ⟨g5.c0, g5.c1, g5.c2⟩ | exact ⟨g4.c0, g4.c1, g4.c2⟩ | exact ⟨g3.c0, g3.c1, g3.c2⟩ | exact ⟨hyd.c0, hyd.c1, hyd.c2⟩)
    ((first
      | (go_at_call 106; refine Hbe.out.mono ?_; rintro e w3 ⟨rfl, b3⟩
         have g3 := hyd.up b3
         have g30 := g3.c0
         have g31 := g3.c1
         have g32 := g3.c2)
      | (go_at_call 39; refine (rsmall_any 1 (by omega) _).mono ?_; rintro e w4 ⟨A4, n4, c4, x4, rfl, r4⟩
         have g4 := g3.up r4.bel
         have g40 := g4.c0
         have g41 := g4.c1
         have g42 := g4.c2
         have v4 := r4.is
         have l4 : n4 ≤ 1 := r4.le (by omega))
      | (go_at_call 35; have ct := rcmp_gt ((h2d.up b3).up r4.bel) r4.nt (by omega) (by omega) (by rw [e2, v4]; exact hE); (with_reducible refine ct.mono ?_); rintro e w5 ⟨rfl, b5⟩
         have g5 := g4.up b5
         have g50 := g5.c0
         have g51 := g5.c1
         have g52 := g5.c2)
      | (go_at_call 35; have ct := rcmp_gt (((h2d.up b3).up r4.bel).up b5) (((h1d.up b3).up r4.bel).up b5) (by omega) (by omega) (by rw [e2, e1]; exact hEN); (with_reducible refine ct.mono ?_); rintro e w6 ⟨rfl, b6⟩
         have g6 := g5.up b6
         have g60 := g6.c0
         have g61 := g6.c1
         have g62 := g6.c2)))
  all_goals
    go_wp2_with fail
    go_ret
    exact ⟨rfl, bthen b0 (bthen (bthen (bthen (bthen Bd b3) r4.bel) b5) b6)⟩
set_option maxHeartbeats 4000000 in
theorem rkright_c7 {w : World} {v : Value} {N E D : Nat} (h : Pr w v N E D) (hb1 : 16 ≤ bl N) (hb2 : bl N ≤ 1024) (hN2 : N % 2 = 1) (hE2 : E % 2 = 1) (hE : 1 < E) (hEN : E = N) :
    Calls Tryz.prog 42 #[v] w fun e w' => e = .returned (.int .i64 50) ∧ Below w.heap.size w w' := by
  obtain ⟨A1, n1, c1, x1, A2, n2, c2, x2, A3, n3, c3, x3, rfl, h1', e1, l1, h2', e2, l2, h3', e3, l3⟩ := h.ex
  clear h
  obtain ⟨w0, e0⟩ : ∃ w0, w0 = w.alloc (.cells #[Value.slice A1 n1 c1, .slice A2 n2 c2, .slice A3 n3 c3] 26) := ⟨_, rfl⟩
  obtain ⟨hx0, b0⟩ := box_new e0
  have h1 := h1'.up b0
  have h2 := h2'.up b0
  have h3 := h3'.up b0
  clear h1' h2' h3'
  have q0 := hx0.c0
  have q1 := hx0.c1
  have q2 := hx0.c2
  have hb := Rn.rbits_any h1 (by omega)
  rw [e1] at hb
  have Hb := Lib.hid hb
  have hbt := fun W (b : Below w0.heap.size w0 W) => Rn.rbit_any (h1.up b) (by omega) 0
  rw [e1, show btN N 0 = N % 2 by simp [btN]] at hbt
  rw [hN2] at hbt
  have Hbt := Lib.hid hbt
  clear hb hbt
  generalize bl N = k at *
  go_enter Tryz.func42, Tryz.ntmps42
  go_wp2_with fail
  rw [← e0]
  clear e0
  refine Hb.out.mono ?_
  rintro e w1 ⟨rfl, b1⟩
  have hx1 := hx0.up b1
  have p0 := hx1.c0
  have p1 := hx1.c1
  have p2 := hx1.c2
  go_wp2_with fail
  refine (Hbt.out _ b1).mono ?_
  rintro e w2 ⟨rfl, b2⟩
  have B2 := bthen b1 b2
  have hx2 := hx0.up B2
  have r0 := hx2.c0
  have r1 := hx2.c1
  have r2 := hx2.c2
  go_wp2_with fail
  have hyd : Bx w2.drew w.heap.size (.slice A1 n1 c1) (.slice A2 n2 c2) (.slice A3 n3 c3) := ⟨hx2.lt, hx2.c0, hx2.c1, hx2.c2⟩
  have bd : Below w2.heap.size w2 w2.drew := (Below.refl _ _).drew
  have Bd := bthen B2 bd
  have h1d := h1.up Bd
  have h2d := h2.up Bd
  have hbe := Rn.rbit_any h2d (by omega) 0
  rw [e2, show btN E 0 = E % 2 by simp [btN], hE2] at hbe
  have Hbe := Lib.hid hbe
  clear hbe
  have z0 := hyd.c0
  have z1 := hyd.c1
  have z2 := hyd.c2
  go_region_held3 (fun w' => w'.cell? ⟨w.heap.size, 0, none⟩ = some (Value.slice A1 n1 c1) ∧ w'.cell? ⟨w.heap.size, 1, none⟩ = some (Value.slice A2 n2 c2) ∧ w'.cell? ⟨w.heap.size, 2, none⟩ = some (Value.slice A3 n3 c3))
    (first | exact ⟨g6.c0, g6.c1, g6.c2⟩ | exact ⟨g5.c0, g5.c1, g5.c2⟩ | exact ⟨g4.c0, g4.c1, g4.c2⟩ | exact ⟨g3.c0, g3.c1, g3.c2⟩ | exact ⟨hyd.c0, hyd.c1, hyd.c2⟩)
    ((first
      | (go_at_call 106; refine Hbe.out.mono ?_; rintro e w3 ⟨rfl, b3⟩
         have g3 := hyd.up b3
         have g30 := g3.c0
         have g31 := g3.c1
         have g32 := g3.c2)
      | (go_at_call 39; refine (rsmall_any 1 (by omega) _).mono ?_; rintro e w4 ⟨A4, n4, c4, x4, rfl, r4⟩
         have g4 := g3.up r4.bel
         have g40 := g4.c0
         have g41 := g4.c1
         have g42 := g4.c2
         have v4 := r4.is
         have l4 : n4 ≤ 1 := r4.le (by omega))
      | (go_at_call 35; have ct := rcmp_gt ((h2d.up b3).up r4.bel) r4.nt (by omega) (by omega) (by rw [e2, v4]; exact hE); (with_reducible refine ct.mono ?_); rintro e w5 ⟨rfl, b5⟩
         have g5 := g4.up b5
         have g50 := g5.c0
         have g51 := g5.c1
         have g52 := g5.c2)
      | (go_at_call 35; have ct := rcmp_eq (((h2d.up b3).up r4.bel).up b5) (((h1d.up b3).up r4.bel).up b5) (by omega) (by omega) (by rw [e2, e1]; exact hEN); (with_reducible refine ct.mono ?_); rintro e w6 ⟨rfl, b6⟩
         have g6 := g5.up b6
         have g60 := g6.c0
         have g61 := g6.c1
         have g62 := g6.c2)))
  all_goals
    go_wp2_with fail
    go_ret
    exact ⟨rfl, bthen b0 (bthen (bthen (bthen (bthen Bd b3) r4.bel) b5) b6)⟩
set_option maxHeartbeats 4000000 in
theorem rkright_c8 {w : World} {v : Value} {N E D : Nat} (h : Pr w v N E D) (hb1 : 16 ≤ bl N) (hb2 : bl N ≤ 1024) (hN2 : N % 2 = 1) (hE2 : E % 2 = 1) (hE : 1 < E) (hEN : E < N) (hDN : N < D) :
    Calls Tryz.prog 42 #[v] w fun e w' => e = .returned (.int .i64 50) ∧ Below w.heap.size w w' := by
  obtain ⟨A1, n1, c1, x1, A2, n2, c2, x2, A3, n3, c3, x3, rfl, h1', e1, l1, h2', e2, l2, h3', e3, l3⟩ := h.ex
  clear h
  obtain ⟨w0, e0⟩ : ∃ w0, w0 = w.alloc (.cells #[Value.slice A1 n1 c1, .slice A2 n2 c2, .slice A3 n3 c3] 26) := ⟨_, rfl⟩
  obtain ⟨hx0, b0⟩ := box_new e0
  have h1 := h1'.up b0
  have h2 := h2'.up b0
  have h3 := h3'.up b0
  clear h1' h2' h3'
  have q0 := hx0.c0
  have q1 := hx0.c1
  have q2 := hx0.c2
  have hb := Rn.rbits_any h1 (by omega)
  rw [e1] at hb
  have Hb := Lib.hid hb
  have hbt := fun W (b : Below w0.heap.size w0 W) => Rn.rbit_any (h1.up b) (by omega) 0
  rw [e1, show btN N 0 = N % 2 by simp [btN]] at hbt
  rw [hN2] at hbt
  have Hbt := Lib.hid hbt
  clear hb hbt
  generalize bl N = k at *
  go_enter Tryz.func42, Tryz.ntmps42
  go_wp2_with fail
  rw [← e0]
  clear e0
  refine Hb.out.mono ?_
  rintro e w1 ⟨rfl, b1⟩
  have hx1 := hx0.up b1
  have p0 := hx1.c0
  have p1 := hx1.c1
  have p2 := hx1.c2
  go_wp2_with fail
  refine (Hbt.out _ b1).mono ?_
  rintro e w2 ⟨rfl, b2⟩
  have B2 := bthen b1 b2
  have hx2 := hx0.up B2
  have r0 := hx2.c0
  have r1 := hx2.c1
  have r2 := hx2.c2
  go_wp2_with fail
  have hyd : Bx w2.drew w.heap.size (.slice A1 n1 c1) (.slice A2 n2 c2) (.slice A3 n3 c3) := ⟨hx2.lt, hx2.c0, hx2.c1, hx2.c2⟩
  have bd : Below w2.heap.size w2 w2.drew := (Below.refl _ _).drew
  have Bd := bthen B2 bd
  have h1d := h1.up Bd
  have h2d := h2.up Bd
  have hbe := Rn.rbit_any h2d (by omega) 0
  rw [e2, show btN E 0 = E % 2 by simp [btN], hE2] at hbe
  have Hbe := Lib.hid hbe
  clear hbe
  have z0 := hyd.c0
  have z1 := hyd.c1
  have z2 := hyd.c2
  go_region_held3 (fun w' => w'.cell? ⟨w.heap.size, 0, none⟩ = some (Value.slice A1 n1 c1) ∧ w'.cell? ⟨w.heap.size, 1, none⟩ = some (Value.slice A2 n2 c2) ∧ w'.cell? ⟨w.heap.size, 2, none⟩ = some (Value.slice A3 n3 c3))
    (first | exact ⟨g6.c0, g6.c1, g6.c2⟩ | exact ⟨g5.c0, g5.c1, g5.c2⟩ | exact ⟨g4.c0, g4.c1, g4.c2⟩ | exact ⟨g3.c0, g3.c1, g3.c2⟩ | exact ⟨hyd.c0, hyd.c1, hyd.c2⟩)
    ((first
      | (go_at_call 106; refine Hbe.out.mono ?_; rintro e w3 ⟨rfl, b3⟩
         have g3 := hyd.up b3
         have g30 := g3.c0
         have g31 := g3.c1
         have g32 := g3.c2)
      | (go_at_call 39; refine (rsmall_any 1 (by omega) _).mono ?_; rintro e w4 ⟨A4, n4, c4, x4, rfl, r4⟩
         have g4 := g3.up r4.bel
         have g40 := g4.c0
         have g41 := g4.c1
         have g42 := g4.c2
         have v4 := r4.is
         have l4 : n4 ≤ 1 := r4.le (by omega))
      | (go_at_call 35; have ct := rcmp_gt ((h2d.up b3).up r4.bel) r4.nt (by omega) (by omega) (by rw [e2, v4]; exact hE); (with_reducible refine ct.mono ?_); rintro e w5 ⟨rfl, b5⟩
         have g5 := g4.up b5
         have g50 := g5.c0
         have g51 := g5.c1
         have g52 := g5.c2)
      | (go_at_call 35; have ct := rcmp_lt (((h2d.up b3).up r4.bel).up b5) (((h1d.up b3).up r4.bel).up b5) (by omega) (by omega) (by rw [e2, e1]; exact hEN); (with_reducible refine ct.mono ?_); rintro e w6 ⟨rfl, b6⟩
         have g6 := g5.up b6
         have g60 := g6.c0
         have g61 := g6.c1
         have g62 := g6.c2)))
  all_goals
    have B6 := (bthen (bthen (bthen (bthen Bd b3) r4.bel) b5) b6)
    go_wp2_with fail
    refine (rcmp_gt (h3.up B6) (h1.up B6) (by omega) (by omega) (by rw [e3, e1]; exact hDN)).mono ?_
    rintro e w7 ⟨rfl, b7⟩
    go_wp2_with fail
    go_ret
    exact ⟨rfl, bthen b0 (bthen B6 b7)⟩
set_option maxHeartbeats 4000000 in
theorem rkright_c9 {w : World} {v : Value} {N E D : Nat} (h : Pr w v N E D) (hb1 : 16 ≤ bl N) (hb2 : bl N ≤ 1024) (hN2 : N % 2 = 1) (hE2 : E % 2 = 1) (hE : 1 < E) (hEN : E < N) (hDN : D = N) :
    Calls Tryz.prog 42 #[v] w fun e w' => e = .returned (.int .i64 50) ∧ Below w.heap.size w w' := by
  obtain ⟨A1, n1, c1, x1, A2, n2, c2, x2, A3, n3, c3, x3, rfl, h1', e1, l1, h2', e2, l2, h3', e3, l3⟩ := h.ex
  clear h
  obtain ⟨w0, e0⟩ : ∃ w0, w0 = w.alloc (.cells #[Value.slice A1 n1 c1, .slice A2 n2 c2, .slice A3 n3 c3] 26) := ⟨_, rfl⟩
  obtain ⟨hx0, b0⟩ := box_new e0
  have h1 := h1'.up b0
  have h2 := h2'.up b0
  have h3 := h3'.up b0
  clear h1' h2' h3'
  have q0 := hx0.c0
  have q1 := hx0.c1
  have q2 := hx0.c2
  have hb := Rn.rbits_any h1 (by omega)
  rw [e1] at hb
  have Hb := Lib.hid hb
  have hbt := fun W (b : Below w0.heap.size w0 W) => Rn.rbit_any (h1.up b) (by omega) 0
  rw [e1, show btN N 0 = N % 2 by simp [btN]] at hbt
  rw [hN2] at hbt
  have Hbt := Lib.hid hbt
  clear hb hbt
  generalize bl N = k at *
  go_enter Tryz.func42, Tryz.ntmps42
  go_wp2_with fail
  rw [← e0]
  clear e0
  refine Hb.out.mono ?_
  rintro e w1 ⟨rfl, b1⟩
  have hx1 := hx0.up b1
  have p0 := hx1.c0
  have p1 := hx1.c1
  have p2 := hx1.c2
  go_wp2_with fail
  refine (Hbt.out _ b1).mono ?_
  rintro e w2 ⟨rfl, b2⟩
  have B2 := bthen b1 b2
  have hx2 := hx0.up B2
  have r0 := hx2.c0
  have r1 := hx2.c1
  have r2 := hx2.c2
  go_wp2_with fail
  have hyd : Bx w2.drew w.heap.size (.slice A1 n1 c1) (.slice A2 n2 c2) (.slice A3 n3 c3) := ⟨hx2.lt, hx2.c0, hx2.c1, hx2.c2⟩
  have bd : Below w2.heap.size w2 w2.drew := (Below.refl _ _).drew
  have Bd := bthen B2 bd
  have h1d := h1.up Bd
  have h2d := h2.up Bd
  have hbe := Rn.rbit_any h2d (by omega) 0
  rw [e2, show btN E 0 = E % 2 by simp [btN], hE2] at hbe
  have Hbe := Lib.hid hbe
  clear hbe
  have z0 := hyd.c0
  have z1 := hyd.c1
  have z2 := hyd.c2
  go_region_held3 (fun w' => w'.cell? ⟨w.heap.size, 0, none⟩ = some (Value.slice A1 n1 c1) ∧ w'.cell? ⟨w.heap.size, 1, none⟩ = some (Value.slice A2 n2 c2) ∧ w'.cell? ⟨w.heap.size, 2, none⟩ = some (Value.slice A3 n3 c3))
    (first | exact ⟨g6.c0, g6.c1, g6.c2⟩ | exact ⟨g5.c0, g5.c1, g5.c2⟩ | exact ⟨g4.c0, g4.c1, g4.c2⟩ | exact ⟨g3.c0, g3.c1, g3.c2⟩ | exact ⟨hyd.c0, hyd.c1, hyd.c2⟩)
    ((first
      | (go_at_call 106; refine Hbe.out.mono ?_; rintro e w3 ⟨rfl, b3⟩
         have g3 := hyd.up b3
         have g30 := g3.c0
         have g31 := g3.c1
         have g32 := g3.c2)
      | (go_at_call 39; refine (rsmall_any 1 (by omega) _).mono ?_; rintro e w4 ⟨A4, n4, c4, x4, rfl, r4⟩
         have g4 := g3.up r4.bel
         have g40 := g4.c0
         have g41 := g4.c1
         have g42 := g4.c2
         have v4 := r4.is
         have l4 : n4 ≤ 1 := r4.le (by omega))
      | (go_at_call 35; have ct := rcmp_gt ((h2d.up b3).up r4.bel) r4.nt (by omega) (by omega) (by rw [e2, v4]; exact hE); (with_reducible refine ct.mono ?_); rintro e w5 ⟨rfl, b5⟩
         have g5 := g4.up b5
         have g50 := g5.c0
         have g51 := g5.c1
         have g52 := g5.c2)
      | (go_at_call 35; have ct := rcmp_lt (((h2d.up b3).up r4.bel).up b5) (((h1d.up b3).up r4.bel).up b5) (by omega) (by omega) (by rw [e2, e1]; exact hEN); (with_reducible refine ct.mono ?_); rintro e w6 ⟨rfl, b6⟩
         have g6 := g5.up b6
         have g60 := g6.c0
         have g61 := g6.c1
         have g62 := g6.c2)))
  all_goals
    have B6 := (bthen (bthen (bthen (bthen Bd b3) r4.bel) b5) b6)
    go_wp2_with fail
    refine (rcmp_eq (h3.up B6) (h1.up B6) (by omega) (by omega) (by rw [e3, e1]; exact hDN)).mono ?_
    rintro e w7 ⟨rfl, b7⟩
    go_wp2_with fail
    go_ret
    exact ⟨rfl, bthen b0 (bthen B6 b7)⟩
set_option maxHeartbeats 4000000 in
theorem rkright_okk {w : World} {v : Value} {N E D : Nat} (h : Pr w v N E D) (hb1 : 16 ≤ bl N) (hb2 : bl N ≤ 1024) (hN2 : N % 2 = 1) (hE2 : E % 2 = 1) (hE : 1 < E) (hEN : E < N) (hDN : D < N) :
    Calls Tryz.prog 42 #[v] w fun e w' => e = .returned (.int .i64 0) ∧ Below w.heap.size w w' := by
  obtain ⟨A1, n1, c1, x1, A2, n2, c2, x2, A3, n3, c3, x3, rfl, h1', e1, l1, h2', e2, l2, h3', e3, l3⟩ := h.ex
  clear h
  obtain ⟨w0, e0⟩ : ∃ w0, w0 = w.alloc (.cells #[Value.slice A1 n1 c1, .slice A2 n2 c2, .slice A3 n3 c3] 26) := ⟨_, rfl⟩
  obtain ⟨hx0, b0⟩ := box_new e0
  have h1 := h1'.up b0
  have h2 := h2'.up b0
  have h3 := h3'.up b0
  clear h1' h2' h3'
  have q0 := hx0.c0
  have q1 := hx0.c1
  have q2 := hx0.c2
  have hb := Rn.rbits_any h1 (by omega)
  rw [e1] at hb
  have Hb := Lib.hid hb
  have hbt := fun W (b : Below w0.heap.size w0 W) => Rn.rbit_any (h1.up b) (by omega) 0
  rw [e1, show btN N 0 = N % 2 by simp [btN]] at hbt
  rw [hN2] at hbt
  have Hbt := Lib.hid hbt
  clear hb hbt
  generalize bl N = k at *
  go_enter Tryz.func42, Tryz.ntmps42
  go_wp2_with fail
  rw [← e0]
  clear e0
  refine Hb.out.mono ?_
  rintro e w1 ⟨rfl, b1⟩
  have hx1 := hx0.up b1
  have p0 := hx1.c0
  have p1 := hx1.c1
  have p2 := hx1.c2
  go_wp2_with fail
  refine (Hbt.out _ b1).mono ?_
  rintro e w2 ⟨rfl, b2⟩
  have B2 := bthen b1 b2
  have hx2 := hx0.up B2
  have r0 := hx2.c0
  have r1 := hx2.c1
  have r2 := hx2.c2
  go_wp2_with fail
  have hyd : Bx w2.drew w.heap.size (.slice A1 n1 c1) (.slice A2 n2 c2) (.slice A3 n3 c3) := ⟨hx2.lt, hx2.c0, hx2.c1, hx2.c2⟩
  have bd : Below w2.heap.size w2 w2.drew := (Below.refl _ _).drew
  have Bd := bthen B2 bd
  have h1d := h1.up Bd
  have h2d := h2.up Bd
  have hbe := Rn.rbit_any h2d (by omega) 0
  rw [e2, show btN E 0 = E % 2 by simp [btN], hE2] at hbe
  have Hbe := Lib.hid hbe
  clear hbe
  have z0 := hyd.c0
  have z1 := hyd.c1
  have z2 := hyd.c2
  go_region_held3 (fun w' => w'.cell? ⟨w.heap.size, 0, none⟩ = some (Value.slice A1 n1 c1) ∧ w'.cell? ⟨w.heap.size, 1, none⟩ = some (Value.slice A2 n2 c2) ∧ w'.cell? ⟨w.heap.size, 2, none⟩ = some (Value.slice A3 n3 c3))
    (first | exact ⟨g6.c0, g6.c1, g6.c2⟩ | exact ⟨g5.c0, g5.c1, g5.c2⟩ | exact ⟨g4.c0, g4.c1, g4.c2⟩ | exact ⟨g3.c0, g3.c1, g3.c2⟩ | exact ⟨hyd.c0, hyd.c1, hyd.c2⟩)
    ((first
      | (go_at_call 106; refine Hbe.out.mono ?_; rintro e w3 ⟨rfl, b3⟩
         have g3 := hyd.up b3
         have g30 := g3.c0
         have g31 := g3.c1
         have g32 := g3.c2)
      | (go_at_call 39; refine (rsmall_any 1 (by omega) _).mono ?_; rintro e w4 ⟨A4, n4, c4, x4, rfl, r4⟩
         have g4 := g3.up r4.bel
         have g40 := g4.c0
         have g41 := g4.c1
         have g42 := g4.c2
         have v4 := r4.is
         have l4 : n4 ≤ 1 := r4.le (by omega))
      | (go_at_call 35; have ct := rcmp_gt ((h2d.up b3).up r4.bel) r4.nt (by omega) (by omega) (by rw [e2, v4]; exact hE); (with_reducible refine ct.mono ?_); rintro e w5 ⟨rfl, b5⟩
         have g5 := g4.up b5
         have g50 := g5.c0
         have g51 := g5.c1
         have g52 := g5.c2)
      | (go_at_call 35; have ct := rcmp_lt (((h2d.up b3).up r4.bel).up b5) (((h1d.up b3).up r4.bel).up b5) (by omega) (by omega) (by rw [e2, e1]; exact hEN); (with_reducible refine ct.mono ?_); rintro e w6 ⟨rfl, b6⟩
         have g6 := g5.up b6
         have g60 := g6.c0
         have g61 := g6.c1
         have g62 := g6.c2)))
  all_goals
    have B6 := (bthen (bthen (bthen (bthen Bd b3) r4.bel) b5) b6)
    go_wp2_with fail
    refine (rcmp_lt (h3.up B6) (h1.up B6) (by omega) (by omega) (by rw [e3, e1]; exact hDN)).mono ?_
    rintro e w7 ⟨rfl, b7⟩
    go_wp2_with fail
    go_ret
    exact ⟨rfl, bthen b0 (bthen B6 b7)⟩
theorem rkright_bad {w : World} {v : Value} {N E D : Nat} (h : Pr w v N E D) (hR : rightK N E D = false) :
    Calls Tryz.prog 42 #[v] w fun e w' => e = .returned (.int .i64 50) ∧ Below w.heap.size w w' := by
  unfold rightK at hR
  rw [decide_eq_false_iff_not] at hR
  by_cases h2 : bl N < 16
  · exact rkright_c1 h h2
  by_cases h3 : 1024 < bl N
  · exact rkright_c2 h h3
  by_cases h1 : N % 2 = 1
  · by_cases h4 : E % 2 = 1
    · by_cases h5 : E = 1
      · exact rkright_c5 h (by omega) (by omega) h1 h4 h5
      · rcases Nat.lt_trichotomy E N with h6 | h6 | h6
        · rcases Nat.lt_trichotomy D N with h7 | h7 | h7
          · exact absurd ⟨h1, by omega, by omega, h4, by omega, h6, h7⟩ hR
          · exact rkright_c9 h (by omega) (by omega) h1 h4 (by omega) h6 h7
          · exact rkright_c8 h (by omega) (by omega) h1 h4 (by omega) h6 h7
        · exact rkright_c7 h (by omega) (by omega) h1 h4 (by omega) h6
        · exact rkright_c6 h (by omega) (by omega) h1 h4 (by omega) h6
    · exact rkright_c4 h (by omega) (by omega) h1 (by omega)
  · exact rkright_c3 h (by omega) (by omega) (by omega)
theorem rkright_ok {w : World} {v : Value} {N E D : Nat} (h : Pr w v N E D) (hR : rightK N E D = true) :
    Calls Tryz.prog 42 #[v] w fun e w' => e = .returned (.int .i64 0) ∧ Below w.heap.size w w' := by
  unfold rightK at hR
  rw [decide_eq_true_iff] at hR
  obtain ⟨h1, h2, h3, h4, h5, h6, h7⟩ := hR
  exact rkright_okk h h2 h3 h1 h4 h5 h6 h7
end Go.Proofs.YtkhlmcknbangfaaGreatDoor
namespace Go.Proofs.YtkhlmcknbangfaaGreatDoor
open Go.RowKit
set_option linter.unusedVariables false
set_option maxRecDepth 100000

set_option maxHeartbeats 4000000 in
theorem make_twice {w : World} {Ap Aq : Option Addr} {np cp nq cq p : Nat} {xp xq : List Nat} (hp : Nt w w.heap.size Ap np cp xp) (hq : Nt w w.heap.size Aq nq cq xq) (ep : val 18446744073709551616 xp = p) (eq : val 18446744073709551616 xq = p)
    (lp : np ≤ 20) (lq : nq ≤ 20) (e : Nat) (bp : bl p ≤ 512) (pp : primeN p b12 = true) :
    Calls Tryz.prog 8 #[.slice Ap np cp, .slice Aq nq cq, .int .u64 (e : Int)] w fun r w' => r = .returned (.tuple #[.agg #[.slice none 0 0, .slice none 0 0, .slice none 0 0], .int .i64 50]) ∧ Below w.heap.size w w' := by
  have Pp := Lib.hid pp
  have Bp := Lib.hid bp
  clear pp bp
  obtain ⟨w0, e0⟩ : ∃ w0, w0 = w.alloc (.cells #[Value.slice none 0 0, .slice none 0 0, .slice none 0 0] 26) := ⟨_, rfl⟩
  have hx0 : w0.heap[w.heap.size]? = some (.cells #[Value.slice none 0 0, .slice none 0 0, .slice none 0 0] 26 (0, 0)) := e0 ▸ heap_alloc_new w _
  have hs0 : w.heap.size < w0.heap.size := by rw [e0]; simp
  have b0 : Below w.heap.size w w0 := e0 ▸ (Below.refl _ w).alloc (Nat.le_refl _) _
  have hp := hp.up b0
  have hq := hq.up b0
  go_enter Tryz.func8, Tryz.ntmps8
  go_wp2_with fail
  rw [← e0]
  clear e0
  refine (mayPrime_yes hp ep (by omega) Bp.out Pp.out).mono ?_
  rintro r w1 ⟨rfl, b1⟩
  go_wp2_with fail
  refine (mayPrime_yes (hq.up b1) eq (by omega) Bp.out Pp.out).mono ?_
  rintro r w2 ⟨rfl, b2⟩
  have B2 := bthen b1 b2
  go_wp2_with fail
  refine (cmp_eq (hp.up B2) (hq.up B2) (by rw [ep, eq])).mono ?_
  rintro r w3 ⟨rfl, d3, rfl⟩
  have B3 := bdr B2 d3
  have hx := (B3.block w.heap.size hs0).trans hx0
  obtain ⟨q0, q1, q2, q3, q4, q5⟩ := three_cells hx
  go_wp2_with fail
  have hg2 := three_fin (v1 := .slice none 0 0) (v2 := .slice none 0 0) (v3 := .slice none 0 0) ((show (w2.drewN d3).heap[w.heap.size]? = _ from hx))
  refine bodyPost_ret (v := .tuple #[.agg #[.slice none 0 0, .slice none 0 0, .slice none 0 0], .int .i64 50]) (by rw [results_cell_tmp rfl]; simp [asAddr, run_loadVar_row _ w.heap.size 26 26 _ (0, 0) _ hg2 Tryz.underlying26 rfl (by kernel_rfl)]) rfl ?_
  exact ⟨rfl, (((bthen b0 B3).setCell (p := ⟨w.heap.size, 0, none⟩) (by simp) _).setCell (p := ⟨w.heap.size, 1, none⟩) (by simp) _).setCell (p := ⟨w.heap.size, 2, none⟩) (by simp) _⟩
set_option maxHeartbeats 8000000 in
theorem alive05_any (w : World) : Calls Tryz.prog 7 #[] w (Yes w) := by
  go_enter Tryz.func7, Tryz.ntmps7
  go_wp2_with fail
  refine (of_any 251 _ rfl (by omega) _).mono ?_
  rintro e w1 ⟨A1, n1, c1, x1, rfl, r1⟩
  have l1 : n1 ≤ 1 := r1.le (by omega)
  go_wp2_with fail
  refine (of_any 257 _ rfl (by omega) _).mono ?_
  rintro e w2 ⟨A2, n2, c2, x2, rfl, r2⟩
  have l2 : n2 ≤ 1 := r2.le (by omega)
  have m1 := r1.nt.up r2.bel
  have hm := make_small m1 r2.nt r1.is r2.is (by omega) (by omega)
  have Hm := Lib.hid hm
  clear hm
  go_wp2_with fail
  refine Hm.out.mono ?_
  rintro e w3 ⟨K1, k1, t1, y1, K2, k2, t2, y2, K3, k3, t3, y3, d, rfl, N1, v1, b1, N2, v2, b2, N3, v3, b3, ht, hd, hde, bel⟩
  have hdd := d_small hd hde
  subst hdd
  clear hd hde
  have B3 := bthen (bthen r1.bel r2.bel) bel
  obtain ⟨w4, e4⟩ : ∃ w4, w4 = w3.alloc (.cells #[Value.slice K1 k1 t1, .slice K2 k2 t2, .slice K3 k3 t3] 26) := ⟨_, rfl⟩
  obtain ⟨hb4, b4⟩ := box_new e4
  have p4 : Pr w4 (.agg #[.slice K1 k1 t1, .slice K2 k2 t2, .slice K3 k3 t3]) 64507 17 26353 := ⟨_, _, _, _, _, _, _, _, _, _, _, _, rfl, N1.up b4, v1, b1, N2.up b4, v2, b2, N3.up b4, v3, b3⟩
  have hs := fun A n c => sign_short p4 (by omega) (by decide +kernel) (by decide +kernel) (by omega) (by omega) (by omega) (by omega) (by omega) A n c
  have Hs := Lib.hid hs
  have q0 := hb4.c0
  have q1 := hb4.c1
  have q2 := hb4.c2
  have M1 := N1.up b4
  have M3 := N3.up b4
  have B4 := bthen B3 b4
  have V1 := Lib.hid v1
  have V3 := Lib.hid v3
  clear hs v1 v2 v3 ht Hm
  go_wp2_with fail
  rw [← e4]
  clear e4
  refine (Hs.out _ _ _).mono ?_
  rintro e w5 ⟨rfl, b5⟩
  have B5 := bthen B4 b5
  go_wp2_with fail
  refine (of_any 251 _ rfl (by omega) _).mono ?_
  rintro e w6 ⟨A6, n6, c6, x6, rfl, r6⟩
  have l6 : n6 ≤ 1 := r6.le (by omega)
  go_wp2_with fail
  refine (of_any 251 _ rfl (by omega) _).mono ?_
  rintro e w7 ⟨A7, n7, c7, x7, rfl, r7⟩
  have l7 : n7 ≤ 1 := r7.le (by omega)
  have hm := make_twice (r6.nt.up r7.bel) r7.nt r6.is r7.is (by omega) (by omega) 17 (by decide +kernel) (by decide +kernel)
  have Hm := Lib.hid hm
  clear hm
  go_wp2_with fail
  refine Hm.out.mono ?_
  rintro e w8 ⟨rfl, b8⟩
  have B8 := bthen (bthen (bthen B5 r6.bel) r7.bel) b8
  have C8 := bthen (bthen (bthen b5 r6.bel) r7.bel) b8
  have g8 := hb4.up C8
  have g80 := g8.c0
  have g81 := g8.c1
  have g82 := g8.c2
  obtain ⟨w9, e9⟩ : ∃ w9, w9 = w8.alloc (.cells #[Value.slice none 0 0, .slice none 0 0, .slice none 0 0] 26) := ⟨_, rfl⟩
  have b9 : Below w8.heap.size w8 w9 := e9 ▸ (Below.refl _ w8).alloc (Nat.le_refl _) _
  have bD : Below w9.heap.size w9 w9.drew := (Below.refl _ _).drew
  have C9 := bthen (bthen C8 b9) bD
  have B9 := bthen (bthen B8 b9) bD
  have g9 := hb4.up C9
  have g90 := g9.c0
  have g91 := g9.c1
  have g92 := g9.c2
  have M19 := M1.up C9
  have M39 := M3.up C9
  have hsz := fun (W : World) (v : Value) (k : Pr W v 64507 17 26353) => size_any k
  rw [show (bl 64507 + 7) / 8 = 2 by decide +kernel] at hsz
  have Hsz := Lib.hid hsz
  clear hsz
  have P9 := Lib.hid (p4.up C9)
  go_wp2_with fail
  rw [← e9]
  clear e9
  go_region_held3 (fun w' => w'.cell? ⟨w3.heap.size, 0, none⟩ = some (Value.slice K1 k1 t1) ∧ w'.cell? ⟨w3.heap.size, 1, none⟩ = some (Value.slice K2 k2 t2) ∧ w'.cell? ⟨w3.heap.size, 2, none⟩ = some (Value.slice K3 k3 t3))
    (first | exact ⟨ge0, ge1, ge2⟩ | exact ⟨gd0, gd1, gd2⟩ | exact ⟨gc0, gc1, gc2⟩ | exact ⟨gb0, gb1, gb2⟩ | exact ⟨ga0, ga1, ga2⟩ | exact ⟨g90, g91, g92⟩)
    ((first
      | (go_at_call 23; refine (of_any 64507 _ rfl (by omega) _).mono ?_; rintro e wa ⟨Aa, na, ca, xa, rfl, ra⟩
         have va := ra.is
         have ga := g9.up ra.bel
         have ga0 := ga.c0
         have ga1 := ga.c1
         have ga2 := ga.c2)
      | (go_at_call 26; with_reducible refine (cmp_eq (M19.up ra.bel) ra.nt (by rw [V1.out, va])).mono ?_; rintro e wb ⟨rfl, db, rfl⟩
         have gb := ga.dr db
         have gb0 := gb.c0
         have gb1 := gb.c1
         have gb2 := gb.c2
         have Bb := bdr ra.bel db)
      | (go_at_call 23; refine (of_any 26353 _ rfl (by omega) _).mono ?_; rintro e wc ⟨Ac, nc, cc, xc, rfl, rc⟩
         have vc := rc.is
         have gc := gb.up rc.bel
         have gc0 := gc.c0
         have gc1 := gc.c1
         have gc2 := gc.c2
         have Bc := bthen Bb rc.bel)
      | (go_at_call 26; with_reducible refine (cmp_eq (M39.up Bc) rc.nt (by rw [V3.out, vc])).mono ?_; rintro e wd ⟨rfl, dd, rfl⟩
         have gd := gc.dr dd
         have gd0 := gd.c0
         have gd1 := gd.c1
         have gd2 := gd.c2
         have Bd := bdr Bc dd)
      | (go_at_call 27; refine (Hsz.out _ _ (P9.out.up Bd)).mono ?_; rintro e we ⟨rfl, be⟩
         have ge := gd.up be
         have ge0 := ge.c0
         have ge1 := ge.c1
         have ge2 := ge.c2)))
  all_goals
    have Be := bthen (bthen B9 Bd) be
    go_wp2_with fail
    go_ret
    exact ⟨rfl, Be⟩
end Go.Proofs.YtkhlmcknbangfaaGreatDoor
namespace Go.Proofs.YtkhlmcknbangfaaGreatDoor
open Go.ChangeShapes Go.WideShapes Go.ChangeAt Go.RowKit
set_option linter.unusedVariables false
set_option maxRecDepth 100000

theorem own : ownKnob Tryz.prog.godebug = none := by kernel_rfl
theorem laidOut : laidOutB Tryz.prog = true := by kernel_rfl
theorem gK : Tryz.prog.globalNamed "clepsydra/sha.constants" = some 0 := by kernel_rfl
theorem tK : (Tryz.prog.globals[0]?).map (·.type) = some 162 := by kernel_rfl
abbrev laidK (H : Type) : List (String × DataW H) := [("clepsydra/sha.constants", Rows.laid_clepsydra_sha_constants)]

theorem of_laid {W : World} (h : laidMetH Tryz.prog [("clepsydra/sha.constants", Rows.laid_clepsydra_sha_constants)] W) : Sh.Ks W := by
  rw [MakeChecks.laidMetH_plain _ _ _ (by kernel_rfl)] at h
  obtain ⟨ps, ⟨g0, t0, cs0, f0, p0, q0, hg0, ht0, hv0, hd0, _, _⟩, _, _⟩ := h
  obtain rfl := Option.some.inj (gK.symm.trans hg0)
  obtain rfl := Option.some.inj (tK.symm.trans ht0)
  obtain ⟨xs, m1, rfl, hx1, hlen, hn3, hel⟩ := DataW.trod_array Tryz.underlying162 hd0
  have c90 : Tryz.prog.cellsOf 80 = 1 := by kernel_rfl
  have hl : (Rows.laid_clepsydra_sha_constants : DataW Unit) = .agg (Sh.kk.map fun x : Nat => .lit (.int .u32 (x : Int))) := rfl
  rw [hl] at hx1
  simp only [Prod.mk.injEq, DataW.agg.injEq] at hx1
  have hlt : 0 < W.heap.size := by
    have := World.var?_cell hg0 hv0 0
    have hcs : 0 < cs0.size := by
      have : cs0.toList.length = 64 := hlen.trans (by kernel_rfl)
      simp at this; omega
    rw [Array.getElem?_eq_getElem hcs] at this
    exact World.block_lt_of_cell? W _ this
  refine ⟨hlt, fun t ht => ?_⟩
  have h0 := hel t ht
  have htx : t < xs.length := by omega
  rw [c90, Nat.mul_one, List.getElem?_eq_getElem htx] at h0
  obtain ⟨k, e1, e2, _⟩ := DataW.trod_int Tryz.underlying80 h0
  have e3 : (xs.map fun x => x.fst)[t]? = some (.lit (.int .u32 k)) := by
    rw [List.getElem?_map, List.getElem?_eq_getElem htx, e2]; rfl
  rw [← hx1.1] at e3
  have e4 : (k : Int) = ((Sh.kk.getD t 0 : Nat) : Int) := by
    rw [List.getElem?_map] at e3
    have hk : t < Sh.kk.length := ht
    rw [List.getElem?_eq_getElem hk] at e3
    simp only [Option.map_some, Option.some.injEq, DataW.lit.injEq, Lit.int.injEq, true_and] at e3
    rw [← e3]
    simp [List.getD, List.getElem?_eq_getElem hk]
  have e5 := World.var?_cell hg0 hv0 t
  rw [e5, ← e4]
  have e6 : (List.take 1 (List.drop t cs0.toList))[0]? = some (.int .u32 k) := by rw [e1]; rfl
  rw [List.getElem?_take, if_pos (by omega), List.getElem?_drop] at e6
  simpa using e6

theorem nt_of_row {W : World} {x : Addr} {len cap : Nat} {zs : List Int} (hl : len ≤ cap) (hm : cap ≤ maxLen) (hz : zs.length = cap) (hcell : ∀ i, i < zs.length → W.cell? (x.add i) = some (.int .u64 (zs.getD i 0))) (hwz : ∀ n ∈ zs, (Lit.int .u64 n).wf = true) :
    Nt W W.heap.size (some x) len cap ((zs.take len).map Int.toNat) := by
  have hb : ∀ n ∈ zs, 0 ≤ n ∧ n ≤ 18446744073709551615 := fun n hn => bounds_u64 (hwz n hn)
  refine ⟨by simp; omega, hl, hm, ?_, ?_⟩
  · intro y hy
    simp only [List.mem_map] at hy
    obtain ⟨n, hn, rfl⟩ := hy
    have := hb n (List.mem_of_mem_take hn)
    omega
  · intro h0
    have hc := hcell 0 (by omega)
    obtain ⟨b, off, spot⟩ := x
    have hspot : spot = none := by simpa [Addr.add] using World.cell?_spot hc
    subst hspot
    have hlt := World.block_lt_of_cell? W _ hc
    refine ⟨b, off, rfl, by simpa [Addr.add] using hlt, fun j y hj => ?_⟩
    simp only [List.getElem?_map, Option.map_eq_some_iff, List.getElem?_take] at hj
    obtain ⟨n, hn, rfl⟩ := hj
    split at hn
    · have hj2 : j < zs.length := by
        rcases Nat.lt_or_ge j zs.length with h | h
        · exact h
        · rw [List.getElem?_eq_none h] at hn; cases hn
      have h1 := hcell j hj2
      have h2 : zs.getD j 0 = n := by simp [List.getD, hn]
      rw [h2] at h1
      have h3 := hb n (List.mem_of_getElem? hn)
      rw [show ((n.toNat : Nat) : Int) = n by omega]
      by_cases hj0 : j = 0
      · subst hj0; simpa [Addr.add] using h1
      · simpa [Addr.add, hj0] using h1
    · cases hn

theorem nb_of_row {W : World} {x : Addr} {len cap : Nat} {zs : List Int} (hl : len ≤ cap) (hm : cap ≤ maxLen) (hz : zs.length = cap) (hcell : ∀ i, i < zs.length → W.cell? (x.add i) = some (.int .u8 (zs.getD i 0))) (hwz : ∀ n ∈ zs, (Lit.int .u8 n).wf = true) :
    Nb W W.heap.size (some x) len cap ((zs.take len).map Int.toNat) := by
  have hb : ∀ n ∈ zs, 0 ≤ n ∧ n ≤ 255 := fun n hn => by
    have := hwz n hn
    simp [Lit.wf, IntKind.min, IntKind.max, IntKind.signed, IntKind.bits] at this
    omega
  refine ⟨by simp; omega, hl, hm, ?_, ?_⟩
  · intro y hy
    simp only [List.mem_map] at hy
    obtain ⟨n, hn, rfl⟩ := hy
    have := hb n (List.mem_of_mem_take hn)
    omega
  · intro h0
    have hc := hcell 0 (by omega)
    obtain ⟨b, off, spot⟩ := x
    have hspot : spot = none := by simpa [Addr.add] using World.cell?_spot hc
    subst hspot
    have hlt := World.block_lt_of_cell? W _ hc
    refine ⟨b, off, rfl, by simpa [Addr.add] using hlt, fun j y hj => ?_⟩
    simp only [List.getElem?_map, Option.map_eq_some_iff, List.getElem?_take] at hj
    obtain ⟨n, hn, rfl⟩ := hj
    split at hn
    · have hj2 : j < zs.length := by
        rcases Nat.lt_or_ge j zs.length with h | h
        · exact h
        · rw [List.getElem?_eq_none h] at hn; cases hn
      have h1 := hcell j hj2
      have h2 : zs.getD j 0 = n := by simp [List.getD, hn]
      rw [h2] at h1
      have h3 := hb n (List.mem_of_getElem? hn)
      rw [show ((n.toNat : Nat) : Int) = n by omega]
      by_cases hj0 : j = 0
      · subst hj0; simpa [Addr.add] using h1
      · simpa [Addr.add, hj0] using h1
    · cases hn

/-- a struct of three rows of limbs that came in -/
theorem params_open {H : Type} {enc : TypeId × Value → H} {W : World} {cs : Array Value} {d : DataW H} {p : List MemPlace} (h : DataW.Trod enc Tryz.prog W 0 (fun _ => true) true 37 (.agg cs) d p) :
    ∃ A1 n1 c1 x1 A2 n2 c2 x2 A3 n3 c3 x3, cs = #[.slice A1 n1 c1, .slice A2 n2 c2, .slice A3 n3 c3] ∧ Nt W W.heap.size A1 n1 c1 x1 ∧ Nt W W.heap.size A2 n2 c2 x2 ∧ Nt W W.heap.size A3 n3 c3 x3 := by
  obtain ⟨fuel, hf⟩ := h
  have key : ∀ {fuel : Nat} {c : List Value} {x : DataW H × List MemPlace}, DataW.trod enc Tryz.prog W 0 (fun _ => true) true fuel 22 c = some x → ∃ A n k z, c = [.slice A n k] ∧ Nt W W.heap.size A n k z := fun hh => by
    rcases open_ints Tryz.underlying22 Tryz.underlying23 (by kernel_rfl) hh with ⟨hcs, _⟩ | ⟨x, l, c, zs, hcs, _, hl, hm, hz, _, hcell, hwz⟩
    · exact ⟨_, _, _, [], hcs, nt_nil _ _⟩
    · exact ⟨_, _, _, _, hcs, nt_of_row hl hm (by simpa using hz) hcell hwz⟩
  obtain ⟨y0, y1, y2, n, _, hlen, h0, h1, h2⟩ := Deep.trod_struct3 Tryz.underlying37 hf
  obtain ⟨A1, n1, c1, z1, e1, t1⟩ := key h0
  obtain ⟨A2, n2, c2, z2, e2, t2⟩ := key h1
  obtain ⟨A3, n3, c3, z3, e3, t3⟩ := key h2
  refine ⟨_, _, _, _, _, _, _, _, _, _, _, _, ?_, t1, t2, t3⟩
  have hc : Tryz.prog.cellsOf 37 = 3 := by kernel_rfl
  have hc1 : Tryz.prog.cellsOf 22 = 1 := by kernel_rfl
  rw [hc] at hlen
  simp only [Value.cells] at hlen e1 e2 e3
  obtain ⟨l⟩ := cs
  match l, hlen with
  | [a, b, c], _ =>
    simp [hc1] at e1 e2 e3
    rw [e1, e2, e3]
end Go.Proofs.YtkhlmcknbangfaaGreatDoor
