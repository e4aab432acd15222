/- clepsydraref06: one, passes, Right. clepsydraref05: Size, Right, secret, Heavy. clepsydraref05: secret. clepsydraref06: Right. clepsydraref06: Right. clepsydraref06: Right. clepsydraref06: Right. clepsydraref06: Right. clepsydraref06: Right. clepsydraref06: hash, minus, Face, Mark, Answer, Holds, Extract. clepsydraref05: work, Signed, Sign. Sign of any key: the program and the reference. law05.alive. What the laid variable gives; how rows and structs that came in are read. -/
import Derived.Test.YtkeejhkjbmegkaaGreatDoorDf
import Derived.Test.YtkeejhkjbmegkaaGreatDoorRf
import Derived.Test.YtkeejhkjbmegkaaGreatDoorRn
import Derived.Test.YtkeejhkjbmegkaaGreatDoorEp
import Derived.Test.YtkeejhkjbmegkaaGreatDoorSr
import Derived.Test.YtkeejhkjbmegkaaGreatDoorPk
import Derived.Test.YtkeejhkjbmegkaaGreatDoorRows
import Derived.Test.YtkeejhkjbmegkaaGreatDoorCards
import Derived.Test.YtkeejhkjbmegkaaGreatDoorTie
import Derived.Test.YtkeejhkjbmegkaaGreatDoorRd
import Derived.Test.YtkeejhkjbmegkaaGreatDoorFew
import Derived.ProofKit
import Derived.LaidMore
import Derived.OpenShut
import Derived.ShutString
import Derived.ChangeOld
import Derived.Stop.Joined
import Derived.SevenTiedAt
import Derived.SizedLaws
import Derived.Deep.Strs
namespace Go.Proofs.YtkeejhkjbmegkaaGreatDoor
open Go.RowKit
set_option linter.unusedVariables false
set_option maxRecDepth 100000

theorem Rn.RetN.s {N : Nat} {w w' : World} {e : Ending} (h : Rn.RetN N w e w') : RetS N w e w' := by
  obtain ⟨A, n, c, xs, he, hn, ht, hv, hb⟩ := h
  exact ⟨A, n, c, xs, he, hn, ht, hv, hb⟩
set_option maxHeartbeats 1000000 in
theorem rof_any (n : Nat) (hn : n < 18446744073709551616) (w : World) : Calls Tryz.prog 135 #[.int .u64 (n : Int)] w (RetS n w) := by
  have hG := Rn.Gu.nil (w.alloc (.cells #[.int .u64 (n : Int)] 53)) w.heap.size
  have hb : Below w.heap.size w (w.alloc (.cells #[.int .u64 (n : Int)] 53)) := (Below.refl _ _).alloc (Nat.le_refl _) _
  have hc := Rn.cell_new w (.int .u64 (n : Int)) 53
  go_enter Tryz.func135, Tryz.ntmps135
  go_wp2_with (refine Rn.wpList_app_u _ rfl (.tmp 4) (.tmp 6) rfl rfl hG rfl hc (by omega) hb (by simp) ?_; intro A7 c7 w7 hG7 hB7)
  have hL : Lim 18446744073709551616 ([] ++ [n]) := fun x hx => by simp at hx; omega
  have m7 := hG7.nt hL
  refine (Rn.rtrim_any m7 (by omega)).mono ?_
  rintro e w8 ⟨A8, n8, c8, x8, rfl, m8, t8, v8, b8⟩
  go_wp2_with fail
  go_ret
  exact ⟨_, _, _, _, rfl, m8, t8, by rw [v8]; simp [val], bthen hB7 b8⟩
set_option maxHeartbeats 1000000 in
theorem rone_any (w : World) : Calls Tryz.prog 104 #[] w (RetS 1 w) := by
  go_enter Tryz.func104, Tryz.ntmps104
  go_wp2_with fail
  refine (rof_any 1 (by omega) w).mono ?_
  rintro e w1 ⟨A1, n1, c1, x1, rfl, r1⟩
  go_wp2_with fail
  go_ret
  exact ⟨_, _, _, _, rfl, r1⟩
set_option maxHeartbeats 1000000 in
theorem rsmall_any (n : Nat) (hn : n < 18446744073709551616) (w : World) : Calls Tryz.prog 91 #[.int .u64 (n : Int)] w (RetS n w) := by
  go_enter Tryz.func91, Tryz.ntmps91
  go_wp2_with fail
  refine (rof_any n hn w).mono ?_
  rintro e w1 ⟨A1, n1, c1, x1, rfl, r1⟩
  go_wp2_with fail
  go_ret
  exact ⟨_, _, _, _, rfl, r1⟩
set_option maxHeartbeats 1000000 in
theorem rbases_any (w : World) : Calls Tryz.prog 145 #[] w fun e w' => ∃ g, e = .returned (.slice (some ⟨g, 0, none⟩) 12 12) ∧ Nt w' w'.heap.size (some ⟨g, 0, none⟩) 12 12 b12 ∧ Below w.heap.size w w' := by
  obtain ⟨w1, e1⟩ : ∃ w1, w1 = w.alloc B12 := ⟨_, rfl⟩
  obtain ⟨hB, b1⟩ := nt_b12 e1
  go_enter Tryz.func145, Tryz.ntmps145
  go_wp2_with fail
  rw [← show w1 = w.alloc (.cells #[.int .u64 2, .int .u64 3, .int .u64 5, .int .u64 7, .int .u64 11, .int .u64 13, .int .u64 17, .int .u64 19, .int .u64 23, .int .u64 29, .int .u64 31, .int .u64 37] 53) from e1]
  clear e1
  go_ret
  exact ⟨_, rfl, hB, b1⟩
set_option maxHeartbeats 1000000 in
theorem rpasses_any {w : World} {A : Option Addr} {n c N : Nat} {xs : List Nat} (h : Nt w w.heap.size A n c xs) (hN : val 18446744073709551616 xs = N) (hn : n ≤ 10000) :
    Calls Tryz.prog 103 #[.slice A n c] w fun e w' => e = .returned (.bool (primeN N b12)) ∧ Below w.heap.size w w' := by
  have hp := fun W (b : Below w.heap.size w W) (A2 : Option Addr) (hB : Nt W W.heap.size A2 12 12 b12) => rprime_any (h.up b) hB (by omega) (by omega)
  rw [hN] at hp
  generalize primeN N b12 = t at *
  have Hp := Lib.hid hp
  clear hp
  go_enter Tryz.func103, Tryz.ntmps103
  go_wp2_with fail
  refine (rbases_any w).mono ?_
  rintro e w1 ⟨g, rfl, hB, b1⟩
  go_wp2_with fail
  refine (Hp.out _ b1 _ hB).mono ?_
  rintro e w2 ⟨rfl, b2⟩
  go_wp2_with fail
  go_ret
  exact ⟨rfl, bthen b1 b2⟩
theorem rcmp_lt {w : World} {A A2 : Option Addr} {n c n2 c2 : Nat} {xs ys : List Nat} (h : Nt w w.heap.size A n c xs) (h2 : Nt w w.heap.size A2 n2 c2 ys) (hn : n ≤ 1000000) (hn2 : n2 ≤ 1000000) (hv : val 18446744073709551616 xs < val 18446744073709551616 ys) :
    Calls Tryz.prog 49 #[.slice A n c, .slice A2 n2 c2] w fun e w' => e = .returned (.int .i64 (-1)) ∧ Below w.heap.size w w' := by
  have := Rn.rcmp_any h h2 hn hn2
  rwa [sgn_lt hv] at this
theorem rcmp_gt {w : World} {A A2 : Option Addr} {n c n2 c2 : Nat} {xs ys : List Nat} (h : Nt w w.heap.size A n c xs) (h2 : Nt w w.heap.size A2 n2 c2 ys) (hn : n ≤ 1000000) (hn2 : n2 ≤ 1000000) (hv : val 18446744073709551616 ys < val 18446744073709551616 xs) :
    Calls Tryz.prog 49 #[.slice A n c, .slice A2 n2 c2] w fun e w' => e = .returned (.int .i64 1) ∧ Below w.heap.size w w' := by
  have := Rn.rcmp_any h h2 hn hn2
  rwa [sgn_gt hv] at this
theorem rcmp_eq {w : World} {A A2 : Option Addr} {n c n2 c2 : Nat} {xs ys : List Nat} (h : Nt w w.heap.size A n c xs) (h2 : Nt w w.heap.size A2 n2 c2 ys) (hn : n ≤ 1000000) (hn2 : n2 ≤ 1000000) (hv : val 18446744073709551616 xs = val 18446744073709551616 ys) :
    Calls Tryz.prog 49 #[.slice A n c, .slice A2 n2 c2] w fun e w' => e = .returned (.int .i64 0) ∧ Below w.heap.size w w' := by
  have := Rn.rcmp_any h h2 hn hn2
  rwa [hv, sgn_self] at this
theorem rsub_ok {w : World} {A A2 : Option Addr} {n c n2 c2 : Nat} {xs ys : List Nat} (h : Nt w w.heap.size A n c xs) (h2 : Nt w w.heap.size A2 n2 c2 ys) (hn : n ≤ 1000000) (hn2 : n2 ≤ 1000000) (hv : val 18446744073709551616 ys ≤ val 18446744073709551616 xs) :
    Calls Tryz.prog 105 #[.slice A n c, .slice A2 n2 c2] w (RetT (val 18446744073709551616 xs - val 18446744073709551616 ys) w) :=
  (Rn.rsub_any h h2 hn hn2).mono fun e w' hr => by
    rcases hr with ⟨_, A, n, c, xs, he, hn, ht, hv, hb⟩ | ⟨hlt, _⟩
    · exact ⟨A, n, c, xs, he, hn, ht, hv, hb⟩
    · omega
theorem rsub_no {w : World} {A A2 : Option Addr} {n c n2 c2 : Nat} {xs ys : List Nat} (h : Nt w w.heap.size A n c xs) (h2 : Nt w w.heap.size A2 n2 c2 ys) (hn : n ≤ 1000000) (hn2 : n2 ≤ 1000000) (hv : val 18446744073709551616 xs < val 18446744073709551616 ys) :
    Calls Tryz.prog 105 #[.slice A n c, .slice A2 n2 c2] w (RetBad 10 w) :=
  (Rn.rsub_any h h2 hn hn2).mono fun e w' hr => by
    rcases hr with ⟨hle, _⟩ | ⟨_, he, hb⟩
    · omega
    · exact ⟨he, hb⟩
/-- the reference's Right, in its own order -/
def rightR (P Q G : Nat) : Bool := decide (bl P ≤ 1024 ∧ primeN P b12 = true ∧ primeN Q b12 = true ∧ 1 < G ∧ G < P ∧ (P - 1) % Q = 0 ∧ G ^ Q % P = 1)
theorem rightR_eq (P Q G : Nat) : rightR P Q G = rightN P Q G := by
  rw [Bool.eq_iff_iff]
  unfold rightR rightN genN
  simp only [decide_eq_true_eq, Bool.and_eq_true]
  constructor
  · rintro ⟨h1, h2, h3, h4, h5, h6, h7⟩
    have := primeN_two h3
    exact ⟨h1, h2, by omega, h6, h3, h5, h4, h7⟩
  · rintro ⟨h1, h2, h3, h4, h5, h6, h7, h8⟩
    exact ⟨h1, h2, h5, h7, h6, h4, h8⟩
end Go.Proofs.YtkeejhkjbmegkaaGreatDoor
namespace Go.Proofs.YtkeejhkjbmegkaaGreatDoor
open Go.RowKit
set_option linter.unusedVariables false
set_option maxRecDepth 100000
set_option exponentiation.threshold 70000

theorem rSize_any {w : World} {v : Value} {N E D : Nat} (h : Pr w v N E D) :
    Calls Tryz.prog 42 #[v] w fun e w' => e = .returned (.int .i64 (((bl N + 7) / 8 : Nat) : Int)) ∧ Below w.heap.size w w' := by
  obtain ⟨A1, n1, c1, x1, A2, n2, c2, x2, A3, n3, c3, x3, rfl, h1', e1, l1, h2', e2, l2, h3', e3, l3⟩ := h.ex
  clear h
  obtain ⟨w0, e0⟩ : ∃ w0, w0 = w.alloc (.cells #[Value.slice A1 n1 c1, .slice A2 n2 c2, .slice A3 n3 c3] 24) := ⟨_, rfl⟩
  obtain ⟨hx0, b0⟩ := box_new e0
  have h1 := h1'.up b0
  have h2 := h2'.up b0
  have h3 := h3'.up b0
  clear h1' h2' h3'
  have q0 := hx0.c0
  have q1 := hx0.c1
  have q2 := hx0.c2
  have hb := Rn.rbits_any h1 (by omega)
  rw [e1] at hb
  have Hb := Lib.hid hb
  have hdiv2 : ((bl N : Int) + 7) / 8 = (((bl N + 7) / 8 : Nat) : Int) := by omega
  have hbl : bl N ≤ 64 * 100 := by
    have hp := h1.below_pow l1
    rw [e1, base_pow] at hp
    exact bl_le hp
  obtain ⟨s, hs⟩ : ∃ s, (bl N + 7) / 8 = s := ⟨_, rfl⟩
  rw [hs] at hdiv2 ⊢
  clear hb hs
  generalize bl N = k at *
  go_enter Tryz.func42, Tryz.ntmps42
  go_wp2_with fail
  rw [← e0]
  clear e0
  refine Hb.out.mono ?_
  rintro e w1 ⟨rfl, b1⟩
  go_wp2_with fail
  go_ret
  exact ⟨by simp [hdiv2], bthen b0 b1⟩
set_option maxHeartbeats 4000000 in
theorem rkright_c1 {w : World} {v : Value} {N E D : Nat} (h : Pr w v N E D) (hb1 : bl N < 16) :
    Calls Tryz.prog 48 #[v] w fun e w' => e = .returned (.int .i64 50) ∧ Below w.heap.size w w' := by
  obtain ⟨A1, n1, c1, x1, A2, n2, c2, x2, A3, n3, c3, x3, rfl, h1', e1, l1, h2', e2, l2, h3', e3, l3⟩ := h.ex
  clear h
  obtain ⟨w0, e0⟩ : ∃ w0, w0 = w.alloc (.cells #[Value.slice A1 n1 c1, .slice A2 n2 c2, .slice A3 n3 c3] 24) := ⟨_, rfl⟩
  obtain ⟨hx0, b0⟩ := box_new e0
  have h1 := h1'.up b0
  have h2 := h2'.up b0
  have h3 := h3'.up b0
  clear h1' h2' h3'
  have q0 := hx0.c0
  have q1 := hx0.c1
  have q2 := hx0.c2
  have hb := Rn.rbits_any h1 (by omega)
  rw [e1] at hb
  have Hb := Lib.hid hb
  have hbt := fun W (b : Below w0.heap.size w0 W) => Rn.rbit_any (h1.up b) (by omega) 0
  rw [e1, show btN N 0 = N % 2 by simp [btN]] at hbt
  have Hbt := Lib.hid hbt
  clear hb hbt
  generalize bl N = k at *
  go_enter Tryz.func48, Tryz.ntmps48
  go_wp2_with fail
  rw [← e0]
  clear e0
  refine Hb.out.mono ?_
  rintro e w1 ⟨rfl, b1⟩
  have hx1 := hx0.up b1
  have p0 := hx1.c0
  have p1 := hx1.c1
  have p2 := hx1.c2
  go_wp2_with fail
  go_ret
  exact ⟨rfl, bthen b0 b1⟩
set_option maxHeartbeats 4000000 in
theorem rkright_c2 {w : World} {v : Value} {N E D : Nat} (h : Pr w v N E D) (hb1 : 1024 < bl N) :
    Calls Tryz.prog 48 #[v] w fun e w' => e = .returned (.int .i64 50) ∧ Below w.heap.size w w' := by
  obtain ⟨A1, n1, c1, x1, A2, n2, c2, x2, A3, n3, c3, x3, rfl, h1', e1, l1, h2', e2, l2, h3', e3, l3⟩ := h.ex
  clear h
  obtain ⟨w0, e0⟩ : ∃ w0, w0 = w.alloc (.cells #[Value.slice A1 n1 c1, .slice A2 n2 c2, .slice A3 n3 c3] 24) := ⟨_, rfl⟩
  obtain ⟨hx0, b0⟩ := box_new e0
  have h1 := h1'.up b0
  have h2 := h2'.up b0
  have h3 := h3'.up b0
  clear h1' h2' h3'
  have q0 := hx0.c0
  have q1 := hx0.c1
  have q2 := hx0.c2
  have hb := Rn.rbits_any h1 (by omega)
  rw [e1] at hb
  have Hb := Lib.hid hb
  have hbt := fun W (b : Below w0.heap.size w0 W) => Rn.rbit_any (h1.up b) (by omega) 0
  rw [e1, show btN N 0 = N % 2 by simp [btN]] at hbt
  have Hbt := Lib.hid hbt
  clear hb hbt
  have hb0 : ¬ bl N < 16 := by omega
  generalize bl N = k at *
  go_enter Tryz.func48, Tryz.ntmps48
  go_wp2_with fail
  rw [← e0]
  clear e0
  refine Hb.out.mono ?_
  rintro e w1 ⟨rfl, b1⟩
  have hx1 := hx0.up b1
  have p0 := hx1.c0
  have p1 := hx1.c1
  have p2 := hx1.c2
  go_wp2_with fail
  go_ret
  exact ⟨rfl, bthen b0 b1⟩
set_option maxHeartbeats 4000000 in
theorem rkright_c3 {w : World} {v : Value} {N E D : Nat} (h : Pr w v N E D) (hb1 : 16 ≤ bl N) (hb2 : bl N ≤ 1024) (hN2 : N % 2 = 0) :
    Calls Tryz.prog 48 #[v] w fun e w' => e = .returned (.int .i64 50) ∧ Below w.heap.size w w' := by
  obtain ⟨A1, n1, c1, x1, A2, n2, c2, x2, A3, n3, c3, x3, rfl, h1', e1, l1, h2', e2, l2, h3', e3, l3⟩ := h.ex
  clear h
  obtain ⟨w0, e0⟩ : ∃ w0, w0 = w.alloc (.cells #[Value.slice A1 n1 c1, .slice A2 n2 c2, .slice A3 n3 c3] 24) := ⟨_, rfl⟩
  obtain ⟨hx0, b0⟩ := box_new e0
  have h1 := h1'.up b0
  have h2 := h2'.up b0
  have h3 := h3'.up b0
  clear h1' h2' h3'
  have q0 := hx0.c0
  have q1 := hx0.c1
  have q2 := hx0.c2
  have hb := Rn.rbits_any h1 (by omega)
  rw [e1] at hb
  have Hb := Lib.hid hb
  have hbt := fun W (b : Below w0.heap.size w0 W) => Rn.rbit_any (h1.up b) (by omega) 0
  rw [e1, show btN N 0 = N % 2 by simp [btN]] at hbt
  rw [hN2] at hbt
  have Hbt := Lib.hid hbt
  clear hb hbt
  generalize bl N = k at *
  go_enter Tryz.func48, Tryz.ntmps48
  go_wp2_with fail
  rw [← e0]
  clear e0
  refine Hb.out.mono ?_
  rintro e w1 ⟨rfl, b1⟩
  have hx1 := hx0.up b1
  have p0 := hx1.c0
  have p1 := hx1.c1
  have p2 := hx1.c2
  go_wp2_with fail
  refine (Hbt.out _ b1).mono ?_
  rintro e w2 ⟨rfl, b2⟩
  have B2 := bthen b1 b2
  have hx2 := hx0.up B2
  have r0 := hx2.c0
  have r1 := hx2.c1
  have r2 := hx2.c2
  go_wp2_with fail
  go_ret
  exact ⟨rfl, bthen b0 B2⟩
set_option maxHeartbeats 4000000 in
theorem rkright_c4 {w : World} {v : Value} {N E D : Nat} (h : Pr w v N E D) (hb1 : 16 ≤ bl N) (hb2 : bl N ≤ 1024) (hN2 : N % 2 = 1) (hE2 : E % 2 = 0) :
    Calls Tryz.prog 48 #[v] w fun e w' => e = .returned (.int .i64 50) ∧ Below w.heap.size w w' := by
  obtain ⟨A1, n1, c1, x1, A2, n2, c2, x2, A3, n3, c3, x3, rfl, h1', e1, l1, h2', e2, l2, h3', e3, l3⟩ := h.ex
  clear h
  obtain ⟨w0, e0⟩ : ∃ w0, w0 = w.alloc (.cells #[Value.slice A1 n1 c1, .slice A2 n2 c2, .slice A3 n3 c3] 24) := ⟨_, rfl⟩
  obtain ⟨hx0, b0⟩ := box_new e0
  have h1 := h1'.up b0
  have h2 := h2'.up b0
  have h3 := h3'.up b0
  clear h1' h2' h3'
  have q0 := hx0.c0
  have q1 := hx0.c1
  have q2 := hx0.c2
  have hb := Rn.rbits_any h1 (by omega)
  rw [e1] at hb
  have Hb := Lib.hid hb
  have hbt := fun W (b : Below w0.heap.size w0 W) => Rn.rbit_any (h1.up b) (by omega) 0
  rw [e1, show btN N 0 = N % 2 by simp [btN]] at hbt
  rw [hN2] at hbt
  have Hbt := Lib.hid hbt
  clear hb hbt
  generalize bl N = k at *
  go_enter Tryz.func48, Tryz.ntmps48
  go_wp2_with fail
  rw [← e0]
  clear e0
  refine Hb.out.mono ?_
  rintro e w1 ⟨rfl, b1⟩
  have hx1 := hx0.up b1
  have p0 := hx1.c0
  have p1 := hx1.c1
  have p2 := hx1.c2
  go_wp2_with fail
  refine (Hbt.out _ b1).mono ?_
  rintro e w2 ⟨rfl, b2⟩
  have B2 := bthen b1 b2
  have hx2 := hx0.up B2
  have r0 := hx2.c0
  have r1 := hx2.c1
  have r2 := hx2.c2
  go_wp2_with fail
  have hyd : Bx w2.drew w.heap.size (.slice A1 n1 c1) (.slice A2 n2 c2) (.slice A3 n3 c3) := ⟨hx2.lt, hx2.c0, hx2.c1, hx2.c2⟩
  have bd : Below w2.heap.size w2 w2.drew := (Below.refl _ _).drew
  have Bd := bthen B2 bd
  have h1d := h1.up Bd
  have h2d := h2.up Bd
  have hbe := Rn.rbit_any h2d (by omega) 0
  rw [e2, show btN E 0 = E % 2 by simp [btN], hE2] at hbe
  have Hbe := Lib.hid hbe
  clear hbe
  have z0 := hyd.c0
  have z1 := hyd.c1
  have z2 := hyd.c2
  first
   | (go_region_with ((first
      | (go_at_call 90; refine Hbe.out.mono ?_; rintro e w3 ⟨rfl, b3⟩
         have g3 := hyd.up b3
         have g30 := g3.c0
         have g31 := g3.c1
         have g32 := g3.c2))))
   | fail
  all_goals
    go_wp2_with fail
    go_ret
    exact ⟨rfl, bthen b0 (bthen Bd b3)⟩
set_option maxHeartbeats 4000000 in
theorem rkright_c5 {w : World} {v : Value} {N E D : Nat} (h : Pr w v N E D) (hb1 : 16 ≤ bl N) (hb2 : bl N ≤ 1024) (hN2 : N % 2 = 1) (hE2 : E % 2 = 1) (hE : E = 1) :
    Calls Tryz.prog 48 #[v] w fun e w' => e = .returned (.int .i64 50) ∧ Below w.heap.size w w' := by
  obtain ⟨A1, n1, c1, x1, A2, n2, c2, x2, A3, n3, c3, x3, rfl, h1', e1, l1, h2', e2, l2, h3', e3, l3⟩ := h.ex
  clear h
  obtain ⟨w0, e0⟩ : ∃ w0, w0 = w.alloc (.cells #[Value.slice A1 n1 c1, .slice A2 n2 c2, .slice A3 n3 c3] 24) := ⟨_, rfl⟩
  obtain ⟨hx0, b0⟩ := box_new e0
  have h1 := h1'.up b0
  have h2 := h2'.up b0
  have h3 := h3'.up b0
  clear h1' h2' h3'
  have q0 := hx0.c0
  have q1 := hx0.c1
  have q2 := hx0.c2
  have hb := Rn.rbits_any h1 (by omega)
  rw [e1] at hb
  have Hb := Lib.hid hb
  have hbt := fun W (b : Below w0.heap.size w0 W) => Rn.rbit_any (h1.up b) (by omega) 0
  rw [e1, show btN N 0 = N % 2 by simp [btN]] at hbt
  rw [hN2] at hbt
  have Hbt := Lib.hid hbt
  clear hb hbt
  generalize bl N = k at *
  go_enter Tryz.func48, Tryz.ntmps48
  go_wp2_with fail
  rw [← e0]
  clear e0
  refine Hb.out.mono ?_
  rintro e w1 ⟨rfl, b1⟩
  have hx1 := hx0.up b1
  have p0 := hx1.c0
  have p1 := hx1.c1
  have p2 := hx1.c2
  go_wp2_with fail
  refine (Hbt.out _ b1).mono ?_
  rintro e w2 ⟨rfl, b2⟩
  have B2 := bthen b1 b2
  have hx2 := hx0.up B2
  have r0 := hx2.c0
  have r1 := hx2.c1
  have r2 := hx2.c2
  go_wp2_with fail
  have hyd : Bx w2.drew w.heap.size (.slice A1 n1 c1) (.slice A2 n2 c2) (.slice A3 n3 c3) := ⟨hx2.lt, hx2.c0, hx2.c1, hx2.c2⟩
  have bd : Below w2.heap.size w2 w2.drew := (Below.refl _ _).drew
  have Bd := bthen B2 bd
  have h1d := h1.up Bd
  have h2d := h2.up Bd
  have hbe := Rn.rbit_any h2d (by omega) 0
  rw [e2, show btN E 0 = E % 2 by simp [btN], hE2] at hbe
  have Hbe := Lib.hid hbe
  clear hbe
  have z0 := hyd.c0
  have z1 := hyd.c1
  have z2 := hyd.c2
  first
   | (go_region_with ((first
      | (go_at_call 90; refine Hbe.out.mono ?_; rintro e w3 ⟨rfl, b3⟩
         have g3 := hyd.up b3
         have g30 := g3.c0
         have g31 := g3.c1
         have g32 := g3.c2)
      | (go_at_call 91; refine (rsmall_any 1 (by omega) _).mono ?_; rintro e w4 ⟨A4, n4, c4, x4, rfl, r4⟩
         have g4 := g3.up r4.bel
         have g40 := g4.c0
         have g41 := g4.c1
         have g42 := g4.c2
         have v4 := r4.is
         have l4 : n4 ≤ 1 := r4.le (by omega))
      | (go_at_call 49; have ct := rcmp_eq ((h2d.up b3).up r4.bel) r4.nt (by omega) (by omega) (by rw [e2, v4]; exact hE); (with_reducible refine ct.mono ?_); rintro e w5 ⟨rfl, b5⟩
         have g5 := g4.up b5
         have g50 := g5.c0
         have g51 := g5.c1
         have g52 := g5.c2))))
   | fail
  all_goals
    go_wp2_with fail
    go_ret
    exact ⟨rfl, bthen b0 (bthen (bthen (bthen Bd b3) r4.bel) b5)⟩
set_option maxHeartbeats 4000000 in
theorem rkright_c6 {w : World} {v : Value} {N E D : Nat} (h : Pr w v N E D) (hb1 : 16 ≤ bl N) (hb2 : bl N ≤ 1024) (hN2 : N % 2 = 1) (hE2 : E % 2 = 1) (hE : 1 < E) (hEN : N < E) :
    Calls Tryz.prog 48 #[v] w fun e w' => e = .returned (.int .i64 50) ∧ Below w.heap.size w w' := by
  obtain ⟨A1, n1, c1, x1, A2, n2, c2, x2, A3, n3, c3, x3, rfl, h1', e1, l1, h2', e2, l2, h3', e3, l3⟩ := h.ex
  clear h
  obtain ⟨w0, e0⟩ : ∃ w0, w0 = w.alloc (.cells #[Value.slice A1 n1 c1, .slice A2 n2 c2, .slice A3 n3 c3] 24) := ⟨_, rfl⟩
  obtain ⟨hx0, b0⟩ := box_new e0
  have h1 := h1'.up b0
  have h2 := h2'.up b0
  have h3 := h3'.up b0
  clear h1' h2' h3'
  have q0 := hx0.c0
  have q1 := hx0.c1
  have q2 := hx0.c2
  have hb := Rn.rbits_any h1 (by omega)
  rw [e1] at hb
  have Hb := Lib.hid hb
  have hbt := fun W (b : Below w0.heap.size w0 W) => Rn.rbit_any (h1.up b) (by omega) 0
  rw [e1, show btN N 0 = N % 2 by simp [btN]] at hbt
  rw [hN2] at hbt
  have Hbt := Lib.hid hbt
  clear hb hbt
  generalize bl N = k at *
  go_enter Tryz.func48, Tryz.ntmps48
  go_wp2_with fail
  rw [← e0]
  clear e0
  refine Hb.out.mono ?_
  rintro e w1 ⟨rfl, b1⟩
  have hx1 := hx0.up b1
  have p0 := hx1.c0
  have p1 := hx1.c1
  have p2 := hx1.c2
  go_wp2_with fail
  refine (Hbt.out _ b1).mono ?_
  rintro e w2 ⟨rfl, b2⟩
  have B2 := bthen b1 b2
  have hx2 := hx0.up B2
  have r0 := hx2.c0
  have r1 := hx2.c1
  have r2 := hx2.c2
  go_wp2_with fail
  have hyd : Bx w2.drew w.heap.size (.slice A1 n1 c1) (.slice A2 n2 c2) (.slice A3 n3 c3) := ⟨hx2.lt, hx2.c0, hx2.c1, hx2.c2⟩
  have bd : Below w2.heap.size w2 w2.drew := (Below.refl _ _).drew
  have Bd := bthen B2 bd
  have h1d := h1.up Bd
  have h2d := h2.up Bd
  have hbe := Rn.rbit_any h2d (by omega) 0
  rw [e2, show btN E 0 = E % 2 by simp [btN], hE2] at hbe
  have Hbe := Lib.hid hbe
  clear hbe
  have z0 := hyd.c0
  have z1 := hyd.c1
  have z2 := hyd.c2
  go_region_held3 (fun w' => w'.cell? ⟨w.heap.size, 0, none⟩ = some (Value.slice A1 n1 c1) ∧ w'.cell? ⟨w.heap.size, 1, none⟩ = some (Value.slice A2 n2 c2) ∧ w'.cell? ⟨w.heap.size, 2, none⟩ = some (Value.slice A3 n3 c3))
    (first | exact ⟨g6.c0, g6.c1, g6.c2⟩ | exact ⟨g5.c0, g5.c1, g5.c2⟩ | exact ⟨g4.c0, g4.c1, g4.c2⟩ | exact ⟨g3.c0, g3.c1, g3.c2⟩ | exact ⟨hyd.c0, hyd.c1, hyd.c2⟩)
    ((first
      | (go_at_call 90; refine Hbe.out.mono ?_; rintro e w3 ⟨rfl, b3⟩
         have g3 := hyd.up b3
         have g30 := g3.c0
         have g31 := g3.c1
         have g32 := g3.c2)
      | (go_at_call 91; refine (rsmall_any 1 (by omega) _).mono ?_; rintro e w4 ⟨A4, n4, c4, x4, rfl, r4⟩
         have g4 := g3.up r4.bel
         have g40 := g4.c0
         have g41 := g4.c1
         have g42 := g4.c2
         have v4 := r4.is
         have l4 : n4 ≤ 1 := r4.le (by omega))
      | (go_at_call 49; have ct := rcmp_gt ((h2d.up b3).up r4.bel) r4.nt (by omega) (by omega) (by rw [e2, v4]; exact hE); (with_reducible refine ct.mono ?_); rintro e w5 ⟨rfl, b5⟩
         have g5 := g4.up b5
         have g50 := g5.c0
         have g51 := g5.c1
         have g52 := g5.c2)
      | (go_at_call 49; have ct := rcmp_gt (((h2d.up b3).up r4.bel).up b5) (((h1d.up b3).up r4.bel).up b5) (by omega) (by omega) (by rw [e2, e1]; exact hEN); (with_reducible refine ct.mono ?_); rintro e w6 ⟨rfl, b6⟩
         have g6 := g5.up b6
         have g60 := g6.c0
         have g61 := g6.c1
         have g62 := g6.c2)))
  all_goals
    go_wp2_with fail
    go_ret
    exact ⟨rfl, bthen b0 (bthen (bthen (bthen (bthen Bd b3) r4.bel) b5) b6)⟩
set_option maxHeartbeats 4000000 in
theorem rkright_c7 {w : World} {v : Value} {N E D : Nat} (h : Pr w v N E D) (hb1 : 16 ≤ bl N) (hb2 : bl N ≤ 1024) (hN2 : N % 2 = 1) (hE2 : E % 2 = 1) (hE : 1 < E) (hEN : E = N) :
    Calls Tryz.prog 48 #[v] w fun e w' => e = .returned (.int .i64 50) ∧ Below w.heap.size w w' := by
  obtain ⟨A1, n1, c1, x1, A2, n2, c2, x2, A3, n3, c3, x3, rfl, h1', e1, l1, h2', e2, l2, h3', e3, l3⟩ := h.ex
  clear h
  obtain ⟨w0, e0⟩ : ∃ w0, w0 = w.alloc (.cells #[Value.slice A1 n1 c1, .slice A2 n2 c2, .slice A3 n3 c3] 24) := ⟨_, rfl⟩
  obtain ⟨hx0, b0⟩ := box_new e0
  have h1 := h1'.up b0
  have h2 := h2'.up b0
  have h3 := h3'.up b0
  clear h1' h2' h3'
  have q0 := hx0.c0
  have q1 := hx0.c1
  have q2 := hx0.c2
  have hb := Rn.rbits_any h1 (by omega)
  rw [e1] at hb
  have Hb := Lib.hid hb
  have hbt := fun W (b : Below w0.heap.size w0 W) => Rn.rbit_any (h1.up b) (by omega) 0
  rw [e1, show btN N 0 = N % 2 by simp [btN]] at hbt
  rw [hN2] at hbt
  have Hbt := Lib.hid hbt
  clear hb hbt
  generalize bl N = k at *
  go_enter Tryz.func48, Tryz.ntmps48
  go_wp2_with fail
  rw [← e0]
  clear e0
  refine Hb.out.mono ?_
  rintro e w1 ⟨rfl, b1⟩
  have hx1 := hx0.up b1
  have p0 := hx1.c0
  have p1 := hx1.c1
  have p2 := hx1.c2
  go_wp2_with fail
  refine (Hbt.out _ b1).mono ?_
  rintro e w2 ⟨rfl, b2⟩
  have B2 := bthen b1 b2
  have hx2 := hx0.up B2
  have r0 := hx2.c0
  have r1 := hx2.c1
  have r2 := hx2.c2
  go_wp2_with fail
  have hyd : Bx w2.drew w.heap.size (.slice A1 n1 c1) (.slice A2 n2 c2) (.slice A3 n3 c3) := ⟨hx2.lt, hx2.c0, hx2.c1, hx2.c2⟩
  have bd : Below w2.heap.size w2 w2.drew := (Below.refl _ _).drew
  have Bd := bthen B2 bd
  have h1d := h1.up Bd
  have h2d := h2.up Bd
  have hbe := Rn.rbit_any h2d (by omega) 0
  rw [e2, show btN E 0 = E % 2 by simp [btN], hE2] at hbe
  have Hbe := Lib.hid hbe
  clear hbe
  have z0 := hyd.c0
  have z1 := hyd.c1
  have z2 := hyd.c2
  go_region_held3 (fun w' => w'.cell? ⟨w.heap.size, 0, none⟩ = some (Value.slice A1 n1 c1) ∧ w'.cell? ⟨w.heap.size, 1, none⟩ = some (Value.slice A2 n2 c2) ∧ w'.cell? ⟨w.heap.size, 2, none⟩ = some (Value.slice A3 n3 c3))
    (first | exact ⟨g6.c0, g6.c1, g6.c2⟩ | exact ⟨g5.c0, g5.c1, g5.c2⟩ | exact ⟨g4.c0, g4.c1, g4.c2⟩ | exact ⟨g3.c0, g3.c1, g3.c2⟩ | exact ⟨hyd.c0, hyd.c1, hyd.c2⟩)
    ((first
      | (go_at_call 90; refine Hbe.out.mono ?_; rintro e w3 ⟨rfl, b3⟩
         have g3 := hyd.up b3
         have g30 := g3.c0
         have g31 := g3.c1
         have g32 := g3.c2)
      | (go_at_call 91; refine (rsmall_any 1 (by omega) _).mono ?_; rintro e w4 ⟨A4, n4, c4, x4, rfl, r4⟩
         have g4 := g3.up r4.bel
         have g40 := g4.c0
         have g41 := g4.c1
         have g42 := g4.c2
         have v4 := r4.is
         have l4 : n4 ≤ 1 := r4.le (by omega))
      | (go_at_call 49; have ct := rcmp_gt ((h2d.up b3).up r4.bel) r4.nt (by omega) (by omega) (by rw [e2, v4]; exact hE); (with_reducible refine ct.mono ?_); rintro e w5 ⟨rfl, b5⟩
         have g5 := g4.up b5
         have g50 := g5.c0
         have g51 := g5.c1
         have g52 := g5.c2)
      | (go_at_call 49; have ct := rcmp_eq (((h2d.up b3).up r4.bel).up b5) (((h1d.up b3).up r4.bel).up b5) (by omega) (by omega) (by rw [e2, e1]; exact hEN); (with_reducible refine ct.mono ?_); rintro e w6 ⟨rfl, b6⟩
         have g6 := g5.up b6
         have g60 := g6.c0
         have g61 := g6.c1
         have g62 := g6.c2)))
  all_goals
    go_wp2_with fail
    go_ret
    exact ⟨rfl, bthen b0 (bthen (bthen (bthen (bthen Bd b3) r4.bel) b5) b6)⟩
set_option maxHeartbeats 4000000 in
theorem rkright_c8 {w : World} {v : Value} {N E D : Nat} (h : Pr w v N E D) (hb1 : 16 ≤ bl N) (hb2 : bl N ≤ 1024) (hN2 : N % 2 = 1) (hE2 : E % 2 = 1) (hE : 1 < E) (hEN : E < N) (hDN : N < D) :
    Calls Tryz.prog 48 #[v] w fun e w' => e = .returned (.int .i64 50) ∧ Below w.heap.size w w' := by
  obtain ⟨A1, n1, c1, x1, A2, n2, c2, x2, A3, n3, c3, x3, rfl, h1', e1, l1, h2', e2, l2, h3', e3, l3⟩ := h.ex
  clear h
  obtain ⟨w0, e0⟩ : ∃ w0, w0 = w.alloc (.cells #[Value.slice A1 n1 c1, .slice A2 n2 c2, .slice A3 n3 c3] 24) := ⟨_, rfl⟩
  obtain ⟨hx0, b0⟩ := box_new e0
  have h1 := h1'.up b0
  have h2 := h2'.up b0
  have h3 := h3'.up b0
  clear h1' h2' h3'
  have q0 := hx0.c0
  have q1 := hx0.c1
  have q2 := hx0.c2
  have hb := Rn.rbits_any h1 (by omega)
  rw [e1] at hb
  have Hb := Lib.hid hb
  have hbt := fun W (b : Below w0.heap.size w0 W) => Rn.rbit_any (h1.up b) (by omega) 0
  rw [e1, show btN N 0 = N % 2 by simp [btN]] at hbt
  rw [hN2] at hbt
  have Hbt := Lib.hid hbt
  clear hb hbt
  generalize bl N = k at *
  go_enter Tryz.func48, Tryz.ntmps48
  go_wp2_with fail
  rw [← e0]
  clear e0
  refine Hb.out.mono ?_
  rintro e w1 ⟨rfl, b1⟩
  have hx1 := hx0.up b1
  have p0 := hx1.c0
  have p1 := hx1.c1
  have p2 := hx1.c2
  go_wp2_with fail
  refine (Hbt.out _ b1).mono ?_
  rintro e w2 ⟨rfl, b2⟩
  have B2 := bthen b1 b2
  have hx2 := hx0.up B2
  have r0 := hx2.c0
  have r1 := hx2.c1
  have r2 := hx2.c2
  go_wp2_with fail
  have hyd : Bx w2.drew w.heap.size (.slice A1 n1 c1) (.slice A2 n2 c2) (.slice A3 n3 c3) := ⟨hx2.lt, hx2.c0, hx2.c1, hx2.c2⟩
  have bd : Below w2.heap.size w2 w2.drew := (Below.refl _ _).drew
  have Bd := bthen B2 bd
  have h1d := h1.up Bd
  have h2d := h2.up Bd
  have hbe := Rn.rbit_any h2d (by omega) 0
  rw [e2, show btN E 0 = E % 2 by simp [btN], hE2] at hbe
  have Hbe := Lib.hid hbe
  clear hbe
  have z0 := hyd.c0
  have z1 := hyd.c1
  have z2 := hyd.c2
  go_region_held3 (fun w' => w'.cell? ⟨w.heap.size, 0, none⟩ = some (Value.slice A1 n1 c1) ∧ w'.cell? ⟨w.heap.size, 1, none⟩ = some (Value.slice A2 n2 c2) ∧ w'.cell? ⟨w.heap.size, 2, none⟩ = some (Value.slice A3 n3 c3))
    (first | exact ⟨g6.c0, g6.c1, g6.c2⟩ | exact ⟨g5.c0, g5.c1, g5.c2⟩ | exact ⟨g4.c0, g4.c1, g4.c2⟩ | exact ⟨g3.c0, g3.c1, g3.c2⟩ | exact ⟨hyd.c0, hyd.c1, hyd.c2⟩)
    ((first
      | (go_at_call 90; refine Hbe.out.mono ?_; rintro e w3 ⟨rfl, b3⟩
         have g3 := hyd.up b3
         have g30 := g3.c0
         have g31 := g3.c1
         have g32 := g3.c2)
      | (go_at_call 91; refine (rsmall_any 1 (by omega) _).mono ?_; rintro e w4 ⟨A4, n4, c4, x4, rfl, r4⟩
         have g4 := g3.up r4.bel
         have g40 := g4.c0
         have g41 := g4.c1
         have g42 := g4.c2
         have v4 := r4.is
         have l4 : n4 ≤ 1 := r4.le (by omega))
      | (go_at_call 49; have ct := rcmp_gt ((h2d.up b3).up r4.bel) r4.nt (by omega) (by omega) (by rw [e2, v4]; exact hE); (with_reducible refine ct.mono ?_); rintro e w5 ⟨rfl, b5⟩
         have g5 := g4.up b5
         have g50 := g5.c0
         have g51 := g5.c1
         have g52 := g5.c2)
      | (go_at_call 49; have ct := rcmp_lt (((h2d.up b3).up r4.bel).up b5) (((h1d.up b3).up r4.bel).up b5) (by omega) (by omega) (by rw [e2, e1]; exact hEN); (with_reducible refine ct.mono ?_); rintro e w6 ⟨rfl, b6⟩
         have g6 := g5.up b6
         have g60 := g6.c0
         have g61 := g6.c1
         have g62 := g6.c2)))
  all_goals
    have B6 := (bthen (bthen (bthen (bthen Bd b3) r4.bel) b5) b6)
    go_wp2_with fail
    refine (rcmp_gt (h3.up B6) (h1.up B6) (by omega) (by omega) (by rw [e3, e1]; exact hDN)).mono ?_
    rintro e w7 ⟨rfl, b7⟩
    go_wp2_with fail
    go_ret
    exact ⟨rfl, bthen b0 (bthen B6 b7)⟩
set_option maxHeartbeats 4000000 in
theorem rkright_c9 {w : World} {v : Value} {N E D : Nat} (h : Pr w v N E D) (hb1 : 16 ≤ bl N) (hb2 : bl N ≤ 1024) (hN2 : N % 2 = 1) (hE2 : E % 2 = 1) (hE : 1 < E) (hEN : E < N) (hDN : D = N) :
    Calls Tryz.prog 48 #[v] w fun e w' => e = .returned (.int .i64 50) ∧ Below w.heap.size w w' := by
  obtain ⟨A1, n1, c1, x1, A2, n2, c2, x2, A3, n3, c3, x3, rfl, h1', e1, l1, h2', e2, l2, h3', e3, l3⟩ := h.ex
  clear h
  obtain ⟨w0, e0⟩ : ∃ w0, w0 = w.alloc (.cells #[Value.slice A1 n1 c1, .slice A2 n2 c2, .slice A3 n3 c3] 24) := ⟨_, rfl⟩
  obtain ⟨hx0, b0⟩ := box_new e0
  have h1 := h1'.up b0
  have h2 := h2'.up b0
  have h3 := h3'.up b0
  clear h1' h2' h3'
  have q0 := hx0.c0
  have q1 := hx0.c1
  have q2 := hx0.c2
  have hb := Rn.rbits_any h1 (by omega)
  rw [e1] at hb
  have Hb := Lib.hid hb
  have hbt := fun W (b : Below w0.heap.size w0 W) => Rn.rbit_any (h1.up b) (by omega) 0
  rw [e1, show btN N 0 = N % 2 by simp [btN]] at hbt
  rw [hN2] at hbt
  have Hbt := Lib.hid hbt
  clear hb hbt
  generalize bl N = k at *
  go_enter Tryz.func48, Tryz.ntmps48
  go_wp2_with fail
  rw [← e0]
  clear e0
  refine Hb.out.mono ?_
  rintro e w1 ⟨rfl, b1⟩
  have hx1 := hx0.up b1
  have p0 := hx1.c0
  have p1 := hx1.c1
  have p2 := hx1.c2
  go_wp2_with fail
  refine (Hbt.out _ b1).mono ?_
  rintro e w2 ⟨rfl, b2⟩
  have B2 := bthen b1 b2
  have hx2 := hx0.up B2
  have r0 := hx2.c0
  have r1 := hx2.c1
  have r2 := hx2.c2
  go_wp2_with fail
  have hyd : Bx w2.drew w.heap.size (.slice A1 n1 c1) (.slice A2 n2 c2) (.slice A3 n3 c3) := ⟨hx2.lt, hx2.c0, hx2.c1, hx2.c2⟩
  have bd : Below w2.heap.size w2 w2.drew := (Below.refl _ _).drew
  have Bd := bthen B2 bd
  have h1d := h1.up Bd
  have h2d := h2.up Bd
  have hbe := Rn.rbit_any h2d (by omega) 0
  rw [e2, show btN E 0 = E % 2 by simp [btN], hE2] at hbe
  have Hbe := Lib.hid hbe
  clear hbe
  have z0 := hyd.c0
  have z1 := hyd.c1
  have z2 := hyd.c2
  go_region_held3 (fun w' => w'.cell? ⟨w.heap.size, 0, none⟩ = some (Value.slice A1 n1 c1) ∧ w'.cell? ⟨w.heap.size, 1, none⟩ = some (Value.slice A2 n2 c2) ∧ w'.cell? ⟨w.heap.size, 2, none⟩ = some (Value.slice A3 n3 c3))
    (first | exact ⟨g6.c0, g6.c1, g6.c2⟩ | exact ⟨g5.c0, g5.c1, g5.c2⟩ | exact ⟨g4.c0, g4.c1, g4.c2⟩ | exact ⟨g3.c0, g3.c1, g3.c2⟩ | exact ⟨hyd.c0, hyd.c1, hyd.c2⟩)
    ((first
      | (go_at_call 90; refine Hbe.out.mono ?_; rintro e w3 ⟨rfl, b3⟩
         have g3 := hyd.up b3
         have g30 := g3.c0
         have g31 := g3.c1
         have g32 := g3.c2)
      | (go_at_call 91; refine (rsmall_any 1 (by omega) _).mono ?_; rintro e w4 ⟨A4, n4, c4, x4, rfl, r4⟩
         have g4 := g3.up r4.bel
         have g40 := g4.c0
         have g41 := g4.c1
         have g42 := g4.c2
         have v4 := r4.is
         have l4 : n4 ≤ 1 := r4.le (by omega))
      | (go_at_call 49; have ct := rcmp_gt ((h2d.up b3).up r4.bel) r4.nt (by omega) (by omega) (by rw [e2, v4]; exact hE); (with_reducible refine ct.mono ?_); rintro e w5 ⟨rfl, b5⟩
         have g5 := g4.up b5
         have g50 := g5.c0
         have g51 := g5.c1
         have g52 := g5.c2)
      | (go_at_call 49; have ct := rcmp_lt (((h2d.up b3).up r4.bel).up b5) (((h1d.up b3).up r4.bel).up b5) (by omega) (by omega) (by rw [e2, e1]; exact hEN); (with_reducible refine ct.mono ?_); rintro e w6 ⟨rfl, b6⟩
         have g6 := g5.up b6
         have g60 := g6.c0
         have g61 := g6.c1
         have g62 := g6.c2)))
  all_goals
    have B6 := (bthen (bthen (bthen (bthen Bd b3) r4.bel) b5) b6)
    go_wp2_with fail
    refine (rcmp_eq (h3.up B6) (h1.up B6) (by omega) (by omega) (by rw [e3, e1]; exact hDN)).mono ?_
    rintro e w7 ⟨rfl, b7⟩
    go_wp2_with fail
    go_ret
    exact ⟨rfl, bthen b0 (bthen B6 b7)⟩
set_option maxHeartbeats 4000000 in
theorem rkright_okk {w : World} {v : Value} {N E D : Nat} (h : Pr w v N E D) (hb1 : 16 ≤ bl N) (hb2 : bl N ≤ 1024) (hN2 : N % 2 = 1) (hE2 : E % 2 = 1) (hE : 1 < E) (hEN : E < N) (hDN : D < N) :
    Calls Tryz.prog 48 #[v] w fun e w' => e = .returned (.int .i64 0) ∧ Below w.heap.size w w' := by
  obtain ⟨A1, n1, c1, x1, A2, n2, c2, x2, A3, n3, c3, x3, rfl, h1', e1, l1, h2', e2, l2, h3', e3, l3⟩ := h.ex
  clear h
  obtain ⟨w0, e0⟩ : ∃ w0, w0 = w.alloc (.cells #[Value.slice A1 n1 c1, .slice A2 n2 c2, .slice A3 n3 c3] 24) := ⟨_, rfl⟩
  obtain ⟨hx0, b0⟩ := box_new e0
  have h1 := h1'.up b0
  have h2 := h2'.up b0
  have h3 := h3'.up b0
  clear h1' h2' h3'
  have q0 := hx0.c0
  have q1 := hx0.c1
  have q2 := hx0.c2
  have hb := Rn.rbits_any h1 (by omega)
  rw [e1] at hb
  have Hb := Lib.hid hb
  have hbt := fun W (b : Below w0.heap.size w0 W) => Rn.rbit_any (h1.up b) (by omega) 0
  rw [e1, show btN N 0 = N % 2 by simp [btN]] at hbt
  rw [hN2] at hbt
  have Hbt := Lib.hid hbt
  clear hb hbt
  generalize bl N = k at *
  go_enter Tryz.func48, Tryz.ntmps48
  go_wp2_with fail
  rw [← e0]
  clear e0
  refine Hb.out.mono ?_
  rintro e w1 ⟨rfl, b1⟩
  have hx1 := hx0.up b1
  have p0 := hx1.c0
  have p1 := hx1.c1
  have p2 := hx1.c2
  go_wp2_with fail
  refine (Hbt.out _ b1).mono ?_
  rintro e w2 ⟨rfl, b2⟩
  have B2 := bthen b1 b2
  have hx2 := hx0.up B2
  have r0 := hx2.c0
  have r1 := hx2.c1
  have r2 := hx2.c2
  go_wp2_with fail
  have hyd : Bx w2.drew w.heap.size (.slice A1 n1 c1) (.slice A2 n2 c2) (.slice A3 n3 c3) := ⟨hx2.lt, hx2.c0, hx2.c1, hx2.c2⟩
  have bd : Below w2.heap.size w2 w2.drew := (Below.refl _ _).drew
  have Bd := bthen B2 bd
  have h1d := h1.up Bd
  have h2d := h2.up Bd
  have hbe := Rn.rbit_any h2d (by omega) 0
  rw [e2, show btN E 0 = E % 2 by simp [btN], hE2] at hbe
  have Hbe := Lib.hid hbe
  clear hbe
  have z0 := hyd.c0
  have z1 := hyd.c1
  have z2 := hyd.c2
  go_region_held3 (fun w' => w'.cell? ⟨w.heap.size, 0, none⟩ = some (Value.slice A1 n1 c1) ∧ w'.cell? ⟨w.heap.size, 1, none⟩ = some (Value.slice A2 n2 c2) ∧ w'.cell? ⟨w.heap.size, 2, none⟩ = some (Value.slice A3 n3 c3))
    (first | exact ⟨g6.c0, g6.c1, g6.c2⟩ | exact ⟨g5.c0, g5.c1, g5.c2⟩ | exact ⟨g4.c0, g4.c1, g4.c2⟩ | exact ⟨g3.c0, g3.c1, g3.c2⟩ | exact ⟨hyd.c0, hyd.c1, hyd.c2⟩)
    ((first
      | (go_at_call 90; refine Hbe.out.mono ?_; rintro e w3 ⟨rfl, b3⟩
         have g3 := hyd.up b3
         have g30 := g3.c0
         have g31 := g3.c1
         have g32 := g3.c2)
      | (go_at_call 91; refine (rsmall_any 1 (by omega) _).mono ?_; rintro e w4 ⟨A4, n4, c4, x4, rfl, r4⟩
         have g4 := g3.up r4.bel
         have g40 := g4.c0
         have g41 := g4.c1
         have g42 := g4.c2
         have v4 := r4.is
         have l4 : n4 ≤ 1 := r4.le (by omega))
      | (go_at_call 49; have ct := rcmp_gt ((h2d.up b3).up r4.bel) r4.nt (by omega) (by omega) (by rw [e2, v4]; exact hE); (with_reducible refine ct.mono ?_); rintro e w5 ⟨rfl, b5⟩
         have g5 := g4.up b5
         have g50 := g5.c0
         have g51 := g5.c1
         have g52 := g5.c2)
      | (go_at_call 49; have ct := rcmp_lt (((h2d.up b3).up r4.bel).up b5) (((h1d.up b3).up r4.bel).up b5) (by omega) (by omega) (by rw [e2, e1]; exact hEN); (with_reducible refine ct.mono ?_); rintro e w6 ⟨rfl, b6⟩
         have g6 := g5.up b6
         have g60 := g6.c0
         have g61 := g6.c1
         have g62 := g6.c2)))
  all_goals
    have B6 := (bthen (bthen (bthen (bthen Bd b3) r4.bel) b5) b6)
    go_wp2_with fail
    refine (rcmp_lt (h3.up B6) (h1.up B6) (by omega) (by omega) (by rw [e3, e1]; exact hDN)).mono ?_
    rintro e w7 ⟨rfl, b7⟩
    go_wp2_with fail
    go_ret
    exact ⟨rfl, bthen b0 (bthen B6 b7)⟩
theorem rkright_bad {w : World} {v : Value} {N E D : Nat} (h : Pr w v N E D) (hR : rightK N E D = false) :
    Calls Tryz.prog 48 #[v] w fun e w' => e = .returned (.int .i64 50) ∧ Below w.heap.size w w' := by
  unfold rightK at hR
  rw [decide_eq_false_iff_not] at hR
  by_cases h2 : bl N < 16
  · exact rkright_c1 h h2
  by_cases h3 : 1024 < bl N
  · exact rkright_c2 h h3
  by_cases h1 : N % 2 = 1
  · by_cases h4 : E % 2 = 1
    · by_cases h5 : E = 1
      · exact rkright_c5 h (by omega) (by omega) h1 h4 h5
      · rcases Nat.lt_trichotomy E N with h6 | h6 | h6
        · rcases Nat.lt_trichotomy D N with h7 | h7 | h7
          · exact absurd ⟨h1, by omega, by omega, h4, by omega, h6, h7⟩ hR
          · exact rkright_c9 h (by omega) (by omega) h1 h4 (by omega) h6 h7
          · exact rkright_c8 h (by omega) (by omega) h1 h4 (by omega) h6 h7
        · exact rkright_c7 h (by omega) (by omega) h1 h4 (by omega) h6
        · exact rkright_c6 h (by omega) (by omega) h1 h4 (by omega) h6
    · exact rkright_c4 h (by omega) (by omega) h1 (by omega)
  · exact rkright_c3 h (by omega) (by omega) (by omega)
theorem rkright_ok {w : World} {v : Value} {N E D : Nat} (h : Pr w v N E D) (hR : rightK N E D = true) :
    Calls Tryz.prog 48 #[v] w fun e w' => e = .returned (.int .i64 0) ∧ Below w.heap.size w w' := by
  unfold rightK at hR
  rw [decide_eq_true_iff] at hR
  obtain ⟨h1, h2, h3, h4, h5, h6, h7⟩ := hR
  exact rkright_okk h h2 h3 h1 h4 h5 h6 h7
end Go.Proofs.YtkeejhkjbmegkaaGreatDoor
namespace Go.Proofs.YtkeejhkjbmegkaaGreatDoor
open Go.RowKit
set_option linter.unusedVariables false
set_option maxRecDepth 100000
set_option exponentiation.threshold 70000

set_option maxHeartbeats 4000000 in
theorem rsecret_any {w : World} {v : Value} {N E D : Nat} (h : Pr w v N E D) :
    Calls Tryz.prog 41 #[v] w fun e w' => e = .returned (.bool (secK N E D)) ∧ Below w.heap.size w w' := by
  unfold secK
  cases hR : rightK N E D with
  | false =>
    have Hr := Lib.hid (fun W (k : Pr W v N E D) => rkright_bad k hR)
    have Hh := Lib.hid h
    clear hR
    obtain ⟨A1, n1, c1, x1, A2, n2, c2, x2, A3, n3, c3, x3, rfl, h1', e1, l1, h2', e2, l2, h3', e3, l3⟩ := h.ex
    clear h
    obtain ⟨w0, e0⟩ : ∃ w0, w0 = w.alloc (.cells #[Value.slice A1 n1 c1, .slice A2 n2 c2, .slice A3 n3 c3] 24) := ⟨_, rfl⟩
    obtain ⟨hx0, b0⟩ := box_new e0
    have h1 := h1'.up b0
    have h2 := h2'.up b0
    have h3 := h3'.up b0
    clear h1' h2' h3'
    have q0 := hx0.c0
    have q1 := hx0.c1
    have q2 := hx0.c2
    go_enter Tryz.func41, Tryz.ntmps41
    go_wp2_with fail
    rw [← e0]
    clear e0
    refine (Hr.out _ (Hh.out.up b0)).mono ?_
    rintro e w1 ⟨rfl, b1⟩
    go_wp2_with fail
    go_ret
    exact ⟨rfl, bthen b0 b1⟩
  | true =>
    have Hr := Lib.hid (fun W (k : Pr W v N E D) => rkright_ok k hR)
    have Hh := Lib.hid h
    clear hR
    obtain ⟨A1, n1, c1, x1, A2, n2, c2, x2, A3, n3, c3, x3, rfl, h1', e1, l1, h2', e2, l2, h3', e3, l3⟩ := h.ex
    clear h
    obtain ⟨w0, e0⟩ : ∃ w0, w0 = w.alloc (.cells #[Value.slice A1 n1 c1, .slice A2 n2 c2, .slice A3 n3 c3] 24) := ⟨_, rfl⟩
    obtain ⟨hx0, b0⟩ := box_new e0
    have h1 := h1'.up b0
    have h2 := h2'.up b0
    have h3 := h3'.up b0
    clear h1' h2' h3'
    have q0 := hx0.c0
    have q1 := hx0.c1
    have q2 := hx0.c2
    have hb := fun W (b : Below w0.heap.size w0 W) => Rn.rbits_any (h3.up b) (by omega)
    rw [e3] at hb
    have hd : decide (0 < D) = decide ((0 : Int) < ((bl D : Nat) : Int)) := by
      rcases Nat.eq_zero_or_pos D with h0 | h0
      · subst h0; rfl
      · have := bl_pos h0
        rw [decide_eq_true h0, decide_eq_true (by omega)]
    rw [hd]
    have Hb := Lib.hid hb
    clear hb hd
    generalize bl D = kd at *
    go_enter Tryz.func41, Tryz.ntmps41
    go_wp2_with fail
    rw [← e0]
    clear e0
    refine (Hr.out _ (Hh.out.up b0)).mono ?_
    rintro e w1 ⟨rfl, b1⟩
    have hx1 := hx0.up b1
    have p0 := hx1.c0
    have p1 := hx1.c1
    have p2 := hx1.c2
    go_wp2_with fail
    refine (Hb.out _ b1).mono ?_
    rintro e w2 ⟨rfl, b2⟩
    go_wp2_with fail
    go_ret
    exact ⟨by simp, bthen b0 (bthen b1 b2)⟩
end Go.Proofs.YtkeejhkjbmegkaaGreatDoor
namespace Go.Proofs.YtkeejhkjbmegkaaGreatDoor
open Go.RowKit
set_option linter.unusedVariables false
set_option maxRecDepth 100000

set_option maxHeartbeats 4000000 in
theorem rright_b1 {w : World} {v : Value} {P Q G : Nat} (h : Pr w v P Q G) (hb1 : 1024 < bl P) :
    Calls Tryz.prog 61 #[v] w fun e w' => e = .returned (.int .i64 60) ∧ Below w.heap.size w w' := by
  obtain ⟨A1, n1, c1, x1, A2, n2, c2, x2, A3, n3, c3, x3, rfl, h1', e1, l1, h2', e2, l2, h3', e3, l3⟩ := h.ex
  clear h
  obtain ⟨w0, e0⟩ : ∃ w0, w0 = w.alloc (.cells #[Value.slice A1 n1 c1, .slice A2 n2 c2, .slice A3 n3 c3] 40) := ⟨_, rfl⟩
  obtain ⟨hx0, b0⟩ := box_new e0
  have h1 := h1'.up b0
  have h2 := h2'.up b0
  have h3 := h3'.up b0
  clear h1' h2' h3'
  have q0 := hx0.c0
  have q1 := hx0.c1
  have q2 := hx0.c2
  have hb := Rn.rbits_any h1 (by omega)
  rw [e1] at hb
  have Hb := Lib.hid hb
  have hP := fun W A xs (k : Nt W W.heap.size A n1 c1 xs) (e : val 18446744073709551616 xs = P) => rpasses_any k e (by omega)
  have hQ := fun W A xs (k : Nt W W.heap.size A n2 c2 xs) (e : val 18446744073709551616 xs = Q) => rpasses_any k e (by omega)
  have HP := Lib.hid hP
  have HQ := Lib.hid hQ
  clear hb hP hQ
  obtain ⟨k, hk⟩ : ∃ k, bl P = k := ⟨_, rfl⟩
  rw [hk] at Hb hb1
  clear hk
  go_enter Tryz.func61, Tryz.ntmps61
  go_wp2_with fail
  rw [← e0]
  clear e0
  refine Hb.out.mono ?_
  rintro e w1 ⟨rfl, b1⟩
  have hx1 := hx0.up b1
  have p0 := hx1.c0
  have p1 := hx1.c1
  have p2 := hx1.c2
  have B1 := b1
  go_wp2_with fail
  go_ret
  exact ⟨rfl, bthen b0 B1⟩
set_option maxHeartbeats 4000000 in
theorem rright_b2 {w : World} {v : Value} {P Q G : Nat} (h : Pr w v P Q G) (hb1 : bl P ≤ 1024) (hpP : primeN P b12 = false) :
    Calls Tryz.prog 61 #[v] w fun e w' => e = .returned (.int .i64 60) ∧ Below w.heap.size w w' := by
  obtain ⟨A1, n1, c1, x1, A2, n2, c2, x2, A3, n3, c3, x3, rfl, h1', e1, l1, h2', e2, l2, h3', e3, l3⟩ := h.ex
  clear h
  obtain ⟨w0, e0⟩ : ∃ w0, w0 = w.alloc (.cells #[Value.slice A1 n1 c1, .slice A2 n2 c2, .slice A3 n3 c3] 40) := ⟨_, rfl⟩
  obtain ⟨hx0, b0⟩ := box_new e0
  have h1 := h1'.up b0
  have h2 := h2'.up b0
  have h3 := h3'.up b0
  clear h1' h2' h3'
  have q0 := hx0.c0
  have q1 := hx0.c1
  have q2 := hx0.c2
  have hb := Rn.rbits_any h1 (by omega)
  rw [e1] at hb
  have Hb := Lib.hid hb
  have hP := fun W A xs (k : Nt W W.heap.size A n1 c1 xs) (e : val 18446744073709551616 xs = P) => rpasses_any k e (by omega)
  have hQ := fun W A xs (k : Nt W W.heap.size A n2 c2 xs) (e : val 18446744073709551616 xs = Q) => rpasses_any k e (by omega)
  rw [hpP] at hP
  have HP := Lib.hid hP
  have HQ := Lib.hid hQ
  clear hb hP hQ
  obtain ⟨k, hk⟩ : ∃ k, bl P = k := ⟨_, rfl⟩
  rw [hk] at Hb hb1
  clear hk
  go_enter Tryz.func61, Tryz.ntmps61
  go_wp2_with fail
  rw [← e0]
  clear e0
  refine Hb.out.mono ?_
  rintro e w1 ⟨rfl, b1⟩
  have hx1 := hx0.up b1
  have p0 := hx1.c0
  have p1 := hx1.c1
  have p2 := hx1.c2
  have B1 := b1
  go_wp2_with fail
  refine (HP.out _ _ _ (h1.up B1) e1).mono ?_
  rintro e w2 ⟨rfl, b2⟩
  have B2 := bthen B1 b2
  have hx2 := hx0.up B2
  have r0 := hx2.c0
  have r1 := hx2.c1
  have r2 := hx2.c2
  go_wp2_with fail
  go_ret
  exact ⟨rfl, bthen b0 B2⟩
set_option maxHeartbeats 4000000 in
theorem rright_b3 {w : World} {v : Value} {P Q G : Nat} (h : Pr w v P Q G) (hb1 : bl P ≤ 1024) (hpP : primeN P b12 = true) (hpQ : primeN Q b12 = false) :
    Calls Tryz.prog 61 #[v] w fun e w' => e = .returned (.int .i64 60) ∧ Below w.heap.size w w' := by
  obtain ⟨A1, n1, c1, x1, A2, n2, c2, x2, A3, n3, c3, x3, rfl, h1', e1, l1, h2', e2, l2, h3', e3, l3⟩ := h.ex
  clear h
  obtain ⟨w0, e0⟩ : ∃ w0, w0 = w.alloc (.cells #[Value.slice A1 n1 c1, .slice A2 n2 c2, .slice A3 n3 c3] 40) := ⟨_, rfl⟩
  obtain ⟨hx0, b0⟩ := box_new e0
  have h1 := h1'.up b0
  have h2 := h2'.up b0
  have h3 := h3'.up b0
  clear h1' h2' h3'
  have q0 := hx0.c0
  have q1 := hx0.c1
  have q2 := hx0.c2
  have hb := Rn.rbits_any h1 (by omega)
  rw [e1] at hb
  have Hb := Lib.hid hb
  have hP := fun W A xs (k : Nt W W.heap.size A n1 c1 xs) (e : val 18446744073709551616 xs = P) => rpasses_any k e (by omega)
  have hQ := fun W A xs (k : Nt W W.heap.size A n2 c2 xs) (e : val 18446744073709551616 xs = Q) => rpasses_any k e (by omega)
  rw [hpP] at hP
  rw [hpQ] at hQ
  have HP := Lib.hid hP
  have HQ := Lib.hid hQ
  clear hb hP hQ
  obtain ⟨k, hk⟩ : ∃ k, bl P = k := ⟨_, rfl⟩
  rw [hk] at Hb hb1
  clear hk
  go_enter Tryz.func61, Tryz.ntmps61
  go_wp2_with fail
  rw [← e0]
  clear e0
  refine Hb.out.mono ?_
  rintro e w1 ⟨rfl, b1⟩
  have hx1 := hx0.up b1
  have p0 := hx1.c0
  have p1 := hx1.c1
  have p2 := hx1.c2
  have B1 := b1
  go_wp2_with fail
  refine (HP.out _ _ _ (h1.up B1) e1).mono ?_
  rintro e w2 ⟨rfl, b2⟩
  have B2 := bthen B1 b2
  have hx2 := hx0.up B2
  have r0 := hx2.c0
  have r1 := hx2.c1
  have r2 := hx2.c2
  go_wp2_with fail
  refine (HQ.out _ _ _ (h2.up B2) e2).mono ?_
  rintro e w3 ⟨rfl, b3⟩
  have B3 := bthen B2 b3
  have hx3 := hx0.up B3
  have s0 := hx3.c0
  have s1 := hx3.c1
  have s2 := hx3.c2
  go_wp2_with fail
  go_ret
  exact ⟨rfl, bthen b0 B3⟩
set_option maxHeartbeats 4000000 in
theorem rright_b4 {w : World} {v : Value} {P Q G : Nat} (h : Pr w v P Q G) (hb1 : bl P ≤ 1024) (hpP : primeN P b12 = true) (hpQ : primeN Q b12 = true) (hG : G < 1) :
    Calls Tryz.prog 61 #[v] w fun e w' => e = .returned (.int .i64 60) ∧ Below w.heap.size w w' := by
  obtain ⟨A1, n1, c1, x1, A2, n2, c2, x2, A3, n3, c3, x3, rfl, h1', e1, l1, h2', e2, l2, h3', e3, l3⟩ := h.ex
  clear h
  obtain ⟨w0, e0⟩ : ∃ w0, w0 = w.alloc (.cells #[Value.slice A1 n1 c1, .slice A2 n2 c2, .slice A3 n3 c3] 40) := ⟨_, rfl⟩
  obtain ⟨hx0, b0⟩ := box_new e0
  have h1 := h1'.up b0
  have h2 := h2'.up b0
  have h3 := h3'.up b0
  clear h1' h2' h3'
  have q0 := hx0.c0
  have q1 := hx0.c1
  have q2 := hx0.c2
  have hb := Rn.rbits_any h1 (by omega)
  rw [e1] at hb
  have Hb := Lib.hid hb
  have hP := fun W A xs (k : Nt W W.heap.size A n1 c1 xs) (e : val 18446744073709551616 xs = P) => rpasses_any k e (by omega)
  have hQ := fun W A xs (k : Nt W W.heap.size A n2 c2 xs) (e : val 18446744073709551616 xs = Q) => rpasses_any k e (by omega)
  rw [hpP] at hP
  rw [hpQ] at hQ
  have HP := Lib.hid hP
  have HQ := Lib.hid hQ
  clear hb hP hQ
  obtain ⟨k, hk⟩ : ∃ k, bl P = k := ⟨_, rfl⟩
  rw [hk] at Hb hb1
  clear hk
  go_enter Tryz.func61, Tryz.ntmps61
  go_wp2_with fail
  rw [← e0]
  clear e0
  refine Hb.out.mono ?_
  rintro e w1 ⟨rfl, b1⟩
  have hx1 := hx0.up b1
  have p0 := hx1.c0
  have p1 := hx1.c1
  have p2 := hx1.c2
  have B1 := b1
  go_wp2_with fail
  refine (HP.out _ _ _ (h1.up B1) e1).mono ?_
  rintro e w2 ⟨rfl, b2⟩
  have B2 := bthen B1 b2
  have hx2 := hx0.up B2
  have r0 := hx2.c0
  have r1 := hx2.c1
  have r2 := hx2.c2
  go_wp2_with fail
  refine (HQ.out _ _ _ (h2.up B2) e2).mono ?_
  rintro e w3 ⟨rfl, b3⟩
  have B3 := bthen B2 b3
  have hx3 := hx0.up B3
  have s0 := hx3.c0
  have s1 := hx3.c1
  have s2 := hx3.c2
  go_wp2_with fail
  have hyd : Bx w3.drew w.heap.size (.slice A1 n1 c1) (.slice A2 n2 c2) (.slice A3 n3 c3) := ⟨hx3.lt, hx3.c0, hx3.c1, hx3.c2⟩
  have bd : Below w3.heap.size w3 w3.drew := (Below.refl _ _).drew
  have B3d := bthen B3 bd
  have z0 := hyd.c0
  have z1 := hyd.c1
  have z2 := hyd.c2
  have h1d := h1.up B3d
  have h3d := h3.up B3d
  first
   | (go_region_with ((first
      | (go_at_call 104; refine (rone_any _).mono ?_; rintro e w4 ⟨A4, n4, c4, x4, rfl, r4⟩
         have g4 := hyd.up r4.bel
         have g40 := g4.c0
         have g41 := g4.c1
         have g42 := g4.c2
         have v4 := r4.is
         have l4 : n4 ≤ 1 := r4.le (by omega))
      | (go_at_call 49; with_reducible refine (rcmp_lt (h3d.up r4.bel) r4.nt (by omega) (by omega) (by rw [e3, v4]; exact hG)).mono ?_; rintro e w5 ⟨rfl, b5⟩
         have g5 := g4.up b5
         have g50 := g5.c0
         have g51 := g5.c1
         have g52 := g5.c2))))
   | fail
  all_goals
    go_wp2_with fail
    go_ret
    exact ⟨rfl, bthen b0 (bthen (bthen B3d r4.bel) b5)⟩
set_option maxHeartbeats 4000000 in
theorem rright_b5 {w : World} {v : Value} {P Q G : Nat} (h : Pr w v P Q G) (hb1 : bl P ≤ 1024) (hpP : primeN P b12 = true) (hpQ : primeN Q b12 = true) (hG : G = 1) :
    Calls Tryz.prog 61 #[v] w fun e w' => e = .returned (.int .i64 60) ∧ Below w.heap.size w w' := by
  obtain ⟨A1, n1, c1, x1, A2, n2, c2, x2, A3, n3, c3, x3, rfl, h1', e1, l1, h2', e2, l2, h3', e3, l3⟩ := h.ex
  clear h
  obtain ⟨w0, e0⟩ : ∃ w0, w0 = w.alloc (.cells #[Value.slice A1 n1 c1, .slice A2 n2 c2, .slice A3 n3 c3] 40) := ⟨_, rfl⟩
  obtain ⟨hx0, b0⟩ := box_new e0
  have h1 := h1'.up b0
  have h2 := h2'.up b0
  have h3 := h3'.up b0
  clear h1' h2' h3'
  have q0 := hx0.c0
  have q1 := hx0.c1
  have q2 := hx0.c2
  have hb := Rn.rbits_any h1 (by omega)
  rw [e1] at hb
  have Hb := Lib.hid hb
  have hP := fun W A xs (k : Nt W W.heap.size A n1 c1 xs) (e : val 18446744073709551616 xs = P) => rpasses_any k e (by omega)
  have hQ := fun W A xs (k : Nt W W.heap.size A n2 c2 xs) (e : val 18446744073709551616 xs = Q) => rpasses_any k e (by omega)
  rw [hpP] at hP
  rw [hpQ] at hQ
  have HP := Lib.hid hP
  have HQ := Lib.hid hQ
  clear hb hP hQ
  obtain ⟨k, hk⟩ : ∃ k, bl P = k := ⟨_, rfl⟩
  rw [hk] at Hb hb1
  clear hk
  go_enter Tryz.func61, Tryz.ntmps61
  go_wp2_with fail
  rw [← e0]
  clear e0
  refine Hb.out.mono ?_
  rintro e w1 ⟨rfl, b1⟩
  have hx1 := hx0.up b1
  have p0 := hx1.c0
  have p1 := hx1.c1
  have p2 := hx1.c2
  have B1 := b1
  go_wp2_with fail
  refine (HP.out _ _ _ (h1.up B1) e1).mono ?_
  rintro e w2 ⟨rfl, b2⟩
  have B2 := bthen B1 b2
  have hx2 := hx0.up B2
  have r0 := hx2.c0
  have r1 := hx2.c1
  have r2 := hx2.c2
  go_wp2_with fail
  refine (HQ.out _ _ _ (h2.up B2) e2).mono ?_
  rintro e w3 ⟨rfl, b3⟩
  have B3 := bthen B2 b3
  have hx3 := hx0.up B3
  have s0 := hx3.c0
  have s1 := hx3.c1
  have s2 := hx3.c2
  go_wp2_with fail
  have hyd : Bx w3.drew w.heap.size (.slice A1 n1 c1) (.slice A2 n2 c2) (.slice A3 n3 c3) := ⟨hx3.lt, hx3.c0, hx3.c1, hx3.c2⟩
  have bd : Below w3.heap.size w3 w3.drew := (Below.refl _ _).drew
  have B3d := bthen B3 bd
  have z0 := hyd.c0
  have z1 := hyd.c1
  have z2 := hyd.c2
  have h1d := h1.up B3d
  have h3d := h3.up B3d
  first
   | (go_region_with ((first
      | (go_at_call 104; refine (rone_any _).mono ?_; rintro e w4 ⟨A4, n4, c4, x4, rfl, r4⟩
         have g4 := hyd.up r4.bel
         have g40 := g4.c0
         have g41 := g4.c1
         have g42 := g4.c2
         have v4 := r4.is
         have l4 : n4 ≤ 1 := r4.le (by omega))
      | (go_at_call 49; with_reducible refine (rcmp_eq (h3d.up r4.bel) r4.nt (by omega) (by omega) (by rw [e3, v4]; exact hG)).mono ?_; rintro e w5 ⟨rfl, b5⟩
         have g5 := g4.up b5
         have g50 := g5.c0
         have g51 := g5.c1
         have g52 := g5.c2))))
   | fail
  all_goals
    go_wp2_with fail
    go_ret
    exact ⟨rfl, bthen b0 (bthen (bthen B3d r4.bel) b5)⟩
set_option maxHeartbeats 4000000 in
theorem rright_b6 {w : World} {v : Value} {P Q G : Nat} (h : Pr w v P Q G) (hb1 : bl P ≤ 1024) (hpP : primeN P b12 = true) (hpQ : primeN Q b12 = true) (hG : 1 < G) (hGP : P < G) :
    Calls Tryz.prog 61 #[v] w fun e w' => e = .returned (.int .i64 60) ∧ Below w.heap.size w w' := by
  obtain ⟨A1, n1, c1, x1, A2, n2, c2, x2, A3, n3, c3, x3, rfl, h1', e1, l1, h2', e2, l2, h3', e3, l3⟩ := h.ex
  clear h
  obtain ⟨w0, e0⟩ : ∃ w0, w0 = w.alloc (.cells #[Value.slice A1 n1 c1, .slice A2 n2 c2, .slice A3 n3 c3] 40) := ⟨_, rfl⟩
  obtain ⟨hx0, b0⟩ := box_new e0
  have h1 := h1'.up b0
  have h2 := h2'.up b0
  have h3 := h3'.up b0
  clear h1' h2' h3'
  have q0 := hx0.c0
  have q1 := hx0.c1
  have q2 := hx0.c2
  have hb := Rn.rbits_any h1 (by omega)
  rw [e1] at hb
  have Hb := Lib.hid hb
  have hP := fun W A xs (k : Nt W W.heap.size A n1 c1 xs) (e : val 18446744073709551616 xs = P) => rpasses_any k e (by omega)
  have hQ := fun W A xs (k : Nt W W.heap.size A n2 c2 xs) (e : val 18446744073709551616 xs = Q) => rpasses_any k e (by omega)
  rw [hpP] at hP
  rw [hpQ] at hQ
  have HP := Lib.hid hP
  have HQ := Lib.hid hQ
  clear hb hP hQ
  obtain ⟨k, hk⟩ : ∃ k, bl P = k := ⟨_, rfl⟩
  rw [hk] at Hb hb1
  clear hk
  go_enter Tryz.func61, Tryz.ntmps61
  go_wp2_with fail
  rw [← e0]
  clear e0
  refine Hb.out.mono ?_
  rintro e w1 ⟨rfl, b1⟩
  have hx1 := hx0.up b1
  have p0 := hx1.c0
  have p1 := hx1.c1
  have p2 := hx1.c2
  have B1 := b1
  go_wp2_with fail
  refine (HP.out _ _ _ (h1.up B1) e1).mono ?_
  rintro e w2 ⟨rfl, b2⟩
  have B2 := bthen B1 b2
  have hx2 := hx0.up B2
  have r0 := hx2.c0
  have r1 := hx2.c1
  have r2 := hx2.c2
  go_wp2_with fail
  refine (HQ.out _ _ _ (h2.up B2) e2).mono ?_
  rintro e w3 ⟨rfl, b3⟩
  have B3 := bthen B2 b3
  have hx3 := hx0.up B3
  have s0 := hx3.c0
  have s1 := hx3.c1
  have s2 := hx3.c2
  go_wp2_with fail
  have hyd : Bx w3.drew w.heap.size (.slice A1 n1 c1) (.slice A2 n2 c2) (.slice A3 n3 c3) := ⟨hx3.lt, hx3.c0, hx3.c1, hx3.c2⟩
  have bd : Below w3.heap.size w3 w3.drew := (Below.refl _ _).drew
  have B3d := bthen B3 bd
  have z0 := hyd.c0
  have z1 := hyd.c1
  have z2 := hyd.c2
  have h1d := h1.up B3d
  have h3d := h3.up B3d
  go_region_held3 (fun w' => w'.cell? ⟨w.heap.size, 0, none⟩ = some (Value.slice A1 n1 c1) ∧ w'.cell? ⟨w.heap.size, 1, none⟩ = some (Value.slice A2 n2 c2) ∧ w'.cell? ⟨w.heap.size, 2, none⟩ = some (Value.slice A3 n3 c3))
    (first | exact ⟨g6.c0, g6.c1, g6.c2⟩ | exact ⟨g5.c0, g5.c1, g5.c2⟩ | exact ⟨g4.c0, g4.c1, g4.c2⟩ | exact ⟨hyd.c0, hyd.c1, hyd.c2⟩)
    ((first
      | (go_at_call 104; refine (rone_any _).mono ?_; rintro e w4 ⟨A4, n4, c4, x4, rfl, r4⟩
         have g4 := hyd.up r4.bel
         have g40 := g4.c0
         have g41 := g4.c1
         have g42 := g4.c2
         have v4 := r4.is
         have l4 : n4 ≤ 1 := r4.le (by omega))
      | (go_at_call 49; with_reducible refine (rcmp_gt (h3d.up r4.bel) r4.nt (by omega) (by omega) (by rw [e3, v4]; exact hG)).mono ?_; rintro e w5 ⟨rfl, b5⟩
         have g5 := g4.up b5
         have g50 := g5.c0
         have g51 := g5.c1
         have g52 := g5.c2)
      | (go_at_call 49; with_reducible refine (rcmp_gt ((h3d.up r4.bel).up b5) ((h1d.up r4.bel).up b5) (by omega) (by omega) (by rw [e3, e1]; exact hGP)).mono ?_; rintro e w6 ⟨rfl, b6⟩
         have g6 := g5.up b6
         have g60 := g6.c0
         have g61 := g6.c1
         have g62 := g6.c2)))
  all_goals
    go_wp2_with fail
    go_ret
    exact ⟨rfl, bthen b0 (bthen (bthen (bthen B3d r4.bel) b5) b6)⟩
set_option maxHeartbeats 4000000 in
theorem rright_b7 {w : World} {v : Value} {P Q G : Nat} (h : Pr w v P Q G) (hb1 : bl P ≤ 1024) (hpP : primeN P b12 = true) (hpQ : primeN Q b12 = true) (hG : 1 < G) (hGP : G = P) :
    Calls Tryz.prog 61 #[v] w fun e w' => e = .returned (.int .i64 60) ∧ Below w.heap.size w w' := by
  obtain ⟨A1, n1, c1, x1, A2, n2, c2, x2, A3, n3, c3, x3, rfl, h1', e1, l1, h2', e2, l2, h3', e3, l3⟩ := h.ex
  clear h
  obtain ⟨w0, e0⟩ : ∃ w0, w0 = w.alloc (.cells #[Value.slice A1 n1 c1, .slice A2 n2 c2, .slice A3 n3 c3] 40) := ⟨_, rfl⟩
  obtain ⟨hx0, b0⟩ := box_new e0
  have h1 := h1'.up b0
  have h2 := h2'.up b0
  have h3 := h3'.up b0
  clear h1' h2' h3'
  have q0 := hx0.c0
  have q1 := hx0.c1
  have q2 := hx0.c2
  have hb := Rn.rbits_any h1 (by omega)
  rw [e1] at hb
  have Hb := Lib.hid hb
  have hP := fun W A xs (k : Nt W W.heap.size A n1 c1 xs) (e : val 18446744073709551616 xs = P) => rpasses_any k e (by omega)
  have hQ := fun W A xs (k : Nt W W.heap.size A n2 c2 xs) (e : val 18446744073709551616 xs = Q) => rpasses_any k e (by omega)
  rw [hpP] at hP
  rw [hpQ] at hQ
  have HP := Lib.hid hP
  have HQ := Lib.hid hQ
  clear hb hP hQ
  obtain ⟨k, hk⟩ : ∃ k, bl P = k := ⟨_, rfl⟩
  rw [hk] at Hb hb1
  clear hk
  go_enter Tryz.func61, Tryz.ntmps61
  go_wp2_with fail
  rw [← e0]
  clear e0
  refine Hb.out.mono ?_
  rintro e w1 ⟨rfl, b1⟩
  have hx1 := hx0.up b1
  have p0 := hx1.c0
  have p1 := hx1.c1
  have p2 := hx1.c2
  have B1 := b1
  go_wp2_with fail
  refine (HP.out _ _ _ (h1.up B1) e1).mono ?_
  rintro e w2 ⟨rfl, b2⟩
  have B2 := bthen B1 b2
  have hx2 := hx0.up B2
  have r0 := hx2.c0
  have r1 := hx2.c1
  have r2 := hx2.c2
  go_wp2_with fail
  refine (HQ.out _ _ _ (h2.up B2) e2).mono ?_
  rintro e w3 ⟨rfl, b3⟩
  have B3 := bthen B2 b3
  have hx3 := hx0.up B3
  have s0 := hx3.c0
  have s1 := hx3.c1
  have s2 := hx3.c2
  go_wp2_with fail
  have hyd : Bx w3.drew w.heap.size (.slice A1 n1 c1) (.slice A2 n2 c2) (.slice A3 n3 c3) := ⟨hx3.lt, hx3.c0, hx3.c1, hx3.c2⟩
  have bd : Below w3.heap.size w3 w3.drew := (Below.refl _ _).drew
  have B3d := bthen B3 bd
  have z0 := hyd.c0
  have z1 := hyd.c1
  have z2 := hyd.c2
  have h1d := h1.up B3d
  have h3d := h3.up B3d
  go_region_held3 (fun w' => w'.cell? ⟨w.heap.size, 0, none⟩ = some (Value.slice A1 n1 c1) ∧ w'.cell? ⟨w.heap.size, 1, none⟩ = some (Value.slice A2 n2 c2) ∧ w'.cell? ⟨w.heap.size, 2, none⟩ = some (Value.slice A3 n3 c3))
    (first | exact ⟨g6.c0, g6.c1, g6.c2⟩ | exact ⟨g5.c0, g5.c1, g5.c2⟩ | exact ⟨g4.c0, g4.c1, g4.c2⟩ | exact ⟨hyd.c0, hyd.c1, hyd.c2⟩)
    ((first
      | (go_at_call 104; refine (rone_any _).mono ?_; rintro e w4 ⟨A4, n4, c4, x4, rfl, r4⟩
         have g4 := hyd.up r4.bel
         have g40 := g4.c0
         have g41 := g4.c1
         have g42 := g4.c2
         have v4 := r4.is
         have l4 : n4 ≤ 1 := r4.le (by omega))
      | (go_at_call 49; with_reducible refine (rcmp_gt (h3d.up r4.bel) r4.nt (by omega) (by omega) (by rw [e3, v4]; exact hG)).mono ?_; rintro e w5 ⟨rfl, b5⟩
         have g5 := g4.up b5
         have g50 := g5.c0
         have g51 := g5.c1
         have g52 := g5.c2)
      | (go_at_call 49; with_reducible refine (rcmp_eq ((h3d.up r4.bel).up b5) ((h1d.up r4.bel).up b5) (by omega) (by omega) (by rw [e3, e1]; exact hGP)).mono ?_; rintro e w6 ⟨rfl, b6⟩
         have g6 := g5.up b6
         have g60 := g6.c0
         have g61 := g6.c1
         have g62 := g6.c2)))
  all_goals
    go_wp2_with fail
    go_ret
    exact ⟨rfl, bthen b0 (bthen (bthen (bthen B3d r4.bel) b5) b6)⟩
end Go.Proofs.YtkeejhkjbmegkaaGreatDoor
namespace Go.Proofs.YtkeejhkjbmegkaaGreatDoor
open Go.RowKit
set_option linter.unusedVariables false
set_option maxRecDepth 100000

set_option maxHeartbeats 4000000 in
theorem rright_b8 {w : World} {v : Value} {P Q G : Nat} (h : Pr w v P Q G) (hb1 : bl P ≤ 1024) (hpP : primeN P b12 = true) (hpQ : primeN Q b12 = true) (hG : 1 < G) (hGP : G < P) (hQ2 : 2 ≤ Q) (hM : (P - 1) % Q ≠ 0) :
    Calls Tryz.prog 61 #[v] w fun e w' => e = .returned (.int .i64 60) ∧ Below w.heap.size w w' := by
  obtain ⟨A1, n1, c1, x1, A2, n2, c2, x2, A3, n3, c3, x3, rfl, h1', e1, l1, h2', e2, l2, h3', e3, l3⟩ := h.ex
  clear h
  obtain ⟨w0, e0⟩ : ∃ w0, w0 = w.alloc (.cells #[Value.slice A1 n1 c1, .slice A2 n2 c2, .slice A3 n3 c3] 40) := ⟨_, rfl⟩
  obtain ⟨hx0, b0⟩ := box_new e0
  have h1 := h1'.up b0
  have h2 := h2'.up b0
  have h3 := h3'.up b0
  clear h1' h2' h3'
  have q0 := hx0.c0
  have q1 := hx0.c1
  have q2 := hx0.c2
  have hb := Rn.rbits_any h1 (by omega)
  rw [e1] at hb
  have Hb := Lib.hid hb
  have hP := fun W A xs (k : Nt W W.heap.size A n1 c1 xs) (e : val 18446744073709551616 xs = P) => rpasses_any k e (by omega)
  have hQ := fun W A xs (k : Nt W W.heap.size A n2 c2 xs) (e : val 18446744073709551616 xs = Q) => rpasses_any k e (by omega)
  rw [hpP] at hP
  rw [hpQ] at hQ
  have HP := Lib.hid hP
  have HQ := Lib.hid hQ
  clear hb hP hQ
  obtain ⟨k, hk⟩ : ∃ k, bl P = k := ⟨_, rfl⟩
  rw [hk] at Hb hb1
  clear hk
  go_enter Tryz.func61, Tryz.ntmps61
  go_wp2_with fail
  rw [← e0]
  clear e0
  refine Hb.out.mono ?_
  rintro e w1 ⟨rfl, b1⟩
  have hx1 := hx0.up b1
  have p0 := hx1.c0
  have p1 := hx1.c1
  have p2 := hx1.c2
  have B1 := b1
  go_wp2_with fail
  refine (HP.out _ _ _ (h1.up B1) e1).mono ?_
  rintro e w2 ⟨rfl, b2⟩
  have B2 := bthen B1 b2
  have hx2 := hx0.up B2
  have r0 := hx2.c0
  have r1 := hx2.c1
  have r2 := hx2.c2
  go_wp2_with fail
  refine (HQ.out _ _ _ (h2.up B2) e2).mono ?_
  rintro e w3 ⟨rfl, b3⟩
  have B3 := bthen B2 b3
  have hx3 := hx0.up B3
  have s0 := hx3.c0
  have s1 := hx3.c1
  have s2 := hx3.c2
  go_wp2_with fail
  have hyd : Bx w3.drew w.heap.size (.slice A1 n1 c1) (.slice A2 n2 c2) (.slice A3 n3 c3) := ⟨hx3.lt, hx3.c0, hx3.c1, hx3.c2⟩
  have bd : Below w3.heap.size w3 w3.drew := (Below.refl _ _).drew
  have B3d := bthen B3 bd
  have z0 := hyd.c0
  have z1 := hyd.c1
  have z2 := hyd.c2
  have h1d := h1.up B3d
  have h3d := h3.up B3d
  go_region_held3 (fun w' => w'.cell? ⟨w.heap.size, 0, none⟩ = some (Value.slice A1 n1 c1) ∧ w'.cell? ⟨w.heap.size, 1, none⟩ = some (Value.slice A2 n2 c2) ∧ w'.cell? ⟨w.heap.size, 2, none⟩ = some (Value.slice A3 n3 c3))
    (first | exact ⟨g6.c0, g6.c1, g6.c2⟩ | exact ⟨g5.c0, g5.c1, g5.c2⟩ | exact ⟨g4.c0, g4.c1, g4.c2⟩ | exact ⟨hyd.c0, hyd.c1, hyd.c2⟩)
    ((first
      | (go_at_call 104; refine (rone_any _).mono ?_; rintro e w4 ⟨A4, n4, c4, x4, rfl, r4⟩
         have g4 := hyd.up r4.bel
         have g40 := g4.c0
         have g41 := g4.c1
         have g42 := g4.c2
         have v4 := r4.is
         have l4 : n4 ≤ 1 := r4.le (by omega))
      | (go_at_call 49; with_reducible refine (rcmp_gt (h3d.up r4.bel) r4.nt (by omega) (by omega) (by rw [e3, v4]; exact hG)).mono ?_; rintro e w5 ⟨rfl, b5⟩
         have g5 := g4.up b5
         have g50 := g5.c0
         have g51 := g5.c1
         have g52 := g5.c2)
      | (go_at_call 49; with_reducible refine (rcmp_lt ((h3d.up r4.bel).up b5) ((h1d.up r4.bel).up b5) (by omega) (by omega) (by rw [e3, e1]; exact hGP)).mono ?_; rintro e w6 ⟨rfl, b6⟩
         have g6 := g5.up b6
         have g60 := g6.c0
         have g61 := g6.c1
         have g62 := g6.c2)))
  all_goals
    have B6 := bthen (bthen (bthen B3d r4.bel) b5) b6
    go_wp2_with fail
    have hyf : Bx w6.drew w.heap.size (.slice A1 n1 c1) (.slice A2 n2 c2) (.slice A3 n3 c3) := ⟨g6.lt, g6.c0, g6.c1, g6.c2⟩
    have bf : Below w6.heap.size w6 w6.drew := (Below.refl _ _).drew
    have B6d := bthen B6 bf
    have y0 := hyf.c0
    have y1 := hyf.c1
    have y2 := hyf.c2
    have h1f := h1.up B6d
    go_region_held3 (fun w' => w'.cell? ⟨w.heap.size, 0, none⟩ = some (Value.slice A1 n1 c1) ∧ w'.cell? ⟨w.heap.size, 1, none⟩ = some (Value.slice A2 n2 c2) ∧ w'.cell? ⟨w.heap.size, 2, none⟩ = some (Value.slice A3 n3 c3))
    (first | exact ⟨g8.c0, g8.c1, g8.c2⟩ | exact ⟨g7.c0, g7.c1, g7.c2⟩ | exact ⟨hyf.c0, hyf.c1, hyf.c2⟩)
    ((first
      | (go_at_call 104; refine (rone_any _).mono ?_; rintro e w7 ⟨A7, n7, c7, x7, rfl, r7⟩
         have g7 := hyf.up r7.bel
         have g70 := g7.c0
         have g71 := g7.c1
         have g72 := g7.c2
         have v7 := r7.is
         have l7 : n7 ≤ 1 := r7.le (by omega))
      | (go_at_call 105; refine (rsub_ok (h1f.up r7.bel) r7.nt (by omega) (by omega) (by rw [e1, v7]; omega)).mono ?_; rintro e w8 ⟨A8, n8, c8, x8, rfl, r8⟩
         rw [e1, v7] at r8
         have v8 := r8.is
         have l8 : n8 ≤ 100 := r8.le (Nat.lt_of_le_of_lt (Nat.sub_le _ _) (by rw [← e1]; exact h1f.below_pow l1))
         have g8 := g7.up r8.bel
         have g80 := g8.c0
         have g81 := g8.c1
         have g82 := g8.c2)))
    all_goals
      have B8 := bthen (bthen B6d r7.bel) r8.bel
      go_wp2_with fail
      refine (rmod_pos r8.nt (h2.up B8) (by omega) (by omega) (by rw [e2]; omega)).mono ?_
      rintro e w9 ⟨A9, n9, c9, x9, rfl, r9⟩
      rw [v8, e2] at r9
      have v9 := r9.is
      have l9 : n9 ≤ 100 := r9.le (Nat.lt_trans (Nat.mod_lt _ (by omega)) (by rw [← e2]; exact h2.below_pow l2))
      have B9 := bthen B8 r9.bel
      have g9 := g8.up r9.bel
      have g90 := g9.c0
      have g91 := g9.c1
      have g92 := g9.c2
      go_wp2_with fail
      refine (rpow_pos (h3.up B9) (h2.up B9) (h1.up B9) (by omega) (by omega) (by omega) (by rw [e1]; omega)).mono ?_
      rintro e w10 ⟨A10, n10, c10, x10, rfl, r10⟩
      rw [e1, e2, e3] at r10
      have v10 := r10.is
      have l10 : n10 ≤ 100 := r10.le (Nat.lt_trans (Nat.mod_lt _ (by omega)) (by rw [← e1]; exact h1.below_pow l1))
      have B10 := bthen B9 r10.bel
      have m9 := r9.nt.up r10.bel
      have hbt := Rn.rbits_any m9 (by omega)
      rw [v9] at hbt
      have hpz := bl_pos (Nat.pos_of_ne_zero hM)
      obtain ⟨kz, hkz⟩ : ∃ kz, bl ((P - 1) % Q) = kz := ⟨_, rfl⟩
      rw [hkz] at hbt hpz
      have hd0 : decide ((0 : Int) < (kz : Int)) = true := by simp; omega
      clear hkz
      have Hbt := Lib.hid hbt
      clear hbt
      go_wp2_with fail
      refine Hbt.out.mono ?_
      rintro e w11 ⟨rfl, b11⟩
      have B11 := bthen B10 b11
      go_wp2_with fail
      go_ret
      exact ⟨rfl, bthen b0 B11⟩
end Go.Proofs.YtkeejhkjbmegkaaGreatDoor
namespace Go.Proofs.YtkeejhkjbmegkaaGreatDoor
open Go.RowKit
set_option linter.unusedVariables false
set_option maxRecDepth 100000

set_option maxHeartbeats 4000000 in
theorem rright_b9 {w : World} {v : Value} {P Q G : Nat} (h : Pr w v P Q G) (hb1 : bl P ≤ 1024) (hpP : primeN P b12 = true) (hpQ : primeN Q b12 = true) (hG : 1 < G) (hGP : G < P) (hQ2 : 2 ≤ Q) (hM : (P - 1) % Q = 0) (hX : G ^ Q % P < 1) :
    Calls Tryz.prog 61 #[v] w fun e w' => e = .returned (.int .i64 60) ∧ Below w.heap.size w w' := by
  obtain ⟨A1, n1, c1, x1, A2, n2, c2, x2, A3, n3, c3, x3, rfl, h1', e1, l1, h2', e2, l2, h3', e3, l3⟩ := h.ex
  clear h
  obtain ⟨w0, e0⟩ : ∃ w0, w0 = w.alloc (.cells #[Value.slice A1 n1 c1, .slice A2 n2 c2, .slice A3 n3 c3] 40) := ⟨_, rfl⟩
  obtain ⟨hx0, b0⟩ := box_new e0
  have h1 := h1'.up b0
  have h2 := h2'.up b0
  have h3 := h3'.up b0
  clear h1' h2' h3'
  have q0 := hx0.c0
  have q1 := hx0.c1
  have q2 := hx0.c2
  have hb := Rn.rbits_any h1 (by omega)
  rw [e1] at hb
  have Hb := Lib.hid hb
  have hP := fun W A xs (k : Nt W W.heap.size A n1 c1 xs) (e : val 18446744073709551616 xs = P) => rpasses_any k e (by omega)
  have hQ := fun W A xs (k : Nt W W.heap.size A n2 c2 xs) (e : val 18446744073709551616 xs = Q) => rpasses_any k e (by omega)
  rw [hpP] at hP
  rw [hpQ] at hQ
  have HP := Lib.hid hP
  have HQ := Lib.hid hQ
  clear hb hP hQ
  obtain ⟨k, hk⟩ : ∃ k, bl P = k := ⟨_, rfl⟩
  rw [hk] at Hb hb1
  clear hk
  go_enter Tryz.func61, Tryz.ntmps61
  go_wp2_with fail
  rw [← e0]
  clear e0
  refine Hb.out.mono ?_
  rintro e w1 ⟨rfl, b1⟩
  have hx1 := hx0.up b1
  have p0 := hx1.c0
  have p1 := hx1.c1
  have p2 := hx1.c2
  have B1 := b1
  go_wp2_with fail
  refine (HP.out _ _ _ (h1.up B1) e1).mono ?_
  rintro e w2 ⟨rfl, b2⟩
  have B2 := bthen B1 b2
  have hx2 := hx0.up B2
  have r0 := hx2.c0
  have r1 := hx2.c1
  have r2 := hx2.c2
  go_wp2_with fail
  refine (HQ.out _ _ _ (h2.up B2) e2).mono ?_
  rintro e w3 ⟨rfl, b3⟩
  have B3 := bthen B2 b3
  have hx3 := hx0.up B3
  have s0 := hx3.c0
  have s1 := hx3.c1
  have s2 := hx3.c2
  go_wp2_with fail
  have hyd : Bx w3.drew w.heap.size (.slice A1 n1 c1) (.slice A2 n2 c2) (.slice A3 n3 c3) := ⟨hx3.lt, hx3.c0, hx3.c1, hx3.c2⟩
  have bd : Below w3.heap.size w3 w3.drew := (Below.refl _ _).drew
  have B3d := bthen B3 bd
  have z0 := hyd.c0
  have z1 := hyd.c1
  have z2 := hyd.c2
  have h1d := h1.up B3d
  have h3d := h3.up B3d
  go_region_held3 (fun w' => w'.cell? ⟨w.heap.size, 0, none⟩ = some (Value.slice A1 n1 c1) ∧ w'.cell? ⟨w.heap.size, 1, none⟩ = some (Value.slice A2 n2 c2) ∧ w'.cell? ⟨w.heap.size, 2, none⟩ = some (Value.slice A3 n3 c3))
    (first | exact ⟨g6.c0, g6.c1, g6.c2⟩ | exact ⟨g5.c0, g5.c1, g5.c2⟩ | exact ⟨g4.c0, g4.c1, g4.c2⟩ | exact ⟨hyd.c0, hyd.c1, hyd.c2⟩)
    ((first
      | (go_at_call 104; refine (rone_any _).mono ?_; rintro e w4 ⟨A4, n4, c4, x4, rfl, r4⟩
         have g4 := hyd.up r4.bel
         have g40 := g4.c0
         have g41 := g4.c1
         have g42 := g4.c2
         have v4 := r4.is
         have l4 : n4 ≤ 1 := r4.le (by omega))
      | (go_at_call 49; with_reducible refine (rcmp_gt (h3d.up r4.bel) r4.nt (by omega) (by omega) (by rw [e3, v4]; exact hG)).mono ?_; rintro e w5 ⟨rfl, b5⟩
         have g5 := g4.up b5
         have g50 := g5.c0
         have g51 := g5.c1
         have g52 := g5.c2)
      | (go_at_call 49; with_reducible refine (rcmp_lt ((h3d.up r4.bel).up b5) ((h1d.up r4.bel).up b5) (by omega) (by omega) (by rw [e3, e1]; exact hGP)).mono ?_; rintro e w6 ⟨rfl, b6⟩
         have g6 := g5.up b6
         have g60 := g6.c0
         have g61 := g6.c1
         have g62 := g6.c2)))
  all_goals
    have B6 := bthen (bthen (bthen B3d r4.bel) b5) b6
    go_wp2_with fail
    have hyf : Bx w6.drew w.heap.size (.slice A1 n1 c1) (.slice A2 n2 c2) (.slice A3 n3 c3) := ⟨g6.lt, g6.c0, g6.c1, g6.c2⟩
    have bf : Below w6.heap.size w6 w6.drew := (Below.refl _ _).drew
    have B6d := bthen B6 bf
    have y0 := hyf.c0
    have y1 := hyf.c1
    have y2 := hyf.c2
    have h1f := h1.up B6d
    go_region_held3 (fun w' => w'.cell? ⟨w.heap.size, 0, none⟩ = some (Value.slice A1 n1 c1) ∧ w'.cell? ⟨w.heap.size, 1, none⟩ = some (Value.slice A2 n2 c2) ∧ w'.cell? ⟨w.heap.size, 2, none⟩ = some (Value.slice A3 n3 c3))
    (first | exact ⟨g8.c0, g8.c1, g8.c2⟩ | exact ⟨g7.c0, g7.c1, g7.c2⟩ | exact ⟨hyf.c0, hyf.c1, hyf.c2⟩)
    ((first
      | (go_at_call 104; refine (rone_any _).mono ?_; rintro e w7 ⟨A7, n7, c7, x7, rfl, r7⟩
         have g7 := hyf.up r7.bel
         have g70 := g7.c0
         have g71 := g7.c1
         have g72 := g7.c2
         have v7 := r7.is
         have l7 : n7 ≤ 1 := r7.le (by omega))
      | (go_at_call 105; refine (rsub_ok (h1f.up r7.bel) r7.nt (by omega) (by omega) (by rw [e1, v7]; omega)).mono ?_; rintro e w8 ⟨A8, n8, c8, x8, rfl, r8⟩
         rw [e1, v7] at r8
         have v8 := r8.is
         have l8 : n8 ≤ 100 := r8.le (Nat.lt_of_le_of_lt (Nat.sub_le _ _) (by rw [← e1]; exact h1f.below_pow l1))
         have g8 := g7.up r8.bel
         have g80 := g8.c0
         have g81 := g8.c1
         have g82 := g8.c2)))
    all_goals
      have B8 := bthen (bthen B6d r7.bel) r8.bel
      go_wp2_with fail
      refine (rmod_pos r8.nt (h2.up B8) (by omega) (by omega) (by rw [e2]; omega)).mono ?_
      rintro e w9 ⟨A9, n9, c9, x9, rfl, r9⟩
      rw [v8, e2] at r9
      have v9 := r9.is
      have l9 : n9 ≤ 100 := r9.le (Nat.lt_trans (Nat.mod_lt _ (by omega)) (by rw [← e2]; exact h2.below_pow l2))
      have B9 := bthen B8 r9.bel
      have g9 := g8.up r9.bel
      have g90 := g9.c0
      have g91 := g9.c1
      have g92 := g9.c2
      go_wp2_with fail
      refine (rpow_pos (h3.up B9) (h2.up B9) (h1.up B9) (by omega) (by omega) (by omega) (by rw [e1]; omega)).mono ?_
      rintro e w10 ⟨A10, n10, c10, x10, rfl, r10⟩
      rw [e1, e2, e3] at r10
      have v10 := r10.is
      have l10 : n10 ≤ 100 := r10.le (Nat.lt_trans (Nat.mod_lt _ (by omega)) (by rw [← e1]; exact h1.below_pow l1))
      have B10 := bthen B9 r10.bel
      have m9 := r9.nt.up r10.bel
      have hbt := Rn.rbits_any m9 (by omega)
      rw [v9] at hbt
      rw [hM, show bl 0 = 0 by rfl] at hbt
      have Hbt := Lib.hid hbt
      clear hbt
      go_wp2_with fail
      refine Hbt.out.mono ?_
      rintro e w11 ⟨rfl, b11⟩
      have B11 := bthen B10 b11
      go_wp2_with fail
      refine (rone_any _).mono ?_
      rintro e w12 ⟨A12, n12, c12, x12, rfl, r12⟩
      have v12 := r12.is
      have l12 : n12 ≤ 1 := r12.le (by omega)
      have B12' := bthen B11 r12.bel
      go_wp2_with fail
      refine (rcmp_lt ((r10.nt.up b11).up r12.bel) r12.nt (by omega) (by omega) (by rw [v10, v12]; exact hX)).mono ?_
      rintro e w13 ⟨rfl, b13⟩
      have B13 := bthen B12' b13
      go_wp2_with fail
      go_ret
      exact ⟨rfl, bthen b0 B13⟩
end Go.Proofs.YtkeejhkjbmegkaaGreatDoor
namespace Go.Proofs.YtkeejhkjbmegkaaGreatDoor
open Go.RowKit
set_option linter.unusedVariables false
set_option maxRecDepth 100000

set_option maxHeartbeats 4000000 in
theorem rright_b10 {w : World} {v : Value} {P Q G : Nat} (h : Pr w v P Q G) (hb1 : bl P ≤ 1024) (hpP : primeN P b12 = true) (hpQ : primeN Q b12 = true) (hG : 1 < G) (hGP : G < P) (hQ2 : 2 ≤ Q) (hM : (P - 1) % Q = 0) (hX : 1 < G ^ Q % P) :
    Calls Tryz.prog 61 #[v] w fun e w' => e = .returned (.int .i64 60) ∧ Below w.heap.size w w' := by
  obtain ⟨A1, n1, c1, x1, A2, n2, c2, x2, A3, n3, c3, x3, rfl, h1', e1, l1, h2', e2, l2, h3', e3, l3⟩ := h.ex
  clear h
  obtain ⟨w0, e0⟩ : ∃ w0, w0 = w.alloc (.cells #[Value.slice A1 n1 c1, .slice A2 n2 c2, .slice A3 n3 c3] 40) := ⟨_, rfl⟩
  obtain ⟨hx0, b0⟩ := box_new e0
  have h1 := h1'.up b0
  have h2 := h2'.up b0
  have h3 := h3'.up b0
  clear h1' h2' h3'
  have q0 := hx0.c0
  have q1 := hx0.c1
  have q2 := hx0.c2
  have hb := Rn.rbits_any h1 (by omega)
  rw [e1] at hb
  have Hb := Lib.hid hb
  have hP := fun W A xs (k : Nt W W.heap.size A n1 c1 xs) (e : val 18446744073709551616 xs = P) => rpasses_any k e (by omega)
  have hQ := fun W A xs (k : Nt W W.heap.size A n2 c2 xs) (e : val 18446744073709551616 xs = Q) => rpasses_any k e (by omega)
  rw [hpP] at hP
  rw [hpQ] at hQ
  have HP := Lib.hid hP
  have HQ := Lib.hid hQ
  clear hb hP hQ
  obtain ⟨k, hk⟩ : ∃ k, bl P = k := ⟨_, rfl⟩
  rw [hk] at Hb hb1
  clear hk
  go_enter Tryz.func61, Tryz.ntmps61
  go_wp2_with fail
  rw [← e0]
  clear e0
  refine Hb.out.mono ?_
  rintro e w1 ⟨rfl, b1⟩
  have hx1 := hx0.up b1
  have p0 := hx1.c0
  have p1 := hx1.c1
  have p2 := hx1.c2
  have B1 := b1
  go_wp2_with fail
  refine (HP.out _ _ _ (h1.up B1) e1).mono ?_
  rintro e w2 ⟨rfl, b2⟩
  have B2 := bthen B1 b2
  have hx2 := hx0.up B2
  have r0 := hx2.c0
  have r1 := hx2.c1
  have r2 := hx2.c2
  go_wp2_with fail
  refine (HQ.out _ _ _ (h2.up B2) e2).mono ?_
  rintro e w3 ⟨rfl, b3⟩
  have B3 := bthen B2 b3
  have hx3 := hx0.up B3
  have s0 := hx3.c0
  have s1 := hx3.c1
  have s2 := hx3.c2
  go_wp2_with fail
  have hyd : Bx w3.drew w.heap.size (.slice A1 n1 c1) (.slice A2 n2 c2) (.slice A3 n3 c3) := ⟨hx3.lt, hx3.c0, hx3.c1, hx3.c2⟩
  have bd : Below w3.heap.size w3 w3.drew := (Below.refl _ _).drew
  have B3d := bthen B3 bd
  have z0 := hyd.c0
  have z1 := hyd.c1
  have z2 := hyd.c2
  have h1d := h1.up B3d
  have h3d := h3.up B3d
  go_region_held3 (fun w' => w'.cell? ⟨w.heap.size, 0, none⟩ = some (Value.slice A1 n1 c1) ∧ w'.cell? ⟨w.heap.size, 1, none⟩ = some (Value.slice A2 n2 c2) ∧ w'.cell? ⟨w.heap.size, 2, none⟩ = some (Value.slice A3 n3 c3))
    (first | exact ⟨g6.c0, g6.c1, g6.c2⟩ | exact ⟨g5.c0, g5.c1, g5.c2⟩ | exact ⟨g4.c0, g4.c1, g4.c2⟩ | exact ⟨hyd.c0, hyd.c1, hyd.c2⟩)
    ((first
      | (go_at_call 104; refine (rone_any _).mono ?_; rintro e w4 ⟨A4, n4, c4, x4, rfl, r4⟩
         have g4 := hyd.up r4.bel
         have g40 := g4.c0
         have g41 := g4.c1
         have g42 := g4.c2
         have v4 := r4.is
         have l4 : n4 ≤ 1 := r4.le (by omega))
      | (go_at_call 49; with_reducible refine (rcmp_gt (h3d.up r4.bel) r4.nt (by omega) (by omega) (by rw [e3, v4]; exact hG)).mono ?_; rintro e w5 ⟨rfl, b5⟩
         have g5 := g4.up b5
         have g50 := g5.c0
         have g51 := g5.c1
         have g52 := g5.c2)
      | (go_at_call 49; with_reducible refine (rcmp_lt ((h3d.up r4.bel).up b5) ((h1d.up r4.bel).up b5) (by omega) (by omega) (by rw [e3, e1]; exact hGP)).mono ?_; rintro e w6 ⟨rfl, b6⟩
         have g6 := g5.up b6
         have g60 := g6.c0
         have g61 := g6.c1
         have g62 := g6.c2)))
  all_goals
    have B6 := bthen (bthen (bthen B3d r4.bel) b5) b6
    go_wp2_with fail
    have hyf : Bx w6.drew w.heap.size (.slice A1 n1 c1) (.slice A2 n2 c2) (.slice A3 n3 c3) := ⟨g6.lt, g6.c0, g6.c1, g6.c2⟩
    have bf : Below w6.heap.size w6 w6.drew := (Below.refl _ _).drew
    have B6d := bthen B6 bf
    have y0 := hyf.c0
    have y1 := hyf.c1
    have y2 := hyf.c2
    have h1f := h1.up B6d
    go_region_held3 (fun w' => w'.cell? ⟨w.heap.size, 0, none⟩ = some (Value.slice A1 n1 c1) ∧ w'.cell? ⟨w.heap.size, 1, none⟩ = some (Value.slice A2 n2 c2) ∧ w'.cell? ⟨w.heap.size, 2, none⟩ = some (Value.slice A3 n3 c3))
    (first | exact ⟨g8.c0, g8.c1, g8.c2⟩ | exact ⟨g7.c0, g7.c1, g7.c2⟩ | exact ⟨hyf.c0, hyf.c1, hyf.c2⟩)
    ((first
      | (go_at_call 104; refine (rone_any _).mono ?_; rintro e w7 ⟨A7, n7, c7, x7, rfl, r7⟩
         have g7 := hyf.up r7.bel
         have g70 := g7.c0
         have g71 := g7.c1
         have g72 := g7.c2
         have v7 := r7.is
         have l7 : n7 ≤ 1 := r7.le (by omega))
      | (go_at_call 105; refine (rsub_ok (h1f.up r7.bel) r7.nt (by omega) (by omega) (by rw [e1, v7]; omega)).mono ?_; rintro e w8 ⟨A8, n8, c8, x8, rfl, r8⟩
         rw [e1, v7] at r8
         have v8 := r8.is
         have l8 : n8 ≤ 100 := r8.le (Nat.lt_of_le_of_lt (Nat.sub_le _ _) (by rw [← e1]; exact h1f.below_pow l1))
         have g8 := g7.up r8.bel
         have g80 := g8.c0
         have g81 := g8.c1
         have g82 := g8.c2)))
    all_goals
      have B8 := bthen (bthen B6d r7.bel) r8.bel
      go_wp2_with fail
      refine (rmod_pos r8.nt (h2.up B8) (by omega) (by omega) (by rw [e2]; omega)).mono ?_
      rintro e w9 ⟨A9, n9, c9, x9, rfl, r9⟩
      rw [v8, e2] at r9
      have v9 := r9.is
      have l9 : n9 ≤ 100 := r9.le (Nat.lt_trans (Nat.mod_lt _ (by omega)) (by rw [← e2]; exact h2.below_pow l2))
      have B9 := bthen B8 r9.bel
      have g9 := g8.up r9.bel
      have g90 := g9.c0
      have g91 := g9.c1
      have g92 := g9.c2
      go_wp2_with fail
      refine (rpow_pos (h3.up B9) (h2.up B9) (h1.up B9) (by omega) (by omega) (by omega) (by rw [e1]; omega)).mono ?_
      rintro e w10 ⟨A10, n10, c10, x10, rfl, r10⟩
      rw [e1, e2, e3] at r10
      have v10 := r10.is
      have l10 : n10 ≤ 100 := r10.le (Nat.lt_trans (Nat.mod_lt _ (by omega)) (by rw [← e1]; exact h1.below_pow l1))
      have B10 := bthen B9 r10.bel
      have m9 := r9.nt.up r10.bel
      have hbt := Rn.rbits_any m9 (by omega)
      rw [v9] at hbt
      rw [hM, show bl 0 = 0 by rfl] at hbt
      have Hbt := Lib.hid hbt
      clear hbt
      go_wp2_with fail
      refine Hbt.out.mono ?_
      rintro e w11 ⟨rfl, b11⟩
      have B11 := bthen B10 b11
      go_wp2_with fail
      refine (rone_any _).mono ?_
      rintro e w12 ⟨A12, n12, c12, x12, rfl, r12⟩
      have v12 := r12.is
      have l12 : n12 ≤ 1 := r12.le (by omega)
      have B12' := bthen B11 r12.bel
      go_wp2_with fail
      refine (rcmp_gt ((r10.nt.up b11).up r12.bel) r12.nt (by omega) (by omega) (by rw [v10, v12]; exact hX)).mono ?_
      rintro e w13 ⟨rfl, b13⟩
      have B13 := bthen B12' b13
      go_wp2_with fail
      go_ret
      exact ⟨rfl, bthen b0 B13⟩
end Go.Proofs.YtkeejhkjbmegkaaGreatDoor
namespace Go.Proofs.YtkeejhkjbmegkaaGreatDoor
open Go.RowKit
set_option linter.unusedVariables false
set_option maxRecDepth 100000

set_option maxHeartbeats 4000000 in
theorem rright_ok1 {w : World} {v : Value} {P Q G : Nat} (h : Pr w v P Q G) (hb1 : bl P ≤ 1024) (hpP : primeN P b12 = true) (hpQ : primeN Q b12 = true) (hG : 1 < G) (hGP : G < P) (hQ2 : 2 ≤ Q) (hM : (P - 1) % Q = 0) (hX : G ^ Q % P = 1) :
    Calls Tryz.prog 61 #[v] w fun e w' => e = .returned (.int .i64 0) ∧ Below w.heap.size w w' := by
  obtain ⟨A1, n1, c1, x1, A2, n2, c2, x2, A3, n3, c3, x3, rfl, h1', e1, l1, h2', e2, l2, h3', e3, l3⟩ := h.ex
  clear h
  obtain ⟨w0, e0⟩ : ∃ w0, w0 = w.alloc (.cells #[Value.slice A1 n1 c1, .slice A2 n2 c2, .slice A3 n3 c3] 40) := ⟨_, rfl⟩
  obtain ⟨hx0, b0⟩ := box_new e0
  have h1 := h1'.up b0
  have h2 := h2'.up b0
  have h3 := h3'.up b0
  clear h1' h2' h3'
  have q0 := hx0.c0
  have q1 := hx0.c1
  have q2 := hx0.c2
  have hb := Rn.rbits_any h1 (by omega)
  rw [e1] at hb
  have Hb := Lib.hid hb
  have hP := fun W A xs (k : Nt W W.heap.size A n1 c1 xs) (e : val 18446744073709551616 xs = P) => rpasses_any k e (by omega)
  have hQ := fun W A xs (k : Nt W W.heap.size A n2 c2 xs) (e : val 18446744073709551616 xs = Q) => rpasses_any k e (by omega)
  rw [hpP] at hP
  rw [hpQ] at hQ
  have HP := Lib.hid hP
  have HQ := Lib.hid hQ
  clear hb hP hQ
  obtain ⟨k, hk⟩ : ∃ k, bl P = k := ⟨_, rfl⟩
  rw [hk] at Hb hb1
  clear hk
  go_enter Tryz.func61, Tryz.ntmps61
  go_wp2_with fail
  rw [← e0]
  clear e0
  refine Hb.out.mono ?_
  rintro e w1 ⟨rfl, b1⟩
  have hx1 := hx0.up b1
  have p0 := hx1.c0
  have p1 := hx1.c1
  have p2 := hx1.c2
  have B1 := b1
  go_wp2_with fail
  refine (HP.out _ _ _ (h1.up B1) e1).mono ?_
  rintro e w2 ⟨rfl, b2⟩
  have B2 := bthen B1 b2
  have hx2 := hx0.up B2
  have r0 := hx2.c0
  have r1 := hx2.c1
  have r2 := hx2.c2
  go_wp2_with fail
  refine (HQ.out _ _ _ (h2.up B2) e2).mono ?_
  rintro e w3 ⟨rfl, b3⟩
  have B3 := bthen B2 b3
  have hx3 := hx0.up B3
  have s0 := hx3.c0
  have s1 := hx3.c1
  have s2 := hx3.c2
  go_wp2_with fail
  have hyd : Bx w3.drew w.heap.size (.slice A1 n1 c1) (.slice A2 n2 c2) (.slice A3 n3 c3) := ⟨hx3.lt, hx3.c0, hx3.c1, hx3.c2⟩
  have bd : Below w3.heap.size w3 w3.drew := (Below.refl _ _).drew
  have B3d := bthen B3 bd
  have z0 := hyd.c0
  have z1 := hyd.c1
  have z2 := hyd.c2
  have h1d := h1.up B3d
  have h3d := h3.up B3d
  go_region_held3 (fun w' => w'.cell? ⟨w.heap.size, 0, none⟩ = some (Value.slice A1 n1 c1) ∧ w'.cell? ⟨w.heap.size, 1, none⟩ = some (Value.slice A2 n2 c2) ∧ w'.cell? ⟨w.heap.size, 2, none⟩ = some (Value.slice A3 n3 c3))
    (first | exact ⟨g6.c0, g6.c1, g6.c2⟩ | exact ⟨g5.c0, g5.c1, g5.c2⟩ | exact ⟨g4.c0, g4.c1, g4.c2⟩ | exact ⟨hyd.c0, hyd.c1, hyd.c2⟩)
    ((first
      | (go_at_call 104; refine (rone_any _).mono ?_; rintro e w4 ⟨A4, n4, c4, x4, rfl, r4⟩
         have g4 := hyd.up r4.bel
         have g40 := g4.c0
         have g41 := g4.c1
         have g42 := g4.c2
         have v4 := r4.is
         have l4 : n4 ≤ 1 := r4.le (by omega))
      | (go_at_call 49; with_reducible refine (rcmp_gt (h3d.up r4.bel) r4.nt (by omega) (by omega) (by rw [e3, v4]; exact hG)).mono ?_; rintro e w5 ⟨rfl, b5⟩
         have g5 := g4.up b5
         have g50 := g5.c0
         have g51 := g5.c1
         have g52 := g5.c2)
      | (go_at_call 49; with_reducible refine (rcmp_lt ((h3d.up r4.bel).up b5) ((h1d.up r4.bel).up b5) (by omega) (by omega) (by rw [e3, e1]; exact hGP)).mono ?_; rintro e w6 ⟨rfl, b6⟩
         have g6 := g5.up b6
         have g60 := g6.c0
         have g61 := g6.c1
         have g62 := g6.c2)))
  all_goals
    have B6 := bthen (bthen (bthen B3d r4.bel) b5) b6
    go_wp2_with fail
    have hyf : Bx w6.drew w.heap.size (.slice A1 n1 c1) (.slice A2 n2 c2) (.slice A3 n3 c3) := ⟨g6.lt, g6.c0, g6.c1, g6.c2⟩
    have bf : Below w6.heap.size w6 w6.drew := (Below.refl _ _).drew
    have B6d := bthen B6 bf
    have y0 := hyf.c0
    have y1 := hyf.c1
    have y2 := hyf.c2
    have h1f := h1.up B6d
    go_region_held3 (fun w' => w'.cell? ⟨w.heap.size, 0, none⟩ = some (Value.slice A1 n1 c1) ∧ w'.cell? ⟨w.heap.size, 1, none⟩ = some (Value.slice A2 n2 c2) ∧ w'.cell? ⟨w.heap.size, 2, none⟩ = some (Value.slice A3 n3 c3))
    (first | exact ⟨g8.c0, g8.c1, g8.c2⟩ | exact ⟨g7.c0, g7.c1, g7.c2⟩ | exact ⟨hyf.c0, hyf.c1, hyf.c2⟩)
    ((first
      | (go_at_call 104; refine (rone_any _).mono ?_; rintro e w7 ⟨A7, n7, c7, x7, rfl, r7⟩
         have g7 := hyf.up r7.bel
         have g70 := g7.c0
         have g71 := g7.c1
         have g72 := g7.c2
         have v7 := r7.is
         have l7 : n7 ≤ 1 := r7.le (by omega))
      | (go_at_call 105; refine (rsub_ok (h1f.up r7.bel) r7.nt (by omega) (by omega) (by rw [e1, v7]; omega)).mono ?_; rintro e w8 ⟨A8, n8, c8, x8, rfl, r8⟩
         rw [e1, v7] at r8
         have v8 := r8.is
         have l8 : n8 ≤ 100 := r8.le (Nat.lt_of_le_of_lt (Nat.sub_le _ _) (by rw [← e1]; exact h1f.below_pow l1))
         have g8 := g7.up r8.bel
         have g80 := g8.c0
         have g81 := g8.c1
         have g82 := g8.c2)))
    all_goals
      have B8 := bthen (bthen B6d r7.bel) r8.bel
      go_wp2_with fail
      refine (rmod_pos r8.nt (h2.up B8) (by omega) (by omega) (by rw [e2]; omega)).mono ?_
      rintro e w9 ⟨A9, n9, c9, x9, rfl, r9⟩
      rw [v8, e2] at r9
      have v9 := r9.is
      have l9 : n9 ≤ 100 := r9.le (Nat.lt_trans (Nat.mod_lt _ (by omega)) (by rw [← e2]; exact h2.below_pow l2))
      have B9 := bthen B8 r9.bel
      have g9 := g8.up r9.bel
      have g90 := g9.c0
      have g91 := g9.c1
      have g92 := g9.c2
      go_wp2_with fail
      refine (rpow_pos (h3.up B9) (h2.up B9) (h1.up B9) (by omega) (by omega) (by omega) (by rw [e1]; omega)).mono ?_
      rintro e w10 ⟨A10, n10, c10, x10, rfl, r10⟩
      rw [e1, e2, e3] at r10
      have v10 := r10.is
      have l10 : n10 ≤ 100 := r10.le (Nat.lt_trans (Nat.mod_lt _ (by omega)) (by rw [← e1]; exact h1.below_pow l1))
      have B10 := bthen B9 r10.bel
      have m9 := r9.nt.up r10.bel
      have hbt := Rn.rbits_any m9 (by omega)
      rw [v9] at hbt
      rw [hM, show bl 0 = 0 by rfl] at hbt
      have Hbt := Lib.hid hbt
      clear hbt
      go_wp2_with fail
      refine Hbt.out.mono ?_
      rintro e w11 ⟨rfl, b11⟩
      have B11 := bthen B10 b11
      go_wp2_with fail
      refine (rone_any _).mono ?_
      rintro e w12 ⟨A12, n12, c12, x12, rfl, r12⟩
      have v12 := r12.is
      have l12 : n12 ≤ 1 := r12.le (by omega)
      have B12' := bthen B11 r12.bel
      go_wp2_with fail
      refine (rcmp_eq ((r10.nt.up b11).up r12.bel) r12.nt (by omega) (by omega) (by rw [v10, v12]; exact hX)).mono ?_
      rintro e w13 ⟨rfl, b13⟩
      have B13 := bthen B12' b13
      go_wp2_with fail
      go_ret
      exact ⟨rfl, bthen b0 B13⟩
end Go.Proofs.YtkeejhkjbmegkaaGreatDoor
namespace Go.Proofs.YtkeejhkjbmegkaaGreatDoor
open Go.RowKit
set_option linter.unusedVariables false
set_option maxRecDepth 100000

theorem rright_bad {w : World} {v : Value} {P Q G : Nat} (h : Pr w v P Q G) (hR : rightN P Q G = false) :
    Calls Tryz.prog 61 #[v] w fun e w' => e = .returned (.int .i64 60) ∧ Below w.heap.size w w' := by
  rw [← rightR_eq] at hR
  unfold rightR at hR
  rw [decide_eq_false_iff_not] at hR
  rcases Nat.lt_or_ge 1024 (bl P) with h1 | h1
  · exact rright_b1 h h1
  cases h2 : primeN P b12
  · exact rright_b2 h h1 h2
  cases h3 : primeN Q b12
  · exact rright_b3 h h1 h2 h3
  rcases Nat.lt_trichotomy 1 G with h4 | h4 | h4
  · rcases Nat.lt_trichotomy G P with h5 | h5 | h5
    · by_cases h6 : (P - 1) % Q = 0
      · rcases Nat.lt_trichotomy (G ^ Q % P) 1 with h7 | h7 | h7
        · exact rright_b9 h h1 h2 h3 h4 h5 (primeN_two h3) h6 h7
        · exact absurd ⟨h1, h2, h3, h4, h5, h6, h7⟩ hR
        · exact rright_b10 h h1 h2 h3 h4 h5 (primeN_two h3) h6 h7
      · exact rright_b8 h h1 h2 h3 h4 h5 (primeN_two h3) h6
    · exact rright_b7 h h1 h2 h3 h4 h5
    · exact rright_b6 h h1 h2 h3 h4 h5
  · exact rright_b5 h h1 h2 h3 h4.symm
  · exact rright_b4 h h1 h2 h3 h4
theorem rright_ok {w : World} {v : Value} {P Q G : Nat} (h : Pr w v P Q G) (hR : rightN P Q G = true) :
    Calls Tryz.prog 61 #[v] w fun e w' => e = .returned (.int .i64 0) ∧ Below w.heap.size w w' := by
  rw [← rightR_eq] at hR
  unfold rightR at hR
  rw [decide_eq_true_iff] at hR
  obtain ⟨h1, h2, h3, h4, h5, h6, h7⟩ := hR
  exact rright_ok1 h h1 h2 h3 h4 h5 (primeN_two h3) h6 h7
end Go.Proofs.YtkeejhkjbmegkaaGreatDoor
namespace Go.Proofs.YtkeejhkjbmegkaaGreatDoor
open Go.RowKit
set_option linter.unusedVariables false
set_option maxRecDepth 100000
set_option exponentiation.threshold 70000

theorem rmarkW {v : Nat} {w : World} {e : Ending} {w' : World} (k : Nat) (hk : bl v ≤ 8 * k) (hk2 : k ≤ 65536) (h : Rn.RWrote v (k : Int) w e w') :
    ∃ A c, e = .returned (.tuple #[.slice A k c, .int .i64 0]) ∧ Nb w' w'.heap.size A k c (bts v k) ∧ Below w.heap.size w w' := by
  rcases h with ⟨h1, _⟩ | ⟨⟨_, _, h1⟩, _⟩ | ⟨_, A, c, he, hn, _, hb⟩
  · omega
  · omega
  · rw [Int.toNat_natCast] at he hn
    exact ⟨A, c, he, hn, hb⟩
set_option maxHeartbeats 2000000 in
theorem rhash_any {w : World} {A : Option Addr} {n c v : Nat} {xs : List Nat} (h : Nt w w.heap.size A n c xs) (ev : val 18446744073709551616 xs = v) (hn : n ≤ 1000) :
    Calls Tryz.prog 65 #[.slice A n c] w fun e w' => ∃ A' c', e = .returned (.slice A' 16 c') ∧ MarkIs v w w' A' c' := by
  have hb := Rn.rbits_any h (by omega)
  have hble : bl v ≤ 64 * n := by
    have hp := h.below_pow (Nat.le_refl n)
    rw [ev, base_pow] at hp
    exact bl_le hp
  rw [ev] at hb
  obtain ⟨k, hke⟩ : ∃ k, (bl v + 7) / 8 = k := ⟨_, rfl⟩
  have hw := fun W (b : Below w.heap.size w W) => (Rn.rwrite_any (h.up b) (by omega) (k : Int) (by omega) (by omega)).mono fun e w' hh => rmarkW k (by rw [ev]; omega) (by omega) hh
  rw [ev] at hw
  have hm : markN v = (Sh.sha (bts v k)).take 16 := by unfold markN; rw [hke]
  unfold MarkIs
  rw [hm]
  have Hb := Lib.hid hb
  have Hw := Lib.hid hw
  have hk64 : k ≤ 8000 := by omega
  have hdiv2 : ((bl v : Int) + 7) / 8 = (k : Int) := by omega
  have hb64 : bl v ≤ 64000 := by omega
  clear hm hw hb hke hble
  generalize bl v = b at *
  go_enter Tryz.func65, Tryz.ntmps65
  go_wp2_with fail
  refine Hb.out.mono ?_
  rintro e w1 ⟨rfl, b1⟩
  go_wp2_with fail
  refine (Hw.out _ b1).mono ?_
  rintro e w2 ⟨A2, c2, rfl, ho, b2⟩
  have ht := Sh.rtrunc_in ho.sh (by omega) 16 (by omega)
  have Ht := Lib.hid ht
  clear ht
  go_wp2_with fail
  refine Ht.out.mono ?_
  rintro e w3 ⟨A3, c3, rfl, hN3, b3⟩
  go_wp2_with fail
  go_ret
  exact ⟨_, _, rfl, hN3, bthen (bthen b1 b2) b3⟩
theorem less_ge {a b n : Nat} (h0 : 0 < n) (h : b % n ≤ a % n) : lessN a b n = a % n - b % n := by
  unfold lessN
  rw [show a % n + n - b % n = (a % n - b % n) + n by omega, Nat.add_mod_right]
  exact Nat.mod_eq_of_lt (by have := Nat.mod_lt a h0; omega)
theorem less_lt {a b n : Nat} (h0 : 0 < n) (h : a % n < b % n) : lessN a b n = a % n + n - b % n := by
  unfold lessN
  exact Nat.mod_eq_of_lt (by have := Nat.mod_lt a h0; have := Nat.mod_lt b h0; omega)
set_option maxHeartbeats 2000000 in
theorem rminus_pos {w : World} {A B C : Option Addr} {na ca nb cb nc cc a b n : Nat} {xs ys zs : List Nat} (ha : Nt w w.heap.size A na ca xs) (hb : Nt w w.heap.size B nb cb ys) (hc : Nt w w.heap.size C nc cc zs)
    (ea : val 18446744073709551616 xs = a) (eb : val 18446744073709551616 ys = b) (en : val 18446744073709551616 zs = n) (hna : na ≤ 1000) (hnb : nb ≤ 1000) (hnc : nc ≤ 100) (h0 : 0 < n) :
    Calls Tryz.prog 74 #[.slice A na ca, .slice B nb cb, .slice C nc cc] w (RetS (lessN a b n) w) := by
  have pn := hc.below_pow hnc
  rw [en] at pn
  have Pn := Lib.hid pn
  have Lg := Lib.hid (less_ge (a := a) (b := b) h0)
  have Ll := Lib.hid (less_lt (a := a) (b := b) h0)
  have la := Nat.mod_lt a h0
  have lb := Nat.mod_lt b h0
  clear pn
  go_enter Tryz.func74, Tryz.ntmps74
  go_wp2_with fail
  refine (rmod_pos ha hc (by omega) (by omega) (by rw [en]; exact h0)).mono ?_
  rintro e w1 ⟨A1, n1, c1, x1, rfl, r1⟩
  rw [ea, en] at r1
  have v1 := r1.is
  have l1 : n1 ≤ 100 := r1.le (Nat.lt_trans la Pn.out)
  have B1 := r1.bel
  go_wp2_with fail
  refine (rmod_pos (hb.up B1) (hc.up B1) (by omega) (by omega) (by rw [en]; exact h0)).mono ?_
  rintro e w2 ⟨A2, n2, c2, x2, rfl, r2⟩
  rw [eb, en] at r2
  have v2 := r2.is
  have l2 : n2 ≤ 100 := r2.le (Nat.lt_trans lb Pn.out)
  have B2 := bthen B1 r2.bel
  have m1 := r1.nt.up r2.bel
  go_wp2_with fail
  generalize a % n = x at *
  generalize b % n = y at *
  rcases Nat.lt_or_ge x y with hlt | hge
  · refine (rsub_no m1 r2.nt (by omega) (by omega) (by rw [v1, v2]; exact hlt)).mono ?_
    rintro e w3 ⟨rfl, b3⟩
    have B3 := bthen B2 b3
    go_wp2_with fail
    refine (Rn.radd_any (m1.up b3) (hc.up B3) (by omega) (by omega)).mono ?_
    intro e w4 hr
    obtain ⟨A4, n4, c4, x4, rfl, r4⟩ := hr.s
    rw [v1, en] at r4
    have v4 := r4.is
    have l4 : n4 ≤ 101 := r4.le (add_pow (i := 100) (Nat.lt_trans la Pn.out) Pn.out)
    have B4 := bthen B3 r4.bel
    go_wp2_with fail
    refine (rsub_ok r4.nt ((r2.nt.up b3).up r4.bel) (by omega) (by omega) (by rw [v4, v2]; omega)).mono ?_
    rintro e w5 ⟨A5, n5, c5, x5, rfl, r5⟩
    rw [v4, v2] at r5
    have B5 := bthen B4 r5.bel
    go_wp2_with fail
    go_ret
    rw [Ll.out hlt]
    exact ⟨_, _, _, _, rfl, r5.nt, r5.trm, r5.is, B5⟩
  · refine (rsub_ok m1 r2.nt (by omega) (by omega) (by rw [v1, v2]; exact hge)).mono ?_
    rintro e w3 ⟨A3, n3, c3, x3, rfl, r3⟩
    rw [v1, v2] at r3
    have B3 := bthen B2 r3.bel
    go_wp2_with fail
    go_ret
    rw [Lg.out hge]
    exact ⟨_, _, _, _, rfl, r3.nt, r3.trm, r3.is, B3⟩
end Go.Proofs.YtkeejhkjbmegkaaGreatDoor
namespace Go.Proofs.YtkeejhkjbmegkaaGreatDoor
open Go.RowKit
set_option linter.unusedVariables false
set_option maxRecDepth 100000
set_option exponentiation.threshold 70000

theorem rwroteW {v : Nat} {w : World} {e : Ending} {w' : World} (k : Nat) (hk : bl v ≤ 8 * k) (hk2 : k ≤ 65536) (h : Rn.RWrote v (k : Int) w e w') :
    ∃ A c, e = .returned (.tuple #[.slice A k c, .int .i64 0]) ∧ Nb w' w'.heap.size A k c (bts v k) ∧ (A = none ∧ k = 0 ∨ ∃ b, A = some ⟨b, 0, none⟩) ∧ Below w.heap.size w w' := by
  rcases h with ⟨h1, _⟩ | ⟨⟨_, _, h1⟩, _⟩ | ⟨_, A, c, he, hn, hA, hb⟩
  · omega
  · omega
  · rw [Int.toNat_natCast] at he hn hA
    exact ⟨A, c, he, hn, hA, hb⟩
/-- a new block of two bytes -/
theorem two_nb (w : World) (x y : Nat) (hx : x < 256) (hy : y < 256) : Sh.Nb (w.alloc (.cells #[.int .u8 (x : Int), .int .u8 (y : Int)] 5)) (w.alloc (.cells #[.int .u8 (x : Int), .int .u8 (y : Int)] 5)).heap.size (some ⟨w.heap.size, 0, none⟩) 2 2 [x, y] := by
  refine ⟨rfl, Nat.le_refl _, by omega, fun z hz => by simp at hz; omega, fun _ => ⟨w.heap.size, 0, rfl, by simp, fun j z hj => ?_⟩⟩
  rw [cell_of_row _ _ _ #[.int .u8 (x : Int), .int .u8 (y : Int)] 5 (0, 0) (heap_alloc_new w _)]
  rcases j with _ | _ | j
  · simp at hj; subst hj; rfl
  · simp at hj; subst hj; rfl
  · simp at hj
set_option maxHeartbeats 4000000 in
theorem rwork_any {w : World} {v : Value} {N E D s : Nat} (h : Pr w v N E D) (hN0 : 0 < N) (hs : (bl N + 7) / 8 = s) (hs2 : s ≤ 500) {A : Option Addr} {n c pw : Nat} {xs : List Nat} (hp : Nt w w.heap.size A n c xs) (ep : val 18446744073709551616 xs = pw) (lp : n ≤ 100)
    {A4 : Option Addr} {m c4 : Nat} {bs : List Nat} (hb : Nb w w.heap.size A4 m c4 bs) (hm : m ≤ 1000) :
    Calls Tryz.prog 43 #[v, .slice A4 m c4, .slice A n c] w fun e w' => ∃ A5 c5, e = .returned (.slice A5 s c5) ∧ Nb w' w'.heap.size A5 s c5 (bts (val 256 bs.reverse ^ pw % N) s) ∧ (A5 = none ∧ s = 0 ∨ ∃ b, A5 = some ⟨b, 0, none⟩) ∧ Below w.heap.size w w' := by
  have Hsz := Lib.hid (fun W (k : Pr W v N E D) => rSize_any k)
  have Hh := Lib.hid h
  obtain ⟨A1, n1, c1, x1, A2, n2, c2, x2, A3, n3, c3, x3, rfl, h1', e1, l1, h2', e2, l2, h3', e3, l3⟩ := h.ex
  clear h
  obtain ⟨w0, e0⟩ : ∃ w0, w0 = w.alloc (.cells #[Value.slice A1 n1 c1, .slice A2 n2 c2, .slice A3 n3 c3] 24) := ⟨_, rfl⟩
  obtain ⟨hx0, b0⟩ := box_new e0
  have h1 := h1'.up b0
  have h2 := h2'.up b0
  have h3 := h3'.up b0
  clear h1' h2' h3'
  have q0 := hx0.c0
  have q1 := hx0.c1
  have q2 := hx0.c2
  have gb := hb.up b0
  have gp := hp.up b0
  have hblN : bl N ≤ 8 * s := by omega
  have HblN := Lib.hid hblN
  have Hs := Lib.hid hs
  have pN := h1.below_pow l1
  rw [e1] at pN
  have PN := Lib.hid pN
  have hvb : val 256 bs.reverse < 18446744073709551616 ^ 1000 := by
    have h1 := val_lt (β := 256) (xs := bs.reverse) (fun y hy => hb.lim y (List.mem_reverse.1 hy))
    rw [List.length_reverse, hb.len] at h1
    refine Nat.lt_of_lt_of_le h1 ?_
    rw [show (256 : Nat) = 2 ^ 8 by rfl, show (18446744073709551616 : Nat) = 2 ^ 64 by rfl, ← Nat.pow_mul, ← Nat.pow_mul]
    exact Nat.pow_le_pow_right (by omega) (by omega)
  have Hvb := Lib.hid hvb
  have hltN : val 256 bs.reverse ^ pw % N < N := Nat.mod_lt _ hN0
  obtain ⟨X, hX⟩ : ∃ X, val 256 bs.reverse ^ pw % N = X := ⟨_, rfl⟩
  rw [hX] at hltN ⊢
  have hblX : bl X ≤ 8 * s := Nat.le_trans (bl_le (Nat.lt_trans hltN (lt_bl N))) hblN
  have HX := Lib.hid hX
  clear hs hblN pN hvb hX
  go_enter Tryz.func43, Tryz.ntmps43
  go_wp2_with fail
  rw [← e0]
  clear e0
  have hyd : Bx w0.drew w.heap.size (.slice A1 n1 c1) (.slice A2 n2 c2) (.slice A3 n3 c3) := ⟨hx0.lt, hx0.c0, hx0.c1, hx0.c2⟩
  have bd : Below w0.heap.size w0 w0.drew := (Below.refl _ _).drew
  have z0 := hyd.c0
  have z1 := hyd.c1
  have z2 := hyd.c2
  have gbd := gb.up bd
  have gpd := gp.up bd
  have h1d := h1.up bd
  go_region_held3 (fun w' => w'.cell? ⟨w.heap.size, 0, none⟩ = some (Value.slice A1 n1 c1) ∧ w'.cell? ⟨w.heap.size, 1, none⟩ = some (Value.slice A2 n2 c2) ∧ w'.cell? ⟨w.heap.size, 2, none⟩ = some (Value.slice A3 n3 c3))
    (first | exact ⟨g4.c0, g4.c1, g4.c2⟩ | exact ⟨g3.c0, g3.c1, g3.c2⟩ | exact ⟨hyd.c0, hyd.c1, hyd.c2⟩)
    ((first
      | (go_at_call 50; refine (Rn.rread_any gbd (by omega)).mono ?_; intro e w3 hr3; obtain ⟨A6, n6, c6, x6, rfl, r6⟩ := hr3.s
         have v6 := r6.is
         have l6 : n6 ≤ 1000 := r6.le Hvb.out
         have g3 := hyd.up r6.bel)
      | (go_at_call 62; refine (rpow_pos r6.nt (gpd.up r6.bel) (h1d.up r6.bel) (by omega) (by omega) (by omega) (by rw [e1]; omega)).mono ?_; rintro e w4 ⟨A7, n7, c7, x7, rfl, r7⟩
         rw [v6, ep, e1] at r7
         have v7 := r7.is
         have l7 : n7 ≤ 100 := r7.le (Nat.lt_trans (Nat.mod_lt _ (by omega)) PN.out)
         have g4 := g3.up r7.bel)))
  all_goals
    have B4 := bthen (bthen bd r6.bel) r7.bel
    have k0 := g4.c0
    have k1 := g4.c1
    have k2 := g4.c2
    rw [HX.out] at v7
    have hblX : bl X ≤ 8 * s := Nat.le_trans (bl_le (Nat.lt_trans hltN (lt_bl N))) HblN.out
    go_wp2_with fail
    have hz := Hsz.out _ ((Hh.out.up b0).up B4)
    rw [Hs.out] at hz
    refine hz.mono ?_
    rintro e w5 ⟨rfl, b5⟩
    have m7 := r7.nt.up b5
    have hwt := (Rn.rwrite_any m7 (by omega) (s : Int) (by omega) (by omega)).mono fun e w' hh => rwroteW s (by rw [v7]; exact hblX) (by omega) hh
    rw [v7] at hwt
    have Hwt := Lib.hid hwt
    clear hwt
    go_wp2_with fail
    refine Hwt.out.mono ?_
    rintro e w6 ⟨A8, c8, rfl, m8, hA8, b6⟩
    go_wp2_with fail
    go_ret
    exact ⟨_, _, rfl, m8, hA8, bthen b0 (bthen (bthen B4 b5) b6)⟩
def slLen : Value → Nat | .slice _ n _ => n | _ => 0
theorem signN_eq {s : Nat} {xs : List Nat} : signN s xs = (0 :: 1 :: List.replicate (s - 19) 255) ++ [0] ++ (Sh.sha xs).take 16 := by
  simp [signN, frameN]
set_option maxHeartbeats 4000000 in
theorem rsigned_any {w : World} {s : Nat} (hs1 : 27 ≤ s) (hs2 : s ≤ 500) {A : Option Addr} {n c : Nat} {xs : List Nat} (hx : Sh.Nb w w.heap.size A n c xs) (hn : n ≤ 1000) :
    Calls Tryz.prog 44 #[.int .i64 (s : Int), .slice A n c] w fun e w' => ∃ A5 c5, e = .returned (.slice A5 s c5) ∧ Sh.Nb w' w'.heap.size A5 s c5 (signN s xs) ∧ Below w.heap.size w w' := by
  have ht := Sh.rtrunc_in hx (by omega) 16 (by omega)
  have Ht := Lib.hid ht
  have hl32 := Sh.length_sha xs
  have hL16 : Lim 256 ((Sh.sha xs).take 16) := fun y hy => Sh.sha_lim xs y (List.mem_of_mem_take hy)
  have hsg := signN_eq (s := s) (xs := xs)
  obtain ⟨T, hT⟩ : ∃ T, (Sh.sha xs).take 16 = T := ⟨_, rfl⟩
  rw [hT] at Ht hsg hL16
  have lT : T.length = 16 := by rw [← hT, List.length_take, hl32]; rfl
  have Hsg := Lib.hid hsg
  have HL := Lib.hid hL16
  have LT := Lib.hid lT
  clear ht hl32 hsg hT hL16 lT
  go_enter Tryz.func44, Tryz.ntmps44
  go_wp2_with fail
  refine Ht.out.mono ?_
  rintro e w1 ⟨A1, c1, rfl, m1, b1⟩
  have hG0 := Sh.Gb.nil (w1.alloc (.cells #[.int .u8 ((0 : Nat) : Int), .int .u8 ((1 : Nat) : Int)] 5)) w1.heap.size
  have hB0 : Below w1.heap.size w1 (w1.alloc (.cells #[.int .u8 ((0 : Nat) : Int), .int .u8 ((1 : Nat) : Int)] 5)) := (Below.refl _ _).alloc (Nat.le_refl _) _
  have h2 := two_nb w1 0 1 (by omega) (by omega)
  go_wp2_with (refine Sh.wpList_app_row_b _ rfl (.tmp 13) (.tmp 14) rfl rfl hG0 rfl h2 (by omega) hB0 (by simp) ?_; intro A2 c2 w2 hG2 hB2)
  have hG2 : Sh.Gb w2 w1.heap.size A2 2 c2 (0 :: 1 :: List.replicate 0 255) := by simpa using hG2
  have HG2 := Lib.hid hG2
  have HB2 := Lib.hid hB2
  have HM1 := Lib.hid m1
  have HB1 := Lib.hid b1
  clear hG2 hB2 m1 b1 hG0 hB0 h2
  go_loopw [7] (fun v wr => ∃ j : Nat, j + 19 ≤ s ∧ ∃ A3 c3, v = .slice A3 (2 + j) c3 ∧ Hid (Sh.Gb wr w1.heap.size A3 (2 + j) c3 (0 :: 1 :: List.replicate j 255)) ∧ Hid (Below w1.heap.size w1 wr)) (fun v _ => s - slLen v)
  case atStart => exact ⟨0, by omega, _, _, rfl, HG2, HB2⟩
  case round =>
    clear HG2 HB2
    obtain ⟨j, hj, A3, c3, rfl, HG, HB⟩ := hrel
    by_cases hlt : j + 19 < s
    · have hG' := HG.out.alloc (.cells #[.int .u8 255] 5)
      have hs' := HB.out.size
      have hB' := HB.out.alloc hs' (.cells #[.int .u8 255] 5)
      have hcn := Sh.cell_new wr (.int .u8 255) 5
      go_wp2_with (refine Sh.wpList_app_b _ rfl (.tmp 21) (.tmp 22) rfl (y := 255) rfl hG' rfl hcn (by omega) hB' (by simp; omega) ?_; intro A7 c7 w7 hG7 hB7)
      go_roundw
      case rel => exact ⟨j + 1, by omega, _, _, rfl, Lib.hid (by have e : (0 :: 1 :: List.replicate (j + 1) 255 : List Nat) = (0 :: 1 :: List.replicate j 255) ++ [255] := by simp [List.replicate_succ']
                                                                 rw [e]; exact hG7), Lib.hid hB7⟩
      case measure => simp [slLen]; omega
    · have HE : Hid (j = s - 19) := Lib.hid (by omega)
      have hG' := HG.out.alloc (.cells #[.int .u8 0] 5)
      have hs' := HB.out.size
      have hB' := HB.out.alloc hs' (.cells #[.int .u8 0] 5)
      have hcn := Sh.cell_new wr (.int .u8 0) 5
      go_wp2_with (first
        | (refine Sh.wpList_app_b _ rfl (.tmp 24) (.tmp 25) rfl (y := 0) rfl hG' rfl hcn (by omega) hB' (by simp; omega) ?_; intro A7 c7 w7 hG7 hB7
           have hM7 := HM1.out.go hB7
           have hs7 := hB7.size)
        | (refine Sh.wpList_app_row_b _ rfl (.tmp 27) (.tmp 28) rfl rfl hG7 rfl hM7 (by omega) hB7 hs7 ?_; intro A8 c8 w8 hG8 hB8))
      go_ret
      have hn : 2 + j + 1 + 16 = s := by have := HE.out; omega
      have el : 0 :: 1 :: List.replicate j 255 ++ [0] ++ T = signN s xs := by rw [Hsg.out, HE.out]
      rw [el] at hG8
      refine ⟨A8, c8, by rw [hn]; rfl, ?_, bthen HB1.out hB8⟩
      rw [hn] at hG8
      exact hG8.nb (lim_signN s xs)
end Go.Proofs.YtkeejhkjbmegkaaGreatDoor
namespace Go.Proofs.YtkeejhkjbmegkaaGreatDoor
open Go.RowKit
set_option linter.unusedVariables false
set_option maxRecDepth 100000
set_option exponentiation.threshold 70000

theorem nb_of_sh {w : World} {B n c : Nat} {A : Option Addr} {xs : List Nat} (h : Sh.Nb w B A n c xs) : Nb w B A n c xs := ⟨h.len, h.cap, h.room, h.lim, h.cell⟩
set_option maxHeartbeats 4000000 in
theorem rsign_bad {w : World} {v : Value} {N E D s : Nat} (h : Pr w v N E D) {A : Option Addr} {n c : Nat} {xs : List Nat} (hx : Sh.Nb w w.heap.size A n c xs) (hn : n ≤ 1000) (hS : secK N E D = false) :
    Calls Tryz.prog 11 #[v, .slice A n c] w (RetPad 50 w) := by
  have HS := Lib.hid hS
  clear hS
  have Hh := Lib.hid h
  obtain ⟨A1, n1, c1, x1, A2, n2, c2, x2, A3, n3, c3, x3, rfl, h1', e1, l1, h2', e2, l2, h3', e3, l3⟩ := h.ex
  clear h
  obtain ⟨w0, e0⟩ : ∃ w0, w0 = w.alloc (.cells #[Value.slice A1 n1 c1, .slice A2 n2 c2, .slice A3 n3 c3] 24) := ⟨_, rfl⟩
  obtain ⟨hx0, b0⟩ := box_new e0
  have h1 := h1'.up b0
  have h2 := h2'.up b0
  have h3 := h3'.up b0
  clear h1' h2' h3'
  have q0 := hx0.c0
  have q1 := hx0.c1
  have q2 := hx0.c2
  have gx := hx.go b0
  go_enter Tryz.func11, Tryz.ntmps11
  go_wp2_with fail
  rw [← e0]
  clear e0
  refine (rsecret_any (Hh.out.up b0)).mono ?_
  rintro e w1 ⟨rfl, b1⟩
  rw [HS.out]
  have hx1 := hx0.up b1
  have p0 := hx1.c0
  have p1 := hx1.c1
  have p2 := hx1.c2
  go_wp2_with fail
  go_ret2
  exact ⟨rfl, bthen b0 b1⟩
set_option maxHeartbeats 4000000 in
theorem rsign_pad {w : World} {v : Value} {N E D s : Nat} (h : Pr w v N E D) {A : Option Addr} {n c : Nat} {xs : List Nat} (hx : Sh.Nb w w.heap.size A n c xs) (hn : n ≤ 1000) (hS : secK N E D = true) (hs : (bl N + 7) / 8 = s) (h27 : s < 27) :
    Calls Tryz.prog 11 #[v, .slice A n c] w (RetPad 51 w) := by
  have HS := Lib.hid hS
  have hRk : rightK N E D = true := by unfold secK at hS; rw [Bool.and_eq_true] at hS; exact hS.1
  have hs2 : s ≤ 128 := by have := rightK_pos hRk; omega
  have hN0 : 0 < N := (rightK_pos hRk).1
  have Hs := Lib.hid hs
  clear hS hs hRk
  have Hh := Lib.hid h
  obtain ⟨A1, n1, c1, x1, A2, n2, c2, x2, A3, n3, c3, x3, rfl, h1', e1, l1, h2', e2, l2, h3', e3, l3⟩ := h.ex
  clear h
  obtain ⟨w0, e0⟩ : ∃ w0, w0 = w.alloc (.cells #[Value.slice A1 n1 c1, .slice A2 n2 c2, .slice A3 n3 c3] 24) := ⟨_, rfl⟩
  obtain ⟨hx0, b0⟩ := box_new e0
  have h1 := h1'.up b0
  have h2 := h2'.up b0
  have h3 := h3'.up b0
  clear h1' h2' h3'
  have q0 := hx0.c0
  have q1 := hx0.c1
  have q2 := hx0.c2
  have gx := hx.go b0
  go_enter Tryz.func11, Tryz.ntmps11
  go_wp2_with fail
  rw [← e0]
  clear e0
  refine (rsecret_any (Hh.out.up b0)).mono ?_
  rintro e w1 ⟨rfl, b1⟩
  rw [HS.out]
  have hx1 := hx0.up b1
  have p0 := hx1.c0
  have p1 := hx1.c1
  have p2 := hx1.c2
  have hz1 := rSize_any ((Hh.out.up b0).up b1)
  rw [Hs.out] at hz1
  have Hz1 := Lib.hid hz1
  clear hz1
  go_wp2_with fail
  refine Hz1.out.mono ?_
  rintro e w2 ⟨rfl, b2⟩
  have B2 := bthen b1 b2
  have hx2 := hx0.up B2
  have r0 := hx2.c0
  have r1 := hx2.c1
  have r2 := hx2.c2
  go_wp2_with fail
  go_ret2
  exact ⟨rfl, bthen b0 B2⟩
set_option maxHeartbeats 4000000 in
theorem rsign_ok {w : World} {v : Value} {N E D s : Nat} (h : Pr w v N E D) {A : Option Addr} {n c : Nat} {xs : List Nat} (hx : Sh.Nb w w.heap.size A n c xs) (hn : n ≤ 1000) (hS : secK N E D = true) (hs : (bl N + 7) / 8 = s) (h27 : 27 ≤ s) :
    Calls Tryz.prog 11 #[v, .slice A n c] w fun e w' => ∃ A5 c5, e = .returned (.tuple #[.slice A5 s c5, .int .i64 0]) ∧ Sh.Nb w' w'.heap.size A5 s c5 (bts (val 256 (signN s xs).reverse ^ D % N) s) ∧ Below w.heap.size w w' := by
  have HS := Lib.hid hS
  have hRk : rightK N E D = true := by unfold secK at hS; rw [Bool.and_eq_true] at hS; exact hS.1
  have hs2 : s ≤ 128 := by have := rightK_pos hRk; omega
  have hN0 : 0 < N := (rightK_pos hRk).1
  have hwk := fun W (k : Pr W v N E D) {A n c pw xs} (kp : Nt W W.heap.size A n c xs) (ep : val 18446744073709551616 xs = pw) (lp : n ≤ 100) {A4 m c4 bs} (kb : Nb W W.heap.size A4 m c4 bs) (km : m ≤ 1000) => rwork_any k hN0 hs (by omega) kp ep lp kb km
  have Hwk := Lib.hid hwk
  have Hs := Lib.hid hs
  clear hS hs hRk hwk
  have Hh := Lib.hid h
  obtain ⟨A1, n1, c1, x1, A2, n2, c2, x2, A3, n3, c3, x3, rfl, h1', e1, l1, h2', e2, l2, h3', e3, l3⟩ := h.ex
  clear h
  obtain ⟨w0, e0⟩ : ∃ w0, w0 = w.alloc (.cells #[Value.slice A1 n1 c1, .slice A2 n2 c2, .slice A3 n3 c3] 24) := ⟨_, rfl⟩
  obtain ⟨hx0, b0⟩ := box_new e0
  have h1 := h1'.up b0
  have h2 := h2'.up b0
  have h3 := h3'.up b0
  clear h1' h2' h3'
  have q0 := hx0.c0
  have q1 := hx0.c1
  have q2 := hx0.c2
  have gx := hx.go b0
  go_enter Tryz.func11, Tryz.ntmps11
  go_wp2_with fail
  rw [← e0]
  clear e0
  refine (rsecret_any (Hh.out.up b0)).mono ?_
  rintro e w1 ⟨rfl, b1⟩
  rw [HS.out]
  have hx1 := hx0.up b1
  have p0 := hx1.c0
  have p1 := hx1.c1
  have p2 := hx1.c2
  have hz1 := rSize_any ((Hh.out.up b0).up b1)
  rw [Hs.out] at hz1
  have Hz1 := Lib.hid hz1
  clear hz1
  go_wp2_with fail
  refine Hz1.out.mono ?_
  rintro e w2 ⟨rfl, b2⟩
  have B2 := bthen b1 b2
  have hx2 := hx0.up B2
  have r0 := hx2.c0
  have r1 := hx2.c1
  have r2 := hx2.c2
  go_wp2_with fail
  have hyd : Bx w2.drew w.heap.size (.slice A1 n1 c1) (.slice A2 n2 c2) (.slice A3 n3 c3) := ⟨(hx0.up B2).lt, (hx0.up B2).c0, (hx0.up B2).c1, (hx0.up B2).c2⟩
  have bd : Below w2.heap.size w2 w2.drew := (Below.refl _ _).drew
  have B2d := bthen B2 bd
  have z0 := hyd.c0
  have z1 := hyd.c1
  have z2 := hyd.c2
  have gx2 := gx.go B2d
  have p2 := (Hh.out.up b0).up B2d
  have h3d := h3.up B2d
  have h1000 : s ≤ 1000 := by omega
  have Hall := Lib.hid (fun (W : World) (A6 : Option Addr) (c6 : Nat) (b : Below w2.drew.heap.size w2.drew W) (q : Sh.Nb W W.heap.size A6 s c6 (signN s xs)) => Hwk.out W (p2.up b) (h3d.up b) e3 l3 (nb_of_sh q) h1000)
  have hzd := rSize_any p2
  rw [Hs.out] at hzd
  have Hzd := Lib.hid hzd
  clear hzd
  first
   | (go_region_with ((first
      | (go_at_call 42; refine Hzd.out.mono ?_; rintro e w3 ⟨rfl, b3⟩
         have g3 := hyd.up b3
         have g30 := g3.c0
         have g31 := g3.c1
         have g32 := g3.c2)
      | (go_at_call 44; refine (rsigned_any h27 (by omega) (gx2.go b3) (by omega)).mono ?_; rintro e w4 ⟨A6, c6, rfl, m6, b4⟩
         have g4 := g3.up b4
         have g40 := g4.c0
         have g41 := g4.c1
         have g42 := g4.c2)
      | (go_at_call 43; have b34 := bthen b3 b4; refine (Hall.out _ _ _ b34 m6).mono ?_; rintro e w5 ⟨A7, c7, rfl, m7, _, b5⟩))))
   | fail
  all_goals
    have B5 := bthen (bthen (bthen B2d b3) b4) b5
    go_wp2_with fail
    go_ret2
    exact ⟨_, _, rfl, m7.sh, bthen b0 B5⟩
set_option maxHeartbeats 4000000 in
theorem sign_bad {w : World} {v : Value} {N E D s : Nat} (h : Pr w v N E D) {A : Option Addr} {n c : Nat} {xs : List Nat} (hx : Sh.Nb w w.heap.size A n c xs) (hn : n ≤ 1000) (hS : secK N E D = false) :
    Calls Tryz.prog 10 #[v, .slice A n c] w (RetPad 50 w) := by
  have HS := Lib.hid hS
  clear hS
  have Hh := Lib.hid h
  obtain ⟨A1, n1, c1, x1, A2, n2, c2, x2, A3, n3, c3, x3, rfl, h1', e1, l1, h2', e2, l2, h3', e3, l3⟩ := h.ex
  clear h
  obtain ⟨w0, e0⟩ : ∃ w0, w0 = w.alloc (.cells #[Value.slice A1 n1 c1, .slice A2 n2 c2, .slice A3 n3 c3] 24) := ⟨_, rfl⟩
  obtain ⟨hx0, b0⟩ := box_new e0
  have h1 := h1'.up b0
  have h2 := h2'.up b0
  have h3 := h3'.up b0
  clear h1' h2' h3'
  have q0 := hx0.c0
  have q1 := hx0.c1
  have q2 := hx0.c2
  go_enter Tryz.func10, Tryz.ntmps10
  go_wp2_with fail
  rw [← e0]
  clear e0
  refine (secK_bad (Hh.out.up b0) HS.out).mono ?_
  rintro e w1 ⟨rfl, b1⟩
  go_wp2_with fail
  go_ret2
  exact ⟨rfl, bthen b0 b1⟩
set_option maxHeartbeats 4000000 in
theorem sign_pad {w : World} {v : Value} {N E D s : Nat} (h : Pr w v N E D) {A : Option Addr} {n c : Nat} {xs : List Nat} (hx : Sh.Nb w w.heap.size A n c xs) (hn : n ≤ 1000) (hS : secK N E D = true) (hs : (bl N + 7) / 8 = s) (h27 : s < 27) :
    Calls Tryz.prog 10 #[v, .slice A n c] w (RetPad 51 w) := by
  have HS := Lib.hid hS
  have hRk : rightK N E D = true := by unfold secK at hS; rw [Bool.and_eq_true] at hS; exact hS.1
  have hs2 : s ≤ 128 := by have := rightK_pos hRk; omega
  have hN0 : 0 < N := (rightK_pos hRk).1
  have Hs := Lib.hid hs
  clear hS hs hRk
  have Hh := Lib.hid h
  obtain ⟨A1, n1, c1, x1, A2, n2, c2, x2, A3, n3, c3, x3, rfl, h1', e1, l1, h2', e2, l2, h3', e3, l3⟩ := h.ex
  clear h
  obtain ⟨w0, e0⟩ : ∃ w0, w0 = w.alloc (.cells #[Value.slice A1 n1 c1, .slice A2 n2 c2, .slice A3 n3 c3] 24) := ⟨_, rfl⟩
  obtain ⟨hx0, b0⟩ := box_new e0
  have h1 := h1'.up b0
  have h2 := h2'.up b0
  have h3 := h3'.up b0
  clear h1' h2' h3'
  have q0 := hx0.c0
  have q1 := hx0.c1
  have q2 := hx0.c2
  go_enter Tryz.func10, Tryz.ntmps10
  go_wp2_with fail
  rw [← e0]
  clear e0
  refine (secK_ok (Hh.out.up b0) HS.out).mono ?_
  rintro e w1 ⟨rfl, b1⟩
  have hx1 := hx0.up b1
  have p0 := hx1.c0
  have p1 := hx1.c1
  have p2 := hx1.c2
  have hz1 := size_any ((Hh.out.up b0).up b1)
  rw [Hs.out] at hz1
  have Hz1 := Lib.hid hz1
  clear hz1
  go_wp2_with fail
  refine Hz1.out.mono ?_
  rintro e w2 ⟨rfl, b2⟩
  have B2 := bthen b1 b2
  have hx2 := hx0.up B2
  have r0 := hx2.c0
  have r1 := hx2.c1
  have r2 := hx2.c2
  go_wp2_with fail
  go_ret2
  exact ⟨rfl, bthen b0 B2⟩
theorem sign_any {w : World} (hk : Sh.Ks w) {v : Value} {N E D s : Nat} (h : Pr w v N E D) {A : Option Addr} {n c : Nat} {xs : List Nat} (hx : Sh.Nb w w.heap.size A n c xs) (hn : n ≤ 1000) (hS : secK N E D = true) (hs : (bl N + 7) / 8 = s) (h27 : 27 ≤ s) :
    Calls Tryz.prog 10 #[v, .slice A n c] w fun e w' => ∃ A5 c5, e = .returned (.tuple #[.slice A5 s c5, .int .i64 0]) ∧ Sh.Nb w' w'.heap.size A5 s c5 (bts (val 256 (signN s xs).reverse ^ D % N) s) ∧ Below w.heap.size w w' := by
  unfold secK rightK at hS
  rw [Bool.and_eq_true, decide_eq_true_iff, decide_eq_true_iff] at hS
  obtain ⟨⟨f1, f2, f3, f4, f5, f6, f7⟩, f8⟩ := hS
  refine (sign_ok hk h f1 f2 f3 f4 f5 f6 f7 f8 hs h27 hx hn).mono ?_
  rintro e w' ⟨g, rfl, hg, ho, hb⟩
  exact ⟨_, _, rfl, (ho.nb (length_bts _ _) (show s ≤ maxLen by unfold maxLen; omega) (lim_bts _ _)).sh, hb⟩
end Go.Proofs.YtkeejhkjbmegkaaGreatDoor
namespace Go.Proofs.YtkeejhkjbmegkaaGreatDoor
open Go.RowKit
set_option linter.unusedVariables false
set_option maxRecDepth 100000

set_option maxHeartbeats 4000000 in
theorem make_twice {w : World} {Ap Aq : Option Addr} {np cp nq cq p : Nat} {xp xq : List Nat} (hp : Nt w w.heap.size Ap np cp xp) (hq : Nt w w.heap.size Aq nq cq xq) (ep : val 18446744073709551616 xp = p) (eq : val 18446744073709551616 xq = p)
    (lp : np ≤ 20) (lq : nq ≤ 20) (e : Nat) (bp : bl p ≤ 512) (pp : primeN p b12 = true) :
    Calls Tryz.prog 35 #[.slice Ap np cp, .slice Aq nq cq, .int .u64 (e : Int)] w fun r w' => r = .returned (.tuple #[.agg #[.slice none 0 0, .slice none 0 0, .slice none 0 0], .int .i64 50]) ∧ Below w.heap.size w w' := by
  have Pp := Lib.hid pp
  have Bp := Lib.hid bp
  clear pp bp
  obtain ⟨w0, e0⟩ : ∃ w0, w0 = w.alloc (.cells #[Value.slice none 0 0, .slice none 0 0, .slice none 0 0] 24) := ⟨_, rfl⟩
  have hx0 : w0.heap[w.heap.size]? = some (.cells #[Value.slice none 0 0, .slice none 0 0, .slice none 0 0] 24 (0, 0)) := e0 ▸ heap_alloc_new w _
  have hs0 : w.heap.size < w0.heap.size := by rw [e0]; simp
  have b0 : Below w.heap.size w w0 := e0 ▸ (Below.refl _ w).alloc (Nat.le_refl _) _
  have hp := hp.up b0
  have hq := hq.up b0
  go_enter Tryz.func35, Tryz.ntmps35
  go_wp2_with fail
  rw [← e0]
  clear e0
  refine (mayPrime_yes hp ep (by omega) Bp.out Pp.out).mono ?_
  rintro r w1 ⟨rfl, b1⟩
  go_wp2_with fail
  refine (mayPrime_yes (hq.up b1) eq (by omega) Bp.out Pp.out).mono ?_
  rintro r w2 ⟨rfl, b2⟩
  have B2 := bthen b1 b2
  go_wp2_with fail
  refine (cmp_eq (hp.up B2) (hq.up B2) (by rw [ep, eq])).mono ?_
  rintro r w3 ⟨rfl, d3, rfl⟩
  have B3 := bdr B2 d3
  have hx := (B3.block w.heap.size hs0).trans hx0
  obtain ⟨q0, q1, q2, q3, q4, q5⟩ := three_cells hx
  go_wp2_with fail
  have hg2 := three_fin (v1 := .slice none 0 0) (v2 := .slice none 0 0) (v3 := .slice none 0 0) ((show (w2.drewN d3).heap[w.heap.size]? = _ from hx))
  refine bodyPost_ret (v := .tuple #[.agg #[.slice none 0 0, .slice none 0 0, .slice none 0 0], .int .i64 50]) (by rw [results_cell_tmp rfl]; simp [asAddr, run_loadVar_row _ w.heap.size 24 24 _ (0, 0) _ hg2 Tryz.underlying24 rfl (by kernel_rfl)]) rfl ?_
  exact ⟨rfl, (((bthen b0 B3).setCell (p := ⟨w.heap.size, 0, none⟩) (by simp) _).setCell (p := ⟨w.heap.size, 1, none⟩) (by simp) _).setCell (p := ⟨w.heap.size, 2, none⟩) (by simp) _⟩
set_option maxHeartbeats 8000000 in
theorem alive05_any (w : World) : Calls Tryz.prog 9 #[] w (Yes w) := by
  go_enter Tryz.func9, Tryz.ntmps9
  go_wp2_with fail
  refine (of_any 251 _ rfl (by omega) _).mono ?_
  rintro e w1 ⟨A1, n1, c1, x1, rfl, r1⟩
  have l1 : n1 ≤ 1 := r1.le (by omega)
  go_wp2_with fail
  refine (of_any 257 _ rfl (by omega) _).mono ?_
  rintro e w2 ⟨A2, n2, c2, x2, rfl, r2⟩
  have l2 : n2 ≤ 1 := r2.le (by omega)
  have m1 := r1.nt.up r2.bel
  have hm := make_small m1 r2.nt r1.is r2.is (by omega) (by omega)
  have Hm := Lib.hid hm
  clear hm
  go_wp2_with fail
  refine Hm.out.mono ?_
  rintro e w3 ⟨K1, k1, t1, y1, K2, k2, t2, y2, K3, k3, t3, y3, d, rfl, N1, v1, b1, N2, v2, b2, N3, v3, b3, ht, hd, hde, bel⟩
  have hdd := d_small hd hde
  subst hdd
  clear hd hde
  have B3 := bthen (bthen r1.bel r2.bel) bel
  obtain ⟨w4, e4⟩ : ∃ w4, w4 = w3.alloc (.cells #[Value.slice K1 k1 t1, .slice K2 k2 t2, .slice K3 k3 t3] 24) := ⟨_, rfl⟩
  obtain ⟨hb4, b4⟩ := box_new e4
  have p4 : Pr w4 (.agg #[.slice K1 k1 t1, .slice K2 k2 t2, .slice K3 k3 t3]) 64507 17 26353 := ⟨_, _, _, _, _, _, _, _, _, _, _, _, rfl, N1.up b4, v1, b1, N2.up b4, v2, b2, N3.up b4, v3, b3⟩
  have hs := fun A n c => sign_short p4 (by omega) (by decide +kernel) (by decide +kernel) (by omega) (by omega) (by omega) (by omega) (by omega) A n c
  have Hs := Lib.hid hs
  have q0 := hb4.c0
  have q1 := hb4.c1
  have q2 := hb4.c2
  have M1 := N1.up b4
  have M3 := N3.up b4
  have B4 := bthen B3 b4
  have V1 := Lib.hid v1
  have V3 := Lib.hid v3
  clear hs v1 v2 v3 ht Hm
  go_wp2_with fail
  rw [← e4]
  clear e4
  refine (Hs.out _ _ _).mono ?_
  rintro e w5 ⟨rfl, b5⟩
  have B5 := bthen B4 b5
  go_wp2_with fail
  refine (of_any 251 _ rfl (by omega) _).mono ?_
  rintro e w6 ⟨A6, n6, c6, x6, rfl, r6⟩
  have l6 : n6 ≤ 1 := r6.le (by omega)
  go_wp2_with fail
  refine (of_any 251 _ rfl (by omega) _).mono ?_
  rintro e w7 ⟨A7, n7, c7, x7, rfl, r7⟩
  have l7 : n7 ≤ 1 := r7.le (by omega)
  have hm := make_twice (r6.nt.up r7.bel) r7.nt r6.is r7.is (by omega) (by omega) 17 (by decide +kernel) (by decide +kernel)
  have Hm := Lib.hid hm
  clear hm
  go_wp2_with fail
  refine Hm.out.mono ?_
  rintro e w8 ⟨rfl, b8⟩
  have B8 := bthen (bthen (bthen B5 r6.bel) r7.bel) b8
  have C8 := bthen (bthen (bthen b5 r6.bel) r7.bel) b8
  have g8 := hb4.up C8
  have g80 := g8.c0
  have g81 := g8.c1
  have g82 := g8.c2
  obtain ⟨w9, e9⟩ : ∃ w9, w9 = w8.alloc (.cells #[Value.slice none 0 0, .slice none 0 0, .slice none 0 0] 24) := ⟨_, rfl⟩
  have b9 : Below w8.heap.size w8 w9 := e9 ▸ (Below.refl _ w8).alloc (Nat.le_refl _) _
  have bD : Below w9.heap.size w9 w9.drew := (Below.refl _ _).drew
  have C9 := bthen (bthen C8 b9) bD
  have B9 := bthen (bthen B8 b9) bD
  have g9 := hb4.up C9
  have g90 := g9.c0
  have g91 := g9.c1
  have g92 := g9.c2
  have M19 := M1.up C9
  have M39 := M3.up C9
  have hsz := fun (W : World) (v : Value) (k : Pr W v 64507 17 26353) => size_any k
  rw [show (bl 64507 + 7) / 8 = 2 by decide +kernel] at hsz
  have Hsz := Lib.hid hsz
  clear hsz
  have P9 := Lib.hid (p4.up C9)
  go_wp2_with fail
  rw [← e9]
  clear e9
  go_region_held3 (fun w' => w'.cell? ⟨w3.heap.size, 0, none⟩ = some (Value.slice K1 k1 t1) ∧ w'.cell? ⟨w3.heap.size, 1, none⟩ = some (Value.slice K2 k2 t2) ∧ w'.cell? ⟨w3.heap.size, 2, none⟩ = some (Value.slice K3 k3 t3))
    (first | exact ⟨ge0, ge1, ge2⟩ | exact ⟨gd0, gd1, gd2⟩ | exact ⟨gc0, gc1, gc2⟩ | exact ⟨gb0, gb1, gb2⟩ | exact ⟨ga0, ga1, ga2⟩ | exact ⟨g90, g91, g92⟩)
    ((first
      | (go_at_call 36; refine (of_any 64507 _ rfl (by omega) _).mono ?_; rintro e wa ⟨Aa, na, ca, xa, rfl, ra⟩
         have va := ra.is
         have ga := g9.up ra.bel
         have ga0 := ga.c0
         have ga1 := ga.c1
         have ga2 := ga.c2)
      | (go_at_call 37; with_reducible refine (cmp_eq (M19.up ra.bel) ra.nt (by rw [V1.out, va])).mono ?_; rintro e wb ⟨rfl, db, rfl⟩
         have gb := ga.dr db
         have gb0 := gb.c0
         have gb1 := gb.c1
         have gb2 := gb.c2
         have Bb := bdr ra.bel db)
      | (go_at_call 36; refine (of_any 26353 _ rfl (by omega) _).mono ?_; rintro e wc ⟨Ac, nc, cc, xc, rfl, rc⟩
         have vc := rc.is
         have gc := gb.up rc.bel
         have gc0 := gc.c0
         have gc1 := gc.c1
         have gc2 := gc.c2
         have Bc := bthen Bb rc.bel)
      | (go_at_call 37; with_reducible refine (cmp_eq (M39.up Bc) rc.nt (by rw [V3.out, vc])).mono ?_; rintro e wd ⟨rfl, dd, rfl⟩
         have gd := gc.dr dd
         have gd0 := gd.c0
         have gd1 := gd.c1
         have gd2 := gd.c2
         have Bd := bdr Bc dd)
      | (go_at_call 20; refine (Hsz.out _ _ (P9.out.up Bd)).mono ?_; rintro e we ⟨rfl, be⟩
         have ge := gd.up be
         have ge0 := ge.c0
         have ge1 := ge.c1
         have ge2 := ge.c2)))
  all_goals
    have Be := bthen (bthen B9 Bd) be
    go_wp2_with fail
    go_ret
    exact ⟨rfl, Be⟩
end Go.Proofs.YtkeejhkjbmegkaaGreatDoor
namespace Go.Proofs.YtkeejhkjbmegkaaGreatDoor
open Go.ChangeShapes Go.WideShapes Go.ChangeAt Go.RowKit
set_option linter.unusedVariables false
set_option maxRecDepth 100000

theorem own : ownKnob Tryz.prog.godebug = none := by kernel_rfl
theorem laidOut : laidOutB Tryz.prog = true := by kernel_rfl
theorem gK : Tryz.prog.globalNamed "clepsydra/sha.constants" = some 1 := by kernel_rfl
theorem tK : (Tryz.prog.globals[1]?).map (·.type) = some 159 := by kernel_rfl
abbrev laidK (H : Type) : List (String × DataW H) := [("clepsydra/sha.constants", Rows.laid_clepsydra_sha_constants)]

theorem of_laid {W : World} (h : laidMetH Tryz.prog [("clepsydra/sha.constants", Rows.laid_clepsydra_sha_constants)] W) : Sh.Ks W := by
  rw [MakeChecks.laidMetH_plain _ _ _ (by kernel_rfl)] at h
  obtain ⟨ps, ⟨g0, t0, cs0, f0, p0, q0, hg0, ht0, hv0, hd0, _, _⟩, _, _⟩ := h
  obtain rfl := Option.some.inj (gK.symm.trans hg0)
  obtain rfl := Option.some.inj (tK.symm.trans ht0)
  obtain ⟨xs, m1, rfl, hx1, hlen, hn3, hel⟩ := DataW.trod_array Tryz.underlying159 hd0
  have c90 : Tryz.prog.cellsOf 132 = 1 := by kernel_rfl
  have hl : (Rows.laid_clepsydra_sha_constants : DataW Unit) = .agg (Sh.kk.map fun x : Nat => .lit (.int .u32 (x : Int))) := rfl
  rw [hl] at hx1
  simp only [Prod.mk.injEq, DataW.agg.injEq] at hx1
  have hlt : 1 < W.heap.size := by
    have := World.var?_cell hg0 hv0 0
    have hcs : 0 < cs0.size := by
      have : cs0.toList.length = 64 := hlen.trans (by kernel_rfl)
      simp at this; omega
    rw [Array.getElem?_eq_getElem hcs] at this
    exact World.block_lt_of_cell? W _ this
  refine ⟨hlt, fun t ht => ?_⟩
  have h0 := hel t ht
  have htx : t < xs.length := by omega
  rw [c90, Nat.mul_one, List.getElem?_eq_getElem htx] at h0
  obtain ⟨k, e1, e2, _⟩ := DataW.trod_int Tryz.underlying132 h0
  have e3 : (xs.map fun x => x.fst)[t]? = some (.lit (.int .u32 k)) := by
    rw [List.getElem?_map, List.getElem?_eq_getElem htx, e2]; rfl
  rw [← hx1.1] at e3
  have e4 : (k : Int) = ((Sh.kk.getD t 0 : Nat) : Int) := by
    rw [List.getElem?_map] at e3
    have hk : t < Sh.kk.length := ht
    rw [List.getElem?_eq_getElem hk] at e3
    simp only [Option.map_some, Option.some.injEq, DataW.lit.injEq, Lit.int.injEq, true_and] at e3
    rw [← e3]
    simp [List.getD, List.getElem?_eq_getElem hk]
  have e5 := World.var?_cell hg0 hv0 t
  rw [e5, ← e4]
  have e6 : (List.take 1 (List.drop t cs0.toList))[0]? = some (.int .u32 k) := by rw [e1]; rfl
  rw [List.getElem?_take, if_pos (by omega), List.getElem?_drop] at e6
  simpa using e6

theorem nt_of_row {W : World} {x : Addr} {len cap : Nat} {zs : List Int} (hl : len ≤ cap) (hm : cap ≤ maxLen) (hz : zs.length = cap) (hcell : ∀ i, i < zs.length → W.cell? (x.add i) = some (.int .u64 (zs.getD i 0))) (hwz : ∀ n ∈ zs, (Lit.int .u64 n).wf = true) :
    Nt W W.heap.size (some x) len cap ((zs.take len).map Int.toNat) := by
  have hb : ∀ n ∈ zs, 0 ≤ n ∧ n ≤ 18446744073709551615 := fun n hn => bounds_u64 (hwz n hn)
  refine ⟨by simp; omega, hl, hm, ?_, ?_⟩
  · intro y hy
    simp only [List.mem_map] at hy
    obtain ⟨n, hn, rfl⟩ := hy
    have := hb n (List.mem_of_mem_take hn)
    omega
  · intro h0
    have hc := hcell 0 (by omega)
    obtain ⟨b, off, spot⟩ := x
    have hspot : spot = none := by simpa [Addr.add] using World.cell?_spot hc
    subst hspot
    have hlt := World.block_lt_of_cell? W _ hc
    refine ⟨b, off, rfl, by simpa [Addr.add] using hlt, fun j y hj => ?_⟩
    simp only [List.getElem?_map, Option.map_eq_some_iff, List.getElem?_take] at hj
    obtain ⟨n, hn, rfl⟩ := hj
    split at hn
    · have hj2 : j < zs.length := by
        rcases Nat.lt_or_ge j zs.length with h | h
        · exact h
        · rw [List.getElem?_eq_none h] at hn; cases hn
      have h1 := hcell j hj2
      have h2 : zs.getD j 0 = n := by simp [List.getD, hn]
      rw [h2] at h1
      have h3 := hb n (List.mem_of_getElem? hn)
      rw [show ((n.toNat : Nat) : Int) = n by omega]
      by_cases hj0 : j = 0
      · subst hj0; simpa [Addr.add] using h1
      · simpa [Addr.add, hj0] using h1
    · cases hn

theorem nb_of_row {W : World} {x : Addr} {len cap : Nat} {zs : List Int} (hl : len ≤ cap) (hm : cap ≤ maxLen) (hz : zs.length = cap) (hcell : ∀ i, i < zs.length → W.cell? (x.add i) = some (.int .u8 (zs.getD i 0))) (hwz : ∀ n ∈ zs, (Lit.int .u8 n).wf = true) :
    Nb W W.heap.size (some x) len cap ((zs.take len).map Int.toNat) := by
  have hb : ∀ n ∈ zs, 0 ≤ n ∧ n ≤ 255 := fun n hn => by
    have := hwz n hn
    simp [Lit.wf, IntKind.min, IntKind.max, IntKind.signed, IntKind.bits] at this
    omega
  refine ⟨by simp; omega, hl, hm, ?_, ?_⟩
  · intro y hy
    simp only [List.mem_map] at hy
    obtain ⟨n, hn, rfl⟩ := hy
    have := hb n (List.mem_of_mem_take hn)
    omega
  · intro h0
    have hc := hcell 0 (by omega)
    obtain ⟨b, off, spot⟩ := x
    have hspot : spot = none := by simpa [Addr.add] using World.cell?_spot hc
    subst hspot
    have hlt := World.block_lt_of_cell? W _ hc
    refine ⟨b, off, rfl, by simpa [Addr.add] using hlt, fun j y hj => ?_⟩
    simp only [List.getElem?_map, Option.map_eq_some_iff, List.getElem?_take] at hj
    obtain ⟨n, hn, rfl⟩ := hj
    split at hn
    · have hj2 : j < zs.length := by
        rcases Nat.lt_or_ge j zs.length with h | h
        · exact h
        · rw [List.getElem?_eq_none h] at hn; cases hn
      have h1 := hcell j hj2
      have h2 : zs.getD j 0 = n := by simp [List.getD, hn]
      rw [h2] at h1
      have h3 := hb n (List.mem_of_getElem? hn)
      rw [show ((n.toNat : Nat) : Int) = n by omega]
      by_cases hj0 : j = 0
      · subst hj0; simpa [Addr.add] using h1
      · simpa [Addr.add, hj0] using h1
    · cases hn

/-- a struct of three rows of limbs that came in -/
theorem params_open {H : Type} {enc : TypeId × Value → H} {W : World} {cs : Array Value} {d : DataW H} {p : List MemPlace} (h : DataW.Trod enc Tryz.prog W 0 (fun _ => true) true 40 (.agg cs) d p) :
    ∃ A1 n1 c1 x1 A2 n2 c2 x2 A3 n3 c3 x3, cs = #[.slice A1 n1 c1, .slice A2 n2 c2, .slice A3 n3 c3] ∧ Nt W W.heap.size A1 n1 c1 x1 ∧ Nt W W.heap.size A2 n2 c2 x2 ∧ Nt W W.heap.size A3 n3 c3 x3 := by
  obtain ⟨fuel, hf⟩ := h
  have key : ∀ {fuel : Nat} {c : List Value} {x : DataW H × List MemPlace}, DataW.trod enc Tryz.prog W 0 (fun _ => true) true fuel 22 c = some x → ∃ A n k z, c = [.slice A n k] ∧ Nt W W.heap.size A n k z := fun hh => by
    rcases open_ints Tryz.underlying22 Tryz.underlying53 (by kernel_rfl) hh with ⟨hcs, _⟩ | ⟨x, l, c, zs, hcs, _, hl, hm, hz, _, hcell, hwz⟩
    · exact ⟨_, _, _, [], hcs, nt_nil _ _⟩
    · exact ⟨_, _, _, _, hcs, nt_of_row hl hm (by simpa using hz) hcell hwz⟩
  obtain ⟨y0, y1, y2, n, _, hlen, h0, h1, h2⟩ := Deep.trod_struct3 Tryz.underlying40 hf
  obtain ⟨A1, n1, c1, z1, e1, t1⟩ := key h0
  obtain ⟨A2, n2, c2, z2, e2, t2⟩ := key h1
  obtain ⟨A3, n3, c3, z3, e3, t3⟩ := key h2
  refine ⟨_, _, _, _, _, _, _, _, _, _, _, _, ?_, t1, t2, t3⟩
  have hc : Tryz.prog.cellsOf 40 = 3 := by kernel_rfl
  have hc1 : Tryz.prog.cellsOf 22 = 1 := by kernel_rfl
  rw [hc] at hlen
  simp only [Value.cells] at hlen e1 e2 e3
  obtain ⟨l⟩ := cs
  match l, hlen with
  | [a, b, c], _ =>
    simp [hc1] at e1 e2 e3
    rw [e1, e2, e3]
theorem key_open {H : Type} {enc : TypeId × Value → H} {W : World} {cs : Array Value} {d : DataW H} {p : List MemPlace} (h : DataW.Trod enc Tryz.prog W 0 (fun _ => true) true 24 (.agg cs) d p) :
    ∃ A1 n1 c1 x1 A2 n2 c2 x2 A3 n3 c3 x3, cs = #[.slice A1 n1 c1, .slice A2 n2 c2, .slice A3 n3 c3] ∧ Nt W W.heap.size A1 n1 c1 x1 ∧ Nt W W.heap.size A2 n2 c2 x2 ∧ Nt W W.heap.size A3 n3 c3 x3 := by
  obtain ⟨fuel, hf⟩ := h
  have key : ∀ {fuel : Nat} {c : List Value} {x : DataW H × List MemPlace}, DataW.trod enc Tryz.prog W 0 (fun _ => true) true fuel 22 c = some x → ∃ A n k z, c = [.slice A n k] ∧ Nt W W.heap.size A n k z := fun hh => by
    rcases open_ints Tryz.underlying22 Tryz.underlying53 (by kernel_rfl) hh with ⟨hcs, _⟩ | ⟨x, l, c, zs, hcs, _, hl, hm, hz, _, hcell, hwz⟩
    · exact ⟨_, _, _, [], hcs, nt_nil _ _⟩
    · exact ⟨_, _, _, _, hcs, nt_of_row hl hm (by simpa using hz) hcell hwz⟩
  obtain ⟨y0, y1, y2, n, _, hlen, h0, h1, h2⟩ := Deep.trod_struct3 Tryz.underlying24 hf
  obtain ⟨A1, n1, c1, z1, e1, t1⟩ := key h0
  obtain ⟨A2, n2, c2, z2, e2, t2⟩ := key h1
  obtain ⟨A3, n3, c3, z3, e3, t3⟩ := key h2
  refine ⟨_, _, _, _, _, _, _, _, _, _, _, _, ?_, t1, t2, t3⟩
  have hc : Tryz.prog.cellsOf 24 = 3 := by kernel_rfl
  have hc1 : Tryz.prog.cellsOf 22 = 1 := by kernel_rfl
  rw [hc] at hlen
  simp only [Value.cells] at hlen e1 e2 e3
  obtain ⟨l⟩ := cs
  match l, hlen with
  | [a, b, c], _ =>
    simp [hc1] at e1 e2 e3
    rw [e1, e2, e3]
end Go.Proofs.YtkeejhkjbmegkaaGreatDoor
