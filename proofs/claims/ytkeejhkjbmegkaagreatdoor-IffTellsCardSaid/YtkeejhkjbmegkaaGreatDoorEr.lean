/- clepsydraref06: one, passes, Right. clepsydraref06: Right. clepsydraref06: Right. clepsydraref06: Right. clepsydraref06: Right. clepsydraref06: Right. clepsydraref06: Right. clepsydraref06: hash, minus, Face, Mark, Answer, Holds, Extract. clepsydraref06: Face, Mark, Answer, Holds, Extract. clepsydraref06: Face, Mark, Answer, Holds, Extract. clepsydraref06: Face, Mark, Answer, Holds, Extract. clepsydraref06: Face, Mark, Answer, Holds, Extract. iff: Extract, Mark, Holds where the parameters are not right. -/
import Derived.Test.YtkeejhkjbmegkaaGreatDoorDf
import Derived.Test.YtkeejhkjbmegkaaGreatDoorRf
import Derived.Test.YtkeejhkjbmegkaaGreatDoorRn
import Derived.Test.YtkeejhkjbmegkaaGreatDoorSr
namespace Go.Proofs.YtkeejhkjbmegkaaGreatDoor
open Go.RowKit
set_option linter.unusedVariables false
set_option maxRecDepth 100000

theorem Rn.RetN.s {N : Nat} {w w' : World} {e : Ending} (h : Rn.RetN N w e w') : RetS N w e w' := by
  obtain ⟨A, n, c, xs, he, hn, ht, hv, hb⟩ := h
  exact ⟨A, n, c, xs, he, hn, ht, hv, hb⟩
set_option maxHeartbeats 1000000 in
theorem rof_any (n : Nat) (hn : n < 18446744073709551616) (w : World) : Calls Tryz.prog 135 #[.int .u64 (n : Int)] w (RetS n w) := by
  have hG := Rn.Gu.nil (w.alloc (.cells #[.int .u64 (n : Int)] 53)) w.heap.size
  have hb : Below w.heap.size w (w.alloc (.cells #[.int .u64 (n : Int)] 53)) := (Below.refl _ _).alloc (Nat.le_refl _) _
  have hc := Rn.cell_new w (.int .u64 (n : Int)) 53
  go_enter Tryz.func135, Tryz.ntmps135
  go_wp2_with (refine Rn.wpList_app_u _ rfl (.tmp 4) (.tmp 6) rfl rfl hG rfl hc (by omega) hb (by simp) ?_; intro A7 c7 w7 hG7 hB7)
  have hL : Lim 18446744073709551616 ([] ++ [n]) := fun x hx => by simp at hx; omega
  have m7 := hG7.nt hL
  refine (Rn.rtrim_any m7 (by omega)).mono ?_
  rintro e w8 ⟨A8, n8, c8, x8, rfl, m8, t8, v8, b8⟩
  go_wp2_with fail
  go_ret
  exact ⟨_, _, _, _, rfl, m8, t8, by rw [v8]; simp [val], bthen hB7 b8⟩
set_option maxHeartbeats 1000000 in
theorem rone_any (w : World) : Calls Tryz.prog 104 #[] w (RetS 1 w) := by
  go_enter Tryz.func104, Tryz.ntmps104
  go_wp2_with fail
  refine (rof_any 1 (by omega) w).mono ?_
  rintro e w1 ⟨A1, n1, c1, x1, rfl, r1⟩
  go_wp2_with fail
  go_ret
  exact ⟨_, _, _, _, rfl, r1⟩
set_option maxHeartbeats 1000000 in
theorem rsmall_any (n : Nat) (hn : n < 18446744073709551616) (w : World) : Calls Tryz.prog 91 #[.int .u64 (n : Int)] w (RetS n w) := by
  go_enter Tryz.func91, Tryz.ntmps91
  go_wp2_with fail
  refine (rof_any n hn w).mono ?_
  rintro e w1 ⟨A1, n1, c1, x1, rfl, r1⟩
  go_wp2_with fail
  go_ret
  exact ⟨_, _, _, _, rfl, r1⟩
set_option maxHeartbeats 1000000 in
theorem rbases_any (w : World) : Calls Tryz.prog 145 #[] w fun e w' => ∃ g, e = .returned (.slice (some ⟨g, 0, none⟩) 12 12) ∧ Nt w' w'.heap.size (some ⟨g, 0, none⟩) 12 12 b12 ∧ Below w.heap.size w w' := by
  obtain ⟨w1, e1⟩ : ∃ w1, w1 = w.alloc B12 := ⟨_, rfl⟩
  obtain ⟨hB, b1⟩ := nt_b12 e1
  go_enter Tryz.func145, Tryz.ntmps145
  go_wp2_with fail
  rw [← show w1 = w.alloc (.cells #[.int .u64 2, .int .u64 3, .int .u64 5, .int .u64 7, .int .u64 11, .int .u64 13, .int .u64 17, .int .u64 19, .int .u64 23, .int .u64 29, .int .u64 31, .int .u64 37] 53) from e1]
  clear e1
  go_ret
  exact ⟨_, rfl, hB, b1⟩
set_option maxHeartbeats 1000000 in
theorem rpasses_any {w : World} {A : Option Addr} {n c N : Nat} {xs : List Nat} (h : Nt w w.heap.size A n c xs) (hN : val 18446744073709551616 xs = N) (hn : n ≤ 10000) :
    Calls Tryz.prog 103 #[.slice A n c] w fun e w' => e = .returned (.bool (primeN N b12)) ∧ Below w.heap.size w w' := by
  have hp := fun W (b : Below w.heap.size w W) (A2 : Option Addr) (hB : Nt W W.heap.size A2 12 12 b12) => rprime_any (h.up b) hB (by omega) (by omega)
  rw [hN] at hp
  generalize primeN N b12 = t at *
  have Hp := Lib.hid hp
  clear hp
  go_enter Tryz.func103, Tryz.ntmps103
  go_wp2_with fail
  refine (rbases_any w).mono ?_
  rintro e w1 ⟨g, rfl, hB, b1⟩
  go_wp2_with fail
  refine (Hp.out _ b1 _ hB).mono ?_
  rintro e w2 ⟨rfl, b2⟩
  go_wp2_with fail
  go_ret
  exact ⟨rfl, bthen b1 b2⟩
theorem rcmp_lt {w : World} {A A2 : Option Addr} {n c n2 c2 : Nat} {xs ys : List Nat} (h : Nt w w.heap.size A n c xs) (h2 : Nt w w.heap.size A2 n2 c2 ys) (hn : n ≤ 1000000) (hn2 : n2 ≤ 1000000) (hv : val 18446744073709551616 xs < val 18446744073709551616 ys) :
    Calls Tryz.prog 49 #[.slice A n c, .slice A2 n2 c2] w fun e w' => e = .returned (.int .i64 (-1)) ∧ Below w.heap.size w w' := by
  have := Rn.rcmp_any h h2 hn hn2
  rwa [sgn_lt hv] at this
theorem rcmp_gt {w : World} {A A2 : Option Addr} {n c n2 c2 : Nat} {xs ys : List Nat} (h : Nt w w.heap.size A n c xs) (h2 : Nt w w.heap.size A2 n2 c2 ys) (hn : n ≤ 1000000) (hn2 : n2 ≤ 1000000) (hv : val 18446744073709551616 ys < val 18446744073709551616 xs) :
    Calls Tryz.prog 49 #[.slice A n c, .slice A2 n2 c2] w fun e w' => e = .returned (.int .i64 1) ∧ Below w.heap.size w w' := by
  have := Rn.rcmp_any h h2 hn hn2
  rwa [sgn_gt hv] at this
theorem rcmp_eq {w : World} {A A2 : Option Addr} {n c n2 c2 : Nat} {xs ys : List Nat} (h : Nt w w.heap.size A n c xs) (h2 : Nt w w.heap.size A2 n2 c2 ys) (hn : n ≤ 1000000) (hn2 : n2 ≤ 1000000) (hv : val 18446744073709551616 xs = val 18446744073709551616 ys) :
    Calls Tryz.prog 49 #[.slice A n c, .slice A2 n2 c2] w fun e w' => e = .returned (.int .i64 0) ∧ Below w.heap.size w w' := by
  have := Rn.rcmp_any h h2 hn hn2
  rwa [hv, sgn_self] at this
theorem rsub_ok {w : World} {A A2 : Option Addr} {n c n2 c2 : Nat} {xs ys : List Nat} (h : Nt w w.heap.size A n c xs) (h2 : Nt w w.heap.size A2 n2 c2 ys) (hn : n ≤ 1000000) (hn2 : n2 ≤ 1000000) (hv : val 18446744073709551616 ys ≤ val 18446744073709551616 xs) :
    Calls Tryz.prog 105 #[.slice A n c, .slice A2 n2 c2] w (RetT (val 18446744073709551616 xs - val 18446744073709551616 ys) w) :=
  (Rn.rsub_any h h2 hn hn2).mono fun e w' hr => by
    rcases hr with ⟨_, A, n, c, xs, he, hn, ht, hv, hb⟩ | ⟨hlt, _⟩
    · exact ⟨A, n, c, xs, he, hn, ht, hv, hb⟩
    · omega
theorem rsub_no {w : World} {A A2 : Option Addr} {n c n2 c2 : Nat} {xs ys : List Nat} (h : Nt w w.heap.size A n c xs) (h2 : Nt w w.heap.size A2 n2 c2 ys) (hn : n ≤ 1000000) (hn2 : n2 ≤ 1000000) (hv : val 18446744073709551616 xs < val 18446744073709551616 ys) :
    Calls Tryz.prog 105 #[.slice A n c, .slice A2 n2 c2] w (RetBad 10 w) :=
  (Rn.rsub_any h h2 hn hn2).mono fun e w' hr => by
    rcases hr with ⟨hle, _⟩ | ⟨_, he, hb⟩
    · omega
    · exact ⟨he, hb⟩
/-- the reference's Right, in its own order -/
def rightR (P Q G : Nat) : Bool := decide (bl P ≤ 1024 ∧ primeN P b12 = true ∧ primeN Q b12 = true ∧ 1 < G ∧ G < P ∧ (P - 1) % Q = 0 ∧ G ^ Q % P = 1)
theorem rightR_eq (P Q G : Nat) : rightR P Q G = rightN P Q G := by
  rw [Bool.eq_iff_iff]
  unfold rightR rightN genN
  simp only [decide_eq_true_eq, Bool.and_eq_true]
  constructor
  · rintro ⟨h1, h2, h3, h4, h5, h6, h7⟩
    have := primeN_two h3
    exact ⟨h1, h2, by omega, h6, h3, h5, h4, h7⟩
  · rintro ⟨h1, h2, h3, h4, h5, h6, h7, h8⟩
    exact ⟨h1, h2, h5, h7, h6, h4, h8⟩
end Go.Proofs.YtkeejhkjbmegkaaGreatDoor
namespace Go.Proofs.YtkeejhkjbmegkaaGreatDoor
open Go.RowKit
set_option linter.unusedVariables false
set_option maxRecDepth 100000

set_option maxHeartbeats 4000000 in
theorem rright_b1 {w : World} {v : Value} {P Q G : Nat} (h : Pr w v P Q G) (hb1 : 1024 < bl P) :
    Calls Tryz.prog 61 #[v] w fun e w' => e = .returned (.int .i64 60) ∧ Below w.heap.size w w' := by
  obtain ⟨A1, n1, c1, x1, A2, n2, c2, x2, A3, n3, c3, x3, rfl, h1', e1, l1, h2', e2, l2, h3', e3, l3⟩ := h.ex
  clear h
  obtain ⟨w0, e0⟩ : ∃ w0, w0 = w.alloc (.cells #[Value.slice A1 n1 c1, .slice A2 n2 c2, .slice A3 n3 c3] 40) := ⟨_, rfl⟩
  obtain ⟨hx0, b0⟩ := box_new e0
  have h1 := h1'.up b0
  have h2 := h2'.up b0
  have h3 := h3'.up b0
  clear h1' h2' h3'
  have q0 := hx0.c0
  have q1 := hx0.c1
  have q2 := hx0.c2
  have hb := Rn.rbits_any h1 (by omega)
  rw [e1] at hb
  have Hb := Lib.hid hb
  have hP := fun W A xs (k : Nt W W.heap.size A n1 c1 xs) (e : val 18446744073709551616 xs = P) => rpasses_any k e (by omega)
  have hQ := fun W A xs (k : Nt W W.heap.size A n2 c2 xs) (e : val 18446744073709551616 xs = Q) => rpasses_any k e (by omega)
  have HP := Lib.hid hP
  have HQ := Lib.hid hQ
  clear hb hP hQ
  obtain ⟨k, hk⟩ : ∃ k, bl P = k := ⟨_, rfl⟩
  rw [hk] at Hb hb1
  clear hk
  go_enter Tryz.func61, Tryz.ntmps61
  go_wp2_with fail
  rw [← e0]
  clear e0
  refine Hb.out.mono ?_
  rintro e w1 ⟨rfl, b1⟩
  have hx1 := hx0.up b1
  have p0 := hx1.c0
  have p1 := hx1.c1
  have p2 := hx1.c2
  have B1 := b1
  go_wp2_with fail
  go_ret
  exact ⟨rfl, bthen b0 B1⟩
set_option maxHeartbeats 4000000 in
theorem rright_b2 {w : World} {v : Value} {P Q G : Nat} (h : Pr w v P Q G) (hb1 : bl P ≤ 1024) (hpP : primeN P b12 = false) :
    Calls Tryz.prog 61 #[v] w fun e w' => e = .returned (.int .i64 60) ∧ Below w.heap.size w w' := by
  obtain ⟨A1, n1, c1, x1, A2, n2, c2, x2, A3, n3, c3, x3, rfl, h1', e1, l1, h2', e2, l2, h3', e3, l3⟩ := h.ex
  clear h
  obtain ⟨w0, e0⟩ : ∃ w0, w0 = w.alloc (.cells #[Value.slice A1 n1 c1, .slice A2 n2 c2, .slice A3 n3 c3] 40) := ⟨_, rfl⟩
  obtain ⟨hx0, b0⟩ := box_new e0
  have h1 := h1'.up b0
  have h2 := h2'.up b0
  have h3 := h3'.up b0
  clear h1' h2' h3'
  have q0 := hx0.c0
  have q1 := hx0.c1
  have q2 := hx0.c2
  have hb := Rn.rbits_any h1 (by omega)
  rw [e1] at hb
  have Hb := Lib.hid hb
  have hP := fun W A xs (k : Nt W W.heap.size A n1 c1 xs) (e : val 18446744073709551616 xs = P) => rpasses_any k e (by omega)
  have hQ := fun W A xs (k : Nt W W.heap.size A n2 c2 xs) (e : val 18446744073709551616 xs = Q) => rpasses_any k e (by omega)
  rw [hpP] at hP
  have HP := Lib.hid hP
  have HQ := Lib.hid hQ
  clear hb hP hQ
  obtain ⟨k, hk⟩ : ∃ k, bl P = k := ⟨_, rfl⟩
  rw [hk] at Hb hb1
  clear hk
  go_enter Tryz.func61, Tryz.ntmps61
  go_wp2_with fail
  rw [← e0]
  clear e0
  refine Hb.out.mono ?_
  rintro e w1 ⟨rfl, b1⟩
  have hx1 := hx0.up b1
  have p0 := hx1.c0
  have p1 := hx1.c1
  have p2 := hx1.c2
  have B1 := b1
  go_wp2_with fail
  refine (HP.out _ _ _ (h1.up B1) e1).mono ?_
  rintro e w2 ⟨rfl, b2⟩
  have B2 := bthen B1 b2
  have hx2 := hx0.up B2
  have r0 := hx2.c0
  have r1 := hx2.c1
  have r2 := hx2.c2
  go_wp2_with fail
  go_ret
  exact ⟨rfl, bthen b0 B2⟩
set_option maxHeartbeats 4000000 in
theorem rright_b3 {w : World} {v : Value} {P Q G : Nat} (h : Pr w v P Q G) (hb1 : bl P ≤ 1024) (hpP : primeN P b12 = true) (hpQ : primeN Q b12 = false) :
    Calls Tryz.prog 61 #[v] w fun e w' => e = .returned (.int .i64 60) ∧ Below w.heap.size w w' := by
  obtain ⟨A1, n1, c1, x1, A2, n2, c2, x2, A3, n3, c3, x3, rfl, h1', e1, l1, h2', e2, l2, h3', e3, l3⟩ := h.ex
  clear h
  obtain ⟨w0, e0⟩ : ∃ w0, w0 = w.alloc (.cells #[Value.slice A1 n1 c1, .slice A2 n2 c2, .slice A3 n3 c3] 40) := ⟨_, rfl⟩
  obtain ⟨hx0, b0⟩ := box_new e0
  have h1 := h1'.up b0
  have h2 := h2'.up b0
  have h3 := h3'.up b0
  clear h1' h2' h3'
  have q0 := hx0.c0
  have q1 := hx0.c1
  have q2 := hx0.c2
  have hb := Rn.rbits_any h1 (by omega)
  rw [e1] at hb
  have Hb := Lib.hid hb
  have hP := fun W A xs (k : Nt W W.heap.size A n1 c1 xs) (e : val 18446744073709551616 xs = P) => rpasses_any k e (by omega)
  have hQ := fun W A xs (k : Nt W W.heap.size A n2 c2 xs) (e : val 18446744073709551616 xs = Q) => rpasses_any k e (by omega)
  rw [hpP] at hP
  rw [hpQ] at hQ
  have HP := Lib.hid hP
  have HQ := Lib.hid hQ
  clear hb hP hQ
  obtain ⟨k, hk⟩ : ∃ k, bl P = k := ⟨_, rfl⟩
  rw [hk] at Hb hb1
  clear hk
  go_enter Tryz.func61, Tryz.ntmps61
  go_wp2_with fail
  rw [← e0]
  clear e0
  refine Hb.out.mono ?_
  rintro e w1 ⟨rfl, b1⟩
  have hx1 := hx0.up b1
  have p0 := hx1.c0
  have p1 := hx1.c1
  have p2 := hx1.c2
  have B1 := b1
  go_wp2_with fail
  refine (HP.out _ _ _ (h1.up B1) e1).mono ?_
  rintro e w2 ⟨rfl, b2⟩
  have B2 := bthen B1 b2
  have hx2 := hx0.up B2
  have r0 := hx2.c0
  have r1 := hx2.c1
  have r2 := hx2.c2
  go_wp2_with fail
  refine (HQ.out _ _ _ (h2.up B2) e2).mono ?_
  rintro e w3 ⟨rfl, b3⟩
  have B3 := bthen B2 b3
  have hx3 := hx0.up B3
  have s0 := hx3.c0
  have s1 := hx3.c1
  have s2 := hx3.c2
  go_wp2_with fail
  go_ret
  exact ⟨rfl, bthen b0 B3⟩
set_option maxHeartbeats 4000000 in
theorem rright_b4 {w : World} {v : Value} {P Q G : Nat} (h : Pr w v P Q G) (hb1 : bl P ≤ 1024) (hpP : primeN P b12 = true) (hpQ : primeN Q b12 = true) (hG : G < 1) :
    Calls Tryz.prog 61 #[v] w fun e w' => e = .returned (.int .i64 60) ∧ Below w.heap.size w w' := by
  obtain ⟨A1, n1, c1, x1, A2, n2, c2, x2, A3, n3, c3, x3, rfl, h1', e1, l1, h2', e2, l2, h3', e3, l3⟩ := h.ex
  clear h
  obtain ⟨w0, e0⟩ : ∃ w0, w0 = w.alloc (.cells #[Value.slice A1 n1 c1, .slice A2 n2 c2, .slice A3 n3 c3] 40) := ⟨_, rfl⟩
  obtain ⟨hx0, b0⟩ := box_new e0
  have h1 := h1'.up b0
  have h2 := h2'.up b0
  have h3 := h3'.up b0
  clear h1' h2' h3'
  have q0 := hx0.c0
  have q1 := hx0.c1
  have q2 := hx0.c2
  have hb := Rn.rbits_any h1 (by omega)
  rw [e1] at hb
  have Hb := Lib.hid hb
  have hP := fun W A xs (k : Nt W W.heap.size A n1 c1 xs) (e : val 18446744073709551616 xs = P) => rpasses_any k e (by omega)
  have hQ := fun W A xs (k : Nt W W.heap.size A n2 c2 xs) (e : val 18446744073709551616 xs = Q) => rpasses_any k e (by omega)
  rw [hpP] at hP
  rw [hpQ] at hQ
  have HP := Lib.hid hP
  have HQ := Lib.hid hQ
  clear hb hP hQ
  obtain ⟨k, hk⟩ : ∃ k, bl P = k := ⟨_, rfl⟩
  rw [hk] at Hb hb1
  clear hk
  go_enter Tryz.func61, Tryz.ntmps61
  go_wp2_with fail
  rw [← e0]
  clear e0
  refine Hb.out.mono ?_
  rintro e w1 ⟨rfl, b1⟩
  have hx1 := hx0.up b1
  have p0 := hx1.c0
  have p1 := hx1.c1
  have p2 := hx1.c2
  have B1 := b1
  go_wp2_with fail
  refine (HP.out _ _ _ (h1.up B1) e1).mono ?_
  rintro e w2 ⟨rfl, b2⟩
  have B2 := bthen B1 b2
  have hx2 := hx0.up B2
  have r0 := hx2.c0
  have r1 := hx2.c1
  have r2 := hx2.c2
  go_wp2_with fail
  refine (HQ.out _ _ _ (h2.up B2) e2).mono ?_
  rintro e w3 ⟨rfl, b3⟩
  have B3 := bthen B2 b3
  have hx3 := hx0.up B3
  have s0 := hx3.c0
  have s1 := hx3.c1
  have s2 := hx3.c2
  go_wp2_with fail
  have hyd : Bx w3.drew w.heap.size (.slice A1 n1 c1) (.slice A2 n2 c2) (.slice A3 n3 c3) := ⟨hx3.lt, hx3.c0, hx3.c1, hx3.c2⟩
  have bd : Below w3.heap.size w3 w3.drew := (Below.refl _ _).drew
  have B3d := bthen B3 bd
  have z0 := hyd.c0
  have z1 := hyd.c1
  have z2 := hyd.c2
  have h1d := h1.up B3d
  have h3d := h3.up B3d
  first
   | (go_region_with ((first
      | (go_at_call 104; refine (rone_any _).mono ?_; rintro e w4 ⟨A4, n4, c4, x4, rfl, r4⟩
         have g4 := hyd.up r4.bel
         have g40 := g4.c0
         have g41 := g4.c1
         have g42 := g4.c2
         have v4 := r4.is
         have l4 : n4 ≤ 1 := r4.le (by omega))
      | (go_at_call 49; with_reducible refine (rcmp_lt (h3d.up r4.bel) r4.nt (by omega) (by omega) (by rw [e3, v4]; exact hG)).mono ?_; rintro e w5 ⟨rfl, b5⟩
         have g5 := g4.up b5
         have g50 := g5.c0
         have g51 := g5.c1
         have g52 := g5.c2))))
   | fail
  all_goals
    go_wp2_with fail
    go_ret
    exact ⟨rfl, bthen b0 (bthen (bthen B3d r4.bel) b5)⟩
set_option maxHeartbeats 4000000 in
theorem rright_b5 {w : World} {v : Value} {P Q G : Nat} (h : Pr w v P Q G) (hb1 : bl P ≤ 1024) (hpP : primeN P b12 = true) (hpQ : primeN Q b12 = true) (hG : G = 1) :
    Calls Tryz.prog 61 #[v] w fun e w' => e = .returned (.int .i64 60) ∧ Below w.heap.size w w' := by
  obtain ⟨A1, n1, c1, x1, A2, n2, c2, x2, A3, n3, c3, x3, rfl, h1', e1, l1, h2', e2, l2, h3', e3, l3⟩ := h.ex
  clear h
  obtain ⟨w0, e0⟩ : ∃ w0, w0 = w.alloc (.cells #[Value.slice A1 n1 c1, .slice A2 n2 c2, .slice A3 n3 c3] 40) := ⟨_, rfl⟩
  obtain ⟨hx0, b0⟩ := box_new e0
  have h1 := h1'.up b0
  have h2 := h2'.up b0
  have h3 := h3'.up b0
  clear h1' h2' h3'
  have q0 := hx0.c0
  have q1 := hx0.c1
  have q2 := hx0.c2
  have hb := Rn.rbits_any h1 (by omega)
  rw [e1] at hb
  have Hb := Lib.hid hb
  have hP := fun W A xs (k : Nt W W.heap.size A n1 c1 xs) (e : val 18446744073709551616 xs = P) => rpasses_any k e (by omega)
  have hQ := fun W A xs (k : Nt W W.heap.size A n2 c2 xs) (e : val 18446744073709551616 xs = Q) => rpasses_any k e (by omega)
  rw [hpP] at hP
  rw [hpQ] at hQ
  have HP := Lib.hid hP
  have HQ := Lib.hid hQ
  clear hb hP hQ
  obtain ⟨k, hk⟩ : ∃ k, bl P = k := ⟨_, rfl⟩
  rw [hk] at Hb hb1
  clear hk
  go_enter Tryz.func61, Tryz.ntmps61
  go_wp2_with fail
  rw [← e0]
  clear e0
  refine Hb.out.mono ?_
  rintro e w1 ⟨rfl, b1⟩
  have hx1 := hx0.up b1
  have p0 := hx1.c0
  have p1 := hx1.c1
  have p2 := hx1.c2
  have B1 := b1
  go_wp2_with fail
  refine (HP.out _ _ _ (h1.up B1) e1).mono ?_
  rintro e w2 ⟨rfl, b2⟩
  have B2 := bthen B1 b2
  have hx2 := hx0.up B2
  have r0 := hx2.c0
  have r1 := hx2.c1
  have r2 := hx2.c2
  go_wp2_with fail
  refine (HQ.out _ _ _ (h2.up B2) e2).mono ?_
  rintro e w3 ⟨rfl, b3⟩
  have B3 := bthen B2 b3
  have hx3 := hx0.up B3
  have s0 := hx3.c0
  have s1 := hx3.c1
  have s2 := hx3.c2
  go_wp2_with fail
  have hyd : Bx w3.drew w.heap.size (.slice A1 n1 c1) (.slice A2 n2 c2) (.slice A3 n3 c3) := ⟨hx3.lt, hx3.c0, hx3.c1, hx3.c2⟩
  have bd : Below w3.heap.size w3 w3.drew := (Below.refl _ _).drew
  have B3d := bthen B3 bd
  have z0 := hyd.c0
  have z1 := hyd.c1
  have z2 := hyd.c2
  have h1d := h1.up B3d
  have h3d := h3.up B3d
  first
   | (go_region_with ((first
      | (go_at_call 104; refine (rone_any _).mono ?_; rintro e w4 ⟨A4, n4, c4, x4, rfl, r4⟩
         have g4 := hyd.up r4.bel
         have g40 := g4.c0
         have g41 := g4.c1
         have g42 := g4.c2
         have v4 := r4.is
         have l4 : n4 ≤ 1 := r4.le (by omega))
      | (go_at_call 49; with_reducible refine (rcmp_eq (h3d.up r4.bel) r4.nt (by omega) (by omega) (by rw [e3, v4]; exact hG)).mono ?_; rintro e w5 ⟨rfl, b5⟩
         have g5 := g4.up b5
         have g50 := g5.c0
         have g51 := g5.c1
         have g52 := g5.c2))))
   | fail
  all_goals
    go_wp2_with fail
    go_ret
    exact ⟨rfl, bthen b0 (bthen (bthen B3d r4.bel) b5)⟩
set_option maxHeartbeats 4000000 in
theorem rright_b6 {w : World} {v : Value} {P Q G : Nat} (h : Pr w v P Q G) (hb1 : bl P ≤ 1024) (hpP : primeN P b12 = true) (hpQ : primeN Q b12 = true) (hG : 1 < G) (hGP : P < G) :
    Calls Tryz.prog 61 #[v] w fun e w' => e = .returned (.int .i64 60) ∧ Below w.heap.size w w' := by
  obtain ⟨A1, n1, c1, x1, A2, n2, c2, x2, A3, n3, c3, x3, rfl, h1', e1, l1, h2', e2, l2, h3', e3, l3⟩ := h.ex
  clear h
  obtain ⟨w0, e0⟩ : ∃ w0, w0 = w.alloc (.cells #[Value.slice A1 n1 c1, .slice A2 n2 c2, .slice A3 n3 c3] 40) := ⟨_, rfl⟩
  obtain ⟨hx0, b0⟩ := box_new e0
  have h1 := h1'.up b0
  have h2 := h2'.up b0
  have h3 := h3'.up b0
  clear h1' h2' h3'
  have q0 := hx0.c0
  have q1 := hx0.c1
  have q2 := hx0.c2
  have hb := Rn.rbits_any h1 (by omega)
  rw [e1] at hb
  have Hb := Lib.hid hb
  have hP := fun W A xs (k : Nt W W.heap.size A n1 c1 xs) (e : val 18446744073709551616 xs = P) => rpasses_any k e (by omega)
  have hQ := fun W A xs (k : Nt W W.heap.size A n2 c2 xs) (e : val 18446744073709551616 xs = Q) => rpasses_any k e (by omega)
  rw [hpP] at hP
  rw [hpQ] at hQ
  have HP := Lib.hid hP
  have HQ := Lib.hid hQ
  clear hb hP hQ
  obtain ⟨k, hk⟩ : ∃ k, bl P = k := ⟨_, rfl⟩
  rw [hk] at Hb hb1
  clear hk
  go_enter Tryz.func61, Tryz.ntmps61
  go_wp2_with fail
  rw [← e0]
  clear e0
  refine Hb.out.mono ?_
  rintro e w1 ⟨rfl, b1⟩
  have hx1 := hx0.up b1
  have p0 := hx1.c0
  have p1 := hx1.c1
  have p2 := hx1.c2
  have B1 := b1
  go_wp2_with fail
  refine (HP.out _ _ _ (h1.up B1) e1).mono ?_
  rintro e w2 ⟨rfl, b2⟩
  have B2 := bthen B1 b2
  have hx2 := hx0.up B2
  have r0 := hx2.c0
  have r1 := hx2.c1
  have r2 := hx2.c2
  go_wp2_with fail
  refine (HQ.out _ _ _ (h2.up B2) e2).mono ?_
  rintro e w3 ⟨rfl, b3⟩
  have B3 := bthen B2 b3
  have hx3 := hx0.up B3
  have s0 := hx3.c0
  have s1 := hx3.c1
  have s2 := hx3.c2
  go_wp2_with fail
  have hyd : Bx w3.drew w.heap.size (.slice A1 n1 c1) (.slice A2 n2 c2) (.slice A3 n3 c3) := ⟨hx3.lt, hx3.c0, hx3.c1, hx3.c2⟩
  have bd : Below w3.heap.size w3 w3.drew := (Below.refl _ _).drew
  have B3d := bthen B3 bd
  have z0 := hyd.c0
  have z1 := hyd.c1
  have z2 := hyd.c2
  have h1d := h1.up B3d
  have h3d := h3.up B3d
  go_region_held3 (fun w' => w'.cell? ⟨w.heap.size, 0, none⟩ = some (Value.slice A1 n1 c1) ∧ w'.cell? ⟨w.heap.size, 1, none⟩ = some (Value.slice A2 n2 c2) ∧ w'.cell? ⟨w.heap.size, 2, none⟩ = some (Value.slice A3 n3 c3))
    (first | exact ⟨g6.c0, g6.c1, g6.c2⟩ | exact ⟨g5.c0, g5.c1, g5.c2⟩ | exact ⟨g4.c0, g4.c1, g4.c2⟩ | exact ⟨hyd.c0, hyd.c1, hyd.c2⟩)
    ((first
      | (go_at_call 104; refine (rone_any _).mono ?_; rintro e w4 ⟨A4, n4, c4, x4, rfl, r4⟩
         have g4 := hyd.up r4.bel
         have g40 := g4.c0
         have g41 := g4.c1
         have g42 := g4.c2
         have v4 := r4.is
         have l4 : n4 ≤ 1 := r4.le (by omega))
      | (go_at_call 49; with_reducible refine (rcmp_gt (h3d.up r4.bel) r4.nt (by omega) (by omega) (by rw [e3, v4]; exact hG)).mono ?_; rintro e w5 ⟨rfl, b5⟩
         have g5 := g4.up b5
         have g50 := g5.c0
         have g51 := g5.c1
         have g52 := g5.c2)
      | (go_at_call 49; with_reducible refine (rcmp_gt ((h3d.up r4.bel).up b5) ((h1d.up r4.bel).up b5) (by omega) (by omega) (by rw [e3, e1]; exact hGP)).mono ?_; rintro e w6 ⟨rfl, b6⟩
         have g6 := g5.up b6
         have g60 := g6.c0
         have g61 := g6.c1
         have g62 := g6.c2)))
  all_goals
    go_wp2_with fail
    go_ret
    exact ⟨rfl, bthen b0 (bthen (bthen (bthen B3d r4.bel) b5) b6)⟩
set_option maxHeartbeats 4000000 in
theorem rright_b7 {w : World} {v : Value} {P Q G : Nat} (h : Pr w v P Q G) (hb1 : bl P ≤ 1024) (hpP : primeN P b12 = true) (hpQ : primeN Q b12 = true) (hG : 1 < G) (hGP : G = P) :
    Calls Tryz.prog 61 #[v] w fun e w' => e = .returned (.int .i64 60) ∧ Below w.heap.size w w' := by
  obtain ⟨A1, n1, c1, x1, A2, n2, c2, x2, A3, n3, c3, x3, rfl, h1', e1, l1, h2', e2, l2, h3', e3, l3⟩ := h.ex
  clear h
  obtain ⟨w0, e0⟩ : ∃ w0, w0 = w.alloc (.cells #[Value.slice A1 n1 c1, .slice A2 n2 c2, .slice A3 n3 c3] 40) := ⟨_, rfl⟩
  obtain ⟨hx0, b0⟩ := box_new e0
  have h1 := h1'.up b0
  have h2 := h2'.up b0
  have h3 := h3'.up b0
  clear h1' h2' h3'
  have q0 := hx0.c0
  have q1 := hx0.c1
  have q2 := hx0.c2
  have hb := Rn.rbits_any h1 (by omega)
  rw [e1] at hb
  have Hb := Lib.hid hb
  have hP := fun W A xs (k : Nt W W.heap.size A n1 c1 xs) (e : val 18446744073709551616 xs = P) => rpasses_any k e (by omega)
  have hQ := fun W A xs (k : Nt W W.heap.size A n2 c2 xs) (e : val 18446744073709551616 xs = Q) => rpasses_any k e (by omega)
  rw [hpP] at hP
  rw [hpQ] at hQ
  have HP := Lib.hid hP
  have HQ := Lib.hid hQ
  clear hb hP hQ
  obtain ⟨k, hk⟩ : ∃ k, bl P = k := ⟨_, rfl⟩
  rw [hk] at Hb hb1
  clear hk
  go_enter Tryz.func61, Tryz.ntmps61
  go_wp2_with fail
  rw [← e0]
  clear e0
  refine Hb.out.mono ?_
  rintro e w1 ⟨rfl, b1⟩
  have hx1 := hx0.up b1
  have p0 := hx1.c0
  have p1 := hx1.c1
  have p2 := hx1.c2
  have B1 := b1
  go_wp2_with fail
  refine (HP.out _ _ _ (h1.up B1) e1).mono ?_
  rintro e w2 ⟨rfl, b2⟩
  have B2 := bthen B1 b2
  have hx2 := hx0.up B2
  have r0 := hx2.c0
  have r1 := hx2.c1
  have r2 := hx2.c2
  go_wp2_with fail
  refine (HQ.out _ _ _ (h2.up B2) e2).mono ?_
  rintro e w3 ⟨rfl, b3⟩
  have B3 := bthen B2 b3
  have hx3 := hx0.up B3
  have s0 := hx3.c0
  have s1 := hx3.c1
  have s2 := hx3.c2
  go_wp2_with fail
  have hyd : Bx w3.drew w.heap.size (.slice A1 n1 c1) (.slice A2 n2 c2) (.slice A3 n3 c3) := ⟨hx3.lt, hx3.c0, hx3.c1, hx3.c2⟩
  have bd : Below w3.heap.size w3 w3.drew := (Below.refl _ _).drew
  have B3d := bthen B3 bd
  have z0 := hyd.c0
  have z1 := hyd.c1
  have z2 := hyd.c2
  have h1d := h1.up B3d
  have h3d := h3.up B3d
  go_region_held3 (fun w' => w'.cell? ⟨w.heap.size, 0, none⟩ = some (Value.slice A1 n1 c1) ∧ w'.cell? ⟨w.heap.size, 1, none⟩ = some (Value.slice A2 n2 c2) ∧ w'.cell? ⟨w.heap.size, 2, none⟩ = some (Value.slice A3 n3 c3))
    (first | exact ⟨g6.c0, g6.c1, g6.c2⟩ | exact ⟨g5.c0, g5.c1, g5.c2⟩ | exact ⟨g4.c0, g4.c1, g4.c2⟩ | exact ⟨hyd.c0, hyd.c1, hyd.c2⟩)
    ((first
      | (go_at_call 104; refine (rone_any _).mono ?_; rintro e w4 ⟨A4, n4, c4, x4, rfl, r4⟩
         have g4 := hyd.up r4.bel
         have g40 := g4.c0
         have g41 := g4.c1
         have g42 := g4.c2
         have v4 := r4.is
         have l4 : n4 ≤ 1 := r4.le (by omega))
      | (go_at_call 49; with_reducible refine (rcmp_gt (h3d.up r4.bel) r4.nt (by omega) (by omega) (by rw [e3, v4]; exact hG)).mono ?_; rintro e w5 ⟨rfl, b5⟩
         have g5 := g4.up b5
         have g50 := g5.c0
         have g51 := g5.c1
         have g52 := g5.c2)
      | (go_at_call 49; with_reducible refine (rcmp_eq ((h3d.up r4.bel).up b5) ((h1d.up r4.bel).up b5) (by omega) (by omega) (by rw [e3, e1]; exact hGP)).mono ?_; rintro e w6 ⟨rfl, b6⟩
         have g6 := g5.up b6
         have g60 := g6.c0
         have g61 := g6.c1
         have g62 := g6.c2)))
  all_goals
    go_wp2_with fail
    go_ret
    exact ⟨rfl, bthen b0 (bthen (bthen (bthen B3d r4.bel) b5) b6)⟩
end Go.Proofs.YtkeejhkjbmegkaaGreatDoor
namespace Go.Proofs.YtkeejhkjbmegkaaGreatDoor
open Go.RowKit
set_option linter.unusedVariables false
set_option maxRecDepth 100000

set_option maxHeartbeats 4000000 in
theorem rright_b8 {w : World} {v : Value} {P Q G : Nat} (h : Pr w v P Q G) (hb1 : bl P ≤ 1024) (hpP : primeN P b12 = true) (hpQ : primeN Q b12 = true) (hG : 1 < G) (hGP : G < P) (hQ2 : 2 ≤ Q) (hM : (P - 1) % Q ≠ 0) :
    Calls Tryz.prog 61 #[v] w fun e w' => e = .returned (.int .i64 60) ∧ Below w.heap.size w w' := by
  obtain ⟨A1, n1, c1, x1, A2, n2, c2, x2, A3, n3, c3, x3, rfl, h1', e1, l1, h2', e2, l2, h3', e3, l3⟩ := h.ex
  clear h
  obtain ⟨w0, e0⟩ : ∃ w0, w0 = w.alloc (.cells #[Value.slice A1 n1 c1, .slice A2 n2 c2, .slice A3 n3 c3] 40) := ⟨_, rfl⟩
  obtain ⟨hx0, b0⟩ := box_new e0
  have h1 := h1'.up b0
  have h2 := h2'.up b0
  have h3 := h3'.up b0
  clear h1' h2' h3'
  have q0 := hx0.c0
  have q1 := hx0.c1
  have q2 := hx0.c2
  have hb := Rn.rbits_any h1 (by omega)
  rw [e1] at hb
  have Hb := Lib.hid hb
  have hP := fun W A xs (k : Nt W W.heap.size A n1 c1 xs) (e : val 18446744073709551616 xs = P) => rpasses_any k e (by omega)
  have hQ := fun W A xs (k : Nt W W.heap.size A n2 c2 xs) (e : val 18446744073709551616 xs = Q) => rpasses_any k e (by omega)
  rw [hpP] at hP
  rw [hpQ] at hQ
  have HP := Lib.hid hP
  have HQ := Lib.hid hQ
  clear hb hP hQ
  obtain ⟨k, hk⟩ : ∃ k, bl P = k := ⟨_, rfl⟩
  rw [hk] at Hb hb1
  clear hk
  go_enter Tryz.func61, Tryz.ntmps61
  go_wp2_with fail
  rw [← e0]
  clear e0
  refine Hb.out.mono ?_
  rintro e w1 ⟨rfl, b1⟩
  have hx1 := hx0.up b1
  have p0 := hx1.c0
  have p1 := hx1.c1
  have p2 := hx1.c2
  have B1 := b1
  go_wp2_with fail
  refine (HP.out _ _ _ (h1.up B1) e1).mono ?_
  rintro e w2 ⟨rfl, b2⟩
  have B2 := bthen B1 b2
  have hx2 := hx0.up B2
  have r0 := hx2.c0
  have r1 := hx2.c1
  have r2 := hx2.c2
  go_wp2_with fail
  refine (HQ.out _ _ _ (h2.up B2) e2).mono ?_
  rintro e w3 ⟨rfl, b3⟩
  have B3 := bthen B2 b3
  have hx3 := hx0.up B3
  have s0 := hx3.c0
  have s1 := hx3.c1
  have s2 := hx3.c2
  go_wp2_with fail
  have hyd : Bx w3.drew w.heap.size (.slice A1 n1 c1) (.slice A2 n2 c2) (.slice A3 n3 c3) := ⟨hx3.lt, hx3.c0, hx3.c1, hx3.c2⟩
  have bd : Below w3.heap.size w3 w3.drew := (Below.refl _ _).drew
  have B3d := bthen B3 bd
  have z0 := hyd.c0
  have z1 := hyd.c1
  have z2 := hyd.c2
  have h1d := h1.up B3d
  have h3d := h3.up B3d
  go_region_held3 (fun w' => w'.cell? ⟨w.heap.size, 0, none⟩ = some (Value.slice A1 n1 c1) ∧ w'.cell? ⟨w.heap.size, 1, none⟩ = some (Value.slice A2 n2 c2) ∧ w'.cell? ⟨w.heap.size, 2, none⟩ = some (Value.slice A3 n3 c3))
    (first | exact ⟨g6.c0, g6.c1, g6.c2⟩ | exact ⟨g5.c0, g5.c1, g5.c2⟩ | exact ⟨g4.c0, g4.c1, g4.c2⟩ | exact ⟨hyd.c0, hyd.c1, hyd.c2⟩)
    ((first
      | (go_at_call 104; refine (rone_any _).mono ?_; rintro e w4 ⟨A4, n4, c4, x4, rfl, r4⟩
         have g4 := hyd.up r4.bel
         have g40 := g4.c0
         have g41 := g4.c1
         have g42 := g4.c2
         have v4 := r4.is
         have l4 : n4 ≤ 1 := r4.le (by omega))
      | (go_at_call 49; with_reducible refine (rcmp_gt (h3d.up r4.bel) r4.nt (by omega) (by omega) (by rw [e3, v4]; exact hG)).mono ?_; rintro e w5 ⟨rfl, b5⟩
         have g5 := g4.up b5
         have g50 := g5.c0
         have g51 := g5.c1
         have g52 := g5.c2)
      | (go_at_call 49; with_reducible refine (rcmp_lt ((h3d.up r4.bel).up b5) ((h1d.up r4.bel).up b5) (by omega) (by omega) (by rw [e3, e1]; exact hGP)).mono ?_; rintro e w6 ⟨rfl, b6⟩
         have g6 := g5.up b6
         have g60 := g6.c0
         have g61 := g6.c1
         have g62 := g6.c2)))
  all_goals
    have B6 := bthen (bthen (bthen B3d r4.bel) b5) b6
    go_wp2_with fail
    have hyf : Bx w6.drew w.heap.size (.slice A1 n1 c1) (.slice A2 n2 c2) (.slice A3 n3 c3) := ⟨g6.lt, g6.c0, g6.c1, g6.c2⟩
    have bf : Below w6.heap.size w6 w6.drew := (Below.refl _ _).drew
    have B6d := bthen B6 bf
    have y0 := hyf.c0
    have y1 := hyf.c1
    have y2 := hyf.c2
    have h1f := h1.up B6d
    go_region_held3 (fun w' => w'.cell? ⟨w.heap.size, 0, none⟩ = some (Value.slice A1 n1 c1) ∧ w'.cell? ⟨w.heap.size, 1, none⟩ = some (Value.slice A2 n2 c2) ∧ w'.cell? ⟨w.heap.size, 2, none⟩ = some (Value.slice A3 n3 c3))
    (first | exact ⟨g8.c0, g8.c1, g8.c2⟩ | exact ⟨g7.c0, g7.c1, g7.c2⟩ | exact ⟨hyf.c0, hyf.c1, hyf.c2⟩)
    ((first
      | (go_at_call 104; refine (rone_any _).mono ?_; rintro e w7 ⟨A7, n7, c7, x7, rfl, r7⟩
         have g7 := hyf.up r7.bel
         have g70 := g7.c0
         have g71 := g7.c1
         have g72 := g7.c2
         have v7 := r7.is
         have l7 : n7 ≤ 1 := r7.le (by omega))
      | (go_at_call 105; refine (rsub_ok (h1f.up r7.bel) r7.nt (by omega) (by omega) (by rw [e1, v7]; omega)).mono ?_; rintro e w8 ⟨A8, n8, c8, x8, rfl, r8⟩
         rw [e1, v7] at r8
         have v8 := r8.is
         have l8 : n8 ≤ 100 := r8.le (Nat.lt_of_le_of_lt (Nat.sub_le _ _) (by rw [← e1]; exact h1f.below_pow l1))
         have g8 := g7.up r8.bel
         have g80 := g8.c0
         have g81 := g8.c1
         have g82 := g8.c2)))
    all_goals
      have B8 := bthen (bthen B6d r7.bel) r8.bel
      go_wp2_with fail
      refine (rmod_pos r8.nt (h2.up B8) (by omega) (by omega) (by rw [e2]; omega)).mono ?_
      rintro e w9 ⟨A9, n9, c9, x9, rfl, r9⟩
      rw [v8, e2] at r9
      have v9 := r9.is
      have l9 : n9 ≤ 100 := r9.le (Nat.lt_trans (Nat.mod_lt _ (by omega)) (by rw [← e2]; exact h2.below_pow l2))
      have B9 := bthen B8 r9.bel
      have g9 := g8.up r9.bel
      have g90 := g9.c0
      have g91 := g9.c1
      have g92 := g9.c2
      go_wp2_with fail
      refine (rpow_pos (h3.up B9) (h2.up B9) (h1.up B9) (by omega) (by omega) (by omega) (by rw [e1]; omega)).mono ?_
      rintro e w10 ⟨A10, n10, c10, x10, rfl, r10⟩
      rw [e1, e2, e3] at r10
      have v10 := r10.is
      have l10 : n10 ≤ 100 := r10.le (Nat.lt_trans (Nat.mod_lt _ (by omega)) (by rw [← e1]; exact h1.below_pow l1))
      have B10 := bthen B9 r10.bel
      have m9 := r9.nt.up r10.bel
      have hbt := Rn.rbits_any m9 (by omega)
      rw [v9] at hbt
      have hpz := bl_pos (Nat.pos_of_ne_zero hM)
      obtain ⟨kz, hkz⟩ : ∃ kz, bl ((P - 1) % Q) = kz := ⟨_, rfl⟩
      rw [hkz] at hbt hpz
      have hd0 : decide ((0 : Int) < (kz : Int)) = true := by simp; omega
      clear hkz
      have Hbt := Lib.hid hbt
      clear hbt
      go_wp2_with fail
      refine Hbt.out.mono ?_
      rintro e w11 ⟨rfl, b11⟩
      have B11 := bthen B10 b11
      go_wp2_with fail
      go_ret
      exact ⟨rfl, bthen b0 B11⟩
end Go.Proofs.YtkeejhkjbmegkaaGreatDoor
namespace Go.Proofs.YtkeejhkjbmegkaaGreatDoor
open Go.RowKit
set_option linter.unusedVariables false
set_option maxRecDepth 100000

set_option maxHeartbeats 4000000 in
theorem rright_b9 {w : World} {v : Value} {P Q G : Nat} (h : Pr w v P Q G) (hb1 : bl P ≤ 1024) (hpP : primeN P b12 = true) (hpQ : primeN Q b12 = true) (hG : 1 < G) (hGP : G < P) (hQ2 : 2 ≤ Q) (hM : (P - 1) % Q = 0) (hX : G ^ Q % P < 1) :
    Calls Tryz.prog 61 #[v] w fun e w' => e = .returned (.int .i64 60) ∧ Below w.heap.size w w' := by
  obtain ⟨A1, n1, c1, x1, A2, n2, c2, x2, A3, n3, c3, x3, rfl, h1', e1, l1, h2', e2, l2, h3', e3, l3⟩ := h.ex
  clear h
  obtain ⟨w0, e0⟩ : ∃ w0, w0 = w.alloc (.cells #[Value.slice A1 n1 c1, .slice A2 n2 c2, .slice A3 n3 c3] 40) := ⟨_, rfl⟩
  obtain ⟨hx0, b0⟩ := box_new e0
  have h1 := h1'.up b0
  have h2 := h2'.up b0
  have h3 := h3'.up b0
  clear h1' h2' h3'
  have q0 := hx0.c0
  have q1 := hx0.c1
  have q2 := hx0.c2
  have hb := Rn.rbits_any h1 (by omega)
  rw [e1] at hb
  have Hb := Lib.hid hb
  have hP := fun W A xs (k : Nt W W.heap.size A n1 c1 xs) (e : val 18446744073709551616 xs = P) => rpasses_any k e (by omega)
  have hQ := fun W A xs (k : Nt W W.heap.size A n2 c2 xs) (e : val 18446744073709551616 xs = Q) => rpasses_any k e (by omega)
  rw [hpP] at hP
  rw [hpQ] at hQ
  have HP := Lib.hid hP
  have HQ := Lib.hid hQ
  clear hb hP hQ
  obtain ⟨k, hk⟩ : ∃ k, bl P = k := ⟨_, rfl⟩
  rw [hk] at Hb hb1
  clear hk
  go_enter Tryz.func61, Tryz.ntmps61
  go_wp2_with fail
  rw [← e0]
  clear e0
  refine Hb.out.mono ?_
  rintro e w1 ⟨rfl, b1⟩
  have hx1 := hx0.up b1
  have p0 := hx1.c0
  have p1 := hx1.c1
  have p2 := hx1.c2
  have B1 := b1
  go_wp2_with fail
  refine (HP.out _ _ _ (h1.up B1) e1).mono ?_
  rintro e w2 ⟨rfl, b2⟩
  have B2 := bthen B1 b2
  have hx2 := hx0.up B2
  have r0 := hx2.c0
  have r1 := hx2.c1
  have r2 := hx2.c2
  go_wp2_with fail
  refine (HQ.out _ _ _ (h2.up B2) e2).mono ?_
  rintro e w3 ⟨rfl, b3⟩
  have B3 := bthen B2 b3
  have hx3 := hx0.up B3
  have s0 := hx3.c0
  have s1 := hx3.c1
  have s2 := hx3.c2
  go_wp2_with fail
  have hyd : Bx w3.drew w.heap.size (.slice A1 n1 c1) (.slice A2 n2 c2) (.slice A3 n3 c3) := ⟨hx3.lt, hx3.c0, hx3.c1, hx3.c2⟩
  have bd : Below w3.heap.size w3 w3.drew := (Below.refl _ _).drew
  have B3d := bthen B3 bd
  have z0 := hyd.c0
  have z1 := hyd.c1
  have z2 := hyd.c2
  have h1d := h1.up B3d
  have h3d := h3.up B3d
  go_region_held3 (fun w' => w'.cell? ⟨w.heap.size, 0, none⟩ = some (Value.slice A1 n1 c1) ∧ w'.cell? ⟨w.heap.size, 1, none⟩ = some (Value.slice A2 n2 c2) ∧ w'.cell? ⟨w.heap.size, 2, none⟩ = some (Value.slice A3 n3 c3))
    (first | exact ⟨g6.c0, g6.c1, g6.c2⟩ | exact ⟨g5.c0, g5.c1, g5.c2⟩ | exact ⟨g4.c0, g4.c1, g4.c2⟩ | exact ⟨hyd.c0, hyd.c1, hyd.c2⟩)
    ((first
      | (go_at_call 104; refine (rone_any _).mono ?_; rintro e w4 ⟨A4, n4, c4, x4, rfl, r4⟩
         have g4 := hyd.up r4.bel
         have g40 := g4.c0
         have g41 := g4.c1
         have g42 := g4.c2
         have v4 := r4.is
         have l4 : n4 ≤ 1 := r4.le (by omega))
      | (go_at_call 49; with_reducible refine (rcmp_gt (h3d.up r4.bel) r4.nt (by omega) (by omega) (by rw [e3, v4]; exact hG)).mono ?_; rintro e w5 ⟨rfl, b5⟩
         have g5 := g4.up b5
         have g50 := g5.c0
         have g51 := g5.c1
         have g52 := g5.c2)
      | (go_at_call 49; with_reducible refine (rcmp_lt ((h3d.up r4.bel).up b5) ((h1d.up r4.bel).up b5) (by omega) (by omega) (by rw [e3, e1]; exact hGP)).mono ?_; rintro e w6 ⟨rfl, b6⟩
         have g6 := g5.up b6
         have g60 := g6.c0
         have g61 := g6.c1
         have g62 := g6.c2)))
  all_goals
    have B6 := bthen (bthen (bthen B3d r4.bel) b5) b6
    go_wp2_with fail
    have hyf : Bx w6.drew w.heap.size (.slice A1 n1 c1) (.slice A2 n2 c2) (.slice A3 n3 c3) := ⟨g6.lt, g6.c0, g6.c1, g6.c2⟩
    have bf : Below w6.heap.size w6 w6.drew := (Below.refl _ _).drew
    have B6d := bthen B6 bf
    have y0 := hyf.c0
    have y1 := hyf.c1
    have y2 := hyf.c2
    have h1f := h1.up B6d
    go_region_held3 (fun w' => w'.cell? ⟨w.heap.size, 0, none⟩ = some (Value.slice A1 n1 c1) ∧ w'.cell? ⟨w.heap.size, 1, none⟩ = some (Value.slice A2 n2 c2) ∧ w'.cell? ⟨w.heap.size, 2, none⟩ = some (Value.slice A3 n3 c3))
    (first | exact ⟨g8.c0, g8.c1, g8.c2⟩ | exact ⟨g7.c0, g7.c1, g7.c2⟩ | exact ⟨hyf.c0, hyf.c1, hyf.c2⟩)
    ((first
      | (go_at_call 104; refine (rone_any _).mono ?_; rintro e w7 ⟨A7, n7, c7, x7, rfl, r7⟩
         have g7 := hyf.up r7.bel
         have g70 := g7.c0
         have g71 := g7.c1
         have g72 := g7.c2
         have v7 := r7.is
         have l7 : n7 ≤ 1 := r7.le (by omega))
      | (go_at_call 105; refine (rsub_ok (h1f.up r7.bel) r7.nt (by omega) (by omega) (by rw [e1, v7]; omega)).mono ?_; rintro e w8 ⟨A8, n8, c8, x8, rfl, r8⟩
         rw [e1, v7] at r8
         have v8 := r8.is
         have l8 : n8 ≤ 100 := r8.le (Nat.lt_of_le_of_lt (Nat.sub_le _ _) (by rw [← e1]; exact h1f.below_pow l1))
         have g8 := g7.up r8.bel
         have g80 := g8.c0
         have g81 := g8.c1
         have g82 := g8.c2)))
    all_goals
      have B8 := bthen (bthen B6d r7.bel) r8.bel
      go_wp2_with fail
      refine (rmod_pos r8.nt (h2.up B8) (by omega) (by omega) (by rw [e2]; omega)).mono ?_
      rintro e w9 ⟨A9, n9, c9, x9, rfl, r9⟩
      rw [v8, e2] at r9
      have v9 := r9.is
      have l9 : n9 ≤ 100 := r9.le (Nat.lt_trans (Nat.mod_lt _ (by omega)) (by rw [← e2]; exact h2.below_pow l2))
      have B9 := bthen B8 r9.bel
      have g9 := g8.up r9.bel
      have g90 := g9.c0
      have g91 := g9.c1
      have g92 := g9.c2
      go_wp2_with fail
      refine (rpow_pos (h3.up B9) (h2.up B9) (h1.up B9) (by omega) (by omega) (by omega) (by rw [e1]; omega)).mono ?_
      rintro e w10 ⟨A10, n10, c10, x10, rfl, r10⟩
      rw [e1, e2, e3] at r10
      have v10 := r10.is
      have l10 : n10 ≤ 100 := r10.le (Nat.lt_trans (Nat.mod_lt _ (by omega)) (by rw [← e1]; exact h1.below_pow l1))
      have B10 := bthen B9 r10.bel
      have m9 := r9.nt.up r10.bel
      have hbt := Rn.rbits_any m9 (by omega)
      rw [v9] at hbt
      rw [hM, show bl 0 = 0 by rfl] at hbt
      have Hbt := Lib.hid hbt
      clear hbt
      go_wp2_with fail
      refine Hbt.out.mono ?_
      rintro e w11 ⟨rfl, b11⟩
      have B11 := bthen B10 b11
      go_wp2_with fail
      refine (rone_any _).mono ?_
      rintro e w12 ⟨A12, n12, c12, x12, rfl, r12⟩
      have v12 := r12.is
      have l12 : n12 ≤ 1 := r12.le (by omega)
      have B12' := bthen B11 r12.bel
      go_wp2_with fail
      refine (rcmp_lt ((r10.nt.up b11).up r12.bel) r12.nt (by omega) (by omega) (by rw [v10, v12]; exact hX)).mono ?_
      rintro e w13 ⟨rfl, b13⟩
      have B13 := bthen B12' b13
      go_wp2_with fail
      go_ret
      exact ⟨rfl, bthen b0 B13⟩
end Go.Proofs.YtkeejhkjbmegkaaGreatDoor
namespace Go.Proofs.YtkeejhkjbmegkaaGreatDoor
open Go.RowKit
set_option linter.unusedVariables false
set_option maxRecDepth 100000

set_option maxHeartbeats 4000000 in
theorem rright_b10 {w : World} {v : Value} {P Q G : Nat} (h : Pr w v P Q G) (hb1 : bl P ≤ 1024) (hpP : primeN P b12 = true) (hpQ : primeN Q b12 = true) (hG : 1 < G) (hGP : G < P) (hQ2 : 2 ≤ Q) (hM : (P - 1) % Q = 0) (hX : 1 < G ^ Q % P) :
    Calls Tryz.prog 61 #[v] w fun e w' => e = .returned (.int .i64 60) ∧ Below w.heap.size w w' := by
  obtain ⟨A1, n1, c1, x1, A2, n2, c2, x2, A3, n3, c3, x3, rfl, h1', e1, l1, h2', e2, l2, h3', e3, l3⟩ := h.ex
  clear h
  obtain ⟨w0, e0⟩ : ∃ w0, w0 = w.alloc (.cells #[Value.slice A1 n1 c1, .slice A2 n2 c2, .slice A3 n3 c3] 40) := ⟨_, rfl⟩
  obtain ⟨hx0, b0⟩ := box_new e0
  have h1 := h1'.up b0
  have h2 := h2'.up b0
  have h3 := h3'.up b0
  clear h1' h2' h3'
  have q0 := hx0.c0
  have q1 := hx0.c1
  have q2 := hx0.c2
  have hb := Rn.rbits_any h1 (by omega)
  rw [e1] at hb
  have Hb := Lib.hid hb
  have hP := fun W A xs (k : Nt W W.heap.size A n1 c1 xs) (e : val 18446744073709551616 xs = P) => rpasses_any k e (by omega)
  have hQ := fun W A xs (k : Nt W W.heap.size A n2 c2 xs) (e : val 18446744073709551616 xs = Q) => rpasses_any k e (by omega)
  rw [hpP] at hP
  rw [hpQ] at hQ
  have HP := Lib.hid hP
  have HQ := Lib.hid hQ
  clear hb hP hQ
  obtain ⟨k, hk⟩ : ∃ k, bl P = k := ⟨_, rfl⟩
  rw [hk] at Hb hb1
  clear hk
  go_enter Tryz.func61, Tryz.ntmps61
  go_wp2_with fail
  rw [← e0]
  clear e0
  refine Hb.out.mono ?_
  rintro e w1 ⟨rfl, b1⟩
  have hx1 := hx0.up b1
  have p0 := hx1.c0
  have p1 := hx1.c1
  have p2 := hx1.c2
  have B1 := b1
  go_wp2_with fail
  refine (HP.out _ _ _ (h1.up B1) e1).mono ?_
  rintro e w2 ⟨rfl, b2⟩
  have B2 := bthen B1 b2
  have hx2 := hx0.up B2
  have r0 := hx2.c0
  have r1 := hx2.c1
  have r2 := hx2.c2
  go_wp2_with fail
  refine (HQ.out _ _ _ (h2.up B2) e2).mono ?_
  rintro e w3 ⟨rfl, b3⟩
  have B3 := bthen B2 b3
  have hx3 := hx0.up B3
  have s0 := hx3.c0
  have s1 := hx3.c1
  have s2 := hx3.c2
  go_wp2_with fail
  have hyd : Bx w3.drew w.heap.size (.slice A1 n1 c1) (.slice A2 n2 c2) (.slice A3 n3 c3) := ⟨hx3.lt, hx3.c0, hx3.c1, hx3.c2⟩
  have bd : Below w3.heap.size w3 w3.drew := (Below.refl _ _).drew
  have B3d := bthen B3 bd
  have z0 := hyd.c0
  have z1 := hyd.c1
  have z2 := hyd.c2
  have h1d := h1.up B3d
  have h3d := h3.up B3d
  go_region_held3 (fun w' => w'.cell? ⟨w.heap.size, 0, none⟩ = some (Value.slice A1 n1 c1) ∧ w'.cell? ⟨w.heap.size, 1, none⟩ = some (Value.slice A2 n2 c2) ∧ w'.cell? ⟨w.heap.size, 2, none⟩ = some (Value.slice A3 n3 c3))
    (first | exact ⟨g6.c0, g6.c1, g6.c2⟩ | exact ⟨g5.c0, g5.c1, g5.c2⟩ | exact ⟨g4.c0, g4.c1, g4.c2⟩ | exact ⟨hyd.c0, hyd.c1, hyd.c2⟩)
    ((first
      | (go_at_call 104; refine (rone_any _).mono ?_; rintro e w4 ⟨A4, n4, c4, x4, rfl, r4⟩
         have g4 := hyd.up r4.bel
         have g40 := g4.c0
         have g41 := g4.c1
         have g42 := g4.c2
         have v4 := r4.is
         have l4 : n4 ≤ 1 := r4.le (by omega))
      | (go_at_call 49; with_reducible refine (rcmp_gt (h3d.up r4.bel) r4.nt (by omega) (by omega) (by rw [e3, v4]; exact hG)).mono ?_; rintro e w5 ⟨rfl, b5⟩
         have g5 := g4.up b5
         have g50 := g5.c0
         have g51 := g5.c1
         have g52 := g5.c2)
      | (go_at_call 49; with_reducible refine (rcmp_lt ((h3d.up r4.bel).up b5) ((h1d.up r4.bel).up b5) (by omega) (by omega) (by rw [e3, e1]; exact hGP)).mono ?_; rintro e w6 ⟨rfl, b6⟩
         have g6 := g5.up b6
         have g60 := g6.c0
         have g61 := g6.c1
         have g62 := g6.c2)))
  all_goals
    have B6 := bthen (bthen (bthen B3d r4.bel) b5) b6
    go_wp2_with fail
    have hyf : Bx w6.drew w.heap.size (.slice A1 n1 c1) (.slice A2 n2 c2) (.slice A3 n3 c3) := ⟨g6.lt, g6.c0, g6.c1, g6.c2⟩
    have bf : Below w6.heap.size w6 w6.drew := (Below.refl _ _).drew
    have B6d := bthen B6 bf
    have y0 := hyf.c0
    have y1 := hyf.c1
    have y2 := hyf.c2
    have h1f := h1.up B6d
    go_region_held3 (fun w' => w'.cell? ⟨w.heap.size, 0, none⟩ = some (Value.slice A1 n1 c1) ∧ w'.cell? ⟨w.heap.size, 1, none⟩ = some (Value.slice A2 n2 c2) ∧ w'.cell? ⟨w.heap.size, 2, none⟩ = some (Value.slice A3 n3 c3))
    (first | exact ⟨g8.c0, g8.c1, g8.c2⟩ | exact ⟨g7.c0, g7.c1, g7.c2⟩ | exact ⟨hyf.c0, hyf.c1, hyf.c2⟩)
    ((first
      | (go_at_call 104; refine (rone_any _).mono ?_; rintro e w7 ⟨A7, n7, c7, x7, rfl, r7⟩
         have g7 := hyf.up r7.bel
         have g70 := g7.c0
         have g71 := g7.c1
         have g72 := g7.c2
         have v7 := r7.is
         have l7 : n7 ≤ 1 := r7.le (by omega))
      | (go_at_call 105; refine (rsub_ok (h1f.up r7.bel) r7.nt (by omega) (by omega) (by rw [e1, v7]; omega)).mono ?_; rintro e w8 ⟨A8, n8, c8, x8, rfl, r8⟩
         rw [e1, v7] at r8
         have v8 := r8.is
         have l8 : n8 ≤ 100 := r8.le (Nat.lt_of_le_of_lt (Nat.sub_le _ _) (by rw [← e1]; exact h1f.below_pow l1))
         have g8 := g7.up r8.bel
         have g80 := g8.c0
         have g81 := g8.c1
         have g82 := g8.c2)))
    all_goals
      have B8 := bthen (bthen B6d r7.bel) r8.bel
      go_wp2_with fail
      refine (rmod_pos r8.nt (h2.up B8) (by omega) (by omega) (by rw [e2]; omega)).mono ?_
      rintro e w9 ⟨A9, n9, c9, x9, rfl, r9⟩
      rw [v8, e2] at r9
      have v9 := r9.is
      have l9 : n9 ≤ 100 := r9.le (Nat.lt_trans (Nat.mod_lt _ (by omega)) (by rw [← e2]; exact h2.below_pow l2))
      have B9 := bthen B8 r9.bel
      have g9 := g8.up r9.bel
      have g90 := g9.c0
      have g91 := g9.c1
      have g92 := g9.c2
      go_wp2_with fail
      refine (rpow_pos (h3.up B9) (h2.up B9) (h1.up B9) (by omega) (by omega) (by omega) (by rw [e1]; omega)).mono ?_
      rintro e w10 ⟨A10, n10, c10, x10, rfl, r10⟩
      rw [e1, e2, e3] at r10
      have v10 := r10.is
      have l10 : n10 ≤ 100 := r10.le (Nat.lt_trans (Nat.mod_lt _ (by omega)) (by rw [← e1]; exact h1.below_pow l1))
      have B10 := bthen B9 r10.bel
      have m9 := r9.nt.up r10.bel
      have hbt := Rn.rbits_any m9 (by omega)
      rw [v9] at hbt
      rw [hM, show bl 0 = 0 by rfl] at hbt
      have Hbt := Lib.hid hbt
      clear hbt
      go_wp2_with fail
      refine Hbt.out.mono ?_
      rintro e w11 ⟨rfl, b11⟩
      have B11 := bthen B10 b11
      go_wp2_with fail
      refine (rone_any _).mono ?_
      rintro e w12 ⟨A12, n12, c12, x12, rfl, r12⟩
      have v12 := r12.is
      have l12 : n12 ≤ 1 := r12.le (by omega)
      have B12' := bthen B11 r12.bel
      go_wp2_with fail
      refine (rcmp_gt ((r10.nt.up b11).up r12.bel) r12.nt (by omega) (by omega) (by rw [v10, v12]; exact hX)).mono ?_
      rintro e w13 ⟨rfl, b13⟩
      have B13 := bthen B12' b13
      go_wp2_with fail
      go_ret
      exact ⟨rfl, bthen b0 B13⟩
end Go.Proofs.YtkeejhkjbmegkaaGreatDoor
namespace Go.Proofs.YtkeejhkjbmegkaaGreatDoor
open Go.RowKit
set_option linter.unusedVariables false
set_option maxRecDepth 100000

set_option maxHeartbeats 4000000 in
theorem rright_ok1 {w : World} {v : Value} {P Q G : Nat} (h : Pr w v P Q G) (hb1 : bl P ≤ 1024) (hpP : primeN P b12 = true) (hpQ : primeN Q b12 = true) (hG : 1 < G) (hGP : G < P) (hQ2 : 2 ≤ Q) (hM : (P - 1) % Q = 0) (hX : G ^ Q % P = 1) :
    Calls Tryz.prog 61 #[v] w fun e w' => e = .returned (.int .i64 0) ∧ Below w.heap.size w w' := by
  obtain ⟨A1, n1, c1, x1, A2, n2, c2, x2, A3, n3, c3, x3, rfl, h1', e1, l1, h2', e2, l2, h3', e3, l3⟩ := h.ex
  clear h
  obtain ⟨w0, e0⟩ : ∃ w0, w0 = w.alloc (.cells #[Value.slice A1 n1 c1, .slice A2 n2 c2, .slice A3 n3 c3] 40) := ⟨_, rfl⟩
  obtain ⟨hx0, b0⟩ := box_new e0
  have h1 := h1'.up b0
  have h2 := h2'.up b0
  have h3 := h3'.up b0
  clear h1' h2' h3'
  have q0 := hx0.c0
  have q1 := hx0.c1
  have q2 := hx0.c2
  have hb := Rn.rbits_any h1 (by omega)
  rw [e1] at hb
  have Hb := Lib.hid hb
  have hP := fun W A xs (k : Nt W W.heap.size A n1 c1 xs) (e : val 18446744073709551616 xs = P) => rpasses_any k e (by omega)
  have hQ := fun W A xs (k : Nt W W.heap.size A n2 c2 xs) (e : val 18446744073709551616 xs = Q) => rpasses_any k e (by omega)
  rw [hpP] at hP
  rw [hpQ] at hQ
  have HP := Lib.hid hP
  have HQ := Lib.hid hQ
  clear hb hP hQ
  obtain ⟨k, hk⟩ : ∃ k, bl P = k := ⟨_, rfl⟩
  rw [hk] at Hb hb1
  clear hk
  go_enter Tryz.func61, Tryz.ntmps61
  go_wp2_with fail
  rw [← e0]
  clear e0
  refine Hb.out.mono ?_
  rintro e w1 ⟨rfl, b1⟩
  have hx1 := hx0.up b1
  have p0 := hx1.c0
  have p1 := hx1.c1
  have p2 := hx1.c2
  have B1 := b1
  go_wp2_with fail
  refine (HP.out _ _ _ (h1.up B1) e1).mono ?_
  rintro e w2 ⟨rfl, b2⟩
  have B2 := bthen B1 b2
  have hx2 := hx0.up B2
  have r0 := hx2.c0
  have r1 := hx2.c1
  have r2 := hx2.c2
  go_wp2_with fail
  refine (HQ.out _ _ _ (h2.up B2) e2).mono ?_
  rintro e w3 ⟨rfl, b3⟩
  have B3 := bthen B2 b3
  have hx3 := hx0.up B3
  have s0 := hx3.c0
  have s1 := hx3.c1
  have s2 := hx3.c2
  go_wp2_with fail
  have hyd : Bx w3.drew w.heap.size (.slice A1 n1 c1) (.slice A2 n2 c2) (.slice A3 n3 c3) := ⟨hx3.lt, hx3.c0, hx3.c1, hx3.c2⟩
  have bd : Below w3.heap.size w3 w3.drew := (Below.refl _ _).drew
  have B3d := bthen B3 bd
  have z0 := hyd.c0
  have z1 := hyd.c1
  have z2 := hyd.c2
  have h1d := h1.up B3d
  have h3d := h3.up B3d
  go_region_held3 (fun w' => w'.cell? ⟨w.heap.size, 0, none⟩ = some (Value.slice A1 n1 c1) ∧ w'.cell? ⟨w.heap.size, 1, none⟩ = some (Value.slice A2 n2 c2) ∧ w'.cell? ⟨w.heap.size, 2, none⟩ = some (Value.slice A3 n3 c3))
    (first | exact ⟨g6.c0, g6.c1, g6.c2⟩ | exact ⟨g5.c0, g5.c1, g5.c2⟩ | exact ⟨g4.c0, g4.c1, g4.c2⟩ | exact ⟨hyd.c0, hyd.c1, hyd.c2⟩)
    ((first
      | (go_at_call 104; refine (rone_any _).mono ?_; rintro e w4 ⟨A4, n4, c4, x4, rfl, r4⟩
         have g4 := hyd.up r4.bel
         have g40 := g4.c0
         have g41 := g4.c1
         have g42 := g4.c2
         have v4 := r4.is
         have l4 : n4 ≤ 1 := r4.le (by omega))
      | (go_at_call 49; with_reducible refine (rcmp_gt (h3d.up r4.bel) r4.nt (by omega) (by omega) (by rw [e3, v4]; exact hG)).mono ?_; rintro e w5 ⟨rfl, b5⟩
         have g5 := g4.up b5
         have g50 := g5.c0
         have g51 := g5.c1
         have g52 := g5.c2)
      | (go_at_call 49; with_reducible refine (rcmp_lt ((h3d.up r4.bel).up b5) ((h1d.up r4.bel).up b5) (by omega) (by omega) (by rw [e3, e1]; exact hGP)).mono ?_; rintro e w6 ⟨rfl, b6⟩
         have g6 := g5.up b6
         have g60 := g6.c0
         have g61 := g6.c1
         have g62 := g6.c2)))
  all_goals
    have B6 := bthen (bthen (bthen B3d r4.bel) b5) b6
    go_wp2_with fail
    have hyf : Bx w6.drew w.heap.size (.slice A1 n1 c1) (.slice A2 n2 c2) (.slice A3 n3 c3) := ⟨g6.lt, g6.c0, g6.c1, g6.c2⟩
    have bf : Below w6.heap.size w6 w6.drew := (Below.refl _ _).drew
    have B6d := bthen B6 bf
    have y0 := hyf.c0
    have y1 := hyf.c1
    have y2 := hyf.c2
    have h1f := h1.up B6d
    go_region_held3 (fun w' => w'.cell? ⟨w.heap.size, 0, none⟩ = some (Value.slice A1 n1 c1) ∧ w'.cell? ⟨w.heap.size, 1, none⟩ = some (Value.slice A2 n2 c2) ∧ w'.cell? ⟨w.heap.size, 2, none⟩ = some (Value.slice A3 n3 c3))
    (first | exact ⟨g8.c0, g8.c1, g8.c2⟩ | exact ⟨g7.c0, g7.c1, g7.c2⟩ | exact ⟨hyf.c0, hyf.c1, hyf.c2⟩)
    ((first
      | (go_at_call 104; refine (rone_any _).mono ?_; rintro e w7 ⟨A7, n7, c7, x7, rfl, r7⟩
         have g7 := hyf.up r7.bel
         have g70 := g7.c0
         have g71 := g7.c1
         have g72 := g7.c2
         have v7 := r7.is
         have l7 : n7 ≤ 1 := r7.le (by omega))
      | (go_at_call 105; refine (rsub_ok (h1f.up r7.bel) r7.nt (by omega) (by omega) (by rw [e1, v7]; omega)).mono ?_; rintro e w8 ⟨A8, n8, c8, x8, rfl, r8⟩
         rw [e1, v7] at r8
         have v8 := r8.is
         have l8 : n8 ≤ 100 := r8.le (Nat.lt_of_le_of_lt (Nat.sub_le _ _) (by rw [← e1]; exact h1f.below_pow l1))
         have g8 := g7.up r8.bel
         have g80 := g8.c0
         have g81 := g8.c1
         have g82 := g8.c2)))
    all_goals
      have B8 := bthen (bthen B6d r7.bel) r8.bel
      go_wp2_with fail
      refine (rmod_pos r8.nt (h2.up B8) (by omega) (by omega) (by rw [e2]; omega)).mono ?_
      rintro e w9 ⟨A9, n9, c9, x9, rfl, r9⟩
      rw [v8, e2] at r9
      have v9 := r9.is
      have l9 : n9 ≤ 100 := r9.le (Nat.lt_trans (Nat.mod_lt _ (by omega)) (by rw [← e2]; exact h2.below_pow l2))
      have B9 := bthen B8 r9.bel
      have g9 := g8.up r9.bel
      have g90 := g9.c0
      have g91 := g9.c1
      have g92 := g9.c2
      go_wp2_with fail
      refine (rpow_pos (h3.up B9) (h2.up B9) (h1.up B9) (by omega) (by omega) (by omega) (by rw [e1]; omega)).mono ?_
      rintro e w10 ⟨A10, n10, c10, x10, rfl, r10⟩
      rw [e1, e2, e3] at r10
      have v10 := r10.is
      have l10 : n10 ≤ 100 := r10.le (Nat.lt_trans (Nat.mod_lt _ (by omega)) (by rw [← e1]; exact h1.below_pow l1))
      have B10 := bthen B9 r10.bel
      have m9 := r9.nt.up r10.bel
      have hbt := Rn.rbits_any m9 (by omega)
      rw [v9] at hbt
      rw [hM, show bl 0 = 0 by rfl] at hbt
      have Hbt := Lib.hid hbt
      clear hbt
      go_wp2_with fail
      refine Hbt.out.mono ?_
      rintro e w11 ⟨rfl, b11⟩
      have B11 := bthen B10 b11
      go_wp2_with fail
      refine (rone_any _).mono ?_
      rintro e w12 ⟨A12, n12, c12, x12, rfl, r12⟩
      have v12 := r12.is
      have l12 : n12 ≤ 1 := r12.le (by omega)
      have B12' := bthen B11 r12.bel
      go_wp2_with fail
      refine (rcmp_eq ((r10.nt.up b11).up r12.bel) r12.nt (by omega) (by omega) (by rw [v10, v12]; exact hX)).mono ?_
      rintro e w13 ⟨rfl, b13⟩
      have B13 := bthen B12' b13
      go_wp2_with fail
      go_ret
      exact ⟨rfl, bthen b0 B13⟩
end Go.Proofs.YtkeejhkjbmegkaaGreatDoor
namespace Go.Proofs.YtkeejhkjbmegkaaGreatDoor
open Go.RowKit
set_option linter.unusedVariables false
set_option maxRecDepth 100000

theorem rright_bad {w : World} {v : Value} {P Q G : Nat} (h : Pr w v P Q G) (hR : rightN P Q G = false) :
    Calls Tryz.prog 61 #[v] w fun e w' => e = .returned (.int .i64 60) ∧ Below w.heap.size w w' := by
  rw [← rightR_eq] at hR
  unfold rightR at hR
  rw [decide_eq_false_iff_not] at hR
  rcases Nat.lt_or_ge 1024 (bl P) with h1 | h1
  · exact rright_b1 h h1
  cases h2 : primeN P b12
  · exact rright_b2 h h1 h2
  cases h3 : primeN Q b12
  · exact rright_b3 h h1 h2 h3
  rcases Nat.lt_trichotomy 1 G with h4 | h4 | h4
  · rcases Nat.lt_trichotomy G P with h5 | h5 | h5
    · by_cases h6 : (P - 1) % Q = 0
      · rcases Nat.lt_trichotomy (G ^ Q % P) 1 with h7 | h7 | h7
        · exact rright_b9 h h1 h2 h3 h4 h5 (primeN_two h3) h6 h7
        · exact absurd ⟨h1, h2, h3, h4, h5, h6, h7⟩ hR
        · exact rright_b10 h h1 h2 h3 h4 h5 (primeN_two h3) h6 h7
      · exact rright_b8 h h1 h2 h3 h4 h5 (primeN_two h3) h6
    · exact rright_b7 h h1 h2 h3 h4 h5
    · exact rright_b6 h h1 h2 h3 h4 h5
  · exact rright_b5 h h1 h2 h3 h4.symm
  · exact rright_b4 h h1 h2 h3 h4
theorem rright_ok {w : World} {v : Value} {P Q G : Nat} (h : Pr w v P Q G) (hR : rightN P Q G = true) :
    Calls Tryz.prog 61 #[v] w fun e w' => e = .returned (.int .i64 0) ∧ Below w.heap.size w w' := by
  rw [← rightR_eq] at hR
  unfold rightR at hR
  rw [decide_eq_true_iff] at hR
  obtain ⟨h1, h2, h3, h4, h5, h6, h7⟩ := hR
  exact rright_ok1 h h1 h2 h3 h4 h5 (primeN_two h3) h6 h7
end Go.Proofs.YtkeejhkjbmegkaaGreatDoor
namespace Go.Proofs.YtkeejhkjbmegkaaGreatDoor
open Go.RowKit
set_option linter.unusedVariables false
set_option maxRecDepth 100000
set_option exponentiation.threshold 70000

theorem rmarkW {v : Nat} {w : World} {e : Ending} {w' : World} (k : Nat) (hk : bl v ≤ 8 * k) (hk2 : k ≤ 65536) (h : Rn.RWrote v (k : Int) w e w') :
    ∃ A c, e = .returned (.tuple #[.slice A k c, .int .i64 0]) ∧ Nb w' w'.heap.size A k c (bts v k) ∧ Below w.heap.size w w' := by
  rcases h with ⟨h1, _⟩ | ⟨⟨_, _, h1⟩, _⟩ | ⟨_, A, c, he, hn, _, hb⟩
  · omega
  · omega
  · rw [Int.toNat_natCast] at he hn
    exact ⟨A, c, he, hn, hb⟩
set_option maxHeartbeats 2000000 in
theorem rhash_any {w : World} {A : Option Addr} {n c v : Nat} {xs : List Nat} (h : Nt w w.heap.size A n c xs) (ev : val 18446744073709551616 xs = v) (hn : n ≤ 1000) :
    Calls Tryz.prog 65 #[.slice A n c] w fun e w' => ∃ A' c', e = .returned (.slice A' 16 c') ∧ MarkIs v w w' A' c' := by
  have hb := Rn.rbits_any h (by omega)
  have hble : bl v ≤ 64 * n := by
    have hp := h.below_pow (Nat.le_refl n)
    rw [ev, base_pow] at hp
    exact bl_le hp
  rw [ev] at hb
  obtain ⟨k, hke⟩ : ∃ k, (bl v + 7) / 8 = k := ⟨_, rfl⟩
  have hw := fun W (b : Below w.heap.size w W) => (Rn.rwrite_any (h.up b) (by omega) (k : Int) (by omega) (by omega)).mono fun e w' hh => rmarkW k (by rw [ev]; omega) (by omega) hh
  rw [ev] at hw
  have hm : markN v = (Sh.sha (bts v k)).take 16 := by unfold markN; rw [hke]
  unfold MarkIs
  rw [hm]
  have Hb := Lib.hid hb
  have Hw := Lib.hid hw
  have hk64 : k ≤ 8000 := by omega
  have hdiv2 : ((bl v : Int) + 7) / 8 = (k : Int) := by omega
  have hb64 : bl v ≤ 64000 := by omega
  clear hm hw hb hke hble
  generalize bl v = b at *
  go_enter Tryz.func65, Tryz.ntmps65
  go_wp2_with fail
  refine Hb.out.mono ?_
  rintro e w1 ⟨rfl, b1⟩
  go_wp2_with fail
  refine (Hw.out _ b1).mono ?_
  rintro e w2 ⟨A2, c2, rfl, ho, b2⟩
  have ht := Sh.rtrunc_in ho.sh (by omega) 16 (by omega)
  have Ht := Lib.hid ht
  clear ht
  go_wp2_with fail
  refine Ht.out.mono ?_
  rintro e w3 ⟨A3, c3, rfl, hN3, b3⟩
  go_wp2_with fail
  go_ret
  exact ⟨_, _, rfl, hN3, bthen (bthen b1 b2) b3⟩
theorem less_ge {a b n : Nat} (h0 : 0 < n) (h : b % n ≤ a % n) : lessN a b n = a % n - b % n := by
  unfold lessN
  rw [show a % n + n - b % n = (a % n - b % n) + n by omega, Nat.add_mod_right]
  exact Nat.mod_eq_of_lt (by have := Nat.mod_lt a h0; omega)
theorem less_lt {a b n : Nat} (h0 : 0 < n) (h : a % n < b % n) : lessN a b n = a % n + n - b % n := by
  unfold lessN
  exact Nat.mod_eq_of_lt (by have := Nat.mod_lt a h0; have := Nat.mod_lt b h0; omega)
set_option maxHeartbeats 2000000 in
theorem rminus_pos {w : World} {A B C : Option Addr} {na ca nb cb nc cc a b n : Nat} {xs ys zs : List Nat} (ha : Nt w w.heap.size A na ca xs) (hb : Nt w w.heap.size B nb cb ys) (hc : Nt w w.heap.size C nc cc zs)
    (ea : val 18446744073709551616 xs = a) (eb : val 18446744073709551616 ys = b) (en : val 18446744073709551616 zs = n) (hna : na ≤ 1000) (hnb : nb ≤ 1000) (hnc : nc ≤ 100) (h0 : 0 < n) :
    Calls Tryz.prog 74 #[.slice A na ca, .slice B nb cb, .slice C nc cc] w (RetS (lessN a b n) w) := by
  have pn := hc.below_pow hnc
  rw [en] at pn
  have Pn := Lib.hid pn
  have Lg := Lib.hid (less_ge (a := a) (b := b) h0)
  have Ll := Lib.hid (less_lt (a := a) (b := b) h0)
  have la := Nat.mod_lt a h0
  have lb := Nat.mod_lt b h0
  clear pn
  go_enter Tryz.func74, Tryz.ntmps74
  go_wp2_with fail
  refine (rmod_pos ha hc (by omega) (by omega) (by rw [en]; exact h0)).mono ?_
  rintro e w1 ⟨A1, n1, c1, x1, rfl, r1⟩
  rw [ea, en] at r1
  have v1 := r1.is
  have l1 : n1 ≤ 100 := r1.le (Nat.lt_trans la Pn.out)
  have B1 := r1.bel
  go_wp2_with fail
  refine (rmod_pos (hb.up B1) (hc.up B1) (by omega) (by omega) (by rw [en]; exact h0)).mono ?_
  rintro e w2 ⟨A2, n2, c2, x2, rfl, r2⟩
  rw [eb, en] at r2
  have v2 := r2.is
  have l2 : n2 ≤ 100 := r2.le (Nat.lt_trans lb Pn.out)
  have B2 := bthen B1 r2.bel
  have m1 := r1.nt.up r2.bel
  go_wp2_with fail
  generalize a % n = x at *
  generalize b % n = y at *
  rcases Nat.lt_or_ge x y with hlt | hge
  · refine (rsub_no m1 r2.nt (by omega) (by omega) (by rw [v1, v2]; exact hlt)).mono ?_
    rintro e w3 ⟨rfl, b3⟩
    have B3 := bthen B2 b3
    go_wp2_with fail
    refine (Rn.radd_any (m1.up b3) (hc.up B3) (by omega) (by omega)).mono ?_
    intro e w4 hr
    obtain ⟨A4, n4, c4, x4, rfl, r4⟩ := hr.s
    rw [v1, en] at r4
    have v4 := r4.is
    have l4 : n4 ≤ 101 := r4.le (add_pow (i := 100) (Nat.lt_trans la Pn.out) Pn.out)
    have B4 := bthen B3 r4.bel
    go_wp2_with fail
    refine (rsub_ok r4.nt ((r2.nt.up b3).up r4.bel) (by omega) (by omega) (by rw [v4, v2]; omega)).mono ?_
    rintro e w5 ⟨A5, n5, c5, x5, rfl, r5⟩
    rw [v4, v2] at r5
    have B5 := bthen B4 r5.bel
    go_wp2_with fail
    go_ret
    rw [Ll.out hlt]
    exact ⟨_, _, _, _, rfl, r5.nt, r5.trm, r5.is, B5⟩
  · refine (rsub_ok m1 r2.nt (by omega) (by omega) (by rw [v1, v2]; exact hge)).mono ?_
    rintro e w3 ⟨A3, n3, c3, x3, rfl, r3⟩
    rw [v1, v2] at r3
    have B3 := bthen B2 r3.bel
    go_wp2_with fail
    go_ret
    rw [Lg.out hge]
    exact ⟨_, _, _, _, rfl, r3.nt, r3.trm, r3.is, B3⟩
end Go.Proofs.YtkeejhkjbmegkaaGreatDoor
namespace Go.Proofs.YtkeejhkjbmegkaaGreatDoor
open Go.RowKit
set_option linter.unusedVariables false
set_option maxRecDepth 100000
set_option exponentiation.threshold 70000

set_option maxHeartbeats 4000000 in
theorem rface_bad {w : World} {v : Value} {P Q G : Nat} (h : Pr w v P Q G) (Ab : Option Addr) (nb cb : Nat) (hR : rightN P Q G = false) :
    Calls Tryz.prog 25 #[v, .slice Ab nb cb] w (RetBad 60 w) := by
  have HR := Lib.hid hR
  have Hh := Lib.hid h
  obtain ⟨A1, n1, c1, x1, A2, n2, c2, x2, A3, n3, c3, x3, rfl, h1', e1, l1, h2', e2, l2, h3', e3, l3⟩ := h.ex
  clear h hR
  obtain ⟨w0, e0⟩ : ∃ w0, w0 = w.alloc (.cells #[Value.slice A1 n1 c1, .slice A2 n2 c2, .slice A3 n3 c3] 40) := ⟨_, rfl⟩
  obtain ⟨hx0, b0⟩ := box_new e0
  have h1 := h1'.up b0
  have h2 := h2'.up b0
  have h3 := h3'.up b0
  clear h1' h2' h3'
  have q0 := hx0.c0
  have q1 := hx0.c1
  have q2 := hx0.c2
  go_enter Tryz.func25, Tryz.ntmps25
  go_wp2_with fail
  rw [← e0]
  clear e0
  refine (rright_bad (Hh.out.up b0) HR.out).mono ?_
  rintro e w1 ⟨rfl, B1⟩
  have hy := hx0.up B1
  have y0 := hy.c0
  have y1 := hy.c1
  have y2 := hy.c2
  go_wp2_with fail
  go_ret2
  exact ⟨rfl, bthen b0 B1⟩
set_option maxHeartbeats 4000000 in
theorem rmark_bad {w : World} {v : Value} {P Q G : Nat} (h : Pr w v P Q G) (Ab : Option Addr) (nb cb : Nat) (hR : rightN P Q G = false) :
    Calls Tryz.prog 27 #[v, .slice Ab nb cb] w (RetBad 60 w) := by
  have HR := Lib.hid hR
  have Hh := Lib.hid h
  obtain ⟨A1, n1, c1, x1, A2, n2, c2, x2, A3, n3, c3, x3, rfl, h1', e1, l1, h2', e2, l2, h3', e3, l3⟩ := h.ex
  clear h hR
  obtain ⟨w0, e0⟩ : ∃ w0, w0 = w.alloc (.cells #[Value.slice A1 n1 c1, .slice A2 n2 c2, .slice A3 n3 c3] 40) := ⟨_, rfl⟩
  obtain ⟨hx0, b0⟩ := box_new e0
  have h1 := h1'.up b0
  have h2 := h2'.up b0
  have h3 := h3'.up b0
  clear h1' h2' h3'
  have q0 := hx0.c0
  have q1 := hx0.c1
  have q2 := hx0.c2
  go_enter Tryz.func27, Tryz.ntmps27
  go_wp2_with fail
  rw [← e0]
  clear e0
  refine (rright_bad (Hh.out.up b0) HR.out).mono ?_
  rintro e w1 ⟨rfl, B1⟩
  have hy := hx0.up B1
  have y0 := hy.c0
  have y1 := hy.c1
  have y2 := hy.c2
  go_wp2_with fail
  go_ret2
  exact ⟨rfl, bthen b0 B1⟩
set_option maxHeartbeats 4000000 in
theorem ranswer_bad {w : World} {v : Value} {P Q G : Nat} (h : Pr w v P Q G) (Ab : Option Addr) (nb cb : Nat) (Ak : Option Addr) (nk ck : Nat) (Ar : Option Addr) (nr cr : Nat) (hR : rightN P Q G = false) :
    Calls Tryz.prog 29 #[v, .slice Ab nb cb, .slice Ak nk ck, .slice Ar nr cr] w (RetBad 60 w) := by
  have HR := Lib.hid hR
  have Hh := Lib.hid h
  obtain ⟨A1, n1, c1, x1, A2, n2, c2, x2, A3, n3, c3, x3, rfl, h1', e1, l1, h2', e2, l2, h3', e3, l3⟩ := h.ex
  clear h hR
  obtain ⟨w0, e0⟩ : ∃ w0, w0 = w.alloc (.cells #[Value.slice A1 n1 c1, .slice A2 n2 c2, .slice A3 n3 c3] 40) := ⟨_, rfl⟩
  obtain ⟨hx0, b0⟩ := box_new e0
  have h1 := h1'.up b0
  have h2 := h2'.up b0
  have h3 := h3'.up b0
  clear h1' h2' h3'
  have q0 := hx0.c0
  have q1 := hx0.c1
  have q2 := hx0.c2
  go_enter Tryz.func29, Tryz.ntmps29
  go_wp2_with fail
  rw [← e0]
  clear e0
  refine (rright_bad (Hh.out.up b0) HR.out).mono ?_
  rintro e w1 ⟨rfl, B1⟩
  have hy := hx0.up B1
  have y0 := hy.c0
  have y1 := hy.c1
  have y2 := hy.c2
  go_wp2_with fail
  go_ret2
  exact ⟨rfl, bthen b0 B1⟩
set_option maxHeartbeats 4000000 in
theorem rextract_bad {w : World} {v : Value} {P Q G : Nat} (h : Pr w v P Q G) (Ab : Option Addr) (nb cb : Nat) (Ak : Option Addr) (nk ck : Nat) (Ar : Option Addr) (nr cr : Nat) (As : Option Addr) (ns cs : Nat) (hR : rightN P Q G = false) :
    Calls Tryz.prog 34 #[v, .slice Ab nb cb, .slice Ak nk ck, .slice Ar nr cr, .slice As ns cs] w (RetBad 60 w) := by
  have HR := Lib.hid hR
  have Hh := Lib.hid h
  obtain ⟨A1, n1, c1, x1, A2, n2, c2, x2, A3, n3, c3, x3, rfl, h1', e1, l1, h2', e2, l2, h3', e3, l3⟩ := h.ex
  clear h hR
  obtain ⟨w0, e0⟩ : ∃ w0, w0 = w.alloc (.cells #[Value.slice A1 n1 c1, .slice A2 n2 c2, .slice A3 n3 c3] 40) := ⟨_, rfl⟩
  obtain ⟨hx0, b0⟩ := box_new e0
  have h1 := h1'.up b0
  have h2 := h2'.up b0
  have h3 := h3'.up b0
  clear h1' h2' h3'
  have q0 := hx0.c0
  have q1 := hx0.c1
  have q2 := hx0.c2
  go_enter Tryz.func34, Tryz.ntmps34
  go_wp2_with fail
  rw [← e0]
  clear e0
  refine (rright_bad (Hh.out.up b0) HR.out).mono ?_
  rintro e w1 ⟨rfl, B1⟩
  have hy := hx0.up B1
  have y0 := hy.c0
  have y1 := hy.c1
  have y2 := hy.c2
  go_wp2_with fail
  go_ret2
  exact ⟨rfl, bthen b0 B1⟩
set_option maxHeartbeats 4000000 in
theorem rholds_bad {w : World} {v : Value} {P Q G : Nat} (h : Pr w v P Q G) (Av : Option Addr) (nv cv : Nat) (Ar : Option Addr) (nr cr : Nat) (Ay : Option Addr) (ny cy : Nat) (Am : Option Addr) (nm cm : Nat) (hR : rightN P Q G = false) :
    Calls Tryz.prog 32 #[v, .slice Av nv cv, .slice Ar nr cr, .slice Ay ny cy, .slice Am nm cm] w fun e w' => e = .returned (.bool false) ∧ Below w.heap.size w w' := by
  have HR := Lib.hid hR
  have Hh := Lib.hid h
  obtain ⟨A1, n1, c1, x1, A2, n2, c2, x2, A3, n3, c3, x3, rfl, h1', e1, l1, h2', e2, l2, h3', e3, l3⟩ := h.ex
  clear h hR
  obtain ⟨w0, e0⟩ : ∃ w0, w0 = w.alloc (.cells #[Value.slice A1 n1 c1, .slice A2 n2 c2, .slice A3 n3 c3] 40) := ⟨_, rfl⟩
  obtain ⟨hx0, b0⟩ := box_new e0
  have h1 := h1'.up b0
  have h2 := h2'.up b0
  have h3 := h3'.up b0
  clear h1' h2' h3'
  have q0 := hx0.c0
  have q1 := hx0.c1
  have q2 := hx0.c2
  go_enter Tryz.func32, Tryz.ntmps32
  go_wp2_with fail
  rw [← e0]
  clear e0
  refine (rright_bad (Hh.out.up b0) HR.out).mono ?_
  rintro e w1 ⟨rfl, B1⟩
  have hy := hx0.up B1
  have y0 := hy.c0
  have y1 := hy.c1
  have y2 := hy.c2
  go_wp2_with fail
  go_ret
  exact ⟨rfl, bthen b0 B1⟩
end Go.Proofs.YtkeejhkjbmegkaaGreatDoor
namespace Go.Proofs.YtkeejhkjbmegkaaGreatDoor
open Go.RowKit
set_option linter.unusedVariables false
set_option maxRecDepth 100000
set_option exponentiation.threshold 70000

set_option maxHeartbeats 4000000 in
theorem rface_any {w : World} {v : Value} {P Q G : Nat} (h : Pr w v P Q G) {Ab : Option Addr} {nb cb b : Nat} {xb : List Nat} (hb : Nt w w.heap.size Ab nb cb xb) (eb : val 18446744073709551616 xb = b) (lb : nb ≤ 1000) (hR : rightN P Q G = true) (hg : Nat.gcd (G ^ b % P) P = 1) :
    Calls Tryz.prog 25 #[v, .slice Ab nb cb] w fun e w' => ∃ f, f < P ∧ G ^ b % P * f % P = 1 % P ∧ RetT f w e w' := by
  have Hg := Lib.hid hg
  clear hg
  have HR := Lib.hid hR
  have Hh := Lib.hid h
  obtain ⟨A1, n1, c1, x1, A2, n2, c2, x2, A3, n3, c3, x3, rfl, h1', e1, l1, h2', e2, l2, h3', e3, l3⟩ := h.ex
  clear h hR
  obtain ⟨w0, e0⟩ : ∃ w0, w0 = w.alloc (.cells #[Value.slice A1 n1 c1, .slice A2 n2 c2, .slice A3 n3 c3] 40) := ⟨_, rfl⟩
  obtain ⟨hx0, b0⟩ := box_new e0
  have h1 := h1'.up b0
  have h2 := h2'.up b0
  have h3 := h3'.up b0
  clear h1' h2' h3'
  have q0 := hx0.c0
  have q1 := hx0.c1
  have q2 := hx0.c2
  have ib := hb.up b0
  go_enter Tryz.func25, Tryz.ntmps25
  go_wp2_with fail
  rw [← e0]
  clear e0
  refine (rright_ok (Hh.out.up b0) HR.out).mono ?_
  rintro e w1 ⟨rfl, B1⟩
  have hy := hx0.up B1
  have y0 := hy.c0
  have y1 := hy.c1
  have y2 := hy.c2
  obtain ⟨hP2, hQ2, _, _, _, _⟩ := rightN_parts HR.out
  have pP := h1.below_pow l1
  rw [e1] at pP
  have PP := Lib.hid pP
  have pQ := h2.below_pow l2
  rw [e2] at pQ
  have PQ := Lib.hid pQ
  clear pP pQ
  have jb := ib.up B1
  go_wp2_with fail
  refine (rpow_pos (h3.up B1) jb (h1.up B1) (by omega) (by omega) (by omega) (by rw [e1]; omega)).mono ?_
  rintro e w12 ⟨A12, n12, c12, x12, rfl, r12⟩
  rw [e3, eb, e1] at r12
  have v12 := r12.is
  have l12 : n12 ≤ 100 := r12.le (Nat.lt_trans (Nat.mod_lt _ (by omega)) PP.out)
  have B12 := bthen B1 r12.bel
  have hy12 := hx0.up B12
  have y120 := hy12.c0
  have y121 := hy12.c1
  have y122 := hy12.c2
  go_wp2_with fail
  have hi := rinv_any r12.nt (h1.up B12) (by omega) (by omega) (by rw [e1]; omega)
  rw [v12, e1] at hi
  refine hi.mono ?_
  rintro e w3 ⟨_, hg2⟩
  obtain ⟨f, hf1, hf2, A3, n3, c3, x3, rfl, r13⟩ := hg2 Hg.out
  have HF := Lib.hid hf2
  clear hf2
  go_wp2_with fail
  go_ret2
  exact ⟨f, hf1, HF.out, _, _, _, _, rfl, r13.nt, r13.trm, r13.is, bthen b0 (bthen B12 r13.bel)⟩
set_option maxHeartbeats 4000000 in
theorem rmark_any {w : World} {v : Value} {P Q G : Nat} (h : Pr w v P Q G) {Ab : Option Addr} {nb cb b : Nat} {xb : List Nat} (hb : Nt w w.heap.size Ab nb cb xb) (eb : val 18446744073709551616 xb = b) (lb : nb ≤ 1000) (hR : rightN P Q G = true) :
    Calls Tryz.prog 27 #[v, .slice Ab nb cb] w fun e w' => ∃ A' c', e = .returned (.tuple #[.slice A' 16 c', .int .i64 0]) ∧ MarkIs (G ^ b % P) w w' A' c' := by
  have HR := Lib.hid hR
  have Hh := Lib.hid h
  obtain ⟨A1, n1, c1, x1, A2, n2, c2, x2, A3, n3, c3, x3, rfl, h1', e1, l1, h2', e2, l2, h3', e3, l3⟩ := h.ex
  clear h hR
  obtain ⟨w0, e0⟩ : ∃ w0, w0 = w.alloc (.cells #[Value.slice A1 n1 c1, .slice A2 n2 c2, .slice A3 n3 c3] 40) := ⟨_, rfl⟩
  obtain ⟨hx0, b0⟩ := box_new e0
  have h1 := h1'.up b0
  have h2 := h2'.up b0
  have h3 := h3'.up b0
  clear h1' h2' h3'
  have q0 := hx0.c0
  have q1 := hx0.c1
  have q2 := hx0.c2
  have ib := hb.up b0
  go_enter Tryz.func27, Tryz.ntmps27
  go_wp2_with fail
  rw [← e0]
  clear e0
  refine (rright_ok (Hh.out.up b0) HR.out).mono ?_
  rintro e w1 ⟨rfl, B1⟩
  have hy := hx0.up B1
  have y0 := hy.c0
  have y1 := hy.c1
  have y2 := hy.c2
  obtain ⟨hP2, hQ2, _, _, _, _⟩ := rightN_parts HR.out
  have pP := h1.below_pow l1
  rw [e1] at pP
  have PP := Lib.hid pP
  have pQ := h2.below_pow l2
  rw [e2] at pQ
  have PQ := Lib.hid pQ
  clear pP pQ
  have jb := ib.up B1
  go_wp2_with fail
  refine (rpow_pos (h3.up B1) jb (h1.up B1) (by omega) (by omega) (by omega) (by rw [e1]; omega)).mono ?_
  rintro e w12 ⟨A12, n12, c12, x12, rfl, r12⟩
  rw [e3, eb, e1] at r12
  have v12 := r12.is
  have l12 : n12 ≤ 100 := r12.le (Nat.lt_trans (Nat.mod_lt _ (by omega)) PP.out)
  have B12 := bthen B1 r12.bel
  have hy12 := hx0.up B12
  have y120 := hy12.c0
  have y121 := hy12.c1
  have y122 := hy12.c2
  go_wp2_with fail
  refine (rhash_any r12.nt v12 (by omega)).mono ?_
  rintro e w3 ⟨A3, c3, rfl, hm⟩
  go_wp2_with fail
  go_ret2
  exact ⟨_, _, rfl, hm.1, bthen b0 (bthen B12 hm.2)⟩
set_option maxHeartbeats 4000000 in
theorem ranswer_any {w : World} {v : Value} {P Q G : Nat} (h : Pr w v P Q G) {Ab : Option Addr} {nb cb b : Nat} {xb : List Nat} (hb : Nt w w.heap.size Ab nb cb xb) (eb : val 18446744073709551616 xb = b) (lb : nb ≤ 1000) {Ak : Option Addr} {nk ck k : Nat} {xk : List Nat} (hk : Nt w w.heap.size Ak nk ck xk) (ek : val 18446744073709551616 xk = k) (lk : nk ≤ 1000) {Ar : Option Addr} {nr cr r : Nat} {xr : List Nat} (hr : Nt w w.heap.size Ar nr cr xr) (er : val 18446744073709551616 xr = r) (lr : nr ≤ 1000) (hR : rightN P Q G = true) :
    Calls Tryz.prog 29 #[v, .slice Ab nb cb, .slice Ak nk ck, .slice Ar nr cr] w (RetT ((b * r % Q + k) % Q) w) := by
  have HR := Lib.hid hR
  have Hh := Lib.hid h
  obtain ⟨A1, n1, c1, x1, A2, n2, c2, x2, A3, n3, c3, x3, rfl, h1', e1, l1, h2', e2, l2, h3', e3, l3⟩ := h.ex
  clear h hR
  obtain ⟨w0, e0⟩ : ∃ w0, w0 = w.alloc (.cells #[Value.slice A1 n1 c1, .slice A2 n2 c2, .slice A3 n3 c3] 40) := ⟨_, rfl⟩
  obtain ⟨hx0, b0⟩ := box_new e0
  have h1 := h1'.up b0
  have h2 := h2'.up b0
  have h3 := h3'.up b0
  clear h1' h2' h3'
  have q0 := hx0.c0
  have q1 := hx0.c1
  have q2 := hx0.c2
  have ib := hb.up b0
  have ik := hk.up b0
  have ir := hr.up b0
  go_enter Tryz.func29, Tryz.ntmps29
  go_wp2_with fail
  rw [← e0]
  clear e0
  refine (rright_ok (Hh.out.up b0) HR.out).mono ?_
  rintro e w1 ⟨rfl, B1⟩
  have hy := hx0.up B1
  have y0 := hy.c0
  have y1 := hy.c1
  have y2 := hy.c2
  obtain ⟨hP2, hQ2, _, _, _, _⟩ := rightN_parts HR.out
  have pP := h1.below_pow l1
  rw [e1] at pP
  have PP := Lib.hid pP
  have pQ := h2.below_pow l2
  rw [e2] at pQ
  have PQ := Lib.hid pQ
  clear pP pQ
  have jb := ib.up B1
  have jk := ik.up B1
  have jr := ir.up B1
  go_wp2_with fail
  refine (rmul_pos jb jr (h2.up B1) (by omega) (by omega) (by omega) (by rw [e2]; omega)).mono ?_
  rintro e w12 ⟨A12, n12, c12, x12, rfl, r12⟩
  rw [eb, er, e2] at r12
  have v12 := r12.is
  have l12 : n12 ≤ 100 := r12.le (Nat.lt_trans (Nat.mod_lt _ (by omega)) PQ.out)
  have B12 := bthen B1 r12.bel
  have hy12 := hx0.up B12
  have y120 := hy12.c0
  have y121 := hy12.c1
  have y122 := hy12.c2
  go_wp2_with fail
  have hyd : Bx w12.drew w.heap.size (.slice A1 n1 c1) (.slice A2 n2 c2) (.slice A3 n3 c3) := ⟨(hx0.up B12).lt, (hx0.up B12).c0, (hx0.up B12).c1, (hx0.up B12).c2⟩
  have bd : Below w12.heap.size w12 w12.drew := (Below.refl _ _).drew
  have B12d := bthen B12 bd
  have z0 := hyd.c0
  have z1 := hyd.c1
  have z2 := hyd.c2
  have m2 := r12.nt.up bd
  have mk := ik.up B12d
  have mq := h2.up B12d
  have pk := mk.below_pow lk
  rw [ek] at pk
  have Psum := Lib.hid (add_pow (more_pow (Nat.lt_trans (Nat.mod_lt (b * r) (show 0 < Q by omega)) PQ.out) (show 100 ≤ 1000 by omega)) pk)
  clear pk
  go_region_held3 (fun w' => w'.cell? ⟨w.heap.size, 0, none⟩ = some (Value.slice A1 n1 c1) ∧ w'.cell? ⟨w.heap.size, 1, none⟩ = some (Value.slice A2 n2 c2) ∧ w'.cell? ⟨w.heap.size, 2, none⟩ = some (Value.slice A3 n3 c3))
    (first | exact ⟨g5.c0, g5.c1, g5.c2⟩ | exact ⟨g4.c0, g4.c1, g4.c2⟩ | exact ⟨hyd.c0, hyd.c1, hyd.c2⟩)
    ((first
      | (go_at_call 71; refine (Rn.radd_any m2 mk (by omega) (by omega)).mono ?_; intro e w4 hr4; obtain ⟨A4, n4, c4, x4, rfl, r4⟩ := hr4.s
         have g4 := hyd.up r4.bel
         rw [v12, ek] at r4
         have v4 := r4.is
         have l4 : n4 ≤ 1001 := r4.le Psum.out)
      | (go_at_call 70; refine (rmod_pos r4.nt (mq.up r4.bel) (by omega) (by omega) (by rw [e2]; omega)).mono ?_; rintro e w5 ⟨A5, n5, c5, x5, rfl, r5⟩
         rw [v4, e2] at r5
         have g5 := g4.up r5.bel)))
  all_goals
    have B5 := bthen (bthen B12d r4.bel) r5.bel
    go_wp2_with fail
    go_ret2
    exact ⟨_, _, _, _, rfl, r5.nt, r5.trm, r5.is, bthen b0 B5⟩
end Go.Proofs.YtkeejhkjbmegkaaGreatDoor
namespace Go.Proofs.YtkeejhkjbmegkaaGreatDoor
open Go.RowKit
set_option linter.unusedVariables false
set_option maxRecDepth 100000
set_option exponentiation.threshold 70000

set_option maxHeartbeats 4000000 in
theorem rholds_any {w : World} {v : Value} {P Q G : Nat} (h : Pr w v P Q G) {Ab : Option Addr} {nb cb b : Nat} {xb : List Nat} (hb : Nt w w.heap.size Ab nb cb xb) (eb : val 18446744073709551616 xb = b) (lb : nb ≤ 1000) {Ar : Option Addr} {nr cr r : Nat} {xr : List Nat} (hr : Nt w w.heap.size Ar nr cr xr) (er : val 18446744073709551616 xr = r) (lr : nr ≤ 1000) {Ay : Option Addr} {ny cy y : Nat} {xy : List Nat} (hy : Nt w w.heap.size Ay ny cy xy) (ey : val 18446744073709551616 xy = y) (ly : ny ≤ 1000) {Am : Option Addr} {nm cm : Nat} {mm : List Nat} (hm : Sh.Nb w w.heap.size Am nm cm mm) (hR : rightN P Q G = true) :
    Calls Tryz.prog 32 #[v, .slice Ab nb cb, .slice Ar nr cr, .slice Ay ny cy, .slice Am nm cm] w fun e w' => e = .returned (.bool ((bstr (markN (G ^ y % P * (b ^ r % P) % P))).toList == (bstr mm).toList)) ∧ Below w.heap.size w w' := by
  obtain ⟨rb, hrb⟩ : ∃ rb, ((bstr (markN (G ^ y % P * (b ^ r % P) % P))).toList == (bstr mm).toList) = rb := ⟨_, rfl⟩
  rw [hrb]
  have Hrb := Lib.hid hrb
  clear hrb
  have HR := Lib.hid hR
  have Hh := Lib.hid h
  obtain ⟨A1, n1, c1, x1, A2, n2, c2, x2, A3, n3, c3, x3, rfl, h1', e1, l1, h2', e2, l2, h3', e3, l3⟩ := h.ex
  clear h hR
  obtain ⟨w0, e0⟩ : ∃ w0, w0 = w.alloc (.cells #[Value.slice A1 n1 c1, .slice A2 n2 c2, .slice A3 n3 c3] 40) := ⟨_, rfl⟩
  obtain ⟨hx0, b0⟩ := box_new e0
  have h1 := h1'.up b0
  have h2 := h2'.up b0
  have h3 := h3'.up b0
  clear h1' h2' h3'
  have q0 := hx0.c0
  have q1 := hx0.c1
  have q2 := hx0.c2
  have ib := hb.up b0
  have ir := hr.up b0
  have iy := hy.up b0
  have im := hm.go b0
  go_enter Tryz.func32, Tryz.ntmps32
  go_wp2_with fail
  rw [← e0]
  clear e0
  refine (rright_ok (Hh.out.up b0) HR.out).mono ?_
  rintro e w1 ⟨rfl, B1⟩
  have hy := hx0.up B1
  have y0 := hy.c0
  have y1 := hy.c1
  have y2 := hy.c2
  obtain ⟨hP2, hQ2, _, _, _, _⟩ := rightN_parts HR.out
  have pP := h1.below_pow l1
  rw [e1] at pP
  have PP := Lib.hid pP
  have pQ := h2.below_pow l2
  rw [e2] at pQ
  have PQ := Lib.hid pQ
  clear pP pQ
  have jb := ib.up B1
  have jr := ir.up B1
  have jy := iy.up B1
  have jm := im.go B1
  go_wp2_with fail
  refine (rpow_pos (h3.up B1) jy (h1.up B1) (by omega) (by omega) (by omega) (by rw [e1]; omega)).mono ?_
  rintro e w12 ⟨A12, n12, c12, x12, rfl, r12⟩
  rw [e3, ey, e1] at r12
  have v12 := r12.is
  have l12 : n12 ≤ 100 := r12.le (Nat.lt_trans (Nat.mod_lt _ (by omega)) PP.out)
  have B12 := bthen B1 r12.bel
  have hy12 := hx0.up B12
  have y120 := hy12.c0
  have y121 := hy12.c1
  have y122 := hy12.c2
  go_wp2_with fail
  refine (rpow_pos (jb.up r12.bel) (jr.up r12.bel) (h1.up B12) (by omega) (by omega) (by omega) (by rw [e1]; omega)).mono ?_
  rintro e w13 ⟨A13, n13, c13, x13, rfl, r13⟩
  rw [eb, er, e1] at r13
  have v13 := r13.is
  have l13 : n13 ≤ 100 := r13.le (Nat.lt_trans (Nat.mod_lt _ (by omega)) PP.out)
  have B13 := bthen B12 r13.bel
  have hy13 := hx0.up B13
  have y130 := hy13.c0
  have y131 := hy13.c1
  have y132 := hy13.c2
  go_wp2_with fail
  refine (rmul_pos (r12.nt.up r13.bel) r13.nt (h1.up B13) (by omega) (by omega) (by omega) (by rw [e1]; omega)).mono ?_
  rintro e w14 ⟨A14, n14, c14, x14, rfl, r14⟩
  rw [v12, v13, e1] at r14
  have v14 := r14.is
  have l14 : n14 ≤ 100 := r14.le (Nat.lt_trans (Nat.mod_lt _ (by omega)) PP.out)
  have B14 := bthen B13 r14.bel
  have hy14 := hx0.up B14
  have y140 := hy14.c0
  have y141 := hy14.c1
  have y142 := hy14.c2
  go_wp2_with fail
  have bd : Below w14.heap.size w14 w14.drew := (Below.refl _ _).drew
  have m4 := r14.nt.up bd
  have jm4 := jm.go (bthen (bthen (bthen r12.bel r13.bel) r14.bel) bd)
  have B14d := bthen B14 bd
  obtain ⟨S1, hS1⟩ : ∃ S, bstr (markN (G ^ y % P * (b ^ r % P) % P)) = S := ⟨_, rfl⟩
  obtain ⟨S2, hS2⟩ : ∃ S, bstr mm = S := ⟨_, rfl⟩
  have hSS : (S1.toList == S2.toList) = rb := by rw [← hS1, ← hS2]; exact Hrb.out
  have HS1 := Lib.hid hS1
  have HS2 := Lib.hid hS2
  have hcv1 := conv_any jm4
  rw [hS2] at hcv1
  clear hS1 hS2
  have Hmm := Lib.hid jm4
  have V4 := Lib.hid v14
  clear v14 v13 v12
  first
   | (go_region_with ((first
      | (go_at_call 65; refine (rhash_any m4 V4.out (by omega)).mono ?_; rintro e w5 ⟨A5, c5, rfl, hm5⟩
         have hcv2 := conv_any hm5.1
         rw [HS1.out] at hcv2
         have b5 := hm5.2
         have hcv3 := conv_any (Hmm.out.go b5)
         rw [HS2.out] at hcv3))))
   | fail
  all_goals
    have B5 := bthen B14d b5
    go_wp2_with fail
    go_ret
    exact ⟨rfl, bthen b0 B5⟩
end Go.Proofs.YtkeejhkjbmegkaaGreatDoor
namespace Go.Proofs.YtkeejhkjbmegkaaGreatDoor
open Go.RowKit
set_option linter.unusedVariables false
set_option maxRecDepth 100000
set_option exponentiation.threshold 70000

set_option maxHeartbeats 4000000 in
theorem rextract_any {w : World} {v : Value} {P Q G : Nat} (h : Pr w v P Q G) {Ab : Option Addr} {nb cb b : Nat} {xb : List Nat} (hb : Nt w w.heap.size Ab nb cb xb) (eb : val 18446744073709551616 xb = b) (lb : nb ≤ 1000) {Ak : Option Addr} {nk ck k : Nat} {xk : List Nat} (hk : Nt w w.heap.size Ak nk ck xk) (ek : val 18446744073709551616 xk = k) (lk : nk ≤ 1000) {Ar : Option Addr} {nr cr r : Nat} {xr : List Nat} (hr : Nt w w.heap.size Ar nr cr xr) (er : val 18446744073709551616 xr = r) (lr : nr ≤ 1000) {As : Option Addr} {ns cs s : Nat} {xs : List Nat} (hs : Nt w w.heap.size As ns cs xs) (es : val 18446744073709551616 xs = s) (ls : ns ≤ 1000) (hR : rightN P Q G = true) :
    Calls Tryz.prog 34 #[v, .slice Ab nb cb, .slice Ak nk ck, .slice Ar nr cr, .slice As ns cs] w fun e w' =>
      (Nat.gcd (lessN b r Q) Q ≠ 1 → RetBad 30 w e w') ∧ (Nat.gcd (lessN b r Q) Q = 1 → ∃ f, f < Q ∧ lessN b r Q * f % Q = 1 % Q ∧ RetT (lessN k s Q * f % Q) w e w') := by
  have HR := Lib.hid hR
  have Hh := Lib.hid h
  obtain ⟨A1, n1, c1, x1, A2, n2, c2, x2, A3, n3, c3, x3, rfl, h1', e1, l1, h2', e2, l2, h3', e3, l3⟩ := h.ex
  clear h hR
  obtain ⟨w0, e0⟩ : ∃ w0, w0 = w.alloc (.cells #[Value.slice A1 n1 c1, .slice A2 n2 c2, .slice A3 n3 c3] 40) := ⟨_, rfl⟩
  obtain ⟨hx0, b0⟩ := box_new e0
  have h1 := h1'.up b0
  have h2 := h2'.up b0
  have h3 := h3'.up b0
  clear h1' h2' h3'
  have q0 := hx0.c0
  have q1 := hx0.c1
  have q2 := hx0.c2
  have ib := hb.up b0
  have ik := hk.up b0
  have ir := hr.up b0
  have is := hs.up b0
  go_enter Tryz.func34, Tryz.ntmps34
  go_wp2_with fail
  rw [← e0]
  clear e0
  refine (rright_ok (Hh.out.up b0) HR.out).mono ?_
  rintro e w1 ⟨rfl, B1⟩
  have hy := hx0.up B1
  have y0 := hy.c0
  have y1 := hy.c1
  have y2 := hy.c2
  obtain ⟨hP2, hQ2, _, _, _, _⟩ := rightN_parts HR.out
  have pP := h1.below_pow l1
  rw [e1] at pP
  have PP := Lib.hid pP
  have pQ := h2.below_pow l2
  rw [e2] at pQ
  have PQ := Lib.hid pQ
  clear pP pQ
  have jb := ib.up B1
  have jk := ik.up B1
  have jr := ir.up B1
  have js := is.up B1
  go_wp2_with fail
  have hless : ∀ x y, lessN x y Q < Q := fun x y => Nat.mod_lt _ (by omega)
  have Hless := Lib.hid hless
  clear hless
  have hyd : Bx w1.drew w.heap.size (.slice A1 n1 c1) (.slice A2 n2 c2) (.slice A3 n3 c3) := ⟨(hx0.up B1).lt, (hx0.up B1).c0, (hx0.up B1).c1, (hx0.up B1).c2⟩
  have bd : Below w1.heap.size w1 w1.drew := (Below.refl _ _).drew
  have B1d := bthen B1 bd
  have z0 := hyd.c0
  have z1 := hyd.c1
  have z2 := hyd.c2
  have jbd := ib.up B1d
  have jrd := ir.up B1d
  have h2d := h2.up B1d
  have Hinv := Lib.hid (fun W {A n c A2 n2 c2 xs ys} (p : Nt W W.heap.size A n c xs) (q : Nt W W.heap.size A2 n2 c2 ys) (hn : n ≤ 100000) (hn2 : n2 ≤ 100000) (hb : 0 < val 18446744073709551616 ys) => rinv_any p q hn hn2 hb)
  rcases Nat.decEq (Nat.gcd (lessN b r Q) Q) 1 with hg | hg
  · have Hg := Lib.hid hg
    go_region_held3 (fun w' => w'.cell? ⟨w.heap.size, 0, none⟩ = some (Value.slice A1 n1 c1) ∧ w'.cell? ⟨w.heap.size, 1, none⟩ = some (Value.slice A2 n2 c2) ∧ w'.cell? ⟨w.heap.size, 2, none⟩ = some (Value.slice A3 n3 c3))
    (first | exact ⟨g5.c0, g5.c1, g5.c2⟩ | exact ⟨g4.c0, g4.c1, g4.c2⟩ | exact ⟨hyd.c0, hyd.c1, hyd.c2⟩)
      ((first
        | (go_at_call 74; refine (rminus_pos jbd jrd h2d eb er e2 (by omega) (by omega) (by omega) (by omega)).mono ?_; rintro e w4 ⟨A4, n4, c4, x4, rfl, r4⟩
           have g4 := hyd.up r4.bel
           have v4 := r4.is
           have l4 : n4 ≤ 100 := r4.le (Nat.lt_trans (Hless.out _ _) PQ.out))
        | (go_at_call 63; refine (Hinv.out _ r4.nt (h2d.up r4.bel) (by omega) (by omega) (by rw [e2]; omega)).mono ?_; intro e w5 hr5
           obtain ⟨rfl, b5⟩ := hr5.1 (by rw [v4, e2]; exact Hg.out)
           have g5 := g4.up b5)))
    all_goals
      have B5 := bthen (bthen B1d r4.bel) b5
      go_wp2_with fail
      go_ret2
      exact ⟨fun _ => ⟨rfl, bthen b0 B5⟩, fun hh => absurd hh Hg.out⟩
  · have Hg := Lib.hid hg
    go_region_held3 (fun w' => w'.cell? ⟨w.heap.size, 0, none⟩ = some (Value.slice A1 n1 c1) ∧ w'.cell? ⟨w.heap.size, 1, none⟩ = some (Value.slice A2 n2 c2) ∧ w'.cell? ⟨w.heap.size, 2, none⟩ = some (Value.slice A3 n3 c3))
    (first | exact ⟨g5.c0, g5.c1, g5.c2⟩ | exact ⟨g4.c0, g4.c1, g4.c2⟩ | exact ⟨hyd.c0, hyd.c1, hyd.c2⟩)
      ((first
        | (go_at_call 74; refine (rminus_pos jbd jrd h2d eb er e2 (by omega) (by omega) (by omega) (by omega)).mono ?_; rintro e w4 ⟨A4, n4, c4, x4, rfl, r4⟩
           have g4 := hyd.up r4.bel
           have v4 := r4.is
           have l4 : n4 ≤ 100 := r4.le (Nat.lt_trans (Hless.out _ _) PQ.out))
        | (go_at_call 63; refine (Hinv.out _ r4.nt (h2d.up r4.bel) (by omega) (by omega) (by rw [e2]; omega)).mono ?_; intro e w5 hr5
           obtain ⟨f, hf1, hf2, A5, n5, c5, x5, rfl, r5⟩ := hr5.2 (by rw [v4, e2]; exact Hg.out)
           rw [e2] at hf1
           rw [v4, e2] at hf2
           have Hf2 := Lib.hid hf2
           clear hf2
           have v5 := r5.is
           have l5 : n5 ≤ 100 := r5.le (Nat.lt_trans hf1 PQ.out)
           have g5 := g4.up r5.bel)))
    all_goals
      have B5 := bthen (bthen B1d r4.bel) r5.bel
      have k0 := g5.c0
      have k1 := g5.c1
      have k2 := g5.c2
      go_wp2_with fail
      have hye : Bx w5.drew w.heap.size (.slice A1 n1 c1) (.slice A2 n2 c2) (.slice A3 n3 c3) := ⟨g5.lt, g5.c0, g5.c1, g5.c2⟩
      have be : Below w5.heap.size w5 w5.drew := (Below.refl _ _).drew
      have B5d := bthen B5 be
      have jke := ik.up B5d
      have jse := is.up B5d
      have h2e := h2.up B5d
      have m5 := r5.nt.up be
      have k0 := hye.c0
      have k1 := hye.c1
      have k2 := hye.c2
      go_region_held3 (fun w' => w'.cell? ⟨w.heap.size, 0, none⟩ = some (Value.slice A1 n1 c1) ∧ w'.cell? ⟨w.heap.size, 1, none⟩ = some (Value.slice A2 n2 c2) ∧ w'.cell? ⟨w.heap.size, 2, none⟩ = some (Value.slice A3 n3 c3))
    (first | exact ⟨g7.c0, g7.c1, g7.c2⟩ | exact ⟨g6.c0, g6.c1, g6.c2⟩ | exact ⟨hye.c0, hye.c1, hye.c2⟩)
        ((first
          | (go_at_call 74; refine (rminus_pos jke jse h2e ek es e2 (by omega) (by omega) (by omega) (by omega)).mono ?_; rintro e w6 ⟨A6, n6, c6, x6, rfl, r6⟩
             have g6 := hye.up r6.bel
             have v6 := r6.is
             have l6 : n6 ≤ 100 := r6.le (Nat.lt_trans (Hless.out _ _) PQ.out))
          | (go_at_call 69; refine (rmul_pos r6.nt (m5.up r6.bel) (h2e.up r6.bel) (by omega) (by omega) (by omega) (by rw [e2]; omega)).mono ?_; rintro e w7 ⟨A7, n7, c7, x7, rfl, r7⟩
             rw [v6, v5, e2] at r7
             have g7 := g6.up r7.bel)))
      all_goals
        have B7 := bthen (bthen B5d r6.bel) r7.bel
        go_wp2_with fail
        go_ret2
        exact ⟨fun hh => absurd Hg.out hh, fun _ => ⟨f, hf1, Hf2.out, _, _, _, _, rfl, r7.nt, r7.trm, r7.is, bthen b0 B7⟩⟩
end Go.Proofs.YtkeejhkjbmegkaaGreatDoor

namespace Go.Proofs.YtkeejhkjbmegkaaGreatDoor
open Go.RowKit
set_option linter.unusedVariables false
set_option maxRecDepth 100000

set_option maxHeartbeats 2000000 in
theorem extract_bad {w : World} {v : Value} {P Q G : Nat} (h : Pr w v P Q G) (Aa : Option Addr) (na ca : Nat) (Ab : Option Addr) (nb cb : Nat) (Ac : Option Addr) (nc cc : Nat) (Ad : Option Addr) (nd cd : Nat) (hR : rightN P Q G = false) :
    Calls Tryz.prog 33 #[v, .slice Aa na ca, .slice Ab nb cb, .slice Ac nc cc, .slice Ad nd cd] w (RetBad 60 w) := by
  obtain ⟨A1, n1, c1, x1, A2, n2, c2, x2, A3, n3, c3, x3, rfl, h1', e1, l1, h2', e2, l2, h3', e3, l3⟩ := h.ex
  obtain ⟨w0, e0⟩ : ∃ w0, w0 = w.alloc (.cells #[Value.slice A1 n1 c1, .slice A2 n2 c2, .slice A3 n3 c3] 40) := ⟨_, rfl⟩
  obtain ⟨hx0, b0⟩ := box_new e0
  have hr := right_any (h.up b0)
  rw [hR] at hr
  have Hr := Lib.hid hr
  have q0 := hx0.c0
  have q1 := hx0.c1
  have q2 := hx0.c2
  clear hr h1' h2' h3' h
  go_enter Tryz.func33, Tryz.ntmps33
  go_wp2_with fail
  rw [← e0]
  clear e0
  refine Hr.out.mono ?_
  rintro e w1 ⟨rfl, B1⟩
  simp only [Bool.false_eq_true, if_false]
  go_wp2_with fail
  go_ret2
  exact ⟨rfl, bthen b0 B1⟩
set_option maxHeartbeats 2000000 in
theorem mark_bad {w : World} {v : Value} {P Q G : Nat} (h : Pr w v P Q G) (Aa : Option Addr) (na ca : Nat) (hR : rightN P Q G = false) :
    Calls Tryz.prog 26 #[v, .slice Aa na ca] w (RetBad 60 w) := by
  obtain ⟨A1, n1, c1, x1, A2, n2, c2, x2, A3, n3, c3, x3, rfl, h1', e1, l1, h2', e2, l2, h3', e3, l3⟩ := h.ex
  obtain ⟨w0, e0⟩ : ∃ w0, w0 = w.alloc (.cells #[Value.slice A1 n1 c1, .slice A2 n2 c2, .slice A3 n3 c3] 40) := ⟨_, rfl⟩
  obtain ⟨hx0, b0⟩ := box_new e0
  have hr := right_any (h.up b0)
  rw [hR] at hr
  have Hr := Lib.hid hr
  have q0 := hx0.c0
  have q1 := hx0.c1
  have q2 := hx0.c2
  clear hr h1' h2' h3' h
  go_enter Tryz.func26, Tryz.ntmps26
  go_wp2_with fail
  rw [← e0]
  clear e0
  refine Hr.out.mono ?_
  rintro e w1 ⟨rfl, B1⟩
  simp only [Bool.false_eq_true, if_false]
  go_wp2_with fail
  go_ret2
  exact ⟨rfl, bthen b0 B1⟩
set_option maxHeartbeats 2000000 in
theorem holds_bad {w : World} {v : Value} {P Q G : Nat} (h : Pr w v P Q G) (Aa : Option Addr) (na ca : Nat) (Ab : Option Addr) (nb cb : Nat) (Ac : Option Addr) (nc cc : Nat) (Ad : Option Addr) (nd cd : Nat) (hR : rightN P Q G = false) :
    Calls Tryz.prog 31 #[v, .slice Aa na ca, .slice Ab nb cb, .slice Ac nc cc, .slice Ad nd cd] w fun e w' => e = .returned (.bool false) ∧ Below w.heap.size w w' := by
  obtain ⟨A1, n1, c1, x1, A2, n2, c2, x2, A3, n3, c3, x3, rfl, h1', e1, l1, h2', e2, l2, h3', e3, l3⟩ := h.ex
  obtain ⟨w0, e0⟩ : ∃ w0, w0 = w.alloc (.cells #[Value.slice A1 n1 c1, .slice A2 n2 c2, .slice A3 n3 c3] 40) := ⟨_, rfl⟩
  obtain ⟨hx0, b0⟩ := box_new e0
  have hr := right_any (h.up b0)
  rw [hR] at hr
  have Hr := Lib.hid hr
  have q0 := hx0.c0
  have q1 := hx0.c1
  have q2 := hx0.c2
  clear hr h1' h2' h3' h
  go_enter Tryz.func31, Tryz.ntmps31
  go_wp2_with fail
  rw [← e0]
  clear e0
  refine Hr.out.mono ?_
  rintro e w1 ⟨rfl, B1⟩
  simp only [Bool.false_eq_true, if_false]
  go_wp2_with fail
  go_ret
  exact ⟨rfl, bthen b0 B1⟩
end Go.Proofs.YtkeejhkjbmegkaaGreatDoor
