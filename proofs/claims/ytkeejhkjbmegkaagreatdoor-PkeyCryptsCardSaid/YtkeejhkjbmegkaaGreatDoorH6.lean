/- pkey: Verify. -/
import Derived.Test.YtkeejhkjbmegkaaGreatDoorHs
namespace Go.Proofs.YtkeejhkjbmegkaaGreatDoor
open Go.RowKit
set_option linter.unusedVariables false
set_option maxRecDepth 100000

set_option maxHeartbeats 8000000 in
theorem verify_any {w : World} (hk : Sh.Ks w) {v : Value} {N E D s : Nat} (h : Pr w v N E D) (hN2 : N % 2 = 1) (hb1 : 16 ≤ bl N) (hb2 : bl N ≤ 1024) (hE2 : E % 2 = 1) (hE : 1 < E) (hEN : E < N) (hDN : D < N)
    (hs : (bl N + 7) / 8 = s) (hs1 : 27 ≤ s) {A : Option Addr} {n c : Nat} {xs : List Nat} (hx : Sh.Nb w w.heap.size A n c xs) (hn : n ≤ 1000) {A4 : Option Addr} {c4 : Nat} {bs : List Nat} (hb : Nb w w.heap.size A4 s c4 bs) :
    Calls Tryz.prog 12 #[v, .slice A n c, .slice A4 s c4] w fun e w' => e = .returned (.bool (decide (val 256 bs.reverse < N) && ((bstr (bts (val 256 bs.reverse ^ E % N) s)).toList == (bstr (signN s xs)).toList))) ∧ Below w.heap.size w w' := by
  have hs2 : s ≤ 200 := by omega
  have hr := fun W (k : Pr W v N E D) => kright_any k hN2 hb1 hb2 hE2 hE hEN hDN
  have hsz := fun W (k : Pr W v N E D) => size_any k
  rw [hs] at hsz
  have hft := fun W (k : Pr W v N E D) {A c bs} (kb : Nb W W.heap.size A s c bs) => fits_any k hs (by omega) kb
  have hsg := fun W (k : Pr W v N E D) (kk : Sh.Ks W) {A n c} (kx : Sh.Nb W W.heap.size A n c xs) (kn : n ≤ 1000) => signed_any kk k hs (by omega) (by omega) kx kn
  have hN0 : 0 < N := by omega
  have hwk := fun W (k : Pr W v N E D) {A n c pw xs} (kp : Nt W W.heap.size A n c xs) (ep : val 18446744073709551616 xs = pw) (lp : n ≤ 100) {A2 m c2 bs} (kb : Nb W W.heap.size A2 m c2 bs) (km : m ≤ 1000) => work_any k hN0 hs (by omega) kp ep lp kb km
  have Hr := Lib.hid hr
  have Hsz := Lib.hid hsz
  have Hft := Lib.hid hft
  have Hh := Lib.hid h
  have Hsg := Lib.hid hsg
  have Hwk := Lib.hid hwk
  obtain ⟨A1, n1, c1, x1, A2, n2, c2, x2, A3, n3, c3, x3, rfl, h1', e1, l1, h2', e2, l2, h3', e3, l3⟩ := h.ex
  clear h hr hsz hsg hwk hft
  obtain ⟨w0, e0⟩ : ∃ w0, w0 = w.alloc (.cells #[Value.slice A1 n1 c1, .slice A2 n2 c2, .slice A3 n3 c3] 24) := ⟨_, rfl⟩
  obtain ⟨hx0, b0⟩ := box_new e0
  have q0 := hx0.c0
  have q1 := hx0.c1
  have q2 := hx0.c2
  have h2 := h2'.up b0
  have hx1 := hx.go b0
  have hk1 := hk.bel b0
  have hb0 := hb.up b0
  clear h1' h2' h3' hb1 hb2 hs
  obtain ⟨res, hres⟩ : ∃ res, (decide (val 256 bs.reverse < N) && ((bstr (bts (val 256 bs.reverse ^ E % N) s)).toList == (bstr (signN s xs)).toList)) = res := ⟨_, rfl⟩
  rw [hres]
  have Hres := Lib.hid hres
  clear hres
  go_enter Tryz.func12, Tryz.ntmps12
  go_wp2_with fail
  rw [← e0]
  clear e0
  refine (Hr.out _ (Hh.out.up b0)).mono ?_
  rintro e w2 ⟨rfl, b2⟩
  have hy := hx0.up b2
  have y0 := hy.c0
  have y1 := hy.c1
  have y2 := hy.c2
  go_wp2_with fail
  refine (Hsz.out _ ((Hh.out.up b0).up b2)).mono ?_
  rintro e w3 ⟨rfl, b3⟩
  have hz := hy.up b3
  have z0 := hz.c0
  have z1 := hz.c1
  have z2 := hz.c2
  go_wp2_with fail
  have hb3 := (hb0.up b2).up b3
  have hfit := Hft.out _ (((Hh.out.up b0).up b2).up b3) hb3
  by_cases hS : val 256 bs.reverse < N
  · rw [decide_eq_true hS] at hfit
    have Hfit := Lib.hid hfit
    have HS := Lib.hid hS
    clear hfit hS
    refine Hfit.out.mono ?_
    rintro e w4 ⟨rfl, b4⟩
    have bD : Below w4.heap.size w4 w4.drew := (Below.refl _ _).drew
    have B4 := bthen (bthen (bthen b2 b3) b4) bD
    have g := hx0.up B4
    have g0 := g.c0
    have g1 := g.c1
    have g2 := g.c2
    have p4 := (Hh.out.up b0).up B4
    have h24 := h2.up B4
    have kk4 := hk1.bel B4
    have hx4 := hx1.go B4
    have hb4 := hb0.up B4
    have G := hx0.up (bthen (bthen b2 b3) b4)
    have G0 := G.c0
    have G1 := G.c1
    have G2 := G.c2
    go_wp2_with fail
    go_region_with ((first
      | (go_at_call 39; refine (Hwk.out _ p4 h24 e2 l2 hb4 (by omega)).mono ?_; rintro e w5 ⟨g5, rfl, hg5, ho5, b5⟩
         have j := g.up b5
         have j0 := j.c0
         have j1 := j.c1
         have j2 := j.c2)
      | (go_at_call 40; refine (Hsg.out _ (p4.up b5) (kk4.bel b5) (hx4.go b5) (by omega)).mono ?_; rintro e w6 ⟨g6, rfl, hg6, ho6, b6⟩
         have y := j.up b6
         have y0 := y.c0
         have y1 := y.c1
         have y2 := y.c2
         have N5 := ((ho5.nb (length_bts _ _) (show s ≤ maxLen by unfold maxLen; omega) (lim_bts _ _)).up b6).sh
         have N6 := (ho6.nb (len_signN hs1) (show s ≤ maxLen by unfold maxLen; omega) (lim_signN s xs)).sh
         have heq := equal_any N5 N6
         have Heq := Lib.hid heq
         clear heq)
      | (go_at_call 47; refine Heq.out.mono ?_; rintro e w7 ⟨rfl, rfl⟩)))
    all_goals
      have B := bthen (bthen B4 b5) b6
      go_wp2_with fail
      go_ret
      have hres := Hres.out
      rw [decide_eq_true HS.out, Bool.true_and] at hres
      rw [hres]
      exact ⟨rfl, bthen b0 B⟩
  · rw [decide_eq_false hS] at hfit
    have Hfit := Lib.hid hfit
    have HS := Lib.hid hS
    clear hfit hS
    refine Hfit.out.mono ?_
    rintro e w4 ⟨rfl, b4⟩
    go_wp2_with fail
    go_ret
    have hres := Hres.out
    rw [decide_eq_false HS.out, Bool.false_and] at hres
    rw [← hres]
    exact ⟨rfl, bthen b0 (bthen (bthen b2 b3) b4)⟩
end Go.Proofs.YtkeejhkjbmegkaaGreatDoor
