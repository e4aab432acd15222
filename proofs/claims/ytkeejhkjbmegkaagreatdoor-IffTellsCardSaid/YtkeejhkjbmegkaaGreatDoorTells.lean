/- For every group, every three numbers and every mark the Go function IffTells returns true and leaves its arguments as they were. No condition but the laid constants. -/
import Derived.Test.YtkeejhkjbmegkaaGreatDoorEr
import Derived.Test.YtkeejhkjbmegkaaGreatDoorFrame
import Derived.Test.YtkeejhkjbmegkaaGreatDoorIMath
namespace Go.Proofs.YtkeejhkjbmegkaaGreatDoor.iffTellsP
open Go.ChangeShapes Go.WideShapes Go.ChangeAt Go.RowKit
set_option linter.unusedVariables false
set_option maxRecDepth 100000

theorem face_math {P Q G b : Nat} (hP : 2 ≤ P) (hQ : 0 < Q) (h : G ^ Q % P = 1) : G ^ b % P * (G ^ (lessN 0 b Q % Q) % P) % P = 1 % P := by
  have h' : G ^ Q % P = 1 % P := by rw [h, Nat.mod_eq_of_lt (by omega)]
  rw [← Nat.mul_mod, ← Nat.pow_add, show (1 : Nat) = G ^ 0 by simp]
  apply pow_red h'
  have l1 := less_dvd (a := 0) (b := b) hQ
  have t3 := mod_dvd2 (lessN 0 b Q) Q
  apply mod_eq_of_idvd
  generalize lessN 0 b Q % Q = e2 at *
  generalize lessN 0 b Q = e at *
  push_cast at l1 ⊢
  have u := Int.dvd_add t3 l1
  have : (b : Int) + (e2 : Int) - 0 = ((e2 : Int) - e) + ((e : Int) - (0 - b)) := by omega
  rw [this]
  exact u
theorem gcd_of_inv {a V P : Nat} (hP : 2 ≤ P) (h : a * V % P = 1 % P) : Nat.gcd a P = 1 := by
  have h1 : Nat.gcd a P ∣ a * V := Nat.dvd_mul_right_of_dvd (Nat.gcd_dvd_left a P) V
  have h2 : Nat.gcd a P ∣ P := Nat.gcd_dvd_right a P
  have e := Nat.div_add_mod (a * V) P
  rw [h, Nat.mod_eq_of_lt (show 1 < P by omega)] at e
  have h3 : Nat.gcd a P ∣ P * (a * V / P) := Nat.dvd_mul_right_of_dvd h2 _
  rw [← e] at h1
  exact Nat.dvd_one.1 ((Nat.dvd_add_right h3).1 h1)
set_option maxHeartbeats 8000000 in
theorem law_any {w : World} (hks : Sh.Ks w) {A1 A2 A3 Ab Ak Ar : Option Addr} {n1 c1 n2 c2 n3 c3 nb cb nk ck nr cr : Nat} {x1 x2 x3 xb xk xr : List Nat} (h1 : Nt w w.heap.size A1 n1 c1 x1) (h2 : Nt w w.heap.size A2 n2 c2 x2) (h3 : Nt w w.heap.size A3 n3 c3 x3)
    (hb : Nt w w.heap.size Ab nb cb xb) (hk : Nt w w.heap.size Ak nk ck xk) (hr : Nt w w.heap.size Ar nr cr xr) {Am : Option Addr} {nm cm : Nat} {mm : List Nat} (hm : Nb w w.heap.size Am nm cm mm) :
    Calls Tryz.prog 6 #[.agg #[.slice A1 n1 c1, .slice A2 n2 c2, .slice A3 n3 c3], .slice Ab nb cb, .slice Ak nk ck, .slice Ar nr cr, .slice Am nm cm] w (Yes w) := by
  have hr1 := h1.rooms
  have hr2 := h2.rooms
  have hr3 := h3.rooms
  have hrb := hb.rooms
  have hrk := hk.rooms
  have hrr := hr.rooms
  have hrm := hm.rooms
  obtain ⟨w0, e0⟩ : ∃ w0, w0 = w.alloc (.cells #[Value.slice A1 n1 c1, .slice A2 n2 c2, .slice A3 n3 c3] 40) := ⟨_, rfl⟩
  obtain ⟨hx0, b0⟩ := box_new e0
  have hk0 := hks.bel b0
  have g1 := h1.up b0
  have g2 := h2.up b0
  have g3 := h3.up b0
  have gb := hb.up b0
  have gm := hm.sh.go b0
  have gk := hk.up b0
  have gr := hr.up b0
  obtain ⟨b, eb⟩ : ∃ v, val 18446744073709551616 xb = v := ⟨_, rfl⟩
  obtain ⟨k, ek⟩ : ∃ v, val 18446744073709551616 xk = v := ⟨_, rfl⟩
  obtain ⟨r, er⟩ : ∃ v, val 18446744073709551616 xr = v := ⟨_, rfl⟩
  have hHv := fun W => heavyP_any A1 A2 A3 n1 c1 n2 c2 n3 c3 hr1.1 hr2.1 hr3.1 W
  obtain ⟨hv, hhv⟩ : ∃ hv, decide (3 < n1 ∨ 3 < n2 ∨ 3 < n3) = hv := ⟨_, rfl⟩
  rw [hhv] at hHv
  have HHv := Lib.hid hHv
  have Hhv := Lib.hid hhv
  clear hHv hhv
  cases hv with
  | true =>
    have hx0c0 := hx0.c0
    have hx0c1 := hx0.c1
    have hx0c2 := hx0.c2
    go_enter Tryz.func6, Tryz.ntmps6
    go_wp2_with fail
    rw [← e0]
    clear e0
    refine (HHv.out _).mono ?_
    rintro e W1 ⟨rfl, b1⟩
    have N1b := gb.up b1
    have N1k := gk.up b1
    have N1r := gr.up b1
    have B1 := b1
    have X1ks := hk0.bel b1
    have X1box := hx0.up b1
    have X1m := gm.go b1
    have X1boxc0 := X1box.c0
    have X1boxc1 := X1box.c1
    have X1boxc2 := X1box.c2
    go_wp2_with fail
    refine (alive_any X1ks).mono ?_
    rintro e W2 ⟨rfl, b2⟩
    have N2b := N1b.up b2
    have N2k := N1k.up b2
    have N2r := N1r.up b2
    have B2 := bthen B1 b2
    have X2ks := X1ks.bel b2
    have X2box := X1box.up b2
    have X2m := X1m.go b2
    have X2boxc0 := X2box.c0
    have X2boxc1 := X2box.c1
    have X2boxc2 := X2box.c2
    clear N1b N1k N1r X1ks X1box X1m X1boxc0 X1boxc1 X1boxc2 B1
    go_wp2_with fail
    go_ret
    exact ⟨rfl, bthen b0 B2⟩
  | false =>
  have hn := of_decide_eq_false Hhv.out
  have hn1 : n1 ≤ 3 := by omega
  have hn2 : n2 ≤ 3 := by omega
  have hn3 : n3 ≤ 3 := by omega
  clear hn
  by_cases y0 : 3 < nb
  · have hx0c0 := hx0.c0
    have hx0c1 := hx0.c1
    have hx0c2 := hx0.c2
    go_enter Tryz.func6, Tryz.ntmps6
    go_wp2_with fail
    rw [← e0]
    clear e0
    refine (HHv.out _).mono ?_
    rintro e W1 ⟨rfl, b1⟩
    have N1b := gb.up b1
    have N1k := gk.up b1
    have N1r := gr.up b1
    have B1 := b1
    have X1ks := hk0.bel b1
    have X1box := hx0.up b1
    have X1m := gm.go b1
    have X1boxc0 := X1box.c0
    have X1boxc1 := X1box.c1
    have X1boxc2 := X1box.c2
    go_wp2_with fail
    refine (heavy_yes Ab nb cb (by omega) (by omega) _).mono ?_
    rintro e W2 ⟨rfl, rfl⟩
    go_wp2_with fail
    refine (alive_any X1ks).mono ?_
    rintro e W3 ⟨rfl, b3⟩
    have N3b := N1b.up b3
    have N3k := N1k.up b3
    have N3r := N1r.up b3
    have B3 := bthen B1 b3
    have X3ks := X1ks.bel b3
    have X3box := X1box.up b3
    have X3m := X1m.go b3
    have X3boxc0 := X3box.c0
    have X3boxc1 := X3box.c1
    have X3boxc2 := X3box.c2
    clear N1b N1k N1r X1ks X1box X1m X1boxc0 X1boxc1 X1boxc2 B1
    go_wp2_with fail
    go_ret
    exact ⟨rfl, bthen b0 B3⟩
  by_cases y1 : 3 < nk
  · have hx0c0 := hx0.c0
    have hx0c1 := hx0.c1
    have hx0c2 := hx0.c2
    go_enter Tryz.func6, Tryz.ntmps6
    go_wp2_with fail
    rw [← e0]
    clear e0
    refine (HHv.out _).mono ?_
    rintro e W1 ⟨rfl, b1⟩
    have N1b := gb.up b1
    have N1k := gk.up b1
    have N1r := gr.up b1
    have B1 := b1
    have X1ks := hk0.bel b1
    have X1box := hx0.up b1
    have X1m := gm.go b1
    have X1boxc0 := X1box.c0
    have X1boxc1 := X1box.c1
    have X1boxc2 := X1box.c2
    go_wp2_with fail
    refine (heavy_no Ab nb cb (by omega) _).mono ?_
    rintro e W2 ⟨rfl, rfl⟩
    go_wp2_with fail
    refine (heavy_yes Ak nk ck (by omega) (by omega) _).mono ?_
    rintro e W3 ⟨rfl, rfl⟩
    go_wp2_with fail
    refine (alive_any X1ks).mono ?_
    rintro e W4 ⟨rfl, b4⟩
    have N4b := N1b.up b4
    have N4k := N1k.up b4
    have N4r := N1r.up b4
    have B4 := bthen B1 b4
    have X4ks := X1ks.bel b4
    have X4box := X1box.up b4
    have X4m := X1m.go b4
    have X4boxc0 := X4box.c0
    have X4boxc1 := X4box.c1
    have X4boxc2 := X4box.c2
    clear N1b N1k N1r X1ks X1box X1m X1boxc0 X1boxc1 X1boxc2 B1
    go_wp2_with fail
    go_ret
    exact ⟨rfl, bthen b0 B4⟩
  by_cases y2 : 3 < nr
  · have hx0c0 := hx0.c0
    have hx0c1 := hx0.c1
    have hx0c2 := hx0.c2
    go_enter Tryz.func6, Tryz.ntmps6
    go_wp2_with fail
    rw [← e0]
    clear e0
    refine (HHv.out _).mono ?_
    rintro e W1 ⟨rfl, b1⟩
    have N1b := gb.up b1
    have N1k := gk.up b1
    have N1r := gr.up b1
    have B1 := b1
    have X1ks := hk0.bel b1
    have X1box := hx0.up b1
    have X1m := gm.go b1
    have X1boxc0 := X1box.c0
    have X1boxc1 := X1box.c1
    have X1boxc2 := X1box.c2
    go_wp2_with fail
    refine (heavy_no Ab nb cb (by omega) _).mono ?_
    rintro e W2 ⟨rfl, rfl⟩
    go_wp2_with fail
    refine (heavy_no Ak nk ck (by omega) _).mono ?_
    rintro e W3 ⟨rfl, rfl⟩
    go_wp2_with fail
    refine (heavy_yes Ar nr cr (by omega) (by omega) _).mono ?_
    rintro e W4 ⟨rfl, rfl⟩
    go_wp2_with fail
    refine (alive_any X1ks).mono ?_
    rintro e W5 ⟨rfl, b5⟩
    have N5b := N1b.up b5
    have N5k := N1k.up b5
    have N5r := N1r.up b5
    have B5 := bthen B1 b5
    have X5ks := X1ks.bel b5
    have X5box := X1box.up b5
    have X5m := X1m.go b5
    have X5boxc0 := X5box.c0
    have X5boxc1 := X5box.c1
    have X5boxc2 := X5box.c2
    clear N1b N1k N1r X1ks X1box X1m X1boxc0 X1boxc1 X1boxc2 B1
    go_wp2_with fail
    go_ret
    exact ⟨rfl, bthen b0 B5⟩
  by_cases ym : 40 < nm
  · have hdm : decide ((40 : Int) < (nm : Int)) = true := by simp; omega
    have hx0c0 := hx0.c0
    have hx0c1 := hx0.c1
    have hx0c2 := hx0.c2
    go_enter Tryz.func6, Tryz.ntmps6
    go_wp2_with fail
    rw [← e0]
    clear e0
    refine (HHv.out _).mono ?_
    rintro e W1 ⟨rfl, b1⟩
    have N1b := gb.up b1
    have N1k := gk.up b1
    have N1r := gr.up b1
    have B1 := b1
    have X1ks := hk0.bel b1
    have X1box := hx0.up b1
    have X1m := gm.go b1
    have X1boxc0 := X1box.c0
    have X1boxc1 := X1box.c1
    have X1boxc2 := X1box.c2
    go_wp2_with fail
    refine (heavy_no Ab nb cb (by omega) _).mono ?_
    rintro e W2 ⟨rfl, rfl⟩
    go_wp2_with fail
    refine (heavy_no Ak nk ck (by omega) _).mono ?_
    rintro e W3 ⟨rfl, rfl⟩
    go_wp2_with fail
    refine (heavy_no Ar nr cr (by omega) _).mono ?_
    rintro e W4 ⟨rfl, rfl⟩
    go_wp2_with fail
    refine (alive_any X1ks).mono ?_
    rintro e W5 ⟨rfl, b5⟩
    have N5b := N1b.up b5
    have N5k := N1k.up b5
    have N5r := N1r.up b5
    have B5 := bthen B1 b5
    have X5ks := X1ks.bel b5
    have X5box := X1box.up b5
    have X5m := X1m.go b5
    have X5boxc0 := X5box.c0
    have X5boxc1 := X5box.c1
    have X5boxc2 := X5box.c2
    clear N1b N1k N1r X1ks X1box X1m X1boxc0 X1boxc1 X1boxc2 B1
    go_wp2_with fail
    go_ret
    exact ⟨rfl, bthen b0 B5⟩
  have hdm : decide ((40 : Int) < (nm : Int)) = false := by simp; omega
  obtain ⟨P, e1⟩ : ∃ v, val 18446744073709551616 x1 = v := ⟨_, rfl⟩
  obtain ⟨Q, e2⟩ : ∃ v, val 18446744073709551616 x2 = v := ⟨_, rfl⟩
  obtain ⟨G, e3⟩ : ∃ v, val 18446744073709551616 x3 = v := ⟨_, rfl⟩
  have hp0 : Pr w0 (.agg #[.slice A1 n1 c1, .slice A2 n2 c2, .slice A3 n3 c3]) P Q G := ⟨_, _, _, _, _, _, _, _, _, _, _, _, rfl, g1, e1, by omega, g2, e2, by omega, g3, e3, by omega⟩
  obtain ⟨R, hR⟩ : ∃ R, rightN P Q G = R := ⟨_, rfl⟩
  cases R with
  | false =>
    have HR := Lib.hid hR
    clear hR
    have hcn := fun W => conv_any (Sh.Nb.nil W 0 0 (by omega) none)
    have hne : ((bstr []).toList != (bstr []).toList) = false := by simp
    obtain ⟨S0, hS0⟩ : ∃ S, bstr [] = S := ⟨_, rfl⟩
    rw [hS0] at hcn hne
    clear hS0
    have hx0c0 := hx0.c0
    have hx0c1 := hx0.c1
    have hx0c2 := hx0.c2
    go_enter Tryz.func6, Tryz.ntmps6
    go_wp2_with fail
    rw [← e0]
    clear e0
    refine (HHv.out _).mono ?_
    rintro e W1 ⟨rfl, b1⟩
    have N1b := gb.up b1
    have N1k := gk.up b1
    have N1r := gr.up b1
    have B1 := b1
    have X1ks := hk0.bel b1
    have X1box := hx0.up b1
    have X1m := gm.go b1
    have X1p := hp0.up b1
    have X1boxc0 := X1box.c0
    have X1boxc1 := X1box.c1
    have X1boxc2 := X1box.c2
    go_wp2_with fail
    refine (heavy_no Ab nb cb (by omega) _).mono ?_
    rintro e W2 ⟨rfl, rfl⟩
    go_wp2_with fail
    refine (heavy_no Ak nk ck (by omega) _).mono ?_
    rintro e W3 ⟨rfl, rfl⟩
    go_wp2_with fail
    refine (heavy_no Ar nr cr (by omega) _).mono ?_
    rintro e W4 ⟨rfl, rfl⟩
    go_wp2_with fail
    refine (face_bad X1p _ _ _ HR.out).mono ?_
    rintro e W5 ⟨rfl, b5⟩
    have N5b := N1b.up b5
    have N5k := N1k.up b5
    have N5r := N1r.up b5
    have B5 := bthen B1 b5
    have X5ks := X1ks.bel b5
    have X5box := X1box.up b5
    have X5m := X1m.go b5
    have X5p := X1p.up b5
    have X5boxc0 := X5box.c0
    have X5boxc1 := X5box.c1
    have X5boxc2 := X5box.c2
    clear N1b N1k N1r X1ks X1box X1m X1p X1boxc0 X1boxc1 X1boxc2 B1
    go_wp2_with fail
    refine (rface_bad X5p _ _ _ HR.out).mono ?_
    rintro e W6 ⟨rfl, b6⟩
    have N6b := N5b.up b6
    have N6k := N5k.up b6
    have N6r := N5r.up b6
    have B6 := bthen B5 b6
    have X6ks := X5ks.bel b6
    have X6box := X5box.up b6
    have X6m := X5m.go b6
    have X6p := X5p.up b6
    have X6boxc0 := X6box.c0
    have X6boxc1 := X6box.c1
    have X6boxc2 := X6box.c2
    clear N5b N5k N5r X5ks X5box X5m X5p X5boxc0 X5boxc1 X5boxc2 B5
    go_wp2_with fail
    refine (mark_bad X6p _ _ _ HR.out).mono ?_
    rintro e W7 ⟨rfl, b7⟩
    have N7b := N6b.up b7
    have N7k := N6k.up b7
    have N7r := N6r.up b7
    have B7 := bthen B6 b7
    have X7ks := X6ks.bel b7
    have X7box := X6box.up b7
    have X7m := X6m.go b7
    have X7p := X6p.up b7
    have X7boxc0 := X7box.c0
    have X7boxc1 := X7box.c1
    have X7boxc2 := X7box.c2
    clear N6b N6k N6r X6ks X6box X6m X6p X6boxc0 X6boxc1 X6boxc2 B6
    go_wp2_with fail
    refine (rmark_bad X7p _ _ _ HR.out).mono ?_
    rintro e W8 ⟨rfl, b8⟩
    have N8b := N7b.up b8
    have N8k := N7k.up b8
    have N8r := N7r.up b8
    have B8 := bthen B7 b8
    have X8ks := X7ks.bel b8
    have X8box := X7box.up b8
    have X8m := X7m.go b8
    have X8p := X7p.up b8
    have X8boxc0 := X8box.c0
    have X8boxc1 := X8box.c1
    have X8boxc2 := X8box.c2
    clear N7b N7k N7r X7ks X7box X7m X7p X7boxc0 X7boxc1 X7boxc2 B7
    go_wp2_with fail
    refine (answer_bad X8p _ _ _ _ _ _ _ _ _ HR.out).mono ?_
    rintro e W9 ⟨rfl, b9⟩
    have N9b := N8b.up b9
    have N9k := N8k.up b9
    have N9r := N8r.up b9
    have B9 := bthen B8 b9
    have X9ks := X8ks.bel b9
    have X9box := X8box.up b9
    have X9m := X8m.go b9
    have X9p := X8p.up b9
    have X9boxc0 := X9box.c0
    have X9boxc1 := X9box.c1
    have X9boxc2 := X9box.c2
    clear N8b N8k N8r X8ks X8box X8m X8p X8boxc0 X8boxc1 X8boxc2 B8
    go_wp2_with fail
    refine (ranswer_bad X9p _ _ _ _ _ _ _ _ _ HR.out).mono ?_
    rintro e W10 ⟨rfl, b10⟩
    have N10b := N9b.up b10
    have N10k := N9k.up b10
    have N10r := N9r.up b10
    have B10 := bthen B9 b10
    have X10ks := X9ks.bel b10
    have X10box := X9box.up b10
    have X10m := X9m.go b10
    have X10p := X9p.up b10
    have X10boxc0 := X10box.c0
    have X10boxc1 := X10box.c1
    have X10boxc2 := X10box.c2
    clear N9b N9k N9r X9ks X9box X9m X9p X9boxc0 X9boxc1 X9boxc2 B9
    go_wp2_with fail
    refine (same_yes (nt_nil _ 0) (nt_nil _ 0) rfl).mono ?_
    rintro e W11 ⟨rfl, d11, rfl⟩
    have N11b := N10b.dr d11
    have N11k := N10k.dr d11
    have N11r := N10r.dr d11
    have B11 := bdr B10 d11
    have X11ks := X10ks.dr d11
    have X11box := X10box.dr d11
    have X11m := X10m.dr d11
    have X11p := X10p.dr d11
    have X11boxc0 := X11box.c0
    have X11boxc1 := X11box.c1
    have X11boxc2 := X11box.c2
    go_wp2_with fail
    refine (same_yes (nt_nil _ 0) (nt_nil _ 0) rfl).mono ?_
    rintro e W12 ⟨rfl, d12, rfl⟩
    have N12b := N10b.dr (d11 + d12)
    have N12k := N10k.dr (d11 + d12)
    have N12r := N10r.dr (d11 + d12)
    have B12 := bdr B10 (d11 + d12)
    have X12ks := X10ks.dr (d11 + d12)
    have X12box := X10box.dr (d11 + d12)
    have X12m := X10m.dr (d11 + d12)
    have X12p := X10p.dr (d11 + d12)
    have X12boxc0 := X12box.c0
    have X12boxc1 := X12box.c1
    have X12boxc2 := X12box.c2
    go_wp2_with fail
    obtain ⟨wc, ewc⟩ : ∃ wc, wc = (W10.drewN (d11 + d12)) := ⟨_, rfl⟩
    rw [← ewc]
    have Qb := N12b
    rw [← ewc] at Qb
    have Qk := N12k
    rw [← ewc] at Qk
    have Qr := N12r
    rw [← ewc] at Qr
    have Qks := X12ks
    rw [← ewc] at Qks
    have Qbox := X12box
    rw [← ewc] at Qbox
    have Qm := X12m
    rw [← ewc] at Qm
    have Qp := X12p
    rw [← ewc] at Qp
    have QB := B12
    rw [← ewc] at QB
    clear ewc
    have bd : Below wc.heap.size wc wc.drew := (Below.refl _ _).drew
    have z0 := Qbox.up bd
    have z0c0 := z0.c0
    have z0c1 := z0.c1
    have z0c2 := z0.c2
    have p0 := Qp.up bd
    have k0 := Qks.bel bd
    have b0_0 := bthen QB bd
    go_region_held3 (fun w' => w'.cell? ⟨w.heap.size, 0, none⟩ = some (Value.slice A1 n1 c1) ∧ w'.cell? ⟨w.heap.size, 1, none⟩ = some (Value.slice A2 n2 c2) ∧ w'.cell? ⟨w.heap.size, 2, none⟩ = some (Value.slice A3 n3 c3))
      (first | exact ⟨z5.c0, z5.c1, z5.c2⟩ | exact ⟨z4.c0, z4.c1, z4.c2⟩ | exact ⟨z3.c0, z3.c1, z3.c2⟩ | exact ⟨z2.c0, z2.c1, z2.c2⟩ | exact ⟨z1.c0, z1.c1, z1.c2⟩ | exact ⟨z0.c0, z0.c1, z0.c2⟩)
      ((first
        | (go_at_call 23; have ct := alive_any k0; (with_reducible refine ct.mono ?_); clear ct; rintro e w_1 ⟨rfl, b_1⟩
           have z1 := z0.up b_1
           have p1 := p0.up b_1
           have k1 := k0.bel b_1
           have b0_1 := bthen b0_0 b_1)
        | (go_at_call 31; have ct := holds_bad p1 Ab nb cb Ar nr cr Ak nk ck Am nm cm HR.out; (with_reducible refine ct.mono ?_); clear ct; rintro e w_2 ⟨rfl, b_2⟩
           have z2 := z1.up b_2
           have p2 := p1.up b_2
           have k2 := k1.bel b_2
           have b0_2 := bthen b0_1 b_2)
        | (go_at_call 32; have ct := rholds_bad p2 Ab nb cb Ar nr cr Ak nk ck Am nm cm HR.out; (with_reducible refine ct.mono ?_); clear ct; rintro e w_3 ⟨rfl, b_3⟩
           have z3 := z2.up b_3
           have p3 := p2.up b_3
           have k3 := k2.bel b_3
           have b0_3 := bthen b0_2 b_3)
        | (go_at_call 31; have ct := holds_bad p3 none 0 0 Ar nr cr Ak nk ck none 0 0 HR.out; (with_reducible refine ct.mono ?_); clear ct; rintro e w_4 ⟨rfl, b_4⟩
           have z4 := z3.up b_4
           have p4 := p3.up b_4
           have k4 := k3.bel b_4
           have b0_4 := bthen b0_3 b_4)
        | (go_at_call 32; have ct := rholds_bad p4 none 0 0 Ar nr cr Ak nk ck none 0 0 HR.out; (with_reducible refine ct.mono ?_); clear ct; rintro e w_5 ⟨rfl, b_5⟩
           have z5 := z4.up b_5
           have p5 := p4.up b_5
           have k5 := k4.bel b_5
           have b0_5 := bthen b0_4 b_5)))
    all_goals
      go_wp2_with fail
      go_ret
      exact ⟨rfl, bthen b0 b0_5⟩
  | true =>
    obtain ⟨hP2, hQ2, _, _, hGQ, _⟩ := rightN_parts hR
    have hfm := face_math (b := b) hP2 (show 0 < Q by omega) hGQ
    have hgc := gcd_of_inv hP2 hfm
    have hpr := fun a => pow_red (a := a) (b := a % Q) (show G ^ Q % P = 1 % P by rw [hGQ, Nat.mod_eq_of_lt (by omega)]) (Nat.mod_mod a Q).symm
    have pP : P < 18446744073709551616 ^ 3 := by rw [← e1]; exact g1.below_pow hn1
    have Pp : Hid (∀ t, t % P < 18446744073709551616 ^ 3) := fun t => Nat.lt_trans (Nat.mod_lt _ (by omega)) pP
    have pQ : Q < 18446744073709551616 ^ 3 := by rw [← e2]; exact g2.below_pow hn2
    have Pq : Hid (∀ t, t % Q < 18446744073709551616 ^ 3) := fun t => Nat.lt_trans (Nat.mod_lt _ (by omega)) pQ
    have HR := Lib.hid hR
    obtain ⟨V, hV⟩ : ∃ V, G ^ (lessN 0 b Q % Q) % P = V := ⟨_, rfl⟩
    have pV : V < P := by rw [← hV]; exact Nat.mod_lt _ (by omega)
    rw [hV] at hfm
    have Huniq := Lib.hid (fun (g : Nat) (h2 : g < P) (h4 : G ^ b % P * g % P = 1 % P) => inv_one pV h2 hfm h4)
    have Hgc := Lib.hid hgc
    have HV := Lib.hid hV
    obtain ⟨X, hX⟩ : ∃ X, G ^ k % P = X := ⟨_, rfl⟩
    have hX2 : G ^ (k % Q) % P = X := by rw [← hX]; exact (hpr k).symm
    obtain ⟨Y, hY⟩ : ∃ Y, (k + b * r % Q) % Q = Y := ⟨_, rfl⟩
    have hY2 : (b * r % Q + k) % Q = Y := by rw [← hY, Nat.add_comm]
    have pY : Hid (Y < 18446744073709551616 ^ 3) := hY ▸ Pq.out _
    have pV3 : Hid (V < 18446744073709551616 ^ 3) := Nat.lt_trans pV pP
    obtain ⟨S, hS⟩ : ∃ S, bstr (markN X) = S := ⟨_, rfl⟩
    have hne : (S.toList != S.toList) = false := by simp
    obtain ⟨T1, hT1⟩ : ∃ T, ((bstr (markN (X * (b ^ r % P) % P))).toList == (bstr mm).toList) = T := ⟨_, rfl⟩
    obtain ⟨T2, hT2⟩ : ∃ T, ((bstr (markN (X * (V ^ r % P) % P))).toList == (bstr (markN X)).toList) = T := ⟨_, rfl⟩
    have HX := Lib.hid hX
    have HX2 := Lib.hid hX2
    have HY := Lib.hid hY
    have HY2 := Lib.hid hY2
    have HS := Lib.hid hS
    have HT1 := Lib.hid hT1
    have HT2 := Lib.hid hT2
    clear hR pQ pP hGQ hfm hgc hV hX hX2 hY hY2 hS hT1 hT2 hpr pV
    have hx0c0 := hx0.c0
    have hx0c1 := hx0.c1
    have hx0c2 := hx0.c2
    go_enter Tryz.func6, Tryz.ntmps6
    go_wp2_with fail
    rw [← e0]
    clear e0
    refine (HHv.out _).mono ?_
    rintro e W1 ⟨rfl, b1⟩
    have N1b := gb.up b1
    have N1k := gk.up b1
    have N1r := gr.up b1
    have B1 := b1
    have X1ks := hk0.bel b1
    have X1box := hx0.up b1
    have X1m := gm.go b1
    have X1p := hp0.up b1
    have X1boxc0 := X1box.c0
    have X1boxc1 := X1box.c1
    have X1boxc2 := X1box.c2
    go_wp2_with fail
    refine (heavy_no Ab nb cb (by omega) _).mono ?_
    rintro e W2 ⟨rfl, rfl⟩
    go_wp2_with fail
    refine (heavy_no Ak nk ck (by omega) _).mono ?_
    rintro e W3 ⟨rfl, rfl⟩
    go_wp2_with fail
    refine (heavy_no Ar nr cr (by omega) _).mono ?_
    rintro e W4 ⟨rfl, rfl⟩
    go_wp2_with fail
    refine (face_any X1p N1b eb (by omega) HR.out).mono ?_
    rintro e W5 ⟨A5, n5, c5, x5, rfl, r5⟩
    rw [HV.out] at r5
    have l5 := r5.le (k := 3) (pV3.out)
    have v5 := r5.is
    have t5 := r5.trm
    have N5b := N1b.up r5.bel
    have N5k := N1k.up r5.bel
    have N5r := N1r.up r5.bel
    have B5 := bthen B1 r5.bel
    have X5ks := X1ks.bel r5.bel
    have X5box := X1box.up r5.bel
    have X5m := X1m.go r5.bel
    have X5p := X1p.up r5.bel
    have X5boxc0 := X5box.c0
    have X5boxc1 := X5box.c1
    have X5boxc2 := X5box.c2
    clear N1b N1k N1r X1ks X1box X1m X1p X1boxc0 X1boxc1 X1boxc2 B1
    go_wp2_with fail
    refine (rface_any X5p N5b eb (by omega) HR.out Hgc.out).mono ?_
    rintro e W6 ⟨f, hf, hfe, A6, n6, c6, x6, rfl, r6⟩
    obtain rfl := Huniq.out f hf hfe
    have l6 := r6.le (k := 3) (pV3.out)
    have v6 := r6.is
    have t6 := r6.trm
    have N6b := N5b.up r6.bel
    have N6k := N5k.up r6.bel
    have N6r := N5r.up r6.bel
    have N6v := r5.nt.up r6.bel
    have B6 := bthen B5 r6.bel
    have X6ks := X5ks.bel r6.bel
    have X6box := X5box.up r6.bel
    have X6m := X5m.go r6.bel
    have X6p := X5p.up r6.bel
    have X6boxc0 := X6box.c0
    have X6boxc1 := X6box.c1
    have X6boxc2 := X6box.c2
    clear N5b N5k N5r X5ks X5box X5m X5p X5boxc0 X5boxc1 X5boxc2 B5
    clear hfe
    go_wp2_with fail
    refine (mark_any X6ks X6p N6k ek (by omega) HR.out).mono ?_
    rintro e W7 ⟨A7, c7, rfl, mk7⟩
    rw [HX2.out] at mk7
    have b7 := mk7.2
    have N7b := N6b.up b7
    have N7k := N6k.up b7
    have N7r := N6r.up b7
    have N7v := N6v.up b7
    have N7w := r6.nt.up b7
    have B7 := bthen B6 b7
    have X7ks := X6ks.bel b7
    have X7box := X6box.up b7
    have X7m := X6m.go b7
    have X7p := X6p.up b7
    have X7boxc0 := X7box.c0
    have X7boxc1 := X7box.c1
    have X7boxc2 := X7box.c2
    clear N6b N6k N6r N6v X6ks X6box X6m X6p X6boxc0 X6boxc1 X6boxc2 B6
    go_wp2_with fail
    refine (rmark_any X7p N7k ek (by omega) HR.out).mono ?_
    rintro e W8 ⟨A8, c8, rfl, mk8⟩
    rw [HX.out] at mk8
    have b8 := mk8.2
    have N8b := N7b.up b8
    have N8k := N7k.up b8
    have N8r := N7r.up b8
    have N8v := N7v.up b8
    have N8w := N7w.up b8
    have B8 := bthen B7 b8
    have X8ks := X7ks.bel b8
    have X8box := X7box.up b8
    have X8m := X7m.go b8
    have X8p := X7p.up b8
    have X8m1 := mk7.1.go b8
    have X8boxc0 := X8box.c0
    have X8boxc1 := X8box.c1
    have X8boxc2 := X8box.c2
    clear N7b N7k N7r N7v N7w X7ks X7box X7m X7p X7boxc0 X7boxc1 X7boxc2 B7
    go_wp2_with fail
    refine (answer_any X8p N8b eb (by omega) N8k ek (by omega) N8r er (by omega) HR.out).mono ?_
    rintro e W9 ⟨A9, n9, c9, x9, rfl, r9⟩
    rw [HY.out] at r9
    have l9 := r9.le (k := 3) (pY.out)
    have v9 := r9.is
    have t9 := r9.trm
    have N9b := N8b.up r9.bel
    have N9k := N8k.up r9.bel
    have N9r := N8r.up r9.bel
    have N9v := N8v.up r9.bel
    have N9w := N8w.up r9.bel
    have B9 := bthen B8 r9.bel
    have X9ks := X8ks.bel r9.bel
    have X9box := X8box.up r9.bel
    have X9m := X8m.go r9.bel
    have X9p := X8p.up r9.bel
    have X9m1 := X8m1.go r9.bel
    have X9m2 := mk8.1.go r9.bel
    have X9boxc0 := X9box.c0
    have X9boxc1 := X9box.c1
    have X9boxc2 := X9box.c2
    clear N8b N8k N8r N8v N8w X8ks X8box X8m X8p X8m1 X8boxc0 X8boxc1 X8boxc2 B8
    go_wp2_with fail
    refine (ranswer_any X9p N9b eb (by omega) N9k ek (by omega) N9r er (by omega) HR.out).mono ?_
    rintro e W10 ⟨A10, n10, c10, x10, rfl, r10⟩
    rw [HY2.out] at r10
    have l10 := r10.le (k := 3) (pY.out)
    have v10 := r10.is
    have t10 := r10.trm
    have N10b := N9b.up r10.bel
    have N10k := N9k.up r10.bel
    have N10r := N9r.up r10.bel
    have N10v := N9v.up r10.bel
    have N10w := N9w.up r10.bel
    have N10y := r9.nt.up r10.bel
    have B10 := bthen B9 r10.bel
    have X10ks := X9ks.bel r10.bel
    have X10box := X9box.up r10.bel
    have X10m := X9m.go r10.bel
    have X10p := X9p.up r10.bel
    have X10m1 := X9m1.go r10.bel
    have X10m2 := X9m2.go r10.bel
    have X10boxc0 := X10box.c0
    have X10boxc1 := X10box.c1
    have X10boxc2 := X10box.c2
    clear N9b N9k N9r N9v N9w X9ks X9box X9m X9p X9m1 X9m2 X9boxc0 X9boxc1 X9boxc2 B9
    go_wp2_with fail
    refine (same_yes N10v N10w (trm_same t5 t6 N10v.lim N10w.lim (by rw [v5, v6]))).mono ?_
    rintro e W11 ⟨rfl, d11, rfl⟩
    have N11b := N10b.dr d11
    have N11k := N10k.dr d11
    have N11r := N10r.dr d11
    have N11v := N10v.dr d11
    have N11w := N10w.dr d11
    have N11y := N10y.dr d11
    have N11z := r10.nt.dr d11
    have B11 := bdr B10 d11
    have X11ks := X10ks.dr d11
    have X11box := X10box.dr d11
    have X11m := X10m.dr d11
    have X11p := X10p.dr d11
    have X11m1 := X10m1.dr d11
    have X11m2 := X10m2.dr d11
    have X11boxc0 := X11box.c0
    have X11boxc1 := X11box.c1
    have X11boxc2 := X11box.c2
    have cv1 := conv_any X11m1
    have cv2 := conv_any X11m2
    rw [HS.out] at cv1 cv2
    go_wp2_with fail
    refine (same_yes N11y N11z (trm_same t9 t10 N11y.lim N11z.lim (by rw [v9, v10]))).mono ?_
    rintro e W12 ⟨rfl, d12, rfl⟩
    have N12b := N10b.dr (d11 + d12)
    have N12k := N10k.dr (d11 + d12)
    have N12r := N10r.dr (d11 + d12)
    have N12v := N10v.dr (d11 + d12)
    have N12w := N10w.dr (d11 + d12)
    have N12y := N10y.dr (d11 + d12)
    have N12z := r10.nt.dr (d11 + d12)
    have B12 := bdr B10 (d11 + d12)
    have X12ks := X10ks.dr (d11 + d12)
    have X12box := X10box.dr (d11 + d12)
    have X12m := X10m.dr (d11 + d12)
    have X12p := X10p.dr (d11 + d12)
    have X12m1 := X10m1.dr (d11 + d12)
    have X12m2 := X10m2.dr (d11 + d12)
    have X12boxc0 := X12box.c0
    have X12boxc1 := X12box.c1
    have X12boxc2 := X12box.c2
    clear cv1 cv2
    go_wp2_with fail
    have Qb := N12b
    have Qk := N12k
    have Qr := N12r
    have Qv := N12v
    have Qw := N12w
    have Qy := N12y
    have Qz := N12z
    have Qks := X12ks
    have Qbox := X12box
    have Qm := X12m
    have Qp := X12p
    have Qm1 := X12m1
    have Qm2 := X12m2
    have QB := B12
    obtain ⟨wc, ewc⟩ : ∃ wc, wc = (W10.drewN (d11 + d12)) := ⟨_, rfl⟩
    rw [← ewc] at QB Qb Qk Qr Qv Qw Qy Qz Qks Qbox Qm Qp Qm1 Qm2 ⊢
    clear ewc
    have bd : Below wc.heap.size wc wc.drew := (Below.refl _ _).drew
    have z0 := Qbox.up bd
    have z0c0 := z0.c0
    have z0c1 := z0.c1
    have z0c2 := z0.c2
    have p0 := Qp.up bd
    have k0 := Qks.bel bd
    have b0_0 := bthen QB bd
    have nb_0 := Qb.up bd
    have nk_0 := Qk.up bd
    have nr_0 := Qr.up bd
    have nv_0 := Qv.up bd
    have nw_0 := Qw.up bd
    have sm_0 := Qm.go bd
    have sm1_0 := Qm1.go bd
    have sm2_0 := Qm2.go bd
    clear N12b N10b N12k N10k N12r N10r N12v N10v N12w N10w N12y N10y N12z X12ks X10ks X12box X10box X12m X10m X12p X10p X12m1 X10m1 X12m2 X10m2
    go_region_held3 (fun w' => w'.cell? ⟨w.heap.size, 0, none⟩ = some (Value.slice A1 n1 c1) ∧ w'.cell? ⟨w.heap.size, 1, none⟩ = some (Value.slice A2 n2 c2) ∧ w'.cell? ⟨w.heap.size, 2, none⟩ = some (Value.slice A3 n3 c3))
      (first | exact ⟨z5.c0, z5.c1, z5.c2⟩ | exact ⟨z4.c0, z4.c1, z4.c2⟩ | exact ⟨z3.c0, z3.c1, z3.c2⟩ | exact ⟨z2.c0, z2.c1, z2.c2⟩ | exact ⟨z1.c0, z1.c1, z1.c2⟩ | exact ⟨z0.c0, z0.c1, z0.c2⟩)
      ((first
        | (go_at_call 23; refine (alive_any k0).mono ?_; rintro e w_1 ⟨rfl, b_1⟩
           have z1 := z0.up b_1
           have p1 := p0.up b_1
           have k1 := k0.bel b_1
           have nb_1 := nb_0.up b_1
           have nk_1 := nk_0.up b_1
           have nr_1 := nr_0.up b_1
           have nv_1 := nv_0.up b_1
           have nw_1 := nw_0.up b_1
           have sm_1 := sm_0.go b_1
           have sm1_1 := sm1_0.go b_1
           have sm2_1 := sm2_0.go b_1
           have b0_1 := bthen b0_0 b_1)
        | (go_at_call 31; have ct := holds_any k1 p1 nb_1 eb (by omega) nr_1 er (by omega) nk_1 ek (by omega) sm_1 HR.out; rw [HX2.out, HT1.out] at ct; have Ct := Lib.hid ct; clear ct; (with_reducible refine Ct.out.mono ?_); clear Ct; rintro e w_2 ⟨rfl, b_2⟩
           have z2 := z1.up b_2
           have p2 := p1.up b_2
           have k2 := k1.bel b_2
           have nb_2 := nb_1.up b_2
           have nk_2 := nk_1.up b_2
           have nr_2 := nr_1.up b_2
           have nv_2 := nv_1.up b_2
           have nw_2 := nw_1.up b_2
           have sm_2 := sm_1.go b_2
           have sm1_2 := sm1_1.go b_2
           have sm2_2 := sm2_1.go b_2
           have b0_2 := bthen b0_1 b_2)
        | (go_at_call 32; have ct := rholds_any p2 nb_2 eb (by omega) nr_2 er (by omega) nk_2 ek (by omega) sm_2 HR.out; rw [HX.out, HT1.out] at ct; have Ct := Lib.hid ct; clear ct; (with_reducible refine Ct.out.mono ?_); clear Ct; rintro e w_3 ⟨rfl, b_3⟩
           have z3 := z2.up b_3
           have p3 := p2.up b_3
           have k3 := k2.bel b_3
           have nb_3 := nb_2.up b_3
           have nk_3 := nk_2.up b_3
           have nr_3 := nr_2.up b_3
           have nv_3 := nv_2.up b_3
           have nw_3 := nw_2.up b_3
           have sm_3 := sm_2.go b_3
           have sm1_3 := sm1_2.go b_3
           have sm2_3 := sm2_2.go b_3
           have b0_3 := bthen b0_2 b_3)
        | (go_at_call 31; have ct := holds_any k3 p3 nv_3 v5 (by omega) nr_3 er (by omega) nk_3 ek (by omega) sm2_3 HR.out; rw [HX2.out, HT2.out] at ct; have Ct := Lib.hid ct; clear ct; (with_reducible refine Ct.out.mono ?_); clear Ct; rintro e w_4 ⟨rfl, b_4⟩
           have z4 := z3.up b_4
           have p4 := p3.up b_4
           have k4 := k3.bel b_4
           have nb_4 := nb_3.up b_4
           have nk_4 := nk_3.up b_4
           have nr_4 := nr_3.up b_4
           have nv_4 := nv_3.up b_4
           have nw_4 := nw_3.up b_4
           have sm_4 := sm_3.go b_4
           have sm1_4 := sm1_3.go b_4
           have sm2_4 := sm2_3.go b_4
           have b0_4 := bthen b0_3 b_4)
        | (go_at_call 32; have ct := rholds_any p4 nw_4 v6 (by omega) nr_4 er (by omega) nk_4 ek (by omega) sm2_4 HR.out; rw [HX.out, HT2.out] at ct; have Ct := Lib.hid ct; clear ct; (with_reducible refine Ct.out.mono ?_); clear Ct; rintro e w_5 ⟨rfl, b_5⟩
           have z5 := z4.up b_5
           have p5 := p4.up b_5
           have k5 := k4.bel b_5
           have nb_5 := nb_4.up b_5
           have nk_5 := nk_4.up b_5
           have nr_5 := nr_4.up b_5
           have nv_5 := nv_4.up b_5
           have nw_5 := nw_4.up b_5
           have sm_5 := sm_4.go b_5
           have sm1_5 := sm1_4.go b_5
           have sm2_5 := sm2_4.go b_5
           have b0_5 := bthen b0_4 b_5)))
    all_goals
      go_wp2_with fail
      go_ret
      exact ⟨rfl, bthen b0 b0_5⟩

set_option maxRecDepth 100000 in
theorem door_met (os : Os) (args : Array Value) : laidMetH Tryz.prog [("clepsydra/sha.constants", Rows.laid_clepsydra_sha_constants)] ((World.doorLaid Tryz.prog 4000 os).forCall (fun _ _ => 0) ⟨#[], args, []⟩).memory :=
  laidMetH_of_parts3 (fuel := 8) (laidMet_of_run' 8 (by kernel_rfl) (by kernel_rfl)) (by kernel_rfl) (by kernel_rfl)
set_option maxRecDepth 100000 in
theorem lifted (os : Os) (started : os.Started) (H : Type) (enc : TypeId × Value → H) :
    ReturnsInHanded {} Tryz.checked os 6 .any (fun w args => (Rows.iffTellsSpec.pre enc Tryz.prog Tryz.f6 [] false w args ∧ laidMetH Tryz.prog [("clepsydra/sha.constants", Rows.laid_clepsydra_sha_constants)] w) ∧ sizedMet enc Tryz.prog Tryz.f6 (OpenSpec.ofChange Rows.iffTellsSpec) false w args)
      (Rows.iffTellsSpec.post enc Tryz.prog Tryz.f6 false true false false) := by
  refine returnsInHanded_of_change_and (C := Tryz.checked) (X := fun w _ => laidMetH Tryz.prog [("clepsydra/sha.constants", Rows.laid_clepsydra_sha_constants)] w) (fun _ _ _ hh h => h.of_heap hh) own started (by kernel_rfl) Tryz.func6
    (ChangeSpec.witness_shaped (enc := enc) (C := Tryz.checked) (os := os) (X := fun w _ => laidMetH Tryz.prog [("clepsydra/sha.constants", Rows.laid_clepsydra_sha_constants)] w) false (World.doorLaid Tryz.prog 4000 os) #[.agg #[.slice none 0 0, .slice none 0 0, .slice none 0 0], .slice none 0 0, .slice none 0 0, .slice none 0 0, .slice none 0 0] 8 rfl (World.shaped_of_RefB (by kernel_rfl) (by kernel_rfl)) (by kernel_rfl) (by kernel_rfl) (by kernel_rfl) (door_met os _)) ?_
  intro W base args ds gs before hval0 hW _ hsz0 hL _
  have hsz : (DataW.weightsEach Tryz.prog (Tryz.f6.params.toList ++ Rows.iffTellsSpec.plain.varTypes Tryz.prog) (ds ++ gs)).all (· ≤ reachBytes) = true := hsz0
  have hval : ∀ (j : Nat) t v, Tryz.f6.params[j]? = some t → args[j]? = some v → Value.okWide Tryz.prog W .any base t v := hval0
  have hW' := hW
  obtain ⟨p, q, hA0, hV, rfl, hfz, hnd⟩ := hW
  have hA : DataW.TrodAll enc Tryz.prog W 0 (fun _ => true) true Tryz.f6.params.toList args.toList ds p := hA0
  rw [Tryz.params6] at hA hval hsz
  obtain ⟨v0, vs0, d0, ds0, p0, q0, hargs, rfl, rfl, h0, r0⟩ := trodAll_cons hA
  obtain ⟨v1, vs1, d1, ds1, p1, q1, rfl, rfl, rfl, h1, r1⟩ := trodAll_cons r0
  obtain ⟨v2, vs2, d2, ds2, p2, q2, rfl, rfl, rfl, h2, r2⟩ := trodAll_cons r1
  obtain ⟨v3, vs3, d3, ds3, p3, q3, rfl, rfl, rfl, h3, r3⟩ := trodAll_cons r2
  obtain ⟨v4, vs4, d4, ds4, p4, q4, rfl, rfl, rfl, h4, r4⟩ := trodAll_cons r3
  obtain ⟨rfl, rfl, rfl⟩ := trodAll_nil r4
  obtain rfl : args = #[v0, v1, v2, v3, v4] := by cases args; simp_all
  obtain ⟨rfl, rfl⟩ := trodVars_none hV
  obtain ⟨cs0, rfl, _⟩ := okWide_struct Tryz.underlying40 (hval 0 40 v0 rfl rfl)
  have k0 := h0
  have lt0 : ∀ x ∈ p0, x.block < W.heap.size := by obtain ⟨m, hm⟩ := k0; exact DataW.trod_lt m _ _ _ hm
  obtain ⟨A1, n1, c1, x1, A2, n2, c2, x2, A3, n3, c3, x3, rfl, w0a, w0b, w0c⟩ := params_open h0
  obtain ⟨a1, len1, cap1, rfl⟩ := okWide_slice Tryz.underlying22 (hval 1 22 v1 rfl rfl)
  have k1 := h1
  have lt1 : ∀ x ∈ p1, x.block < W.heap.size := by obtain ⟨m, hm⟩ := k1; exact DataW.trod_lt m _ _ _ hm
  obtain ⟨z1, w1⟩ : ∃ zs, Nt W W.heap.size a1 len1 cap1 zs := by
    obtain ⟨fuel, hf⟩ := h1
    rcases open_ints Tryz.underlying22 Tryz.underlying53 (by kernel_rfl) hf with ⟨hcs, _⟩ | ⟨x, l, c, zs, hcs, _, hl, hm, hz, _, hcell, hwz⟩
    · simp [Value.cells] at hcs
      obtain ⟨rfl, rfl, rfl⟩ := hcs
      exact ⟨[], nt_nil _ _⟩
    · simp [Value.cells] at hcs
      obtain ⟨rfl, rfl, rfl⟩ := hcs
      exact ⟨_, nt_of_row hl hm (by simpa using hz) hcell hwz⟩
  obtain ⟨a2, len2, cap2, rfl⟩ := okWide_slice Tryz.underlying22 (hval 2 22 v2 rfl rfl)
  have k2 := h2
  have lt2 : ∀ x ∈ p2, x.block < W.heap.size := by obtain ⟨m, hm⟩ := k2; exact DataW.trod_lt m _ _ _ hm
  obtain ⟨z2, w2⟩ : ∃ zs, Nt W W.heap.size a2 len2 cap2 zs := by
    obtain ⟨fuel, hf⟩ := h2
    rcases open_ints Tryz.underlying22 Tryz.underlying53 (by kernel_rfl) hf with ⟨hcs, _⟩ | ⟨x, l, c, zs, hcs, _, hl, hm, hz, _, hcell, hwz⟩
    · simp [Value.cells] at hcs
      obtain ⟨rfl, rfl, rfl⟩ := hcs
      exact ⟨[], nt_nil _ _⟩
    · simp [Value.cells] at hcs
      obtain ⟨rfl, rfl, rfl⟩ := hcs
      exact ⟨_, nt_of_row hl hm (by simpa using hz) hcell hwz⟩
  obtain ⟨a3, len3, cap3, rfl⟩ := okWide_slice Tryz.underlying22 (hval 3 22 v3 rfl rfl)
  have k3 := h3
  have lt3 : ∀ x ∈ p3, x.block < W.heap.size := by obtain ⟨m, hm⟩ := k3; exact DataW.trod_lt m _ _ _ hm
  obtain ⟨z3, w3⟩ : ∃ zs, Nt W W.heap.size a3 len3 cap3 zs := by
    obtain ⟨fuel, hf⟩ := h3
    rcases open_ints Tryz.underlying22 Tryz.underlying53 (by kernel_rfl) hf with ⟨hcs, _⟩ | ⟨x, l, c, zs, hcs, _, hl, hm, hz, _, hcell, hwz⟩
    · simp [Value.cells] at hcs
      obtain ⟨rfl, rfl, rfl⟩ := hcs
      exact ⟨[], nt_nil _ _⟩
    · simp [Value.cells] at hcs
      obtain ⟨rfl, rfl, rfl⟩ := hcs
      exact ⟨_, nt_of_row hl hm (by simpa using hz) hcell hwz⟩
  obtain ⟨a4, len4, cap4, rfl⟩ := okWide_slice Tryz.underlying25 (hval 4 25 v4 rfl rfl)
  have k4 := h4
  have lt4 : ∀ x ∈ p4, x.block < W.heap.size := by obtain ⟨m, hm⟩ := k4; exact DataW.trod_lt m _ _ _ hm
  obtain ⟨z4, w4⟩ : ∃ zs, Nb W W.heap.size a4 len4 cap4 zs := by
    obtain ⟨fuel, hf⟩ := h4
    rcases open_ints Tryz.underlying25 Tryz.underlying5 (by kernel_rfl) hf with ⟨hcs, _⟩ | ⟨x, l, c, zs, hcs, _, hl, hm, hz, hd, hcell, hwz⟩
    · simp [Value.cells] at hcs
      obtain ⟨rfl, rfl, rfl⟩ := hcs
      exact ⟨[], nb_nil _ _⟩
    · simp [Value.cells] at hcs
      obtain ⟨rfl, rfl, rfl⟩ := hcs
      exact ⟨_, nb_of_row hl hm (by simpa using hz) hcell hwz⟩
  clear hA0 hval0
  refine (law_any (of_laid hL) w0a w0b w0c w1 w2 w3 w4).mono fun e W' ⟨he, bel⟩ => ?_
  subst he
  exact ⟨_, rfl, _, _, _, [], _, [], hW', trodAll_mk1 (shut_bool Tryz.underlying4 _), (trodAll_cons_mk (Below.trod laidOut (by kernel_rfl) (of_decide_eq_true (by kernel_rfl)) k0 bel lt0) (trodAll_cons_mk (Below.trod laidOut (by kernel_rfl) (of_decide_eq_true (by kernel_rfl)) k1 bel lt1) (trodAll_cons_mk (Below.trod laidOut (by kernel_rfl) (of_decide_eq_true (by kernel_rfl)) k2 bel lt2) (trodAll_cons_mk (Below.trod laidOut (by kernel_rfl) (of_decide_eq_true (by kernel_rfl)) k3 bel lt3) (trodAll_cons_mk (Below.trod laidOut (by kernel_rfl) (of_decide_eq_true (by kernel_rfl)) k4 bel lt4) trodAll_mk0))))), rfl, bel.frame _, fun h => by cases h⟩

theorem iffTells_holds : Rows.IffTellsSaid :=
  OpenClaim.holds_of_wide 6 Tryz.f6 rfl rfl rfl rfl rfl rfl rfl ⟨rfl, rfl, rfl, rfl, rfl⟩ rfl rfl rfl rfl rfl (by kernel_rfl) Tryz.func6 (by kernel_rfl)
    (of_decide_eq_true (by kernel_rfl)) (by unfold Func.isWrapper; first | (rw [if_pos (by decide +kernel)]; kernel_rfl) | (rw [if_neg (by decide +kernel)]; exact ⟨rfl, rfl⟩))
    (fun os started H enc _ => lifted os started H enc)
theorem iffTells_card : Rows.IffTellsCardSaid :=
  Claim7.holds_tied_plain_at .later [] [.data] true (true, "08b5c815c4ce98d0939ca56bd09f004e88258d10564a8ae8158c8b934526e78b") false
    iffTells_holds (fun _ h => by cases h) (by kernel_rfl) (fun _ h => by cases h) iffTells_row_tie rfl ⟨rfl, rfl⟩ (by kernel_rfl) rfl
    (fun f fn hf hfn => by
      obtain rfl : f = 6 := Option.some.inj ((show Tryz.prog.funcNamed "clepsydra/clepsydralaw06.IffTells" = some 6 by kernel_rfl).symm.trans hf) |>.symm
      obtain rfl : fn = Tryz.f6 := (Option.some.inj (Tryz.func6.symm.trans hfn)).symm
      exact ⟨by kernel_rfl, fun j t ht => by
        rw [Tryz.params6] at ht
        have hm : t ∈ [40, 22, 22, 22, 25] := by simpa using Array.mem_of_getElem? ht
        have hall : ([40, 22, 22, 22, 25].all fun u => !Tryz.prog.wantsStandIn u) = true := by kernel_rfl
        exact (show Tryz.prog.wantsStandIn t = false by simpa using List.all_eq_true.1 hall t hm)⟩)
    (by kernel_rfl)
#print axioms iffTells_card
end Go.Proofs.YtkeejhkjbmegkaaGreatDoor.iffTellsP
