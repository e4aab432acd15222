/- For every group and every two questions and answers the Go function IffExtracts returns true and leaves its arguments as they were. No condition but the laid constants. -/
import Derived.Test.YtkeejhkjbmegkaaGreatDoorEr
import Derived.Test.YtkeejhkjbmegkaaGreatDoorFrame
import Derived.Test.YtkeejhkjbmegkaaGreatDoorIMath
namespace Go.Proofs.YtkeejhkjbmegkaaGreatDoor.iffExtractsP
open Go.ChangeShapes Go.WideShapes Go.ChangeAt Go.RowKit
set_option linter.unusedVariables false
set_option maxRecDepth 100000

set_option maxHeartbeats 8000000 in
theorem law_any {w : World} (hks : Sh.Ks w) {A1 A2 A3 Ab Ak Ar As : Option Addr} {n1 c1 n2 c2 n3 c3 nb cb nk ck nr cr ns cs : Nat} {x1 x2 x3 xb xk xr xs : List Nat} (h1 : Nt w w.heap.size A1 n1 c1 x1) (h2 : Nt w w.heap.size A2 n2 c2 x2) (h3 : Nt w w.heap.size A3 n3 c3 x3)
    (hb : Nt w w.heap.size Ab nb cb xb) (hk : Nt w w.heap.size Ak nk ck xk) (hr : Nt w w.heap.size Ar nr cr xr) (hs : Nt w w.heap.size As ns cs xs) :
    Calls Tryz.prog 7 #[.agg #[.slice A1 n1 c1, .slice A2 n2 c2, .slice A3 n3 c3], .slice Ab nb cb, .slice Ak nk ck, .slice Ar nr cr, .slice As ns cs] w (Yes w) := by
  have hr1 := h1.rooms
  have hr2 := h2.rooms
  have hr3 := h3.rooms
  have hrb := hb.rooms
  have hrk := hk.rooms
  have hrr := hr.rooms
  have hrs := hs.rooms
  obtain ⟨w0, e0⟩ : ∃ w0, w0 = w.alloc (.cells #[Value.slice A1 n1 c1, .slice A2 n2 c2, .slice A3 n3 c3] 40) := ⟨_, rfl⟩
  obtain ⟨hx0, b0⟩ := box_new e0
  have hk0 := hks.bel b0
  have g1 := h1.up b0
  have g2 := h2.up b0
  have g3 := h3.up b0
  have gb := hb.up b0
  have gk := hk.up b0
  have gr := hr.up b0
  have gs := hs.up b0
  obtain ⟨b, eb⟩ : ∃ v, val 18446744073709551616 xb = v := ⟨_, rfl⟩
  obtain ⟨k, ek⟩ : ∃ v, val 18446744073709551616 xk = v := ⟨_, rfl⟩
  obtain ⟨r, er⟩ : ∃ v, val 18446744073709551616 xr = v := ⟨_, rfl⟩
  obtain ⟨s, es⟩ : ∃ v, val 18446744073709551616 xs = v := ⟨_, rfl⟩
  have hHv := fun W => heavyP_any A1 A2 A3 n1 c1 n2 c2 n3 c3 hr1.1 hr2.1 hr3.1 W
  obtain ⟨hv, hhv⟩ : ∃ hv, decide (3 < n1 ∨ 3 < n2 ∨ 3 < n3) = hv := ⟨_, rfl⟩
  rw [hhv] at hHv
  have HHv := Lib.hid hHv
  have Hhv := Lib.hid hhv
  clear hHv hhv
  cases hv with
  | true =>
    have hx0c0 := hx0.c0
    have hx0c1 := hx0.c1
    have hx0c2 := hx0.c2
    go_enter Tryz.func7, Tryz.ntmps7
    go_wp2_with fail
    rw [← e0]
    clear e0
    refine (HHv.out _).mono ?_
    rintro e W1 ⟨rfl, b1⟩
    have N1b := gb.up b1
    have N1k := gk.up b1
    have N1r := gr.up b1
    have N1s := gs.up b1
    have B1 := b1
    have X1ks := hk0.bel b1
    have X1box := hx0.up b1
    have X1boxc0 := X1box.c0
    have X1boxc1 := X1box.c1
    have X1boxc2 := X1box.c2
    go_wp2_with fail
    refine (alive_any X1ks).mono ?_
    rintro e W2 ⟨rfl, b2⟩
    have N2b := N1b.up b2
    have N2k := N1k.up b2
    have N2r := N1r.up b2
    have N2s := N1s.up b2
    have B2 := bthen B1 b2
    have X2ks := X1ks.bel b2
    have X2box := X1box.up b2
    have X2boxc0 := X2box.c0
    have X2boxc1 := X2box.c1
    have X2boxc2 := X2box.c2
    clear N1b N1k N1r N1s X1ks X1box X1boxc0 X1boxc1 X1boxc2 B1
    go_wp2_with fail
    go_ret
    exact ⟨rfl, bthen b0 B2⟩
  | false =>
  have hn := of_decide_eq_false Hhv.out
  have hn1 : n1 ≤ 3 := by omega
  have hn2 : n2 ≤ 3 := by omega
  have hn3 : n3 ≤ 3 := by omega
  clear hn
  by_cases y0 : 3 < nb
  · have hx0c0 := hx0.c0
    have hx0c1 := hx0.c1
    have hx0c2 := hx0.c2
    go_enter Tryz.func7, Tryz.ntmps7
    go_wp2_with fail
    rw [← e0]
    clear e0
    refine (HHv.out _).mono ?_
    rintro e W1 ⟨rfl, b1⟩
    have N1b := gb.up b1
    have N1k := gk.up b1
    have N1r := gr.up b1
    have N1s := gs.up b1
    have B1 := b1
    have X1ks := hk0.bel b1
    have X1box := hx0.up b1
    have X1boxc0 := X1box.c0
    have X1boxc1 := X1box.c1
    have X1boxc2 := X1box.c2
    go_wp2_with fail
    refine (heavy_yes Ab nb cb (by omega) (by omega) _).mono ?_
    rintro e W2 ⟨rfl, rfl⟩
    go_wp2_with fail
    refine (alive_any X1ks).mono ?_
    rintro e W3 ⟨rfl, b3⟩
    have N3b := N1b.up b3
    have N3k := N1k.up b3
    have N3r := N1r.up b3
    have N3s := N1s.up b3
    have B3 := bthen B1 b3
    have X3ks := X1ks.bel b3
    have X3box := X1box.up b3
    have X3boxc0 := X3box.c0
    have X3boxc1 := X3box.c1
    have X3boxc2 := X3box.c2
    clear N1b N1k N1r N1s X1ks X1box X1boxc0 X1boxc1 X1boxc2 B1
    go_wp2_with fail
    go_ret
    exact ⟨rfl, bthen b0 B3⟩
  by_cases y1 : 3 < nk
  · have hx0c0 := hx0.c0
    have hx0c1 := hx0.c1
    have hx0c2 := hx0.c2
    go_enter Tryz.func7, Tryz.ntmps7
    go_wp2_with fail
    rw [← e0]
    clear e0
    refine (HHv.out _).mono ?_
    rintro e W1 ⟨rfl, b1⟩
    have N1b := gb.up b1
    have N1k := gk.up b1
    have N1r := gr.up b1
    have N1s := gs.up b1
    have B1 := b1
    have X1ks := hk0.bel b1
    have X1box := hx0.up b1
    have X1boxc0 := X1box.c0
    have X1boxc1 := X1box.c1
    have X1boxc2 := X1box.c2
    go_wp2_with fail
    refine (heavy_no Ab nb cb (by omega) _).mono ?_
    rintro e W2 ⟨rfl, rfl⟩
    go_wp2_with fail
    refine (heavy_yes Ak nk ck (by omega) (by omega) _).mono ?_
    rintro e W3 ⟨rfl, rfl⟩
    go_wp2_with fail
    refine (alive_any X1ks).mono ?_
    rintro e W4 ⟨rfl, b4⟩
    have N4b := N1b.up b4
    have N4k := N1k.up b4
    have N4r := N1r.up b4
    have N4s := N1s.up b4
    have B4 := bthen B1 b4
    have X4ks := X1ks.bel b4
    have X4box := X1box.up b4
    have X4boxc0 := X4box.c0
    have X4boxc1 := X4box.c1
    have X4boxc2 := X4box.c2
    clear N1b N1k N1r N1s X1ks X1box X1boxc0 X1boxc1 X1boxc2 B1
    go_wp2_with fail
    go_ret
    exact ⟨rfl, bthen b0 B4⟩
  by_cases y2 : 3 < nr
  · have hx0c0 := hx0.c0
    have hx0c1 := hx0.c1
    have hx0c2 := hx0.c2
    go_enter Tryz.func7, Tryz.ntmps7
    go_wp2_with fail
    rw [← e0]
    clear e0
    refine (HHv.out _).mono ?_
    rintro e W1 ⟨rfl, b1⟩
    have N1b := gb.up b1
    have N1k := gk.up b1
    have N1r := gr.up b1
    have N1s := gs.up b1
    have B1 := b1
    have X1ks := hk0.bel b1
    have X1box := hx0.up b1
    have X1boxc0 := X1box.c0
    have X1boxc1 := X1box.c1
    have X1boxc2 := X1box.c2
    go_wp2_with fail
    refine (heavy_no Ab nb cb (by omega) _).mono ?_
    rintro e W2 ⟨rfl, rfl⟩
    go_wp2_with fail
    refine (heavy_no Ak nk ck (by omega) _).mono ?_
    rintro e W3 ⟨rfl, rfl⟩
    go_wp2_with fail
    refine (heavy_yes Ar nr cr (by omega) (by omega) _).mono ?_
    rintro e W4 ⟨rfl, rfl⟩
    go_wp2_with fail
    refine (alive_any X1ks).mono ?_
    rintro e W5 ⟨rfl, b5⟩
    have N5b := N1b.up b5
    have N5k := N1k.up b5
    have N5r := N1r.up b5
    have N5s := N1s.up b5
    have B5 := bthen B1 b5
    have X5ks := X1ks.bel b5
    have X5box := X1box.up b5
    have X5boxc0 := X5box.c0
    have X5boxc1 := X5box.c1
    have X5boxc2 := X5box.c2
    clear N1b N1k N1r N1s X1ks X1box X1boxc0 X1boxc1 X1boxc2 B1
    go_wp2_with fail
    go_ret
    exact ⟨rfl, bthen b0 B5⟩
  by_cases y3 : 3 < ns
  · have hx0c0 := hx0.c0
    have hx0c1 := hx0.c1
    have hx0c2 := hx0.c2
    go_enter Tryz.func7, Tryz.ntmps7
    go_wp2_with fail
    rw [← e0]
    clear e0
    refine (HHv.out _).mono ?_
    rintro e W1 ⟨rfl, b1⟩
    have N1b := gb.up b1
    have N1k := gk.up b1
    have N1r := gr.up b1
    have N1s := gs.up b1
    have B1 := b1
    have X1ks := hk0.bel b1
    have X1box := hx0.up b1
    have X1boxc0 := X1box.c0
    have X1boxc1 := X1box.c1
    have X1boxc2 := X1box.c2
    go_wp2_with fail
    refine (heavy_no Ab nb cb (by omega) _).mono ?_
    rintro e W2 ⟨rfl, rfl⟩
    go_wp2_with fail
    refine (heavy_no Ak nk ck (by omega) _).mono ?_
    rintro e W3 ⟨rfl, rfl⟩
    go_wp2_with fail
    refine (heavy_no Ar nr cr (by omega) _).mono ?_
    rintro e W4 ⟨rfl, rfl⟩
    go_wp2_with fail
    refine (heavy_yes As ns cs (by omega) (by omega) _).mono ?_
    rintro e W5 ⟨rfl, rfl⟩
    go_wp2_with fail
    refine (alive_any X1ks).mono ?_
    rintro e W6 ⟨rfl, b6⟩
    have N6b := N1b.up b6
    have N6k := N1k.up b6
    have N6r := N1r.up b6
    have N6s := N1s.up b6
    have B6 := bthen B1 b6
    have X6ks := X1ks.bel b6
    have X6box := X1box.up b6
    have X6boxc0 := X6box.c0
    have X6boxc1 := X6box.c1
    have X6boxc2 := X6box.c2
    clear N1b N1k N1r N1s X1ks X1box X1boxc0 X1boxc1 X1boxc2 B1
    go_wp2_with fail
    go_ret
    exact ⟨rfl, bthen b0 B6⟩
  obtain ⟨P, e1⟩ : ∃ v, val 18446744073709551616 x1 = v := ⟨_, rfl⟩
  obtain ⟨Q, e2⟩ : ∃ v, val 18446744073709551616 x2 = v := ⟨_, rfl⟩
  obtain ⟨G, e3⟩ : ∃ v, val 18446744073709551616 x3 = v := ⟨_, rfl⟩
  have hp0 : Pr w0 (.agg #[.slice A1 n1 c1, .slice A2 n2 c2, .slice A3 n3 c3]) P Q G := ⟨_, _, _, _, _, _, _, _, _, _, _, _, rfl, g1, e1, by omega, g2, e2, by omega, g3, e3, by omega⟩
  obtain ⟨R, hR⟩ : ∃ R, rightN P Q G = R := ⟨_, rfl⟩
  cases R with
  | false =>
    have HR := Lib.hid hR
    clear hR
    have hx0c0 := hx0.c0
    have hx0c1 := hx0.c1
    have hx0c2 := hx0.c2
    go_enter Tryz.func7, Tryz.ntmps7
    go_wp2_with fail
    rw [← e0]
    clear e0
    refine (HHv.out _).mono ?_
    rintro e W1 ⟨rfl, b1⟩
    have N1b := gb.up b1
    have N1k := gk.up b1
    have N1r := gr.up b1
    have N1s := gs.up b1
    have B1 := b1
    have X1ks := hk0.bel b1
    have X1box := hx0.up b1
    have X1p := hp0.up b1
    have X1boxc0 := X1box.c0
    have X1boxc1 := X1box.c1
    have X1boxc2 := X1box.c2
    go_wp2_with fail
    refine (heavy_no Ab nb cb (by omega) _).mono ?_
    rintro e W2 ⟨rfl, rfl⟩
    go_wp2_with fail
    refine (heavy_no Ak nk ck (by omega) _).mono ?_
    rintro e W3 ⟨rfl, rfl⟩
    go_wp2_with fail
    refine (heavy_no Ar nr cr (by omega) _).mono ?_
    rintro e W4 ⟨rfl, rfl⟩
    go_wp2_with fail
    refine (heavy_no As ns cs (by omega) _).mono ?_
    rintro e W5 ⟨rfl, rfl⟩
    go_wp2_with fail
    refine (extract_bad X1p _ _ _ _ _ _ _ _ _ _ _ _ HR.out).mono ?_
    rintro e W6 ⟨rfl, b6⟩
    have N6b := N1b.up b6
    have N6k := N1k.up b6
    have N6r := N1r.up b6
    have N6s := N1s.up b6
    have B6 := bthen B1 b6
    have X6ks := X1ks.bel b6
    have X6box := X1box.up b6
    have X6p := X1p.up b6
    have X6boxc0 := X6box.c0
    have X6boxc1 := X6box.c1
    have X6boxc2 := X6box.c2
    clear N1b N1k N1r N1s X1ks X1box X1p X1boxc0 X1boxc1 X1boxc2 B1
    go_wp2_with fail
    refine (rextract_bad X6p _ _ _ _ _ _ _ _ _ _ _ _ HR.out).mono ?_
    rintro e W7 ⟨rfl, b7⟩
    have N7b := N6b.up b7
    have N7k := N6k.up b7
    have N7r := N6r.up b7
    have N7s := N6s.up b7
    have B7 := bthen B6 b7
    have X7ks := X6ks.bel b7
    have X7box := X6box.up b7
    have X7p := X6p.up b7
    have X7boxc0 := X7box.c0
    have X7boxc1 := X7box.c1
    have X7boxc2 := X7box.c2
    clear N6b N6k N6r N6s X6ks X6box X6p X6boxc0 X6boxc1 X6boxc2 B6
    go_wp2_with fail
    refine (alive_any X7ks).mono ?_
    rintro e W8 ⟨rfl, b8⟩
    have N8b := N7b.up b8
    have N8k := N7k.up b8
    have N8r := N7r.up b8
    have N8s := N7s.up b8
    have B8 := bthen B7 b8
    have X8ks := X7ks.bel b8
    have X8box := X7box.up b8
    have X8p := X7p.up b8
    have X8boxc0 := X8box.c0
    have X8boxc1 := X8box.c1
    have X8boxc2 := X8box.c2
    clear N7b N7k N7r N7s X7ks X7box X7p X7boxc0 X7boxc1 X7boxc2 B7
    go_wp2_with fail
    refine (same_yes (nt_nil _ 0) (nt_nil _ 0) rfl).mono ?_
    rintro e W9 ⟨rfl, d9, rfl⟩
    have N9b := N8b.dr d9
    have N9k := N8k.dr d9
    have N9r := N8r.dr d9
    have N9s := N8s.dr d9
    have B9 := bdr B8 d9
    have X9ks := X8ks.dr d9
    have X9box := X8box.dr d9
    have X9p := X8p.dr d9
    have X9boxc0 := X9box.c0
    have X9boxc1 := X9box.c1
    have X9boxc2 := X9box.c2
    go_wp2_with fail
    go_ret
    exact ⟨rfl, bthen b0 B9⟩
  | true =>
    obtain ⟨hP2, hQ2, _, _, hGQ, _⟩ := rightN_parts hR
    have pQ : Q < 18446744073709551616 ^ 3 := by rw [← e2]; exact g2.below_pow hn2
    have Pq : Hid (∀ t, t % Q < 18446744073709551616 ^ 3) := fun t => Nat.lt_trans (Nat.mod_lt _ (by omega)) pQ
    have HR := Lib.hid hR
    have Hinv := Lib.hid (fun (X f g : Nat) (h1 : f < Q) (h2 : g < Q) (h3 : X * f % Q = 1 % Q) (h4 : X * g % Q = 1 % Q) => inv_one h1 h2 h3 h4)
    clear hR pQ hGQ
    rcases Nat.decEq (Nat.gcd (lessN b r Q) Q) 1 with hg | hg
    · have hx0c0 := hx0.c0
      have hx0c1 := hx0.c1
      have hx0c2 := hx0.c2
      go_enter Tryz.func7, Tryz.ntmps7
      go_wp2_with fail
      rw [← e0]
      clear e0
      refine (HHv.out _).mono ?_
      rintro e W1 ⟨rfl, b1⟩
      have N1b := gb.up b1
      have N1k := gk.up b1
      have N1r := gr.up b1
      have N1s := gs.up b1
      have B1 := b1
      have X1ks := hk0.bel b1
      have X1box := hx0.up b1
      have X1p := hp0.up b1
      have X1boxc0 := X1box.c0
      have X1boxc1 := X1box.c1
      have X1boxc2 := X1box.c2
      go_wp2_with fail
      refine (heavy_no Ab nb cb (by omega) _).mono ?_
      rintro e W2 ⟨rfl, rfl⟩
      go_wp2_with fail
      refine (heavy_no Ak nk ck (by omega) _).mono ?_
      rintro e W3 ⟨rfl, rfl⟩
      go_wp2_with fail
      refine (heavy_no Ar nr cr (by omega) _).mono ?_
      rintro e W4 ⟨rfl, rfl⟩
      go_wp2_with fail
      refine (heavy_no As ns cs (by omega) _).mono ?_
      rintro e W5 ⟨rfl, rfl⟩
      go_wp2_with fail
      have hx := extract_any X1p N1b eb (by omega) N1k ek (by omega) N1r er (by omega) N1s es (by omega) HR.out
      have hx2 := hx.mono fun e w' h => h.1 hg
      have Hx2 := Lib.hid hx2
      clear hx hx2
      refine (Hx2.out).mono ?_
      rintro e W6 ⟨rfl, b6⟩
      have N6b := N1b.up b6
      have N6k := N1k.up b6
      have N6r := N1r.up b6
      have N6s := N1s.up b6
      have B6 := bthen B1 b6
      have X6ks := X1ks.bel b6
      have X6box := X1box.up b6
      have X6p := X1p.up b6
      have X6boxc0 := X6box.c0
      have X6boxc1 := X6box.c1
      have X6boxc2 := X6box.c2
      clear N1b N1k N1r N1s X1ks X1box X1p X1boxc0 X1boxc1 X1boxc2 B1
      go_wp2_with fail
      have hy := rextract_any X6p N6b eb (by omega) N6k ek (by omega) N6r er (by omega) N6s es (by omega) HR.out
      have hy2 := hy.mono fun e w' h => h.1 hg
      have Hy2 := Lib.hid hy2
      clear hy hy2
      refine (Hy2.out).mono ?_
      rintro e W7 ⟨rfl, b7⟩
      have N7b := N6b.up b7
      have N7k := N6k.up b7
      have N7r := N6r.up b7
      have N7s := N6s.up b7
      have B7 := bthen B6 b7
      have X7ks := X6ks.bel b7
      have X7box := X6box.up b7
      have X7p := X6p.up b7
      have X7boxc0 := X7box.c0
      have X7boxc1 := X7box.c1
      have X7boxc2 := X7box.c2
      clear N6b N6k N6r N6s X6ks X6box X6p X6boxc0 X6boxc1 X6boxc2 B6
      go_wp2_with fail
      refine (alive_any X7ks).mono ?_
      rintro e W8 ⟨rfl, b8⟩
      have N8b := N7b.up b8
      have N8k := N7k.up b8
      have N8r := N7r.up b8
      have N8s := N7s.up b8
      have B8 := bthen B7 b8
      have X8ks := X7ks.bel b8
      have X8box := X7box.up b8
      have X8p := X7p.up b8
      have X8boxc0 := X8box.c0
      have X8boxc1 := X8box.c1
      have X8boxc2 := X8box.c2
      clear N7b N7k N7r N7s X7ks X7box X7p X7boxc0 X7boxc1 X7boxc2 B7
      go_wp2_with fail
      refine (same_yes (nt_nil _ 0) (nt_nil _ 0) rfl).mono ?_
      rintro e W9 ⟨rfl, d9, rfl⟩
      have N9b := N8b.dr d9
      have N9k := N8k.dr d9
      have N9r := N8r.dr d9
      have N9s := N8s.dr d9
      have B9 := bdr B8 d9
      have X9ks := X8ks.dr d9
      have X9box := X8box.dr d9
      have X9p := X8p.dr d9
      have X9boxc0 := X9box.c0
      have X9boxc1 := X9box.c1
      have X9boxc2 := X9box.c2
      go_wp2_with fail
      go_ret
      exact ⟨rfl, bthen b0 B9⟩
    · have hx0c0 := hx0.c0
      have hx0c1 := hx0.c1
      have hx0c2 := hx0.c2
      go_enter Tryz.func7, Tryz.ntmps7
      go_wp2_with fail
      rw [← e0]
      clear e0
      refine (HHv.out _).mono ?_
      rintro e W1 ⟨rfl, b1⟩
      have N1b := gb.up b1
      have N1k := gk.up b1
      have N1r := gr.up b1
      have N1s := gs.up b1
      have B1 := b1
      have X1ks := hk0.bel b1
      have X1box := hx0.up b1
      have X1p := hp0.up b1
      have X1boxc0 := X1box.c0
      have X1boxc1 := X1box.c1
      have X1boxc2 := X1box.c2
      go_wp2_with fail
      refine (heavy_no Ab nb cb (by omega) _).mono ?_
      rintro e W2 ⟨rfl, rfl⟩
      go_wp2_with fail
      refine (heavy_no Ak nk ck (by omega) _).mono ?_
      rintro e W3 ⟨rfl, rfl⟩
      go_wp2_with fail
      refine (heavy_no Ar nr cr (by omega) _).mono ?_
      rintro e W4 ⟨rfl, rfl⟩
      go_wp2_with fail
      refine (heavy_no As ns cs (by omega) _).mono ?_
      rintro e W5 ⟨rfl, rfl⟩
      go_wp2_with fail
      have hx := extract_any X1p N1b eb (by omega) N1k ek (by omega) N1r er (by omega) N1s es (by omega) HR.out
      have hx2 := hx.mono fun e w' h => h.2 hg
      have Hx2 := Lib.hid hx2
      clear hx hx2
      refine (Hx2.out).mono ?_
      rintro e W6 ⟨f, hf, hfe, A6, n6, c6, x6, rfl, r6⟩
      have l6 := r6.le (k := 3) (Pq.out _)
      have v6 := r6.is
      have t6 := r6.trm
      have N6b := N1b.up r6.bel
      have N6k := N1k.up r6.bel
      have N6r := N1r.up r6.bel
      have N6s := N1s.up r6.bel
      have B6 := bthen B1 r6.bel
      have X6ks := X1ks.bel r6.bel
      have X6box := X1box.up r6.bel
      have X6p := X1p.up r6.bel
      have X6boxc0 := X6box.c0
      have X6boxc1 := X6box.c1
      have X6boxc2 := X6box.c2
      clear N1b N1k N1r N1s X1ks X1box X1p X1boxc0 X1boxc1 X1boxc2 B1
      have Hfe := Lib.hid hfe
      clear hfe
      go_wp2_with fail
      have hy := rextract_any X6p N6b eb (by omega) N6k ek (by omega) N6r er (by omega) N6s es (by omega) HR.out
      have hy2 := hy.mono fun e w' h => h.2 hg
      have Hy2 := Lib.hid hy2
      clear hy hy2
      refine (Hy2.out).mono ?_
      rintro e W7 ⟨f2, hf2, hfe2, A7, n7, c7, x7, rfl, r7⟩
      have l7 := r7.le (k := 3) (Pq.out _)
      have v7 := r7.is
      have t7 := r7.trm
      have N7b := N6b.up r7.bel
      have N7k := N6k.up r7.bel
      have N7r := N6r.up r7.bel
      have N7s := N6s.up r7.bel
      have N7x := r6.nt.up r7.bel
      have B7 := bthen B6 r7.bel
      have X7ks := X6ks.bel r7.bel
      have X7box := X6box.up r7.bel
      have X7p := X6p.up r7.bel
      have X7boxc0 := X7box.c0
      have X7boxc1 := X7box.c1
      have X7boxc2 := X7box.c2
      clear N6b N6k N6r N6s X6ks X6box X6p X6boxc0 X6boxc1 X6boxc2 B6
      obtain rfl := Hinv.out _ f f2 hf hf2 Hfe.out hfe2
      clear hfe2
      go_wp2_with fail
      refine (alive_any X7ks).mono ?_
      rintro e W8 ⟨rfl, b8⟩
      have N8b := N7b.up b8
      have N8k := N7k.up b8
      have N8r := N7r.up b8
      have N8s := N7s.up b8
      have N8x := N7x.up b8
      have N8y := r7.nt.up b8
      have B8 := bthen B7 b8
      have X8ks := X7ks.bel b8
      have X8box := X7box.up b8
      have X8p := X7p.up b8
      have X8boxc0 := X8box.c0
      have X8boxc1 := X8box.c1
      have X8boxc2 := X8box.c2
      clear N7b N7k N7r N7s N7x X7ks X7box X7p X7boxc0 X7boxc1 X7boxc2 B7
      go_wp2_with fail
      refine (same_yes N8x N8y (trm_same t6 t7 N8x.lim N8y.lim (by rw [v6, v7]))).mono ?_
      rintro e W9 ⟨rfl, d9, rfl⟩
      have N9b := N8b.dr d9
      have N9k := N8k.dr d9
      have N9r := N8r.dr d9
      have N9s := N8s.dr d9
      have N9x := N8x.dr d9
      have N9y := N8y.dr d9
      have B9 := bdr B8 d9
      have X9ks := X8ks.dr d9
      have X9box := X8box.dr d9
      have X9p := X8p.dr d9
      have X9boxc0 := X9box.c0
      have X9boxc1 := X9box.c1
      have X9boxc2 := X9box.c2
      go_wp2_with fail
      go_ret
      exact ⟨rfl, bthen b0 B9⟩

set_option maxRecDepth 100000 in
theorem door_met (os : Os) (args : Array Value) : laidMetH Tryz.prog [("clepsydra/sha.constants", Rows.laid_clepsydra_sha_constants)] ((World.doorLaid Tryz.prog 4000 os).forCall (fun _ _ => 0) ⟨#[], args, []⟩).memory :=
  laidMetH_of_parts3 (fuel := 8) (laidMet_of_run' 8 (by kernel_rfl) (by kernel_rfl)) (by kernel_rfl) (by kernel_rfl)
set_option maxRecDepth 100000 in
theorem lifted (os : Os) (started : os.Started) (H : Type) (enc : TypeId × Value → H) :
    ReturnsInHanded {} Tryz.checked os 7 .any (fun w args => (Rows.iffExtractsSpec.pre enc Tryz.prog Tryz.f7 [] false w args ∧ laidMetH Tryz.prog [("clepsydra/sha.constants", Rows.laid_clepsydra_sha_constants)] w) ∧ sizedMet enc Tryz.prog Tryz.f7 (OpenSpec.ofChange Rows.iffExtractsSpec) false w args)
      (Rows.iffExtractsSpec.post enc Tryz.prog Tryz.f7 false true false false) := by
  refine returnsInHanded_of_change_and (C := Tryz.checked) (X := fun w _ => laidMetH Tryz.prog [("clepsydra/sha.constants", Rows.laid_clepsydra_sha_constants)] w) (fun _ _ _ hh h => h.of_heap hh) own started (by kernel_rfl) Tryz.func7
    (ChangeSpec.witness_shaped (enc := enc) (C := Tryz.checked) (os := os) (X := fun w _ => laidMetH Tryz.prog [("clepsydra/sha.constants", Rows.laid_clepsydra_sha_constants)] w) false (World.doorLaid Tryz.prog 4000 os) #[.agg #[.slice none 0 0, .slice none 0 0, .slice none 0 0], .slice none 0 0, .slice none 0 0, .slice none 0 0, .slice none 0 0] 8 rfl (World.shaped_of_RefB (by kernel_rfl) (by kernel_rfl)) (by kernel_rfl) (by kernel_rfl) (by kernel_rfl) (door_met os _)) ?_
  intro W base args ds gs before hval0 hW _ hsz0 hL _
  have hsz : (DataW.weightsEach Tryz.prog (Tryz.f7.params.toList ++ Rows.iffExtractsSpec.plain.varTypes Tryz.prog) (ds ++ gs)).all (· ≤ reachBytes) = true := hsz0
  have hval : ∀ (j : Nat) t v, Tryz.f7.params[j]? = some t → args[j]? = some v → Value.okWide Tryz.prog W .any base t v := hval0
  have hW' := hW
  obtain ⟨p, q, hA0, hV, rfl, hfz, hnd⟩ := hW
  have hA : DataW.TrodAll enc Tryz.prog W 0 (fun _ => true) true Tryz.f7.params.toList args.toList ds p := hA0
  rw [Tryz.params7] at hA hval hsz
  obtain ⟨v0, vs0, d0, ds0, p0, q0, hargs, rfl, rfl, h0, r0⟩ := trodAll_cons hA
  obtain ⟨v1, vs1, d1, ds1, p1, q1, rfl, rfl, rfl, h1, r1⟩ := trodAll_cons r0
  obtain ⟨v2, vs2, d2, ds2, p2, q2, rfl, rfl, rfl, h2, r2⟩ := trodAll_cons r1
  obtain ⟨v3, vs3, d3, ds3, p3, q3, rfl, rfl, rfl, h3, r3⟩ := trodAll_cons r2
  obtain ⟨v4, vs4, d4, ds4, p4, q4, rfl, rfl, rfl, h4, r4⟩ := trodAll_cons r3
  obtain ⟨rfl, rfl, rfl⟩ := trodAll_nil r4
  obtain rfl : args = #[v0, v1, v2, v3, v4] := by cases args; simp_all
  obtain ⟨rfl, rfl⟩ := trodVars_none hV
  obtain ⟨cs0, rfl, _⟩ := okWide_struct Tryz.underlying40 (hval 0 40 v0 rfl rfl)
  have k0 := h0
  have lt0 : ∀ x ∈ p0, x.block < W.heap.size := by obtain ⟨m, hm⟩ := k0; exact DataW.trod_lt m _ _ _ hm
  obtain ⟨A1, n1, c1, x1, A2, n2, c2, x2, A3, n3, c3, x3, rfl, w0a, w0b, w0c⟩ := params_open h0
  obtain ⟨a1, len1, cap1, rfl⟩ := okWide_slice Tryz.underlying22 (hval 1 22 v1 rfl rfl)
  have k1 := h1
  have lt1 : ∀ x ∈ p1, x.block < W.heap.size := by obtain ⟨m, hm⟩ := k1; exact DataW.trod_lt m _ _ _ hm
  obtain ⟨z1, w1⟩ : ∃ zs, Nt W W.heap.size a1 len1 cap1 zs := by
    obtain ⟨fuel, hf⟩ := h1
    rcases open_ints Tryz.underlying22 Tryz.underlying53 (by kernel_rfl) hf with ⟨hcs, _⟩ | ⟨x, l, c, zs, hcs, _, hl, hm, hz, _, hcell, hwz⟩
    · simp [Value.cells] at hcs
      obtain ⟨rfl, rfl, rfl⟩ := hcs
      exact ⟨[], nt_nil _ _⟩
    · simp [Value.cells] at hcs
      obtain ⟨rfl, rfl, rfl⟩ := hcs
      exact ⟨_, nt_of_row hl hm (by simpa using hz) hcell hwz⟩
  obtain ⟨a2, len2, cap2, rfl⟩ := okWide_slice Tryz.underlying22 (hval 2 22 v2 rfl rfl)
  have k2 := h2
  have lt2 : ∀ x ∈ p2, x.block < W.heap.size := by obtain ⟨m, hm⟩ := k2; exact DataW.trod_lt m _ _ _ hm
  obtain ⟨z2, w2⟩ : ∃ zs, Nt W W.heap.size a2 len2 cap2 zs := by
    obtain ⟨fuel, hf⟩ := h2
    rcases open_ints Tryz.underlying22 Tryz.underlying53 (by kernel_rfl) hf with ⟨hcs, _⟩ | ⟨x, l, c, zs, hcs, _, hl, hm, hz, _, hcell, hwz⟩
    · simp [Value.cells] at hcs
      obtain ⟨rfl, rfl, rfl⟩ := hcs
      exact ⟨[], nt_nil _ _⟩
    · simp [Value.cells] at hcs
      obtain ⟨rfl, rfl, rfl⟩ := hcs
      exact ⟨_, nt_of_row hl hm (by simpa using hz) hcell hwz⟩
  obtain ⟨a3, len3, cap3, rfl⟩ := okWide_slice Tryz.underlying22 (hval 3 22 v3 rfl rfl)
  have k3 := h3
  have lt3 : ∀ x ∈ p3, x.block < W.heap.size := by obtain ⟨m, hm⟩ := k3; exact DataW.trod_lt m _ _ _ hm
  obtain ⟨z3, w3⟩ : ∃ zs, Nt W W.heap.size a3 len3 cap3 zs := by
    obtain ⟨fuel, hf⟩ := h3
    rcases open_ints Tryz.underlying22 Tryz.underlying53 (by kernel_rfl) hf with ⟨hcs, _⟩ | ⟨x, l, c, zs, hcs, _, hl, hm, hz, _, hcell, hwz⟩
    · simp [Value.cells] at hcs
      obtain ⟨rfl, rfl, rfl⟩ := hcs
      exact ⟨[], nt_nil _ _⟩
    · simp [Value.cells] at hcs
      obtain ⟨rfl, rfl, rfl⟩ := hcs
      exact ⟨_, nt_of_row hl hm (by simpa using hz) hcell hwz⟩
  obtain ⟨a4, len4, cap4, rfl⟩ := okWide_slice Tryz.underlying22 (hval 4 22 v4 rfl rfl)
  have k4 := h4
  have lt4 : ∀ x ∈ p4, x.block < W.heap.size := by obtain ⟨m, hm⟩ := k4; exact DataW.trod_lt m _ _ _ hm
  obtain ⟨z4, w4⟩ : ∃ zs, Nt W W.heap.size a4 len4 cap4 zs := by
    obtain ⟨fuel, hf⟩ := h4
    rcases open_ints Tryz.underlying22 Tryz.underlying53 (by kernel_rfl) hf with ⟨hcs, _⟩ | ⟨x, l, c, zs, hcs, _, hl, hm, hz, _, hcell, hwz⟩
    · simp [Value.cells] at hcs
      obtain ⟨rfl, rfl, rfl⟩ := hcs
      exact ⟨[], nt_nil _ _⟩
    · simp [Value.cells] at hcs
      obtain ⟨rfl, rfl, rfl⟩ := hcs
      exact ⟨_, nt_of_row hl hm (by simpa using hz) hcell hwz⟩
  clear hA0 hval0
  refine (law_any (of_laid hL) w0a w0b w0c w1 w2 w3 w4).mono fun e W' ⟨he, bel⟩ => ?_
  subst he
  exact ⟨_, rfl, _, _, _, [], _, [], hW', trodAll_mk1 (shut_bool Tryz.underlying4 _), (trodAll_cons_mk (Below.trod laidOut (by kernel_rfl) (of_decide_eq_true (by kernel_rfl)) k0 bel lt0) (trodAll_cons_mk (Below.trod laidOut (by kernel_rfl) (of_decide_eq_true (by kernel_rfl)) k1 bel lt1) (trodAll_cons_mk (Below.trod laidOut (by kernel_rfl) (of_decide_eq_true (by kernel_rfl)) k2 bel lt2) (trodAll_cons_mk (Below.trod laidOut (by kernel_rfl) (of_decide_eq_true (by kernel_rfl)) k3 bel lt3) (trodAll_cons_mk (Below.trod laidOut (by kernel_rfl) (of_decide_eq_true (by kernel_rfl)) k4 bel lt4) trodAll_mk0))))), rfl, bel.frame _, fun h => by cases h⟩

theorem iffExtracts_holds : Rows.IffExtractsSaid :=
  OpenClaim.holds_of_wide 7 Tryz.f7 rfl rfl rfl rfl rfl rfl rfl ⟨rfl, rfl, rfl, rfl, rfl⟩ rfl rfl rfl rfl rfl (by kernel_rfl) Tryz.func7 (by kernel_rfl)
    (of_decide_eq_true (by kernel_rfl)) (by unfold Func.isWrapper; first | (rw [if_pos (by decide +kernel)]; kernel_rfl) | (rw [if_neg (by decide +kernel)]; exact ⟨rfl, rfl⟩))
    (fun os started H enc _ => lifted os started H enc)
theorem iffExtracts_card : Rows.IffExtractsCardSaid :=
  Claim7.holds_tied_plain_at .later [] [.data] true (true, "08b5c815c4ce98d0939ca56bd09f004e88258d10564a8ae8158c8b934526e78b") false
    iffExtracts_holds (fun _ h => by cases h) (by kernel_rfl) (fun _ h => by cases h) iffExtracts_row_tie rfl ⟨rfl, rfl⟩ (by kernel_rfl) rfl
    (fun f fn hf hfn => by
      obtain rfl : f = 7 := Option.some.inj ((show Tryz.prog.funcNamed "clepsydra/clepsydralaw06.IffExtracts" = some 7 by kernel_rfl).symm.trans hf) |>.symm
      obtain rfl : fn = Tryz.f7 := (Option.some.inj (Tryz.func7.symm.trans hfn)).symm
      exact ⟨by kernel_rfl, fun j t ht => by
        rw [Tryz.params7] at ht
        have hm : t ∈ [40, 22, 22, 22, 22] := by simpa using Array.mem_of_getElem? ht
        have hall : ([40, 22, 22, 22, 22].all fun u => !Tryz.prog.wantsStandIn u) = true := by kernel_rfl
        exact (show Tryz.prog.wantsStandIn t = false by simpa using List.all_eq_true.1 hall t hm)⟩)
    (by kernel_rfl)
#print axioms iffExtracts_card
end Go.Proofs.YtkeejhkjbmegkaaGreatDoor.iffExtractsP
