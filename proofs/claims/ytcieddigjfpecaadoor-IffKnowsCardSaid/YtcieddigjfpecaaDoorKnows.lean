/- For every group, every secret, drawn number and two questions the Go function IffKnows returns true and leaves its arguments as they were. No condition but the laid constants. -/
import Derived.Test.YtcieddigjfpecaaDoorIff
import Derived.Test.YtcieddigjfpecaaDoorFrame
import Derived.Test.YtcieddigjfpecaaDoorIMath
namespace Go.Proofs.YtcieddigjfpecaaDoor.iffKnowsP
open Go.ChangeShapes Go.WideShapes Go.ChangeAt Go.RowKit
set_option linter.unusedVariables false
set_option maxRecDepth 100000

set_option maxHeartbeats 8000000 in
theorem law_any {w : World} (hk : Sh.Ks w) {A1 A2 A3 Ab Ak Ar As : Option Addr} {n1 c1 n2 c2 n3 c3 nb cb nk ck nr cr ns cs : Nat} {x1 x2 x3 xb xk xr xs : List Nat} (h1 : Nt w w.heap.size A1 n1 c1 x1) (h2 : Nt w w.heap.size A2 n2 c2 x2) (h3 : Nt w w.heap.size A3 n3 c3 x3)
    (hb : Nt w w.heap.size Ab nb cb xb) (hkk : Nt w w.heap.size Ak nk ck xk) (hr : Nt w w.heap.size Ar nr cr xr) (hs : Nt w w.heap.size As ns cs xs) :
    Calls Tryd.prog 5 #[.agg #[.slice A1 n1 c1, .slice A2 n2 c2, .slice A3 n3 c3], .slice Ab nb cb, .slice Ak nk ck, .slice Ar nr cr, .slice As ns cs] w (Yes w) := by
  have hr1 := h1.rooms
  have hr2 := h2.rooms
  have hr3 := h3.rooms
  have hrb := hb.rooms
  have hrk := hkk.rooms
  have hrr := hr.rooms
  have hrs := hs.rooms
  obtain ⟨w0, e0⟩ : ∃ w0, w0 = w.alloc (.cells #[Value.slice A1 n1 c1, .slice A2 n2 c2, .slice A3 n3 c3] 39) := ⟨_, rfl⟩
  obtain ⟨hx0, b0⟩ := box_new e0
  have hk0 := hk.bel b0
  have g1 := h1.up b0
  have g2 := h2.up b0
  have g3 := h3.up b0
  have gb := hb.up b0
  have gk := hkk.up b0
  have gr := hr.up b0
  have gs := hs.up b0
  obtain ⟨b, eb⟩ : ∃ v, val 18446744073709551616 xb = v := ⟨_, rfl⟩
  obtain ⟨k, ek⟩ : ∃ v, val 18446744073709551616 xk = v := ⟨_, rfl⟩
  obtain ⟨s, es⟩ : ∃ v, val 18446744073709551616 xs = v := ⟨_, rfl⟩
  obtain ⟨r, er⟩ : ∃ v, val 18446744073709551616 xr = v := ⟨_, rfl⟩
  have hHv := fun W => heavyP_any A1 A2 A3 n1 c1 n2 c2 n3 c3 hr1.1 hr2.1 hr3.1 W
  obtain ⟨hv, hhv⟩ : ∃ hv, decide (3 < n1 ∨ 3 < n2 ∨ 3 < n3) = hv := ⟨_, rfl⟩
  rw [hhv] at hHv
  have HHv := Lib.hid hHv
  have Hhv := Lib.hid hhv
  clear hHv hhv
  cases hv with
  | true =>
    have hx0c0 := hx0.c0
    have hx0c1 := hx0.c1
    have hx0c2 := hx0.c2
    go_enter Tryd.func5, Tryd.ntmps5
    go_wp2_with fail
    rw [← e0]
    clear e0
    refine (HHv.out _).mono ?_
    rintro e W1 ⟨rfl, b1⟩
    have N1b := gb.up b1
    have N1k := gk.up b1
    have N1r := gr.up b1
    have N1s := gs.up b1
    have B1 := b1
    have X1ks := hk0.bel b1
    have X1box := hx0.up b1
    have X1boxc0 := X1box.c0
    have X1boxc1 := X1box.c1
    have X1boxc2 := X1box.c2
    go_wp2_with fail
    refine (alive_any X1ks).mono ?_
    rintro e W2 ⟨rfl, b2⟩
    have N2b := N1b.up b2
    have N2k := N1k.up b2
    have N2r := N1r.up b2
    have N2s := N1s.up b2
    have B2 := bthen B1 b2
    have X2ks := X1ks.bel b2
    have X2box := X1box.up b2
    have X2boxc0 := X2box.c0
    have X2boxc1 := X2box.c1
    have X2boxc2 := X2box.c2
    go_wp2_with fail
    go_ret
    exact ⟨rfl, bthen b0 B2⟩
  | false =>
  have hn := of_decide_eq_false Hhv.out
  have hn1 : n1 ≤ 3 := by omega
  have hn2 : n2 ≤ 3 := by omega
  have hn3 : n3 ≤ 3 := by omega
  clear hn
  by_cases y0 : 3 < nb
  · have hx0c0 := hx0.c0
    have hx0c1 := hx0.c1
    have hx0c2 := hx0.c2
    go_enter Tryd.func5, Tryd.ntmps5
    go_wp2_with fail
    rw [← e0]
    clear e0
    refine (HHv.out _).mono ?_
    rintro e W1 ⟨rfl, b1⟩
    have N1b := gb.up b1
    have N1k := gk.up b1
    have N1r := gr.up b1
    have N1s := gs.up b1
    have B1 := b1
    have X1ks := hk0.bel b1
    have X1box := hx0.up b1
    have X1boxc0 := X1box.c0
    have X1boxc1 := X1box.c1
    have X1boxc2 := X1box.c2
    go_wp2_with fail
    refine (heavy_yes Ab nb cb (by omega) (by omega) _).mono ?_
    rintro e W2 ⟨rfl, rfl⟩
    go_wp2_with fail
    refine (alive_any X1ks).mono ?_
    rintro e W3 ⟨rfl, b3⟩
    have N3b := N1b.up b3
    have N3k := N1k.up b3
    have N3r := N1r.up b3
    have N3s := N1s.up b3
    have B3 := bthen B1 b3
    have X3ks := X1ks.bel b3
    have X3box := X1box.up b3
    have X3boxc0 := X3box.c0
    have X3boxc1 := X3box.c1
    have X3boxc2 := X3box.c2
    go_wp2_with fail
    go_ret
    exact ⟨rfl, bthen b0 B3⟩
  by_cases y1 : 3 < nk
  · have hx0c0 := hx0.c0
    have hx0c1 := hx0.c1
    have hx0c2 := hx0.c2
    go_enter Tryd.func5, Tryd.ntmps5
    go_wp2_with fail
    rw [← e0]
    clear e0
    refine (HHv.out _).mono ?_
    rintro e W1 ⟨rfl, b1⟩
    have N1b := gb.up b1
    have N1k := gk.up b1
    have N1r := gr.up b1
    have N1s := gs.up b1
    have B1 := b1
    have X1ks := hk0.bel b1
    have X1box := hx0.up b1
    have X1boxc0 := X1box.c0
    have X1boxc1 := X1box.c1
    have X1boxc2 := X1box.c2
    go_wp2_with fail
    refine (heavy_no Ab nb cb (by omega) _).mono ?_
    rintro e W2 ⟨rfl, rfl⟩
    go_wp2_with fail
    refine (heavy_yes Ak nk ck (by omega) (by omega) _).mono ?_
    rintro e W3 ⟨rfl, rfl⟩
    go_wp2_with fail
    refine (alive_any X1ks).mono ?_
    rintro e W4 ⟨rfl, b4⟩
    have N4b := N1b.up b4
    have N4k := N1k.up b4
    have N4r := N1r.up b4
    have N4s := N1s.up b4
    have B4 := bthen B1 b4
    have X4ks := X1ks.bel b4
    have X4box := X1box.up b4
    have X4boxc0 := X4box.c0
    have X4boxc1 := X4box.c1
    have X4boxc2 := X4box.c2
    go_wp2_with fail
    go_ret
    exact ⟨rfl, bthen b0 B4⟩
  by_cases y2 : 3 < nr
  · have hx0c0 := hx0.c0
    have hx0c1 := hx0.c1
    have hx0c2 := hx0.c2
    go_enter Tryd.func5, Tryd.ntmps5
    go_wp2_with fail
    rw [← e0]
    clear e0
    refine (HHv.out _).mono ?_
    rintro e W1 ⟨rfl, b1⟩
    have N1b := gb.up b1
    have N1k := gk.up b1
    have N1r := gr.up b1
    have N1s := gs.up b1
    have B1 := b1
    have X1ks := hk0.bel b1
    have X1box := hx0.up b1
    have X1boxc0 := X1box.c0
    have X1boxc1 := X1box.c1
    have X1boxc2 := X1box.c2
    go_wp2_with fail
    refine (heavy_no Ab nb cb (by omega) _).mono ?_
    rintro e W2 ⟨rfl, rfl⟩
    go_wp2_with fail
    refine (heavy_no Ak nk ck (by omega) _).mono ?_
    rintro e W3 ⟨rfl, rfl⟩
    go_wp2_with fail
    refine (heavy_yes Ar nr cr (by omega) (by omega) _).mono ?_
    rintro e W4 ⟨rfl, rfl⟩
    go_wp2_with fail
    refine (alive_any X1ks).mono ?_
    rintro e W5 ⟨rfl, b5⟩
    have N5b := N1b.up b5
    have N5k := N1k.up b5
    have N5r := N1r.up b5
    have N5s := N1s.up b5
    have B5 := bthen B1 b5
    have X5ks := X1ks.bel b5
    have X5box := X1box.up b5
    have X5boxc0 := X5box.c0
    have X5boxc1 := X5box.c1
    have X5boxc2 := X5box.c2
    go_wp2_with fail
    go_ret
    exact ⟨rfl, bthen b0 B5⟩
  by_cases y3 : 3 < ns
  · have hx0c0 := hx0.c0
    have hx0c1 := hx0.c1
    have hx0c2 := hx0.c2
    go_enter Tryd.func5, Tryd.ntmps5
    go_wp2_with fail
    rw [← e0]
    clear e0
    refine (HHv.out _).mono ?_
    rintro e W1 ⟨rfl, b1⟩
    have N1b := gb.up b1
    have N1k := gk.up b1
    have N1r := gr.up b1
    have N1s := gs.up b1
    have B1 := b1
    have X1ks := hk0.bel b1
    have X1box := hx0.up b1
    have X1boxc0 := X1box.c0
    have X1boxc1 := X1box.c1
    have X1boxc2 := X1box.c2
    go_wp2_with fail
    refine (heavy_no Ab nb cb (by omega) _).mono ?_
    rintro e W2 ⟨rfl, rfl⟩
    go_wp2_with fail
    refine (heavy_no Ak nk ck (by omega) _).mono ?_
    rintro e W3 ⟨rfl, rfl⟩
    go_wp2_with fail
    refine (heavy_no Ar nr cr (by omega) _).mono ?_
    rintro e W4 ⟨rfl, rfl⟩
    go_wp2_with fail
    refine (heavy_yes As ns cs (by omega) (by omega) _).mono ?_
    rintro e W5 ⟨rfl, rfl⟩
    go_wp2_with fail
    refine (alive_any X1ks).mono ?_
    rintro e W6 ⟨rfl, b6⟩
    have N6b := N1b.up b6
    have N6k := N1k.up b6
    have N6r := N1r.up b6
    have N6s := N1s.up b6
    have B6 := bthen B1 b6
    have X6ks := X1ks.bel b6
    have X6box := X1box.up b6
    have X6boxc0 := X6box.c0
    have X6boxc1 := X6box.c1
    have X6boxc2 := X6box.c2
    go_wp2_with fail
    go_ret
    exact ⟨rfl, bthen b0 B6⟩
  obtain ⟨P, e1⟩ : ∃ v, val 18446744073709551616 x1 = v := ⟨_, rfl⟩
  obtain ⟨Q, e2⟩ : ∃ v, val 18446744073709551616 x2 = v := ⟨_, rfl⟩
  obtain ⟨G, e3⟩ : ∃ v, val 18446744073709551616 x3 = v := ⟨_, rfl⟩
  have hp0 : Pr w0 (.agg #[.slice A1 n1 c1, .slice A2 n2 c2, .slice A3 n3 c3]) P Q G := ⟨_, _, _, _, _, _, _, _, _, _, _, _, rfl, g1, e1, by omega, g2, e2, by omega, g3, e3, by omega⟩
  obtain ⟨R, hR⟩ : ∃ R, rightN P Q G = R := ⟨_, rfl⟩
  cases R with
  | false =>
    have HR := Lib.hid hR
    clear hR
    have hx0c0 := hx0.c0
    have hx0c1 := hx0.c1
    have hx0c2 := hx0.c2
    go_enter Tryd.func5, Tryd.ntmps5
    go_wp2_with fail
    rw [← e0]
    clear e0
    refine (HHv.out _).mono ?_
    rintro e W1 ⟨rfl, b1⟩
    have N1b := gb.up b1
    have N1k := gk.up b1
    have N1r := gr.up b1
    have N1s := gs.up b1
    have N1q := g2.up b1
    have B1 := b1
    have X1ks := hk0.bel b1
    have X1box := hx0.up b1
    have X1p := hp0.up b1
    have X1boxc0 := X1box.c0
    have X1boxc1 := X1box.c1
    have X1boxc2 := X1box.c2
    go_wp2_with fail
    refine (heavy_no Ab nb cb (by omega) _).mono ?_
    rintro e W2 ⟨rfl, rfl⟩
    go_wp2_with fail
    refine (heavy_no Ak nk ck (by omega) _).mono ?_
    rintro e W3 ⟨rfl, rfl⟩
    go_wp2_with fail
    refine (heavy_no Ar nr cr (by omega) _).mono ?_
    rintro e W4 ⟨rfl, rfl⟩
    go_wp2_with fail
    refine (heavy_no As ns cs (by omega) _).mono ?_
    rintro e W5 ⟨rfl, rfl⟩
    go_wp2_with fail
    refine (answer_bad X1p _ _ _ _ _ _ _ _ _ HR.out).mono ?_
    rintro e W6 ⟨rfl, b6⟩
    have N6b := N1b.up b6
    have N6k := N1k.up b6
    have N6r := N1r.up b6
    have N6s := N1s.up b6
    have N6q := N1q.up b6
    have B6 := bthen B1 b6
    have X6ks := X1ks.bel b6
    have X6box := X1box.up b6
    have X6p := X1p.up b6
    have X6boxc0 := X6box.c0
    have X6boxc1 := X6box.c1
    have X6boxc2 := X6box.c2
    go_wp2_with fail
    refine (answer_bad X6p _ _ _ _ _ _ _ _ _ HR.out).mono ?_
    rintro e W7 ⟨rfl, b7⟩
    have N7b := N6b.up b7
    have N7k := N6k.up b7
    have N7r := N6r.up b7
    have N7s := N6s.up b7
    have N7q := N6q.up b7
    have B7 := bthen B6 b7
    have X7ks := X6ks.bel b7
    have X7box := X6box.up b7
    have X7p := X6p.up b7
    have X7boxc0 := X7box.c0
    have X7boxc1 := X7box.c1
    have X7boxc2 := X7box.c2
    go_wp2_with fail
    refine (alive_any X7ks).mono ?_
    rintro e W8 ⟨rfl, b8⟩
    have N8b := N7b.up b8
    have N8k := N7k.up b8
    have N8r := N7r.up b8
    have N8s := N7s.up b8
    have N8q := N7q.up b8
    have B8 := bthen B7 b8
    have X8ks := X7ks.bel b8
    have X8box := X7box.up b8
    have X8p := X7p.up b8
    have X8boxc0 := X8box.c0
    have X8boxc1 := X8box.c1
    have X8boxc2 := X8box.c2
    go_wp2_with fail
    go_ret
    exact ⟨rfl, bthen b0 B8⟩
  | true =>
    obtain ⟨hP2, hQ2, _, _, hGQ, _⟩ := rightN_parts hR
    have hmath := fun f hf => knows (b := b) (k := k) (r := r) (s := s) (f := f) (show 0 < Q by omega) hf
    have pQ : Q < 18446744073709551616 ^ 3 := by rw [← e2]; exact g2.below_pow hn2
    have Pq : Hid (∀ t, t % Q < 18446744073709551616 ^ 3) := fun t => Nat.lt_trans (Nat.mod_lt _ (by omega)) pQ
    have HR := Lib.hid hR
    clear hR pQ hGQ
    obtain ⟨yv, hyv⟩ : ∃ yv, (k + b * r % Q) % Q = yv := ⟨_, rfl⟩
    obtain ⟨zv, hzv⟩ : ∃ yv, (k + b * s % Q) % Q = yv := ⟨_, rfl⟩
    rw [hyv, hzv] at hmath
    have py : yv < 18446744073709551616 ^ 3 := hyv ▸ Pq.out _
    have pz : zv < 18446744073709551616 ^ 3 := hzv ▸ Pq.out _
    have Hyv := Lib.hid hyv
    have Hzv := Lib.hid hzv
    have Hmath := Lib.hid hmath
    have Py := Lib.hid py
    have Pz := Lib.hid pz
    clear hyv hzv hmath py pz
    rcases Nat.decEq (Nat.gcd (lessN r s Q) Q) 1 with hg | hg
    · have hx0c0 := hx0.c0
      have hx0c1 := hx0.c1
      have hx0c2 := hx0.c2
      go_enter Tryd.func5, Tryd.ntmps5
      go_wp2_with fail
      rw [← e0]
      clear e0
      refine (HHv.out _).mono ?_
      rintro e W1 ⟨rfl, b1⟩
      have N1b := gb.up b1
      have N1k := gk.up b1
      have N1r := gr.up b1
      have N1s := gs.up b1
      have N1q := g2.up b1
      have B1 := b1
      have X1ks := hk0.bel b1
      have X1box := hx0.up b1
      have X1p := hp0.up b1
      have X1boxc0 := X1box.c0
      have X1boxc1 := X1box.c1
      have X1boxc2 := X1box.c2
      go_wp2_with fail
      refine (heavy_no Ab nb cb (by omega) _).mono ?_
      rintro e W2 ⟨rfl, rfl⟩
      go_wp2_with fail
      refine (heavy_no Ak nk ck (by omega) _).mono ?_
      rintro e W3 ⟨rfl, rfl⟩
      go_wp2_with fail
      refine (heavy_no Ar nr cr (by omega) _).mono ?_
      rintro e W4 ⟨rfl, rfl⟩
      go_wp2_with fail
      refine (heavy_no As ns cs (by omega) _).mono ?_
      rintro e W5 ⟨rfl, rfl⟩
      go_wp2_with fail
      refine (answer_any X1p N1b eb (by omega) N1k ek (by omega) N1r er (by omega) HR.out).mono ?_
      rintro e W6 ⟨A6, n6, c6, x6, rfl, r6⟩
      rw [Hyv.out] at r6
      have l6 := r6.le (k := 3) (Py.out)
      have v6 := r6.is
      have t6 := r6.trm
      have N6b := N1b.up r6.bel
      have N6k := N1k.up r6.bel
      have N6r := N1r.up r6.bel
      have N6s := N1s.up r6.bel
      have N6q := N1q.up r6.bel
      have B6 := bthen B1 r6.bel
      have X6ks := X1ks.bel r6.bel
      have X6box := X1box.up r6.bel
      have X6p := X1p.up r6.bel
      have X6boxc0 := X6box.c0
      have X6boxc1 := X6box.c1
      have X6boxc2 := X6box.c2
      go_wp2_with fail
      refine (answer_any X6p N6b eb (by omega) N6k ek (by omega) N6s es (by omega) HR.out).mono ?_
      rintro e W7 ⟨A7, n7, c7, x7, rfl, r7⟩
      rw [Hzv.out] at r7
      have l7 := r7.le (k := 3) (Pz.out)
      have v7 := r7.is
      have t7 := r7.trm
      have N7b := N6b.up r7.bel
      have N7k := N6k.up r7.bel
      have N7r := N6r.up r7.bel
      have N7s := N6s.up r7.bel
      have N7q := N6q.up r7.bel
      have N7y := r6.nt.up r7.bel
      have B7 := bthen B6 r7.bel
      have X7ks := X6ks.bel r7.bel
      have X7box := X6box.up r7.bel
      have X7p := X6p.up r7.bel
      have X7boxc0 := X7box.c0
      have X7boxc1 := X7box.c1
      have X7boxc2 := X7box.c2
      go_wp2_with fail
      have hx := extract_any X7p N7r er (by omega) N7y v6 (by omega) N7s es (by omega) r7.nt v7 (by omega) HR.out
      have hx2 := hx.mono fun e w' h => h.1 hg
      have Hx2 := Lib.hid hx2
      clear hx hx2
      refine (Hx2.out).mono ?_
      rintro e W8 ⟨rfl, b8⟩
      have N8b := N7b.up b8
      have N8k := N7k.up b8
      have N8r := N7r.up b8
      have N8s := N7s.up b8
      have N8q := N7q.up b8
      have N8y := N7y.up b8
      have N8z := r7.nt.up b8
      have B8 := bthen B7 b8
      have X8ks := X7ks.bel b8
      have X8box := X7box.up b8
      have X8p := X7p.up b8
      have X8boxc0 := X8box.c0
      have X8boxc1 := X8box.c1
      have X8boxc2 := X8box.c2
      go_wp2_with fail
      refine (alive_any X8ks).mono ?_
      rintro e W9 ⟨rfl, b9⟩
      have N9b := N8b.up b9
      have N9k := N8k.up b9
      have N9r := N8r.up b9
      have N9s := N8s.up b9
      have N9q := N8q.up b9
      have N9y := N8y.up b9
      have N9z := N8z.up b9
      have B9 := bthen B8 b9
      have X9ks := X8ks.bel b9
      have X9box := X8box.up b9
      have X9p := X8p.up b9
      have X9boxc0 := X9box.c0
      have X9boxc1 := X9box.c1
      have X9boxc2 := X9box.c2
      go_wp2_with fail
      go_ret
      exact ⟨rfl, bthen b0 B9⟩
    · have hx0c0 := hx0.c0
      have hx0c1 := hx0.c1
      have hx0c2 := hx0.c2
      go_enter Tryd.func5, Tryd.ntmps5
      go_wp2_with fail
      rw [← e0]
      clear e0
      refine (HHv.out _).mono ?_
      rintro e W1 ⟨rfl, b1⟩
      have N1b := gb.up b1
      have N1k := gk.up b1
      have N1r := gr.up b1
      have N1s := gs.up b1
      have N1q := g2.up b1
      have B1 := b1
      have X1ks := hk0.bel b1
      have X1box := hx0.up b1
      have X1p := hp0.up b1
      have X1boxc0 := X1box.c0
      have X1boxc1 := X1box.c1
      have X1boxc2 := X1box.c2
      go_wp2_with fail
      refine (heavy_no Ab nb cb (by omega) _).mono ?_
      rintro e W2 ⟨rfl, rfl⟩
      go_wp2_with fail
      refine (heavy_no Ak nk ck (by omega) _).mono ?_
      rintro e W3 ⟨rfl, rfl⟩
      go_wp2_with fail
      refine (heavy_no Ar nr cr (by omega) _).mono ?_
      rintro e W4 ⟨rfl, rfl⟩
      go_wp2_with fail
      refine (heavy_no As ns cs (by omega) _).mono ?_
      rintro e W5 ⟨rfl, rfl⟩
      go_wp2_with fail
      refine (answer_any X1p N1b eb (by omega) N1k ek (by omega) N1r er (by omega) HR.out).mono ?_
      rintro e W6 ⟨A6, n6, c6, x6, rfl, r6⟩
      rw [Hyv.out] at r6
      have l6 := r6.le (k := 3) (Py.out)
      have v6 := r6.is
      have t6 := r6.trm
      have N6b := N1b.up r6.bel
      have N6k := N1k.up r6.bel
      have N6r := N1r.up r6.bel
      have N6s := N1s.up r6.bel
      have N6q := N1q.up r6.bel
      have B6 := bthen B1 r6.bel
      have X6ks := X1ks.bel r6.bel
      have X6box := X1box.up r6.bel
      have X6p := X1p.up r6.bel
      have X6boxc0 := X6box.c0
      have X6boxc1 := X6box.c1
      have X6boxc2 := X6box.c2
      go_wp2_with fail
      refine (answer_any X6p N6b eb (by omega) N6k ek (by omega) N6s es (by omega) HR.out).mono ?_
      rintro e W7 ⟨A7, n7, c7, x7, rfl, r7⟩
      rw [Hzv.out] at r7
      have l7 := r7.le (k := 3) (Pz.out)
      have v7 := r7.is
      have t7 := r7.trm
      have N7b := N6b.up r7.bel
      have N7k := N6k.up r7.bel
      have N7r := N6r.up r7.bel
      have N7s := N6s.up r7.bel
      have N7q := N6q.up r7.bel
      have N7y := r6.nt.up r7.bel
      have B7 := bthen B6 r7.bel
      have X7ks := X6ks.bel r7.bel
      have X7box := X6box.up r7.bel
      have X7p := X6p.up r7.bel
      have X7boxc0 := X7box.c0
      have X7boxc1 := X7box.c1
      have X7boxc2 := X7box.c2
      go_wp2_with fail
      have hx := extract_any X7p N7r er (by omega) N7y v6 (by omega) N7s es (by omega) r7.nt v7 (by omega) HR.out
      have hx2 := hx.mono fun e w' h => h.2 hg
      have Hx2 := Lib.hid hx2
      clear hx hx2
      refine (Hx2.out).mono ?_
      rintro e W8 ⟨f, hf, hfe, A8, n8, c8, x8, rfl, r8⟩
      have l8 := r8.le (k := 3) (Pq.out _)
      have v8 := r8.is
      have t8 := r8.trm
      have N8b := N7b.up r8.bel
      have N8k := N7k.up r8.bel
      have N8r := N7r.up r8.bel
      have N8s := N7s.up r8.bel
      have N8q := N7q.up r8.bel
      have N8y := N7y.up r8.bel
      have N8z := r7.nt.up r8.bel
      have B8 := bthen B7 r8.bel
      have X8ks := X7ks.bel r8.bel
      have X8box := X7box.up r8.bel
      have X8p := X7p.up r8.bel
      have X8boxc0 := X8box.c0
      have X8boxc1 := X8box.c1
      have X8boxc2 := X8box.c2
      have hff := Hmath.out f hfe
      rw [hff] at v8
      clear hff hfe
      go_wp2_with fail
      refine (mod_pos N8b N8q (by omega) (by rw [e2]; omega)).mono ?_
      rintro e W9 ⟨A9, n9, c9, x9, rfl, r9⟩
      rw [eb, e2] at r9
      have l9 := r9.le (k := 3) (Pq.out _)
      have v9 := r9.is
      have t9 := r9.trm
      have N9b := N8b.up r9.bel
      have N9k := N8k.up r9.bel
      have N9r := N8r.up r9.bel
      have N9s := N8s.up r9.bel
      have N9q := N8q.up r9.bel
      have N9y := N8y.up r9.bel
      have N9z := N8z.up r9.bel
      have N9x := r8.nt.up r9.bel
      have B9 := bthen B8 r9.bel
      have X9ks := X8ks.bel r9.bel
      have X9box := X8box.up r9.bel
      have X9p := X8p.up r9.bel
      have X9boxc0 := X9box.c0
      have X9boxc1 := X9box.c1
      have X9boxc2 := X9box.c2
      go_wp2_with fail
      refine (alive_any X9ks).mono ?_
      rintro e W10 ⟨rfl, b10⟩
      have N10b := N9b.up b10
      have N10k := N9k.up b10
      have N10r := N9r.up b10
      have N10s := N9s.up b10
      have N10q := N9q.up b10
      have N10y := N9y.up b10
      have N10z := N9z.up b10
      have N10x := N9x.up b10
      have N10u := r9.nt.up b10
      have B10 := bthen B9 b10
      have X10ks := X9ks.bel b10
      have X10box := X9box.up b10
      have X10p := X9p.up b10
      have X10boxc0 := X10box.c0
      have X10boxc1 := X10box.c1
      have X10boxc2 := X10box.c2
      go_wp2_with fail
      refine (same_yes N10x N10u (trm_same t8 t9 N10x.lim N10u.lim (by rw [v8, v9]))).mono ?_
      rintro e W11 ⟨rfl, d11, rfl⟩
      have N11b := N10b.dr d11
      have N11k := N10k.dr d11
      have N11r := N10r.dr d11
      have N11s := N10s.dr d11
      have N11q := N10q.dr d11
      have N11y := N10y.dr d11
      have N11z := N10z.dr d11
      have N11x := N10x.dr d11
      have N11u := N10u.dr d11
      have B11 := bdr B10 d11
      have X11ks := X10ks.dr d11
      have X11box := X10box.dr d11
      have X11p := X10p.dr d11
      have X11boxc0 := X11box.c0
      have X11boxc1 := X11box.c1
      have X11boxc2 := X11box.c2
      go_wp2_with fail
      go_ret
      exact ⟨rfl, bthen b0 B11⟩

set_option maxRecDepth 100000 in
theorem door_met (os : Os) (args : Array Value) : laidMetH Tryd.prog [("clepsydra/sha.constants", Rows.laid_clepsydra_sha_constants)] ((World.doorLaid Tryd.prog 4000 os).forCall (fun _ _ => 0) ⟨#[], args, []⟩).memory :=
  laidMetH_of_parts3 (fuel := 8) (laidMet_of_run' 8 (by kernel_rfl) (by kernel_rfl)) (by kernel_rfl) (by kernel_rfl)
set_option maxRecDepth 100000 in
theorem lifted (os : Os) (started : os.Started) (H : Type) (enc : TypeId × Value → H) :
    ReturnsInHanded {} Tryd.checked os 5 .any (fun w args => (Rows.iffKnowsSpec.pre enc Tryd.prog Tryd.f5 [] false w args ∧ laidMetH Tryd.prog [("clepsydra/sha.constants", Rows.laid_clepsydra_sha_constants)] w) ∧ sizedMet enc Tryd.prog Tryd.f5 (OpenSpec.ofChange Rows.iffKnowsSpec) false w args)
      (Rows.iffKnowsSpec.post enc Tryd.prog Tryd.f5 false true false false) := by
  refine returnsInHanded_of_change_and (C := Tryd.checked) (X := fun w _ => laidMetH Tryd.prog [("clepsydra/sha.constants", Rows.laid_clepsydra_sha_constants)] w) (fun _ _ _ hh h => h.of_heap hh) own started (by kernel_rfl) Tryd.func5
    (ChangeSpec.witness_shaped (enc := enc) (C := Tryd.checked) (os := os) (X := fun w _ => laidMetH Tryd.prog [("clepsydra/sha.constants", Rows.laid_clepsydra_sha_constants)] w) false (World.doorLaid Tryd.prog 4000 os) #[.agg #[.slice none 0 0, .slice none 0 0, .slice none 0 0], .slice none 0 0, .slice none 0 0, .slice none 0 0, .slice none 0 0] 8 rfl (World.shaped_of_RefB (by kernel_rfl) (by kernel_rfl)) (by kernel_rfl) (by kernel_rfl) (by kernel_rfl) (door_met os _)) ?_
  intro W base args ds gs before hval0 hW _ hsz0 hL _
  have hsz : (DataW.weightsEach Tryd.prog (Tryd.f5.params.toList ++ Rows.iffKnowsSpec.plain.varTypes Tryd.prog) (ds ++ gs)).all (· ≤ reachBytes) = true := hsz0
  have hval : ∀ (j : Nat) t v, Tryd.f5.params[j]? = some t → args[j]? = some v → Value.okWide Tryd.prog W .any base t v := hval0
  have hW' := hW
  obtain ⟨p, q, hA0, hV, rfl, hfz, hnd⟩ := hW
  have hA : DataW.TrodAll enc Tryd.prog W 0 (fun _ => true) true Tryd.f5.params.toList args.toList ds p := hA0
  rw [Tryd.params5] at hA hval hsz
  obtain ⟨v0, vs0, d0, ds0, p0, q0, hargs, rfl, rfl, h0, r0⟩ := trodAll_cons hA
  obtain ⟨v1, vs1, d1, ds1, p1, q1, rfl, rfl, rfl, h1, r1⟩ := trodAll_cons r0
  obtain ⟨v2, vs2, d2, ds2, p2, q2, rfl, rfl, rfl, h2, r2⟩ := trodAll_cons r1
  obtain ⟨v3, vs3, d3, ds3, p3, q3, rfl, rfl, rfl, h3, r3⟩ := trodAll_cons r2
  obtain ⟨v4, vs4, d4, ds4, p4, q4, rfl, rfl, rfl, h4, r4⟩ := trodAll_cons r3
  obtain ⟨rfl, rfl, rfl⟩ := trodAll_nil r4
  obtain rfl : args = #[v0, v1, v2, v3, v4] := by cases args; simp_all
  obtain ⟨rfl, rfl⟩ := trodVars_none hV
  obtain ⟨cs0, rfl, _⟩ := okWide_struct Tryd.underlying39 (hval 0 39 v0 rfl rfl)
  have k0 := h0
  have lt0 : ∀ x ∈ p0, x.block < W.heap.size := by obtain ⟨m, hm⟩ := k0; exact DataW.trod_lt m _ _ _ hm
  obtain ⟨A1, n1, c1, x1, A2, n2, c2, x2, A3, n3, c3, x3, rfl, w0a, w0b, w0c⟩ := params_open h0
  obtain ⟨a1, len1, cap1, rfl⟩ := okWide_slice Tryd.underlying24 (hval 1 24 v1 rfl rfl)
  have k1 := h1
  have lt1 : ∀ x ∈ p1, x.block < W.heap.size := by obtain ⟨m, hm⟩ := k1; exact DataW.trod_lt m _ _ _ hm
  obtain ⟨z1, w1⟩ : ∃ zs, Nt W W.heap.size a1 len1 cap1 zs := by
    obtain ⟨fuel, hf⟩ := h1
    rcases open_ints Tryd.underlying24 Tryd.underlying58 (by kernel_rfl) hf with ⟨hcs, _⟩ | ⟨x, l, c, zs, hcs, _, hl, hm, hz, _, hcell, hwz⟩
    · simp [Value.cells] at hcs
      obtain ⟨rfl, rfl, rfl⟩ := hcs
      exact ⟨[], nt_nil _ _⟩
    · simp [Value.cells] at hcs
      obtain ⟨rfl, rfl, rfl⟩ := hcs
      exact ⟨_, nt_of_row hl hm (by simpa using hz) hcell hwz⟩
  obtain ⟨a2, len2, cap2, rfl⟩ := okWide_slice Tryd.underlying24 (hval 2 24 v2 rfl rfl)
  have k2 := h2
  have lt2 : ∀ x ∈ p2, x.block < W.heap.size := by obtain ⟨m, hm⟩ := k2; exact DataW.trod_lt m _ _ _ hm
  obtain ⟨z2, w2⟩ : ∃ zs, Nt W W.heap.size a2 len2 cap2 zs := by
    obtain ⟨fuel, hf⟩ := h2
    rcases open_ints Tryd.underlying24 Tryd.underlying58 (by kernel_rfl) hf with ⟨hcs, _⟩ | ⟨x, l, c, zs, hcs, _, hl, hm, hz, _, hcell, hwz⟩
    · simp [Value.cells] at hcs
      obtain ⟨rfl, rfl, rfl⟩ := hcs
      exact ⟨[], nt_nil _ _⟩
    · simp [Value.cells] at hcs
      obtain ⟨rfl, rfl, rfl⟩ := hcs
      exact ⟨_, nt_of_row hl hm (by simpa using hz) hcell hwz⟩
  obtain ⟨a3, len3, cap3, rfl⟩ := okWide_slice Tryd.underlying24 (hval 3 24 v3 rfl rfl)
  have k3 := h3
  have lt3 : ∀ x ∈ p3, x.block < W.heap.size := by obtain ⟨m, hm⟩ := k3; exact DataW.trod_lt m _ _ _ hm
  obtain ⟨z3, w3⟩ : ∃ zs, Nt W W.heap.size a3 len3 cap3 zs := by
    obtain ⟨fuel, hf⟩ := h3
    rcases open_ints Tryd.underlying24 Tryd.underlying58 (by kernel_rfl) hf with ⟨hcs, _⟩ | ⟨x, l, c, zs, hcs, _, hl, hm, hz, _, hcell, hwz⟩
    · simp [Value.cells] at hcs
      obtain ⟨rfl, rfl, rfl⟩ := hcs
      exact ⟨[], nt_nil _ _⟩
    · simp [Value.cells] at hcs
      obtain ⟨rfl, rfl, rfl⟩ := hcs
      exact ⟨_, nt_of_row hl hm (by simpa using hz) hcell hwz⟩
  obtain ⟨a4, len4, cap4, rfl⟩ := okWide_slice Tryd.underlying24 (hval 4 24 v4 rfl rfl)
  have k4 := h4
  have lt4 : ∀ x ∈ p4, x.block < W.heap.size := by obtain ⟨m, hm⟩ := k4; exact DataW.trod_lt m _ _ _ hm
  obtain ⟨z4, w4⟩ : ∃ zs, Nt W W.heap.size a4 len4 cap4 zs := by
    obtain ⟨fuel, hf⟩ := h4
    rcases open_ints Tryd.underlying24 Tryd.underlying58 (by kernel_rfl) hf with ⟨hcs, _⟩ | ⟨x, l, c, zs, hcs, _, hl, hm, hz, _, hcell, hwz⟩
    · simp [Value.cells] at hcs
      obtain ⟨rfl, rfl, rfl⟩ := hcs
      exact ⟨[], nt_nil _ _⟩
    · simp [Value.cells] at hcs
      obtain ⟨rfl, rfl, rfl⟩ := hcs
      exact ⟨_, nt_of_row hl hm (by simpa using hz) hcell hwz⟩
  clear hA0 hval0
  refine (law_any (of_laid hL) w0a w0b w0c w1 w2 w3 w4).mono fun e W' ⟨he, bel⟩ => ?_
  subst he
  exact ⟨_, rfl, _, _, _, [], _, [], hW', trodAll_mk1 (shut_bool Tryd.underlying4 _), (trodAll_cons_mk (Below.trod laidOut (by kernel_rfl) (of_decide_eq_true (by kernel_rfl)) k0 bel lt0) (trodAll_cons_mk (Below.trod laidOut (by kernel_rfl) (of_decide_eq_true (by kernel_rfl)) k1 bel lt1) (trodAll_cons_mk (Below.trod laidOut (by kernel_rfl) (of_decide_eq_true (by kernel_rfl)) k2 bel lt2) (trodAll_cons_mk (Below.trod laidOut (by kernel_rfl) (of_decide_eq_true (by kernel_rfl)) k3 bel lt3) (trodAll_cons_mk (Below.trod laidOut (by kernel_rfl) (of_decide_eq_true (by kernel_rfl)) k4 bel lt4) trodAll_mk0))))), rfl, bel.frame _, fun h => by cases h⟩

theorem iffKnows_holds : Rows.IffKnowsSaid :=
  OpenClaim.holds_of_wide 5 Tryd.f5 rfl rfl rfl rfl rfl rfl rfl ⟨rfl, rfl, rfl, rfl, rfl⟩ rfl rfl rfl rfl rfl (by kernel_rfl) Tryd.func5 (by kernel_rfl)
    (of_decide_eq_true (by kernel_rfl)) (by unfold Func.isWrapper; first | (rw [if_pos (by decide +kernel)]; kernel_rfl) | (rw [if_neg (by decide +kernel)]; exact ⟨rfl, rfl⟩))
    (fun os started H enc _ => lifted os started H enc)
theorem iffKnows_card : Rows.IffKnowsCardSaid :=
  Claim7.holds_tied_plain_at .later [] [.data] true (true, "02ae3d3d4ac0428694810847d8f412c74ccdc252ee51d362bade2f173b9bd49f") false
    iffKnows_holds (fun _ h => by cases h) (by kernel_rfl) (fun _ h => by cases h) iffKnows_row_tie rfl ⟨rfl, rfl⟩ (by kernel_rfl) rfl
    (fun f fn hf hfn => by
      obtain rfl : f = 5 := Option.some.inj ((show Tryd.prog.funcNamed "clepsydra/clepsydralaw06.IffKnows" = some 5 by kernel_rfl).symm.trans hf) |>.symm
      obtain rfl : fn = Tryd.f5 := (Option.some.inj (Tryd.func5.symm.trans hfn)).symm
      exact ⟨by kernel_rfl, fun j t ht => by
        rw [Tryd.params5] at ht
        have hm : t ∈ [39, 24, 24, 24, 24] := by simpa using Array.mem_of_getElem? ht
        have hall : ([39, 24, 24, 24, 24].all fun u => !Tryd.prog.wantsStandIn u) = true := by kernel_rfl
        exact (show Tryd.prog.wantsStandIn t = false by simpa using List.all_eq_true.1 hall t hm)⟩)
    (by kernel_rfl)
#print axioms iffKnows_card
end Go.Proofs.YtcieddigjfpecaaDoor.iffKnowsP
