/- law07.DerBack: the walk. -/
import Derived.Test.YtddpgckbdccldaaJ7
import Derived.Test.YtddpgckbdccldaaJ9
namespace Go.Proofs.Ytddpgckbdccldaa
open Go.RowKit
set_option linter.unusedVariables false
set_option linter.unusedSimpArgs false
set_option maxRecDepth 100000
theorem same_self (t : T) : sameT t t = true := (sameT_iff t t).2 rfl
set_option maxHeartbeats 16000000 in
theorem back_any {f : Nat} {h : Hd} {t : T} {w : World} (H : Tr w w.heap.size f h t) {A0 : Option Addr} {n c0 : Nat} {xs : List Nat} (N : Nb w w.heap.size A0 n c0 xs) : Calls Try.prog 5 #[h.val, .slice A0 n c0] w (Yes w) := by
  obtain ⟨w1, hw1⟩ : ∃ w1, w1 = w.alloc (.cells h.cells 25) := ⟨_, rfl⟩
  have hb1 : Below w.heap.size w w1 := by rw [hw1]; exact (Below.refl _ _).alloc (Nat.le_refl _) _
  have hx1 : Bx w1 w.heap.size 25 (.int .i64 h.t) (.slice h.A h.n h.c) (.slice h.K h.m h.d) := by rw [hw1]; exact Bx.new w 25 _ _ _
  have HT1 := Lib.hid (H.up hb1)
  have HH := Lib.hid (heavy_any (H.up hb1))
  have HX := Lib.hid hx1
  have HB := Lib.hid hb1
  have HN0 := Lib.hid N
  obtain ⟨e0, e1, e2, -, -, -⟩ := hx1.cells
  clear H hb1 hx1 N
  obtain ⟨ht, hA, hn, hc, hK, hm, hd⟩ := h
  unfold Hd.val Hd.cells at *
  dsimp only at *
  go_enter Try.func5, Try.ntmps5
  go_upto_region 1 with (fail)
  rw [← hw1]
  clear hw1
  go_wp2_with fail
  refine (HH.out).mono ?_
  rintro e w2 ⟨z, rfl, b2, -⟩
  have HB2 := Lib.hid (bthen HB.out b2)
  have HT2 := Lib.hid (HT1.out.up b2)
  have HW := Lib.hid (write_any HT2.out)
  have HA2 := Lib.hid (alive_any w2)
  have HX2 := Lib.hid (HX.out.keep b2 HX.out.lt)
  obtain ⟨d0, d1, d2, -, -, -⟩ := HX2.out.cells
  clear b2 e0 e1 e2 HH HT1
  rcases z with _ | _
  case true =>
    go_wp2_with fail
    refine (HA2.out).mono ?_
    rintro e w3 ⟨rfl, b3⟩
    go_wp2_with fail
    go_ret
    exact ⟨rfl, bthen HB2.out b3⟩
  case false =>
    by_cases h3 : 3000 < n
    · have k1 : (3000 : Int) < (n : Int) := by omega
      clear h3
      go_wp2_with fail
      refine (HA2.out).mono ?_
      rintro e w3 ⟨rfl, b3⟩
      go_wp2_with fail
      go_ret
      exact ⟨rfl, bthen HB2.out b3⟩
    have k1 : ((3000 : Int) < (n : Int)) = False := by simp only [eq_iff_iff, iff_false]; omega
    unfold Hd.val at HW
    dsimp only at HW
    go_wp2_with fail
    refine (HW.out).mono ?_
    clear HW HA2 d0 d1 d2
    rintro e w3 (⟨hr, rfl, b3⟩ | ⟨hr, hs, rfl, b3⟩ | ⟨hr, hs, A, c, rfl, N3, b3⟩)
    · have HB3 := Lib.hid (bthen HB2.out b3)
      clear b3 hr HX2 HT2
      have HNt := Lib.hid (HN0.out.up HB3.out)
      have HRt := Lib.hid (derRead_any HNt.out (by omega))
      have HBt := HB3
      go_wp2_with fail
      refine (HRt.out).mono ?_
      clear HRt HNt
      rintro e v1 (⟨p, q, hm, hq0, rfl, b1⟩ | ⟨t', hd', hm, rfl, b1, T1⟩)
      · have hp := read_err hm
        obtain ⟨v2, hv2⟩ : ∃ v2, v2 = (v1.alloc (.cells #[.int .i64 0, .slice none 0 0, .slice none 0 0] 25)).alloc (.cells #[.int .i64 (p : Int), .int .i64 (q : Int)] 47) := ⟨_, rfl⟩
        have hb2 : Below v1.heap.size v1 v2 := by rw [hv2]; exact ((Below.refl _ _).alloc (Nat.le_refl _) _).alloc (by simp) _
        have HX2 : Hid (Bx v2 v1.heap.size 25 (.int .i64 0) (.slice none 0 0) (.slice none 0 0)) := by
          rw [hv2]; exact (Bx.new v1 25 _ _ _).keep (B := v1.heap.size + 1) ((Below.refl _ _).alloc (by simp) _) (by omega)
        have HY2 : Hid (B2 v2 (v1.heap.size + 1) 47 (.int .i64 (p : Int)) (.int .i64 (q : Int))) := by
          rw [hv2]
          have := B2.new (v1.alloc (.cells #[.int .i64 0, .slice none 0 0, .slice none 0 0] 25)) 47 (.int .i64 (p : Int)) (.int .i64 (q : Int))
          simpa [Hid] using this
        have HB2' := Lib.hid (bthen (bthen HBt.out b1) hb2)
        have HAv := Lib.hid (alive_any v2)
        have kq : ((q : Int) != 0) = true := by simp; omega
        have kq' : ((q : Int) = 0) = False := by simp; omega
        have kp0 : (0 : Int) ≤ (p : Int) := by omega
        have kp1 : (p : Int) ≤ (n : Int) := by have := HN0.out.len; omega
        obtain ⟨y0, y1, -, -⟩ := HY2.out.cells
        clear b1 hb2 hm hq0 hp
        go_upto_region 9 with (fail)
        rw [← hv2]
        clear hv2
        go_wp2_with fail
        refine (HAv.out).mono ?_
        clear y0 y1 HAv
        rintro e v3 ⟨rfl, b3⟩
        obtain ⟨x0, x1, x2, -, -, -⟩ := (HX2.out.keep b3 HX2.out.lt).cells
        have HY3 := Lib.hid (HY2.out.keep b3 HY2.out.lt)
        have HB3' := Lib.hid (bthen HB2'.out b3)
        have HZ : Hid (Tr v3 v3.heap.size 1 ⟨0, none, 0, 0, none, 0, 0⟩ (.mk 0 [] [])) := Tr.mk rfl ⟨by simp only; omega, by simp only; omega⟩ (nb_nil _ _) (by simp only; omega) (Ks.nil _ _ _)
        have HSm := Lib.hid (same_all 1 HZ.out HZ.out)
        rw [show sameT (.mk 0 [] []) (.mk 0 [] []) = true by rfl] at HSm
        unfold Hd.val at HSm
        dsimp only at HSm
        clear b3 HZ
        go_wp2_with fail
        refine (HSm.out).mono ?_
        rintro e v4 ⟨rfl, b4⟩
        obtain ⟨y0, y1, -, -⟩ := (HY3.out.keep b4 HY3.out.lt).cells
        go_wp2_with fail
        go_ret
        exact ⟨rfl, bthen HB3'.out b4⟩
      · obtain ⟨g1, g2, g3, g4⟩ := read_right HN0.out.lim hm
        obtain ⟨v2, hv2⟩ : ∃ v2, v2 = (v1.alloc (.cells hd'.cells 25)).alloc (.cells #[.int .i64 0, .int .i64 0] 47) := ⟨_, rfl⟩
        have hb2 : Below v1.heap.size v1 v2 := by rw [hv2]; exact ((Below.refl _ _).alloc (Nat.le_refl _) _).alloc (by simp) _
        have HX2 : Hid (Bx v2 v1.heap.size 25 (.int .i64 hd'.t) (.slice hd'.A hd'.n hd'.c) (.slice hd'.K hd'.m hd'.d)) := by
          rw [hv2]; exact (Bx.new v1 25 _ _ _).keep (B := v1.heap.size + 1) ((Below.refl _ _).alloc (by simp) _) (by omega)
        have HY2 : Hid (B2 v2 (v1.heap.size + 1) 47 (.int .i64 0) (.int .i64 0)) := by
          rw [hv2]
          have := B2.new (v1.alloc (.cells hd'.cells 25)) 47 (.int .i64 0) (.int .i64 0)
          simpa [Hid] using this
        have HB2' := Lib.hid (bthen (bthen HBt.out b1) hb2)
        have HT2 := Lib.hid (T1.bare.up hb2)
        have HW2 := Lib.hid (write_any HT2.out)
        rw [g1] at HW2
        have HG := Lib.hid (And.intro g1 (And.intro g2 (And.intro g3 g4)))
        clear b1 hb2 hm g1 g2 g3 g4 T1
        obtain ⟨d1, d2, d3, d4, d5, d6, d7⟩ := hd'
        unfold Hd.val Hd.cells at *
        dsimp only at *
        obtain ⟨y0, y1, -, -⟩ := HY2.out.cells
        obtain ⟨x0, x1, x2, -, -, -⟩ := HX2.out.cells
        go_upto_region 9 with (fail)
        rw [← hv2]
        clear hv2
        go_wp2_with fail
        refine (HW2.out).mono ?_
        clear y0 y1 x0 x1 x2 HW2
        rintro e v3 (⟨hf, _⟩ | ⟨_, hf, _⟩ | ⟨_, _, A5, c5, rfl, N5, b3⟩)
        · cases hf
        · have := HG.out; omega
        rw [HG.out.2.1] at N5
        have HN5 := Lib.hid N5
        have HAv := Lib.hid (alive_any v3)
        have HX3 := Lib.hid (HX2.out.keep b3 HX2.out.lt)
        have HT3 := Lib.hid (HT2.out.up b3)
        have HB3' := Lib.hid (bthen HB2'.out b3)
        clear N5 b3
        go_wp2_with fail
        refine (HAv.out).mono ?_
        rintro e v4 ⟨rfl, b4⟩
        have HB4' := Lib.hid (bthen HB3'.out b4)
        have HRi := Lib.hid (right_any (HT3.out.up b4))
        rw [HG.out.1] at HRi
        have HN4 := Lib.hid (HN5.out.up b4)
        obtain ⟨x0, x1, x2, -, -, -⟩ := (HX3.out.keep b4 HX3.out.lt).cells
        clear b4
        unfold Hd.val at HRi
        dsimp only at HRi
        go_wp2_with fail
        refine (HRi.out).mono ?_
        rintro e v5 ⟨rfl, b5⟩
        have hc1 := conv_any (HN4.out.up b5)
        have hc2 := conv_any (HN0.out.up (HB4'.out.trans (b5.mono HB4'.out.size)))
        have hself := eq_self (bstr xs)
        generalize bstr xs = SS at *
        have HB5' := Lib.hid (bthen HB4'.out b5)
        clear b5
        go_wp2_with fail
        go_ret
        exact ⟨rfl, HB5'.out⟩
    · have HB3 := Lib.hid (bthen HB2.out b3)
      clear b3 hr hs HX2 HT2
      have HNt := Lib.hid (HN0.out.up HB3.out)
      have HRt := Lib.hid (derRead_any HNt.out (by omega))
      have HBt := HB3
      go_wp2_with fail
      refine (HRt.out).mono ?_
      clear HRt HNt
      rintro e v1 (⟨p, q, hm, hq0, rfl, b1⟩ | ⟨t', hd', hm, rfl, b1, T1⟩)
      · have hp := read_err hm
        obtain ⟨v2, hv2⟩ : ∃ v2, v2 = (v1.alloc (.cells #[.int .i64 0, .slice none 0 0, .slice none 0 0] 25)).alloc (.cells #[.int .i64 (p : Int), .int .i64 (q : Int)] 47) := ⟨_, rfl⟩
        have hb2 : Below v1.heap.size v1 v2 := by rw [hv2]; exact ((Below.refl _ _).alloc (Nat.le_refl _) _).alloc (by simp) _
        have HX2 : Hid (Bx v2 v1.heap.size 25 (.int .i64 0) (.slice none 0 0) (.slice none 0 0)) := by
          rw [hv2]; exact (Bx.new v1 25 _ _ _).keep (B := v1.heap.size + 1) ((Below.refl _ _).alloc (by simp) _) (by omega)
        have HY2 : Hid (B2 v2 (v1.heap.size + 1) 47 (.int .i64 (p : Int)) (.int .i64 (q : Int))) := by
          rw [hv2]
          have := B2.new (v1.alloc (.cells #[.int .i64 0, .slice none 0 0, .slice none 0 0] 25)) 47 (.int .i64 (p : Int)) (.int .i64 (q : Int))
          simpa [Hid] using this
        have HB2' := Lib.hid (bthen (bthen HBt.out b1) hb2)
        have HAv := Lib.hid (alive_any v2)
        have kq : ((q : Int) != 0) = true := by simp; omega
        have kq' : ((q : Int) = 0) = False := by simp; omega
        have kp0 : (0 : Int) ≤ (p : Int) := by omega
        have kp1 : (p : Int) ≤ (n : Int) := by have := HN0.out.len; omega
        obtain ⟨y0, y1, -, -⟩ := HY2.out.cells
        clear b1 hb2 hm hq0 hp
        go_upto_region 9 with (fail)
        rw [← hv2]
        clear hv2
        go_wp2_with fail
        refine (HAv.out).mono ?_
        clear y0 y1 HAv
        rintro e v3 ⟨rfl, b3⟩
        obtain ⟨x0, x1, x2, -, -, -⟩ := (HX2.out.keep b3 HX2.out.lt).cells
        have HY3 := Lib.hid (HY2.out.keep b3 HY2.out.lt)
        have HB3' := Lib.hid (bthen HB2'.out b3)
        have HZ : Hid (Tr v3 v3.heap.size 1 ⟨0, none, 0, 0, none, 0, 0⟩ (.mk 0 [] [])) := Tr.mk rfl ⟨by simp only; omega, by simp only; omega⟩ (nb_nil _ _) (by simp only; omega) (Ks.nil _ _ _)
        have HSm := Lib.hid (same_all 1 HZ.out HZ.out)
        rw [show sameT (.mk 0 [] []) (.mk 0 [] []) = true by rfl] at HSm
        unfold Hd.val at HSm
        dsimp only at HSm
        clear b3 HZ
        go_wp2_with fail
        refine (HSm.out).mono ?_
        rintro e v4 ⟨rfl, b4⟩
        obtain ⟨y0, y1, -, -⟩ := (HY3.out.keep b4 HY3.out.lt).cells
        go_wp2_with fail
        go_ret
        exact ⟨rfl, bthen HB3'.out b4⟩
      · obtain ⟨g1, g2, g3, g4⟩ := read_right HN0.out.lim hm
        obtain ⟨v2, hv2⟩ : ∃ v2, v2 = (v1.alloc (.cells hd'.cells 25)).alloc (.cells #[.int .i64 0, .int .i64 0] 47) := ⟨_, rfl⟩
        have hb2 : Below v1.heap.size v1 v2 := by rw [hv2]; exact ((Below.refl _ _).alloc (Nat.le_refl _) _).alloc (by simp) _
        have HX2 : Hid (Bx v2 v1.heap.size 25 (.int .i64 hd'.t) (.slice hd'.A hd'.n hd'.c) (.slice hd'.K hd'.m hd'.d)) := by
          rw [hv2]; exact (Bx.new v1 25 _ _ _).keep (B := v1.heap.size + 1) ((Below.refl _ _).alloc (by simp) _) (by omega)
        have HY2 : Hid (B2 v2 (v1.heap.size + 1) 47 (.int .i64 0) (.int .i64 0)) := by
          rw [hv2]
          have := B2.new (v1.alloc (.cells hd'.cells 25)) 47 (.int .i64 0) (.int .i64 0)
          simpa [Hid] using this
        have HB2' := Lib.hid (bthen (bthen HBt.out b1) hb2)
        have HT2 := Lib.hid (T1.bare.up hb2)
        have HW2 := Lib.hid (write_any HT2.out)
        rw [g1] at HW2
        have HG := Lib.hid (And.intro g1 (And.intro g2 (And.intro g3 g4)))
        clear b1 hb2 hm g1 g2 g3 g4 T1
        obtain ⟨d1, d2, d3, d4, d5, d6, d7⟩ := hd'
        unfold Hd.val Hd.cells at *
        dsimp only at *
        obtain ⟨y0, y1, -, -⟩ := HY2.out.cells
        obtain ⟨x0, x1, x2, -, -, -⟩ := HX2.out.cells
        go_upto_region 9 with (fail)
        rw [← hv2]
        clear hv2
        go_wp2_with fail
        refine (HW2.out).mono ?_
        clear y0 y1 x0 x1 x2 HW2
        rintro e v3 (⟨hf, _⟩ | ⟨_, hf, _⟩ | ⟨_, _, A5, c5, rfl, N5, b3⟩)
        · cases hf
        · have := HG.out; omega
        rw [HG.out.2.1] at N5
        have HN5 := Lib.hid N5
        have HAv := Lib.hid (alive_any v3)
        have HX3 := Lib.hid (HX2.out.keep b3 HX2.out.lt)
        have HT3 := Lib.hid (HT2.out.up b3)
        have HB3' := Lib.hid (bthen HB2'.out b3)
        clear N5 b3
        go_wp2_with fail
        refine (HAv.out).mono ?_
        rintro e v4 ⟨rfl, b4⟩
        have HB4' := Lib.hid (bthen HB3'.out b4)
        have HRi := Lib.hid (right_any (HT3.out.up b4))
        rw [HG.out.1] at HRi
        have HN4 := Lib.hid (HN5.out.up b4)
        obtain ⟨x0, x1, x2, -, -, -⟩ := (HX3.out.keep b4 HX3.out.lt).cells
        clear b4
        unfold Hd.val at HRi
        dsimp only at HRi
        go_wp2_with fail
        refine (HRi.out).mono ?_
        rintro e v5 ⟨rfl, b5⟩
        have hc1 := conv_any (HN4.out.up b5)
        have hc2 := conv_any (HN0.out.up (HB4'.out.trans (b5.mono HB4'.out.size)))
        have hself := eq_self (bstr xs)
        generalize bstr xs = SS at *
        have HB5' := Lib.hid (bthen HB4'.out b5)
        clear b5
        go_wp2_with fail
        go_ret
        exact ⟨rfl, HB5'.out⟩
    · have HB3 := Lib.hid (bthen HB2.out b3)
      have HX3 := Lib.hid (HX2.out.keep b3 HX2.out.lt)
      have HT3 := Lib.hid (HT2.out.up b3)
      have HRd := Lib.hid (read_back hr hs)
      have HR3 := Lib.hid (derRead_any N3 (by omega))
      clear b3 hr N3 HX2 HT2
      go_wp2_with fail
      refine (HR3.out).mono ?_
      clear HR3
      rintro e w4 (⟨p, q, hm, _, rfl, b4⟩ | ⟨t', hd', hm, rfl, b4, T4⟩)
      · rw [HRd.out] at hm; cases hm
      rw [HRd.out] at hm
      cases hm
      obtain ⟨w5, hw5⟩ : ∃ w5, w5 = (w4.alloc (.cells hd'.cells 25)).alloc (.cells #[.int .i64 0, .int .i64 0] 47) := ⟨_, rfl⟩
      have hb5 : Below w4.heap.size w4 w5 := by rw [hw5]; exact ((Below.refl _ _).alloc (Nat.le_refl _) _).alloc (by simp) _
      have hx5 : Bx w5 w4.heap.size 25 (.int .i64 hd'.t) (.slice hd'.A hd'.n hd'.c) (.slice hd'.K hd'.m hd'.d) := by
        rw [hw5]; exact (Bx.new w4 25 _ _ _).keep (B := w4.heap.size + 1) ((Below.refl _ _).alloc (by simp) _) (by omega)
      have hy5 : B2 w5 (w4.heap.size + 1) 47 (.int .i64 0) (.int .i64 0) := by
        rw [hw5]
        have := B2.new (w4.alloc (.cells hd'.cells 25)) 47 (.int .i64 0) (.int .i64 0)
        simpa using this
      have HB5 := Lib.hid (bthen (bthen HB3.out b4) hb5)
      have HSm := Lib.hid (same_all 17 (T4.bare.up hb5) (HT3.out.up (b4.trans (hb5.mono b4.size))))
      rw [same_self] at HSm
      obtain ⟨x0, x1, x2, -, -, -⟩ := hx5.cells
      obtain ⟨y0, y1, -, -⟩ := hy5.cells
      obtain ⟨u0, u1, u2, -, -, -⟩ := (HX3.out.keep (b4.trans (hb5.mono b4.size)) HX3.out.lt).cells
      clear b4 hb5 hx5 hy5 T4 HX3 HT3
      obtain ⟨d1, d2, d3, d4, d5, d6, d7⟩ := hd'
      unfold Hd.val Hd.cells at *
      dsimp only at *
      go_upto_region 6 with (fail)
      rw [← hw5]
      clear hw5
      go_wp2_with fail
      refine (HSm.out).mono ?_
      clear x0 x1 x2 y0 y1 u0 u1 u2 HSm
      rintro e w6 ⟨rfl, b6⟩
      have HB6 := Lib.hid (bthen HB5.out b6)
      clear b6
      have HNt := Lib.hid (HN0.out.up HB6.out)
      have HRt := Lib.hid (derRead_any HNt.out (by omega))
      have HBt := HB6
      go_wp2_with fail
      refine (HRt.out).mono ?_
      clear HRt HNt
      rintro e v1 (⟨p, q, hm, hq0, rfl, b1⟩ | ⟨t', hd', hm, rfl, b1, T1⟩)
      · have hp := read_err hm
        obtain ⟨v2, hv2⟩ : ∃ v2, v2 = (v1.alloc (.cells #[.int .i64 0, .slice none 0 0, .slice none 0 0] 25)).alloc (.cells #[.int .i64 (p : Int), .int .i64 (q : Int)] 47) := ⟨_, rfl⟩
        have hb2 : Below v1.heap.size v1 v2 := by rw [hv2]; exact ((Below.refl _ _).alloc (Nat.le_refl _) _).alloc (by simp) _
        have HX2 : Hid (Bx v2 v1.heap.size 25 (.int .i64 0) (.slice none 0 0) (.slice none 0 0)) := by
          rw [hv2]; exact (Bx.new v1 25 _ _ _).keep (B := v1.heap.size + 1) ((Below.refl _ _).alloc (by simp) _) (by omega)
        have HY2 : Hid (B2 v2 (v1.heap.size + 1) 47 (.int .i64 (p : Int)) (.int .i64 (q : Int))) := by
          rw [hv2]
          have := B2.new (v1.alloc (.cells #[.int .i64 0, .slice none 0 0, .slice none 0 0] 25)) 47 (.int .i64 (p : Int)) (.int .i64 (q : Int))
          simpa [Hid] using this
        have HB2' := Lib.hid (bthen (bthen HBt.out b1) hb2)
        have HAv := Lib.hid (alive_any v2)
        have kq : ((q : Int) != 0) = true := by simp; omega
        have kq' : ((q : Int) = 0) = False := by simp; omega
        have kp0 : (0 : Int) ≤ (p : Int) := by omega
        have kp1 : (p : Int) ≤ (n : Int) := by have := HN0.out.len; omega
        obtain ⟨y0, y1, -, -⟩ := HY2.out.cells
        clear b1 hb2 hm hq0 hp
        go_upto_region 9 with (fail)
        rw [← hv2]
        clear hv2
        go_wp2_with fail
        refine (HAv.out).mono ?_
        clear y0 y1 HAv
        rintro e v3 ⟨rfl, b3⟩
        obtain ⟨x0, x1, x2, -, -, -⟩ := (HX2.out.keep b3 HX2.out.lt).cells
        have HY3 := Lib.hid (HY2.out.keep b3 HY2.out.lt)
        have HB3' := Lib.hid (bthen HB2'.out b3)
        have HZ : Hid (Tr v3 v3.heap.size 1 ⟨0, none, 0, 0, none, 0, 0⟩ (.mk 0 [] [])) := Tr.mk rfl ⟨by simp only; omega, by simp only; omega⟩ (nb_nil _ _) (by simp only; omega) (Ks.nil _ _ _)
        have HSm := Lib.hid (same_all 1 HZ.out HZ.out)
        rw [show sameT (.mk 0 [] []) (.mk 0 [] []) = true by rfl] at HSm
        unfold Hd.val at HSm
        dsimp only at HSm
        clear b3 HZ
        go_wp2_with fail
        refine (HSm.out).mono ?_
        rintro e v4 ⟨rfl, b4⟩
        obtain ⟨y0, y1, -, -⟩ := (HY3.out.keep b4 HY3.out.lt).cells
        go_wp2_with fail
        go_ret
        exact ⟨rfl, bthen HB3'.out b4⟩
      · obtain ⟨g1, g2, g3, g4⟩ := read_right HN0.out.lim hm
        obtain ⟨v2, hv2⟩ : ∃ v2, v2 = (v1.alloc (.cells hd'.cells 25)).alloc (.cells #[.int .i64 0, .int .i64 0] 47) := ⟨_, rfl⟩
        have hb2 : Below v1.heap.size v1 v2 := by rw [hv2]; exact ((Below.refl _ _).alloc (Nat.le_refl _) _).alloc (by simp) _
        have HX2 : Hid (Bx v2 v1.heap.size 25 (.int .i64 hd'.t) (.slice hd'.A hd'.n hd'.c) (.slice hd'.K hd'.m hd'.d)) := by
          rw [hv2]; exact (Bx.new v1 25 _ _ _).keep (B := v1.heap.size + 1) ((Below.refl _ _).alloc (by simp) _) (by omega)
        have HY2 : Hid (B2 v2 (v1.heap.size + 1) 47 (.int .i64 0) (.int .i64 0)) := by
          rw [hv2]
          have := B2.new (v1.alloc (.cells hd'.cells 25)) 47 (.int .i64 0) (.int .i64 0)
          simpa [Hid] using this
        have HB2' := Lib.hid (bthen (bthen HBt.out b1) hb2)
        have HT2 := Lib.hid (T1.bare.up hb2)
        have HW2 := Lib.hid (write_any HT2.out)
        rw [g1] at HW2
        have HG := Lib.hid (And.intro g1 (And.intro g2 (And.intro g3 g4)))
        clear b1 hb2 hm g1 g2 g3 g4 T1
        obtain ⟨d1, d2, d3, d4, d5, d6, d7⟩ := hd'
        unfold Hd.val Hd.cells at *
        dsimp only at *
        obtain ⟨y0, y1, -, -⟩ := HY2.out.cells
        obtain ⟨x0, x1, x2, -, -, -⟩ := HX2.out.cells
        go_upto_region 9 with (fail)
        rw [← hv2]
        clear hv2
        go_wp2_with fail
        refine (HW2.out).mono ?_
        clear y0 y1 x0 x1 x2 HW2
        rintro e v3 (⟨hf, _⟩ | ⟨_, hf, _⟩ | ⟨_, _, A5, c5, rfl, N5, b3⟩)
        · cases hf
        · have := HG.out; omega
        rw [HG.out.2.1] at N5
        have HN5 := Lib.hid N5
        have HAv := Lib.hid (alive_any v3)
        have HX3 := Lib.hid (HX2.out.keep b3 HX2.out.lt)
        have HT3 := Lib.hid (HT2.out.up b3)
        have HB3' := Lib.hid (bthen HB2'.out b3)
        clear N5 b3
        go_wp2_with fail
        refine (HAv.out).mono ?_
        rintro e v4 ⟨rfl, b4⟩
        have HB4' := Lib.hid (bthen HB3'.out b4)
        have HRi := Lib.hid (right_any (HT3.out.up b4))
        rw [HG.out.1] at HRi
        have HN4 := Lib.hid (HN5.out.up b4)
        obtain ⟨x0, x1, x2, -, -, -⟩ := (HX3.out.keep b4 HX3.out.lt).cells
        clear b4
        unfold Hd.val at HRi
        dsimp only at HRi
        go_wp2_with fail
        refine (HRi.out).mono ?_
        rintro e v5 ⟨rfl, b5⟩
        have hc1 := conv_any (HN4.out.up b5)
        have hc2 := conv_any (HN0.out.up (HB4'.out.trans (b5.mono HB4'.out.size)))
        have hself := eq_self (bstr xs)
        generalize bstr xs = SS at *
        have HB5' := Lib.hid (bthen HB4'.out b5)
        clear b5
        go_wp2_with fail
        go_ret
        exact ⟨rfl, HB5'.out⟩
end Go.Proofs.Ytddpgckbdccldaa
