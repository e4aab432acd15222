/- law07.DerInside: the walk. -/
import Derived.Test.YtddpgckbdccldaaK1
namespace Go.Proofs.Ytddpgckbdccldaa
open Go.RowKit
set_option linter.unusedVariables false
set_option linter.unusedSimpArgs false
set_option maxRecDepth 100000
set_option maxHeartbeats 16000000 in
theorem inside_any {f1 f2 : Nat} {h1 h2 : Hd} {ta tb : T} {w : World} (H1 : Tr w w.heap.size f1 h1 ta) (H2 : Tr w w.heap.size f2 h2 tb) : Calls Try.prog 8 #[h1.val, h2.val] w (Yes w) := by
  obtain ⟨w1, hw1⟩ : ∃ w1, w1 = (w.alloc (.cells h1.cells 25)).alloc (.cells h2.cells 25) := ⟨_, rfl⟩
  have hb1 : Below w.heap.size w w1 := by rw [hw1]; exact ((Below.refl _ _).alloc (Nat.le_refl _) _).alloc (by simp) _
  have hx1 : Bx w1 w.heap.size 25 (.int .i64 h1.t) (.slice h1.A h1.n h1.c) (.slice h1.K h1.m h1.d) := by
    rw [hw1]; exact (Bx.new w 25 _ _ _).keep (B := w.heap.size + 1) ((Below.refl _ _).alloc (by simp) _) (by omega)
  have hy1 : Bx w1 (w.heap.size + 1) 25 (.int .i64 h2.t) (.slice h2.A h2.n h2.c) (.slice h2.K h2.m h2.d) := by
    rw [hw1]
    have := Bx.new (w.alloc (.cells h1.cells 25)) 25 (.int .i64 h2.t) (.slice h2.A h2.n h2.c) (.slice h2.K h2.m h2.d)
    rw [show (w.alloc (.cells h1.cells 25)).heap.size = w.heap.size + 1 by simp] at this
    exact this
  have HT1 := Lib.hid (Tr.fuel (Nat.le_max_left f1 f2) (H1.up hb1))
  have HU1 := Lib.hid (Tr.fuel (Nat.le_max_right f1 f2) (H2.up hb1))
  generalize max f1 f2 = f at *
  have HH := Lib.hid (heavy_any HT1.out)
  have HX := Lib.hid hx1
  have HY := Lib.hid hy1
  have HB := Lib.hid hb1
  obtain ⟨c0, c1, c2, -, -, -⟩ := hx1.cells
  clear H1 H2 hb1 hx1 hy1
  obtain ⟨u1, A1, n1, cc1, KK1, m1, dd1⟩ := h1
  obtain ⟨u2, A2, n2, cc2, KK2, m2, dd2⟩ := h2
  unfold Hd.cells Hd.val at *
  dsimp only at *
  go_enter Try.func8, Try.ntmps8
  go_upto_region 1 with (fail)
  rw [← hw1]
  clear hw1
  go_wp2_with fail
  refine (HH.out).mono ?_
  clear HH c0 c1 c2
  rintro e w2 ⟨z, rfl, b2, -⟩
  have HB2 := Lib.hid (bthen HB.out b2)
  have HA2 := Lib.hid (alive_any w2)
  have HX2 := Lib.hid (HX.out.keep b2 HX.out.lt)
  have HY2 := Lib.hid (HY.out.keep b2 HY.out.lt)
  have HT2 := Lib.hid (HT1.out.up b2)
  have HU2 := Lib.hid (HU1.out.up b2)
  clear b2 HX HY HT1 HU1
  rcases z with _ | _
  case true =>
    go_wp2_with fail
    refine (HA2.out).mono ?_
    rintro e ww ⟨rfl, bb⟩
    go_wp2_with fail
    go_ret
    exact ⟨rfl, bthen HB2.out bb⟩
  obtain ⟨c0, c1, c2, -, -, -⟩ := HY2.out.cells
  have HH := Lib.hid (heavy_any HU2.out)
  unfold Hd.val at HH
  dsimp only at HH
  go_wp2_with fail
  refine (HH.out).mono ?_
  clear HH c0 c1 c2 HA2
  rintro e w3 ⟨z, rfl, b3, -⟩
  have HB3 := Lib.hid (bthen HB2.out b3)
  have HX3 := Lib.hid (HX2.out.keep b3 HX2.out.lt)
  have HY3 := Lib.hid (HY2.out.keep b3 HY2.out.lt)
  have HT3 := Lib.hid (HT2.out.up b3)
  have HU3 := Lib.hid (HU2.out.up b3)
  clear b3 HX2 HY2 HT2 HU2
  have HA3 := Lib.hid (alive_any w3)
  rcases z with _ | _
  case true =>
    go_wp2_with fail
    refine (HA3.out).mono ?_
    rintro e ww ⟨rfl, bb⟩
    go_wp2_with fail
    go_ret
    exact ⟨rfl, bthen HB3.out bb⟩
  obtain ⟨c0, c1, c2, -, -, -⟩ := HX3.out.cells
  have HR := Lib.hid (right_any HT3.out)
  obtain ⟨ra, hra⟩ : ∃ r, Hid (rightM ta = r) := ⟨_, Lib.hid rfl⟩
  rw [hra.out] at HR
  unfold Hd.val at HR
  dsimp only at HR
  go_wp2_with fail
  refine (HR.out).mono ?_
  clear HR c0 c1 c2 HA3
  rintro e w4 ⟨rfl, b4⟩
  have HB4 := Lib.hid (bthen HB3.out b4)
  have HX4 := Lib.hid (HX3.out.keep b4 HX3.out.lt)
  have HY4 := Lib.hid (HY3.out.keep b4 HY3.out.lt)
  have HT4 := Lib.hid (HT3.out.up b4)
  have HU4 := Lib.hid (HU3.out.up b4)
  clear b4 HX3 HY3 HT3 HU3
  have HA4 := Lib.hid (alive_any w4)
  rcases ra with _ | _
  case false =>
    go_wp2_with fail
    refine (HA4.out).mono ?_
    rintro e ww ⟨rfl, bb⟩
    go_wp2_with fail
    go_ret
    exact ⟨rfl, bthen HB4.out bb⟩
  obtain ⟨c0, c1, c2, -, -, -⟩ := HY4.out.cells
  have HR := Lib.hid (right_any HU4.out)
  obtain ⟨rb, hrb⟩ : ∃ r, Hid (rightM tb = r) := ⟨_, Lib.hid rfl⟩
  rw [hrb.out] at HR
  unfold Hd.val at HR
  dsimp only at HR
  go_wp2_with fail
  refine (HR.out).mono ?_
  clear HR c0 c1 c2 HA4
  rintro e w5 ⟨rfl, b5⟩
  have HB5 := Lib.hid (bthen HB4.out b5)
  have HX5 := Lib.hid (HX4.out.keep b5 HX4.out.lt)
  have HY5 := Lib.hid (HY4.out.keep b5 HY4.out.lt)
  have HT5 := Lib.hid (HT4.out.up b5)
  have HU5 := Lib.hid (HU4.out.up b5)
  clear b5 HX4 HY4 HT4 HU4
  have HA5 := Lib.hid (alive_any w5)
  rcases rb with _ | _
  case false =>
    go_wp2_with fail
    refine (HA5.out).mono ?_
    rintro e ww ⟨rfl, bb⟩
    go_wp2_with fail
    go_ret
    exact ⟨rfl, bthen HB5.out bb⟩
  obtain ⟨c0, c1, c2, -, -, -⟩ := HX5.out.cells
  have HW := Lib.hid (write_any HT5.out)
  rw [hra.out] at HW
  unfold Hd.val at HW
  dsimp only at HW
  go_wp2_with fail
  refine (HW.out).mono ?_
  clear HW c0 c1 c2 HA5
  intro e w6 hwt
  obtain ⟨Aa, na, ca, qa, rfl, b6, Ra⟩ := wto_yes hwt
  have HB6 := Lib.hid (bthen HB5.out b6)
  have HX6 := Lib.hid (HX5.out.keep b6 HX5.out.lt)
  have HY6 := Lib.hid (HY5.out.keep b6 HY5.out.lt)
  have HT6 := Lib.hid (HT5.out.up b6)
  have HU6 := Lib.hid (HU5.out.up b6)
  clear b6 HX5 HY5 HT5 HU5
  have HRa := Lib.hid Ra
  clear hwt Ra
  obtain ⟨c0, c1, c2, -, -, -⟩ := HY6.out.cells
  have HW := Lib.hid (write_any HU6.out)
  rw [hrb.out] at HW
  unfold Hd.val at HW
  dsimp only at HW
  go_wp2_with fail
  refine (HW.out).mono ?_
  clear HW c0 c1 c2
  intro e w7 hwt
  obtain ⟨Ab, nb, cb, qb, rfl, b7, Rb_⟩ := wto_yes hwt
  have HRa7 : Hid (qa = 2 ∨ qa = 0 ∧ na = sizT ta ∧ na ≤ 65535 ∧ Nb w7 w7.heap.size Aa na ca (byT ta)) := HRa.out.imp id fun h => ⟨h.1, h.2.1, h.2.2.1, h.2.2.2.up b7⟩
  have HB7 := Lib.hid (bthen HB6.out b7)
  have HX7 := Lib.hid (HX6.out.keep b7 HX6.out.lt)
  have HY7 := Lib.hid (HY6.out.keep b7 HY6.out.lt)
  have HT7 := Lib.hid (HT6.out.up b7)
  have HU7 := Lib.hid (HU6.out.up b7)
  clear b7 HX6 HY6 HT6 HU6
  have HRb := Lib.hid Rb_
  clear hwt Rb_ HRa
  obtain ⟨w8, hw8⟩ : ∃ w8, w8 = (w7.alloc (.cells #[.int .i64 u1, .slice A1 n1 cc1, .slice KK1 m1 dd1, .int .i64 u2, .slice A2 n2 cc2, .slice KK2 m2 dd2] 25)).alloc (.cells #[.int .i64 48, .slice none 0 0, .slice (some ⟨w7.heap.size, 0, none⟩) 2 2] 25) := ⟨_, rfl⟩
  have b8 : Below w7.heap.size w7 w8 := by rw [hw8]; exact ((Below.refl _ _).alloc (Nat.le_refl _) _).alloc (by simp) _
  have hrow : w8.heap[w7.heap.size]? = some (.cells #[.int .i64 u1, .slice A1 n1 cc1, .slice KK1 m1 dd1, .int .i64 u2, .slice A2 n2 cc2, .slice KK2 m2 dd2] 25 (0, 0)) := by
    rw [hw8]
    exact (Below.heap_alloc _ _ _ (by simp)).trans (heap_alloc_new w7 _)
  have HZ8 : Hid (Bx w8 (w7.heap.size + 1) 25 (.int .i64 48) (.slice none 0 0) (.slice (some ⟨w7.heap.size, 0, none⟩) 2 2)) := by
    rw [hw8]
    have := Bx.new (w7.alloc (.cells #[.int .i64 u1, .slice A1 n1 cc1, .slice KK1 m1 dd1, .int .i64 u2, .slice A2 n2 cc2, .slice KK2 m2 dd2] 25)) 25 (.int .i64 48) (.slice none 0 0) (.slice (some ⟨w7.heap.size, 0, none⟩) 2 2)
    rw [show (w7.alloc (.cells #[.int .i64 u1, .slice A1 n1 cc1, .slice KK1 m1 dd1, .int .i64 u2, .slice A2 n2 cc2, .slice KK2 m2 dd2] 25)).heap.size = w7.heap.size + 1 by simp] at this
    exact this
  have HBT := Lib.hid (both_tr (HT7.out.up b8) (HU7.out.up b8) (by rw [hw8]; simp; omega) hrow)
  have HRa8 : Hid (qa = 2 ∨ qa = 0 ∧ na = sizT ta ∧ na ≤ 65535 ∧ Nb w8 w8.heap.size Aa na ca (byT ta)) := HRa7.out.imp id fun h => ⟨h.1, h.2.1, h.2.2.1, h.2.2.2.up b8⟩
  have HRb8 : Hid (qb = 2 ∨ qb = 0 ∧ nb = sizT tb ∧ nb ≤ 65535 ∧ Nb w8 w8.heap.size Ab nb cb (byT tb)) := HRb.out.imp id fun h => ⟨h.1, h.2.1, h.2.2.1, h.2.2.2.up b8⟩
  obtain ⟨x0, x1, x2, -, -, -⟩ := HX7.out.cells
  obtain ⟨y0, y1, y2, -, -, -⟩ := HY7.out.cells
  have HB8 := Lib.hid (bthen HB7.out b8)
  have HX8 := Lib.hid (HX7.out.keep b8 HX7.out.lt)
  have HY8 := Lib.hid (HY7.out.keep b8 HY7.out.lt)
  have HT8 := Lib.hid (HT7.out.up b8)
  have HU8 := Lib.hid (HU7.out.up b8)
  clear b8 HX7 HY7 HT7 HU7
  clear HRa7 HRb hrow
  have HW := Lib.hid (write_any HBT.out)
  unfold Hd.val at HW
  dsimp only at HW
  go_upto_region 6 with (fail)
  rw [← hw8]
  clear hw8 x0 x1 x2 y0 y1 y2
  obtain ⟨c0, c1, c2, -, -, -⟩ := HZ8.out.cells
  go_wp2_with fail
  refine (HW.out).mono ?_
  clear HW c0 c1 c2 HZ8
  intro e w9 hwt
  obtain ⟨Ac, nc, cc, qc, rfl, b9, Rc⟩ := wto_any hwt
  have HRa9 : Hid (qa = 2 ∨ qa = 0 ∧ na = sizT ta ∧ na ≤ 65535 ∧ Nb w9 w9.heap.size Aa na ca (byT ta)) := HRa8.out.imp id fun h => ⟨h.1, h.2.1, h.2.2.1, h.2.2.2.up b9⟩
  have HRb9 : Hid (qb = 2 ∨ qb = 0 ∧ nb = sizT tb ∧ nb ≤ 65535 ∧ Nb w9 w9.heap.size Ab nb cb (byT tb)) := HRb8.out.imp id fun h => ⟨h.1, h.2.1, h.2.2.1, h.2.2.2.up b9⟩
  have HB9 := Lib.hid (bthen HB8.out b9)
  have HX9 := Lib.hid (HX8.out.keep b9 HX8.out.lt)
  have HY9 := Lib.hid (HY8.out.keep b9 HY8.out.lt)
  have HT9 := Lib.hid (HT8.out.up b9)
  have HU9 := Lib.hid (HU8.out.up b9)
  clear b9 HX8 HY8 HT8 HU8
  have HRc := Lib.hid Rc
  clear hwt Rc HRa8 HRb8 HBT
  have HA9 := Lib.hid (alive_any w9)
  rcases HRa9.out with rfl | ⟨rfl, ea, la, Na⟩
  · clear HRa9 HRb9 HRc
    go_wp2_with fail
    refine (HA9.out).mono ?_
    rintro e ww ⟨rfl, bb⟩
    go_wp2_with fail
    go_ret
    exact ⟨rfl, bthen HB9.out bb⟩
  rcases HRb9.out with rfl | ⟨rfl, eb, lb_, Nb_⟩
  · clear HRa9 HRb9 HRc Na
    go_wp2_with fail
    refine (HA9.out).mono ?_
    rintro e ww ⟨rfl, bb⟩
    go_wp2_with fail
    go_ret
    exact ⟨rfl, bthen HB9.out bb⟩
  rcases HRc.out with rfl | rfl | ⟨rfl, ec, lc, Nc⟩
  · clear HRa9 HRb9 HRc Na Nb_
    go_wp2_with fail
    refine (HA9.out).mono ?_
    rintro e ww ⟨rfl, bb⟩
    go_wp2_with fail
    go_ret
    exact ⟨rfl, bthen HB9.out bb⟩
  · clear HRa9 HRb9 HRc Na Nb_
    go_wp2_with fail
    refine (HA9.out).mono ?_
    rintro e ww ⟨rfl, bb⟩
    go_wp2_with fail
    go_ret
    exact ⟨rfl, bthen HB9.out bb⟩
  clear HRa9 HRb9 HRc
  have hcapc := Nc.cap
  obtain ⟨p1, p2, p3⟩ := both_parts ta tb
  rw [← ea, ← eb, ← ec] at p1
  rw [← eb, ← ec] at p2
  rw [← ea, ← eb, ← ec] at p3
  obtain ⟨d, hd⟩ : ∃ d, d = nc - nb := ⟨_, rfl⟩
  obtain ⟨s, hs⟩ : ∃ s, s = d - na := ⟨_, rfl⟩
  rw [← hd] at p2 p3
  rw [← hs] at p3
  obtain ⟨Ad, l1, l2, l3⟩ := cut_lo Ac nc cc d (by omega) hcapc
  obtain ⟨As, k1, k2, -, k3⟩ := cut_lh Ac nc cc s d (by omega) (by omega)
  have Nd := l3 Nc
  have Ns := k3 Nc (by omega)
  rw [p2] at Nd
  rw [show d - s = na by omega, p3] at Ns
  rw [show d - s = na by omega] at k1 k2
  rw [show nc - d = nb by omega] at l1 l2 Nd
  have q1 := fun j => conv_any (Nd.dr j)
  have q2 := fun j => conv_any (Ns.dr j)
  have q3 := fun j => conv_any (Na.dr j)
  have q4 := fun j => conv_any (Nb_.dr j)
  have r1 : IntKind.i64.wrap ((na : Int) + (nb : Int)) = ((na + nb : Nat) : Int) := by rw [IntKind.wrap_i64]; omega
  have r2 : IntKind.i64.wrap (((na + nb : Nat) : Int) + 2) = ((na + nb + 2 : Nat) : Int) := by rw [IntKind.wrap_i64]; omega
  have r3 : ((nc : Int) < ((na + nb + 2 : Nat) : Int)) = False := by simp only [eq_iff_iff, iff_false]; omega
  have r4 : IntKind.i64.wrap ((nc : Int) - (nb : Int)) = (d : Int) := by rw [IntKind.wrap_i64]; omega
  have r5 : IntKind.i64.wrap ((d : Int) - (na : Int)) = (s : Int) := by rw [IntKind.wrap_i64]; omega
  have HBy := Lib.hid (show (byT ta = byT tb) = (sameT ta tb = true) by
    apply propext
    rw [sameT_iff]
    exact ⟨fun h => byT_inj hra.out hrb.out (by omega) h, fun h => by rw [h]⟩)
  generalize na + nb + 2 = msum2 at *
  generalize na + nb = msum1 at *
  have HN1 := Lib.hid Na
  have HN2 := Lib.hid Nb_
  clear Na Nb_ Nc Nd Ns l3 k3 p1 p2 p3 hd hs ea eb ec la lb_ lc hcapc
  go_upto_region 9 with (fail)
  go_quiet (fail)
  clear q1 q2 q3 q4 r1 r2 r3 r4 r5 k1 k2 l1 l2
  have HBW := Lib.hid (below_drewN HB9.out nq)
  have HXW := Lib.hid (HX9.out.keep (below_drewN (Below.refl _ _) nq) HX9.out.lt)
  have HYW := Lib.hid (HY9.out.keep (below_drewN (Below.refl _ _) nq) HY9.out.lt)
  have HTW := Lib.hid (HT9.out.up (below_drewN (Below.refl _ _) nq))
  have HUW := Lib.hid (HU9.out.up (below_drewN (Below.refl _ _) nq))
  have HM1 := Lib.hid (HN1.out.dr nq)
  have HM2 := Lib.hid (HN2.out.dr nq)
  generalize w9.drewN nq = W at *
  clear HX9 HY9 HT9 HU9 HN1 HN2 HA9
  have HSt : Hid (∃ S1 S2 : ByteArray, S1 = bstr (byT ta) ∧ S2 = bstr (byT tb) ∧ ((S1.toList = S2.toList) = (sameT ta tb = true))) := ⟨_, _, rfl, rfl, by
    rw [← HBy.out]
    exact propext ⟨fun h => bstr_inj HM1.out.lim HM2.out.lim h, fun h => by rw [h]⟩⟩
  obtain ⟨S1, S2, hS1, hS2, hSS⟩ := HSt.out
  have HAl := Lib.hid (alive_any W.drew)
  have HSm := Lib.hid (fun V (b : Below W.heap.size W V) => same_all f (HTW.out.up b) (HUW.out.up b))
  have HC1 := Lib.hid (fun V (b : Below W.heap.size W V) => conv_any (HM1.out.up b))
  have HC2 := Lib.hid (fun V (b : Below W.heap.size W V) => conv_any (HM2.out.up b))
  rw [← hS1] at HC1
  rw [← hS2] at HC2
  clear hS1 hS2 HSt HM1 HM2
  unfold Hd.val at HSm
  dsimp only at HSm
  obtain ⟨x0, x1, x2, -, -, -⟩ := HXW.out.cells
  obtain ⟨y0, y1, y2, -, -, -⟩ := HYW.out.cells
  have v1 := HC1.out W (Below.refl _ _)
  have v2 := HC2.out W (Below.refl _ _)
  have HL1 := Lib.hid HXW.out.lt
  have HL2 := Lib.hid HYW.out.lt
  obtain ⟨z, hz⟩ : ∃ z, Hid (sameT ta tb = z) := ⟨_, Lib.hid rfl⟩
  rw [hz.out] at hSS HSm
  have hbe : (S1.toList == S2.toList) = z := by
    cases z
    · simpa using hSS
    · simpa using hSS
  clear hSS HBy
  go_wp2_with fail
  go_region_held3 (fun w' => w'.cell? ⟨w.heap.size, 0, none⟩ = some (.int .i64 u1) ∧ w'.cell? ⟨w.heap.size, 1, none⟩ = some (.slice A1 n1 cc1) ∧ w'.cell? ⟨w.heap.size, 2, none⟩ = some (.slice KK1 m1 dd1) ∧ w'.cell? ⟨w.heap.size + 1, 0, none⟩ = some (.int .i64 u2) ∧ w'.cell? ⟨w.heap.size + 1, 1, none⟩ = some (.slice A2 n2 cc2) ∧ w'.cell? ⟨w.heap.size + 1, 2, none⟩ = some (.slice KK2 m2 dd2) ∧ (convert 22 9 (.slice Aa na ca)).run Try.prog w' = .ok (.string S1) w' ∧ (convert 22 9 (.slice Ab nb cb)).run Try.prog w' = .ok (.string S2) w')
    (first | exact ⟨x0, x1, x2, y0, y1, y2, HC1.out W.drew ((Below.refl _ _).drew), HC2.out W.drew ((Below.refl _ _).drew)⟩ | exact ⟨x0, x1, x2, y0, y1, y2, v1, v2⟩ | exact HS3.out | exact HS2.out)
    (first
      | (go_at_call 10; (with_reducible refine HAl.out.mono ?_)
         rintro r w10 ⟨rfl, b2⟩
         have HBa : Hid (Below W.heap.size W w10) := bthen (w1 := W.drew) ((Below.refl _ _).drew) b2
         have HS2 : Hid (w10.cell? ⟨w.heap.size, 0, none⟩ = some (.int .i64 u1) ∧ w10.cell? ⟨w.heap.size, 1, none⟩ = some (.slice A1 n1 cc1) ∧ w10.cell? ⟨w.heap.size, 2, none⟩ = some (.slice KK1 m1 dd1) ∧ w10.cell? ⟨w.heap.size + 1, 0, none⟩ = some (.int .i64 u2) ∧ w10.cell? ⟨w.heap.size + 1, 1, none⟩ = some (.slice A2 n2 cc2) ∧ w10.cell? ⟨w.heap.size + 1, 2, none⟩ = some (.slice KK2 m2 dd2) ∧ (convert 22 9 (.slice Aa na ca)).run Try.prog w10 = .ok (.string S1) w10 ∧ (convert 22 9 (.slice Ab nb cb)).run Try.prog w10 = .ok (.string S2) w10) :=
           ⟨(HBa.out.cell (p := ⟨_, _, none⟩) HL1.out).trans x0, (HBa.out.cell (p := ⟨_, _, none⟩) HL1.out).trans x1, (HBa.out.cell (p := ⟨_, _, none⟩) HL1.out).trans x2, (HBa.out.cell (p := ⟨_, _, none⟩) HL2.out).trans y0, (HBa.out.cell (p := ⟨_, _, none⟩) HL2.out).trans y1, (HBa.out.cell (p := ⟨_, _, none⟩) HL2.out).trans y2, HC1.out w10 HBa.out, HC2.out w10 HBa.out⟩
         clear b2)
      | (go_at_call 16; (with_reducible refine (HSm.out _ HBa.out).mono ?_)
         rintro r w11 ⟨rfl, b3⟩
         have HBb : Hid (Below W.heap.size W w11) := bthen HBa.out b3
         have HS3 : Hid (w11.cell? ⟨w.heap.size, 0, none⟩ = some (.int .i64 u1) ∧ w11.cell? ⟨w.heap.size, 1, none⟩ = some (.slice A1 n1 cc1) ∧ w11.cell? ⟨w.heap.size, 2, none⟩ = some (.slice KK1 m1 dd1) ∧ w11.cell? ⟨w.heap.size + 1, 0, none⟩ = some (.int .i64 u2) ∧ w11.cell? ⟨w.heap.size + 1, 1, none⟩ = some (.slice A2 n2 cc2) ∧ w11.cell? ⟨w.heap.size + 1, 2, none⟩ = some (.slice KK2 m2 dd2) ∧ (convert 22 9 (.slice Aa na ca)).run Try.prog w11 = .ok (.string S1) w11 ∧ (convert 22 9 (.slice Ab nb cb)).run Try.prog w11 = .ok (.string S2) w11) :=
           ⟨(HBb.out.cell (p := ⟨_, _, none⟩) HL1.out).trans x0, (HBb.out.cell (p := ⟨_, _, none⟩) HL1.out).trans x1, (HBb.out.cell (p := ⟨_, _, none⟩) HL1.out).trans x2, (HBb.out.cell (p := ⟨_, _, none⟩) HL2.out).trans y0, (HBb.out.cell (p := ⟨_, _, none⟩) HL2.out).trans y1, (HBb.out.cell (p := ⟨_, _, none⟩) HL2.out).trans y2, HC1.out w11 HBb.out, HC2.out w11 HBb.out⟩
         clear b3))
  have HBf := Lib.hid (bthen HBW.out HBb.out)
  go_wp2_with fail
  go_ret
  exact ⟨by cases z <;> rfl, HBf.out⟩
end Go.Proofs.Ytddpgckbdccldaa
