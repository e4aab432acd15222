/- values.isLong, law12.long. law12.known: the key of two known primes. values.Sign of a value that is short, with a key of two primes. values.Check of a value that is short, with the public key. the reference: Join with nothing, Copy. -/
import Derived.Test.YthipdagebijbiaaGreatDoorSg
import Derived.Test.YthipdagebijbiaaGreatDoorDd
import Derived.Test.YthipdagebijbiaaGreatDoorWi
import Derived.Deep.RegionWith
namespace Go.Proofs.YthipdagebijbiaaGreatDoor.Sg
open Go.RowKit
set_option linter.unusedVariables false
set_option linter.unusedSimpArgs false
set_option maxRecDepth 100000
theorem objW_all {w : World} {g ts fs n c n2 c2 : Nat} {A A2 : Option Addr} (h : w.heap[g]? = some (ObjW ts fs A n c A2 n2 c2)) : w.cell? ⟨g, 0, none⟩ = some (.int .u32 (ts : Int)) ∧ w.cell? ⟨g, 1, none⟩ = some (.int .u32 (fs : Int)) ∧ w.cell? ⟨g, 2, none⟩ = some (.slice A n c) ∧ w.cell? ⟨g, 3, none⟩ = some (.slice A2 n2 c2) ∧ w.frozen? ⟨g, 2, none⟩ = false ∧ w.frozen? ⟨g, 3, none⟩ = false := by
  refine ⟨?_, ?_, ?_, ?_, ?_, ?_⟩ <;> simp [World.cell?, World.frozen?, h, ObjW]
theorem boxW (w : World) (ts fs n c n2 c2 : Nat) (A A2 : Option Addr) : ∃ w1, w1 = w.alloc (ObjW ts fs A n c A2 n2 c2) ∧ w1.heap[w.heap.size]? = some (ObjW ts fs A n c A2 n2 c2) ∧ Below w.heap.size w w1 :=
  ⟨_, rfl, World.alloc_heap_new w _, (Below.refl _ _).alloc (Nat.le_refl _) _⟩
theorem isLong_any (ts fs n c n2 c2 : Nat) (A A2 : Option Addr) (w : World) : Calls Tryz.prog 27 #[.agg #[.int .u32 (ts : Int), .int .u32 (fs : Int), .slice A n c, .slice A2 n2 c2]] w fun e w' => e = .returned (.bool (decide ((2048 : Int) < (n : Int)))) ∧ Below w.heap.size w w' := by
  obtain ⟨w1, e1, h1, b1⟩ := boxW w ts fs n c n2 c2 A A2
  obtain ⟨m0, m1, m2, m3, -, -⟩ := objW_all h1
  have HW := Lib.hid e1
  have HB := Lib.hid b1
  clear e1 b1 h1
  go_enter Tryz.func27, Tryz.ntmps27
  go_upto_region 1 with fail
  change Code.wp _ _ _ _ (w.alloc (ObjW ts fs A n c A2 n2 c2))
  rw [← HW.out]
  go_wp2_with fail
  go_ret
  exact ⟨rfl, HB.out⟩
def lg (n n2 : Nat) : Bool := (decide ((300 : Int) < (n : Int)) && decide ((n : Int) ≤ 2048)) || (decide ((3000 : Int) < (n : Int)) || decide ((300 : Int) < (n2 : Int)))
theorem long_any (ts fs n c n2 c2 : Nat) (A A2 : Option Addr) (w : World) : Calls Tryz.prog 5 #[.agg #[.int .u32 (ts : Int), .int .u32 (fs : Int), .slice A n c, .slice A2 n2 c2]] w fun e w' => e = .returned (.bool (lg n n2)) ∧ Below w.heap.size w w' := by
  obtain ⟨w1, e1, h1, b1⟩ := boxW w ts fs n c n2 c2 A A2
  obtain ⟨m0, m1, m2, m3, -, -⟩ := objW_all h1
  have HW := Lib.hid e1
  have HB := Lib.hid b1
  clear e1 b1 h1
  rcases Bool.eq_false_or_eq_true (decide ((300 : Int) < (n : Int))) with q1 | q1 <;>
  rcases Bool.eq_false_or_eq_true (decide ((n : Int) ≤ 2048)) with q2 | q2 <;>
  rcases Bool.eq_false_or_eq_true (decide ((3000 : Int) < (n : Int))) with q3 | q3 <;>
  (go_enter Tryz.func5, Tryz.ntmps5
   go_upto_region 1 with fail
   change Code.wp _ _ _ _ (w.alloc (ObjW ts fs A n c A2 n2 c2))
   rw [← HW.out]
   go_wp2_with fail
   go_ret
   refine ⟨?_, HB.out⟩
   unfold lg
   rw [q1, q2, q3]
   rfl)
end Go.Proofs.YthipdagebijbiaaGreatDoor.Sg
namespace Go.Proofs.YthipdagebijbiaaGreatDoor.Sg
open Go.RowKit
set_option linter.unusedVariables false
set_option linter.unusedSimpArgs false
set_option maxRecDepth 100000
open Go.Proofs.YthipdagebijbiaaGreatDoor
set_option exponentiation.threshold 70000
theorem known12_any (w : World) : Calls Tryz.prog 7 #[] w (MakeIs (2 ^ 127 - 1) (2 ^ 107 - 1) 65537 w) := by
  obtain ⟨w0, e0⟩ : ∃ w0, w0 = w.alloc (.cells #[Value.slice none 0 0, .slice none 0 0, .slice none 0 0] 30) := ⟨_, rfl⟩
  have hx0 : w0.heap[w.heap.size]? = some (.cells #[Value.slice none 0 0, .slice none 0 0, .slice none 0 0] 30 (0, 0)) := e0 ▸ heap_alloc_new w _
  have hs0 : w.heap.size < w0.heap.size := by rw [e0]; simp
  have b0 : Below w.heap.size w w0 := e0 ▸ (Below.refl _ w).alloc (Nat.le_refl _) _
  have HW := Lib.hid e0
  have HX0 := Lib.hid hx0
  clear e0 hx0
  go_enter Tryz.func7, Tryz.ntmps7
  go_upto_region 1 with fail
  rw [← HW.out]
  go_wp2_with fail
  refine (of_any 1 _ rfl (by omega) _).mono ?_
  rintro e wa1 ⟨Aa1, na1, ca1, xa1, rfl, ra1⟩
  have va1 := ra1.is
  have la1 : na1 ≤ 1 := ra1.le (by omega)
  go_wp2_with fail
  refine (shift_any ra1.nt (by omega) (127 : Int) (by omega) (by omega)).mono ?_
  rintro e wa2 ⟨Aa2, na2, ca2, xa2, rfl, ra2⟩
  rw [va1, show shN 1 (127 : Int) = 2 ^ 127 by decide +kernel] at ra2
  have va2 := ra2.is
  have la2 : na2 ≤ 1000 := ra2.le (by rw [base_pow]; exact Nat.pow_lt_pow_right (by omega) (by omega))
  have Hav := Lib.hid va2
  clear va2
  go_wp2_with fail
  refine (of_any 1 _ rfl (by omega) _).mono ?_
  rintro e wa3 ⟨Aa3, na3, ca3, xa3, rfl, ra3⟩
  have va3 := ra3.is
  have Ba3 := Lib.hid (bthen (bthen ra1.bel ra2.bel) ra3.bel)
  have Ra2 := Lib.hid (ra2.nt.up ra3.bel)
  have Ra3 := Lib.hid ra3.nt
  have Va3 := Lib.hid va3
  clear ra1 ra2 ra3 va1 va3
  go_wp2_with fail
  refine (sub_ok Ra2.out Ra3.out (by omega) (by rw [Hav.out, Va3.out]; exact Nat.two_pow_pos 127)).mono ?_
  rintro e wa4 ⟨Aa4, na4, ca4, xa4, rfl, ra4⟩
  rw [Hav.out, Va3.out] at ra4
  have Na := Lib.hid ra4.nt
  have Ia := Lib.hid ra4.is
  have La : na4 ≤ 20 := ra4.le (mers_le rfl (by omega))
  have Ca := Lib.hid (bthen Ba3.out ra4.bel)
  clear ra4
  go_wp2_with fail
  refine (of_any 1 _ rfl (by omega) _).mono ?_
  rintro e wb1 ⟨Ab1, nb1, cb1, xb1, rfl, rb1⟩
  have vb1 := rb1.is
  have lb1 : nb1 ≤ 1 := rb1.le (by omega)
  go_wp2_with fail
  refine (shift_any rb1.nt (by omega) (107 : Int) (by omega) (by omega)).mono ?_
  rintro e wb2 ⟨Ab2, nb2, cb2, xb2, rfl, rb2⟩
  rw [vb1, show shN 1 (107 : Int) = 2 ^ 107 by decide +kernel] at rb2
  have vb2 := rb2.is
  have lb2 : nb2 ≤ 1000 := rb2.le (by rw [base_pow]; exact Nat.pow_lt_pow_right (by omega) (by omega))
  have Hbv := Lib.hid vb2
  clear vb2
  go_wp2_with fail
  refine (of_any 1 _ rfl (by omega) _).mono ?_
  rintro e wb3 ⟨Ab3, nb3, cb3, xb3, rfl, rb3⟩
  have vb3 := rb3.is
  have Bb3 := Lib.hid (bthen (bthen rb1.bel rb2.bel) rb3.bel)
  have Rb2 := Lib.hid (rb2.nt.up rb3.bel)
  have Rb3 := Lib.hid rb3.nt
  have Vb3 := Lib.hid vb3
  clear rb1 rb2 rb3 vb1 vb3
  go_wp2_with fail
  refine (sub_ok Rb2.out Rb3.out (by omega) (by rw [Hbv.out, Vb3.out]; exact Nat.two_pow_pos 107)).mono ?_
  rintro e wb4 ⟨Ab4, nb4, cb4, xb4, rfl, rb4⟩
  rw [Hbv.out, Vb3.out] at rb4
  have Nb := Lib.hid rb4.nt
  have Ib := Lib.hid rb4.is
  have Lb : nb4 ≤ 20 := rb4.le (mers_le rfl (by omega))
  have Cb := Lib.hid (bthen Bb3.out rb4.bel)
  clear rb4
  have Hm := Lib.hid (make_127_107 (Na.out.up Cb.out) Nb.out Ia.out Ib.out La Lb rfl rfl)
  have BB := Lib.hid (bthen b0 (bthen Ca.out Cb.out))
  go_wp2_with fail
  refine Hm.out.mono ?_
  rintro e w3 ⟨K1, k1, t1, y1, K2, k2, t2, y2, K3, k3, t3, y3, d, rfl, N1, v1, b1, N2, v2, b2, N3, v3, b3, ht, hd, hde, bel⟩
  have B3 := bthen (bthen Ca.out Cb.out) bel
  have hx := (B3.block w.heap.size hs0).trans HX0.out
  obtain ⟨q0, q1, q2, q3, q4, q5⟩ := three_cells hx
  have Hhd := Lib.hid hd
  have Hhde := Lib.hid hde
  have V1 := Lib.hid v1
  have V2 := Lib.hid v2
  clear hd hde v1 v2
  go_wp2_with fail
  have hg2 := three_fin (v1 := .slice K1 k1 t1) (v2 := .slice K2 k2 t2) (v3 := .slice K3 k3 t3) hx
  refine bodyPost_ret (v := .tuple #[.agg #[.slice K1 k1 t1, .slice K2 k2 t2, .slice K3 k3 t3], .int .i64 0]) (by rw [results_cell_tmp rfl]; simp [asAddr, run_loadVar_row _ w.heap.size 30 30 _ (0, 0) _ hg2 Tryz.underlying30 rfl (by kernel_rfl)]) rfl ?_
  have B3' := bthen b0 B3
  have hbb := ((B3'.setCell (p := ⟨w.heap.size, 0, none⟩) (by simp) (.slice K1 k1 t1)).setCell (p := ⟨w.heap.size, 1, none⟩) (by simp) (.slice K2 k2 t2)).setCell (p := ⟨w.heap.size, 2, none⟩) (by simp) (.slice K3 k3 t3)
  exact ⟨_, _, _, _, _, _, _, _, _, _, _, _, d, rfl, N1.away3 (B := 0) (N1.not_in hx), V1.out, b1, N2.away3 (B := 0) (N2.not_in hx), V2.out, b2, N3.away3 (B := 0) (N3.not_in hx), v3, b3, ht, Hhd.out, Hhde.out, hbb⟩
end Go.Proofs.YthipdagebijbiaaGreatDoor.Sg
namespace Go.Proofs.YthipdagebijbiaaGreatDoor.Sg
open Go.RowKit
set_option linter.unusedVariables false
set_option linter.unusedSimpArgs false
set_option maxRecDepth 100000
theorem toSh {w : World} {B n c : Nat} {A : Option Addr} {xs : List Nat} (h : Wi.Nb w B A n c xs) : Sh.Nb w B A n c xs := ⟨h.len, h.cap, h.room, h.lim, h.cell⟩
/-- a block's row, in a later world -/
theorem row_up {w w' : World} {g B : Nat} {o : Obj} (h : w.heap[g]? = some o) (b : Below B w w') (hg : g < B) : w'.heap[g]? = some o := (b.block g hg).trans h
theorem key3 {w : World} {g : Nat} {v1 v2 v3 : Value} {t : TypeId} (h : w.heap[g]? = some (.cells #[v1, v2, v3] t (0, 0))) : w.cell? ⟨g, 0, none⟩ = some v1 ∧ w.cell? ⟨g, 1, none⟩ = some v2 ∧ w.cell? ⟨g, 2, none⟩ = some v3 := by
  refine ⟨?_, ?_, ?_⟩ <;> (rw [cell_of_row _ _ _ #[v1, v2, v3] t (0, 0) h]; rfl)
theorem rowlt {w : World} {g : Nat} {o : Obj} (h : w.heap[g]? = some o) : g < w.heap.size := (Array.getElem?_eq_some_iff.1 h).1
theorem nb_set {w : World} {B n c g k : Nat} {A : Option Addr} {xs : List Nat} {v : Value} (h : Wi.Nb w B A n c xs) (hne : ∀ ad, A = some ad → ad.block ≠ g) : Wi.Nb (w.setCell ⟨g, k, none⟩ v) B A n c xs :=
  ⟨h.len, h.cap, h.room, h.lim, fun h0 => by
    obtain ⟨b, off, e, hb, hc⟩ := h.cell h0
    exact ⟨b, off, e, hb, fun j x hx => keep_store (hc j x hx) (hne ⟨b, off, none⟩ e)⟩⟩
theorem n_long {n : Nat} (h : n ≤ 2048) : decide ((2048 : Int) < (n : Int)) = false := by simp; omega

theorem three (w : World) (ts fs n c n2 c2 : Nat) (A A2 : Option Addr) (K1 K2 K3 : Option Addr) (k1 k2 k3 t1 t2 t3 : Nat) : ∃ W, W = (((w.alloc (.cells #[Value.slice K1 k1 t1, .slice K2 k2 t2, .slice K3 k3 t3] 30)).alloc (ObjW ts fs A n c A2 n2 c2)).alloc (ObjW 0 0 none 0 0 none 0 0)) ∧
    W.heap[w.heap.size]? = some (.cells #[Value.slice K1 k1 t1, .slice K2 k2 t2, .slice K3 k3 t3] 30) ∧ W.heap[w.heap.size + 1]? = some (ObjW ts fs A n c A2 n2 c2) ∧ W.heap[w.heap.size + 1 + 1]? = some (ObjW 0 0 none 0 0 none 0 0) ∧ Below w.heap.size w W ∧ W.heap.size = w.heap.size + 3 := by
  refine ⟨_, rfl, ?_, ?_, ?_, (((Below.refl _ _).alloc (Nat.le_refl _) _).alloc (by simp) _).alloc (by simp; omega) _, by simp⟩
  · exact (Below.heap_alloc _ _ _ (by simp; omega)).trans ((Below.heap_alloc _ _ _ (by simp)).trans (World.alloc_heap_new w _))
  · have h := World.alloc_heap_new (w.alloc (.cells #[Value.slice K1 k1 t1, .slice K2 k2 t2, .slice K3 k3 t3] 30)) (ObjW ts fs A n c A2 n2 c2)
    rw [World.size_alloc] at h
    exact (Below.heap_alloc _ _ _ (by simp)).trans h
  · have h := World.alloc_heap_new ((w.alloc (.cells #[Value.slice K1 k1 t1, .slice K2 k2 t2, .slice K3 k3 t3] 30)).alloc (ObjW ts fs A n c A2 n2 c2)) (ObjW 0 0 none 0 0 none 0 0)
    rw [World.size_alloc, World.size_alloc] at h
    exact h
set_option maxHeartbeats 8000000 in
theorem vsign_ok {w : World} (hk : Sh.Ks w) {v : Value} {M d s : Nat} (h : Pr w v M 65537 d) (f1 : M % 2 = 1) (f2 : 16 ≤ bl M) (f3 : bl M ≤ 1024) (f4 : 65537 < M) (hdM : d < M) (hd0 : 0 < d) (hs : (bl M + 7) / 8 = s) (f7 : 27 ≤ s)
    {ts fs n c n2 c2 : Nat} {A A2 : Option Addr} {xs : List Nat} (hts : ts < 4294967296) (hfs : fs < 4294967296) (hx : Wi.Nb w w.heap.size A n c xs) (hn : n ≤ 300) :
    Calls Tryz.prog 8 #[v, .agg #[.int .u32 (ts : Int), .int .u32 (fs : Int), .slice A n c, .slice A2 n2 c2]] w fun e w' => ∃ g A' c', e = .returned (.tuple #[.agg #[.int .u32 (ts : Int), .int .u32 (fs : Int), .slice A' n c', .slice (some ⟨g, 0, none⟩) s s], .int .i64 0]) ∧ Wi.Nb w' w'.heap.size A' n c' xs ∧
      w.heap.size ≤ g ∧ Ob w' g (bts (val 256 (signN s (sgn ts fs xs)).reverse ^ d % M) s) ∧ Below w.heap.size w w' := by
  have HS := Lib.hid (fun (W : World) (kk : Sh.Ks W) (p : Pr W v M 65537 d) {A : Option Addr} {n c : Nat} {ys : List Nat} (hy : Wi.Nb W W.heap.size A n c ys) (hn : n ≤ 1000) => sign_ok kk p f1 f2 f3 (by omega) (by omega) f4 hdM hd0 hs f7 (toSh hy) hn)
  have HP := Lib.hid h
  have HX := Lib.hid hx
  have HK := Lib.hid hk
  obtain ⟨K1, k1, t1, x1, K2, k2, t2, x2, K3, k3, t3, x3, rfl, -⟩ := h.ex
  obtain ⟨W, hW, r0, r1, r2, bW, sW⟩ := three w ts fs n c n2 c2 A A2 K1 K2 K3 k1 k2 k3 t1 t2 t3
  have HW := Lib.hid hW
  have R0 := Lib.hid r0
  have R1 := Lib.hid r1
  have R2 := Lib.hid r2
  have BW := Lib.hid bW
  have SW := Lib.hid sW
  obtain ⟨q0, q1, q2⟩ := key3 r0
  obtain ⟨m0, m1, m2, m3, -, -⟩ := objW_all r1
  have hd : decide ((2048 : Int) < (n : Int)) = false := n_long (by omega)
  clear hW r0 r1 r2 bW sW hx hk f1 f2 f3 f4 hdM hd0 hs
  go_enter Tryz.func8, Tryz.ntmps8
  go_upto_region 1 with fail
  change Code.wp _ _ _ _ (((w.alloc (.cells #[Value.slice K1 k1 t1, .slice K2 k2 t2, .slice K3 k3 t3] 30)).alloc (ObjW ts fs A n c A2 n2 c2)).alloc (ObjW 0 0 none 0 0 none 0 0))
  rw [← HW.out]
  go_wp2_with fail
  refine (isLong_any ts fs n c n2 c2 A A2 W).mono ?_
  rintro e w3 ⟨rfl, b3⟩
  have B3 := Lib.hid (bthen BW.out b3)
  have S3 := Lib.hid (row_up R0.out b3 (rowlt R0.out))
  have T3 := Lib.hid (row_up R1.out b3 (rowlt R1.out))
  have U3 := Lib.hid (row_up R2.out b3 (rowlt R2.out))
  clear q0 q1 q2 m0 m1 m2 m3 b3
  obtain ⟨q0, q1, q2⟩ := key3 S3.out
  obtain ⟨m0, m1, m2, m3, -, -⟩ := objW_all T3.out
  go_upto_region 3 with fail
  clear q0 q1 q2 m0 m1 m2 m3
  have bD : Below w3.heap.size w3 w3.drew := (Below.refl _ _).drew
  have B3d := Lib.hid (bthen B3.out bD)
  have S3d := Lib.hid (row_up S3.out bD (rowlt S3.out))
  have T3d := Lib.hid (row_up T3.out bD (rowlt T3.out))
  obtain ⟨z0, z1, z2⟩ := key3 S3d.out
  obtain ⟨u0, u1, u2, u3, -, -⟩ := objW_all T3d.out
  have X3d := Lib.hid (HX.out.far B3d.out)
  clear bD
  go_region_held3 (fun w' => w'.cell? ⟨w.heap.size, 0, none⟩ = some (Value.slice K1 k1 t1) ∧ w'.cell? ⟨w.heap.size, 1, none⟩ = some (Value.slice K2 k2 t2) ∧ w'.cell? ⟨w.heap.size, 2, none⟩ = some (Value.slice K3 k3 t3) ∧ w'.cell? ⟨w.heap.size + 1, 0, none⟩ = some (.int .u32 (ts : Int)) ∧ w'.cell? ⟨w.heap.size + 1, 1, none⟩ = some (.int .u32 (fs : Int)) ∧ w'.cell? ⟨w.heap.size + 1, 2, none⟩ = some (.slice A n c) ∧ w'.cell? ⟨w.heap.size + 1, 3, none⟩ = some (.slice A2 n2 c2))
    (first | exact ⟨o0, o1, o2, y0, y1, y2, y3⟩ | exact ⟨p0, p1, p2, j0, j1, j2, j3⟩ | exact ⟨z0, z1, z2, u0, u1, u2, u3⟩)
    ((first
      | (go_at_call 13; refine (signed_any hts hfs X3d.out (by omega)).mono ?_; rintro e w4 ⟨A4, c4, rfl, hN4, b4⟩
         have B4 := Lib.hid (bthen B3d.out b4)
         have S4 := Lib.hid (row_up S3d.out b4 (rowlt S3d.out))
         have T4 := Lib.hid (row_up T3d.out b4 (rowlt T3d.out))
         have U4 := Lib.hid (row_up (show w3.drew.heap[w.heap.size + 1 + 1]? = _ from U3.out) b4 (rowlt U3.out))
         have N4 := Lib.hid hN4
         obtain ⟨p0, p1, p2⟩ := key3 S4.out
         obtain ⟨j0, j1, j2, j3, -, -⟩ := objW_all T4.out
         have K4 := Lib.hid (HK.out.bel B4.out)
         have P4 := Lib.hid (HP.out.up B4.out)
         clear hN4 b4)
      | (go_at_call 28; refine (HS.out w4 K4.out P4.out N4.out (by omega)).mono ?_; rintro e w5 ⟨g, rfl, hg, ho, b5⟩
         have B5 := Lib.hid (bthen B4.out b5)
         have S5 := Lib.hid (row_up S4.out b5 (rowlt S4.out))
         have T5 := Lib.hid (row_up T4.out b5 (rowlt T4.out))
         have U5 := Lib.hid (row_up U4.out b5 (rowlt U4.out))
         have HO := Lib.hid ho
         have HG := Lib.hid (show w.heap.size + 3 ≤ g from Nat.le_trans (by have := SW.out; have := rowlt U4.out; omega) hg)
         obtain ⟨o0, o1, o2⟩ := key3 S5.out
         obtain ⟨y0, y1, y2, y3, -, -⟩ := objW_all T5.out
         clear hg ho b5)))
  clear z0 z1 z2 u0 u1 u2 u3 p0 p1 p2 j0 j1 j2 j3 o0 o1 o2 y0 y1 y2 y3
  obtain ⟨m0, m1, m2, m3, -, -⟩ := objW_all T5.out
  have X5 := Lib.hid (HX.out.far B5.out)
  go_wp2_with fail
  refine (Wi.clone_any X5.out (Nat.le_refl _) (by omega)).mono ?_
  rintro e w6 ⟨A6, c6, rfl, hN6, hA6, b6⟩
  have B6 := Lib.hid (bthen B5.out b6)
  have T6 := Lib.hid (row_up T5.out b6 (rowlt T5.out))
  have U6 := Lib.hid (row_up U5.out b6 (rowlt U5.out))
  have O6 := Lib.hid (HO.out.below b6 HO.out.lt)
  have N6 := Lib.hid hN6
  have A6h := Lib.hid hA6
  clear m0 m1 m2 m3 b6 hN6 hA6
  obtain ⟨m0, m1, m2, m3, m4, m5⟩ := objW_all T6.out
  go_upto_region 7 with fail
  obtain ⟨U, hU⟩ : ∃ U, U = (w6.setCell ⟨w.heap.size + 1, 2, none⟩ (.slice A6 n c6)).setCell ⟨w.heap.size + 1, 3, none⟩ (.slice (some ⟨g, 0, none⟩) s s) := ⟨_, rfl⟩
  have rU : U.heap[w.heap.size + 1]? = some (ObjW ts fs A6 n c6 (some ⟨g, 0, none⟩) s s) := by
    have h := T6.out
    unfold ObjW at h
    rw [hU]
    simp [World.setCell, Array.getElem?_modify, h, ObjW]
  have rV : U.heap[w.heap.size + 1 + 1]? = some (ObjW 0 0 none 0 0 none 0 0) := by
    rw [hU]
    simp [World.setCell, Array.getElem?_modify, U6.out]
  have hf : ∀ ad, A6 = some ad → ad.block ≠ w.heap.size + 1 := fun ad e => by
    have := A6h.out ad e
    have := rowlt U5.out
    omega
  have nU : Wi.Nb U U.heap.size A6 n c6 xs := by
    have h := nb_set (k := 3) (v := .slice (some ⟨g, 0, none⟩) s s) (nb_set (k := 2) (v := .slice A6 n c6) N6.out hf) hf
    rw [← hU] at h
    exact h.more (by rw [hU]; simp)
  have oU : Ob U g (bts (val 256 (signN s (sgn ts fs xs)).reverse ^ d % M) s) := by
    have h := O6.out
    have hg := HG.out
    unfold Ob at h ⊢
    rw [hU]
    simp [World.setCell, Array.getElem?_modify, h, show w.heap.size + 1 ≠ g by omega]
  have bU : Below w.heap.size w U := by
    rw [hU]
    exact (B6.out.setCell (by simp) _).setCell (by simp) _
  rw [← hU]
  clear hU m0 m1 m2 m3 m4 m5 hf
  have RV := Lib.hid rV
  have NU := Lib.hid nU
  have OU := Lib.hid oU
  have BU := Lib.hid bU
  obtain ⟨m0, m1, m2, m3, -, -⟩ := objW_all rU
  obtain ⟨n0, n1, n2', n3, f2, f3⟩ := objW_all rV
  have f0 : U.frozen? ⟨w.heap.size + 1 + 1, 0, none⟩ = false := by simp [World.frozen?, rV, ObjW]
  have f1 : U.frozen? ⟨w.heap.size + 1 + 1, 1, none⟩ = false := by simp [World.frozen?, rV, ObjW]
  clear rU rV nU oU bU
  go_wp2_with fail
  obtain ⟨F, hF⟩ : ∃ F, F = (((U.setCell ⟨w.heap.size + 1 + 1, 0, none⟩ (.int .u32 (ts : Int))).setCell ⟨w.heap.size + 1 + 1, 1, none⟩ (.int .u32 (fs : Int))).setCell ⟨w.heap.size + 1 + 1, 2, none⟩ (.slice A6 n c6)).setCell ⟨w.heap.size + 1 + 1, 3, none⟩ (.slice (some ⟨g, 0, none⟩) s s) := ⟨_, rfl⟩
  have rF : F.heap[w.heap.size + 1 + 1]? = some (.cells #[.int .u32 (ts : Int), .int .u32 (fs : Int), .slice A6 n c6, .slice (some ⟨g, 0, none⟩) s s] 25 (0, 0)) := by
    have h := RV.out
    unfold ObjW at h
    rw [hF]
    simp [World.setCell, Array.getElem?_modify, h]
  have hf : ∀ ad, A6 = some ad → ad.block ≠ w.heap.size + 1 + 1 := fun ad e => by
    have := A6h.out ad e
    have := rowlt U5.out
    omega
  have nF : Wi.Nb F F.heap.size A6 n c6 xs := by
    have h := nb_set (k := 3) (v := .slice (some ⟨g, 0, none⟩) s s) (nb_set (k := 2) (v := .slice A6 n c6) (nb_set (k := 1) (v := .int .u32 (fs : Int)) (nb_set (k := 0) (v := .int .u32 (ts : Int)) NU.out hf) hf) hf) hf
    rw [← hF] at h
    exact h.more (by rw [hF]; simp)
  have oF : Ob F g (bts (val 256 (signN s (sgn ts fs xs)).reverse ^ d % M) s) := by
    have h := OU.out
    have hg := HG.out
    unfold Ob at h ⊢
    rw [hF]
    simp [World.setCell, Array.getElem?_modify, h, show w.heap.size + 1 + 1 ≠ g by omega]
  have bF : Below w.heap.size w F := by
    rw [hF]
    exact (((BU.out.setCell (by simp; omega) _).setCell (by simp; omega) _).setCell (by simp; omega) _).setCell (by simp; omega) _
  rw [← hF]
  refine bodyPost_ret (v := .tuple #[.agg #[.int .u32 (ts : Int), .int .u32 (fs : Int), .slice A6 n c6, .slice (some ⟨g, 0, none⟩) s s], .int .i64 0]) (by rw [results_cell_tmp rfl]; simp [asAddr, run_loadVar_row _ (w.heap.size + 1 + 1) 25 25 _ (0, 0) _ rF Tryz.underlying25 rfl (by kernel_rfl)]) rfl ?_
  exact ⟨g, A6, c6, rfl, nF, by have := HG.out; omega, oF, bF⟩
end Go.Proofs.YthipdagebijbiaaGreatDoor.Sg
namespace Go.Proofs.YthipdagebijbiaaGreatDoor.Sg
open Go.RowKit
set_option linter.unusedVariables false
set_option linter.unusedSimpArgs false
set_option maxRecDepth 100000
theorem two (w : World) (ts fs n c n2 c2 : Nat) (A A2 : Option Addr) (K1 K2 K3 : Option Addr) (k1 k2 k3 t1 t2 t3 : Nat) : ∃ W, W = ((w.alloc (.cells #[Value.slice K1 k1 t1, .slice K2 k2 t2, .slice K3 k3 t3] 30)).alloc (ObjW ts fs A n c A2 n2 c2)) ∧
    W.heap[w.heap.size]? = some (.cells #[Value.slice K1 k1 t1, .slice K2 k2 t2, .slice K3 k3 t3] 30) ∧ W.heap[w.heap.size + 1]? = some (ObjW ts fs A n c A2 n2 c2) ∧ Below w.heap.size w W := by
  refine ⟨_, rfl, ?_, ?_, ((Below.refl _ _).alloc (Nat.le_refl _) _).alloc (by simp) _⟩
  · exact (Below.heap_alloc _ _ _ (by simp)).trans (World.alloc_heap_new w _)
  · have h := World.alloc_heap_new (w.alloc (.cells #[Value.slice K1 k1 t1, .slice K2 k2 t2, .slice K3 k3 t3] 30)) (ObjW ts fs A n c A2 n2 c2)
    rw [World.size_alloc] at h
    exact h
def chk (b : Bool) : Int := if b then 0 else 81
set_option maxHeartbeats 8000000 in
theorem vcheck_any {w : World} (hk : Sh.Ks w) {v : Value} {M s : Nat} (h : Pr w v M 65537 0) (f1 : M % 2 = 1) (f2 : 16 ≤ bl M) (f3 : bl M ≤ 1024) (f4 : 65537 < M) (hs : (bl M + 7) / 8 = s) (f7 : 27 ≤ s)
    {ts fs n c c2 : Nat} {A A2 : Option Addr} {xs bs : List Nat} (hts : ts < 4294967296) (hfs : fs < 4294967296) (hx : Wi.Nb w w.heap.size A n c xs) (hn : n ≤ 300) (hb : Nb w w.heap.size A2 s c2 bs) :
    Calls Tryz.prog 9 #[v, .agg #[.int .u32 (ts : Int), .int .u32 (fs : Int), .slice A n c, .slice A2 s c2]] w fun e w' => e = .returned (.int .i64 (chk (verB M s (sgn ts fs xs) bs))) ∧ Below w.heap.size w w' := by
  have HS := Lib.hid (fun (W : World) (kk : Sh.Ks W) (p : Pr W v M 65537 0) {A : Option Addr} {n c : Nat} {ys : List Nat} (hy : Wi.Nb W W.heap.size A n c ys) (hn : n ≤ 1000) (hb : Nb W W.heap.size A2 s c2 bs) => show Calls Tryz.prog 30 #[v, .slice A n c, .slice A2 s c2] W fun e w' => e = .returned (.bool (verB M s ys bs)) ∧ Below W.heap.size W w' from verify_any kk p f1 f2 f3 (by omega) (by omega) f4 (by omega) hs f7 (toSh hy) hn hb)
  have HP := Lib.hid h
  have HX := Lib.hid hx
  have HK := Lib.hid hk
  have HN := Lib.hid hb
  obtain ⟨K1, k1, t1, x1, K2, k2, t2, x2, K3, k3, t3, x3, rfl, -⟩ := h.ex
  obtain ⟨W, hW, r0, r1, bW⟩ := two w ts fs n c s c2 A A2 K1 K2 K3 k1 k2 k3 t1 t2 t3
  have HW := Lib.hid hW
  have R0 := Lib.hid r0
  have R1 := Lib.hid r1
  have BW := Lib.hid bW
  obtain ⟨q0, q1, q2⟩ := key3 r0
  obtain ⟨m0, m1, m2, m3, -, -⟩ := objW_all r1
  have hd : decide ((2048 : Int) < (n : Int)) = false := n_long (by omega)
  obtain ⟨bb, hbb⟩ : ∃ b, verB M s (sgn ts fs xs) bs = b := ⟨_, rfl⟩
  have HBB := Lib.hid hbb
  rw [hbb]
  clear hW r0 r1 bW hx hk f1 f2 f3 f4 hs hbb hb
  go_enter Tryz.func9, Tryz.ntmps9
  go_upto_region 1 with fail
  change Code.wp _ _ _ _ ((w.alloc (.cells #[Value.slice K1 k1 t1, .slice K2 k2 t2, .slice K3 k3 t3] 30)).alloc (ObjW ts fs A n c A2 s c2))
  rw [← HW.out]
  go_wp2_with fail
  refine (isLong_any ts fs n c s c2 A A2 W).mono ?_
  rintro e w3 ⟨rfl, b3⟩
  have B3 := Lib.hid (bthen BW.out b3)
  have S3 := Lib.hid (row_up R0.out b3 (rowlt R0.out))
  have T3 := Lib.hid (row_up R1.out b3 (rowlt R1.out))
  clear q0 q1 q2 m0 m1 m2 m3 b3
  obtain ⟨q0, q1, q2⟩ := key3 S3.out
  obtain ⟨m0, m1, m2, m3, -, -⟩ := objW_all T3.out
  go_upto_region 3 with fail
  clear q0 q1 q2 m0 m1 m2 m3
  have bD : Below w3.heap.size w3 w3.drew := (Below.refl _ _).drew
  have B3d := Lib.hid (bthen B3.out bD)
  have S3d := Lib.hid (row_up S3.out bD (rowlt S3.out))
  have T3d := Lib.hid (row_up T3.out bD (rowlt T3.out))
  obtain ⟨z0, z1, z2⟩ := key3 S3d.out
  obtain ⟨u0, u1, u2, u3, -, -⟩ := objW_all T3d.out
  have X3d := Lib.hid (HX.out.far B3d.out)
  clear bD
  go_region_held3 (fun w' => w'.cell? ⟨w.heap.size, 0, none⟩ = some (Value.slice K1 k1 t1) ∧ w'.cell? ⟨w.heap.size, 1, none⟩ = some (Value.slice K2 k2 t2) ∧ w'.cell? ⟨w.heap.size, 2, none⟩ = some (Value.slice K3 k3 t3) ∧ w'.cell? ⟨w.heap.size + 1, 0, none⟩ = some (.int .u32 (ts : Int)) ∧ w'.cell? ⟨w.heap.size + 1, 1, none⟩ = some (.int .u32 (fs : Int)) ∧ w'.cell? ⟨w.heap.size + 1, 2, none⟩ = some (.slice A n c) ∧ w'.cell? ⟨w.heap.size + 1, 3, none⟩ = some (.slice A2 s c2))
    (first | exact ⟨o0, o1, o2, y0, y1, y2, y3⟩ | exact ⟨p0, p1, p2, j0, j1, j2, j3⟩ | exact ⟨z0, z1, z2, u0, u1, u2, u3⟩)
    ((first
      | (go_at_call 13; refine (signed_any hts hfs X3d.out (by omega)).mono ?_; rintro e w4 ⟨A4, c4, rfl, hN4, b4⟩
         have B4 := Lib.hid (bthen B3d.out b4)
         have S4 := Lib.hid (row_up S3d.out b4 (rowlt S3d.out))
         have T4 := Lib.hid (row_up T3d.out b4 (rowlt T3d.out))
         have N4 := Lib.hid hN4
         obtain ⟨p0, p1, p2⟩ := key3 S4.out
         obtain ⟨j0, j1, j2, j3, -, -⟩ := objW_all T4.out
         have K4 := Lib.hid (HK.out.bel B4.out)
         have P4 := Lib.hid (HP.out.up B4.out)
         have G4 := Lib.hid (HN.out.up B4.out)
         have Q4 := Lib.hid (HS.out w4 K4.out P4.out N4.out (by omega) G4.out)
         rw [HBB.out] at Q4
         clear hN4 b4)
      | (go_at_call 30; refine Q4.out.mono ?_; rintro e w5 ⟨rfl, b5⟩
         have B5 := Lib.hid (bthen B4.out b5)
         have S5 := Lib.hid (row_up S4.out b5 (rowlt S4.out))
         have T5 := Lib.hid (row_up T4.out b5 (rowlt T4.out))
         obtain ⟨o0, o1, o2⟩ := key3 S5.out
         obtain ⟨y0, y1, y2, y3, -, -⟩ := objW_all T5.out
         clear b5)))
  clear z0 z1 z2 u0 u1 u2 u3 p0 p1 p2 j0 j1 j2 j3 o0 o1 o2 y0 y1 y2 y3
  cases bb
  all_goals
    go_wp2_with fail
    go_ret
    exact ⟨rfl, B5.out⟩
theorem public12 {w : World} {v : Value} {M d : Nat} (h : Pr w v M 65537 d) : Calls Tryz.prog 10 #[v] w fun e w' => ∃ v', e = .returned v' ∧ Pr w' v' M 65537 0 ∧ Below w.heap.size w w' := public_any h
end Go.Proofs.YthipdagebijbiaaGreatDoor.Sg
namespace Go.Proofs.YthipdagebijbiaaGreatDoor.Sg
open Go.RowKit
set_option linter.unusedVariables false
set_option linter.unusedSimpArgs false
set_option maxRecDepth 100000
theorem join_nil {w : World} {A : Option Addr} {n c : Nat} {xs : List Nat} (hx : Wi.Nb w w.heap.size A n c xs) (hn : n ≤ 1099511627) :
    Calls Tryz.prog 32 #[.slice A n c, .slice none 0 0] w fun e w' => ∃ A' c', e = .returned (.slice A' n c') ∧ Wi.Nb w' w'.heap.size A' n c' xs ∧ (∀ ad, A' = some ad → w.heap.size ≤ ad.block) ∧ Below w.heap.size w w' := by
  have HX := Lib.hid hx
  have hl : 0 + n ≤ 1099511627776 := by omega
  have hl2 : n + 0 ≤ 1099511627776 := by omega
  clear hx
  go_enter Tryz.func32, Tryz.ntmps32
  go_upto_region 3 with (at_builtin; refine Wi.wpList_app_row_b (w0 := w) _ rfl (.tmp 6) (.tmp 7) rfl rfl (Wi.Gb.nil w w.heap.size) rfl HX.out hl (Below.refl _ _) (Nat.le_refl _) ?_; intro A1 c1 w1 hg1 hb1)
  have hs1 := hb1.size
  simp only [List.nil_append, Nat.zero_add] at hg1 ⊢
  go_upto_region 4 with (at_builtin; refine Wi.wpList_app_row_b (w0 := w) _ rfl (.tmp 9) (.tmp 10) rfl rfl hg1 rfl (Wi.Nb.nil w1 w1.heap.size 0 (by omega) none) hl2 hb1 hs1 ?_; intro A2 c2 w2 hg2 hb2)
  go_wp2_with fail
  go_ret
  simp only [List.append_nil, Nat.add_zero] at hg2 ⊢
  exact ⟨_, _, rfl, hg2.nb HX.out.lim, fun ad e => (hg2.2.lt ad.block (by rw [e]; rfl)).1, hb2⟩
theorem ks4 {w : World} {b o g : Nat} {v a0 a1 a2 a3 : Value} (h : w.cell? ⟨b, o, none⟩ = some v) (hne : b ≠ g) : ((((w.setCell ⟨g, 0, none⟩ a0).setCell ⟨g, 1, none⟩ a1).setCell ⟨g, 2, none⟩ a2).setCell ⟨g, 3, none⟩ a3).cell? ⟨b, o, none⟩ = some v := keep_store (keep_store (keep_store (keep_store h hne) hne) hne) hne
theorem twoV (w : World) (ts fs n c n2 c2 : Nat) (A A2 : Option Addr) : ∃ W, W = ((w.alloc (ObjW ts fs A n c A2 n2 c2)).alloc (ObjW 0 0 none 0 0 none 0 0)) ∧
    W.heap[w.heap.size]? = some (ObjW ts fs A n c A2 n2 c2) ∧ W.heap[w.heap.size + 1]? = some (ObjW 0 0 none 0 0 none 0 0) ∧ Below w.heap.size w W := by
  refine ⟨_, rfl, ?_, ?_, ((Below.refl _ _).alloc (Nat.le_refl _) _).alloc (by simp) _⟩
  · exact (Below.heap_alloc _ _ _ (by simp)).trans (World.alloc_heap_new w _)
  · have h := World.alloc_heap_new (w.alloc (ObjW ts fs A n c A2 n2 c2)) (ObjW 0 0 none 0 0 none 0 0)
    rw [World.size_alloc] at h
    exact h
set_option maxHeartbeats 4000000 in
theorem vcopy_any {w : World} {ts fs n c n2 c2 : Nat} {A A2 : Option Addr} {xs ys : List Nat} (hx : Wi.Nb w w.heap.size A n c xs) (hy : Wi.Nb w w.heap.size A2 n2 c2 ys) (hn : n ≤ 1000) (hn2 : n2 ≤ 1000) :
    Calls Tryz.prog 11 #[.agg #[.int .u32 (ts : Int), .int .u32 (fs : Int), .slice A n c, .slice A2 n2 c2]] w fun e w' => ∃ A' c' A2' c2', e = .returned (.agg #[.int .u32 (ts : Int), .int .u32 (fs : Int), .slice A' n c', .slice A2' n2 c2']) ∧ Wi.Nb w' w'.heap.size A' n c' xs ∧ Below w.heap.size w w' := by
  have HX := Lib.hid hx
  have HY := Lib.hid hy
  obtain ⟨W, hW, r0, r1, bW⟩ := twoV w ts fs n c n2 c2 A A2
  have HW := Lib.hid hW
  have R1 := Lib.hid (show W.drew.heap[w.heap.size + 1]? = _ from r1)
  have R0 := Lib.hid (show W.drew.heap[w.heap.size]? = _ from r0)
  have BW := Lib.hid (show Below w.heap.size w W.drew from bW.drew)
  obtain ⟨m0, m1, m2, m3, -, -⟩ := objW_all R0.out
  have hj1 := join_nil (HX.out.far BW.out) (by omega)
  have J1 := Lib.hid hj1
  clear hW r0 r1 bW hx hy hj1
  go_enter Tryz.func11, Tryz.ntmps11
  go_upto_region 1 with fail
  change Code.wp _ _ _ _ ((w.alloc (ObjW ts fs A n c A2 n2 c2)).alloc (ObjW 0 0 none 0 0 none 0 0))
  rw [← HW.out]
  have hne : w.heap.size ≠ w.heap.size + 1 := by omega
  go_region_held3 (fun w' => w'.cell? ⟨w.heap.size, 0, none⟩ = some (.int .u32 (ts : Int)) ∧ w'.cell? ⟨w.heap.size, 1, none⟩ = some (.int .u32 (fs : Int)) ∧ w'.cell? ⟨w.heap.size, 2, none⟩ = some (.slice A n c) ∧ w'.cell? ⟨w.heap.size, 3, none⟩ = some (.slice A2 n2 c2))
    (first | with_reducible exact ⟨m0, m1, m2, m3⟩ | with_reducible exact ⟨j0, j1, j2, j3⟩ | with_reducible exact ⟨y0, y1, y2, y3⟩ | with_reducible exact ⟨ks4 y0 hne, ks4 y1 hne, ks4 y2 hne, ks4 y3 hne⟩)
    ((first
    | (go_at_call 32; with_reducible refine J1.out.mono ?_; rintro e w4 ⟨A4, c4, rfl, hN4, h4, b4⟩
       have B4 := Lib.hid (bthen BW.out b4)
       have S4 := Lib.hid (row_up R0.out b4 (rowlt R0.out))
       have T4 := Lib.hid (row_up R1.out b4 (rowlt R1.out))
       have N4 := Lib.hid hN4
       have H4 := Lib.hid h4
       have hj2 := join_nil (HY.out.far B4.out) (by omega)
       have J2 := Lib.hid hj2
       obtain ⟨j0, j1, j2, j3, -, -⟩ := objW_all S4.out
       clear hN4 b4 hj2 h4
       skip)
    | (go_at_call 32; with_reducible refine J2.out.mono ?_; rintro e w5 ⟨A5, c5, rfl, hN5, -, b5⟩
       have B5 := Lib.hid (bthen B4.out b5)
       have S5 := Lib.hid (row_up S4.out b5 (rowlt S4.out))
       have T5 := Lib.hid (row_up T4.out b5 (rowlt T4.out))
       have N5 := Lib.hid (N4.out.far b5)
       obtain ⟨y0, y1, y2, y3, -, -⟩ := objW_all S5.out
       obtain ⟨n0, n1, n2', n3, f2, f3⟩ := objW_all T5.out
       have f0 : w5.frozen? ⟨w.heap.size + 1, 0, none⟩ = false := by simp [World.frozen?, T5.out, ObjW]
       have f1 : w5.frozen? ⟨w.heap.size + 1, 1, none⟩ = false := by simp [World.frozen?, T5.out, ObjW]
       clear hN5 b5
       skip)))
  obtain ⟨F, hF⟩ : ∃ F, F = (((w5.setCell ⟨w.heap.size + 1, 0, none⟩ (.int .u32 (ts : Int))).setCell ⟨w.heap.size + 1, 1, none⟩ (.int .u32 (fs : Int))).setCell ⟨w.heap.size + 1, 2, none⟩ (.slice A4 n c4)).setCell ⟨w.heap.size + 1, 3, none⟩ (.slice A5 n2 c5) := ⟨_, rfl⟩
  have rF : F.heap[w.heap.size + 1]? = some (.cells #[.int .u32 (ts : Int), .int .u32 (fs : Int), .slice A4 n c4, .slice A5 n2 c5] 25 (0, 0)) := by
    have h := T5.out
    unfold ObjW at h
    rw [hF]
    simp [World.setCell, Array.getElem?_modify, h]
  have hf : ∀ ad, A4 = some ad → ad.block ≠ w.heap.size + 1 := fun ad e => by
    have := H4.out ad e
    have := rowlt T4.out
    have := rowlt R1.out
    omega
  have nF : Wi.Nb F F.heap.size A4 n c4 xs := by
    have h := nb_set (k := 3) (v := .slice A5 n2 c5) (nb_set (k := 2) (v := .slice A4 n c4) (nb_set (k := 1) (v := .int .u32 (fs : Int)) (nb_set (k := 0) (v := .int .u32 (ts : Int)) N5.out hf) hf) hf) hf
    rw [← hF] at h
    exact h.more (by rw [hF]; simp)
  have bF : Below w.heap.size w F := by
    rw [hF]
    exact (((B5.out.setCell (by simp) _).setCell (by simp) _).setCell (by simp) _).setCell (by simp) _
  rw [← hF]
  go_wp2_with fail
  refine bodyPost_ret (v := .agg #[.int .u32 (ts : Int), .int .u32 (fs : Int), .slice A4 n c4, .slice A5 n2 c5]) (results_cell_row rfl _ _ (w.heap.size + 1) 25 _ (0, 0) _ rfl rF Tryz.underlying25 rfl (by kernel_rfl)) rfl ?_
  exact ⟨A4, c4, A5, c5, rfl, nF, bF⟩
end Go.Proofs.YthipdagebijbiaaGreatDoor.Sg
