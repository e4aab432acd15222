/- der.Read. -/
import Derived.Test.YtddpgckbdccldaaGb
namespace Go.Proofs.Ytddpgckbdccldaa
open Go.RowKit
set_option linter.unusedVariables false
set_option linter.unusedSimpArgs false
set_option maxRecDepth 100000
/-- what Read comes to -/
def readM (bs : List Nat) : Except (Nat × Nat) T :=
  if 65535 < bs.length then .error (0, 2) else
  match valM bs 16 0 0 bs.length with
  | .error f => .error f
  | .ok (t, a', _) => if a' < bs.length then .error (a', 73) else .ok t
def ReadP (bs : List Nat) (w : World) (e : Ending) (w' : World) : Prop :=
  (∃ p q : Nat, readM bs = .error (p, q) ∧ q ≠ 0 ∧ e = .returned (.tuple #[.agg #[.int .i64 0, .slice none 0 0, .slice none 0 0], .agg #[.int .i64 (p : Int), .int .i64 (q : Int)]]) ∧ Below w.heap.size w w') ∨
  (∃ (t : T) (hd : Hd), readM bs = .ok t ∧ e = .returned (.tuple #[hd.val, .agg #[.int .i64 0, .int .i64 0]]) ∧ Below w.heap.size w w' ∧ Tr (msk w' fun b => decide (w.heap.size ≤ b)) w'.heap.size 17 hd t)
structure RS (w W : World) : Prop where
  bl : Below w.heap.size w W
  b2 : Bx W w.heap.size 25 (.int .i64 0) (.slice none 0 0) (.slice none 0 0)
  b3 : B2 W (w.heap.size + 1) 47 (.int .i64 0) (.int .i64 0)
theorem RS.go {w W W' : World} {g : Nat} (H : RS w W) (K : Kp g W W') (hg : w.heap.size + 2 ≤ g) : RS w W' := ⟨K.below H.bl (by omega) H.bl.size, H.b2.kp K (by omega), H.b3.kp K (by omega)⟩
theorem RS.grow {w W W' : World} (H : RS w W) (b : Below W.heap.size W W') : RS w W' := ⟨H.bl.trans (b.mono H.bl.size), H.b2.keep b H.b2.lt, H.b3.keep b H.b3.lt⟩
theorem RS.set {w W : World} (H : RS w W) {b : Nat} (hb : w.heap.size + 2 ≤ b) (o : Nat) (v : Value) : RS w (W.setCell ⟨b, o, none⟩ v) :=
  ⟨H.bl.setCell (p := ⟨b, o, none⟩) (by show w.heap.size ≤ b; omega) v, H.b2.other (by omega) o v, H.b3.other (by omega) o v⟩
theorem RS.fin {w W : World} (H : RS w W) (x y z p q : Value) :
    Below w.heap.size w (out5 W w.heap.size x y z p q) ∧ Bx (out5 W w.heap.size x y z p q) w.heap.size 25 x y z ∧ B2 (out5 W w.heap.size x y z p q) (w.heap.size + 1) 47 p q := by
  obtain ⟨o1, o2, o3⟩ := out5_os W w.heap.size x y z p q
  exact ⟨⟨o1.trans H.bl.os, o2.trans H.bl.tape, o3.trans H.bl.output, by rw [out5_size]; exact H.bl.size, fun b hb => (out5_ne _ _ _ _ _ _ _ b (by omega) (by omega)).trans (H.bl.block b hb)⟩, out5_b6 H.b2 x y z p q, out5_b7 H.b3 x y z p q⟩
theorem RS.find {w W : World} (H : RS w W) (x y z p q : Value) :
    Below w.heap.size w (out5 W w.heap.size x y z p q).drew ∧ Bx (out5 W w.heap.size x y z p q).drew w.heap.size 25 x y z ∧ B2 (out5 W w.heap.size x y z p q).drew (w.heap.size + 1) 47 p q := by
  obtain ⟨h1, h2, h3⟩ := H.fin x y z p q
  exact ⟨h1.drew, h2.dr, h3.dr⟩
set_option maxHeartbeats 8000000 in
theorem derRead_any {w : World} {A : Option Addr} {n c : Nat} {bs : List Nat} (N : Nb w w.heap.size A n c bs) (hn9 : n ≤ 4611686018427387904) : Calls Try.prog 30 #[.slice A n c] w (ReadP bs w) := by
  obtain ⟨w1, hw1⟩ : ∃ w1, w1 = (w.alloc (.cells #[.int .i64 0, .slice none 0 0, .slice none 0 0] 25)).alloc (.cells #[.int .i64 0, .int .i64 0] 47) := ⟨_, rfl⟩
  have hb1 : Below w.heap.size w w1 := by rw [hw1]; exact ((Below.refl _ _).alloc (Nat.le_refl _) _).alloc (by simp) _
  have hz1 : w1.heap.size = w.heap.size + 2 := by rw [hw1]; simp
  have h21 : Bx w1 w.heap.size 25 (.int .i64 0) (.slice none 0 0) (.slice none 0 0) := by
    rw [hw1]; exact (Bx.new w 25 _ _ _).keep ((Below.refl _ _).alloc (Nat.le_refl _) _) (by simp)
  have h31 : B2 w1 (w.heap.size + 1) 47 (.int .i64 0) (.int .i64 0) := by
    rw [hw1]
    have := B2.new (w.alloc (.cells #[.int .i64 0, .slice none 0 0, .slice none 0 0] 25)) 47 (.int .i64 0) (.int .i64 0)
    simpa using this
  have HS1 : Hid (RS w w1) := ⟨hb1, h21, h31⟩
  have HLen := Lib.hid N.len
  have HN1 := Lib.hid (N.below hb1)
  by_cases hbig : 65535 < n
  · have HF := Lib.hid (show readM bs = .error (0, 2) by unfold readM; rw [if_pos (by rw [HLen.out]; exact hbig)])
    have k1 : (65535 : Int) < (n : Int) := by omega
    obtain ⟨s0, s1, s2, s3, s4, s5⟩ := HS1.out.b2.cells
    obtain ⟨t0, t1, t2, t3⟩ := HS1.out.b3.cells
    clear N hb1 h21 h31 hbig
    go_enter Try.func30, Try.ntmps30
    go_upto_region 1 with (fail)
    rw [← hw1]
    clear hw1
    go_wp2_with fail
    have HFn := Lib.hid (HS1.out.fin (.int .i64 0) (.slice none 0 0) (.slice none 0 0) (.int .i64 0) (.int .i64 2))
    unfold out5 at HFn
    refine bodyPost_ret (res_nf rfl rfl rfl HFn.out.2.1 HFn.out.2.2) rfl ?_
    exact .inl ⟨0, 2, HF.out, by omega, rfl, HFn.out.1⟩
  have hn : n ≤ 65535 := by omega
  have k1 : ((65535 : Int) < (n : Int)) = False := by simp; omega
  have hb2 : Below w1.heap.size w1 (w1.alloc (.cells #[.slice A n c, .int .i64 0, .int .i64 0] 69)) := (Below.refl _ _).alloc (Nat.le_refl _) _
  obtain ⟨w2, hw2⟩ : ∃ w2, w2 = w1.alloc (.cells #[.slice A n c, .int .i64 0, .int .i64 0] 69) := ⟨_, rfl⟩
  rw [← hw2] at hb2
  have HS2 := Lib.hid (HS1.out.grow hb2)
  have HR2 : Hid (Rb w2 w1.heap.size A n c 0 0) := by rw [hw2]; exact Bx.new w1 69 _ _ _
  have HN2 := Lib.hid ((HN1.out.more (show w.heap.size ≤ w1.heap.size by omega)).below hb2)
  have HV := Lib.hid (value_all 16 (by omega) HR2.out HN2.out (Nat.zero_le _) (Nat.le_refl n) hn (by omega))
  have HZ1 := Lib.hid hz1
  have HM0 := Lib.hid (show readM bs = match valM bs 16 0 0 n with | .error f => .error f | .ok (t, a', _) => if a' < n then .error (a', 73) else .ok t by unfold readM; rw [if_neg (by rw [HLen.out]; omega), HLen.out])
  clear N hb1 h21 h31 hb2 hbig hz1
  go_enter Try.func30, Try.ntmps30
  go_upto_region 1 with (fail)
  rw [← hw1]
  clear hw1
  go_upto_region 4 with (fail)
  rw [← hw2]
  clear hw2
  go_wp2_with fail
  refine (HV.out).mono ?_
  rintro e w3 (⟨p, q, hd, hm, hq, rfl, k3, a3, h3, r3⟩ | ⟨t, a3, h3, hd, hm, rfl, k3, r3, T3⟩)
  · have HF := Lib.hid (show readM bs = .error (p, q) by rw [HM0.out, hm])
    have HS3 := Lib.hid (HS2.out.go k3 (by rw [HZ1.out]; omega))
    have hb4 : Below w3.heap.size w3 ((w3.alloc (.cells hd.cells 25)).alloc (.cells #[.int .i64 (p : Int), .int .i64 (q : Int)] 47)) := ((Below.refl _ _).alloc (Nat.le_refl _) _).alloc (by simp) _
    obtain ⟨w4, hw4⟩ : ∃ w4, w4 = (w3.alloc (.cells hd.cells 25)).alloc (.cells #[.int .i64 (p : Int), .int .i64 (q : Int)] 47) := ⟨_, rfl⟩
    have hx4 : B2 w4 (w3.heap.size + 1) 47 (.int .i64 (p : Int)) (.int .i64 (q : Int)) := by
      rw [hw4]
      have := B2.new (w3.alloc (.cells hd.cells 25)) 47 (.int .i64 (p : Int)) (.int .i64 (q : Int))
      simpa using this
    rw [← hw4] at hb4
    have HS4 := Lib.hid (HS3.out.grow hb4)
    have HX4 := Lib.hid hx4
    obtain ⟨x0, x1, x2, x3⟩ := hx4.cells
    obtain ⟨s0, s1, s2, s3, s4, s5⟩ := HS4.out.b2.cells
    obtain ⟨t0, t1, t2, t3⟩ := HS4.out.b3.cells
    have kq : ((q : Int) == 0) = false := by simp; omega
    have kq1 : ((q : Int) != 0) = true := by simp; omega
    have kq' : ((q : Int) = 0) = False := by simp; omega
    have HQ := Lib.hid hq
    have HLT3 := Lib.hid HS3.out.b3.lt
    have hne3 : (w.heap.size = w3.heap.size + 1) = False := by have := HLT3.out; simp; omega
    have hne4 : (w3.heap.size + 1 = w.heap.size) = False := by have := HLT3.out; simp; omega
    have hne5 : (w.heap.size + 1 = w3.heap.size + 1) = False := by have := HLT3.out; simp; omega
    have hne6 : (w3.heap.size + 1 = w.heap.size + 1) = False := by have := HLT3.out; simp; omega
    clear hm hq k3 r3 hb4 hx4
    obtain ⟨d1, d2, d3, d4, d5, d6, d7⟩ := hd
    unfold Hd.val Hd.cells at *
    dsimp only at *
    go_upto_region 5 with (fail)
    rw [← hw4]
    clear hw4
    go_wp2_with fail
    go_region
    have HFn := Lib.hid (HS4.out.find (.int .i64 0) (.slice none 0 0) (.slice none 0 0) (.int .i64 (p : Int)) (.int .i64 (q : Int)))
    unfold out5 at HFn
    go_wp2_with fail
    refine bodyPost_ret (res_nf rfl rfl rfl HFn.out.2.1 HFn.out.2.2) rfl ?_
    exact .inl ⟨p, q, HF.out, HQ.out, rfl, HFn.out.1⟩
  · have HM := Lib.hid (show readM bs = if a3 < n then .error (a3, 73) else .ok t by rw [HM0.out, hm])
    have HS3 := Lib.hid (HS2.out.go k3 (by rw [HZ1.out]; omega))
    have hb4 : Below w3.heap.size w3 ((w3.alloc (.cells hd.cells 25)).alloc (.cells #[.int .i64 0, .int .i64 0] 47)) := ((Below.refl _ _).alloc (Nat.le_refl _) _).alloc (by simp) _
    obtain ⟨w4, hw4⟩ : ∃ w4, w4 = (w3.alloc (.cells hd.cells 25)).alloc (.cells #[.int .i64 0, .int .i64 0] 47) := ⟨_, rfl⟩
    have hx4 : B2 w4 (w3.heap.size + 1) 47 (.int .i64 0) (.int .i64 0) := by
      rw [hw4]
      have := B2.new (w3.alloc (.cells hd.cells 25)) 47 (.int .i64 0) (.int .i64 0)
      simpa using this
    have hy4 : Bx w4 w3.heap.size 25 (.int .i64 hd.t) (.slice hd.A hd.n hd.c) (.slice hd.K hd.m hd.d) := by
      rw [hw4]
      exact (Bx.new w3 25 _ _ _).keep (B := w3.heap.size + 1) ((Below.refl _ _).alloc (by simp) _) (by omega)
    rw [← hw4] at hb4
    have HS4 := Lib.hid (HS3.out.grow hb4)
    have HR4 : Hid (Rb w4 w1.heap.size A n c a3 h3) := Bx.keep r3 hb4 r3.lt
    have HX4 := Lib.hid hx4
    obtain ⟨x0, x1, x2, x3⟩ := hx4.cells
    obtain ⟨y0, y1, y2, y3, y4, y5⟩ := hy4.cells
    obtain ⟨r0, r1, r2, -, -, -⟩ := HR4.out.cells
    obtain ⟨s0, s1, s2, s3, s4, s5⟩ := HS4.out.b2.cells
    obtain ⟨t0, t1, t2, t3⟩ := HS4.out.b3.cells
    have HLT3 := Lib.hid HS3.out.b3.lt
    have HT3 := Lib.hid T3
    have HB4 := Lib.hid hb4
    have HLTr := Lib.hid r3.lt
    have hne3 : (w.heap.size = w3.heap.size + 1) = False := by have := HLT3.out; simp; omega
    have hne4 : (w3.heap.size + 1 = w.heap.size) = False := by have := HLT3.out; simp; omega
    have hne5 : (w.heap.size + 1 = w3.heap.size + 1) = False := by have := HLT3.out; simp; omega
    have hne6 : (w3.heap.size + 1 = w.heap.size + 1) = False := by have := HLT3.out; simp; omega
    have hne7 : (w.heap.size = w3.heap.size) = False := by have := HLT3.out; simp; omega
    have hne8 : (w3.heap.size = w.heap.size) = False := by have := HLT3.out; simp; omega
    have hne9 : (w.heap.size + 1 = w3.heap.size) = False := by have := HLT3.out; simp; omega
    have hne10 : (w3.heap.size = w.heap.size + 1) = False := by have := HLT3.out; simp; omega
    clear hm k3 r3 hb4 hx4 hy4 T3
    by_cases hrest : a3 < n
    · have HF := Lib.hid (show readM bs = .error (a3, 73) by rw [HM.out, if_pos hrest])
      have kr : (a3 : Int) < (n : Int) := by omega
      have hx5 := HX4.out.set (.int .i64 (a3 : Int)) (.int .i64 73)
      have HX5 := Lib.hid hx5
      have HS5 := Lib.hid ((HS4.out.set (b := w3.heap.size + 1) (by have := HLT3.out; omega) 0 (.int .i64 (a3 : Int))).set (b := w3.heap.size + 1) (by have := HLT3.out; omega) 1 (.int .i64 73))
      obtain ⟨w5, hw5⟩ : ∃ w5, w5 = (w4.setCell ⟨w3.heap.size + 1, 0, none⟩ (.int .i64 (a3 : Int))).setCell ⟨w3.heap.size + 1, 1, none⟩ (.int .i64 73) := ⟨_, rfl⟩
      rw [← hw5] at HX5 HS5
      clear hx5 hrest
      obtain ⟨d1, d2, d3, d4, d5, d6, d7⟩ := hd
      unfold Hd.val Hd.cells at *
      dsimp only at *
      go_upto_region 5 with (fail)
      rw [← hw4]
      clear hw4
      go_upto_region 7 with (fail)
      rw [← hw5]
      clear hw5 s0 s1 s2 s3 s4 s5 t0 t1 t2 t3 x0 x1 x2 x3
      obtain ⟨x0, x1, x2, x3⟩ := HX5.out.cells
      obtain ⟨s0, s1, s2, s3, s4, s5⟩ := HS5.out.b2.cells
      obtain ⟨t0, t1, t2, t3⟩ := HS5.out.b3.cells
      go_wp2_with fail
      go_region
      have HFn := Lib.hid (HS5.out.find (.int .i64 0) (.slice none 0 0) (.slice none 0 0) (.int .i64 (a3 : Int)) (.int .i64 73))
      unfold out5 at HFn
      go_wp2_with fail
      refine bodyPost_ret (res_nf rfl rfl rfl HFn.out.2.1 HFn.out.2.2) rfl ?_
      exact .inl ⟨a3, 73, HF.out, by omega, rfl, HFn.out.1⟩
    · have HF := Lib.hid (show readM bs = .ok t by rw [HM.out, if_neg hrest])
      have kr : ((a3 : Int) < (n : Int)) = False := by simp; omega
      clear hrest
      have HFn := Lib.hid (HS4.out.fin (.int .i64 hd.t) (.slice hd.A hd.n hd.c) (.slice hd.K hd.m hd.d) (.int .i64 0) (.int .i64 0))
      have HTr : Hid (Tr (msk (out5 w4 w.heap.size (.int .i64 hd.t) (.slice hd.A hd.n hd.c) (.slice hd.K hd.m hd.d) (.int .i64 0) (.int .i64 0)) fun b => decide (w.heap.size ≤ b)) (out5 w4 w.heap.size (.int .i64 hd.t) (.slice hd.A hd.n hd.c) (.slice hd.K hd.m hd.d) (.int .i64 0) (.int .i64 0)).heap.size 17 hd t) := by
        refine HT3.out.move (by rw [out5_size]; exact HB4.out.size) (fun b hb hsb => ?_)
        have h1 : w2.heap.size ≤ b := by simpa using hsb
        have h2 : w.heap.size + 2 ≤ w2.heap.size := by have := HS2.out.b3.lt; omega
        exact ⟨by simp; omega, by rw [out5_ne _ _ _ _ _ _ _ b (by omega) (by omega)]; exact HB4.out.block b hb⟩
      unfold out5 at HFn HTr
      obtain ⟨d1, d2, d3, d4, d5, d6, d7⟩ := hd
      unfold Hd.val Hd.cells at *
      dsimp only at *
      go_upto_region 5 with (fail)
      rw [← hw4]
      clear hw4
      go_wp2_with fail
      refine bodyPost_ret (res_nf rfl rfl rfl HFn.out.2.1 HFn.out.2.2) rfl ?_
      exact .inr ⟨t, ⟨d1, d2, d3, d4, d5, d6, d7⟩, HF.out, rfl, HFn.out.1, HTr.out⟩
end Go.Proofs.Ytddpgckbdccldaa
