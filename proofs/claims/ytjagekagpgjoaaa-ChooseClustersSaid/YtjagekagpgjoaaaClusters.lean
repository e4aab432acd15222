/- For every two lists of int64 and every int the Go function ChooseClusters returns true and leaves its arguments as they were. No condition. -/
import Derived.Test.YtjagekagpgjoaaaC31
namespace Go.Proofs.Ytjagekagpgjoaaa.chooseClustersP
open Go.ChangeShapes Go.WideShapes Go.ChangeAt Go.RowKit
set_option linter.unusedVariables false
set_option linter.unusedSimpArgs false
set_option maxRecDepth 100000

theorem cls_l1 {w : World} {A1 A2 : Option Addr} {n1 c1 n2 c2 : Nat} {os ds : List Int} (h1 : Ri w w.heap.size A1 n1 os) (h2 : Ri w w.heap.size A2 n2 ds) (y : Int) (k1 : (200 : Int) < (n1 : Int)) : Calls Try.prog 4 #[.slice A1 n1 c1, .slice A2 n2 c2, .int .i64 y] w (Yes w) := by
  clear h1 h2
  have HB2 := Lib.hid (Below.refl w.heap.size w)
  go_enter Try.func4, Try.ntmps4
  go_wp2_with fail
  refine (alive_any _).mono ?_
  rintro e wz ⟨rfl, bz⟩
  have HBz := Lib.hid (bthen HB2.out bz (Nat.le_refl _))
  clear bz
  go_wp2_with fail
  go_ret
  exact ⟨rfl, HBz.out⟩
theorem cls_l2 {w : World} {A1 A2 : Option Addr} {n1 c1 n2 c2 : Nat} {os ds : List Int} (h1 : Ri w w.heap.size A1 n1 os) (h2 : Ri w w.heap.size A2 n2 ds) (y : Int) (k1 : ((200 : Int) < (n1 : Int)) = False) (k2 : (200 : Int) < (n2 : Int)) : Calls Try.prog 4 #[.slice A1 n1 c1, .slice A2 n2 c2, .int .i64 y] w (Yes w) := by
  clear h1 h2
  have HB2 := Lib.hid (Below.refl w.heap.size w)
  go_enter Try.func4, Try.ntmps4
  go_wp2_with fail
  refine (alive_any _).mono ?_
  rintro e wz ⟨rfl, bz⟩
  have HBz := Lib.hid (bthen HB2.out bz (Nat.le_refl _))
  clear bz
  go_wp2_with fail
  go_ret
  exact ⟨rfl, HBz.out⟩
theorem cls_l3 {w : World} {A1 A2 : Option Addr} {n1 c1 n2 c2 : Nat} {os ds : List Int} (h1 : Ri w w.heap.size A1 n1 os) (h2 : Ri w w.heap.size A2 n2 ds) (y : Int) (k1 : ((200 : Int) < (n1 : Int)) = False) (k2 : ((200 : Int) < (n2 : Int)) = False) (k3 : (24 : Int) < (n1 : Int)) (k4 : (n1 : Int) ≤ 64) : Calls Try.prog 4 #[.slice A1 n1 c1, .slice A2 n2 c2, .int .i64 y] w (Yes w) := by
  clear h1 h2
  have HB2 := Lib.hid (Below.refl w.heap.size w)
  go_enter Try.func4, Try.ntmps4
  go_wp2_with fail
  refine (alive_any _).mono ?_
  rintro e wz ⟨rfl, bz⟩
  have HBz := Lib.hid (bthen HB2.out bz (Nat.le_refl _))
  clear bz
  go_wp2_with fail
  go_ret
  exact ⟨rfl, HBz.out⟩
set_option maxHeartbeats 4000000 in
theorem cls_a {w : World} {A1 A2 : Option Addr} {n1 c1 n2 c2 : Nat} {os ds : List Int} (h1 : Ri w w.heap.size A1 n1 os) (h2 : Ri w w.heap.size A2 n2 ds) (y : Int) (k1 : ((200 : Int) < (n1 : Int)) = False) (k2 : ((200 : Int) < (n2 : Int)) = False) (k3 : ((24 : Int) < (n1 : Int)) = False) (m1 : n1 ≤ 9223372036854775807) (m2 : n2 ≤ 9223372036854775807) (L : List Int) (m : Nat) (hm : m ≤ 4611686018427387904) (er : Int)
    (HC : Hid (Calls Try.prog 18 #[.slice A1 n1 c1, .slice A2 n2 c2, .int .i64 y] w fun e w' => (∃ A c, e = .returned (.tuple #[.slice A m c, .int .i64 er]) ∧ Ri w' w'.heap.size A m L) ∧ RowKit.Below w.heap.size w w'))
    (HD : Hid (∀ w', Below w.heap.size w w' → Calls Try.prog 19 #[.slice A1 n1 c1, .slice A2 n2 c2, .int .i64 y] w' fun e w2 => (∃ A c, e = .returned (.tuple #[.slice A m c, .int .i64 er]) ∧ Ri w2 w2.heap.size A m L) ∧ RowKit.Below w'.heap.size w' w2)) : Calls Try.prog 4 #[.slice A1 n1 c1, .slice A2 n2 c2, .int .i64 y] w (Yes w) := by
  have HR1 := Lib.hid h1
  have HR2 := Lib.hid h2
  clear h1 h2
  go_enter Try.func4, Try.ntmps4
  go_wp2_with fail
  refine HC.out.mono ?_
  rintro e w2 ⟨⟨A3, c3, rfl, r3⟩, b2⟩
  have HB2 := Lib.hid b2
  have H3 := Lib.hid r3
  have HD2 := Lib.hid (HD.out w2 b2)
  clear b2 r3
  go_wp2_with fail
  refine HD2.out.mono ?_
  rintro e w3 ⟨⟨A4, c4, rfl, r4⟩, b3⟩
  have HB3 := Lib.hid (bthen HB2.out b3 (Nat.le_refl _))
  have H33 := Lib.hid ((H3.out.below b3 (Nat.le_refl _)).le b3.size)
  have H43 := Lib.hid r4
  clear b3 r4
  have HE := Lib.hid (comb_any (c1 := c1) (c2 := c2) (HR1.out.below HB3.out (Nat.le_refl _)) (HR2.out.below HB3.out (Nat.le_refl _)) m1 m2)
  have HG := Lib.hid (rcomb_any (c1 := c1) (c2 := c2) (HR1.out.below HB3.out (Nat.le_refl _)) (HR2.out.below HB3.out (Nat.le_refl _)))
  obtain ⟨p, hp⟩ : ∃ p, p = (comb os ds).1 := ⟨_, rfl⟩
  obtain ⟨q, hq⟩ : ∃ q, q = (comb os ds).2 := ⟨_, rfl⟩
  rw [← hp, ← hq] at HE HG
  clear hp hq
  go_wp2_with fail
  refine HE.out.mono ?_
  rintro e w4 ⟨rfl, e4⟩
  subst w4
  go_wp2_with fail
  refine HG.out.mono ?_
  rintro e w4 ⟨rfl, e4⟩
  subst w4
  go_wp2_with fail
  refine (alive_any _).mono ?_
  rintro e w5 ⟨rfl, b5⟩
  have HB5 := Lib.hid (bthen HB3.out b5 (Nat.le_refl _))
  have H8 := Lib.hid (ints_same (c1 := c3) (c2 := c4) ((H33.out.below b5 (Nat.le_refl _)).le b5.size) ((H43.out.below b5 (Nat.le_refl _)).le b5.size) hm)
  clear b5
  go_wp2_with fail
  refine H8.out.mono ?_
  rintro e w8 ⟨rfl, k8, rfl⟩
  go_wp2_with fail
  go_ret
  exact ⟨rfl, below_drewN HB5.out _⟩
set_option maxHeartbeats 4000000 in
theorem cls_b {w : World} {A1 A2 : Option Addr} {n1 c1 n2 c2 : Nat} {os ds : List Int} (h1 : Ri w w.heap.size A1 n1 os) (h2 : Ri w w.heap.size A2 n2 ds) (y : Int) (k1 : ((200 : Int) < (n1 : Int)) = False) (k2 : ((200 : Int) < (n2 : Int)) = False) (k3 : (24 : Int) < (n1 : Int)) (k4 : ((n1 : Int) ≤ 64) = False) (m1 : n1 ≤ 9223372036854775807) (m2 : n2 ≤ 9223372036854775807) (L : List Int) (m : Nat) (hm : m ≤ 4611686018427387904) (er : Int)
    (HC : Hid (Calls Try.prog 18 #[.slice A1 n1 c1, .slice A2 n2 c2, .int .i64 y] w fun e w' => (∃ A c, e = .returned (.tuple #[.slice A m c, .int .i64 er]) ∧ Ri w' w'.heap.size A m L) ∧ RowKit.Below w.heap.size w w'))
    (HD : Hid (∀ w', Below w.heap.size w w' → Calls Try.prog 19 #[.slice A1 n1 c1, .slice A2 n2 c2, .int .i64 y] w' fun e w2 => (∃ A c, e = .returned (.tuple #[.slice A m c, .int .i64 er]) ∧ Ri w2 w2.heap.size A m L) ∧ RowKit.Below w'.heap.size w' w2)) : Calls Try.prog 4 #[.slice A1 n1 c1, .slice A2 n2 c2, .int .i64 y] w (Yes w) := by
  have HR1 := Lib.hid h1
  have HR2 := Lib.hid h2
  clear h1 h2
  go_enter Try.func4, Try.ntmps4
  go_wp2_with fail
  refine HC.out.mono ?_
  rintro e w2 ⟨⟨A3, c3, rfl, r3⟩, b2⟩
  have HB2 := Lib.hid b2
  have H3 := Lib.hid r3
  have HD2 := Lib.hid (HD.out w2 b2)
  clear b2 r3
  go_wp2_with fail
  refine HD2.out.mono ?_
  rintro e w3 ⟨⟨A4, c4, rfl, r4⟩, b3⟩
  have HB3 := Lib.hid (bthen HB2.out b3 (Nat.le_refl _))
  have H33 := Lib.hid ((H3.out.below b3 (Nat.le_refl _)).le b3.size)
  have H43 := Lib.hid r4
  clear b3 r4
  have HE := Lib.hid (comb_any (c1 := c1) (c2 := c2) (HR1.out.below HB3.out (Nat.le_refl _)) (HR2.out.below HB3.out (Nat.le_refl _)) m1 m2)
  have HG := Lib.hid (rcomb_any (c1 := c1) (c2 := c2) (HR1.out.below HB3.out (Nat.le_refl _)) (HR2.out.below HB3.out (Nat.le_refl _)))
  obtain ⟨p, hp⟩ : ∃ p, p = (comb os ds).1 := ⟨_, rfl⟩
  obtain ⟨q, hq⟩ : ∃ q, q = (comb os ds).2 := ⟨_, rfl⟩
  rw [← hp, ← hq] at HE HG
  clear hp hq
  go_wp2_with fail
  refine HE.out.mono ?_
  rintro e w4 ⟨rfl, e4⟩
  subst w4
  go_wp2_with fail
  refine HG.out.mono ?_
  rintro e w4 ⟨rfl, e4⟩
  subst w4
  go_wp2_with fail
  refine (alive_any _).mono ?_
  rintro e w5 ⟨rfl, b5⟩
  have HB5 := Lib.hid (bthen HB3.out b5 (Nat.le_refl _))
  have H8 := Lib.hid (ints_same (c1 := c3) (c2 := c4) ((H33.out.below b5 (Nat.le_refl _)).le b5.size) ((H43.out.below b5 (Nat.le_refl _)).le b5.size) hm)
  clear b5
  go_wp2_with fail
  refine H8.out.mono ?_
  rintro e w8 ⟨rfl, k8, rfl⟩
  go_wp2_with fail
  go_ret
  exact ⟨rfl, below_drewN HB5.out _⟩
theorem law_any {w : World} {A1 A2 : Option Addr} {n1 c1 n2 c2 : Nat} {os ds : List Int} (h1 : Ri w w.heap.size A1 n1 os ∧ (∀ z ∈ os, in64 z) ∧ n1 ≤ maxLen) (h2 : Ri w w.heap.size A2 n2 ds ∧ (∀ z ∈ ds, in64 z) ∧ n2 ≤ maxLen) (y : Int) (hx : in64 y) : Calls Try.prog 4 #[.slice A1 n1 c1, .slice A2 n2 c2, .int .i64 y] w (Yes w) := by
  obtain ⟨h1, _, m1⟩ := h1
  obtain ⟨h2, _, m2⟩ := h2
  unfold maxLen at m1 m2
  unfold in64 at hx
  have F : ∀ {p : Prop}, ¬ p → p = False := fun h => by simp only [h]
  by_cases k1 : (200 : Int) < (n1 : Int)
  · exact cls_l1 h1 h2 y k1
  by_cases k2 : (200 : Int) < (n2 : Int)
  · exact cls_l2 h1 h2 y (F k1) k2
  obtain ⟨L, m, hm, er, HC, HD⟩ : ∃ (L : List Int) (m : Nat) (_ : m ≤ 4611686018427387904) (er : Int),
      (Calls Try.prog 18 #[.slice A1 n1 c1, .slice A2 n2 c2, .int .i64 y] w fun e w' => (∃ A c, e = .returned (.tuple #[.slice A m c, .int .i64 er]) ∧ Ri w' w'.heap.size A m L) ∧ RowKit.Below w.heap.size w w') ∧
      (∀ w', Below w.heap.size w w' → Calls Try.prog 19 #[.slice A1 n1 c1, .slice A2 n2 c2, .int .i64 y] w' fun e w2 => (∃ A c, e = .returned (.tuple #[.slice A m c, .int .i64 er]) ∧ Ri w2 w2.heap.size A m L) ∧ RowKit.Below w'.heap.size w' w2) := by
    by_cases hf : Fit os ds ∧ 1 ≤ y
    · have e : n1 = n2 := by rw [← h1.1, ← h2.1]; exact hf.1.1
      subst e
      refine ⟨ints (clus os ds y), (clus os ds y).length, ?_, 0, ?_, fun w' b => ?_⟩
      · have := (clus_len os ds hf.2).2
        have := hf.1.2.1
        omega
      · refine (clus_ok h1 h2 hf.1 y hf.2 (by omega)).mono ?_
        rintro e w2 ⟨⟨g, c, rfl, _, hl⟩, hb⟩
        exact ⟨⟨some ⟨g, 0, none⟩, c, rfl, hl.ri⟩, hb⟩
      · exact rclus_ok ((h1.below b (Nat.le_refl _)).le b.size) ((h2.below b (Nat.le_refl _)).le b.size) hf.1 y hf.2 (by omega)
    · refine ⟨[], 0, by omega, 1, ?_, fun w' b => ?_⟩
      · refine (clus_bad h1 h2 (by omega) (by omega) y hf).mono ?_
        rintro e w2 ⟨rfl, hb⟩
        exact ⟨⟨none, 0, rfl, ⟨rfl, .inl rfl⟩⟩, hb⟩
      · refine (rclus_bad ((h1.below b (Nat.le_refl _)).le b.size) ((h2.below b (Nat.le_refl _)).le b.size) y hf).mono ?_
        rintro e w2 ⟨rfl, e2⟩
        subst e2
        exact ⟨⟨none, 0, rfl, ⟨rfl, .inl rfl⟩⟩, Below.refl _ _⟩
  by_cases k3 : (24 : Int) < (n1 : Int)
  · by_cases k4 : (n1 : Int) ≤ 64
    · exact cls_l3 h1 h2 y (F k1) (F k2) k3 k4
    · exact cls_b h1 h2 y (F k1) (F k2) k3 (F k4) (by omega) (by omega) L m hm er (Lib.hid HC) (Lib.hid HD)
  · exact cls_a h1 h2 y (F k1) (F k2) (F k3) (by omega) (by omega) L m hm er (Lib.hid HC) (Lib.hid HD)

set_option maxRecDepth 100000 in
theorem lifted (os : Os) (started : os.Started) (H : Type) (enc : TypeId × Value → H) :
    ReturnsInHanded {} Try.checked os 4 .any (Rows.chooseClustersSpec.pre6 enc Try.prog Try.f4 Rows.chooseClustersRow.domain false) (Rows.chooseClustersSpec.post enc Try.prog Try.f4 false true false false) := by
  refine returnsInHanded_of_change (C := Try.checked) own started (by kernel_rfl) Try.func4
    (ChangeSpec.witness6 (enc := enc) (C := Try.checked) false ⟨#[], #[.slice none 0 0, .slice none 0 0, .int .i64 0], []⟩ 8 (by kernel_rfl) (by kernel_rfl) (by kernel_rfl) (by kernel_rfl)) ?_
  intro W base args ds gs before hval0 hW hcnd _
  have hval : ∀ (j : Nat) t v, Try.f4.params[j]? = some t → args[j]? = some v → Value.okWide Try.prog W .any base t v := hval0
  have hW' := hW
  obtain ⟨p, q, hA0, hV, rfl, hfz, hnd⟩ := hW
  have hA : DataW.TrodAll enc Try.prog W 0 (fun _ => true) true Try.f4.params.toList args.toList ds p := hA0
  rw [Try.params4] at hA hval
  obtain ⟨v0, vs0, d0, ds0, p0, q0, hargs, rfl, rfl, h0, r0⟩ := trodAll_cons hA
  obtain ⟨v1, vs1, d1, ds1, p1, q1, rfl, rfl, rfl, h1, r1⟩ := trodAll_cons r0
  obtain ⟨v2, vs2, d2, ds2, p2, q2, rfl, rfl, rfl, h2, r2⟩ := trodAll_cons r1
  obtain ⟨rfl, rfl, rfl⟩ := trodAll_nil r2
  obtain rfl : args = #[v0, v1, v2] := by cases args; simp_all
  obtain ⟨rfl, rfl⟩ := trodVars_none hV
  obtain ⟨a0, len0, cap0, rfl⟩ := okWide_slice Try.underlying33 (hval 0 33 v0 rfl rfl)
  have k0 := h0
  have lt0 : ∀ x ∈ p0, x.block < W.heap.size := by obtain ⟨m, hm⟩ := k0; exact DataW.trod_lt m _ _ _ hm
  obtain ⟨E0, w0⟩ := (show ∃ fuel, _ from h0).elim fun fuel hf => nums_open hf
  obtain ⟨a1, len1, cap1, rfl⟩ := okWide_slice Try.underlying33 (hval 1 33 v1 rfl rfl)
  have k1 := h1
  have lt1 : ∀ x ∈ p1, x.block < W.heap.size := by obtain ⟨m, hm⟩ := k1; exact DataW.trod_lt m _ _ _ hm
  obtain ⟨E1, w1⟩ := (show ∃ fuel, _ from h1).elim fun fuel hf => nums_open hf
  obtain ⟨a2, rfl, rfl, rfl, w2⟩ := open_int Try.underlying3 (hval 2 3 v2 rfl rfl) h2
  clear hA0 hval0
  refine (law_any w0 w1 a2 (in64_wf w2)).mono fun e W' ⟨he, bel⟩ => ?_
  subst he
  exact ⟨_, rfl, _, _, _, [], _, [], hW', trodAll_mk1 (shut_bool Try.underlying4 _), (trodAll_cons_mk (Below.trod laidOut (by kernel_rfl) (of_decide_eq_true (by kernel_rfl)) k0 bel lt0) (trodAll_cons_mk (Below.trod laidOut (by kernel_rfl) (of_decide_eq_true (by kernel_rfl)) k1 bel lt1) (trodAll_cons_mk (shut_int Try.underlying3 w2) trodAll_mk0))), rfl, bel.frame _, fun h => by cases h⟩

theorem chooseClusters_holds : Rows.ChooseClustersSaid :=
  OpenClaim.holds_of_wide 4 Try.f4 rfl rfl rfl rfl rfl rfl rfl ⟨rfl, rfl, rfl, rfl, rfl⟩ rfl rfl rfl rfl rfl (by kernel_rfl) Try.func4 (by kernel_rfl)
    (of_decide_eq_true (by kernel_rfl)) (by unfold Func.isWrapper; first | (rw [if_pos (by decide +kernel)]; kernel_rfl) | (rw [if_neg (by decide +kernel)]; exact ⟨rfl, rfl⟩))
    (fun os started H enc _ => lifted os started H enc)
#print axioms chooseClusters_holds
end Go.Proofs.Ytjagekagpgjoaaa.chooseClustersP
