/- For any bytes and any number of digits the Go function PkeyDrawn returns true and leaves its arguments as they were. No condition but that the constants of sha are as they are laid at the start. what Draw hands back, as limbs. Draw of more bytes: the same candidates ahead. No program. a drawn pair makes a key. whatever pair is drawn, a key is made of it. Draw of some bytes, and of more behind them. what a drawn key is; Draw of the bytes that were used. -/
import Derived.Test.YtkhlmcknbangfaaDoorPr
import Derived.Test.YtkhlmcknbangfaaDoorQq
import Derived.Test.YtkhlmcknbangfaaDoorFa
import Derived.Test.YtkhlmcknbangfaaDoorTie

namespace Go.Proofs.YtkhlmcknbangfaaDoor
open Go.RowKit
set_option linter.unusedVariables false
set_option linter.unusedSimpArgs false
set_option maxRecDepth 100000
/-- a key of these limbs, how many bytes were used, an error -/
def Out (r : Ending) (W : World) (us er : Int) (x1 x2 x3 : List Nat) : Prop := ∃ A1 n1 c1 A2 n2 c2 A3 n3 c3, r = .returned (.tuple #[.agg #[.slice A1 n1 c1, .slice A2 n2 c2, .slice A3 n3 c3], .int .i64 us, .int .i64 er]) ∧
  Nt W W.heap.size A1 n1 c1 x1 ∧ Nt W W.heap.size A2 n2 c2 x2 ∧ Nt W W.heap.size A3 n3 c3 x3
theorem Out.none (W : World) (us er : Int) : Out (.returned (.tuple #[.agg #[.slice none 0 0, .slice none 0 0, .slice none 0 0], .int .i64 us, .int .i64 er])) W us er [] [] [] :=
  ⟨_, _, _, _, _, _, _, _, _, rfl, nt_nil _ _, nt_nil _ _, nt_nil _ _⟩
theorem DrawIs.spec_of {kb : Nat → Nat → Bool} {C : Nat → Nat} {T e sz : Nat} {w w' : World} {r : Ending} (h : DrawIs kb C T e sz w r w') :
    ∃ us er x1 x2 x3, ∀ {w w' : World} {r : Ending}, DrawIs kb C T e sz w r w' → Out r w' us er x1 x2 x3 := by
  rcases h.1 with ⟨k, hk, h1, h2, v1, v2, v3, us, er, rfl, hkd⟩ | ⟨h1, rfl⟩
  · obtain ⟨A1, n1, c1, x1, A2, n2, c2, x2, A3, n3, c3, x3, M, E, D, rfl, rfl, rfl, a1, a2, a3, a4, a5, a6, t1, t2, t3, kv, hus⟩ := hkd.ex
    refine ⟨us, er, x1, x2, x3, fun g => ?_⟩
    rcases g.1 with ⟨k', hk', g1, g2, u1, u2, u3, us', er', rfl, gkd⟩ | ⟨g1, rfl⟩
    · have e : k' = k := by
        rcases Nat.lt_trichotomy k' k with q | q | q
        · rw [h1 _ q] at g2; cases g2
        · exact q
        · rw [g1 _ q] at h2; cases h2
      subst e
      obtain ⟨B1, m1, d1, y1, B2, m2, d2, y2, B3, m3, d3, y3, M', E', D', rfl, rfl, rfl, b1, b2, b3, b4, b5, b6, s1, s2, s3, kv', hus'⟩ := gkd.ex
      obtain ⟨e1, e2, e3, e4⟩ := kv'.same kv
      subst e1 e2 e3 e4
      have f1 : y1 = x1 := trm_same s1 t1 b1.lim a1.lim (b2.trans a2.symm)
      have f2 : y2 = x2 := trm_same s2 t2 b3.lim a3.lim (b4.trans a4.symm)
      have f3 : y3 = x3 := trm_same s3 t3 b5.lim a5.lim (b6.trans a6.symm)
      subst f1 f2 f3
      rw [hus'.trans hus.symm]
      exact ⟨_, _, _, _, _, _, _, _, _, rfl, b1, b3, b5⟩
    · rw [g1 k hk] at h2; cases h2
  · refine ⟨0, 52, [], [], [], fun g => ?_⟩
    rcases g.1 with ⟨k', hk', g1, g2, _⟩ | ⟨g1, rfl⟩
    · rw [h1 _ hk'] at g2; cases g2
    · exact Out.none _ _ _
end Go.Proofs.YtkhlmcknbangfaaDoor
namespace Go.Proofs.YtkhlmcknbangfaaDoor
open Go.RowKit
set_option linter.unusedVariables false
set_option maxRecDepth 100000
theorem fst_congr {C C' : Nat → Nat} {e : Nat} : ∀ {k : Nat}, (∀ j, j < k → C j = C' j) → fstN C e k = fstN C' e k
  | 0, _ => rfl
  | k + 1, h => by
    have h1 : fstN C e k = fstN C' e k := fst_congr fun j hj => h j (by omega)
    unfold fstN
    rw [h1, h k (by omega)]
theorem ends_congr {C C' : Nat → Nat} {e k : Nat} (h : ∀ j, j ≤ k → C j = C' j) : ends C e k = ends C' e k := by
  unfold ends
  rw [fst_congr fun j hj => h j (Nat.le_of_lt hj), h k (Nat.le_refl k)]
theorem cN_more {bs more : List Nat} {sz d k : Nat} (h : (k + 1) * sz ≤ bs.length) : cN (bs ++ more) sz d k = cN bs sz d k := by
  rw [Nat.add_mul, Nat.one_mul] at h
  unfold cN
  rw [List.drop_append_of_le_length (by omega), List.take_append_of_le_length (by rw [List.length_drop]; omega)]
/-- the first prime is one of the candidates that suit, and another than the second -/
theorem fst_is {C : Nat → Nat} {e : Nat} : ∀ k, fstN C e k = 0 ∨ ∃ j, j < k ∧ fstN C e k = C j ∧ goodN e (C j) = true
  | 0 => .inl rfl
  | k + 1 => by
    have ih := fst_is (C := C) (e := e) k
    unfold fstN
    by_cases hs : skips e (fstN C e k) (C k) = true
    · rw [if_pos hs]
      rcases ih with h | ⟨j, hj, h⟩
      · exact .inl h
      · exact .inr ⟨j, by omega, h⟩
    · rw [if_neg hs]
      by_cases h0 : fstN C e k = 0
      · rw [if_pos h0]
        refine .inr ⟨k, by omega, rfl, ?_⟩
        unfold skips at hs
        cases hg : goodN e (C k) with
        | true => rfl
        | false => rw [hg] at hs; exact absurd rfl hs
      · rw [if_neg h0]
        rcases ih with h | ⟨j, hj, h⟩
        · exact absurd h h0
        · exact .inr ⟨j, by omega, h⟩
/-- with what a key is made -/
theorem ends_good {C : Nat → Nat} {e k : Nat} (h : ends C e k = true) : goodN e (C k) = true ∧ fstN C e k ≠ C k ∧ fstN C e k ≠ 0 ∧ ∃ j, j < k ∧ fstN C e k = C j ∧ goodN e (C j) = true := by
  unfold ends skips at h
  simp only [Bool.and_eq_true, Bool.not_eq_true', Bool.or_eq_false_iff, decide_eq_false_iff_not, Bool.not_eq_false'] at h
  obtain ⟨⟨h1, h2⟩, h3⟩ := h
  refine ⟨by simpa using h1, h2, h3, ?_⟩
  rcases fst_is (C := C) (e := e) k with q | q
  · exact absurd q h3
  · exact q
end Go.Proofs.YtkhlmcknbangfaaDoor
namespace Go.Proofs.YtkhlmcknbangfaaDoor
open Go.RowKit
set_option linter.unusedVariables false
set_option maxRecDepth 100000
theorem mkb_yes {p q e : Nat} (he : e < 18446744073709551616) (b1 : bl p ≤ 512) (b2 : bl q ≤ 512) (p1 : primeN p b12 = true) (p2 : primeN q b12 = true) (hne : ¬ p = q) (e2 : e % 2 = 1) (e3 : 3 ≤ e) (hg : Nat.gcd e ((p - 1) * (q - 1)) = 1) (hr : rightK (p * q) e 0 = true) : MkB true p q e := by
  have hp2 := primeN_two p1
  have hq2 := primeN_two p2
  have hphi : 1 < (p - 1) * (q - 1) := by
    rcases Nat.lt_or_ge 1 (p - 1) with h | h
    · exact Nat.lt_of_lt_of_le h (Nat.le_mul_of_pos_right _ (by omega))
    · exact Nat.lt_of_lt_of_le (show 1 < q - 1 by omega) (Nat.le_mul_of_pos_left _ (by omega))
  have hR := hr
  unfold rightK at hR
  rw [decide_eq_true_iff] at hR
  intro w Ap Aq np cp nq cq xp xq hp hq ep eq lp lq
  exact (make_ok hp hq ep eq lp lq e he b1 b2 p1 p2 hne e2 e3 hg hphi hR.1 hR.2.1 hR.2.2.1 hR.2.2.2.2.2.1).mono fun _ _ => KeyOf.ok
/-- the two highest digits of a candidate are set -/
theorem cN_high (bs : List Nat) {sz d : Nat} (hd : 8 ≤ d) (k : Nat) : 3 * 2 ^ (d - 2) ≤ cN bs sz d k ∧ cN bs sz d k < 2 ^ d ∧ cN bs sz d k % 2 = 1 := by
  obtain ⟨h1, h2, h3⟩ := cand_facts (V := nb ((bs.drop (k * sz)).take sz)) (d := d) (s := 2) (by omega) (by omega)
  refine ⟨?_, h1, h2⟩
  have a := h3 0 (by omega)
  have b := h3 1 (by omega)
  unfold cN
  generalize candV (nb ((bs.drop (k * sz)).take sz)) d 2 = X at *
  obtain ⟨m, rfl⟩ : ∃ m, d = m + 2 := ⟨d - 2, by omega⟩
  rw [show m + 2 - 1 - 0 = m + 1 by omega, Nat.testBit_eq_decide_div_mod_eq, decide_eq_true_iff] at a
  rw [show m + 2 - 1 - 1 = m by omega, Nat.testBit_eq_decide_div_mod_eq, decide_eq_true_iff] at b
  rw [show m + 2 - 2 = m by omega]
  have e1 : X / 2 ^ (m + 1) = X / 2 ^ m / 2 := by rw [Nat.pow_succ, ← Nat.div_div_eq_div_mul]
  rw [e1] at a
  have h5 : 3 ≤ X / 2 ^ m := by
    generalize X / 2 ^ m = Y at a b
    clear h1 h2 h3 e1
    omega
  exact Nat.le_trans (Nat.mul_le_mul_right _ h5) (Nat.div_mul_le_self X (2 ^ m))
/-- and so a product has all its digits -/
theorem pair_bl {p q d : Nat} (hd : 2 ≤ d) (p1 : 3 * 2 ^ (d - 2) ≤ p) (p2 : p < 2 ^ d) (q1 : 3 * 2 ^ (d - 2) ≤ q) (q2 : q < 2 ^ d) : bl (p * q) = 2 * d := by
  obtain ⟨m, rfl⟩ : ∃ m, d = m + 2 := ⟨d - 2, by omega⟩
  rw [show m + 2 - 2 = m by omega] at p1 q1
  have h1 : 9 * (2 ^ m * 2 ^ m) ≤ p * q := by
    have := Nat.mul_le_mul p1 q1
    rw [show 3 * 2 ^ m * (3 * 2 ^ m) = 9 * (2 ^ m * 2 ^ m) by rw [Nat.mul_mul_mul_comm]] at this
    exact this
  have h2 : p * q < 2 ^ (m + 2) * 2 ^ (m + 2) := Nat.mul_lt_mul_of_lt_of_lt p2 q2
  rw [← Nat.pow_add] at h2
  have hpos := Nat.two_pow_pos m
  have h3 : 2 ^ (2 * (m + 2) - 1) ≤ p * q := by
    refine Nat.le_trans ?_ h1
    rw [show 2 * (m + 2) - 1 = m + m + 3 by omega, Nat.pow_add, Nat.pow_add]
    have := Nat.mul_pos hpos hpos
    omega
  have h0 : p * q ≠ 0 := by
    have := Nat.mul_pos hpos hpos
    omega
  unfold bl
  rw [if_neg h0]
  have h5 := (Nat.le_log2 h0).2 h3
  have h6 := (Nat.log2_lt h0).2 (show p * q < 2 ^ (2 * (m + 2)) by rw [show 2 * (m + 2) = m + 2 + (m + 2) by omega]; exact h2)
  omega
end Go.Proofs.YtkhlmcknbangfaaDoor
namespace Go.Proofs.YtkhlmcknbangfaaDoor
open Go.RowKit
set_option linter.unusedVariables false
set_option maxRecDepth 100000
theorem kb_of (e : Nat) (he : e < 18446744073709551616) : ∃ kb : Nat → Nat → Bool, (∀ p q, MkB (kb p q) p q e) ∧ ∀ p q, MkB true p q e → kb p q = true := by
  have h : ∀ p q, ∃ b, MkB b p q e ∧ (MkB true p q e → b = true) := fun p q => by
    by_cases g : MkB true p q e
    · exact ⟨true, @g, fun _ => rfl⟩
    · obtain ⟨b, hb⟩ := make_both p q e he
      exact ⟨b, @hb, fun g' => absurd @g' g⟩
  exact ⟨fun p q => Classical.choose (h p q), fun p q => (Classical.choose_spec (h p q)).1, fun p q => (Classical.choose_spec (h p q)).2⟩
theorem drawn_mkb {bs : List Nat} {sz d k : Nat} (hd : 8 ≤ d) (hd2 : d ≤ 512) (h : ends (cN bs sz d) 3 k = true) : MkB true (fstN (cN bs sz d) 3 k) (cN bs sz d k) 3 := by
  obtain ⟨g1, g2, g3, j, hj, ej, g4⟩ := ends_good h
  rw [ej] at g2 ⊢
  obtain ⟨p1, p2, p3⟩ := cN_high bs (sz := sz) hd j
  obtain ⟨q1, q2, q3⟩ := cN_high bs (sz := sz) hd k
  have bp : bl (cN bs sz d j) = d := cand_bl (by omega) (by omega) (by omega)
  have bq : bl (cN bs sz d k) = d := cand_bl (by omega) (by omega) (by omega)
  have hb := pair_bl (by omega) p1 p2 q1 q2
  generalize cN bs sz d j = p at *
  generalize cN bs sz d k = q at *
  unfold goodN at g1 g4
  rw [Bool.and_eq_true, decide_eq_true_iff] at g1 g4
  have hpow : 2 ^ 6 ≤ 2 ^ (d - 2) := Nat.pow_le_pow_right (by decide) (by omega)
  have hp : 3 ≤ p := by omega
  have hq : 3 ≤ q := by omega
  have hpq : 9 ≤ p * q := Nat.mul_le_mul hp hq
  refine @mkb_yes p q 3 (by decide) (by omega) (by omega) g4.2 g1.2 g2 rfl (Nat.le_refl 3) (Nat.Coprime.mul_right g4.1 g1.1) ?_
  unfold rightK
  rw [decide_eq_true_iff, hb]
  exact ⟨by rw [Nat.mul_mod, p3, q3], by omega, by omega, rfl, by decide, by omega, by omega⟩
end Go.Proofs.YtkhlmcknbangfaaDoor
namespace Go.Proofs.YtkhlmcknbangfaaDoor
open Go.RowKit
set_option linter.unusedVariables false
set_option maxRecDepth 100000
/-- a key of two primes came out -/
theorem Kd.out {W : World} {p q e u : Nat} {v1 v2 v3 : Value} {us er : Int} (h : Kd W true p q e u v1 v2 v3 us er) :
    ∃ x1 x2 x3 D, Out (.returned (.tuple #[.agg #[v1, v2, v3], .int .i64 us, .int .i64 er])) W (u : Int) 0 x1 x2 x3 ∧ val 18446744073709551616 x1 = p * q ∧ val 18446744073709551616 x2 = e ∧ val 18446744073709551616 x3 = D ∧ D < (p - 1) * (q - 1) ∧ e * D % ((p - 1) * (q - 1)) = 1 ∧ Trm x1 ∧ Trm x2 ∧ Trm x3 := by
  obtain ⟨A1, n1, c1, x1, A2, n2, c2, x2, A3, n3, c3, x3, M, E, D, rfl, rfl, rfl, a1, a2, a3, a4, a5, a6, t1, t2, t3, kv, hus⟩ := h.ex
  obtain ⟨k1, k2, k3, k4, k5⟩ := kv.1 rfl
  subst k1 k2 k3
  rw [if_pos rfl] at hus
  subst hus
  exact ⟨x1, x2, x3, D, ⟨_, _, _, _, _, _, _, _, _, rfl, a1, a3, a5⟩, a2, a4, a6, k4, k5, t1, t2, t3⟩
theorem draw_more {kb : Nat → Nat → Bool} {bs more : List Nat} {sz d e : Nat} {w w' W W' : World} {r r2 : Ending} (hsz : 0 < sz) (h1 : DrawIs kb (cN bs sz d) (bs.length / sz) e sz w r w') (h2 : DrawIs kb (cN (bs ++ more) sz d) ((bs ++ more).length / sz) e sz W r2 W')
    (hk1 : ∀ k, ends (cN bs sz d) e k = true → kb (fstN (cN bs sz d) e k) (cN bs sz d k) = true) (hk2 : ∀ k, ends (cN (bs ++ more) sz d) e k = true → kb (fstN (cN (bs ++ more) sz d) e k) (cN (bs ++ more) sz d k) = true) :
    (∃ k us x1 x2 x3 D, ends (cN bs sz d) e k = true ∧ Out r w' us 0 x1 x2 x3 ∧ Out r2 W' us 0 x1 x2 x3 ∧ val 18446744073709551616 x1 = fstN (cN bs sz d) e k * cN bs sz d k ∧ val 18446744073709551616 x2 = e ∧ val 18446744073709551616 x3 = D ∧ D < (fstN (cN bs sz d) e k - 1) * (cN bs sz d k - 1) ∧ e * D % ((fstN (cN bs sz d) e k - 1) * (cN bs sz d k - 1)) = 1 ∧ Trm x1 ∧ Trm x2 ∧ Trm x3) ∨
      (Out r w' 0 52 [] [] [] ∧ (Out r2 W' 0 52 [] [] [] ∨ ∃ us x1 x2 x3, (bs.length : Int) < us ∧ Out r2 W' us 0 x1 x2 x3)) := by
  have hT : ∀ k, k < bs.length / sz → (k + 1) * sz ≤ bs.length := fun k hk => Nat.le_trans (Nat.mul_le_mul_right sz hk) (Nat.div_mul_le_self _ _)
  have hC : ∀ k, k < bs.length / sz → ∀ j, j ≤ k → cN bs sz d j = cN (bs ++ more) sz d j := fun k hk j hj => (cN_more (hT j (by omega))).symm
  have hE : ∀ k, k < bs.length / sz → ends (cN bs sz d) e k = ends (cN (bs ++ more) sz d) e k := fun k hk => ends_congr (hC k hk)
  have hTT : bs.length / sz ≤ (bs ++ more).length / sz := Nat.div_le_div_right (by simp)
  rcases h1.1 with ⟨k, hk, a1, a2, v1, v2, v3, us, er, rfl, hkd⟩ | ⟨a1, rfl⟩
  · rcases h2.1 with ⟨k', hk', b1, b2, u1, u2, u3, us', er', rfl, gkd⟩ | ⟨b1, rfl⟩
    · have ek : k' = k := by
        rcases Nat.lt_trichotomy k' k with q | q | q
        · rw [← hE k' (by omega), a1 _ q] at b2; cases b2
        · exact q
        · have := b1 _ q; rw [← hE k hk, a2] at this; cases this
      subst ek
      have f1 : fstN (cN bs sz d) e k' = fstN (cN (bs ++ more) sz d) e k' := fst_congr fun j hj => hC k' hk j (Nat.le_of_lt hj)
      have f2 := hC k' hk k' (Nat.le_refl _)
      rw [← f1, ← f2] at gkd
      rw [hk1 k' a2] at hkd gkd
      obtain ⟨x1, x2, x3, E, o1, c1, c2, c3, c4, c5, t1, t2, t3⟩ := hkd.out
      obtain ⟨y1, y2, y3, E', o2, d1, d2, d3, d4, d5, s1, s2, s3⟩ := gkd.out
      have hsame := KV.same (b := true) (er := 0) (er' := 0) ⟨fun _ => ⟨rfl, c1, c2, c4, c5⟩, fun h => by cases h⟩ ⟨fun _ => ⟨rfl, d1, d2, d4, d5⟩, fun h => by cases h⟩
      obtain ⟨q1, q2, q3, _⟩ := hsame
      obtain ⟨_, _, _, _, _, _, _, _, _, _, l1, l2, l3⟩ := id o1
      obtain ⟨_, _, _, _, _, _, _, _, _, _, m1, m2, m3⟩ := id o2
      have g1 : y1 = x1 := trm_same s1 t1 m1.lim l1.lim q1.symm
      have g2 : y2 = x2 := trm_same s2 t2 m2.lim l2.lim q2.symm
      have g3 : y3 = x3 := trm_same s3 t3 m3.lim l3.lim (d3.trans (q3.symm.trans c3.symm))
      subst g1 g2 g3
      exact .inl ⟨k', _, y1, y2, y3, E, a2, o1, o2, c1, c2, c3, c4, c5, s1, s2, s3⟩
    · have := b1 k (by omega)
      rw [← hE k hk, a2] at this
      cases this
  · refine .inr ⟨Out.none _ _ _, ?_⟩
    rcases h2.1 with ⟨k', hk', b1, b2, u1, u2, u3, us', er', rfl, gkd⟩ | ⟨b1, rfl⟩
    · have hge : bs.length / sz ≤ k' := Nat.le_of_not_lt fun h => by
        have := a1 k' h
        rw [hE k' h, b2] at this
        cases this
      rw [hk2 k' b2] at gkd
      obtain ⟨y1, y2, y3, E', o2, _⟩ := gkd.out
      refine .inr ⟨_, y1, y2, y3, ?_, o2⟩
      have h5 := Nat.div_add_mod bs.length sz
      have h6 := Nat.mod_lt bs.length hsz
      have h7 := Nat.mul_le_mul_left sz hge
      have h8 : (k' + 1) * sz = sz * k' + sz := by rw [Nat.add_mul, Nat.one_mul, Nat.mul_comm]
      rw [h8]
      omega
    · exact .inl (Out.none _ _ _)
end Go.Proofs.YtkhlmcknbangfaaDoor
namespace Go.Proofs.YtkhlmcknbangfaaDoor
open Go.RowKit
set_option linter.unusedVariables false
set_option linter.unusedSimpArgs false
set_option maxRecDepth 100000
theorem primeN_prm {n : Nat} (h : primeN n b12 = true) (h3 : 3 ≤ n) (ho : n % 2 = 1) (hl : n < 4294967296) : Prm n := by
  unfold primeN at h
  simp only [Bool.and_eq_true, decide_eq_true_eq, Bool.not_eq_true', List.any_eq_false] at h
  exact psp32 (by omega) hl fun b hb => by simpa using h.2 b hb
theorem drawn_back {bs : List Nat} {sz d k E : Nat} (hd : 8 ≤ d) (hd2 : d ≤ 32) (h : ends (cN bs sz d) 3 k = true) (hE : 3 * E % ((fstN (cN bs sz d) 3 k - 1) * (cN bs sz d k - 1)) = 1) :
    (∀ x, x < 9 → (x ^ 3 % (fstN (cN bs sz d) 3 k * cN bs sz d k)) ^ E % (fstN (cN bs sz d) 3 k * cN bs sz d k) = x) ∧ 9 ≤ fstN (cN bs sz d) 3 k * cN bs sz d k ∧ fstN (cN bs sz d) 3 k * cN bs sz d k < 18446744073709551616 := by
  obtain ⟨g1, g2, g3, j, hj, ej, g4⟩ := ends_good h
  rw [ej] at g2 hE ⊢
  obtain ⟨p1, p2, p3⟩ := cN_high bs (sz := sz) hd j
  obtain ⟨q1, q2, q3⟩ := cN_high bs (sz := sz) hd k
  generalize cN bs sz d j = p at *
  generalize cN bs sz d k = q at *
  unfold goodN at g1 g4
  rw [Bool.and_eq_true, decide_eq_true_iff] at g1 g4
  have hpow : 2 ^ 6 ≤ 2 ^ (d - 2) := Nat.pow_le_pow_right (by decide) (by omega)
  have hpow2 : 2 ^ d ≤ 2 ^ 32 := Nat.pow_le_pow_right (by decide) hd2
  have hp : 3 ≤ p := by omega
  have hq : 3 ≤ q := by omega
  have hp5 : p < 4294967296 := by omega
  have hq5 : q < 4294967296 := by omega
  have hpq : 9 ≤ p * q := Nat.mul_le_mul hp hq
  have hpl : p * q < 4294967296 * 4294967296 := Nat.mul_lt_mul_of_lt_of_lt hp5 hq5
  refine ⟨fun x hx => ?_, hpq, by omega⟩
  rw [euler2 (primeN_prm g4.2 hp p3 hp5) (primeN_prm g1.2 hq q3 hq5) g2 hE x]
  exact Nat.mod_eq_of_lt (by omega)
/-- what Draw of these bytes hands back, for the power 3 -/
def Src (kb : Nat → Nat → Bool) (bits : Int) (bs : List Nat) (w : World) (r : Ending) (w' : World) : Prop :=
  ((Int.tmod bits 2 ≠ 0 ∨ bits < 16) ∧ DrawBad w r w') ∨ ((Int.tmod bits 2 = 0 ∧ ¬ bits < 16) ∧ ∃ d sz, bits = ((2 * d : Nat) : Int) ∧ 8 ≤ d ∧ d ≤ 32 ∧ sz = (d + 7) / 8 ∧ DrawIs kb (cN bs sz d) (bs.length / sz) 3 sz w r w')
theorem src_any {kb : Nat → Nat → Bool} (hkb : ∀ p q, MkB (kb p q) p q 3) {bits : Int} (hb : ¬ 64 < bits) {bs : List Nat} {w : World} {A : Option Addr} {n c : Nat} (h : Nb w w.heap.size A n c bs) (hn : n ≤ 100000) :
    Calls Tryd.prog 5 #[.slice A n c, .int .i64 bits, .int .u64 3] w (Src kb bits bs w) := by
  by_cases g : Int.tmod bits 2 ≠ 0 ∨ bits < 16
  · refine (draw_bad (e := 3) bits (by decide) ?_).mono fun _ _ hb => .inl ⟨g, hb⟩
    rcases g with g | g
    · exact .inl g
    · exact .inr (.inl g)
  · have k1 : Int.tmod bits 2 = 0 := Classical.byContradiction fun h => g (.inl h)
    have k2 : ¬ bits < 16 := fun h => g (.inr h)
    have k1' := k1
    rw [Int.tmod_eq_emod_of_nonneg (by omega)] at k1'
    obtain ⟨d, rfl⟩ : ∃ d : Nat, bits = ((2 * d : Nat) : Int) := ⟨(bits / 2).toNat, by omega⟩
    have hd : 8 ≤ d := by omega
    have hd2 : d ≤ 32 := by omega
    obtain ⟨sz, hsz⟩ : ∃ sz, sz = (d + 7) / 8 := ⟨_, rfl⟩
    obtain ⟨q, hq⟩ : ∃ q, q = 8 * sz - d := ⟨_, rfl⟩
    have hlen := h.len
    refine (draw_any (q := q) (sz := sz) (e := 3) h (by omega) hd (by omega) (by omega) (by omega) (by decide) (by decide) kb hkb).mono fun r w' hr => .inr ⟨⟨k1, k2⟩, d, sz, rfl, hd, hd2, hsz, ?_⟩
    rw [hlen]
    exact hr
theorem Src.bel {kb : Nat → Nat → Bool} {bits : Int} {bs : List Nat} {w w' : World} {r : Ending} (h : Src kb bits bs w r w') : Below w.heap.size w w' := by
  rcases h with ⟨_, h⟩ | ⟨_, d, sz, _, _, _, _, h⟩
  · exact h.2
  · exact h.2
theorem Src.out {kb : Nat → Nat → Bool} {bits : Int} {bs : List Nat} {w w' : World} {r : Ending} (h : Src kb bits bs w r w') : ∃ us er x1 x2 x3, Out r w' us er x1 x2 x3 := by
  rcases h with ⟨_, h⟩ | ⟨_, d, sz, _, _, _, _, h⟩
  · rw [h.1]
    exact ⟨_, _, _, _, _, Out.none _ _ _⟩
  · obtain ⟨us, er, x1, x2, x3, hs⟩ := h.spec_of
    exact ⟨us, er, x1, x2, x3, hs h⟩
theorem Out.inj {A1 A2 A3 : Option Addr} {n1 c1 n2 c2 n3 c3 : Nat} {us er us' er' : Int} {W : World} {x1 x2 x3 : List Nat} (h : Out (.returned (.tuple #[.agg #[.slice A1 n1 c1, .slice A2 n2 c2, .slice A3 n3 c3], .int .i64 us, .int .i64 er])) W us' er' x1 x2 x3) :
    us = us' ∧ er = er' ∧ Nt W W.heap.size A1 n1 c1 x1 ∧ Nt W W.heap.size A2 n2 c2 x2 ∧ Nt W W.heap.size A3 n3 c3 x3 := by
  obtain ⟨B1, m1, d1, B2, m2, d2, B3, m3, d3, e, t1, t2, t3⟩ := h
  simp at e
  obtain ⟨⟨⟨rfl, rfl, rfl⟩, ⟨rfl, rfl, rfl⟩, rfl, rfl, rfl⟩, rfl, rfl⟩ := e
  exact ⟨rfl, rfl, t1, t2, t3⟩
theorem Nt.uniq {w : World} {B B' n c : Nat} {A : Option Addr} {xs ys : List Nat} (h : Nt w B A n c xs) (k : Nt w B' A n c ys) : xs = ys := by
  refine List.ext_getElem (h.len.trans k.len.symm) fun j h1 h2 => ?_
  obtain ⟨b, off, rfl, _, hc⟩ := h.cell (by rw [← h.len]; omega)
  obtain ⟨b', off', e, _, kc⟩ := k.cell (by rw [← h.len]; omega)
  cases e
  have e1 := hc j _ (List.getElem?_eq_getElem h1)
  have e2 := kc j _ (List.getElem?_eq_getElem h2)
  rw [e1] at e2
  injection e2 with e3
  injection e3 with _ e4
  exact Int.ofNat.inj e4
theorem Out.uniq {r : Ending} {W : World} {us er us' er' : Int} {x1 x2 x3 y1 y2 y3 : List Nat} (h : Out r W us er x1 x2 x3) (k : Out r W us' er' y1 y2 y3) : us = us' ∧ er = er' ∧ x1 = y1 ∧ x2 = y2 ∧ x3 = y3 := by
  obtain ⟨A1, n1, c1, A2, n2, c2, A3, n3, c3, rfl, t1, t2, t3⟩ := h
  obtain ⟨e1, e2, s1, s2, s3⟩ := k.inj
  exact ⟨e1, e2, t1.uniq s1, t2.uniq s2, t3.uniq s3⟩
/-- the first u bytes -/
theorem nb_pre {w : World} {B n c u : Nat} {A : Option Addr} {xs : List Nat} (h : Nb w B A n c xs) (hu : u ≤ n) : Nb w B A u c (xs.take u) := by
  have hl := h.len
  refine ⟨by rw [List.length_take]; omega, Nat.le_trans hu h.cap, h.room, fun x hx => h.lim x (List.mem_of_mem_take hx), fun h0 => ?_⟩
  obtain ⟨b, off, e, hb, hc⟩ := h.cell (by omega)
  refine ⟨b, off, e, hb, fun j x hj => hc j x ?_⟩
  rcases Nat.lt_or_ge j u with hj2 | hj2
  · rwa [List.getElem?_take, if_pos hj2] at hj
  · rw [List.getElem?_take, if_neg (by omega)] at hj
    cases hj
/-- a right key that gives small numbers back -/
def GivesBk (bits : Int) (x1 x2 x3 : List Nat) : Prop := ∃ M E, val 18446744073709551616 x1 = M ∧ val 18446744073709551616 x2 = 3 ∧ val 18446744073709551616 x3 = E ∧ 9 ≤ M ∧ M < 18446744073709551616 ∧ E < 18446744073709551616 ∧ (∀ x, x < 9 → (x ^ 3 % M) ^ E % M = x) ∧ ((bl M : Nat) : Int) = bits ∧ rightK M 3 E = true ∧ Trm x1 ∧ Trm x2 ∧ Trm x3
theorem src_one {kb : Nat → Nat → Bool} (hk1 : ∀ p q, MkB true p q 3 → kb p q = true) {bits : Int} {bs : List Nat} {w w' : World} {r : Ending} (h : Src kb bits bs w r w') :
    (∃ er, er ≠ 0 ∧ Out r w' 0 er [] [] []) ∨ (∃ u : Nat, ∃ x1 x2 x3, Out r w' (u : Int) 0 x1 x2 x3 ∧ 1 ≤ u ∧ u ≤ bs.length ∧ GivesBk bits x1 x2 x3 ∧ ∀ W r2 W', Src kb bits (bs.take u) W r2 W' → Out r2 W' (u : Int) 0 x1 x2 x3) := by
  rcases h with ⟨g1, a⟩ | ⟨g1, d, sz, rfl, hd, hd2, hsz, a⟩
  · exact .inl ⟨1, by decide, a.1 ▸ Out.none _ _ _⟩
  · have hmk := fun (cs : List Nat) k (hk : ends (cN cs sz d) 3 k = true) => hk1 _ _ (@drawn_mkb _ _ _ _ hd (by omega) hk)
    rcases a.1 with ⟨k, hk, a1, a2, v1, v2, v3, us, er, rfl, hkd⟩ | ⟨a1, rfl⟩
    · rw [hmk bs k a2] at hkd
      obtain ⟨x1, x2, x3, E, o1, c1, c2, c3, c4, c5, t1, t2, t3⟩ := hkd.out
      obtain ⟨q1, q2, q3⟩ := drawn_back hd hd2 a2 c5
      obtain ⟨g1', g2', g3', j, hj, ej, g4'⟩ := ends_good a2
      obtain ⟨p1, p2, p3⟩ := cN_high bs (sz := sz) hd j
      obtain ⟨p4, p5, p6⟩ := cN_high bs (sz := sz) hd k
      have hbl := pair_bl (by omega) p1 p2 p4 p5
      have hodd : fstN (cN bs sz d) 3 k * cN bs sz d k % 2 = 1 := by rw [ej, Nat.mul_mod, p3, p6]
      rw [← ej] at hbl
      have hE2 := Nat.lt_of_lt_of_le c4 (Nat.mul_le_mul (Nat.sub_le (fstN (cN bs sz d) 3 k) 1) (Nat.sub_le (cN bs sz d k) 1))
      have hT : (k + 1) * sz ≤ bs.length := Nat.le_trans (Nat.mul_le_mul_right sz hk) (Nat.div_mul_le_self _ _)
      have hu1 : 1 ≤ (k + 1) * sz := Nat.mul_le_mul (show 1 ≤ k + 1 by omega) (show 1 ≤ sz by omega)
      refine .inr ⟨(k + 1) * sz, x1, x2, x3, o1, hu1, hT, ⟨_, E, c1, c2, c3, q2, q3, Nat.lt_trans hE2 q3, q1, by rw [hbl], ?_, t1, t2, t3⟩, ?_⟩
      · unfold rightK
        rw [decide_eq_true_iff, hbl]
        exact ⟨hodd, by omega, by omega, rfl, by decide, by omega, hE2⟩
      · intro W r2 W' h2
        rcases h2 with ⟨g2, _⟩ | ⟨g2, d', sz', e, _, _, hsz', b⟩
        · rcases g2 with g2 | g2
          · exact absurd g1.1 g2
          · exact absurd g2 g1.2
        · obtain rfl : d' = d := by omega
          obtain rfl : sz' = sz := by rw [hsz, hsz']
          have hlt : (bs.take ((k + 1) * sz')).length = (k + 1) * sz' := by rw [List.length_take]; omega
          rcases draw_more (more := bs.drop ((k + 1) * sz')) (by omega) b (by rw [List.take_append_drop]; exact a) (fun j hj => hmk _ j hj) (fun j hj => hmk _ j hj) with ⟨k', us', y1, y2, y3, E', he, o2, o3, _⟩ | ⟨o2, o3 | ⟨us', y1, y2, y3, hus, o3⟩⟩
          · obtain ⟨e1, e2, rfl, rfl, rfl⟩ := o1.uniq o3
            rw [e1]
            exact o2
          · obtain ⟨_, e2, _⟩ := o1.uniq o3
            cases e2
          · obtain ⟨e1, _⟩ := o1.uniq o3
            rw [hlt] at hus
            omega
    · exact .inl ⟨52, by decide, Out.none _ _ _⟩
end Go.Proofs.YtkhlmcknbangfaaDoor
namespace Go.Proofs.YtkhlmcknbangfaaDoor.pkeyDrawnP
open Go.ChangeShapes Go.WideShapes Go.ChangeAt Go.RowKit
set_option linter.unusedVariables false
set_option maxRecDepth 100000

set_option maxHeartbeats 8000000 in
theorem law_any {w : World} (hk : Sh.Ks w) {A0 : Option Addr} {n0 c0 : Nat} {x0 : List Nat} (h0 : Nb w w.heap.size A0 n0 c0 x0) (bits : Int) (hbits : (Lit.int .i64 bits).wf = true) :
    Calls Tryd.prog 3 #[.slice A0 n0 c0, .int .i64 bits] w (Yes w) := by
  have HA := Lib.hid alive05_any
  clear hbits
  by_cases g0 : 400 < n0
  · have k0 : 400 < (n0 : Int) := by omega
    clear g0 h0
    go_enter Tryd.func3, Tryd.ntmps3
    go_wp2_with fail
    refine (HA.out _).mono ?_
    rintro r w1 ⟨rfl, b1⟩
    go_wp2_with fail
    go_ret
    exact ⟨rfl, b1⟩
  have k0 : (400 < (n0 : Int)) = False := by simp only [eq_iff_iff, iff_false]; omega
  by_cases g1 : 64 < bits
  · clear g0 h0
    go_enter Tryd.func3, Tryd.ntmps3
    go_wp2_with fail
    refine (HA.out _).mono ?_
    rintro r w1 ⟨rfl, b1⟩
    go_wp2_with fail
    go_ret
    exact ⟨rfl, b1⟩
  have k1 : (64 < bits) = False := by simp only [eq_iff_iff, iff_false]; omega
  obtain ⟨kb, hkb, hk1⟩ := kb_of 3 (by decide)
  have HS := Lib.hid (fun (bs : List Nat) (W : World) (A : Option Addr) (n c : Nat) (h : Nb W W.heap.size A n c bs) (hn : n ≤ 100000) => src_any (kb := kb) @hkb g1 h hn)
  have HK1 := Lib.hid hk1
  have H0 := Lib.hid h0
  have Hn0 := Lib.hid (show n0 ≤ 400 by omega)
  clear h0 g0 g1 hkb hk1
  go_enter Tryd.func3, Tryd.ntmps3
  go_wp2_with fail
  refine (HS.out x0 w _ _ _ H0.out (by have := Hn0.out; omega)).mono ?_
  rintro r w2 s1
  have b2 := s1.bel
  obtain ⟨us, er, y1, y2, y3, A1, m1, e1, A2, m2, e2, A3, m3, e3, rfl, _, _, _⟩ := s1.out
  have hf := src_one HK1.out s1
  clear s1
  obtain ⟨w3, q3⟩ : ∃ w3, w3 = w2.alloc (.cells #[Value.slice A1 m1 e1, .slice A2 m2 e2, .slice A3 m3 e3] 26) := ⟨_, rfl⟩
  obtain ⟨hx3, b3⟩ := box_new q3
  have B3 := bthen b2 b3
  have HB3 := Lib.hid B3
  clear B3 b2 k0 k1
  rcases hf with ⟨er', hne, o1⟩ | ⟨u, z1, z2, z3, o1, hu1, hu2, hG, h2⟩
  · obtain ⟨rfl, rfl, t1, _, _⟩ := o1.inj
    obtain rfl : m1 = 0 := t1.len.symm
    have hne' : (er = 0) = False := by simpa using hne
    have hne2 : (er == 0) = false := by simpa using hne
    clear hne o1 t1
    go_wp2_with fail
    rw [← q3]
    clear q3
    refine (HA.out _).mono ?_
    rintro r w4 ⟨rfl, b4⟩
    have X := hx3.up b4
    have xx0 := X.c0
    have HB4 := Lib.hid (bthen HB3.out b4)
    clear b4 b3
    go_wp2_with fail
    go_ret
    exact ⟨rfl, HB4.out⟩
  · obtain ⟨rfl, rfl, t1, t2, t3⟩ := o1.inj
    obtain ⟨M, E, v1, v2, v3, hM9, hM, hEl, hback, hbl, hR, r1, r2, r3⟩ := hG
    have l1 : m1 ≤ 1 := by rw [← t1.len]; exact length_of_val (β := 18446744073709551616) (by omega) r1 (by rw [v1]; omega)
    have l2 : m2 ≤ 1 := by rw [← t2.len]; exact length_of_val (β := 18446744073709551616) (by omega) r2 (by rw [v2]; omega)
    have l3 : m3 ≤ 1 := by rw [← t3.len]; exact length_of_val (β := 18446744073709551616) (by omega) r3 (by rw [v3]; omega)
    have T1 := Lib.hid (t1.up b3)
    have T2 := Lib.hid (t2.up b3)
    have T3 := Lib.hid (t3.up b3)
    have HP : Hid (Pr w3 (.agg #[.slice A1 m1 e1, .slice A2 m2 e2, .slice A3 m3 e3]) M 3 E) := ⟨_, _, _, _, _, _, _, _, _, _, _, _, rfl, T1.out, v1, by omega, T2.out, v2, by omega, T3.out, v3, by omega⟩
    have HKR := Lib.hid (kright_ok HP.out hR)
    have hbits := bits_any T1.out (by omega)
    rw [v1, hbl] at hbits
    have HBI := Lib.hid hbits
    have Hback := Lib.hid hback
    have HV1 := Lib.hid v1
    have HV2 := Lib.hid v2
    have HV3 := Lib.hid v3
    have hx0 := hx3.c0
    have hx1 := hx3.c1
    have hx2 := hx3.c2
    have HX3 := Lib.hid hx3
    have H2 := Lib.hid h2
    have Hu2 := Lib.hid hu2
    have Hlen := H0.out.len
    have hun : u ≤ n0 := by omega
    have Hun := Lib.hid hun
    have g1 : ((u : Int) < 1) = False := by simp only [eq_iff_iff, iff_false]; omega
    have g2 : ((n0 : Int) < (u : Int)) = False := by simp only [eq_iff_iff, iff_false]; omega
    have Hcap := Lib.hid H0.out.cap
    clear o1 t1 t2 t3 r1 r2 r3 b3 hback v1 v2 v3 hk hx3 HP hR hbits hu2 h2 Hlen hun hbl
    go_wp2_with fail
    rw [← q3]
    clear q3
    refine HBI.out.mono ?_
    rintro r w4 ⟨rfl, rfl⟩
    go_wp2_with fail
    refine HKR.out.mono ?_
    rintro r w5 ⟨rfl, b5⟩
    have HX5 := Lib.hid (HX3.out.up b5)
    have P1 := Lib.hid (T1.out.up b5)
    have P2 := Lib.hid (T2.out.up b5)
    have P3 := Lib.hid (T3.out.up b5)
    have HB5 := Lib.hid (bthen HB3.out b5)
    clear b5 hx0 hx1 hx2 HKR HBI g1 g2
    go_wp2_with fail
    go_loopw [8] (fun v wr => ∃ k : Nat, k ≤ 6 ∧ v = .int .u64 (k : Int) ∧ Below w5.heap.size w5 wr) (fun v _ => 6 - (intOf v).toNat)
    case atStart => exact ⟨2, by omega, rfl, Below.refl _ _⟩
    case round =>
      obtain ⟨k, hk9, rfl, hb⟩ := hrel
      have HBr := Lib.hid hb
      have hzr := HX5.out.up hb
      by_cases hlt : k < 6
      · have hd : decide ((k : Int) < 6) = true := by simp; omega
        have N1 := P1.out.up hb
        have N2 := P2.out.up hb
        have N3 := P3.out.up hb
        have bd : Below wr.heap.size wr wr.drew := (Below.refl _ _).drew
        have hyd : Bx wr.drew w2.heap.size (.slice A1 m1 e1) (.slice A2 m2 e2) (.slice A3 m3 e3) := ⟨hzr.lt, hzr.c0, hzr.c1, hzr.c2⟩
        have M1 := Lib.hid (N1.up bd)
        have M2 := Lib.hid (N2.up bd)
        have M3 := Lib.hid (N3.up bd)
        have HBd := Lib.hid (bthen hb bd)
        have z0 := hyd.c0
        have z1' := hyd.c1
        clear N1 N2 N3 hb bd hzr
        have hkl : k < 18446744073709551616 := by omega
        go_wp2_with fail
        go_region_held3 (fun w' => w'.cell? ⟨w2.heap.size, 0, none⟩ = some (Value.slice A1 m1 e1) ∧ w'.cell? ⟨w2.heap.size, 1, none⟩ = some (Value.slice A2 m2 e2))
          (first | exact ⟨g5.c0, g5.c1⟩ | exact ⟨g4.c0, g4.c1⟩ | exact ⟨hyd.c0, hyd.c1⟩)
          ((first
            | (go_at_call 9; refine (of_any k _ rfl hkl _).mono ?_; rintro e w10 ⟨B4, n4, c4, x4, rfl, r4⟩
               have g4 := hyd.up r4.bel
               have g40 := g4.c0
               have g41 := g4.c1
               have v4 := Lib.hid r4.is
               have l4 : n4 ≤ 1 := r4.le (by omega)
               have O1 := M1.out.up r4.bel
               have O2 := M2.out.up r4.bel)
            | (go_at_call 8; have hm := mpow_pos r4.nt O2 O1 (by omega) (by omega) (by omega) (by rw [HV1.out]; omega); (with_reducible refine hm.mono ?_); clear hm; rintro e w11 ⟨B5, n5, c5, x5, rfl, r5⟩
               have g5 := g4.up r5.bel
               have g50 := g5.c0
               have g51 := g5.c1)))
        all_goals
          rw [v4.out, HV2.out, HV1.out] at r5
          have v5 := Lib.hid r5.is
          have l5 : n5 ≤ 1 := r5.le (k := 1) (by have := Nat.mod_lt (k ^ 3) (show 0 < M by omega); omega)
          have C1 := Lib.hid (O1.up r5.bel)
          have C3 := Lib.hid ((M3.out.up r4.bel).up r5.bel)
          have B5' := Lib.hid (bthen (bthen HBd.out r4.bel) r5.bel)
          have R5 := Lib.hid r5.nt
          have g52 := g5.c2
          clear O1 O2 r5 r4 g4 g40 g41 z0 z1' hyd g5
          go_wp2_with fail
          refine (mpow_pos R5.out C3.out C1.out (by omega) (by omega) (by omega) (by rw [HV1.out]; omega)).mono ?_
          rintro e w12 ⟨B6, n6, c6, x6, rfl, r6⟩
          rw [v5.out, HV3.out, HV1.out, Hback.out k (by omega)] at r6
          have R6 := Lib.hid r6
          have B6' := Lib.hid (bthen B5'.out r6.bel)
          clear r6
          go_wp2_with fail
          refine (of_any k _ rfl hkl _).mono ?_
          rintro e w13 ⟨B7, n7, c7, x7, rfl, r7⟩
          have xx := trm_same R6.out.trm r7.trm R6.out.nt.lim r7.nt.lim (R6.out.is.trans r7.is.symm)
          have R7 := Lib.hid r7
          have XX := Lib.hid xx
          clear r7 xx
          go_wp2_with fail
          refine (same_yes (R6.out.nt.up R7.out.bel) R7.out.nt XX.out).mono ?_
          rintro e w14 ⟨rfl, d14, rfl⟩
          have B14 := Lib.hid (bdr (bthen B6'.out R7.out.bel) d14)
          go_wp2_with fail
          go_roundw
          case rel => exact ⟨k + 1, hlt, by simp, B14.out⟩
          case measure => simp [intOf]; omega
      · have hd : ((k : Int) < 6) = False := by simp only [eq_iff_iff, iff_false]; omega
        have HZ := Lib.hid hzr
        have O1 := Lib.hid (P1.out.up hb)
        have HBw := Lib.hid (bthen HB5.out hb)
        have hpre := nb_pre (H0.out.up HBw.out) Hun.out
        have HD2 := Lib.hid (HS.out (x0.take u) wr _ _ _ hpre (by have := Hn0.out; have := Hun.out; omega))
        have hcap : (u : Int) ≤ (c0 : Int) := by have := Hcap.out; have := Hun.out; omega
        clear hzr hlt hb hpre
        go_wp2_with fail
        refine HD2.out.mono ?_
        rintro r w7 s2
        have b7 := s2.bel
        obtain ⟨F1, f1, a1, F2, f2, a2, F3, f3, a3, rfl, u1, _, _⟩ := H2.out _ _ _ s2
        clear s2
        obtain ⟨w8, q8⟩ : ∃ w8, w8 = w7.alloc (.cells #[Value.slice F1 f1 a1, .slice F2 f2 a2, .slice F3 f3 a3] 26) := ⟨_, rfl⟩
        obtain ⟨hx8, b8⟩ := box_new q8
        have HB8 := Lib.hid (bthen (bthen HBw.out b7) b8)
        have HZ8 := Lib.hid ((HZ.out.up b7).up b8)
        have O8 := Lib.hid ((O1.out.up b7).up b8)
        have U8 := Lib.hid (u1.up b8)
        have HY8 := Lib.hid hx8
        clear b7 b8 u1 hx8 HD2
        go_wp2_with fail
        rw [← q8]
        clear q8
        refine (HA.out _).mono ?_
        rintro e w10 ⟨rfl, b10⟩
        have X := HZ8.out.up b10
        have Y := HY8.out.up b10
        have B10 := Lib.hid (bthen HB8.out b10)
        have xx0 := X.c0
        have yy0 := Y.c0
        have he3 : ∀ z : Int, (z == z) = true := fun z => by simp
        have N1 := Lib.hid (O8.out.up b10)
        have W1 := Lib.hid (U8.out.up b10)
        clear b10 X Y
        go_wp2_with fail
        refine (same_yes W1.out N1.out rfl).mono ?_
        rintro e w11 ⟨rfl, d11, rfl⟩
        go_wp2_with fail
        go_ret
        exact ⟨rfl, bdr B10.out d11⟩

set_option maxRecDepth 100000 in
theorem door_met (os : Os) (args : Array Value) : laidMetH Tryd.prog [("clepsydra/sha.constants", Rows.laid_clepsydra_sha_constants)] ((World.doorLaid Tryd.prog 4000 os).forCall (fun _ _ => 0) ⟨#[], args, []⟩).memory :=
  laidMetH_of_parts3 (fuel := 8) (laidMet_of_run' 8 (by kernel_rfl) (by kernel_rfl)) (by kernel_rfl) (by kernel_rfl)
set_option maxRecDepth 100000 in
theorem lifted (os : Os) (started : os.Started) (H : Type) (enc : TypeId × Value → H) :
    ReturnsInHanded {} Tryd.checked os 3 .any (fun w args => (Rows.pkeyDrawnSpec.pre enc Tryd.prog Tryd.f3 [] false w args ∧ laidMetH Tryd.prog [("clepsydra/sha.constants", Rows.laid_clepsydra_sha_constants)] w) ∧ sizedMet enc Tryd.prog Tryd.f3 (OpenSpec.ofChange Rows.pkeyDrawnSpec) false w args)
      (Rows.pkeyDrawnSpec.post enc Tryd.prog Tryd.f3 false true false false) := by
  refine returnsInHanded_of_change_and (C := Tryd.checked) (X := fun w _ => laidMetH Tryd.prog [("clepsydra/sha.constants", Rows.laid_clepsydra_sha_constants)] w) (fun _ _ _ hh h => h.of_heap hh) own started (by kernel_rfl) Tryd.func3
    (ChangeSpec.witness_shaped (enc := enc) (C := Tryd.checked) (os := os) (X := fun w _ => laidMetH Tryd.prog [("clepsydra/sha.constants", Rows.laid_clepsydra_sha_constants)] w) false (World.doorLaid Tryd.prog 4000 os) #[.slice none 0 0, .int .i64 0] 8 rfl (World.shaped_of_RefB (by kernel_rfl) (by kernel_rfl)) (by kernel_rfl) (by kernel_rfl) (by kernel_rfl) (door_met os _)) ?_
  intro W base args ds gs before hval0 hW _ hsz0 hL _
  have hsz : (DataW.weightsEach Tryd.prog (Tryd.f3.params.toList ++ Rows.pkeyDrawnSpec.plain.varTypes Tryd.prog) (ds ++ gs)).all (· ≤ reachBytes) = true := hsz0
  have hval : ∀ (j : Nat) t v, Tryd.f3.params[j]? = some t → args[j]? = some v → Value.okWide Tryd.prog W .any base t v := hval0
  have hW' := hW
  obtain ⟨p, q, hA0, hV, rfl, hfz, hnd⟩ := hW
  have hA : DataW.TrodAll enc Tryd.prog W 0 (fun _ => true) true Tryd.f3.params.toList args.toList ds p := hA0
  rw [Tryd.params3] at hA hval hsz
  obtain ⟨v0, vs0, d0, ds0, p0, q0, hargs, rfl, rfl, h0, r0⟩ := trodAll_cons hA
  obtain ⟨v1, vs1, d1, ds1, p1, q1, rfl, rfl, rfl, h1, r1⟩ := trodAll_cons r0
  obtain ⟨rfl, rfl, rfl⟩ := trodAll_nil r1
  obtain rfl : args = #[v0, v1] := by cases args; simp_all
  obtain ⟨rfl, rfl⟩ := trodVars_none hV
  obtain ⟨a0, len0, cap0, rfl⟩ := okWide_slice Tryd.underlying22 (hval 0 22 v0 rfl rfl)
  have k0 := h0
  have lt0 : ∀ x ∈ p0, x.block < W.heap.size := by obtain ⟨m, hm⟩ := k0; exact DataW.trod_lt m _ _ _ hm
  obtain ⟨z0, w0⟩ : ∃ zs, Nb W W.heap.size a0 len0 cap0 zs := by
    obtain ⟨fuel, hf⟩ := h0
    rcases open_ints Tryd.underlying22 Tryd.underlying5 (by kernel_rfl) hf with ⟨hcs, _⟩ | ⟨x, l, c, zs, hcs, _, hl, hm, hz, hd, hcell, hwz⟩
    · simp [Value.cells] at hcs
      obtain ⟨rfl, rfl, rfl⟩ := hcs
      exact ⟨[], nb_nil _ _⟩
    · simp [Value.cells] at hcs
      obtain ⟨rfl, rfl, rfl⟩ := hcs
      exact ⟨_, nb_of_row hl hm (by simpa using hz) hcell hwz⟩
  obtain ⟨a1, rfl, rfl, rfl, w1⟩ := open_int Tryd.underlying3 (hval 1 3 v1 rfl rfl) h1
  clear hA0 hval0
  refine (law_any (of_laid hL) w0 a1 w1).mono fun e W' ⟨he, bel⟩ => ?_
  subst he
  exact ⟨_, rfl, _, _, _, [], _, [], hW', trodAll_mk1 (shut_bool Tryd.underlying4 _), (trodAll_cons_mk (Below.trod laidOut (by kernel_rfl) (of_decide_eq_true (by kernel_rfl)) k0 bel lt0) (trodAll_cons_mk (shut_int Tryd.underlying3 w1) trodAll_mk0)), rfl, bel.frame _, fun h => by cases h⟩

theorem pkeyDrawn_holds : Rows.PkeyDrawnSaid :=
  OpenClaim.holds_of_wide 3 Tryd.f3 rfl rfl rfl rfl rfl rfl rfl ⟨rfl, rfl, rfl, rfl, rfl⟩ rfl rfl rfl rfl rfl (by kernel_rfl) Tryd.func3 (by kernel_rfl)
    (of_decide_eq_true (by kernel_rfl)) (by unfold Func.isWrapper; first | (rw [if_pos (by decide +kernel)]; kernel_rfl) | (rw [if_neg (by decide +kernel)]; exact ⟨rfl, rfl⟩))
    (fun os started H enc _ => lifted os started H enc)
theorem pkeyDrawn_card : Rows.PkeyDrawnCardSaid :=
  Claim7.holds_tied_plain_at .later [] [.data] true (true, "badb6699958475972b62facf5af0890805ab10e6547abcde4dd9fa7ce6155c12") false
    pkeyDrawn_holds (fun _ h => by cases h) (by kernel_rfl) (fun _ h => by cases h) pkeyDrawn_row_tie rfl ⟨rfl, rfl⟩ (by kernel_rfl) rfl
    (fun f fn hf hfn => by
      obtain rfl : f = 3 := Option.some.inj ((show Tryd.prog.funcNamed "clepsydra/clepsydralaw05.PkeyDrawn" = some 3 by kernel_rfl).symm.trans hf) |>.symm
      obtain rfl : fn = Tryd.f3 := (Option.some.inj (Tryd.func3.symm.trans hfn)).symm
      exact ⟨by kernel_rfl, fun j t ht => by
        rw [Tryd.params3] at ht
        have hm : t ∈ [22, 3] := by simpa using Array.mem_of_getElem? ht
        have hall : ([22, 3].all fun u => !Tryd.prog.wantsStandIn u) = true := by kernel_rfl
        exact (show Tryd.prog.wantsStandIn t = false by simpa using List.all_eq_true.1 hall t hm)⟩)
    (by kernel_rfl)
#print axioms pkeyDrawn_card
end Go.Proofs.YtkhlmcknbangfaaDoor.pkeyDrawnP
