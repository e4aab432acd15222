/- disc: the arithmetic of what is slewed; what Update comes to. -/
import Derived.Test.YtplfimimoahjdaaD7
namespace Go.Proofs.Ytplfimimoahjdaa
open Go.RowKit
set_option linter.unusedVariables false
set_option linter.unusedSimpArgs false
set_option maxRecDepth 100000
theorem mv_neg (l : Int) : mv (-l) = -mv l := by
  unfold mv
  rw [Int.neg_tdiv]
  by_cases h : l.tdiv 64 = 0
  · rw [if_pos (by omega), if_pos h]
  · rw [if_neg (by omega), if_neg h]
theorem slL_neg (k : Nat) (l : Int) : slL k (-l) = -slL k l := by
  induction k with
  | zero => rfl
  | succ k ih =>
    unfold slL
    rw [ih, mv_neg]
    omega
theorem slL_add (k m : Nat) (l : Int) : slL (k + m) l = slL m (slL k l) := by
  induction m with
  | zero => rfl
  | succ m ih =>
    show slL (k + m) l - mv (slL (k + m) l) = slL m (slL k l) - mv (slL m (slL k l))
    rw [ih]
theorem mv_mono {l l' : Int} (h0 : 0 ≤ l) (h : l ≤ l') : l - mv l ≤ l' - mv l' := by
  have a := (tdiv64 l).1 h0
  have b := (tdiv64 l').1 (by omega)
  unfold mv
  rw [a, b]
  split <;> split <;> omega
theorem slL_mono (k : Nat) {l l' : Int} (h0 : 0 ≤ l) (h : l ≤ l') : slL k l ≤ slL k l' := by
  induction k with
  | zero => exact h
  | succ k ih => exact mv_mono ((slL_lim k l).1 h0).1 ih
theorem slL_top : slL 4096 549755814 = 0 := by decide +kernel
theorem slL_gone {o : Int} (h : inB 549755814 o) : slL 4096 o = 0 := by
  unfold inB at h
  by_cases h0 : 0 ≤ o
  · have a := slL_mono 4096 h0 h.2
    rw [slL_top] at a
    have := ((slL_lim 4096 o).1 h0).1
    omega
  · have a := slL_mono 4096 (l := -o) (l' := 549755814) (by omega) (by omega)
    rw [slL_top, slL_neg] at a
    have := ((slL_lim 4096 o).2 (by omega)).2
    omega
theorem clamp_lim (x : Int) {b : Int} (hb : 0 ≤ b) : inB b (clamp x b) := by unfold inB clamp; omega
theorem clamp_neg (x : Int) {b : Int} (hb : 0 ≤ b) : clamp (-x) b = -clamp x b := by unfold clamp; omega
theorem clamp_id {x b : Int} (h : inB b x) : clamp x b = x := by unfold inB at h; unfold clamp; omega
theorem drift_zero (c : Ck) (t : Int) : drift c 0 t = 0 := by
  unfold drift
  rw [Int.zero_mul, Int.zero_tdiv, Int.zero_tdiv]
theorem drift_neg (c d : Ck) (o t : Int) (ha : d.a = c.a) (hp : d.p = c.p) : drift d (-o) t = -drift c o t := by
  unfold drift
  rw [ha, hp, Int.neg_mul, Int.neg_tdiv, Int.neg_tdiv]
/-- what comes of an update -/
inductive Ck.Upd (c : Ck) (o t : Int) : Ck × Int × Int × Int → Prop
  | no (E : Int) (h : E = 1 ∨ E = 160) : Upd c o t (Ck.zero, 0, 0, E)
  | set (hm : c.may) (ho : inB 1152921504606846976 o) (ht : inB 1152921504606846976 t) (hs : c.s = false) : Upd c o t (⟨c.f, 0, t, c.p, true⟩, 1, o, 0)
  | step (hm : c.may) (ho : inB 1152921504606846976 o) (ht : inB 1152921504606846976 t) (hs : c.s = true) (hp : inB 4294967296000 o) (hl : ¬ t < c.a) (hq : ¬ inB 549755814 o) : Upd c o t (⟨c.f, 0, t, c.p, true⟩, 2, o, 0)
  | slew (hm : c.may) (ho : inB 1152921504606846976 o) (ht : inB 1152921504606846976 t) (hs : c.s = true) (hp : inB 4294967296000 o) (hl : ¬ t < c.a) (hq : inB 549755814 o) : Upd c o t (⟨clamp (c.f + drift c o t) 2147483, o, t, c.p, true⟩, 3, 0, 0)
theorem drift_l (c : Ck) (x o t : Int) (s : Bool) : drift ⟨c.f, x, c.a, c.p, s⟩ o t = drift c o t := rfl
theorem Ck.upd_is (c : Ck) (o t : Int) : c.Upd o t (c.upd o t) := by
  unfold Ck.upd
  split
  · exact .no 1 (.inl rfl)
  rename_i h
  have h' : c.may ∧ inB 1152921504606846976 o ∧ inB 1152921504606846976 t := Classical.byContradiction fun x => h x
  split
  · rename_i hs
    exact .set h'.1 h'.2.1 h'.2.2 hs
  rename_i hs
  have hs' : c.s = true := by cases e : c.s <;> simp_all
  split
  · exact .no 160 (.inr rfl)
  rename_i hp
  split
  · exact .no 1 (.inl rfl)
  rename_i hl
  split
  · rename_i hq
    exact .step h'.1 h'.2.1 h'.2.2 hs' (Classical.byContradiction fun x => hp x) hl hq
  · rename_i hq
    exact .slew h'.1 h'.2.1 h'.2.2 hs' (Classical.byContradiction fun x => hp x) hl (Classical.byContradiction fun x => hq x)
theorem upd_call (c : Ck) (o t : Int) : ∃ d x y E, c.Upd o t (d, x, y, E) ∧ ∀ w, 
    Calls Try.prog 12 #[.agg #[.int .i64 c.f, .int .i64 c.l, .int .i64 c.a, .int .i64 c.p, .bool c.s], .int .i64 o, .int .i64 t] w fun e w' => e = .returned (.tuple #[.agg #[.int .i64 d.f, .int .i64 d.l, .int .i64 d.a, .int .i64 d.p, .bool d.s], .agg #[.int .i64 x, .int .i64 y], .int .i64 E]) ∧ RowKit.Below w.heap.size w w' :=
  ⟨_, _, _, _, Ck.upd_is c o t, fun w => upd_any' rfl w⟩
end Go.Proofs.Ytplfimimoahjdaa
