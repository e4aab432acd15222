/- plane: words that are no numbers; operations and orders of words that are alike. -/
import Derived.Test.YtbkcoijcoacbaaaProg
import Derived.WalkKit
import Derived.WalkLawsBesides
import Derived.Lib.Hide
namespace Go.Proofs.Ytbkcoijcoacbaaa.Pl
open Go.RowKit
set_option linter.unusedVariables false
/-- a word that is no number -/
def isN (x : Nat) : Prop := (Ieee.double.read x).isNaN = true
instance (x : Nat) : Decidable (isN x) := by unfold isN; exact inferInstance
/-- the same word, or both no number -/
def al (x y : Nat) : Prop := x = y ∨ isN x ∧ isN y
theorem al.refl (x : Nat) : al x x := .inl rfl
theorem al.symm {x y : Nat} (h : al x y) : al y x := by rcases h with rfl | ⟨a, b⟩; exact .inl rfl; exact .inr ⟨b, a⟩
theorem al.trans {x y z : Nat} (h : al x y) (g : al y z) : al x z := by
  rcases h with rfl | ⟨a, b⟩
  · exact g
  · rcases g with rfl | ⟨c, d⟩
    · exact .inr ⟨a, b⟩
    · exact .inr ⟨a, d⟩
def fb (op : BinOp) (x y : Nat) : Option Nat := floatBits op .f64 x y
theorem read_cases (x : Nat) : (isN x ∧ ∃ s f, Ieee.double.read x = .nan s f) ∨ (¬ isN x ∧ ∀ s f, Ieee.double.read x ≠ .nan s f) := by
  unfold isN
  cases h : Ieee.double.read x <;> simp [Ieee.Datum.isNaN]
theorem sum_nan {a b : Ieee.Datum} (h : a.isNaN = true ∨ b.isNaN = true) : a.sum b = none := by
  cases a <;> cases b <;> simp [Ieee.Datum.isNaN, Ieee.Datum.sum] at h ⊢
theorem product_nan {a b : Ieee.Datum} (h : a.isNaN = true ∨ b.isNaN = true) : a.product b = none := by
  cases a <;> cases b <;> simp [Ieee.Datum.isNaN, Ieee.Datum.product] at h ⊢
theorem quotient_nan {d : Nat} {a b : Ieee.Datum} (h : a.isNaN = true ∨ b.isNaN = true) : a.quotient d b = none := by
  cases a <;> cases b <;> simp [Ieee.Datum.isNaN, Ieee.Datum.quotient] at h ⊢
theorem order_nan {a b : Ieee.Datum} (h : a.isNaN = true ∨ b.isNaN = true) : a.order b = none := by
  cases a <;> cases b <;> simp [Ieee.Datum.isNaN, Ieee.Datum.order] at h ⊢
theorem opp_nan {a : Ieee.Datum} : a.opposite.isNaN = a.isNaN := by cases a <;> rfl
theorem fb_nan {op : BinOp} {x y : Nat} (h : isN x ∨ isN y) : fb op x y = none := by
  unfold fb floatBits
  unfold isN at h
  split
  · show (Ieee.Datum.sum _ _).map _ = none
    rw [sum_nan (by exact h)]; rfl
  · show (Ieee.Datum.sum _ _).map _ = none
    rw [sum_nan (by rw [opp_nan]; exact h)]; rfl
  · show (Ieee.Datum.product _ _).map _ = none
    rw [product_nan (by exact h)]; rfl
  · show (Ieee.Datum.quotient _ _ _).map _ = none
    rw [quotient_nan (by exact h)]; rfl
  · rfl
theorem fb_al {op : BinOp} {x y x' y' : Nat} (h : al x x') (g : al y y') : fb op x y = fb op x' y' := by
  rcases h with rfl | ⟨a, b⟩
  · rcases g with rfl | ⟨c, d⟩
    · rfl
    · rw [fb_nan (.inr c), fb_nan (.inr d)]
  · rw [fb_nan (.inl a), fb_nan (.inl b)]
def od (x y : Nat) : Option Ordering := Ieee.double.order x y
theorem od_nan {x y : Nat} (h : isN x ∨ isN y) : od x y = none := order_nan h
theorem od_al {x y x' y' : Nat} (h : al x x') (g : al y y') : od x y = od x' y' := by
  rcases h with rfl | ⟨a, b⟩
  · rcases g with rfl | ⟨c, d⟩
    · rfl
    · rw [od_nan (.inr c), od_nan (.inr d)]
  · rw [od_nan (.inl a), od_nan (.inl b)]
/-- what an operation may give -/
def fr (op : BinOp) (x y r : Nat) : Prop := r < 2 ^ 64 ∧ match fb op x y with | some s => r = s | none => isN r
theorem fr_al {op : BinOp} {x y x' y' r r' : Nat} (h : al x x') (g : al y y') (hr : fr op x y r) (hr' : fr op x' y' r') : al r r' := by
  unfold fr at hr hr'
  rw [fb_al h g] at hr
  cases e : fb op x' y' with
  | none => rw [e] at hr hr'; exact .inr ⟨hr.2, hr'.2⟩
  | some s => rw [e] at hr hr'; exact .inl (hr.2.trans hr'.2.symm)
theorem isN_iff {x : Nat} : isN x ↔ 9218868437227405312 < x % 9223372036854775808 := by
  unfold isN Ieee.Format.read
  have e1 : Ieee.double.signWeight = 9223372036854775808 := by decide +kernel
  have e2 : Ieee.double.infRung = 9218868437227405312 := by decide +kernel
  have e3 : Ieee.double.binade = 4503599627370496 := by decide +kernel
  rw [e1, e2, e3]
  dsimp only
  split
  · simp [Ieee.Datum.isNaN]; omega
  · split
    · simp [Ieee.Datum.isNaN]; omega
    · split
      · simp [Ieee.Datum.isNaN]; omega
      · simp [Ieee.Datum.isNaN]; omega
def nanOf (t : Nat) : Nat := (t % 2) * 2 ^ 63 + 0x7ff0000000000000 + 1 + (t / 2) % (2 ^ 52 - 1)
theorem nanOf_isN (t : Nat) : isN (nanOf t) := by
  rw [isN_iff]; unfold nanOf
  have h1 := Nat.mod_lt t (show 2 > 0 by omega)
  have h2 := Nat.mod_lt (t / 2) (show 2 ^ 52 - 1 > 0 by omega)
  generalize (t / 2) % (2 ^ 52 - 1) = b at h2
  generalize t % 2 = m at h1
  have : m = 0 ∨ m = 1 := by omega
  rcases this with rfl | rfl <;> omega
theorem nanOf_lt (t : Nat) : nanOf t < 2 ^ 64 := by
  unfold nanOf
  have h1 := Nat.mod_lt t (show 2 > 0 by omega)
  have h2 := Nat.mod_lt (t / 2) (show 2 ^ 52 - 1 > 0 by omega)
  omega
def ar (op : BinOp) : Prop := op = .add ∨ op = .sub ∨ op = .mul ∨ op = .quo
def fv (op : BinOp) (x y : Nat) (w : World) : Nat :=
  match fb op x y with
  | some r => r
  | none => nanOf (w.tape w.drawn (.nanBits .f64 x y))
def fk (op : BinOp) (x y : Nat) : Nat := if (fb op x y).isSome then 0 else 1
theorem fb_lt {op : BinOp} {x y r : Nat} (h : fb op x y = some r) : r < 2 ^ 64 := by
  have := floatBits_wf (k := .f64) h
  simpa [Lit.wf] using this
theorem fv_fr (op : BinOp) (x y : Nat) (w : World) : fr op x y (fv op x y w) := by
  unfold fr fv
  cases e : fb op x y with
  | some r => exact ⟨fb_lt e, rfl⟩
  | none => exact ⟨nanOf_lt _, nanOf_isN _⟩
theorem run_fl {P : Program} (w : World) (op : BinOp) (t : TypeId) (x y : Nat) (ho : ar op) : (binOp op t (.float .f64 x) (.float .f64 y)).run P w = .ok (.float .f64 (fv op x y w)) (w.drewN (fk op x y)) := by
  cases e : fb op x y with
  | some r =>
    have h0 : fk op x y = 0 := by simp [fk, e]
    have h1 : fv op x y w = r := by simp [fv, e]
    rw [h0, h1, run_float_arith w op t .f64 x y r e]; rfl
  | none =>
    have h0 : fk op x y = 1 := by simp [fk, e]
    have h1 : fv op x y w = nanOf (w.tape w.drawn (.nanBits .f64 x y)) := by simp [fv, e]
    rw [h0, h1]
    unfold fb floatBits at e
    rcases ho with rfl | rfl | rfl | rfl <;> simp only at e <;> simp [binOp, Op.floatArith, e, Question.forced, Question.cut, nanOf] <;> rfl
end Go.Proofs.Ytbkcoijcoacbaaa.Pl
