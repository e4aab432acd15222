/- nat.Cmp, nat.Add. -/
import Derived.Test.YtddpgckbdccldaaSmall
import Derived.Test.YtddpgckbdccldaaCmp
import Derived.Test.YtddpgckbdccldaaAddTo
namespace Go.Proofs.Ytddpgckbdccldaa
set_option linter.unusedSimpArgs false
set_option linter.unusedVariables false
open Go.RowKit

theorem cut_ex {w : World} {B : Nat} {A : Option Addr} {n c : Nat} {xs : List Nat} (h : Nt w B A n c xs) :
    ∃ m, m ≤ n ∧ Nt w B A m m (cutL xs) ∧ Hid (Calls Try.prog 60 #[.slice A n c] w fun e w' => e = .returned (.slice A m m) ∧ w = w') := by
  refine ⟨tl xs n, tl_le _ _, ?_, cut_any h⟩
  have hl := h.len
  have ht := tl_le xs n
  refine ⟨by rw [length_cutL, hl], Nat.le_refl _, Nat.le_trans ht (Nat.le_trans h.cap h.room), lim_cutL h.lim, fun h0 => ?_⟩
  obtain ⟨b, off, e, hb, hcell⟩ := h.cell (by omega)
  refine ⟨b, off, e, hb, fun j x hx => hcell j x ?_⟩
  unfold cutL at hx
  rw [List.getElem?_take] at hx
  split at hx
  · exact hx
  · cases hx

theorem quiet_left {P : Program} {f : FuncId} {args : Array Value} {w : World} {n : Nat} {v : Value}
    (h : Calls P f args (w.drewN n) fun e w' => e = .returned v ∧ w.drewN n = w') : Calls P f args (w.drewN n) fun e w'' => e = .returned v ∧ ∃ m, w'' = w.drewN m :=
  h.mono fun _ _ ⟨he, hm⟩ => ⟨he, n, hm.symm⟩
theorem quiet_add_left {P : Program} {f : FuncId} {args : Array Value} {w : World} {a n : Nat} {v : Value}
    (h : Calls P f args (w.drewN (a + n)) fun e w' => e = .returned v ∧ w.drewN (a + n) = w') :
    Calls P f args (w.drewN (a + n)) fun e w'' => e = .returned v ∧ ∃ m, w'' = w.drewN (a + m) :=
  h.mono fun _ _ ⟨he, hm⟩ => ⟨he, n, hm.symm⟩

theorem sgn_lt {x y : Nat} (h : x < y) : sgn (x : Int) (y : Int) = -1 := by unfold sgn; rw [if_pos (by omega)]
theorem sgn_gt {x y : Nat} (h : y < x) : sgn (x : Int) (y : Int) = 1 := by unfold sgn; rw [if_neg (by omega), if_pos (by omega)]
theorem sgn_eq (x : Nat) : sgn (x : Int) (x : Int) = 0 := by unfold sgn; rw [if_neg (by omega), if_neg (by omega)]
theorem val_len_lt {β : Nat} (hβ : 0 < β) {xs ys : List Nat} (hx : Lim β xs) (ty : Trm ys) (h : xs.length < ys.length) : val β xs < val β ys := by
  have h1 := val_lt hx
  have h2 := val_ge (β := β) ty (by omega)
  have h3 : β ^ xs.length ≤ β ^ (ys.length - 1) := Nat.pow_le_pow_right hβ (by omega)
  omega
theorem val_top_lt {β : Nat} {xs ys : List Nat} {k x y : Nat} (hx : Lim β xs) (hkx : k < xs.length) (hl : xs.length = ys.length) (hd : xs.drop (k + 1) = ys.drop (k + 1)) (ex : xs.getD k 0 = x) (ey : ys.getD k 0 = y) (h : x < y) : val β xs < val β ys := by
  rw [val_take_drop β xs (k + 1) (by omega), val_take_drop β ys (k + 1) (by omega), hd, val_take_succ, val_take_succ, ex, ey]
  have h1 := val_lt (hx.take k)
  rw [List.length_take, Nat.min_eq_left (by omega)] at h1
  have h2 : β ^ k * (x + 1) ≤ β ^ k * y := Nat.mul_le_mul_left _ h
  rw [Nat.mul_add] at h2
  omega
theorem sgn_len {xs ys : List Nat} (hx : Lim 18446744073709551616 xs) (hy : Lim 18446744073709551616 ys) (tx : Trm xs) (ty : Trm ys) (h : xs.length ≠ ys.length) :
    sgn (xs.length : Int) (ys.length : Int) = sgn (val 18446744073709551616 xs : Int) (val 18446744073709551616 ys : Int) := by
  rcases Nat.lt_or_gt_of_ne h with hlt | hgt
  · rw [sgn_lt hlt, sgn_lt (val_len_lt (by omega) hx ty hlt)]
  · rw [sgn_gt hgt, sgn_gt (val_len_lt (by omega) hy tx hgt)]
theorem sgn_top {xs ys : List Nat} {k x y : Nat} (hx : Lim 18446744073709551616 xs) (hy : Lim 18446744073709551616 ys) (hkx : k < xs.length) (hl : xs.length = ys.length) (hd : xs.drop (k + 1) = ys.drop (k + 1)) (ex : xs.getD k 0 = x) (ey : ys.getD k 0 = y) (h : x ≠ y) :
    sgn (x : Int) (y : Int) = sgn (val 18446744073709551616 xs : Int) (val 18446744073709551616 ys : Int) := by
  rcases Nat.lt_or_gt_of_ne h with hlt | hgt
  · rw [sgn_lt hlt, sgn_lt (val_top_lt hx hkx hl hd ex ey hlt)]
  · rw [sgn_gt hgt, sgn_gt (val_top_lt hy (by omega) hl.symm hd.symm ey ex hgt)]
theorem drop_back {xs ys : List Nat} {k : Nat} (hl : xs.length = ys.length) (hk : k < xs.length) (hd : xs.drop (k + 1) = ys.drop (k + 1)) (h : xs.getD k 0 = ys.getD k 0) : xs.drop k = ys.drop k := by
  rw [List.drop_eq_getElem_cons hk, List.drop_eq_getElem_cons (show k < ys.length by omega), hd]
  congr 1
  simpa [List.getD, List.getElem?_eq_getElem hk, List.getElem?_eq_getElem (show k < ys.length by omega)] using h


end Go.Proofs.Ytddpgckbdccldaa
