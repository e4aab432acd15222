/- wire: Right. -/
import Derived.Test.YtompggkdjbkjjaaWiW3
namespace Go.Proofs.Ytompggkdjbkjjaa.Wi
open Go.RowKit
set_option linter.unusedVariables false
set_option maxRecDepth 100000
/-- is a packet right? -/
def rightB (p : Pk) (l : List El) : Bool := headB p.h && (macB p.m && (decide (p.n ≤ 8) && (l.all fieldB && decide (szp p l ≤ 8192))))
def erI (b : Bool) : Int := if b then 0 else 3
theorem mac_lim {m : Mc} (h : macB m = true) : m.n ≤ 16 := by
  unfold macB at h
  split at h <;> simp at h <;> omega
theorem field_lim {x : El} (h : fieldB x = true) : x.n ≤ 2048 ∧ x.m ≤ 2048 := by
  unfold fieldB at h
  simp only [Bool.and_eq_true, decide_eq_true_eq] at h
  exact ⟨h.2.2.1, h.2.2.2⟩
theorem all_take_false {xs : List El} {j : Nat} {x : El} (hx : xs[j]? = some x) (h : fieldB x = false) : xs.all fieldB = false := by
  rw [List.all_eq_false]
  exact ⟨x, List.mem_of_getElem? hx, by simp [h]⟩
theorem all_take_true {xs : List El} {j : Nat} {x : El} (hx : xs[j]? = some x) (h1 : (xs.take j).all fieldB = true) (h : fieldB x = true) : (xs.take (j + 1)).all fieldB = true := by
  rw [List.take_add_one, hx]; simp only [Option.toList, List.all_append, h1, List.all_cons, h, List.all_nil, Bool.and_self]
theorem Es.more {w : World} {B C n : Nat} {A : Option Addr} {xs : List El} (h : Es w B A n xs) (hB : B ≤ C) : Es w C A n xs :=
  ⟨h.1, fun x hx => ⟨(h.2.1 x hx).1.more hB, (h.2.1 x hx).2.more hB⟩, h.2.2.imp id fun ⟨g, off, e, hg, hc⟩ => ⟨g, off, e, Nat.lt_of_lt_of_le hg hB, hc⟩⟩
