/- wire: when two packets say the same. -/
import Derived.Test.YtafpnpfiefbddaaDoorWiR12
import Derived.Lib.Bytes
namespace Go.Proofs.YtafpnpfiefbddaaDoor.Wi
open Go.RowKit
set_option linter.unusedVariables false
set_option linter.unusedSimpArgs false
set_option maxRecDepth 100000
/-- a field's texts are bytes, as many as it says -/
structure El.has (x : El) : Prop where
  l1 : Lim 256 x.xs
  l2 : Lim 256 x.ys
  n1 : x.xs.length = x.n
  n2 : x.ys.length = x.m
theorem Es.has {w : World} {B n : Nat} {A : Option Addr} {l : List El} (h : Es w B A n l) : ∀ x ∈ l, x.has := fun x hx =>
  ⟨(h.2.1 x hx).1.lim, (h.2.1 x hx).2.lim, (h.2.1 x hx).1.len, (h.2.1 x hx).2.len⟩
/-- Macs that are written alike are alike -/
theorem mac_eq {p q : Pk} {ms ns : List Nat} (h1 : macB p.m = true) (h2 : macB q.m = true) (l1 : ms.length = p.m.n) (l2 : ns.length = q.m.n) (k1 : p.m.key < 4294967296) (k2 : q.m.key < 4294967296) (h : macW p ms = macW q ns) : p.m.has = q.m.has ∧ p.m.key = q.m.key ∧ ms = ns := by
  unfold macW at h
  unfold macB at h1 h2
  cases hp : p.m.has with
  | true =>
    cases hq : q.m.has with
    | true =>
      rw [hp, hq] at h
      simp only [if_true] at h
      have ht := congrArg (List.take 4) h
      have hd := congrArg (List.drop 4) h
      rw [take_pre (be_length 4 _), take_pre (be_length 4 _)] at ht
      rw [drop_pre (be_length 4 _), drop_pre (be_length 4 _)] at hd
      have := congrArg num ht
      rw [num_be 4 _ (by omega), num_be 4 _ (by omega)] at this
      exact ⟨rfl, this, hd⟩
    | false =>
      rw [hp, hq] at h
      have := congrArg List.length h
      simp [be_length] at this
      try omega
  | false =>
    cases hq : q.m.has with
    | true =>
      rw [hp, hq] at h
      have := congrArg List.length h
      simp [be_length] at this
      omega
    | false =>
      rw [hp] at h1
      rw [hq] at h2
      simp only [Bool.false_eq_true, if_false, decide_eq_true_eq] at h1 h2
      refine ⟨rfl, by omega, ?_⟩
      rw [List.eq_nil_of_length_eq_zero (show ms.length = 0 by omega), List.eq_nil_of_length_eq_zero (show ns.length = 0 by omega)]
/-- a packet as it came: its numbers fit -/
structure Pk.ok (p : Pk) : Prop where
  h : p.h.ok
  key : p.m.key < 4294967296
theorem packW_lim {p : Pk} {l : List El} {ms : List Nat} (hl : ∀ x ∈ l, x.has) (hm : Lim 256 ms) : Lim 256 (packW p l ms) := by
  have hh : Lim 256 (headW p.h) := by
    unfold headW
    exact ((((((((((be_lim _ _).append (be_lim _ _)).append (be_lim _ _)).append (be_lim _ _)).append (be_lim _ _)).append (be_lim _ _)).append (be_lim _ _)).append (be_lim _ _)).append (be_lim _ _)).append (be_lim _ _)).append (be_lim _ _)
  have ht : ∀ ys : List Nat, Lim 256 ys → Lim 256 (textB ys) := fun ys hy => by
    unfold textB
    exact ((be_lim _ _).append hy).append fun x hx => by rw [List.eq_of_mem_replicate hx]; decide
  have hf : Lim 256 (l.flatMap extB) := fun y hy => by
    obtain ⟨x, hx, hy⟩ := List.mem_flatMap.1 hy
    rw [extB_hdr] at hy
    have hhd : Lim 256 (hdr x) := by
      unfold hdr
      exact ((((((be_lim _ _).append (be_lim _ _)).append (be_lim _ _)).append (be_lim _ _)).append (be_lim _ _)).append (be_lim _ _)).append (be_lim _ _)
    exact (hhd.append ((ht _ (hl x hx).l1).append (ht _ (hl x hx).l2))) y hy
  have hmac : Lim 256 (macW p ms) := by
    unfold macW
    split
    · exact (be_lim _ _).append hm
    · exact Lim.nil _
  unfold packW
  exact (hh.append hf).append hmac
end Go.Proofs.YtafpnpfiefbddaaDoor.Wi
