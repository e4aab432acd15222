/- Rows of samples put behind rows of the call's own. -/
import Derived.Test.YtofieoklcegddaaK1
import Derived.Laws.OwnMore
import Derived.Deep.MidRow
namespace Go.Proofs.Ytofieoklcegddaa
open Go.RowKit Go.Sort Go.Shelf Go.Lib
set_option linter.unusedVariables false
set_option linter.unusedSimpArgs false
set_option maxRecDepth 100000

def blk (A : Option Addr) : Option Nat := A.map (·.block)
theorem blk_own (A : Option Addr) (n c : Nat) : (Value.slice A n c).ownBlock = blk A := by cases A <;> rfl
theorem Rd.sc {w : World} {B n : Nat} {A : Option Addr} {ys : List S4} (h : Rd w B A n ys) (h0 : 0 < n) : ∃ g off, A = some ⟨g, off, none⟩ ∧ g < B ∧ ∀ j u, (Ytofieoklcegddaa.sc ys)[j]? = some u → w.cell? ((⟨g, off, none⟩ : Addr).add j) = some u := by
  rcases h.2 with h1 | ⟨g, off, rfl, hg, hc⟩
  · omega
  · refine ⟨g, off, rfl, hg, fun j u hj => ?_⟩
    have hlt : j < 4 * ys.length := by
      have := (List.getElem?_eq_some_iff.1 hj).1
      rwa [sc_len] at this
    have hi : j / 4 < ys.length := by omega
    obtain ⟨s, hs⟩ : ∃ s, ys[j / 4]? = some s := ⟨_, List.getElem?_eq_getElem hi⟩
    have e := sc_get hs (j % 4) (by omega)
    rw [show 4 * (j / 4) + j % 4 = j by omega, hj] at e
    obtain ⟨c0, c1, c2, c3⟩ := hc (j / 4) s hs
    rw [Addr.add_mid]
    have hq : j % 4 = 0 ∨ j % 4 = 1 ∨ j % 4 = 2 ∨ j % 4 = 3 := by omega
    rcases hq with hq | hq | hq | hq
    · rw [show off + j = off + j / 4 * 4 by omega, c0]; rw [hq] at e; exact e.symm
    · rw [show off + j = off + j / 4 * 4 + 1 by omega, c1]; rw [hq] at e; exact e.symm
    · rw [show off + j = off + j / 4 * 4 + 2 by omega, c2]; rw [hq] at e; exact e.symm
    · rw [show off + j = off + j / 4 * 4 + 3 by omega, c3]; rw [hq] at e; exact e.symm
theorem run_app_nil {P : Program} (w : World) (base : Nat) (t ty e : TypeId) (i : TypeInfo) (size : Nat) (ht : P.underlying t = some (.slice e)) (hi : P.info? e = some i)
    (v : Value) (n : Nat) (xs : List Value) (hown : w.ownsRow base e size v n xs) (c : Nat) : (Builtin.append_ #[t, t] ty #[v, .slice none 0 c]).run P w = .ok v w := by
  rcases hown.2 with ⟨rfl, rfl⟩ | ⟨g, cap, cur, rfl, _, _, hnc, _⟩
  · simp [Builtin.append_, run_underlying ht, sizeOf, typeInfo, hi, Builtin.lenOf, Builtin.firstCells]
  · simp [Builtin.append_, run_underlying ht, sizeOf, typeInfo, hi, Builtin.lenOf, Builtin.firstCells, hnc, storeCells]
theorem grown_refl (w : World) (r : Option Nat) : w.grownBy w r := ⟨rfl, rfl, rfl, Nat.le_refl _, fun _ _ _ => rfl⟩
/-- a row behind a row of the call's own -/
theorem wpList_app_r (w : World) {ops : Array Oper} {rest : List Oper} {o : Oper} {a : Act} {Q : Exit → Act → World → Prop} (hgd : o.guard = none) (s x : Operand)
    (ho : o.op = .call { callee := .builtin .append, args := #[s, x], argTypes := #[36, 36] }) {base n c B m c2 : Nat} {A A2 : Option Addr} {xs ys : List S4}
    (hs : a.eval s = .slice A n c) (hown : Gs w base A n c xs) (hx : a.eval x = .slice A2 m c2) (hr : Rd w B A2 m ys)
    (hn : n + m ≤ 1099511627776) (hbase : base ≤ w.heap.size)
    (h : ∀ A' c' w', Gs w' base A' (n + m) c' (xs ++ ys) → w.grownBy w' (blk A) → (blk A' = blk A ∨ blk A' = some w.heap.size) → wpList Try.prog ops Q rest (a.put o.dst (.slice A' (n + m) c')) w') : wpList Try.prog ops Q (o :: rest) a w := by
  obtain ⟨i0, hi, hz0, hz1, hz2⟩ := info_parts Try.info23
  have hyl := hr.1
  by_cases hm : A2 = none
  · subst hm
    have hm : m = 0 := by
      rcases hr.2 with h0 | ⟨_, _, e, _⟩
      · exact h0
      · cases e
    subst hm
    have hy : ys = [] := List.eq_nil_of_length_eq_zero hyl
    subst hy
    refine wpList_plain hgd fun K hK => ?_
    have hrun := run_app_nil (P := Try.prog) w base 36 o.type 23 i0 4 Try.underlying36 hi (.slice A n c) n (sc xs) hown.2 c2
    unfold Oper.wp
    simp [execOp, ho, resolve, invoke, builtin, hs, hx, hrun, Result.andThen]
    exact hK _ _ (h A c w (by simpa using hown) (grown_refl _ _) (.inl rfl))
  · obtain ⟨ad, rfl⟩ : ∃ ad, A2 = some ad := Option.ne_none_iff_exists'.1 hm
    have hnews : ∀ j u, (sc ys)[j]? = some u → w.cell? (ad.add j) = some u := by
      rcases Nat.eq_zero_or_pos m with h0 | h0
      · intro j u hj
        have : ys = [] := List.eq_nil_of_length_eq_zero (by omega)
        subst this
        simp [sc] at hj
      · obtain ⟨g, off, e, _, hc⟩ := hr.sc h0
        cases e
        exact hc
    refine wpList_append_own_at w hgd s x 36 ho base 23 i0 (.agg #[.int .i64 0, .int .i64 0, .int .i64 0, .int .i64 0]) 4 32 Try.underlying36 hi hz0 hz1 hz2 rfl (by decide) _ n (sc xs) hs hown.2 ad m c2 (sc ys) hx (by rw [sc_len]; omega) hnews (sc_one _) (by unfold maxLen; omega) (by omega) hbase ?_
    intro v' w' hown' hgrow _ hat
    obtain ⟨A', c', rfl⟩ := own_shape hown'
    rw [blk_own, blk_own] at hat
    rw [blk_own] at hgrow
    exact h A' c' w' ⟨by simp [hown.1, hyl], by rw [sc_append]; exact hown'⟩ hgrow hat
theorem Gs.rd {w : World} {base n c : Nat} {A : Option Addr} {xs : List S4} (h : Gs w base A n c xs) : Rd w w.heap.size A n xs := by
  refine ⟨h.1, ?_⟩
  rcases Nat.eq_zero_or_pos n with h0 | h0
  · exact .inl h0
  · obtain ⟨g, rfl, hb, hg, hH⟩ := h.holds h0
    have := HoldsK.rd hH hg
    have e : xs.toArray.size = n := by simpa using h.1
    rw [e] at this
    simpa using this.2
theorem Gs.kept {w w' : World} {base n c : Nat} {A : Option Addr} {xs : List S4} {r : Option Nat} (h : Gs w base A n c xs) (k : w.grownBy w' r) (hne : blk A = Option.none ∨ blk A ≠ r) : Gs w' base A n c xs :=
  ⟨h.1, h.2.kept k (by rw [blk_own]; exact hne)⟩
theorem Gs.lt {w : World} {base n c : Nat} {A : Option Addr} {xs : List S4} (h : Gs w base A n c xs) : ∀ k, blk A = some k → base ≤ k ∧ k < w.heap.size := fun k hk => h.2.lt k (by rw [blk_own]; exact hk)
theorem Gs.drawn {w : World} {base n c : Nat} {A : Option Addr} {xs : List S4} (h : Gs w base A n c xs) : Gs w.drew base A n c xs := ⟨h.1, h.2.drew⟩
theorem Gs.below {w w' : World} {base n c : Nat} {A : Option Addr} {xs : List S4} (h : Gs w base A n c xs) (b : RowKit.Below w.heap.size w w') : Gs w' base A n c xs :=
  h.kept (r := Option.none) ⟨b.os, b.tape, b.output, b.size, fun k hk _ => b.block k hk⟩ (by cases blk A <;> simp)
/-- a part of a row that can be read -/
theorem Rd.from {w : World} {B n : Nat} {g off : Nat} {xs : List S4} (h : Rd w B (some ⟨g, off, none⟩) n xs) (hg : g < B) (k m : Nat) (hk : k + m ≤ n) : Rd w B (some ⟨g, off + k * 4, none⟩) m ((xs.drop k).take m) := by
  refine ⟨by simp [h.1]; omega, ?_⟩
  rcases Nat.eq_zero_or_pos m with h0 | h0
  · exact .inl h0
  · refine .inr ⟨g, off + k * 4, rfl, hg, fun i s hs => ?_⟩
    rcases h.2 with h1 | ⟨g', off', e, _, hc⟩
    · omega
    · cases e
      have hi : i < m := by
        have := (List.getElem?_eq_some_iff.1 hs).1
        simp at this; omega
      rw [List.getElem?_take_of_lt hi, List.getElem?_drop] at hs
      have := hc (k + i) s hs
      rw [show off + (k + i) * 4 = off + k * 4 + i * 4 by omega] at this
      exact this
end Go.Proofs.Ytofieoklcegddaa
