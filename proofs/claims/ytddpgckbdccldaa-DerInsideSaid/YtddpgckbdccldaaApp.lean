/- append of a row that came in; copied; clepsydraref01.moved and sum. -/
import Derived.Test.YtddpgckbdccldaaNumber
namespace Go.Proofs.Ytddpgckbdccldaa
set_option linter.unusedSimpArgs false
set_option linter.unusedVariables false
open Go.RowKit

theorem run_app_nil {P : Program} (w : World) (base : Nat) (t ty e : TypeId) (i : TypeInfo) (size : Nat) (ht : P.underlying t = some (.slice e)) (hi : P.info? e = some i)
    (v : Value) (n : Nat) (xs : List Value) (hown : w.ownsRow base e size v n xs) (c : Nat) : (Builtin.append_ #[t, t] ty #[v, .slice none 0 c]).run P w = .ok v w := by
  rcases hown.2 with ⟨rfl, rfl⟩ | ⟨g, cap, cur, rfl, _, _, hnc, _⟩
  · simp [Builtin.append_, run_underlying ht, sizeOf, typeInfo, hi, Builtin.lenOf, Builtin.firstCells]
  · simp [Builtin.append_, run_underlying ht, sizeOf, typeInfo, hi, Builtin.lenOf, Builtin.firstCells, hnc, storeCells]

theorem wpList_app_row_u (w : World) {ops : Array Oper} {rest : List Oper} {o : Oper} {a : Act} {Q : Exit → Act → World → Prop} (hgd : o.guard = none) (s x : Operand)
    (ho : o.op = .call { callee := .builtin .append, args := #[s, x], argTypes := #[33, 33] }) {base n c B m c2 : Nat} {A A2 : Option Addr} {xs ys : List Nat} {w0 : World}
    (hs : a.eval s = .slice A n c) (hown : Gu w base A n c xs) (hx : a.eval x = .slice A2 m c2) (hr : Nt w B A2 m c2 ys)
    (hn : n + m ≤ 1099511627776) (hb : Below base w0 w) (hbase : base ≤ w.heap.size)
    (h : ∀ A' c' w', Gu w' base A' (n + m) c' (xs ++ ys) → Below base w0 w' → wpList Try.prog ops Q rest (a.put o.dst (.slice A' (n + m) c')) w') : wpList Try.prog ops Q (o :: rest) a w := by
  obtain ⟨i0, hi, hz0, hz1, hz2⟩ := info_parts Try.info66
  rcases A2 with _ | ad
  · have hm : m = 0 := by
      rcases Nat.eq_zero_or_pos m with h0 | h0
      · exact h0
      · obtain ⟨b, off, e, _⟩ := hr.cell h0
        cases e
    subst hm
    have hy : ys = [] := List.eq_nil_of_length_eq_zero hr.len
    subst hy
    refine wpList_plain hgd fun K hK => ?_
    have hrun := run_app_nil (P := Try.prog) w base 33 o.type 66 i0 1 Try.underlying33 hi (.slice A n c) n (us xs) hown.2 c2
    unfold Oper.wp
    simp [execOp, ho, resolve, invoke, builtin, hs, hx, hrun, Result.andThen]
    exact hK _ _ (h A c w (by simpa using hown) hb)
  · refine wpList_append_own w hgd s x 33 ho base 66 i0 (.int .u64 0) 1 8 Try.underlying33 hi hz0 hz1 hz2 rfl (by decide) _ n (us xs) hs hown.2 ad m c2 (us ys) hx (by simp [us, hr.len]) ?_ (us_one ys) (by unfold maxLen; omega) (by omega) hbase ?_
    · intro j u hj
      simp only [us, List.getElem?_map, Option.map_eq_some_iff] at hj
      obtain ⟨y, hy, rfl⟩ := hj
      have hjm : j < m := by
        rw [← hr.len]
        rcases Nat.lt_or_ge j ys.length with h | h
        · exact h
        · rw [List.getElem?_eq_none h] at hy; cases hy
      obtain ⟨b, off, e, _, hc⟩ := hr.cell (by omega)
      cases e
      by_cases hj0 : j = 0
      · subst hj0; simpa [Addr.add] using hc 0 y hy
      · simpa [Addr.add, hj0] using hc j y hy
    · intro v' w' hown' hgrow _
      obtain ⟨A', c', rfl⟩ := own_shape hown'
      refine h A' c' w' ⟨by simp [hown.1, hr.len], by rw [us_append]; exact hown'⟩ (hb.grown hgrow hbase fun k hk => (hown.2.lt k hk).1)
theorem wpList_app_row_i (w : World) {ops : Array Oper} {rest : List Oper} {o : Oper} {a : Act} {Q : Exit → Act → World → Prop} (hgd : o.guard = none) (s x : Operand)
    (ho : o.op = .call { callee := .builtin .append, args := #[s, x], argTypes := #[72, 72] }) {base n c B m c2 : Nat} {A A2 : Option Addr} {xs ys : List Nat} {w0 : World}
    (hs : a.eval s = .slice A n c) (hown : Gi w base A n c xs) (hx : a.eval x = .slice A2 m c2) (hr : Ni w B A2 m c2 ys)
    (hn : n + m ≤ 1099511627776) (hb : Below base w0 w) (hbase : base ≤ w.heap.size)
    (h : ∀ A' c' w', Gi w' base A' (n + m) c' (xs ++ ys) → Below base w0 w' → wpList Try.prog ops Q rest (a.put o.dst (.slice A' (n + m) c')) w') : wpList Try.prog ops Q (o :: rest) a w := by
  obtain ⟨i0, hi, hz0, hz1, hz2⟩ := info_parts Try.info3
  rcases A2 with _ | ad
  · have hm : m = 0 := by
      rcases Nat.eq_zero_or_pos m with h0 | h0
      · exact h0
      · obtain ⟨b, off, e, _⟩ := hr.cell h0
        cases e
    subst hm
    have hy : ys = [] := List.eq_nil_of_length_eq_zero hr.len
    subst hy
    refine wpList_plain hgd fun K hK => ?_
    have hrun := run_app_nil (P := Try.prog) w base 72 o.type 3 i0 1 Try.underlying72 hi (.slice A n c) n (is xs) hown.2 c2
    unfold Oper.wp
    simp [execOp, ho, resolve, invoke, builtin, hs, hx, hrun, Result.andThen]
    exact hK _ _ (h A c w (by simpa using hown) hb)
  · refine wpList_append_own w hgd s x 72 ho base 3 i0 (.int .i64 0) 1 8 Try.underlying72 hi hz0 hz1 hz2 rfl (by decide) _ n (is xs) hs hown.2 ad m c2 (is ys) hx (by simp [is, hr.len]) ?_ ?_ (by unfold maxLen; omega) (by omega) hbase ?_
    · intro j u hj
      simp only [is, List.getElem?_map, Option.map_eq_some_iff] at hj
      obtain ⟨y, hy, rfl⟩ := hj
      have hjm : j < m := by
        rw [← hr.len]
        rcases Nat.lt_or_ge j ys.length with h | h
        · exact h
        · rw [List.getElem?_eq_none h] at hy; cases hy
      obtain ⟨b, off, e, _, hc⟩ := hr.cell (by omega)
      cases e
      by_cases hj0 : j = 0
      · subst hj0; simpa [Addr.add] using hc 0 y hy
      · simpa [Addr.add, hj0] using hc j y hy
    · intro v hv
      simp only [is, List.mem_map] at hv
      obtain ⟨y, _, rfl⟩ := hv
      rfl
    · intro v' w' hown' hgrow _
      obtain ⟨A', c', rfl⟩ := own_shape hown'
      refine h A' c' w' ⟨by simp [hown.1, hr.len], by rw [is_append]; exact hown'⟩ (hb.grown hgrow hbase fun k hk => (hown.2.lt k hk).1)


/-- clepsydraref01.moved: n noughts ahead -/
def RetR (N L : Nat) (w : World) (e : Ending) (w' : World) : Prop := ∃ A n c ds, e = .returned (.slice A n c) ∧ n ≤ L ∧ Ni w' w'.heap.size A n c ds ∧ val 2 ds = N ∧ Below w.heap.size w w'
theorem moved_val {ds : List Nat} {j : Nat} : val 2 (List.replicate j 0 ++ ds) = val 2 ds * 2 ^ j := by
  rw [val_append, val_replicate, List.length_replicate, Nat.zero_add, Nat.mul_comm]

/-- clepsydraref01.sum -/
theorem sum_digit (x y c : Nat) : (x + y + c) % 2 + (x + y + c) / 2 * 2 = x + y + c := by omega

end Go.Proofs.Ytddpgckbdccldaa
