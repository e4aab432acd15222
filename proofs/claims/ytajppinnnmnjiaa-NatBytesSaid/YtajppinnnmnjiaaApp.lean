/- append of a row that came in; copied; clepsydraref01.moved and sum. -/
import Derived.Test.YtajppinnnmnjiaaNumber
namespace Go.Proofs.Ytajppinnnmnjiaa
open Go.RowKit

theorem run_app_nil {P : Program} (w : World) (base : Nat) (t ty e : TypeId) (i : TypeInfo) (size : Nat) (ht : P.underlying t = some (.slice e)) (hi : P.info? e = some i)
    (v : Value) (n : Nat) (xs : List Value) (hown : w.ownsRow base e size v n xs) (c : Nat) : (Builtin.append_ #[t, t] ty #[v, .slice none 0 c]).run P w = .ok v w := by
  rcases hown.2 with ⟨rfl, rfl⟩ | ⟨g, cap, cur, rfl, _, _, hnc, _⟩
  · simp [Builtin.append_, run_underlying ht, sizeOf, typeInfo, hi, Builtin.lenOf, Builtin.firstCells]
  · simp [Builtin.append_, run_underlying ht, sizeOf, typeInfo, hi, Builtin.lenOf, Builtin.firstCells, hnc, storeCells]

theorem wpList_app_row_u (w : World) {ops : Array Oper} {rest : List Oper} {o : Oper} {a : Act} {Q : Exit → Act → World → Prop} (hgd : o.guard = none) (s x : Operand)
    (ho : o.op = .call { callee := .builtin .append, args := #[s, x], argTypes := #[22, 22] }) {base n c B m c2 : Nat} {A A2 : Option Addr} {xs ys : List Nat} {w0 : World}
    (hs : a.eval s = .slice A n c) (hown : Gu w base A n c xs) (hx : a.eval x = .slice A2 m c2) (hr : Nt w B A2 m c2 ys)
    (hn : n + m ≤ 1099511627776) (hb : Below base w0 w) (hbase : base ≤ w.heap.size)
    (h : ∀ A' c' w', Gu w' base A' (n + m) c' (xs ++ ys) → Below base w0 w' → wpList Try.prog ops Q rest (a.put o.dst (.slice A' (n + m) c')) w') : wpList Try.prog ops Q (o :: rest) a w := by
  obtain ⟨i0, hi, hz0, hz1, hz2⟩ := info_parts Try.info32
  rcases A2 with _ | ad
  · have hm : m = 0 := by
      rcases Nat.eq_zero_or_pos m with h0 | h0
      · exact h0
      · obtain ⟨b, off, e, _⟩ := hr.cell h0
        cases e
    subst hm
    have hy : ys = [] := List.eq_nil_of_length_eq_zero hr.len
    subst hy
    refine wpList_plain hgd fun K hK => ?_
    have hrun := run_app_nil (P := Try.prog) w base 22 o.type 32 i0 1 Try.underlying22 hi (.slice A n c) n (us xs) hown.2 c2
    unfold Oper.wp
    simp [execOp, ho, resolve, invoke, builtin, hs, hx, hrun, Result.andThen]
    exact hK _ _ (h A c w (by simpa using hown) hb)
  · refine wpList_append_own w hgd s x 22 ho base 32 i0 (.int .u64 0) 1 8 Try.underlying22 hi hz0 hz1 hz2 rfl (by decide) _ n (us xs) hs hown.2 ad m c2 (us ys) hx (by simp [us, hr.len]) ?_ (us_one ys) (by unfold maxLen; omega) (by omega) hbase ?_
    · intro j u hj
      simp only [us, List.getElem?_map, Option.map_eq_some_iff] at hj
      obtain ⟨y, hy, rfl⟩ := hj
      have hjm : j < m := by
        rw [← hr.len]
        rcases Nat.lt_or_ge j ys.length with h | h
        · exact h
        · rw [List.getElem?_eq_none h] at hy; cases hy
      obtain ⟨b, off, e, _, hc⟩ := hr.cell (by omega)
      cases e
      by_cases hj0 : j = 0
      · subst hj0; simpa [Addr.add] using hc 0 y hy
      · simpa [Addr.add, hj0] using hc j y hy
    · intro v' w' hown' hgrow _
      obtain ⟨A', c', rfl⟩ := own_shape hown'
      refine h A' c' w' ⟨by simp [hown.1, hr.len], by rw [us_append]; exact hown'⟩ (hb.grown hgrow hbase fun k hk => (hown.2.lt k hk).1)
theorem wpList_app_row_i (w : World) {ops : Array Oper} {rest : List Oper} {o : Oper} {a : Act} {Q : Exit → Act → World → Prop} (hgd : o.guard = none) (s x : Operand)
    (ho : o.op = .call { callee := .builtin .append, args := #[s, x], argTypes := #[49, 49] }) {base n c B m c2 : Nat} {A A2 : Option Addr} {xs ys : List Nat} {w0 : World}
    (hs : a.eval s = .slice A n c) (hown : Gi w base A n c xs) (hx : a.eval x = .slice A2 m c2) (hr : Ni w B A2 m c2 ys)
    (hn : n + m ≤ 1099511627776) (hb : Below base w0 w) (hbase : base ≤ w.heap.size)
    (h : ∀ A' c' w', Gi w' base A' (n + m) c' (xs ++ ys) → Below base w0 w' → wpList Try.prog ops Q rest (a.put o.dst (.slice A' (n + m) c')) w') : wpList Try.prog ops Q (o :: rest) a w := by
  obtain ⟨i0, hi, hz0, hz1, hz2⟩ := info_parts Try.info3
  rcases A2 with _ | ad
  · have hm : m = 0 := by
      rcases Nat.eq_zero_or_pos m with h0 | h0
      · exact h0
      · obtain ⟨b, off, e, _⟩ := hr.cell h0
        cases e
    subst hm
    have hy : ys = [] := List.eq_nil_of_length_eq_zero hr.len
    subst hy
    refine wpList_plain hgd fun K hK => ?_
    have hrun := run_app_nil (P := Try.prog) w base 49 o.type 3 i0 1 Try.underlying49 hi (.slice A n c) n (is xs) hown.2 c2
    unfold Oper.wp
    simp [execOp, ho, resolve, invoke, builtin, hs, hx, hrun, Result.andThen]
    exact hK _ _ (h A c w (by simpa using hown) hb)
  · refine wpList_append_own w hgd s x 49 ho base 3 i0 (.int .i64 0) 1 8 Try.underlying49 hi hz0 hz1 hz2 rfl (by decide) _ n (is xs) hs hown.2 ad m c2 (is ys) hx (by simp [is, hr.len]) ?_ ?_ (by unfold maxLen; omega) (by omega) hbase ?_
    · intro j u hj
      simp only [is, List.getElem?_map, Option.map_eq_some_iff] at hj
      obtain ⟨y, hy, rfl⟩ := hj
      have hjm : j < m := by
        rw [← hr.len]
        rcases Nat.lt_or_ge j ys.length with h | h
        · exact h
        · rw [List.getElem?_eq_none h] at hy; cases hy
      obtain ⟨b, off, e, _, hc⟩ := hr.cell (by omega)
      cases e
      by_cases hj0 : j = 0
      · subst hj0; simpa [Addr.add] using hc 0 y hy
      · simpa [Addr.add, hj0] using hc j y hy
    · intro v hv
      simp only [is, List.mem_map] at hv
      obtain ⟨y, _, rfl⟩ := hv
      rfl
    · intro v' w' hown' hgrow _
      obtain ⟨A', c', rfl⟩ := own_shape hown'
      refine h A' c' w' ⟨by simp [hown.1, hr.len], by rw [is_append]; exact hown'⟩ (hb.grown hgrow hbase fun k hk => (hown.2.lt k hk).1)

/-- clepsydralaw01.copied -/
theorem copied_any {w : World} {A : Option Addr} {n c : Nat} {xs : List Nat} (h : Nt w w.heap.size A n c xs) (hn : n ≤ 1099511627776) :
    Calls Try.prog 14 #[.slice A n c] w fun e w' => ∃ A' c', e = .returned (.slice A' n c') ∧ Nt w' w'.heap.size A' n c' xs ∧ Below w.heap.size w w' := by
  have hr := h.rooms
  go_enter Try.func14, Try.ntmps14
  go_wp2_with (refine wpList_app_row_u _ rfl _ _ rfl rfl (Gu.nil _ w.heap.size) rfl h (by omega) (Below.refl _ _) (Nat.le_refl _) ?_; intro A3 c3 w3 hG3 hB3)
  go_ret
  rw [Nat.zero_add] at *
  rw [List.nil_append] at hG3
  exact ⟨_, _, rfl, hG3.nt h.lim, hB3⟩

/-- clepsydraref01.moved: n noughts ahead -/
def RetR (N L : Nat) (w : World) (e : Ending) (w' : World) : Prop := ∃ A n c ds, e = .returned (.slice A n c) ∧ n ≤ L ∧ Ni w' w'.heap.size A n c ds ∧ val 2 ds = N ∧ Below w.heap.size w w'
theorem moved_val {ds : List Nat} {j : Nat} : val 2 (List.replicate j 0 ++ ds) = val 2 ds * 2 ^ j := by
  rw [val_append, val_replicate, List.length_replicate, Nat.zero_add, Nat.mul_comm]
set_option maxHeartbeats 800000 in
theorem moved_any {w : World} {A : Option Addr} {n c : Nat} {ds : List Nat} (h : Ni w w.heap.size A n c ds) (hn : n ≤ 1099511627) (k : Nat) (hk : k ≤ 1099511627) :
    Calls Try.prog 51 #[.slice A n c, .int .i64 (k : Int)] w (RetR (val 2 ds * 2 ^ k) (n + k) w) := by
  have hr := h.rooms
  have Hlen := Lib.hid h.len
  go_enter Try.func51, Try.ntmps51
  go_wp2
  go_loopw [5, 6] (fun v i wr => ∃ (j : Nat) (A' : Option Addr) (c' : Nat), j ≤ k ∧ i = .int .i64 j ∧ v = .slice A' j c' ∧ Gi wr w.heap.size A' j c' (List.replicate j 0) ∧ Below w.heap.size w wr) (fun _ i _ => k - (intOf i).toNat)
  case atStart => exact ⟨0, none, 0, Nat.zero_le _, rfl, rfl, Gi.nil _ _, Below.refl _ _⟩
  case round =>
    obtain ⟨j, A', c', hj, rfl, rfl, hG, hB⟩ := hrel
    have hs := hB.size
    by_cases h0 : n = 0
    · have Hz : Hid (val 2 ds = 0) := by
        show _ = _
        rw [List.eq_nil_of_length_eq_zero (show ds.length = 0 by rw [Hlen.out]; exact h0)]; rfl
      have hd : decide ((0 : Int) < (n : Int)) = false := by simp; omega
      have hnn : (n : Int) ≤ 0 := by omega
      clear h0
      by_cases hlt : j < k
      · go_wp2_with (refine wpList_app_row_i _ rfl _ _ rfl rfl hG rfl (h.below hB) (by omega) hB hs ?_; intro A3 c3 w3 hG3 hB3)
        go_ret
        exact ⟨_, _, _, _, rfl, by omega, hG3.ni ((lim_replicate (by omega) _).append h.lim), by rw [moved_val, Hz.out]; simp, hB3⟩
      · have hlt' : k ≤ j := by omega
        clear hlt
        go_wp2_with (refine wpList_app_row_i _ rfl _ _ rfl rfl hG rfl (h.below hB) (by omega) hB hs ?_; intro A3 c3 w3 hG3 hB3)
        go_ret
        exact ⟨_, _, _, _, rfl, by omega, hG3.ni ((lim_replicate (by omega) _).append h.lim), by rw [moved_val, Hz.out]; simp, hB3⟩
    · have hpos : (0 : Int) < (n : Int) := by omega
      by_cases hlt : j < k
      · go_wp2_with (refine wpList_app_i (y := 0) _ rfl _ _ rfl rfl (hG.alloc _) rfl (cell_new _ _ _) (by omega) (hB.alloc hs _) (by simp; omega) ?_; intro A3 c3 w3 hG3 hB3)
        go_roundw
        case rel => exact ⟨j + 1, A3, c3, by omega, by go_num, rfl, by rw [List.replicate_succ']; exact hG3, hB3⟩
        case measure => simp [intOf]; omega
      · obtain rfl : j = k := by omega
        clear hlt
        go_wp2_with (refine wpList_app_row_i _ rfl _ _ rfl rfl hG rfl (h.below hB) (by omega) hB hs ?_; intro A3 c3 w3 hG3 hB3)
        go_ret
        exact ⟨_, _, _, _, rfl, by omega, hG3.ni ((lim_replicate (by omega) _).append h.lim), by rw [moved_val], hB3⟩

/-- clepsydraref01.sum -/
theorem sum_digit (x y c : Nat) : (x + y + c) % 2 + (x + y + c) / 2 * 2 = x + y + c := by omega
set_option maxHeartbeats 1600000 in
theorem rsum_any {w : World} {A A2 : Option Addr} {n c n2 c2 L : Nat} {xs ys : List Nat} (h : Ni w w.heap.size A n c xs) (h2 : Ni w w.heap.size A2 n2 c2 ys) (hn : n ≤ L) (hn2 : n2 ≤ L) (hL : L ≤ 1099511627) :
    Calls Try.prog 49 #[.slice A n c, .slice A2 n2 c2] w (RetR (val 2 xs + val 2 ys) (L + 1) w) := by
  have hr := h.rooms
  have hr2 := h2.rooms
  have Hl := Lib.hid h.len
  have Hl2 := Lib.hid h2.len
  go_enter Try.func49, Try.ntmps49
  go_wp2
  go_loopw [5, 6, 7] (fun v cv i wr => ∃ (j cy : Nat) (A' : Option Addr) (c' : Nat) (ds : List Nat), j ≤ L + 1 ∧ cy ≤ 1 ∧ i = .int .i64 j ∧ cv = .int .i64 cy ∧ v = .slice A' j c' ∧ Gi wr w.heap.size A' j c' ds ∧ Lim 2 ds ∧ Below w.heap.size w wr ∧
      Hid (val 2 ds + cy * 2 ^ j = val 2 (xs.take j) + val 2 (ys.take j))) (fun _ _ i _ => L + 2 - (intOf i).toNat)
  case atStart => exact ⟨0, 0, none, 0, [], by omega, by omega, rfl, rfl, rfl, Gi.nil _ _, Lim.nil _, Below.refl _ _, by simp [Hid, val]⟩
  case round =>
    obtain ⟨j, cy, A', c', ds, hj, hcy, rfl, rfl, rfl, hG, hLd, hB, hV⟩ := hrel
    have hs := hB.size
    by_cases hgo : j < n ∨ j < n2 ∨ 0 < cy
    · have hjL : j ≤ L := by
        rcases Nat.lt_or_ge L j with hlt | hge
        · exfalso
          have hv := hV.out
          have e1 := List.take_of_length_le (show xs.length ≤ j by rw [Hl.out]; omega)
          have e2 := List.take_of_length_le (show ys.length ≤ j by rw [Hl2.out]; omega)
          rw [e1, e2] at hv
          have b1 := val_lt h.lim
          have b2 := val_lt h2.lim
          have p1 : 2 ^ xs.length ≤ 2 ^ (j - 1) := Nat.pow_le_pow_right (by omega) (by rw [Hl.out]; omega)
          have p2 : 2 ^ ys.length ≤ 2 ^ (j - 1) := Nat.pow_le_pow_right (by omega) (by rw [Hl2.out]; omega)
          have p3 : 2 ^ j = 2 ^ (j - 1) * 2 := by rw [← Nat.pow_succ]; congr 1; omega
          have hc1 : cy = 1 := by omega
          rw [hc1, Nat.one_mul] at hv
          omega
        · exact hge
      have ht1 := rat_any (h.below hB) (j : Int)
      have ht2 := rat_any (h2.below hB) (j : Int)
      rw [if_neg (by omega), Int.toNat_natCast] at ht1 ht2
      have hx2 := h.lim.get (by omega) j
      have hy2 := h2.lim.get (by omega) j
      obtain ⟨x, hx⟩ : ∃ x, xs.getD j 0 = x := ⟨_, rfl⟩
      obtain ⟨y, hy⟩ : ∃ y, ys.getD j 0 = y := ⟨_, rfl⟩
      rw [hx] at ht1 hx2
      rw [hy] at ht2 hy2
      have Ht1 := Lib.hid ht1
      have Ht2 := Lib.hid ht2
      have Hx := Lib.hid hx
      have Hy := Lib.hid hy
      obtain ⟨m, hm⟩ : ∃ m, (x + y + cy) % 2 = m := ⟨_, rfl⟩
      obtain ⟨d, hd⟩ : ∃ d, (x + y + cy) / 2 = d := ⟨_, rfl⟩
      have em : ((x : Int) + (y : Int) + (cy : Int)) % 2 = (m : Int) := by omega
      have ed : ((x : Int) + (y : Int) + (cy : Int)) / 2 = (d : Int) := by omega
      have hd1 : d ≤ 1 := by omega
      have hm2 : m < 2 := by omega
      have Hmd : Hid (m + d * 2 = x + y + cy) := by show _ = _; omega
      clear ht1 ht2 hx hy hm hd
      have hstep : ∀ (A3 : Option Addr) (c3 : Nat) (w3 : World), Gi w3 w.heap.size A3 (j + 1) c3 (ds ++ [m]) → Below w.heap.size w w3 → ∃ (j' cy' : Nat) (A' : Option Addr) (c' : Nat) (ds' : List Nat), j' ≤ L + 1 ∧ cy' ≤ 1 ∧ Value.int .i64 ((j : Int) + 1) = .int .i64 j' ∧ Value.int .i64 (((x : Int) + (y : Int) + (cy : Int)) / 2) = .int .i64 cy' ∧ Value.slice A3 (j + 1) c3 = .slice A' j' c' ∧ Gi w3 w.heap.size A' j' c' ds' ∧ Lim 2 ds' ∧ Below w.heap.size w w3 ∧
          Hid (val 2 ds' + cy' * 2 ^ j' = val 2 (xs.take j') + val 2 (ys.take j')) := fun A3 c3 w3 hG3 hB3 => by
        refine ⟨j + 1, d, A3, c3, ds ++ [m], by omega, hd1, by simp, by rw [ed], rfl, hG3, hLd.append (Lim.one hm2), hB3, ?_⟩
        show _ = _
        rw [val_snoc, hG.1, val_take_succ, val_take_succ, Hx.out, Hy.out, Nat.pow_succ]
        exact add_step _ _ _ _ _ _ _ _ _ _ Hmd.out hV.out
      have Hstep := Lib.hid hstep
      clear hstep
      by_cases c1 : j < n
      · go_wp2_with (first
          | (go_at_call_of 55 (Value.slice A n c); refine Ht1.out.mono ?_; rintro e w' ⟨rfl, rfl⟩)
          | (go_at_call_of 55 (Value.slice A2 n2 c2); refine Ht2.out.mono ?_; rintro e w' ⟨rfl, rfl⟩)
          | (refine wpList_app_i (y := m) _ rfl _ _ rfl rfl (hG.alloc _) rfl (cell_new _ _ _) (by omega) (hB.alloc hs _) (by simp; omega) ?_; intro A3 c3 w3 hG3 hB3))
        go_roundw
        case rel => exact Hstep.out _ _ _ hG3 hB3
        case measure => simp [intOf]; omega
      · have c1' : decide ((j : Int) < (n : Int)) = false := by simp; omega
        have c1'' : n ≤ j := by omega
        clear c1
        by_cases c2' : j < n2
        · go_wp2_with (first
            | (go_at_call_of 55 (Value.slice A n c); refine Ht1.out.mono ?_; rintro e w' ⟨rfl, rfl⟩)
            | (go_at_call_of 55 (Value.slice A2 n2 c2); refine Ht2.out.mono ?_; rintro e w' ⟨rfl, rfl⟩)
            | (refine wpList_app_i (y := m) _ rfl _ _ rfl rfl (hG.alloc _) rfl (cell_new _ _ _) (by omega) (hB.alloc hs _) (by simp; omega) ?_; intro A3 c3 w3 hG3 hB3))
          go_roundw
          case rel => exact Hstep.out _ _ _ hG3 hB3
          case measure => simp [intOf]; omega
        · have c3' : decide ((j : Int) < (n2 : Int)) = false := by simp; omega
          have c3'' : n2 ≤ j := by omega
          have c4 : (0 : Int) < (cy : Int) := by omega
          clear c2'
          go_wp2_with (first
            | (go_at_call_of 55 (Value.slice A n c); refine Ht1.out.mono ?_; rintro e w' ⟨rfl, rfl⟩)
            | (go_at_call_of 55 (Value.slice A2 n2 c2); refine Ht2.out.mono ?_; rintro e w' ⟨rfl, rfl⟩)
            | (refine wpList_app_i (y := m) _ rfl _ _ rfl rfl (hG.alloc _) rfl (cell_new _ _ _) (by omega) (hB.alloc hs _) (by simp; omega) ?_; intro A3 c3 w3 hG3 hB3))
          go_roundw
          case rel => exact Hstep.out _ _ _ hG3 hB3
          case measure => simp [intOf]; omega
    · have c1 : n ≤ j := by omega
      have c2' : n2 ≤ j := by omega
      obtain rfl : cy = 0 := by omega
      have d1 : decide ((j : Int) < (n : Int)) = false := by simp; omega
      have d2 : decide ((j : Int) < (n2 : Int)) = false := by simp; omega
      have hv := hV.out
      rw [List.take_of_length_le (show xs.length ≤ j by rw [Hl.out]; exact c1), List.take_of_length_le (show ys.length ≤ j by rw [Hl2.out]; exact c2'), Nat.zero_mul, Nat.add_zero] at hv
      have Hv := Lib.hid hv
      clear hv hgo
      go_wp2
      go_ret
      exact ⟨_, _, _, ds, rfl, hj, hG.ni hLd, Hv.out, hB⟩
end Go.Proofs.Ytajppinnnmnjiaa
