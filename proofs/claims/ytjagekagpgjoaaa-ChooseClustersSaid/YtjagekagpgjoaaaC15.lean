/- choose: rows of ints of the call's own; those whose middle is in the region. -/
import Derived.Test.YtjagekagpgjoaaaC14
namespace Go.Proofs.Ytjagekagpgjoaaa
open Go.RowKit
set_option linter.unusedVariables false
set_option linter.unusedSimpArgs false
set_option maxRecDepth 100000
def ic (zs : List Int) : List Value := zs.map (.int .i64)
theorem ic_one (zs : List Int) : ∀ v ∈ ic zs, v.oneCell' = true := by
  intro v hv
  simp only [ic, List.mem_map] at hv
  obtain ⟨x, _, rfl⟩ := hv
  rfl
/-- a row of ints (t: their type, r: the row's type) of the call's own, blocks from base on -/
def Gi (t : TypeId) (w : World) (base : Nat) (A : Option Addr) (n c : Nat) (zs : List Int) : Prop := zs.length = n ∧ w.ownsRow base t 1 (.slice A n c) n (ic zs)
theorem Gi.nil (t : TypeId) (w : World) (base : Nat) : Gi t w base none 0 0 [] := ⟨rfl, World.ownsRow_nil w base t 1⟩
theorem Gi.kept {t : TypeId} {w w' : World} {base n c : Nat} {A : Option Addr} {xs : List Int} {r : Option Nat} (h : Gi t w base A n c xs) (k : w.grownBy w' r) (hne : blk A = Option.none ∨ blk A ≠ r) : Gi t w' base A n c xs :=
  ⟨h.1, h.2.kept k (by rw [blk_own]; exact hne)⟩
theorem Gi.below {t : TypeId} {w w' : World} {base n c : Nat} {A : Option Addr} {xs : List Int} (h : Gi t w base A n c xs) (b : RowKit.Below w.heap.size w w') : Gi t w' base A n c xs :=
  h.kept (r := Option.none) ⟨b.os, b.tape, b.output, b.size, fun k hk _ => b.block k hk⟩ (by cases blk A <;> simp)
theorem Gi.ri {t : TypeId} {w : World} {base n c : Nat} {A : Option Addr} {zs : List Int} (h : Gi t w base A n c zs) : Ri w w.heap.size A n zs := by
  obtain ⟨hl, hx, h⟩ := h
  refine ⟨hl, ?_⟩
  rcases h with ⟨_, h0⟩ | ⟨g, cap, cur, hv, hb, hg, hnc, hcm, hcs, htk⟩
  · exact .inl h0
  · cases hv
    have hlt : g < w.heap.size := (Array.getElem?_eq_some_iff.1 hg).1
    refine .inr ⟨g, 0, rfl, hlt, fun i z hz => ?_⟩
    have hi : i < n := by
      have := (List.getElem?_eq_some_iff.1 hz).1
      omega
    have e : (ic zs)[i]? = some (.int .i64 z) := by unfold ic; rw [List.getElem?_map, hz]; rfl
    rw [← htk, List.getElem?_take_of_lt (by omega)] at e
    have e' : cur[i]? = some (.int .i64 z) := by simpa using e
    simp only [World.cell?, hg, Nat.zero_add]
    simpa using e'
theorem Try.info3 : (Try.prog.info? 3).map (fun i => (i.zero, i.size, i.bytes)) = some (some (.int .i64 0), 1, 8) := by kernel_rfl
theorem Try.info2 : (Try.prog.info? 2).map (fun i => (i.zero, i.size, i.bytes)) = some (some (.int .i64 0), 1, 8) := by kernel_rfl
/-- one more int -/
theorem wpList_app_i (w : World) {ops : Array Oper} {rest : List Oper} {o : Oper} {a : Act} {Q : Exit → Act → World → Prop} (hgd : o.guard = none) (s x : Operand)
    (ho : o.op = .call { callee := .builtin .append, args := #[s, x], argTypes := #[27, 27] }) {base n c g c2 : Nat} {y : Int} {A : Option Addr} {zs : List Int} {w0 : World} {t : TypeId} {fr : Nat × Nat}
    (hs : a.eval s = .slice A n c) (hown : Gi 3 w base A n c zs) (hx : a.eval x = .slice (some ⟨g, 0, none⟩) 1 c2) (hc : w.heap[g]? = some (.cells #[.int .i64 y] t fr))
    (hn : n ≤ 1099511627776) (hb : Below base w0 w) (hbase : base ≤ w.heap.size)
    (h : ∀ A' c' w', Gi 3 w' base A' (n + 1) c' (zs ++ [y]) → Below base w0 w' → wpList Try.prog ops Q rest (a.put o.dst (.slice A' (n + 1) c')) w') : wpList Try.prog ops Q (o :: rest) a w := by
  obtain ⟨i0, hi, hz0, hz1, hz2⟩ := info_parts Try.info3
  refine wpList_append_own w hgd s x 27 ho base 3 i0 (.int .i64 0) 1 8 Try.underlying27 hi hz0 hz1 hz2 rfl (by decide) _ n (ic zs) hs hown.2 ⟨g, 0, none⟩ 1 c2 (ic [y]) hx rfl ?_ (ic_one _) (by unfold maxLen; omega) (by omega) hbase ?_
  · intro j u hj
    exact World.news_of_block hc j u (by simpa [ic] using hj)
  · intro v' w' hown' hgrow _
    obtain ⟨A', c', rfl⟩ := own_shape hown'
    exact h A' c' w' ⟨by simp [hown.1], by simpa [ic] using hown'⟩ (hb.grown hgrow hbase fun k hk => (hown.2.lt k hk).1)
/-- one more int64 -/
theorem wpList_app_l (w : World) {ops : Array Oper} {rest : List Oper} {o : Oper} {a : Act} {Q : Exit → Act → World → Prop} (hgd : o.guard = none) (s x : Operand)
    (ho : o.op = .call { callee := .builtin .append, args := #[s, x], argTypes := #[33, 33] }) {base n c g c2 : Nat} {y : Int} {A : Option Addr} {zs : List Int} {w0 : World} {t : TypeId} {fr : Nat × Nat}
    (hs : a.eval s = .slice A n c) (hown : Gi 2 w base A n c zs) (hx : a.eval x = .slice (some ⟨g, 0, none⟩) 1 c2) (hc : w.heap[g]? = some (.cells #[.int .i64 y] t fr))
    (hn : n ≤ 1099511627776) (hb : Below base w0 w) (hbase : base ≤ w.heap.size)
    (h : ∀ A' c' w', Gi 2 w' base A' (n + 1) c' (zs ++ [y]) → Below base w0 w' → wpList Try.prog ops Q rest (a.put o.dst (.slice A' (n + 1) c')) w') : wpList Try.prog ops Q (o :: rest) a w := by
  obtain ⟨i0, hi, hz0, hz1, hz2⟩ := info_parts Try.info2
  refine wpList_append_own w hgd s x 33 ho base 2 i0 (.int .i64 0) 1 8 Try.underlying33 hi hz0 hz1 hz2 rfl (by decide) _ n (ic zs) hs hown.2 ⟨g, 0, none⟩ 1 c2 (ic [y]) hx rfl ?_ (ic_one _) (by unfold maxLen; omega) (by omega) hbase ?_
  · intro j u hj
    exact World.news_of_block hc j u (by simpa [ic] using hj)
  · intro v' w' hown' hgrow _
    obtain ⟨A', c', rfl⟩ := own_shape hown'
    exact h A' c' w' ⟨by simp [hown.1], by simpa [ic] using hown'⟩ (hb.grown hgrow hbase fun k hk => (hown.2.lt k hk).1)
/-- the places whose middle lies in the region -/
def svN (xs : List Sp) (lo hi : Int) : Nat → List Int
  | 0 => []
  | j + 1 => svN xs lo hi j ++ (match xs[j]? with | some s => if lo ≤ s.mid ∧ s.mid ≤ hi then [(j : Int)] else [] | none => [])
theorem svN_len (xs : List Sp) (lo hi : Int) (j : Nat) : (svN xs lo hi j).length ≤ j := by
  induction j with
  | zero => exact Nat.le_refl _
  | succ j ih =>
    unfold svN
    rw [List.length_append]
    have : (match xs[j]? with | some s => if lo ≤ s.mid ∧ s.mid ≤ hi then [(j : Int)] else [] | none => []).length ≤ 1 := by
      split
      · split <;> simp
      · simp
    omega
theorem svN_in {xs : List Sp} {lo hi : Int} {s : Sp} {j : Nat} (h : xs[j]? = some s) (hl : lo ≤ s.mid) (hh : s.mid ≤ hi) : (svN xs lo hi (j + 1)) = svN xs lo hi j ++ [(j : Int)] := by
  show svN xs lo hi j ++ _ = _
  rw [h]
  dsimp only
  rw [if_pos ⟨hl, hh⟩]
theorem svN_out {xs : List Sp} {lo hi : Int} {s : Sp} {j : Nat} (h : xs[j]? = some s) (hl : ¬ (lo ≤ s.mid ∧ s.mid ≤ hi)) : (svN xs lo hi (j + 1)) = svN xs lo hi j := by
  show svN xs lo hi j ++ _ = _
  rw [h]
  dsimp only
  rw [if_neg hl, List.append_nil]
theorem svN_mem {xs : List Sp} {lo hi : Int} {s : Sp} {i n : Nat} (h : xs[i]? = some s) (hi' : i < n) (hl : lo ≤ s.mid) (hh : s.mid ≤ hi) : (i : Int) ∈ svN xs lo hi n := by
  induction n with
  | zero => omega
  | succ n ih =>
    rcases Nat.lt_or_ge i n with h1 | h1
    · unfold svN
      exact List.mem_append_left _ (ih h1)
    · have e : i = n := by omega
      subst e
      rw [svN_in h hl hh]
      simp
end Go.Proofs.Ytjagekagpgjoaaa
