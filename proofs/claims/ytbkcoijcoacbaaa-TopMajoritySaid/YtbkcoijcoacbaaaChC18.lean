/- choose: rows of intervals of the call's own. -/
import Derived.Test.YtbkcoijcoacbaaaChC11
namespace Go.Proofs.Ytbkcoijcoacbaaa.Ch
open Go.RowKit
set_option linter.unusedVariables false
set_option linter.unusedSimpArgs false
set_option maxRecDepth 100000
def Sp.cs (s : Sp) : List Value := [.int .i64 s.lo, .int .i64 s.mid, .int .i64 s.hi]
def in64 (n : Int) : Prop := -9223372036854775808 ≤ n ∧ n ≤ 9223372036854775807
def Sp.ok (s : Sp) : Prop := in64 s.lo ∧ in64 s.mid ∧ in64 s.hi
def scP (xs : List Sp) : List Value := xs.flatMap Sp.cs
theorem scP_len (xs : List Sp) : (scP xs).length = 3 * xs.length := by
  induction xs with
  | nil => rfl
  | cons x xs ih => simp only [scP, List.flatMap_cons, List.length_append, List.length_cons, Sp.cs] at ih ⊢; simp at ih ⊢; omega
theorem scP_cons (x : Sp) (xs : List Sp) : scP (x :: xs) = x.cs ++ scP xs := rfl
theorem scP_get {xs : List Sp} {i : Nat} {s : Sp} (h : xs[i]? = some s) (q : Nat) (hq : q < 3) : (scP xs)[3 * i + q]? = s.cs[q]? := by
  induction xs generalizing i with
  | nil => simp at h
  | cons x xs ih =>
    rw [scP_cons]
    cases i with
    | zero =>
      simp at h
      subst h
      rw [List.getElem?_append_left (by show 3 * 0 + q < 3; omega)]
      rw [show 3 * 0 + q = q by omega]
    | succ i =>
      have hl : x.cs.length = 3 := rfl
      rw [List.getElem?_append_right (by rw [hl]; omega), hl, show 3 * (i + 1) + q - 3 = 3 * i + q by omega]
      exact ih (by simpa using h)
theorem scP_append (xs ys : List Sp) : scP (xs ++ ys) = scP xs ++ scP ys := by simp [scP]
theorem scP_one (xs : List Sp) : ∀ v ∈ scP xs, v.oneCell' = true := by
  intro v hv
  simp only [scP, List.mem_flatMap, Sp.cs] at hv
  obtain ⟨x, _, hx⟩ := hv
  simp at hx
  rcases hx with rfl | rfl | rfl <;> rfl
/-- a row of intervals of the call's own, blocks from base on -/
def Gp (w : World) (base : Nat) (A : Option Addr) (n c : Nat) (xs : List Sp) : Prop := xs.length = n ∧ w.ownsRow base 28 3 (.slice A n c) n (scP xs)
theorem Gp.nil (w : World) (base : Nat) : Gp w base none 0 0 [] := ⟨rfl, World.ownsRow_nil w base 28 3⟩
theorem Try.info28 : (Try.prog.info? 28).map (fun i => (i.zero, i.size, i.bytes)) = some (some (.agg #[.int .i64 0, .int .i64 0, .int .i64 0]), 3, 24) := by kernel_rfl
theorem Gp.kept {w w' : World} {base n c : Nat} {A : Option Addr} {xs : List Sp} {r : Option Nat} (h : Gp w base A n c xs) (k : w.grownBy w' r) (hne : blk A = Option.none ∨ blk A ≠ r) : Gp w' base A n c xs :=
  ⟨h.1, h.2.kept k (by rw [blk_own]; exact hne)⟩
theorem Gp.below {w w' : World} {base n c : Nat} {A : Option Addr} {xs : List Sp} (h : Gp w base A n c xs) (b : RowKit.Below w.heap.size w w') : Gp w' base A n c xs :=
  h.kept (r := Option.none) ⟨b.os, b.tape, b.output, b.size, fun k hk _ => b.block k hk⟩ (by cases blk A <;> simp)
theorem Gp.lt {w : World} {base n c : Nat} {A : Option Addr} {xs : List Sp} (h : Gp w base A n c xs) : ∀ k, blk A = some k → base ≤ k ∧ k < w.heap.size := fun k hk => h.2.lt k (by rw [blk_own]; exact hk)
theorem Gp.rs {w : World} {base n c : Nat} {A : Option Addr} {xs : List Sp} (h : Gp w base A n c xs) : Rs w w.heap.size A n xs := by
  obtain ⟨hl, hx, h⟩ := h
  refine ⟨hl, ?_⟩
  rcases h with ⟨_, h0⟩ | ⟨g, cap, cur, hv, hb, hg, hnc, hcm, hcs, htk⟩
  · exact .inl h0
  · cases hv
    have hlt : g < w.heap.size := (Array.getElem?_eq_some_iff.1 hg).1
    refine .inr ⟨g, 0, rfl, hlt, fun i s hs => ?_⟩
    have hi : i < n := by
      have := (List.getElem?_eq_some_iff.1 hs).1
      omega
    have H : ∀ q v, q < 3 → s.cs[q]? = some v → w.cell? ⟨g, 0 + i * 3 + q, none⟩ = some v := fun q v hq hv => by
      have e := scP_get hs q hq
      rw [← htk, List.getElem?_take_of_lt (by omega), hv] at e
      have e' : cur[3 * i + q]? = some v := by simpa using e
      rw [show 0 + i * 3 + q = 3 * i + q by omega]
      simp only [World.cell?, hg]
      simpa using e'
    exact ⟨H 0 _ (by omega) rfl, H 1 _ (by omega) rfl, H 2 _ (by omega) rfl⟩
theorem Rs.sc {w : World} {B n : Nat} {A : Option Addr} {ys : List Sp} (h : Rs w B A n ys) (h0 : 0 < n) : ∃ g off, A = some ⟨g, off, none⟩ ∧ g < B ∧ ∀ j u, (Ytbkcoijcoacbaaa.Ch.scP ys)[j]? = some u → w.cell? ((⟨g, off, none⟩ : Addr).add j) = some u := by
  rcases h.2 with h1 | ⟨g, off, rfl, hg, hc⟩
  · omega
  · refine ⟨g, off, rfl, hg, fun j u hj => ?_⟩
    have hlt : j < 3 * ys.length := by
      have := (List.getElem?_eq_some_iff.1 hj).1
      rwa [scP_len] at this
    have hi : j / 3 < ys.length := by omega
    obtain ⟨s, hs⟩ : ∃ s, ys[j / 3]? = some s := ⟨_, List.getElem?_eq_getElem hi⟩
    have e := scP_get hs (j % 3) (by omega)
    rw [show 3 * (j / 3) + j % 3 = j by omega, hj] at e
    obtain ⟨c0, c1, c2⟩ := hc (j / 3) s hs
    rw [Addr.add_mid]
    have hq : j % 3 = 0 ∨ j % 3 = 1 ∨ j % 3 = 2 := by omega
    rcases hq with hq | hq | hq
    · rw [show off + j = off + j / 3 * 3 by omega, c0]; rw [hq] at e; exact e.symm
    · rw [show off + j = off + j / 3 * 3 + 1 by omega, c1]; rw [hq] at e; exact e.symm
    · rw [show off + j = off + j / 3 * 3 + 2 by omega, c2]; rw [hq] at e; exact e.symm
theorem run_app_nil {P : Program} (w : World) (base : Nat) (t ty e : TypeId) (i : TypeInfo) (size : Nat) (ht : P.underlying t = some (.slice e)) (hi : P.info? e = some i)
    (v : Value) (n : Nat) (xs : List Value) (hown : w.ownsRow base e size v n xs) (c : Nat) : (Builtin.append_ #[t, t] ty #[v, .slice none 0 c]).run P w = .ok v w := by
  rcases hown.2 with ⟨rfl, rfl⟩ | ⟨g, cap, cur, rfl, _, _, hnc, _⟩
  · simp [Builtin.append_, run_underlying ht, sizeOf, typeInfo, hi, Builtin.lenOf, Builtin.firstCells]
  · simp [Builtin.append_, run_underlying ht, sizeOf, typeInfo, hi, Builtin.lenOf, Builtin.firstCells, hnc, storeCells]
theorem grown_refl (w : World) (r : Option Nat) : w.grownBy w r := ⟨rfl, rfl, rfl, Nat.le_refl _, fun _ _ _ => rfl⟩
/-- a row behind a row of the call's own -/
theorem wpList_app_r (w : World) {ops : Array Oper} {rest : List Oper} {o : Oper} {a : Act} {Q : Exit → Act → World → Prop} (hgd : o.guard = none) (s x : Operand)
    (ho : o.op = .call { callee := .builtin .append, args := #[s, x], argTypes := #[24, 24] }) {base n c B m c2 : Nat} {A A2 : Option Addr} {xs ys : List Sp}
    (hs : a.eval s = .slice A n c) (hown : Gp w base A n c xs) (hx : a.eval x = .slice A2 m c2) (hr : Rs w B A2 m ys)
    (hn : n + m ≤ 1099511627776) (hbase : base ≤ w.heap.size)
    (h : ∀ A' c' w', Gp w' base A' (n + m) c' (xs ++ ys) → w.grownBy w' (blk A) → (blk A' = blk A ∨ blk A' = some w.heap.size) → wpList Try.prog ops Q rest (a.put o.dst (.slice A' (n + m) c')) w') : wpList Try.prog ops Q (o :: rest) a w := by
  obtain ⟨i0, hi, hz0, hz1, hz2⟩ := info_parts Try.info28
  have hyl := hr.1
  by_cases hm : A2 = none
  · subst hm
    have hm : m = 0 := by
      rcases hr.2 with h0 | ⟨_, _, e, _⟩
      · exact h0
      · cases e
    subst hm
    have hy : ys = [] := List.eq_nil_of_length_eq_zero hyl
    subst hy
    refine wpList_plain hgd fun K hK => ?_
    have hrun := run_app_nil (P := Try.prog) w base 24 o.type 28 i0 3 Try.underlying24 hi (.slice A n c) n (scP xs) hown.2 c2
    unfold Oper.wp
    simp [execOp, ho, resolve, invoke, builtin, hs, hx, hrun, Result.andThen]
    exact hK _ _ (h A c w (by simpa using hown) (grown_refl _ _) (.inl rfl))
  · obtain ⟨ad, rfl⟩ : ∃ ad, A2 = some ad := Option.ne_none_iff_exists'.1 hm
    have hnews : ∀ j u, (scP ys)[j]? = some u → w.cell? (ad.add j) = some u := by
      rcases Nat.eq_zero_or_pos m with h0 | h0
      · intro j u hj
        have : ys = [] := List.eq_nil_of_length_eq_zero (by omega)
        subst this
        simp [scP] at hj
      · obtain ⟨g, off, e, _, hc⟩ := hr.sc h0
        cases e
        exact hc
    refine wpList_append_own_at w hgd s x 24 ho base 28 i0 (.agg #[.int .i64 0, .int .i64 0, .int .i64 0]) 3 24 Try.underlying24 hi hz0 hz1 hz2 rfl (by decide) _ n (scP xs) hs hown.2 ad m c2 (scP ys) hx (by rw [scP_len]; omega) hnews (scP_one _) (by unfold maxLen; omega) (by omega) hbase ?_
    intro v' w' hown' hgrow _ hat
    obtain ⟨A', c', rfl⟩ := own_shape hown'
    rw [blk_own, blk_own] at hat
    rw [blk_own] at hgrow
    exact h A' c' w' ⟨by simp [hown.1, hyl], by rw [scP_append]; exact hown'⟩ hgrow hat
/-- one more interval -/
theorem wpList_app_p (w : World) {ops : Array Oper} {rest : List Oper} {o : Oper} {a : Act} {Q : Exit → Act → World → Prop} (hgd : o.guard = none) (s x : Operand)
    (ho : o.op = .call { callee := .builtin .append, args := #[s, x], argTypes := #[24, 24] }) {base n c g c2 : Nat} {y : Sp} {A : Option Addr} {xs : List Sp} {w0 : World} {t : TypeId} {fr : Nat × Nat}
    (hs : a.eval s = .slice A n c) (hown : Gp w base A n c xs) (hx : a.eval x = .slice (some ⟨g, 0, none⟩) 1 c2) (hc : w.heap[g]? = some (.cells #[.int .i64 y.lo, .int .i64 y.mid, .int .i64 y.hi] t fr))
    (hn : n ≤ 1099511627776) (hb : Below base w0 w) (hbase : base ≤ w.heap.size)
    (h : ∀ A' c' w', Gp w' base A' (n + 1) c' (xs ++ [y]) → Below base w0 w' → wpList Try.prog ops Q rest (a.put o.dst (.slice A' (n + 1) c')) w') : wpList Try.prog ops Q (o :: rest) a w := by
  obtain ⟨i0, hi, hz0, hz1, hz2⟩ := info_parts Try.info28
  refine wpList_append_own w hgd s x 24 ho base 28 i0 (.agg #[.int .i64 0, .int .i64 0, .int .i64 0]) 3 24 Try.underlying24 hi hz0 hz1 hz2 rfl (by decide) _ n (scP xs) hs hown.2 ⟨g, 0, none⟩ 1 c2 (scP [y]) hx rfl ?_ (scP_one _) (by unfold maxLen; omega) (by omega) hbase ?_
  · intro j u hj
    exact World.news_of_block hc j u (by simpa [scP, Sp.cs] using hj)
  · intro v' w' hown' hgrow _
    obtain ⟨A', c', rfl⟩ := own_shape hown'
    exact h A' c' w' ⟨by simp [hown.1], by rw [scP_append]; exact hown'⟩ (hb.grown hgrow hbase fun k hk => (hown.2.lt k hk).1)
theorem cov_append (xs ys : List Sp) (x : Int) : cov (xs ++ ys) x = cov xs x + cov ys x := by simp [cov]
theorem cov_mono {xs : List Sp} {x y : Int} (h : ∀ s ∈ xs, s.has x → s.has y) : cov xs x ≤ cov xs y := by
  induction xs with
  | nil => exact Int.le_refl _
  | cons s xs ih =>
    have h1 := h s (List.mem_cons_self ..)
    have h2 := ih (fun t ht => h t (List.mem_cons_of_mem _ ht))
    rw [cov_cons, cov_cons]
    by_cases k : s.has x
    · rw [if_pos k, if_pos (h1 k)]; omega
    · rw [if_neg k]
      split <;> omega
theorem IsReg.lo_end {xs : List Sp} {a b : Int} (h : IsReg xs a b) : ∃ s ∈ xs, s.lo = a := by
  refine Classical.byContradiction fun hn => ?_
  have hm : cov xs a ≤ cov xs (a - 1) := cov_mono fun s hs hx => by
    have : s.lo ≠ a := fun e => hn ⟨s, hs, e⟩
    unfold Sp.has at hx ⊢
    omega
  have h1 := h.1
  unfold Maj at h1
  have := (h.2.2 (a - 1) (by unfold Maj; omega)).1
  omega
theorem IsReg.hi_end {xs : List Sp} {a b : Int} (h : IsReg xs a b) : ∃ s ∈ xs, s.hi = b := by
  refine Classical.byContradiction fun hn => ?_
  have hm : cov xs b ≤ cov xs (b + 1) := cov_mono fun s hs hx => by
    have : s.hi ≠ b := fun e => hn ⟨s, hs, e⟩
    unfold Sp.has at hx ⊢
    omega
  have h1 := h.2.1
  unfold Maj at h1
  have := (h.2.2 (b + 1) (by unfold Maj; omega)).2
  omega
def full : Sp := ⟨-9223372036854775808, 0, 9223372036854775807⟩
theorem more_maj {xs : List Sp} {x : Int} (h : Maj xs x) (hx : in64 x) : Maj (xs ++ [full]) x := by
  unfold Maj at h ⊢
  rw [cov_append, cov_cons, cov_nil, if_pos (show full.has x from hx), List.length_append, List.length_singleton, Int.natCast_add]
  omega
end Go.Proofs.Ytbkcoijcoacbaaa.Ch
