/- wire: noughts behind bytes of one's own; bytes with their number. -/
import Derived.Test.YtompggkdjbkjjaaWiW5
import Derived.Lib.AppendZerosOnto
namespace Go.Proofs.Ytompggkdjbkjjaa.Wi
open Go.RowKit
set_option linter.unusedVariables false
set_option maxRecDepth 100000
theorem zero_cells (k : Nat) : (Builtin.zeroCells #[.int .u8 0] k).toList = bs (List.replicate k 0) := by
  apply List.ext_getElem
  · simp [Builtin.zeroCells, bs]
  · intro i h1 h2
    simp [Builtin.zeroCells, bs, Nat.mod_one]
theorem bs_length (xs : List Nat) : (bs xs).length = xs.length := by simp [bs]
theorem run_app_zeros {w : World} {base n c k : Nat} {A : Option Addr} {xs : List Nat} (hown : Gb w base A n c xs) (hk : k ≤ 1048576) (hn : n ≤ 1099511627776) (hbase : base ≤ w.heap.size) :
    ∃ A' c' w', (Builtin.append_ #[52, 3] 52 #[.slice A n c, .int .i64 (k : Int)]).run Try.prog w = .ok (.slice A' (n + k) c') w' ∧ Gb w' base A' (n + k) c' (xs ++ List.replicate k 0) ∧ Gr w A w' A' := by
  obtain ⟨i0, hi, hz0, hz1, hz2⟩ := info_parts Try.info5'
  have ht := Try.underlying52
  have htn : Try.prog.underlying 3 = some (.int .i64) := Try.underlying3
  have hlen : (bs xs ++ bs (List.replicate k 0)).length = (n + k) * 1 := by rw [List.length_append, bs_length, bs_length, hown.1, List.length_replicate, Nat.mul_one]
  have hncap : n ≤ c := by
    rcases hown.2.2 with ⟨e, h0⟩ | ⟨g, cap, cur, e, hbg, hg, hnc, hcm, hcs, htake⟩
    · cases e; exact Nat.le_refl _
    · cases e; exact hnc
  by_cases hk0 : k = 0
  · subst hk0
    have hw0 : IntKind.i64.wrap 0 = 0 := by decide
    refine ⟨A, c, w, ?_, by simpa using hown, Gr.refl _ _⟩
    cases A <;> simp [Builtin.append_, run_underlying ht, run_underlying htn, sizeOf, typeInfo, hi, asInt, asIntOf, hz1, hw0, hncap, storeCells]
  have hgrow : ∀ (old : Nat), old < n + k →
      (w.drew.alloc (.cells ((bs xs).toArray ++ Builtin.zeroCells #[.int .u8 0] k ++ Builtin.zeroCells #[.int .u8 0] (grownCap w (n + k) old 5 - (n + k))) 5)).ownsRow base 5 1
        (.slice (some ⟨w.heap.size, 0, none⟩) (n + k) (grownCap w (n + k) old 5)) (n + k) (bs (xs ++ List.replicate k 0)) ∧
      ∀ row, w.grownBy (w.drew.alloc (.cells ((bs xs).toArray ++ Builtin.zeroCells #[.int .u8 0] k ++ Builtin.zeroCells #[.int .u8 0] (grownCap w (n + k) old 5 - (n + k))) 5)) row := by
    intro old ho
    have hge := grownCap_ge w (n + k) old 5
    have hcm : grownCap w (n + k) old 5 ≤ maxLen := grownCap_le_maxLen w (n + k) old 5 (by unfold maxLen; omega)
    refine ⟨⟨by rw [bs_append]; exact hlen, .inr ⟨w.heap.size, _, _, rfl, hbase, heap_alloc_new w.drew _, hge, hcm, ?_, ?_⟩⟩, fun row => ⟨rfl, rfl, rfl, by simp, fun q hq _ => heap_alloc_old w.drew _ hq⟩⟩
    · simp only [Array.size_append, List.size_toArray, size_zeroCells, bs_length, hown.1, List.size_toArray, List.length_cons, List.length_nil]
      omega
    · simp only [Array.toList_append, zero_cells]
      rw [bs_append, ← hlen]
      exact List.take_left
  rcases hown.2.2 with ⟨e, h0⟩ | ⟨g, cap, cur, e, hbg, hg, hnc, hcm, hcs, htake⟩
  · cases e
    have hx : xs = [] := List.eq_nil_of_length_eq_zero hown.1
    subst hx
    have hr := Lib.run_append_grow_zeros (P := Try.prog) w 52 3 52 5 i0 (.int .u8 0) .i64 .i64 ht htn hi hz0 none 0 0 [] (by simp [Builtin.firstCells]) k (by omega) (by omega) (by omega) (by omega) (by rw [hz2]; omega) (growslice_fits (by omega) (by rw [hz2]; omega))
    obtain ⟨g1, g2⟩ := hgrow 0 (by omega)
    exact ⟨_, _, _, hr, ⟨by simp, g1⟩, g2 _, .inr ⟨_, rfl, Nat.le_refl _⟩⟩
  · cases e
    by_cases hroom : n + k ≤ c
    · have hfit : n * 1 + (bs (List.replicate k 0)).length ≤ cur.size := by rw [bs_length, List.length_replicate, hcs]; omega
      have hst := run_storeCells_at Try.prog g (n * 1) 5 (bs (List.replicate k 0)) 0 cur w hg (by simpa using hfit) (bs_one _)
      simp only [Nat.add_zero, Nat.mul_one, List.append_assoc] at hst
      have h63 : ¬ ((k : Int) < 0) := by omega
      have hw : IntKind.i64.wrap (k : Int) = k := by rw [IntKind.wrap_i64]; omega
      have h48 : ¬ (281474976710656 < (k : Int)) := by omega
      refine ⟨some ⟨g, 0, none⟩, c, w.setRow g (cur.toList.take (n * 1) ++ bs (List.replicate k 0) ++ cur.toList.drop (n * 1 + (bs (List.replicate k 0)).length)).toArray, ?_, ⟨by simp [hown.1], by rw [bs_append]; exact hlen, .inr ⟨g, c, _, rfl, hbg, setRow_heap w g cur _ 5 _ hg, hroom, hcm, ?_, ?_⟩⟩, ⟨rfl, rfl, rfl, by simp, fun k _ hk => setRow_other w g k _ (fun e => hk (by simp [blk, e]))⟩, .inl rfl⟩
      · have hne : ¬ (k * 1 = 0) := by omega
        have hzc := zero_cells k
        simp [Builtin.append_, run_underlying ht, run_underlying htn, sizeOf, typeInfo, zeroValue, hi, hz0, hz1, hz2, asInt, asIntOf, hw, h63, h48, hk0, hroom, Addr.add_lit, hzc, Value.cells]
        rw [hst]
        rfl
      · simp only [List.size_toArray, List.length_append, List.length_take, List.length_drop, Array.length_toList]
        omega
      · rw [htake, ← hlen, bs_append]
        exact List.take_left
    · have holds : ∀ j u, (bs xs)[j]? = some u → w.drew.cell? ((⟨g, 0, none⟩ : Addr).add j) = some u := hown.2.cells (g := g) rfl
      have hf := run_firstCells_some (P := Try.prog) w.drew i0.size n ⟨g, 0, none⟩ n c (bs xs) (by rw [bs_length, hown.1, hz1, Nat.mul_one]) holds
      have hr := Lib.run_append_grow_zeros (P := Try.prog) w 52 3 52 5 i0 (.int .u8 0) .i64 .i64 ht htn hi hz0 (some ⟨g, 0, none⟩) n c (bs xs) hf k (by omega) (by omega) (by omega) (by omega) (by rw [hz2]; omega) (growslice_fits (by omega) (by rw [hz2]; omega))
      obtain ⟨g1, g2⟩ := hgrow c (by omega)
      exact ⟨_, _, _, hr, ⟨by simp [hown.1], g1⟩, g2 _, .inr ⟨_, rfl, Nat.le_refl _⟩⟩
/-- a row behind it -/
theorem wpList_app_row_g (w : World) {ops : Array Oper} {rest : List Oper} {o : Oper} {a : Act} {Q : Exit → Act → World → Prop} (hgd : o.guard = none) (s x : Operand)
    (ho : o.op = .call { callee := .builtin .append, args := #[s, x], argTypes := #[52, 52] }) {base n c B m c2 : Nat} {A A0 A2 : Option Addr} {xs ys : List Nat} {w0 : World}
    (hs : a.eval s = .slice A n c) (hown : Gb w base A n c xs) (hx : a.eval x = .slice A2 m c2) (hr : Nb w B A2 m c2 ys)
    (hn : n + m ≤ 1099511627776) (hb : Gr w0 A0 w A) (hbase : base ≤ w.heap.size)
    (h : ∀ A' c' w', Gb w' base A' (n + m) c' (xs ++ ys) → Gr w0 A0 w' A' → wpList Try.prog ops Q rest (a.put o.dst (.slice A' (n + m) c')) w') : wpList Try.prog ops Q (o :: rest) a w := by
  obtain ⟨i0, hi, hz0, hz1, hz2⟩ := info_parts Try.info5'
  rcases A2 with _ | ad
  · have hm : m = 0 := by
      rcases Nat.eq_zero_or_pos m with h0 | h0
      · exact h0
      · obtain ⟨b, off, e, _⟩ := hr.cell h0
        cases e
    subst hm
    have hy : ys = [] := List.eq_nil_of_length_eq_zero hr.len
    subst hy
    refine wpList_plain hgd fun K hK => ?_
    have hrun := run_app_nil (P := Try.prog) w base 52 o.type 5 i0 1 Try.underlying52 hi (.slice A n c) n (bs xs) hown.2 c2
    unfold Oper.wp
    simp [execOp, ho, resolve, invoke, builtin, hs, hx, hrun, Result.andThen]
    exact hK _ _ (h A c w (by simpa using hown) hb)
  · refine wpList_append_own_at w hgd s x 52 ho base 5 i0 (.int .u8 0) 1 1 Try.underlying52 hi hz0 hz1 hz2 rfl (by decide) _ n (bs xs) hs hown.2 ad m c2 (bs ys) hx (by simp [bs, hr.len]) ?_ (bs_one ys) (by unfold maxLen; omega) (by omega) hbase ?_
    · exact Nb.olds hr
    · intro v' w' hown' hgrow _ hat
      obtain ⟨A', c', rfl⟩ := own_shape hown'
      rw [own_blk] at hgrow
      rw [own_blk, own_blk] at hat
      refine h A' c' w' ⟨by simp [hown.1, hr.len], by rw [bs_append]; exact hown'⟩ (hb.trans ⟨hgrow, hat.imp id fun e => ⟨_, e, Nat.le_refl _⟩⟩)
theorem Gb.own {w : World} {base n c : Nat} {A : Option Addr} {xs : List Nat} (h : Gb w base A n c xs) : ∀ k, blk A = some k → base ≤ k := fun k hk => (h.2.lt k (by rw [own_blk]; exact hk)).1
theorem Nb.gr {w w' : World} {base n c m d : Nat} {A A' B : Option Addr} {xs ys : List Nat} (h : Nb w base B m d ys) (hG : Gb w base A n c xs) (hr : Gr w A w' A') (hb : base ≤ w.heap.size) : Nb w' base B m d ys :=
  h.below (hr.below (Below.refl base w) hb hG.own)
/-- some bytes with their number, filled up -/
def textB (ys : List Nat) : List Nat := be 4 (ys.length : Nat) ++ ys ++ List.replicate (fld ys.length - ys.length) 0
theorem textB_length (ys : List Nat) : (textB ys).length = 4 + fld ys.length := by
  have := fld_lim ys.length
  simp [textB, be_length]; omega
