/- wire: Write. -/
import Derived.Test.YtompggkdjbkjjaaWiW4
import Derived.Test.YtompggkdjbkjjaaWiW7
namespace Go.Proofs.Ytompggkdjbkjjaa.Wi
open Go.RowKit
set_option linter.unusedVariables false
set_option maxRecDepth 100000
/-- a head's first byte -/
def fh (h : Hd) : Int := h.lp * 64 + h.ve * 8 + h.mo
/-- a Mac's bytes -/
def macW (p : Pk) (ms : List Nat) : List Nat := if p.m.has then be 4 (p.m.key : Nat) ++ ms else []
/-- a head's bytes -/
def headW (h : Hd) : List Nat := be 1 (fh h) ++ be 1 h.st ++ be 1 h.po ++ be 1 h.pr ++ be 4 (h.dl : Nat) ++ be 4 (h.di : Nat) ++ be 4 (h.rf : Nat) ++ be 8 (h.re : Nat) ++ be 8 (h.og : Nat) ++ be 8 (h.rc : Nat) ++ be 8 (h.xm : Nat)
/-- a packet's bytes -/
def packW (p : Pk) (l : List El) (ms : List Nat) : List Nat := headW p.h ++ l.flatMap extB ++ macW p ms
theorem head_lim {h : Hd} (q : headB h = true) : 0 ≤ h.lp ∧ h.lp ≤ 3 ∧ h.ve = 4 ∧ 1 ≤ h.mo ∧ h.mo ≤ 5 := by
  unfold headB kindB wi at q
  simp only [Bool.and_eq_true, decide_eq_true_eq] at q
  omega
theorem right_parts {p : Pk} {l : List El} (h : rightB p l = true) : headB p.h = true ∧ macB p.m = true ∧ p.n ≤ 8 ∧ (∀ x ∈ l, fieldB x = true) ∧ szp p l ≤ 8192 := by
  unfold rightB at h
  simp only [Bool.and_eq_true, decide_eq_true_eq, List.all_eq_true] at h
  exact ⟨h.1, h.2.1, h.2.2.1, h.2.2.2.1, h.2.2.2.2⟩




theorem hbits : ∀ a m : Fin 8, bits BinOp.or IntKind.i64 (bits BinOp.or IntKind.i64 ((a.val : Int) * 64) 32) (m.val : Int) = (a.val : Int) * 64 + 32 + m.val := by decide +kernel
theorem fh_eq {h : Hd} (q : 0 ≤ h.lp ∧ h.lp ≤ 3 ∧ h.ve = 4 ∧ 1 ≤ h.mo ∧ h.mo ≤ 5) : bits BinOp.or IntKind.i64 (bits BinOp.or IntKind.i64 (wrap64 (h.lp * 64)) (wrap64 (h.ve * 8))) h.mo = fh h := by
  obtain ⟨h1, h2, h3, h4, h5⟩ := q
  unfold fh
  obtain ⟨a, ha⟩ : ∃ a : Nat, h.lp = (a : Int) := ⟨h.lp.toNat, by omega⟩
  obtain ⟨m, hm⟩ : ∃ m : Nat, h.mo = (m : Int) := ⟨h.mo.toNat, by omega⟩
  rw [ha] at h2
  rw [hm] at h5
  rw [ha, hm, h3]
  have e1 : wrap64 ((a : Int) * 64) = (a : Int) * 64 := by unfold wrap64; omega
  have e2 : wrap64 (4 * 8) = 32 := by unfold wrap64; omega
  rw [e1, e2]
  exact hbits ⟨a, by omega⟩ ⟨m, by omega⟩
theorem flat_take {l : List El} {j : Nat} {x : El} (h : l[j]? = some x) : (l.take (j + 1)).flatMap extB = (l.take j).flatMap extB ++ extB x := by
  rw [List.take_add_one, h, List.flatMap_append]; simp
theorem op_lim {x : El} (h : fieldB x = true) : 0 ≤ x.op ∧ x.op < 64 := by
  unfold fieldB wi at h
  simp only [Bool.and_eq_true, decide_eq_true_eq] at h
  omega
theorem szf_lim {x : El} (h : fieldB x = true) : szf x ≤ 4136 := by
  have := field_lim h
  unfold szf fld; omega
theorem szs_lim : ∀ {l : List El}, (∀ x ∈ l, fieldB x = true) → szs l ≤ l.length * 4136
  | [], _ => by simp [szs]
  | x :: l, h => by
    have h1 := szf_lim (h x (by simp))
    have h2 := szs_lim (fun y hy => h y (by simp [hy]) : ∀ y ∈ l, fieldB y = true)
    simp only [szs, List.map_cons, List.sum_cons, List.length_cons, Nat.add_mul] at h2 ⊢
    omega
theorem wp_row_b (w : World) {o : Oper} {a : Act} {K : Act → World → Prop} {Q : Exit → Act → World → Prop} (s x : Operand)
    (ho : o.op = .call { callee := .builtin .append, args := #[s, x], argTypes := #[52, 52] }) {base n c B m c2 : Nat} {A A2 : Option Addr} {xs ys : List Nat} {w0 : World}
    (hs : a.eval s = .slice A n c) (hown : Gb w base A n c xs) (hx : a.eval x = .slice A2 m c2) (hr : Nb w B A2 m c2 ys)
    (hn : n + m ≤ 1099511627776) (hb : RowKit.Below base w0 w) (hbase : base ≤ w.heap.size)
    (h : ∀ A' c' w', Gb w' base A' (n + m) c' (xs ++ ys) → RowKit.Below base w0 w' → K (a.put o.dst (.slice A' (n + m) c')) w') : Oper.wp Try.prog o a w K Q := by
  obtain ⟨i0, hi, hz0, hz1, hz2⟩ := info_parts Try.info5'
  rcases A2 with _ | ad
  · have hm : m = 0 := by
      rcases Nat.eq_zero_or_pos m with h0 | h0
      · exact h0
      · obtain ⟨b, off, e, _⟩ := hr.cell h0
        cases e
    subst hm
    have hy : ys = [] := List.eq_nil_of_length_eq_zero hr.len
    subst hy
    have hrun := run_app_nil (P := Try.prog) w base 52 o.type 5 i0 1 Try.underlying52 hi (.slice A n c) n (bs xs) hown.2 c2
    unfold Oper.wp execOp
    simp only [ho, resolve, invoke, builtin, Sem.run_bind, Sem.run_pure, Result.andThen_ok, List.map_toArray, List.map_cons, List.map_nil, hs, hx, hrun]
    exact h A c w (by simpa using hown) hb
  · obtain ⟨v', w', hrun, h2, h3, _⟩ := run_append_own (P := Try.prog) w base 52 o.type 5 i0 (.int .u8 0) 1 1 Try.underlying52 hi hz0 hz1 hz2 rfl (by decide) _ n (bs xs) hown.2 ad m c2 (bs ys) (by simp [bs, hr.len]) (Nb.olds hr) (bs_one ys) (by unfold maxLen; omega) (by omega) hbase
    obtain ⟨A', c', rfl⟩ := own_shape h2
    unfold Oper.wp execOp
    simp only [ho, resolve, invoke, builtin, Sem.run_bind, Sem.run_pure, Result.andThen_ok, List.map_toArray, List.map_cons, List.map_nil, hs, hx, hrun]
    exact h A' c' w' ⟨by simp [hown.1, hr.len], by rw [bs_append]; exact h2⟩ (hb.grown h3 hbase fun k hk => (hown.2.lt k hk).1)
theorem Gb.weak {w : World} {b b' n c : Nat} {A : Option Addr} {xs : List Nat} (h : Gb w b A n c xs) (hb : b' ≤ b) : Gb w b' A n c xs :=
  ⟨h.1, h.2.1, h.2.2.imp id fun ⟨g, cap, cur, e, hg, r⟩ => ⟨g, cap, cur, e, Nat.le_trans hb hg, r⟩⟩
theorem made {W w : World} (S : Nat) (hS : S ≤ 8192) (b : RowKit.Below W.heap.size W w) : ∃ w', (Instr.makeSlice 52 (.int .i64 0) (.int .i64 (S : Int))).run Try.prog w = .ok (.slice (some ⟨w.heap.size, 0, none⟩) 0 S) w' ∧ Gb w' W.heap.size (some ⟨w.heap.size, 0, none⟩) 0 S [] ∧ RowKit.Below W.heap.size W w' := by
  obtain ⟨i0, hi, hz0, hz1, hz2⟩ := info_parts Try.info5'
  obtain ⟨w', h1, h2, h3⟩ := run_makeSlice_owned (P := Try.prog) w W.heap.size 52 5 i0 (.int .u8 0) 1 Try.underlying52 hi hz0 hz1 .i64 .i64 S (by omega) (by rw [hz2]; omega) (by unfold maxLen; omega) b.size
  exact ⟨w', h1, ⟨rfl, h2⟩, b.grown h3 b.size (fun k hk => by cases hk)⟩

end Go.Proofs.Ytompggkdjbkjjaa.Wi
