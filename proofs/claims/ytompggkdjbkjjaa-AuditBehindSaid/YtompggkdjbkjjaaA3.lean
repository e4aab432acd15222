/- Rows of the call's own that grow by one element, wherever they lie. -/
import Derived.Test.YtompggkdjbkjjaaA2
import Derived.Deep.AppendLies
import Derived.Deep.MidRow
namespace Go.Proofs.Ytompggkdjbkjjaa
open Go.RowKit
set_option linter.unusedVariables false
set_option maxRecDepth 100000
/-- the block that a row lies in -/
def blk (A : Option Addr) : Option Nat := A.map (·.block)
/-- a row grew: every other block that was there is as it was -/
def Gr (w : World) (A : Option Addr) (w' : World) (A' : Option Addr) : Prop := w.grownBy w' (blk A) ∧ (blk A' = blk A ∨ ∃ k, blk A' = some k ∧ w.heap.size ≤ k)
theorem own_blk (A : Option Addr) (n c : Nat) : (Value.slice A n c).ownBlock = blk A := by cases A <;> rfl
theorem Gr.refl (w : World) (A : Option Addr) : Gr w A w A := ⟨⟨rfl, rfl, rfl, Nat.le_refl _, fun _ _ _ => rfl⟩, .inl rfl⟩
theorem Gr.trans {w w' w'' : World} {A A' A'' : Option Addr} (h : Gr w A w' A') (k : Gr w' A' w'' A'') : Gr w A w'' A'' := by
  obtain ⟨g, h2⟩ := h
  obtain ⟨g', k2⟩ := k
  refine ⟨⟨g'.os.trans g.os, g'.tape.trans g.tape, g'.output.trans g.output, Nat.le_trans g.size g'.size, fun q hq hne => ?_⟩, ?_⟩
  · refine (g'.block q (Nat.lt_of_lt_of_le hq g.size) fun e => ?_).trans (g.block q hq hne)
    rcases h2 with h2 | ⟨j, h2, hj⟩
    · exact hne (e.trans h2)
    · rw [h2] at e; cases e; omega
  · rcases k2 with k2 | ⟨j, k2, hj⟩
    · rcases h2 with h2 | ⟨i, h2, hi⟩
      · exact .inl (k2.trans h2)
      · exact .inr ⟨i, k2.trans h2, hi⟩
    · exact .inr ⟨j, k2, Nat.le_trans g.size hj⟩
/-- an own row, in blocks from base on -/
def Gw (w : World) (base e size : Nat) (A : Option Addr) (n c : Nat) (cs : List Value) : Prop := w.ownsRow base e size (.slice A n c) n cs
theorem Gw.nil (w : World) (base e size : Nat) : Gw w base e size none 0 0 [] := World.ownsRow_nil w base e size
theorem Gw.alloc {w : World} {base e size n c : Nat} {A : Option Addr} {cs : List Value} (h : Gw w base e size A n c cs) (o : Obj) : Gw (w.alloc o) base e size A n c cs := World.ownsRow.alloc h o
theorem Gw.blk_lt {w : World} {base e size n c : Nat} {A : Option Addr} {cs : List Value} (h : Gw w base e size A n c cs) : ∀ k, blk A = some k → base ≤ k ∧ k < w.heap.size := by
  intro k hk
  rcases h.2 with ⟨e, _⟩ | ⟨g, cap, cur, e, hg, hh, _⟩
  · cases e; cases hk
  · cases e
    cases hk
    refine ⟨hg, ?_⟩
    rcases Nat.lt_or_ge g w.heap.size with hlt | hge
    · exact hlt
    · rw [Array.getElem?_eq_none hge] at hh; cases hh
theorem Gw.keep {w w' : World} {base e size n c : Nat} {A : Option Addr} {cs : List Value} (h : Gw w base e size A n c cs) (hk : ∀ k, blk A = some k → w'.heap[k]? = w.heap[k]?) : Gw w' base e size A n c cs := by
  refine ⟨h.1, ?_⟩
  rcases h.2 with h' | ⟨g, cap, cur, e, hg, hh, hr⟩
  · exact Or.inl h'
  · cases e
    exact Or.inr ⟨g, _, cur, rfl, hg, (hk g rfl).trans hh, hr⟩
theorem Gw.below {w w' : World} {base e size n c : Nat} {A : Option Addr} {cs : List Value} (h : Gw w base e size A n c cs) (b : Below w.heap.size w w') : Gw w' base e size A n c cs :=
  h.keep fun k hk => b.block k (h.blk_lt k hk).2
theorem Gw.cell {w : World} {base e size n c : Nat} {A : Option Addr} {cs : List Value} (h : Gw w base e size A n c cs) (hn : 0 < n) (hs : 0 < size) : ∃ g, A = some ⟨g, 0, none⟩ ∧ base ≤ g ∧ g < w.heap.size ∧ ∀ j u, cs[j]? = some u → w.cell? ⟨g, j, none⟩ = some u := by
  rcases h.2 with ⟨e, h0⟩ | ⟨g, cap, cur, e, hg, hh, _, _, _, ht⟩
  · omega
  · cases e
    refine ⟨g, rfl, hg, ?_, fun j u hj => ?_⟩
    · rcases Nat.lt_or_ge g w.heap.size with hlt | hge
      · exact hlt
      · rw [Array.getElem?_eq_none hge] at hh; cases hh
    · rw [cell_of_row w g j cur e (0, 0) hh]
      rw [← ht, List.getElem?_take] at hj
      split at hj
      · simpa using hj
      · cases hj
theorem own_shape' {w : World} {base e size n : Nat} {v : Value} {xs : List Value} (h : w.ownsRow base e size v n xs) : ∃ A c, v = .slice A n c := by
  rcases h.2 with ⟨rfl, rfl⟩ | ⟨g, cap, cur, rfl, _⟩
  · exact ⟨_, _, rfl⟩
  · exact ⟨_, _, rfl⟩
theorem wp_push {P : Program} (w : World) {o : Oper} {a : Act} {K : Act → World → Prop} {Q : Exit → Act → World → Prop} (s x : Operand) (t : TypeId)
    (ho : o.op = .call { callee := .builtin .append, args := #[s, x], argTypes := #[t, t] }) {base e size bytes : Nat} {z : Value} (ht : P.underlying t = some (.slice e))
    (hinf : (P.info? e).map (fun i => (i.zero, i.size, i.bytes)) = some (some z, size, bytes)) (hzs : z.cells.size = size) (hsz : 0 < size) (hby : bytes ≤ 128)
    {n c g : Nat} {A : Option Addr} {cs : List Value} (news : List Value) {t2 : TypeId}
    (hs : a.eval s = .slice A n c) (hown : Gw w base e size A n c cs) (hx : a.eval x = .slice (some ⟨g, 0, none⟩) 1 1) (hl : news.length = size)
    (hc : w.heap[g]? = some (.cells news.toArray t2 (0, 0))) (h1 : ∀ u ∈ news, u.oneCell' = true) (hn : n ≤ 1099511627775) (hbase : base ≤ w.heap.size)
    (h : ∀ A' c' w', Gw w' base e size A' (n + 1) c' (cs ++ news) → Gr w A w' A' → K (a.put o.dst (.slice A' (n + 1) c')) w') : Oper.wp P o a w K Q := by
  obtain ⟨i0, hi, hz0, hz1, hz2⟩ := info_parts hinf
  obtain ⟨v', w', hr, h2, h3, _, h5⟩ := run_append_own_at (P := P) w base t o.type e i0 z size bytes ht hi hz0 hz1 hz2 hzs hsz _ n cs hown ⟨g, 0, none⟩ 1 1 news (by omega) (World.news_of_block hc) h1 (by unfold maxLen; omega)
    (by have := Nat.mul_le_mul (show n + 1 ≤ 1099511627776 by omega) hby; omega) hbase
  obtain ⟨A', c', rfl⟩ := own_shape' h2
  rw [own_blk] at h3
  rw [own_blk, own_blk] at h5
  unfold Oper.wp execOp
  simp only [ho, resolve, invoke, builtin, Sem.run_bind, Sem.run_pure, Result.andThen_ok, List.map_toArray, List.map_cons, List.map_nil, hs, hx, hr]
  exact h A' c' w' h2 ⟨h3, h5.imp id fun e => ⟨_, e, Nat.le_refl _⟩⟩
theorem wpList_push {P : Program} (w : World) {ops : Array Oper} {rest : List Oper} {o : Oper} {a : Act} {Q : Exit → Act → World → Prop} (hgd : o.guard = none) (s x : Operand) (t : TypeId)
    (ho : o.op = .call { callee := .builtin .append, args := #[s, x], argTypes := #[t, t] }) {base e size bytes : Nat} {z : Value} (ht : P.underlying t = some (.slice e))
    (hinf : (P.info? e).map (fun i => (i.zero, i.size, i.bytes)) = some (some z, size, bytes)) (hzs : z.cells.size = size) (hsz : 0 < size) (hby : bytes ≤ 128)
    {n c g : Nat} {A : Option Addr} {cs : List Value} (news : List Value) {t2 : TypeId}
    (hs : a.eval s = .slice A n c) (hown : Gw w base e size A n c cs) (hx : a.eval x = .slice (some ⟨g, 0, none⟩) 1 1) (hl : news.length = size)
    (hc : w.heap[g]? = some (.cells news.toArray t2 (0, 0))) (h1 : ∀ u ∈ news, u.oneCell' = true) (hn : n ≤ 1099511627775) (hbase : base ≤ w.heap.size)
    (h : ∀ A' c' w', Gw w' base e size A' (n + 1) c' (cs ++ news) → Gr w A w' A' → wpList P ops Q rest (a.put o.dst (.slice A' (n + 1) c')) w') : wpList P ops Q (o :: rest) a w := by
  refine wpList_plain hgd fun K hK => ?_
  exact wp_push w s x t ho ht hinf hzs hsz hby news hs hown hx hl hc h1 hn hbase fun A' c' w' h2 h3 => hK _ _ (h A' c' w' h2 h3)
end Go.Proofs.Ytompggkdjbkjjaa
