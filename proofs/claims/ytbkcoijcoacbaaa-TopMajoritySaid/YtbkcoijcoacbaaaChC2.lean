/- choose: the ends of intervals, in a row of the call's own. -/
import Derived.Test.YtbkcoijcoacbaaaChC1
import Derived.StillTailTactics
import Derived.Deep.AppendLies
import Derived.OwnWalk
import Derived.Laws.OwnMore
import Derived.Deep.MidRow
namespace Go.Proofs.Ytbkcoijcoacbaaa.Ch
open Go.RowKit
set_option linter.unusedVariables false
set_option linter.unusedSimpArgs false
set_option maxRecDepth 100000
structure Ev where
  (at_ more : Int)
instance : Inhabited Ev := ⟨⟨0, 0⟩⟩
def Ev.cs (e : Ev) : List Value := [.int .i64 e.at_, .int .i64 e.more]
def sc (xs : List Ev) : List Value := xs.flatMap Ev.cs
theorem sc_len (xs : List Ev) : (sc xs).length = 2 * xs.length := by
  induction xs with
  | nil => rfl
  | cons x xs ih => simp only [sc, List.flatMap_cons, List.length_append, List.length_cons, Ev.cs] at ih ⊢; simp at ih ⊢; omega
theorem sc_cons (x : Ev) (xs : List Ev) : sc (x :: xs) = x.cs ++ sc xs := rfl
theorem sc_get {xs : List Ev} {i : Nat} {s : Ev} (h : xs[i]? = some s) (q : Nat) (hq : q < 2) : (sc xs)[2 * i + q]? = s.cs[q]? := by
  induction xs generalizing i with
  | nil => simp at h
  | cons x xs ih =>
    rw [sc_cons]
    cases i with
    | zero =>
      simp at h
      subst h
      rw [List.getElem?_append_left (by show 2 * 0 + q < 2; omega)]
      rw [show 2 * 0 + q = q by omega]
    | succ i =>
      have hl : x.cs.length = 2 := rfl
      rw [List.getElem?_append_right (by rw [hl]; omega), hl, show 2 * (i + 1) + q - 2 = 2 * i + q by omega]
      exact ih (by simpa using h)
theorem sc_append (xs ys : List Ev) : sc (xs ++ ys) = sc xs ++ sc ys := by simp [sc]
theorem sc_one (xs : List Ev) : ∀ v ∈ sc xs, v.oneCell' = true := by
  intro v hv
  simp only [sc, List.mem_flatMap, Ev.cs] at hv
  obtain ⟨x, _, hx⟩ := hv
  simp at hx
  rcases hx with rfl | rfl <;> rfl
/-- a row of ends of the call's own, blocks from base on -/
def Gs (w : World) (base : Nat) (A : Option Addr) (n c : Nat) (xs : List Ev) : Prop := xs.length = n ∧ w.ownsRow base 79 2 (.slice A n c) n (sc xs)
theorem Gs.nil (w : World) (base : Nat) : Gs w base none 0 0 [] := ⟨rfl, World.ownsRow_nil w base 79 2⟩
theorem own_shape {w : World} {base e n k : Nat} {v : Value} {xs : List Value} (h : w.ownsRow base e k v n xs) : ∃ A c, v = .slice A n c := by
  rcases h.2 with ⟨rfl, rfl⟩ | ⟨g, cap, cur, rfl, _⟩
  · exact ⟨_, _, rfl⟩
  · exact ⟨_, _, rfl⟩
theorem Try.info79 : (Try.prog.info? 79).map (fun i => (i.zero, i.size, i.bytes)) = some (some (.agg #[.int .i64 0, .int .i64 0]), 2, 16) := by kernel_rfl
def blk (A : Option Addr) : Option Nat := A.map (·.block)
theorem blk_own (A : Option Addr) (n c : Nat) : (Value.slice A n c).ownBlock = blk A := by cases A <;> rfl
/-- two more ends -/
theorem wpList_app_2 (w : World) {ops : Array Oper} {rest : List Oper} {o : Oper} {a : Act} {Q : Exit → Act → World → Prop} (hgd : o.guard = none) (s x : Operand)
    (ho : o.op = .call { callee := .builtin .append, args := #[s, x], argTypes := #[76, 76] }) {base n c g m c2 : Nat} {ys : List Ev} {A : Option Addr} {xs : List Ev} {w0 : World} {t : TypeId} {fr : Nat × Nat}
    (hs : a.eval s = .slice A n c) (hown : Gs w base A n c xs) (hx : a.eval x = .slice (some ⟨g, 0, none⟩) m c2) (hm : ys.length = m) (hc : w.heap[g]? = some (.cells (sc ys).toArray t fr))
    (hn : n + m ≤ 1099511627776) (hb : Below base w0 w) (hbase : base ≤ w.heap.size)
    (h : ∀ A' c' w', Gs w' base A' (n + m) c' (xs ++ ys) → Below base w0 w' → wpList Try.prog ops Q rest (a.put o.dst (.slice A' (n + m) c')) w') : wpList Try.prog ops Q (o :: rest) a w := by
  obtain ⟨i0, hi, hz0, hz1, hz2⟩ := info_parts Try.info79
  refine wpList_append_own w hgd s x 76 ho base 79 i0 (.agg #[.int .i64 0, .int .i64 0]) 2 16 Try.underlying76 hi hz0 hz1 hz2 rfl (by decide) _ n (sc xs) hs hown.2 ⟨g, 0, none⟩ m c2 (sc ys) hx (by rw [sc_len]; omega) ?_ (sc_one _) (by unfold maxLen; omega) (by omega) hbase ?_
  · intro j u hj
    exact World.news_of_block hc j u (by simpa using hj)
  · intro v' w' hown' hgrow _
    obtain ⟨A', c', rfl⟩ := own_shape hown'
    exact h A' c' w' ⟨by simp [hown.1, hm], by rw [sc_append]; exact hown'⟩ (hb.grown hgrow hbase fun k hk => (hown.2.lt k hk).1)
theorem Gs.kept {w w' : World} {base n c : Nat} {A : Option Addr} {xs : List Ev} {r : Option Nat} (h : Gs w base A n c xs) (k : w.grownBy w' r) (hne : blk A = Option.none ∨ blk A ≠ r) : Gs w' base A n c xs :=
  ⟨h.1, h.2.kept k (by rw [blk_own]; exact hne)⟩
theorem Gs.below {w w' : World} {base n c : Nat} {A : Option Addr} {xs : List Ev} (h : Gs w base A n c xs) (b : RowKit.Below w.heap.size w w') : Gs w' base A n c xs :=
  h.kept (r := Option.none) ⟨b.os, b.tape, b.output, b.size, fun k hk _ => b.block k hk⟩ (by cases blk A <;> simp)
/-- the ends of intervals -/
def endsOf (xs : List Sp) : List Ev := xs.flatMap fun s => [⟨s.lo, 1⟩, ⟨s.hi, -1⟩]
theorem endsOf_len (xs : List Sp) : (endsOf xs).length = 2 * xs.length := by
  induction xs with
  | nil => rfl
  | cons x xs ih => simp only [endsOf, List.flatMap_cons, List.length_append, List.length_cons] at ih ⊢; simp at ih ⊢; omega
theorem endsOf_take {xs : List Sp} {j : Nat} {s : Sp} (h : xs[j]? = some s) : endsOf (xs.take (j + 1)) = endsOf (xs.take j) ++ [⟨s.lo, 1⟩, ⟨s.hi, -1⟩] := by
  rw [List.take_add_one, h]
  simp [endsOf]
end Go.Proofs.Ytbkcoijcoacbaaa.Ch
