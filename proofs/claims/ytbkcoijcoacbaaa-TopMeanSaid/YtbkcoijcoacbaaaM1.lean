/- top08: three rows that grow by appends. -/
import Derived.Test.YtbkcoijcoacbaaaT3
import Derived.Laws.CopyOwn
import Derived.Laws.AppendOwn
import Derived.Laws.OwnMore
import Derived.Deep.MidRow
import Derived.Maps.AppendAt
import Derived.OwnWalk
import Derived.Deep.AppendLies
namespace Go.Proofs.Ytbkcoijcoacbaaa
open Go.RowKit
set_option maxRecDepth 100000
set_option linter.unusedVariables false
theorem i54 : (Try.prog.info? 54).map (fun i => (i.zero, i.size, i.bytes)) = some (some (.complex .f64 0 0), 1, 16) := by kernel_rfl
theorem i2 : (Try.prog.info? 2).map (fun i => (i.zero, i.size, i.bytes)) = some (some (.int .i64 0), 1, 8) := by kernel_rfl
/-- a row of points of the call's own -/
def Gc (w : World) (base : Nat) (A : Option Addr) (n c : Nat) (xs : List (Nat × Nat)) : Prop := xs.length = n ∧ w.ownsRow base 54 1 (.slice A n c) n (xs.map fun z => .complex .f64 z.1 z.2)
def Gi (w : World) (base : Nat) (A : Option Addr) (n c : Nat) (xs : List Int) : Prop := xs.length = n ∧ w.ownsRow base 2 1 (.slice A n c) n (xs.map fun z => Value.int .i64 z)
theorem Gc.nil (w : World) (base : Nat) : Gc w base none 0 0 [] := ⟨rfl, World.ownsRow_nil w base 54 1⟩
theorem Gi.nil (w : World) (base : Nat) : Gi w base none 0 0 [] := ⟨rfl, World.ownsRow_nil w base 2 1⟩
theorem own_shape {w : World} {base e n k : Nat} {v : Value} {xs : List Value} (h : w.ownsRow base e k v n xs) : ∃ A c, v = .slice A n c := by
  rcases h.2 with ⟨rfl, rfl⟩ | ⟨g, cap, cur, rfl, _⟩
  · exact ⟨_, _, rfl⟩
  · exact ⟨_, _, rfl⟩
def blk (A : Option Addr) : Option Nat := A.map (·.block)
theorem blk_own (A : Option Addr) (n c : Nat) : (Value.slice A n c).ownBlock = blk A := by cases A <;> rfl
theorem Gc.kept {w w' : World} {base n c : Nat} {A : Option Addr} {xs : List (Nat × Nat)} {r : Option Nat} (h : Gc w base A n c xs) (k : w.grownBy w' r) (hne : blk A = Option.none ∨ blk A ≠ r) : Gc w' base A n c xs :=
  ⟨h.1, h.2.kept k (by rw [blk_own]; exact hne)⟩
theorem Gi.kept {w w' : World} {base n c : Nat} {A : Option Addr} {xs : List Int} {r : Option Nat} (h : Gi w base A n c xs) (k : w.grownBy w' r) (hne : blk A = Option.none ∨ blk A ≠ r) : Gi w' base A n c xs :=
  ⟨h.1, h.2.kept k (by rw [blk_own]; exact hne)⟩
theorem wpList_appc (w : World) {ops : Array Oper} {rest : List Oper} {o : Oper} {a : Act} {Q : Exit → Act → World → Prop} (hgd : o.guard = none) (s x : Operand)
    (ho : o.op = .call { callee := .builtin .append, args := #[s, x], argTypes := #[53, 53] }) {base n c g : Nat} {y : Nat × Nat} {A : Option Addr} {xs : List (Nat × Nat)}
    (hs : a.eval s = .slice A n c) (hown : Gc w base A n c xs) (hx : a.eval x = .slice (some ⟨g, 0, none⟩) 1 1) (hc : Boxed w g 54 (.complex .f64 y.1 y.2))
    (hn : n ≤ 1099511627776) (hbase : base ≤ w.heap.size)
    (h : ∀ A' c' w', Gc w' base A' (n + 1) c' (xs ++ [y]) → w.grownBy w' (blk A) → (blk A' = blk A ∨ blk A' = some w.heap.size) → wpList Try.prog ops Q rest (a.put o.dst (.slice A' (n + 1) c')) w') : wpList Try.prog ops Q (o :: rest) a w := by
  obtain ⟨i0, hi, hz0, hz1, hz2⟩ := info_parts i54
  refine wpList_append_own_at w hgd s x 53 ho base 54 i0 (.complex .f64 0 0) 1 16 Try.underlying53 hi hz0 hz1 hz2 rfl (by decide) _ n (xs.map fun z => .complex .f64 z.1 z.2) hs hown.2 ⟨g, 0, none⟩ 1 1 [.complex .f64 y.1 y.2] hx rfl ?_ (by simp [Value.oneCell']) (by unfold maxLen; omega) (by omega) hbase ?_
  · intro j u hj
    have hc' : w.heap[g]? = _ := hc
    exact World.news_of_block hc' j u hj
  · intro v' w' hown' hgrow _ hat
    obtain ⟨A', c', rfl⟩ := own_shape hown'
    rw [blk_own, blk_own] at hat
    rw [blk_own] at hgrow
    exact h A' c' w' ⟨by simp [hown.1], by rw [List.map_append]; exact hown'⟩ hgrow hat
theorem wpList_appi (w : World) {ops : Array Oper} {rest : List Oper} {o : Oper} {a : Act} {Q : Exit → Act → World → Prop} (hgd : o.guard = none) (s x : Operand)
    (ho : o.op = .call { callee := .builtin .append, args := #[s, x], argTypes := #[52, 52] }) {base n c g : Nat} {y : Int} {A : Option Addr} {xs : List Int}
    (hs : a.eval s = .slice A n c) (hown : Gi w base A n c xs) (hx : a.eval x = .slice (some ⟨g, 0, none⟩) 1 1) (hc : Boxed w g 2 (.int .i64 y))
    (hn : n ≤ 1099511627776) (hbase : base ≤ w.heap.size)
    (h : ∀ A' c' w', Gi w' base A' (n + 1) c' (xs ++ [y]) → w.grownBy w' (blk A) → (blk A' = blk A ∨ blk A' = some w.heap.size) → wpList Try.prog ops Q rest (a.put o.dst (.slice A' (n + 1) c')) w') : wpList Try.prog ops Q (o :: rest) a w := by
  obtain ⟨i0, hi, hz0, hz1, hz2⟩ := info_parts i2
  refine wpList_append_own_at w hgd s x 52 ho base 2 i0 (.int .i64 0) 1 8 Try.underlying52 hi hz0 hz1 hz2 rfl (by decide) _ n (xs.map fun z => Value.int .i64 z) hs hown.2 ⟨g, 0, none⟩ 1 1 [.int .i64 y] hx rfl ?_ (by simp [Value.oneCell']) (by unfold maxLen; omega) (by omega) hbase ?_
  · intro j u hj
    have hc' : w.heap[g]? = _ := hc
    exact World.news_of_block hc' j u hj
  · intro v' w' hown' hgrow _ hat
    obtain ⟨A', c', rfl⟩ := own_shape hown'
    rw [blk_own, blk_own] at hat
    rw [blk_own] at hgrow
    exact h A' c' w' ⟨by simp [hown.1], by rw [List.map_append]; exact hown'⟩ hgrow hat
def dj (A B : Option Addr) : Prop := blk A = none ∨ blk A ≠ blk B
/-- the three rows so far -/
structure Three (w0 w : World) (L1 : List (Nat × Nat)) (L2 L3 : List Int) (A1 : Option Addr) (c1 : Nat) (A2 : Option Addr) (c2 : Nat) (A3 : Option Addr) (c3 : Nat) : Prop where
  b : RowKit.Below w0.heap.size w0 w
  g1 : Gc w w0.heap.size A1 L1.length c1 L1
  g2 : Gi w w0.heap.size A2 L2.length c2 L2
  g3 : Gi w w0.heap.size A3 L3.length c3 L3
  d1 : dj A1 A2
  d2 : dj A1 A3
  d3 : dj A2 A1
  d4 : dj A2 A3
  d5 : dj A3 A1
  d6 : dj A3 A2
theorem Gc.lt {w : World} {base n c : Nat} {A : Option Addr} {xs : List (Nat × Nat)} (h : Gc w base A n c xs) : ∀ k, blk A = some k → base ≤ k ∧ k < w.heap.size := fun k hk => h.2.lt k (by rw [blk_own]; exact hk)
theorem Gi.lt {w : World} {base n c : Nat} {A : Option Addr} {xs : List Int} (h : Gi w base A n c xs) : ∀ k, blk A = some k → base ≤ k ∧ k < w.heap.size := fun k hk => h.2.lt k (by rw [blk_own]; exact hk)
theorem dj_new {A A' B : Option Addr} {s : Nat} (h : dj A B) (hat : blk A' = blk A ∨ blk A' = some s) (hB : ∀ k, blk B = some k → k < s) : dj A' B := by
  unfold dj at *
  rcases hat with e | e
  · rw [e]; exact h
  · rw [e]; right; intro q; exact absurd (hB s q.symm) (by omega)
theorem dj_new' {A A' B : Option Addr} {s : Nat} (h : dj B A) (hat : blk A' = blk A ∨ blk A' = some s) (hB : ∀ k, blk B = some k → k < s) : dj B A' := by
  unfold dj at *
  rcases hat with e | e
  · rw [e]; exact h
  · rw [e]; right; intro q; exact absurd (hB s q) (by omega)
theorem Three.drewN {w0 w : World} {L1 : List (Nat × Nat)} {L2 L3 : List Int} {A1 A2 A3 : Option Addr} {c1 c2 c3 : Nat} (h : Three w0 w L1 L2 L3 A1 c1 A2 c2 A3 c3) (k : Nat) : Three w0 (w.drewN k) L1 L2 L3 A1 c1 A2 c2 A3 c3 :=
  ⟨below_drewN' h.b k, h.g1, h.g2, h.g3, h.d1, h.d2, h.d3, h.d4, h.d5, h.d6⟩
theorem Three.alloc {w0 w : World} {L1 : List (Nat × Nat)} {L2 L3 : List Int} {A1 A2 A3 : Option Addr} {c1 c2 c3 : Nat} (h : Three w0 w L1 L2 L3 A1 c1 A2 c2 A3 c3) (o : Obj) : Three w0 (w.alloc o) L1 L2 L3 A1 c1 A2 c2 A3 c3 :=
  ⟨h.b.alloc h.b.size o, h.g1.kept (World.grownBy_alloc w o none) (by cases blk A1 <;> simp), h.g2.kept (World.grownBy_alloc w o none) (by cases blk A2 <;> simp), h.g3.kept (World.grownBy_alloc w o none) (by cases blk A3 <;> simp), h.d1, h.d2, h.d3, h.d4, h.d5, h.d6⟩
theorem Three.one {w0 w w' : World} {L1 : List (Nat × Nat)} {L2 L3 : List Int} {A1 A2 A3 A' : Option Addr} {c1 c2 c3 c' : Nat} {z : Nat × Nat} (h : Three w0 w L1 L2 L3 A1 c1 A2 c2 A3 c3)
    (hg : Gc w' w0.heap.size A' (L1.length + 1) c' (L1 ++ [z])) (hk : w.grownBy w' (blk A1)) (hat : blk A' = blk A1 ∨ blk A' = some w.heap.size) : Three w0 w' (L1 ++ [z]) L2 L3 A' c' A2 c2 A3 c3 := by
  have l2 := fun k hk => (h.g2.lt k hk).2
  have l3 := fun k hk => (h.g3.lt k hk).2
  exact ⟨h.b.grown hk h.b.size fun k hk => (h.g1.lt k hk).1, by simpa using hg, h.g2.kept hk h.d3, h.g3.kept hk h.d5, dj_new h.d1 hat l2, dj_new h.d2 hat l3, dj_new' h.d3 hat l2, h.d4, dj_new' h.d5 hat l3, h.d6⟩
theorem Three.two {w0 w w' : World} {L1 : List (Nat × Nat)} {L2 L3 : List Int} {A1 A2 A3 A' : Option Addr} {c1 c2 c3 c' : Nat} {z : Int} (h : Three w0 w L1 L2 L3 A1 c1 A2 c2 A3 c3)
    (hg : Gi w' w0.heap.size A' (L2.length + 1) c' (L2 ++ [z])) (hk : w.grownBy w' (blk A2)) (hat : blk A' = blk A2 ∨ blk A' = some w.heap.size) : Three w0 w' L1 (L2 ++ [z]) L3 A1 c1 A' c' A3 c3 := by
  have l1 := fun k hk => (h.g1.lt k hk).2
  have l3 := fun k hk => (h.g3.lt k hk).2
  exact ⟨h.b.grown hk h.b.size fun k hk => (h.g2.lt k hk).1, h.g1.kept hk h.d1, by simpa using hg, h.g3.kept hk h.d6, dj_new' h.d1 hat l1, h.d2, dj_new h.d3 hat l1, dj_new h.d4 hat l3, h.d5, dj_new' h.d6 hat l3⟩
theorem Three.three {w0 w w' : World} {L1 : List (Nat × Nat)} {L2 L3 : List Int} {A1 A2 A3 A' : Option Addr} {c1 c2 c3 c' : Nat} {z : Int} (h : Three w0 w L1 L2 L3 A1 c1 A2 c2 A3 c3)
    (hg : Gi w' w0.heap.size A' (L3.length + 1) c' (L3 ++ [z])) (hk : w.grownBy w' (blk A3)) (hat : blk A' = blk A3 ∨ blk A' = some w.heap.size) : Three w0 w' L1 L2 (L3 ++ [z]) A1 c1 A2 c2 A' c' := by
  have l1 := fun k hk => (h.g1.lt k hk).2
  have l2 := fun k hk => (h.g2.lt k hk).2
  exact ⟨h.b.grown hk h.b.size fun k hk => (h.g3.lt k hk).1, h.g1.kept hk h.d2, h.g2.kept hk h.d4, by simpa using hg, h.d1, dj_new' h.d2 hat l1, h.d3, dj_new' h.d4 hat l2, dj_new h.d5 hat l1, dj_new h.d6 hat l2⟩
end Go.Proofs.Ytbkcoijcoacbaaa
