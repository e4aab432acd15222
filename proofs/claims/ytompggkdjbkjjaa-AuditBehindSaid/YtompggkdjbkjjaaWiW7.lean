/- wire: a field behind bytes. -/
import Derived.Test.YtompggkdjbkjjaaWiW6
import Derived.Deep.RegionHeld3
namespace Go.Proofs.Ytompggkdjbkjjaa.Wi
open Go.RowKit
set_option linter.unusedVariables false
set_option maxRecDepth 100000
/-- a field's first byte -/
def fir (x : El) : Int := x.op + (if x.resp then 128 else 0) + (if x.bad then 64 else 0)
/-- a field's bytes -/
def extB (x : El) : List Nat := be 1 (fir x) ++ be 1 0 ++ be 2 (szf x : Nat) ++ be 2 x.as_ ++ be 2 0 ++ be 4 (x.ts : Nat) ++ be 4 (x.fs : Nat) ++ textB x.xs ++ textB x.ys
theorem zs_new (w : World) (k : IntKind) (zs : List Int) (t : TypeId) (m : Nat) (h : zs.length = m) : Zs (w.alloc (.cells (zs.map (Value.int k)).toArray t)) k (some ⟨w.heap.size, 0, none⟩) m zs := by
  refine ⟨h, .inr ⟨w.heap.size, 0, rfl, by simp, fun i z hi => ?_⟩⟩
  rw [cell_of_row _ _ (0 + i) _ t (0, 0) (heap_alloc_new w _)]
  simp [hi]
theorem own_ne {w : World} {base n c : Nat} {A : Option Addr} {xs : List Nat} (h : Gb w base A n c xs) {g : Nat} (hg : w.heap.size ≤ g) : blk A ≠ blk (some ⟨g, 0, none⟩) := fun e => by
  have := (h.2.lt g (by rw [own_blk]; exact e)).2
  omega
theorem or1 : ∀ n : Nat, n < 64 → bits BinOp.or IntKind.i64 (n : Int) 128 = n + 128 := by decide +kernel
theorem or2 : ∀ n : Nat, n < 64 → bits BinOp.or IntKind.i64 (n : Int) 64 = n + 64 := by decide +kernel
theorem or3 : ∀ n : Nat, n < 64 → bits BinOp.or IntKind.i64 ((n : Int) + 128) 64 = n + 128 + 64 := by decide +kernel
theorem Gr.apart {w w' : World} {A A' : Option Addr} (h : Gr w A w' A') {g : Nat} (hA : blk A ≠ some g) (hg : g < w.heap.size) : blk A' ≠ some g := by
  rcases h.2 with e | ⟨k, e, hk⟩
  · rw [e]; exact hA
  · rw [e]; intro e2; cases e2; omega
theorem EBox.gr {w w' : World} {A A' : Option Addr} {g : Nat} {x : El} (h : EBox w g x) (hr : Gr w A w' A') (hA : blk A ≠ some g) : EBox w' g x := (hr.1.block g h.lt fun e => hA e.symm).trans h
theorem Gr.of_below {w w1 w' : World} {A A' : Option Addr} (b : RowKit.Below w.heap.size w w1) (h : Gr w1 A w' A') : Gr w A w' A' :=
  Gr.trans ⟨⟨b.os, b.tape, b.output, b.size, fun q hq _ => b.block q hq⟩, .inl rfl⟩ h
theorem Gb.drew {w : World} {base n c : Nat} {A : Option Addr} {xs : List Nat} (h : Gb w base A n c xs) (k : Nat) : Gb (w.drewN k) base A n c xs := h.below (below_drewN' (Below.refl _ _) k)

