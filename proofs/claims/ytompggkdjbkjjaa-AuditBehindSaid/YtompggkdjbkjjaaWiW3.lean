/- wire: fields; which may be, how many bytes they have. -/
import Derived.Test.YtompggkdjbkjjaaWiW2
import Derived.Deep.QuietTactic
import Derived.BigQuiet
namespace Go.Proofs.Ytompggkdjbkjjaa.Wi
open Go.RowKit
set_option linter.unusedVariables false
set_option maxRecDepth 100000
/-- a field as it lies in memory: its numbers, its two rows, and the bytes that these hold -/
structure El where
  op : Int
  resp : Bool
  bad : Bool
  as_ : Int
  (ts fs : Nat)
  (A : Option Addr)
  (n c : Nat)
  (B : Option Addr)
  (m e : Nat)
  (xs ys : List Nat)
abbrev elV (x : El) : Value := .agg #[.int .i64 x.op, .bool x.resp, .bool x.bad, .int .i64 x.as_, .int .u32 (x.ts : Int), .int .u32 (x.fs : Int), .slice x.A x.n x.c, .slice x.B x.m x.e]
def El.cs (x : El) : List Value := [.int .i64 x.op, .bool x.resp, .bool x.bad, .int .i64 x.as_, .int .u32 (x.ts : Int), .int .u32 (x.fs : Int), .slice x.A x.n x.c, .slice x.B x.m x.e]
/-- may a right packet have such a field? -/
def fieldB (x : El) : Bool := wi x.op 1 63 && (wi x.as_ 0 65535 && (decide (x.n ≤ 2048) && decide (x.m ≤ 2048)))

def fld (n : Nat) : Nat := (n + 3) / 4 * 4
theorem filled_any {n : Nat} (hn : n ≤ 1099511627776) (w : World) : Calls Try.prog 58 #[.int .i64 (n : Int)] w fun e w' => e = .returned (.int .i64 (fld n : Nat)) ∧ w' = w := by
  have a1 : wrap64 ((n : Int) + 3) = (n : Int) + 3 := by unfold wrap64; omega
  have a2 : ((n : Int) + 3).tdiv 4 = ((n + 3) / 4 : Nat) := by rw [Int.tdiv_eq_ediv_of_nonneg (by omega)]; omega
  have a3 : wrap64 (((n + 3) / 4 : Nat) * 4) = ((fld n : Nat) : Int) := by unfold fld wrap64; push_cast; omega
  have A3 := Lib.hid a3
  go_enter Try.func58, Try.ntmps58
  go_wp2_with fail
  go_ret
  exact ⟨by show Ending.returned (Value.int _ (((n : Int) + 3) / 4 * 4)) = _; unfold fld; push_cast; rfl, rfl⟩
/-- a field in a box of its own -/
def EBox (w : World) (g : Nat) (x : El) : Prop := w.heap[g]? = some (.cells #[.int .i64 x.op, .bool x.resp, .bool x.bad, .int .i64 x.as_, .int .u32 (x.ts : Int), .int .u32 (x.fs : Int), .slice x.A x.n x.c, .slice x.B x.m x.e] 85 (0, 0))
theorem EBox.lt {w : World} {g : Nat} {x : El} (h : EBox w g x) : g < w.heap.size := (Array.getElem?_eq_some_iff.1 h).1
theorem EBox.below {w w' : World} {g : Nat} {x : El} (h : EBox w g x) (b : RowKit.Below w.heap.size w w') : EBox w' g x := (b.block g h.lt).trans h
theorem EBox.cells {w : World} {g : Nat} {x : El} (h : EBox w g x) : w.cell? ⟨g, 0, none⟩ = some (.int .i64 x.op) ∧ w.cell? ⟨g, 1, none⟩ = some (.bool x.resp) ∧ w.cell? ⟨g, 2, none⟩ = some (.bool x.bad) ∧ w.cell? ⟨g, 3, none⟩ = some (.int .i64 x.as_) ∧ w.cell? ⟨g, 4, none⟩ = some (.int .u32 (x.ts : Int)) ∧ w.cell? ⟨g, 5, none⟩ = some (.int .u32 (x.fs : Int)) ∧ w.cell? ⟨g, 6, none⟩ = some (.slice x.A x.n x.c) ∧ w.cell? ⟨g, 7, none⟩ = some (.slice x.B x.m x.e) := by
  have h' : w.heap[g]? = _ := h
  refine ⟨?_, ?_, ?_, ?_, ?_, ?_, ?_, ?_⟩ <;> simp [World.cell?, h']
theorem below_drewN' {w0 w : World} {B : Nat} (h : RowKit.Below B w0 w) (n : Nat) : RowKit.Below B w0 (w.drewN n) := ⟨h.os, h.tape, h.output, h.size, h.block⟩
theorem bthen {B : Nat} {w0 w w' : World} (h : RowKit.Below B w0 w) (k : RowKit.Below w.heap.size w w') (hB : B ≤ w0.heap.size) : RowKit.Below B w0 w' := h.trans (k.mono (Nat.le_trans hB h.size))
theorem w64_succ {j n : Nat} (h : j < n) (hn : n ≤ 4096) : wrap64 ((j : Int) + 1) = ((j + 1 : Nat) : Int) := by unfold wrap64; omega
theorem w64_sum {k k2 k3 : Nat} (h : k3 = k + k2) (hn : k3 ≤ 4096 * 2147483680) : wrap64 (((48 + k : Nat) : Int) + (k2 : Nat)) = ((48 + k3 : Nat) : Int) := by unfold wrap64; omega
def szf (x : El) : Nat := 24 + fld x.n + fld x.m
theorem fld_lim (n : Nat) : n ≤ fld n ∧ fld n ≤ n + 3 := by unfold fld; omega

/-- a row of fields that can be read -/
def Es (w : World) (B : Nat) (A : Option Addr) (n : Nat) (xs : List El) : Prop :=
  xs.length = n ∧ (∀ x ∈ xs, Nb w B x.A x.n x.c x.xs ∧ Nb w B x.B x.m x.e x.ys) ∧ (n = 0 ∨ ∃ g off, A = some ⟨g, off, none⟩ ∧ g < B ∧ ∀ i x, xs[i]? = some x →
    w.cell? ⟨g, off + i * 8, none⟩ = some (.int .i64 x.op) ∧ w.cell? ⟨g, off + i * 8 + 1, none⟩ = some (.bool x.resp) ∧ w.cell? ⟨g, off + i * 8 + 2, none⟩ = some (.bool x.bad) ∧ w.cell? ⟨g, off + i * 8 + 3, none⟩ = some (.int .i64 x.as_) ∧
    w.cell? ⟨g, off + i * 8 + 4, none⟩ = some (.int .u32 (x.ts : Int)) ∧ w.cell? ⟨g, off + i * 8 + 5, none⟩ = some (.int .u32 (x.fs : Int)) ∧ w.cell? ⟨g, off + i * 8 + 6, none⟩ = some (.slice x.A x.n x.c) ∧ w.cell? ⟨g, off + i * 8 + 7, none⟩ = some (.slice x.B x.m x.e))
theorem Es.below {w w' : World} {B C n : Nat} {A : Option Addr} {xs : List El} (h : Es w B A n xs) (b : RowKit.Below C w w') (hB : B ≤ C) : Es w' B A n xs := by
  have bb : RowKit.Below B w w' := b.mono hB
  refine ⟨h.1, fun x hx => ⟨(h.2.1 x hx).1.below bb, (h.2.1 x hx).2.below bb⟩, h.2.2.imp id ?_⟩
  rintro ⟨g, off, rfl, hg, hc⟩
  refine ⟨g, off, rfl, hg, fun i x hx => ?_⟩
  obtain ⟨c0, c1, c2, c3, c4, c5, c6, c7⟩ := hc i x hx
  have e : ∀ j, w'.cell? ⟨g, j, none⟩ = w.cell? ⟨g, j, none⟩ := fun j => bb.cell (p := ⟨g, j, none⟩) hg
  exact ⟨(e _).trans c0, (e _).trans c1, (e _).trans c2, (e _).trans c3, (e _).trans c4, (e _).trans c5, (e _).trans c6, (e _).trans c7⟩
/-- how many bytes some fields have -/
def szs (l : List El) : Nat := (l.map szf).sum
theorem szs_take {l : List El} {j : Nat} {x : El} (h : l[j]? = some x) : szs (l.take (j + 1)) = szs (l.take j) + szf x := by
  unfold szs
  rw [List.take_add_one, h]; simp
theorem sum_le {xs : List El} {b : Nat} (h : ∀ x ∈ xs, szf x ≤ b) : (xs.map szf).sum ≤ xs.length * b := by
  induction xs with
  | nil => simp
  | cons x xs ih =>
    have a1 := h x (by simp)
    have a2 := ih (fun y hy => h y (by simp [hy]))
    simp only [List.map_cons, List.sum_cons, List.length_cons]
    rw [Nat.add_mul]; omega
def szp (p : Pk) (l : List El) : Nat := 48 + szs l + (if p.m.has then 4 + p.m.n else 0)

end Go.Proofs.Ytompggkdjbkjjaa.Wi
