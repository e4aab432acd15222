/- A block that the call itself made, known whole; what keeps it. -/
import Derived.Test.YtddpgckbdccldaaWords
import Derived.Deep.RegionWith
import Derived.StillTailTactics
import Derived.WalkLawsBesides
import Derived.WalkSpells
namespace Go.Proofs.Ytddpgckbdccldaa
set_option linter.unusedSimpArgs false
set_option linter.unusedVariables false
open Go.RowKit

/-- block g is just the limbs xs -/
def Ow (w : World) (g : Nat) (xs : List Nat) : Prop := w.heap[g]? = some (.cells (us xs).toArray 66 (0, 0))

theorem Ow.lt {w : World} {g : Nat} {xs : List Nat} (h : Ow w g xs) : g < w.heap.size := by
  rcases Nat.lt_or_ge g w.heap.size with hlt | hge
  · exact hlt
  · unfold Ow at h; rw [Array.getElem?_eq_none hge] at h; cases h
theorem Ow.cell {w : World} {g : Nat} {xs : List Nat} (h : Ow w g xs) {j x : Nat} (hx : xs[j]? = some x) : w.cell? ⟨g, j, none⟩ = some (.int .u64 (x : Int)) := by
  rw [cell_of_row w g j (us xs).toArray 66 (0, 0) h]
  simp [us, hx]
theorem Ow.frozen {w : World} {g : Nat} {xs : List Nat} (h : Ow w g xs) (j : Nat) : w.frozen? ⟨g, j, none⟩ = false := by
  unfold Ow at h
  simp [World.frozen?, h]
theorem Ow.set_ {w : World} {g : Nat} {xs : List Nat} (h : Ow w g xs) (j x : Nat) : Ow (w.setCell ⟨g, j, none⟩ (.int .u64 (x : Int))) g (xs.set j x) := by
  unfold Ow at h ⊢
  simp [World.setCell, Array.getElem?_modify, h, us]
theorem Ow.drewN {w : World} {g : Nat} {xs : List Nat} (h : Ow w g xs) (n : Nat) : Ow (w.drewN n) g xs := h
theorem Ow.drew {w : World} {g : Nat} {xs : List Nat} (h : Ow w g xs) : Ow w.drew g xs := h
theorem Ow.alloc {w : World} {g : Nat} {xs : List Nat} (h : Ow w g xs) (o : Obj) : Ow (w.alloc o) g xs := (Below.heap_alloc w o g h.lt).trans h
theorem Ow.below {w w' : World} {B g : Nat} {xs : List Nat} (h : Ow w g xs) (hb : Below B w w') (hg : g < B) : Ow w' g xs := (hb.block g hg).trans h
theorem Ow.grown {w w' : World} {g : Nat} {row : Option Nat} {xs : List Nat} (h : Ow w g xs) (hb : w.grownBy w' row) (hg : some g ≠ row) : Ow w' g xs := (hb.block g h.lt hg).trans h
theorem Ow.nt {w : World} {g n : Nat} {xs : List Nat} (h : Ow w g xs) (hl : xs.length ≤ maxLen) (hx : Lim 18446744073709551616 xs) (hn : n ≤ xs.length) : Nt w (g + 1) (some ⟨g, 0, none⟩) n xs.length (xs.take n) :=
  ⟨by simp [hn], hn, hl, hx.take n, fun _ => ⟨g, 0, rfl, by omega, fun j x hj => by
    rw [Nat.zero_add]
    refine h.cell ?_
    rw [List.getElem?_take] at hj
    split at hj
    · exact hj
    · cases hj⟩⟩

theorem only_drewN {a w : World} {row : Option Nat} (h : a.grownBy w row) (n : Nat) : a.grownBy (w.drewN n) row := ⟨h.os, h.tape, h.output, h.size, h.block⟩
theorem only_drew {a w : World} {row : Option Nat} (h : a.grownBy w row) : a.grownBy w.drew row := ⟨h.os, h.tape, h.output, h.size, h.block⟩
theorem only_alloc {a w : World} {row : Option Nat} (h : a.grownBy w row) (o : Obj) : a.grownBy (w.alloc o) row :=
  ⟨h.os, h.tape, h.output, Nat.le_trans h.size (by simp), fun i hi hne => (Below.heap_alloc w o i (Nat.lt_of_lt_of_le hi h.size)).trans (h.block i hi hne)⟩
theorem only_setCell {a w : World} {g : Nat} (h : a.grownBy w (some g)) {p : Addr} (hp : p.block = g ∨ a.heap.size ≤ p.block) (u : Value) : a.grownBy (w.setCell p u) (some g) :=
  ⟨h.os, h.tape, h.output, by simpa [World.setCell] using h.size, fun i hi hne => (Below.heap_setCell w p u i (by
    rintro rfl
    rcases hp with hp | hp
    · exact hne (by rw [hp])
    · omega)).trans (h.block i hi hne)⟩
theorem only_trans {a b c : World} {row : Option Nat} (h : a.grownBy b row) (k : b.grownBy c row) : a.grownBy c row :=
  ⟨k.os.trans h.os, k.tape.trans h.tape, k.output.trans h.output, Nat.le_trans h.size k.size, fun i hi hne => (k.block i (Nat.lt_of_lt_of_le hi h.size) hne).trans (h.block i hi hne)⟩
theorem below_of_only {B : Nat} {a w : World} {g : Nat} (h : a.grownBy w (some g)) (hg : B ≤ g) (hB : B ≤ a.heap.size) : Below B a w := ⟨h.os, h.tape, h.output, h.size, fun i hi => h.block i (by omega) (by simp; omega)⟩
theorem Nt.only {w w' : World} {B g : Nat} {A : Option Addr} {n c : Nat} {xs : List Nat} (h : Nt w B A n c xs) (hg : w.grownBy w' (some g)) (hBg : B ≤ g) (hB : B ≤ w.heap.size) : Nt w' B A n c xs :=
  h.below (below_of_only hg hBg hB)
theorem Nt.drew {w : World} {B : Nat} {A : Option Addr} {n c : Nat} {xs : List Nat} (h : Nt w B A n c xs) : Nt w.drew B A n c xs := ⟨h.len, h.cap, h.room, h.lim, h.cell⟩
theorem Nt.drewN {w : World} {B : Nat} {A : Option Addr} {n c : Nat} {xs : List Nat} (h : Nt w B A n c xs) (k : Nat) : Nt (w.drewN k) B A n c xs := ⟨h.len, h.cap, h.room, h.lim, h.cell⟩
theorem below_drewN {B : Nat} {a w : World} (h : Below B a w) (n : Nat) : Below B a (w.drewN n) := ⟨h.os, h.tape, h.output, h.size, h.block⟩

theorem run_sub64 {P : Program} (x y b : Nat) (hb : b ≤ 1) (w : World) :
    ((fun args => do
      let (x, y, b) ← Extern.MathBitsCarry.three "Sub64" args
      pure (Extern.MathBitsCarry.pair ((x + Extern.MathBitsCarry.m64 - y - b) % Extern.MathBitsCarry.m64) (if x < y + b then 1 else 0)) : Array Value → Sem Value) #[.int .u64 x, .int .u64 y, .int .u64 b]).run P w =
      .ok (.tuple #[.int .u64 ((df x y b : Nat) : Int), .int .u64 ((bo x y b : Nat) : Int)]) w := by
  have : b = 0 ∨ b = 1 := by omega
  rcases this with rfl | rfl <;> rfl





end Go.Proofs.Ytddpgckbdccldaa
