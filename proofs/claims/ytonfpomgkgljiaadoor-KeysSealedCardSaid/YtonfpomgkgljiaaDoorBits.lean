/- The first words, a word's bytes, the digest's bytes. -/
import Derived.Test.YtonfpomgkgljiaaDoorChange
namespace Go.Proofs.YtonfpomgkgljiaaDoor
open Go.RowKit
set_option linter.unusedVariables false
set_option maxRecDepth 100000

theorem bs_one (xs : List Nat) : ∀ v ∈ bs xs, v.oneCell' = true := by
  intro v hv
  simp only [bs, List.mem_map] at hv
  obtain ⟨x, _, rfl⟩ := hv
  rfl
theorem length_bs (xs : List Nat) : (bs xs).length = xs.length := by simp [bs]
/-- block g is just the bytes xs, of a type t -/
def Bb (w : World) (g t : Nat) (xs : List Nat) : Prop := w.heap[g]? = some (.cells (bs xs).toArray t (0, 0))
theorem Bb.lt {w : World} {g t : Nat} {xs : List Nat} (h : Bb w g t xs) : g < w.heap.size := by
  rcases Nat.lt_or_ge g w.heap.size with hlt | hge
  · exact hlt
  · unfold Bb at h; rw [Array.getElem?_eq_none hge] at h; cases h
theorem Bb.cell {w : World} {g t : Nat} {xs : List Nat} (h : Bb w g t xs) {j x : Nat} (hx : xs[j]? = some x) : w.cell? ⟨g, j, none⟩ = some (.int .u8 (x : Int)) := by
  rw [cell_of_row w g j (bs xs).toArray t (0, 0) h]
  simp [bs, hx]
theorem Bb.cellD {w : World} {g t : Nat} {xs : List Nat} (h : Bb w g t xs) {j : Nat} (hj : j < xs.length) : w.cell? ⟨g, j, none⟩ = some (.int .u8 ((xs.getD j 0 : Nat) : Int)) := by
  refine h.cell ?_
  simp [List.getD, List.getElem?_eq_getElem hj]
theorem Bb.frozen {w : World} {g t : Nat} {xs : List Nat} (h : Bb w g t xs) (j : Nat) : w.frozen? ⟨g, j, none⟩ = false := by
  unfold Bb at h
  simp [World.frozen?, h]
theorem Bb.set_ {w : World} {g t : Nat} {xs : List Nat} (h : Bb w g t xs) (j x : Nat) : Bb (w.setCell ⟨g, j, none⟩ (.int .u8 (x : Int))) g t (xs.set j x) := by
  unfold Bb at h ⊢
  simp [World.setCell, Array.getElem?_modify, h, bs]
theorem Bb.drewN {w : World} {g t : Nat} {xs : List Nat} (h : Bb w g t xs) (n : Nat) : Bb (w.drewN n) g t xs := h
theorem Bb.drew {w : World} {g t : Nat} {xs : List Nat} (h : Bb w g t xs) : Bb w.drew g t xs := h
theorem Bb.alloc {w : World} {g t : Nat} {xs : List Nat} (h : Bb w g t xs) (o : Obj) : Bb (w.alloc o) g t xs := (Below.heap_alloc w o g h.lt).trans h
theorem Bb.below {w w' : World} {B g t : Nat} {xs : List Nat} (h : Bb w g t xs) (hb : Below B w w') (hg : g < B) : Bb w' g t xs := (hb.block g hg).trans h
theorem Bb.nb {w : World} {g t : Nat} {xs : List Nat} (h : Bb w g t xs) (off n c : Nat) (hn : off + n ≤ xs.length) (hc : n ≤ c) (hc' : c ≤ 9223372036854775807) (hL : Lim 256 xs) :
    Nb w w.heap.size (some ⟨g, off, none⟩) n c ((xs.drop off).take n) :=
  ⟨by rw [List.length_take, List.length_drop]; omega, hc, hc', (hL.drop off).take n, fun _ => ⟨g, off, rfl, h.lt, fun j x hj => by
    rw [List.getElem?_take] at hj
    split at hj
    · rw [List.getElem?_drop] at hj
      exact h.cell hj
    · cases hj⟩⟩
def Yb (t : TypeId) (xs : List Nat) : Obj := .cells (bs xs).toArray t (0, 0)
theorem alloc_bb (w : World) (t : TypeId) (xs : List Nat) : Bb (w.alloc (Yb t xs)) w.heap.size t xs := heap_alloc_new w _
theorem alloc_ob (w : World) (t : TypeId) (xs : List Nat) : Wb (w.alloc (Ob t xs)) w.heap.size t xs := heap_alloc_new w _

theorem first_ok : first.Ok := by constructor <;> decide
theorem firstWords_any (w : World) : Calls Tryd.prog 42 #[] w fun e w' => e = .returned (sv first) ∧ Below w.heap.size w w' := by
  have h1 : Wb (w.alloc (Ob 56 (List.replicate 8 0))) w.heap.size 56 (List.replicate 8 0) := alloc_ob w _ _
  have hb1 : Below w.heap.size w (w.alloc (Ob 56 (List.replicate 8 0))) := (Below.refl _ _).alloc (Nat.le_refl _) _
  go_enter Tryd.func42, Tryd.ntmps42
  go_wp2_with (change wpList _ _ _ _ _ (w.alloc (Ob 56 (List.replicate 8 0))); refine wpList_store_row rfl rfl 56 (.tmp 0) (.tmp 1) rfl w.heap.size rfl (wv (words first)) rfl 56 _ h1 (wv_one _) (by simp [wv, words]) (by kernel_rfl) ?_)
  have hr1 := setRow_heap _ w.heap.size _ (wv (words first)).toArray 56 (0, 0) h1
  exact bodyPost_ret (v := sv first) (results_cell_row rfl _ _ w.heap.size 56 _ (0, 0) _ rfl hr1 Tryd.underlying56 rfl (by kernel_rfl)) rfl ⟨rfl, below_setRow hb1 (Nat.le_refl _) _⟩

theorem bytesOf_any (x : Nat) (hx : x < 4294967296) (w : World) : Calls Tryd.prog 54 #[.int .u32 (x : Int)] w fun e w' => e = .returned (.agg (bs (by4 x)).toArray) ∧ Below w.heap.size w w' := by
  have h1 : Bb (w.alloc (Yb 69 (List.replicate 4 0))) w.heap.size 69 (List.replicate 4 0) := alloc_bb w _ _
  have hb1 : Below w.heap.size w (w.alloc (Yb 69 (List.replicate 4 0))) := (Below.refl _ _).alloc (Nat.le_refl _) _
  have e0 : (x : Int) / 16777216 = ((x / 16777216 % 256 : Nat) : Int) := by omega
  have e1 : (x : Int) / 65536 % 256 = ((x / 65536 % 256 : Nat) : Int) := by omega
  have e2 : (x : Int) / 256 % 256 = ((x / 256 % 256 : Nat) : Int) := by omega
  have e3 : (x : Int) % 256 = ((x % 256 : Nat) : Int) := by omega
  have E0 := Lib.hid e0
  have E1 := Lib.hid e1
  have E2 := Lib.hid e2
  have E3 := Lib.hid e3
  clear e0 e1 e2 e3
  go_enter Tryd.func54, Tryd.ntmps54
  go_wp2_with (change wpList _ _ _ _ _ (w.alloc (Yb 69 (List.replicate 4 0))); refine wpList_store_row rfl rfl 69 (.tmp 2) (.tmp 14) rfl w.heap.size rfl (bs (by4 x)) ?_ 69 _ h1 (bs_one _) (by simp [bs, by4]) (by kernel_rfl) ?_)
  · show Value.agg #[Value.int IntKind.u8 ((x : Int) / 16777216), Value.int IntKind.u8 ((x : Int) / 65536 % 256), Value.int IntKind.u8 ((x : Int) / 256 % 256), Value.int IntKind.u8 ((x : Int) % 256)] = _
    rw [E0.out, E1.out, E2.out, E3.out]
    rfl
  have hr1 := setRow_heap _ w.heap.size _ (bs (by4 x)).toArray 69 (0, 0) h1
  exact bodyPost_ret (v := .agg (bs (by4 x)).toArray) (results_cell_row rfl _ _ w.heap.size 69 _ (0, 0) _ rfl hr1 Tryd.underlying69 rfl (by kernel_rfl)) rfl ⟨rfl, below_setRow hb1 (Nat.le_refl _) _⟩

theorem idx_words (s : St) (k : Nat) (hk : k < 8) (W : World) : (Instr.index 56 (.agg (wv (words s)).toArray) (.int .i64 (k : Int))).run Tryd.prog W = .ok (.int .u32 (((words s).getD k 0 : Nat) : Int)) W := by
  have hh : k = 0 ∨ k = 1 ∨ k = 2 ∨ k = 3 ∨ k = 4 ∨ k = 5 ∨ k = 6 ∨ k = 7 := by omega
  rcases hh with rfl | rfl | rfl | rfl | rfl | rfl | rfl | rfl <;> rfl
end Go.Proofs.YtonfpomgkgljiaaDoor
