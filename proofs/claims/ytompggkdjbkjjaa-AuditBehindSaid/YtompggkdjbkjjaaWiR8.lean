/- wire: what parse answers of bytes that are no packet; the iterator over the fields. -/
import Derived.Test.YtompggkdjbkjjaaWiR7
import Derived.Test.YtompggkdjbkjjaaWiR5
namespace Go.Proofs.Ytompggkdjbkjjaa.Wi
open Go.RowKit Go.Shelf
set_option linter.unusedVariables false
set_option maxRecDepth 100000
def hd0 : Hd := ⟨0, 0, 0, 0, 0, 0, 0, 0, 0, 0, 0, 0, 0⟩
def pk0 : Pk := ⟨hd0, none, 0, 0, m0⟩
/-- a fault -/
abbrev flV (a e : Int) : Value := .agg #[.int .i64 a, .int .i64 e]
abbrev flC (a e : Int) : Array Value := #[.int .i64 a, .int .i64 e]
theorem s39 : (Try.prog.info? 81).map (·.size) = some 2 := by kernel_rfl
theorem fl_all (a e : Int) : ((flC a e).all (·.oneCell')) = true := by simp [Value.oneCell']
def res3 (p : Pk) (k a e : Int) : Value := .tuple #[pkV p, .int .i64 k, flV a e]
set_option maxHeartbeats 1000000 in
theorem refused_any (a e : Int) (w : World) : Calls Try.prog 42 #[.int .i64 a, .int .i64 e] w fun en w' => en = .returned (res3 pk0 0 a e) ∧ RowKit.Below w.heap.size w w' := by
  obtain ⟨W1, hW1⟩ : ∃ W, W = w.alloc (.cells #[.int .i64 0, .int .i64 0, .int .i64 0, .int .i64 0, .int .i64 0, .int .i64 0, .int .u32 0, .int .u32 0, .int .u32 0, .int .u64 0, .int .u64 0, .int .u64 0, .int .u64 0, .slice none 0 0, .bool false, .int .u32 0, .slice none 0 0] 79) := ⟨_, rfl⟩
  obtain ⟨W, hW⟩ : ∃ W, W = W1.alloc (.cells #[.int .i64 0, .int .i64 0] 81) := ⟨_, rfl⟩
  have hb1 : RowKit.Below w.heap.size w W1 := by rw [hW1]; exact (Below.refl _ _).alloc (Nat.le_refl _) _
  have hb : RowKit.Below w.heap.size w W := by rw [hW]; exact hb1.alloc hb1.size _
  have hs1 : W1.heap.size = w.heap.size + 1 := by rw [hW1]; simp
  have hx1 : W1.heap[w.heap.size]? = some (.cells (pkC pk0) 79 (0, 0)) := by rw [hW1]; exact heap_alloc_new w _
  have hx : W.heap[w.heap.size]? = some (.cells (pkC pk0) 79 (0, 0)) := by rw [hW]; exact (Below.heap_alloc _ _ _ (by omega)).trans hx1
  have hy : W.heap[w.heap.size + 1]? = some (.cells (flC 0 0) 81 (0, 0)) := by rw [hW, ← hs1]; exact heap_alloc_new W1 _
  have HW := Lib.hid (hW1 ▸ hW)
  have HX := Lib.hid hx
  have HY := Lib.hid hy
  have HB := Lib.hid hb
  clear hW1 hW hb1 hb hs1 hx1 hx hy
  go_enter Try.func42, Try.ntmps42
  go_upto_region 1 with fail
  rw [← HW.out]
  go_wp2_with (first
    | (refine wpList_store_row rfl 79 (.tmp 4) (.tmp 7) rfl w.heap.size (pkC pk0) rfl rfl 79 _ HX.out s29 rfl (pk_all _) ?_)
    | (refine wpList_store_row rfl 81 (.tmp 6) (.tmp 10) rfl (w.heap.size + 1) (flC a e) rfl rfl 81 _ ((setRow_other W w.heap.size (w.heap.size + 1) (pkC pk0) (by omega)).trans HY.out) s39 rfl (fl_all _ _) ?_))
  obtain ⟨D1, hD1⟩ : ∃ D, D = W.setRow w.heap.size (pkC pk0) := ⟨_, rfl⟩
  have hy1 : D1.heap[w.heap.size + 1]? = some (.cells (flC 0 0) 81 (0, 0)) := by rw [hD1]; exact (setRow_other W w.heap.size (w.heap.size + 1) (pkC pk0) (by omega)).trans HY.out
  have hx1 : D1.heap[w.heap.size]? = some (.cells (pkC pk0) 79 (0, 0)) := by rw [hD1]; exact setRow_heap W w.heap.size _ (pkC pk0) 79 (0, 0) HX.out
  have hb1 : RowKit.Below w.heap.size w D1 := by rw [hD1]; exact below_setRow HB.out (Nat.le_refl _) _
  rw [← hD1]
  clear hD1 HX HY HB HW
  have hy2 := setRow_heap D1 (w.heap.size + 1) _ (flC a e) 81 (0, 0) hy1
  have hx2 := (setRow_other D1 (w.heap.size + 1) w.heap.size (flC a e) (by omega)).trans hx1
  have hb2 := below_setRow hb1 (Nat.le_succ _) (flC a e)
  generalize D1.setRow (w.heap.size + 1) (flC a e) = D2 at *
  have rl1 := run_loadVar_row (P := Try.prog) D2 w.heap.size 79 79 _ (0, 0) _ hx2 Try.underlying79 rfl s29
  have rl2 := run_loadVar_row (P := Try.prog) D2 (w.heap.size + 1) 81 81 _ (0, 0) _ hy2 Try.underlying81 rfl s39
  refine bodyPost_ret (v := res3 pk0 0 a e) ?_ rfl ⟨rfl, hb2⟩
  simp [results, Try.results41, asAddr, Act.put, rl1, rl2, res3]
theorem fields_any (A : Option Addr) (n c : Nat) (w : World) : Calls Try.prog 47 #[.slice A n c] w fun e w' => e = .returned (.func (.func 55) #[] #[.pointer (some ⟨w.heap.size, 0, none⟩)]) ∧ w' = w.alloc (.cells #[.slice A n c] 52) := by
  go_enter Try.func47, Try.ntmps47
  go_wp2_with fail
  go_ret
  exact ⟨rfl, rfl⟩
theorem fields_yields {A : Option Addr} {n c : Nat} {xs : List Nat} (hn : 48 ≤ n ∧ n ≤ 1073741824) (n0 B1 : Nat) (w : World) (hn0 : n0 ≤ w.heap.size) (hB1 : B1 < w.heap.size) (hc1 : w.cell? ⟨B1, 0, none⟩ = some (.slice A n c)) (hx : Nb w n0 A n c xs) :
    Yields Fence.wide 8 Try.prog 55 #[.pointer (some ⟨B1, 0, none⟩)] w.heap.size (fds xs n 48).length (fun k => fdV A c ((fds xs n 48).getD k (0, 0))) (Keeps n0 B1) w := by
  intro l J Jx W hb hJ hY h0
  have hs' := hb.size
  refine fields_in l B1 n0 hn _ rfl J Jx (fun k p W1 hj hp => ?_) hJ W (by omega) (by omega) ((hb.cell (p := ⟨B1, 0, none⟩) hB1).trans hc1) (hx.below (hb.mono hn0)) h0
  have hk : k < (fds xs n 48).length := (List.getElem?_eq_some_iff.1 hp).1
  have := hY k W1 hj hk
  simp only [List.getD_eq_getElem?_getD, hp, Option.getD_some] at this
  exact this
end Go.Proofs.Ytompggkdjbkjjaa.Wi
