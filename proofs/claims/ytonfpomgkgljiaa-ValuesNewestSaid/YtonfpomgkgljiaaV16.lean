/- Get on a shelf that has the sort. -/
import Derived.Test.YtonfpomgkgljiaaV15
import Derived.Test.YtonfpomgkgljiaaV14
namespace Go.Proofs.Ytonfpomgkgljiaa
open Go.RowKit
set_option linter.unusedVariables false
set_option maxRecDepth 100000

theorem nb_setRow {w : World} {s n c : Nat} {A : Option Addr} {xs : List Nat} {cur cs : Array Value} {t : TypeId} (h : Nb w w.heap.size A n c xs) (hs : w.heap[s]? = some (.cells cur t (0, 0))) (hno : ∀ (j : Nat) (x : Int), cur[j]? ≠ some (.int .u8 x)) : Nb (w.setRow s cs) (w.setRow s cs).heap.size A n c xs :=
  ⟨h.len, h.cap, h.room, h.lim, fun h0 => by
    obtain ⟨b, off, e, hb, hc⟩ := h.cell h0
    have hne : b ≠ s := fun e => by
      subst e
      have hl : 0 < xs.length := by rw [h.len]; exact h0
      have := hc 0 xs[0] (List.getElem?_eq_getElem hl)
      simp [World.cell?, hs] at this
      exact hno _ _ (by simpa using this)
    exact ⟨b, off, e, by simpa [World.setRow] using hb, fun j x hx => (cell_block (setRow_other _ _ _ _ hne)).trans (hc j x hx)⟩⟩
theorem zeros_no (j : Nat) (x : Int) : (#[.int .u32 0, .int .u32 0, .slice none 0 0, .slice none 0 0] : Array Value)[j]? ≠ some (.int .u8 x) := by
  match j with
  | 0 | 1 | 2 | 3 => simp
  | (k + 4) => simp
set_option maxHeartbeats 2000000 in
theorem get_some {w : World} {g m : Nat} {k : Int} {v : Val} {A A2 : Option Addr} {n c n2 c2 : Nat} (h : Shelf1 w g m (One k v.ts v.fs A n c A2 n2 c2) 1) (hv : Vb w w.heap.size v A n c A2 n2 c2) (hn : n ≤ 2048) (hn2 : n2 ≤ 128) :
    Calls Try.prog 14 #[.pointer (some ⟨g, 0, none⟩), .int .i64 k] w fun e w' => ∃ A' c' A2' c2', e = .returned (.tuple #[.agg #[.int .u32 (v.ts : Int), .int .u32 (v.fs : Int), .slice A' n c', .slice A2' n2 c2'], .int .i64 0]) ∧ Vb w' w'.heap.size v A' n c' A2' n2 c2' ∧ Below w.heap.size w w' := by
  have c0 := h.c0
  have c1 := h.c1
  have c01 := fun X => cell_more c0 X
  have c11 := fun X => cell_more c1 X
  have hl := fun X => look_one (w := w.alloc X) (m := m) (c := 1) ((Below.heap_alloc _ _ _ (Array.getElem?_eq_some_iff.1 h.hm).1).trans h.hm) k
  simp only [if_true] at hl
  have b2 : ∀ X Y : Obj, Below w.heap.size w ((w.alloc X).alloc Y) := fun X Y => ((Below.refl _ _).alloc (Nat.le_refl _) _).alloc (by simp) _
  have P := Lib.hid (fun X Y => copied_any (w := (w.alloc X).alloc Y) (hv.far (b2 X Y)) (by omega) (by omega))
  have B2 := Lib.hid b2
  have HZ := Lib.hid (show ∀ (X : Obj) (w5 : World), Below ((w.alloc (.cells #[.int .u32 0, .int .u32 0, .slice none 0 0, .slice none 0 0] 33)).alloc X).heap.size ((w.alloc (.cells #[.int .u32 0, .int .u32 0, .slice none 0 0, .slice none 0 0] 33)).alloc X) w5 → w5.heap[w.heap.size]? = some (.cells #[.int .u32 0, .int .u32 0, .slice none 0 0, .slice none 0 0] 33 (0, 0)) from fun X w5 b => (b.block _ (by simp; omega)).trans ((Below.heap_alloc _ _ _ (by simp)).trans (World.alloc_heap_new w _)))
  clear b2 hv
  go_enter Try.func14, Try.ntmps14
  go_wp2_with (first
    | (go_at_call 29; refine (P.out _ _).mono ?_; rintro e w5 ⟨A', c', A2', c2', rfl, hv5, b5⟩; have ho := HZ.out _ w5 b5)
    | (refine wpList_store_row rfl rfl 33 (.tmp 4) (.tmp 24) rfl w.heap.size rfl [.int .u32 (v.ts : Int), .int .u32 (v.fs : Int), .slice A' n c', .slice A2' n2 c2'] rfl 33 _ ho (by intro v hv; simp at hv; rcases hv with rfl | rfl | rfl | rfl <;> rfl) rfl (by kernel_rfl) ?_)
    | go_in)
  have hr := setRow_heap w5 w.heap.size _ #[.int .u32 (v.ts : Int), .int .u32 (v.fs : Int), .slice A' n c', .slice A2' n2 c2'] 33 (0, 0) ho
  exact bodyPost_ret (get_ret' (t := v.ts) (f := v.fs) (x := .slice A' n c') (y := .slice A2' n2 c2') hr rfl 0 _ rfl rfl) rfl ⟨A', c', A2', c2', rfl, ⟨nb_setRow hv5.d ho zeros_no, nb_setRow hv5.s ho zeros_no⟩, below_setRow ((B2.out _ _).trans (b5.mono (by simp; omega))) (Nat.le_refl _) _⟩
end Go.Proofs.Ytonfpomgkgljiaa
