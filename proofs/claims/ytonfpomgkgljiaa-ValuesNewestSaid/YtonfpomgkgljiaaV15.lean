/- Get on a shelf; long; the reference's Same of alike values. -/
import Derived.Test.YtonfpomgkgljiaaV12
namespace Go.Proofs.Ytonfpomgkgljiaa
open Go.RowKit
set_option linter.unusedVariables false
set_option maxRecDepth 100000

theorem get_ret' {w : World} {g : Nat} {t f : Int} {x y : Value} (h : BoxAt w g t f x y) {fn : Func} (hf : fn.results = #[.cell 4 33, .tmp 5]) (E : Int) (tmps : Array Value) (hp : tmps.getD 4 undef = .pointer (some ⟨g, 0, none⟩)) (hq : tmps.getD 5 undef = .int .i64 E) :
    (results fn tmps).run Try.prog w = .ok (.tuple #[.agg #[.int .u32 t, .int .u32 f, x, y], .int .i64 E]) w := by
  rw [results_cell_tmp hf]
  have hl := run_loadVar_row (P := Try.prog) w g 33 33 #[.int .u32 t, .int .u32 f, x, y] (0, 0) _ h Try.underlying33 rfl (by kernel_rfl)
  rw [hp, hq]
  simp [asAddr, Result.andThen, hl]
def lg (n m : Nat) : Bool := decide ((300 : Int) < n) && decide ((n : Int) ≤ 2048) || decide ((3000 : Int) < n) || decide ((300 : Int) < m)
set_option maxHeartbeats 1000000 in
theorem long_any (t f : Int) (A : Option Addr) (n c : Nat) (B : Option Addr) (m e : Nat) (w : World) :
    Calls Try.prog 9 #[.agg #[.int .u32 t, .int .u32 f, .slice A n c, .slice B m e]] w fun E w' => E = .returned (.bool (lg n m)) ∧ Below w.heap.size w w' := by
  have b1 : ∀ X : Obj, Below w.heap.size w (w.alloc X) := fun X => (Below.refl _ _).alloc (Nat.le_refl _) _
  have HL := Lib.hid (show lg n m = (decide ((300 : Int) < n) && decide ((n : Int) ≤ 2048) || decide ((3000 : Int) < n) || decide ((300 : Int) < m)) from rfl)
  cases d1 : decide ((300 : Int) < (n : Int)) <;> cases d2 : decide ((n : Int) ≤ 2048) <;> cases d3 : decide ((3000 : Int) < (n : Int))
  all_goals
    go_enter Try.func9, Try.ntmps9
    go_wp2
    go_ret
    exact ⟨by rw [HL.out, d1, d2, d3]; rfl, b1 _⟩
set_option maxHeartbeats 1000000 in
/-- two values of the same content -/
theorem same_same {w : World} {v : Val} {A A2 B B2 : Option Addr} {n c n2 c2 d d2 : Nat} (h : Vb w w.heap.size v A n c A2 n2 c2) (h' : Vb w w.heap.size v B n d B2 n2 d2) :
    Calls Try.prog 16 #[.agg #[.int .u32 (v.ts : Int), .int .u32 (v.fs : Int), .slice A n c, .slice A2 n2 c2], .agg #[.int .u32 (v.ts : Int), .int .u32 (v.fs : Int), .slice B n d, .slice B2 n2 d2]] w fun E w' => E = .returned (.bool true) ∧ Below w.heap.size w w' := by
  have b2 : ∀ X Y : Obj, Below w.heap.size w ((w.alloc X).alloc Y) := fun X Y => ((Below.refl _ _).alloc (Nat.le_refl _) _).alloc (by simp) _
  have k1 := fun X Y => conv_any (h.d.far (b2 X Y))
  have k2 := fun X Y => conv_any (h.s.far (b2 X Y))
  have k3 := fun X Y => conv_any (h'.d.far (b2 X Y))
  have k4 := fun X Y => conv_any (h'.s.far (b2 X Y))
  generalize bstr v.data = S1 at *
  generalize bstr v.sig = S2 at *
  have e1 := eq_self S1
  have e2 := eq_self S2
  have B2 := Lib.hid b2
  clear b2 h h'
  go_enter Try.func16, Try.ntmps16
  go_wp2
  go_ret
  exact ⟨rfl, B2.out _ _⟩
set_option maxHeartbeats 1000000 in
theorem get_none {w : World} {g m : Nat} (h : Shelf1 w g m #[] 0) (k : Int) :
    Calls Try.prog 14 #[.pointer (some ⟨g, 0, none⟩), .int .i64 k] w fun e w' => e = .returned (.tuple #[zeroV, .int .i64 4]) ∧ Below w.heap.size w w' := by
  have c0 := h.c0
  have c1 := h.c1
  have c01 := fun X => cell_more c0 X
  have c11 := fun X => cell_more c1 X
  have hl := fun X => look_empty (w := w.alloc X) (m := m) (c := 0) ((Below.heap_alloc _ _ _ (Array.getElem?_eq_some_iff.1 h.hm).1).trans h.hm) k
  unfold zeroV at hl
  go_enter Try.func14, Try.ntmps14
  go_wp2
  trace_state
  exact bodyPost_ret (get_ret' (t := 0) (f := 0) (x := .slice none 0 0) (y := .slice none 0 0) (BoxAt.new w 0 0 (.slice none 0 0) (.slice none 0 0) |>.alloc _) rfl 4 _ rfl rfl) rfl ⟨rfl, ((Below.refl _ _).alloc (Nat.le_refl _) _).alloc (by simp) _⟩
end Go.Proofs.Ytonfpomgkgljiaa
