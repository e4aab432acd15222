/- A copy of any value. -/
import Derived.Test.YtonfpomgkgljiaaV9
namespace Go.Proofs.Ytonfpomgkgljiaa
open Go.RowKit
set_option linter.unusedVariables false
set_option maxRecDepth 100000

def Yb (t : TypeId) (xs : List Nat) : Obj := .cells (bs xs).toArray t (0, 0)
theorem Gb.new {w : World} {base n c : Nat} {A : Option Addr} {xs : List Nat} (h : Gb w base A n c xs) (h0 : 0 < n) : ∃ g off, A = some ⟨g, off, none⟩ ∧ base ≤ g := by
  rcases h.2.2 with ⟨_, he⟩ | ⟨g, cap, cur, e, hg, _⟩
  · omega
  · cases e; exact ⟨g, 0, rfl, hg⟩
/-- a copy in new memory -/
def CopyIs (xs : List Nat) (n : Nat) (w : World) (e : Ending) (w' : World) : Prop := ∃ A' c', e = .returned (.slice A' n c') ∧ Nb w' w'.heap.size A' n c' xs ∧ (0 < n → ∃ g off, A' = some ⟨g, off, none⟩ ∧ w.heap.size ≤ g) ∧ Below w.heap.size w w'
set_option maxHeartbeats 1000000 in
theorem clone_any {w : World} {A : Option Addr} {n c : Nat} {xs : List Nat} (h : Nb w w.heap.size A n c xs) (hn : n ≤ 1099511627776) : Calls Try.prog 35 #[.slice A n c] w (CopyIs xs n w) := by
  have hr := h.room
  have hc := h.cap
  have q22 : ∀ (w : World) (a : Option Addr) (n c n' c' : Nat), (binOp .eql 31 (.slice a n c) (.slice none n' c')).run Try.prog w = .ok (.bool a.isNone) w := fun w a n c n' c' => Lib.run_eql_slice_nil w _ _ a n c n' c' Try.underlying31
  rcases A with _ | ad
  · have hm : n = 0 := by
      rcases Nat.eq_zero_or_pos n with h0 | h0
      · exact h0
      · obtain ⟨b, off, e, _⟩ := h.cell h0
        cases e
    subst hm
    go_enter Try.func35, Try.ntmps35
    go_wp2
    go_ret
    exact ⟨_, _, rfl, ⟨h.len, Nat.le_refl _, Nat.zero_le _, h.lim, fun h0 => absurd h0 (Nat.lt_irrefl _)⟩, fun h0 => absurd h0 (Nat.lt_irrefl _), Below.refl _ _⟩
  · have hown : Gb (w.alloc (Yb 5 [])) w.heap.size (some ⟨w.heap.size, 0, none⟩) 0 0 [] := ⟨rfl, World.ownsRow_made w _ 0 (Nat.le_refl _) (Nat.zero_le _) rfl⟩
    have hb1 : Below w.heap.size w (w.alloc (Yb 5 [])) := (Below.refl _ _).alloc (Nat.le_refl _) _
    go_enter Try.func35, Try.ntmps35
    go_wp2_with (change wpList _ _ _ _ _ (w.alloc (Yb 5 [])); refine wpList_app_row_b _ rfl (.tmp 5) (.tmp 6) rfl rfl hown rfl (h.below hb1) (by omega) hb1 (by simp) ?_; intro A3 c3 w3 hG3 hB3)
    go_ret
    rw [Nat.zero_add] at *
    rw [List.nil_append] at hG3
    exact ⟨_, _, rfl, hG3.nb h.lim, fun h0 => hG3.new h0, hB3⟩
/-- a value, as a call is handed it -/
structure Val where
  ts : Nat
  fs : Nat
  data : List Nat
  sig : List Nat
/-- the struct's four cells read as the value -/
structure Vb (w : World) (B : Nat) (v : Val) (A : Option Addr) (n c : Nat) (A2 : Option Addr) (n2 c2 : Nat) : Prop where
  d : Nb w B A n c v.data
  s : Nb w B A2 n2 c2 v.sig
theorem Vb.far {W w : World} {v : Val} {A A2 : Option Addr} {n c n2 c2 : Nat} (h : Vb W W.heap.size v A n c A2 n2 c2) (b : Below W.heap.size W w) : Vb w w.heap.size v A n c A2 n2 c2 := ⟨h.d.far b, h.s.far b⟩
/-- the box of a value -/
def BoxAt (w : World) (g : Nat) (t f : Int) (x y : Value) : Prop := w.heap[g]? = some (.cells #[.int .u32 t, .int .u32 f, x, y] 33 (0, 0))
theorem BoxAt.lt {w : World} {g : Nat} {t f : Int} {x y : Value} (h : BoxAt w g t f x y) : g < w.heap.size := (Array.getElem?_eq_some_iff.1 h).1
theorem BoxAt.cells {w : World} {g : Nat} {t f : Int} {x y : Value} (h : BoxAt w g t f x y) : w.cell? ⟨g, 0, none⟩ = some (.int .u32 t) ∧ w.cell? ⟨g, 1, none⟩ = some (.int .u32 f) ∧ w.cell? ⟨g, 2, none⟩ = some x ∧ w.cell? ⟨g, 3, none⟩ = some y := by
  have h' : w.heap[g]? = _ := h
  refine ⟨?_, ?_, ?_, ?_⟩ <;> simp [World.cell?, h']
theorem BoxAt.froz {w : World} {g : Nat} {t f : Int} {x y : Value} (h : BoxAt w g t f x y) (j : Nat) : w.frozen? ⟨g, j, none⟩ = false := by
  have h' : w.heap[g]? = _ := h
  simp [World.frozen?, h']
theorem BoxAt.new (w : World) (t f : Int) (x y : Value) : BoxAt (w.alloc (.cells #[.int .u32 t, .int .u32 f, x, y] 33)) w.heap.size t f x y := World.alloc_heap_new w _
theorem BoxAt.alloc {w : World} {g : Nat} {t f : Int} {x y : Value} (h : BoxAt w g t f x y) (o : Obj) : BoxAt (w.alloc o) g t f x y := (Below.heap_alloc _ _ _ h.lt).trans h
theorem BoxAt.below {w w' : World} {g : Nat} {t f : Int} {x y : Value} (h : BoxAt w g t f x y) (b : Below w.heap.size w w') : BoxAt w' g t f x y := (b.block g h.lt).trans h
theorem BoxAt.set2 {w : World} {g : Nat} {t f : Int} {x y : Value} (h : BoxAt w g t f x y) (z : Value) : BoxAt (w.setCell ⟨g, 2, none⟩ z) g t f z y := by
  obtain ⟨hlt, hk⟩ := Array.getElem?_eq_some_iff.1 h
  show (w.heap.modify g _)[g]? = _
  rw [Array.getElem?_eq_getElem (by rw [Array.size_modify]; exact hlt), Array.getElem_modify_self, hk]
  rfl
theorem BoxAt.set3 {w : World} {g : Nat} {t f : Int} {x y : Value} (h : BoxAt w g t f x y) (z : Value) : BoxAt (w.setCell ⟨g, 3, none⟩ z) g t f x z := by
  obtain ⟨hlt, hk⟩ := Array.getElem?_eq_some_iff.1 h
  show (w.heap.modify g _)[g]? = _
  rw [Array.getElem?_eq_getElem (by rw [Array.size_modify]; exact hlt), Array.getElem_modify_self, hk]
  rfl
end Go.Proofs.Ytonfpomgkgljiaa
