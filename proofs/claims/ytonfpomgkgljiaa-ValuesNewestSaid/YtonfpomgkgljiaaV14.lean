/- Put on a shelf that has the sort: a newer value, and one that is not newer. -/
import Derived.Test.YtonfpomgkgljiaaV13
namespace Go.Proofs.Ytonfpomgkgljiaa
open Go.RowKit
set_option linter.unusedVariables false
set_option maxRecDepth 100000

/-- the map of one entry -/
def One (k : Int) (t f : Int) (A : Option Addr) (n c : Nat) (B : Option Addr) (m e : Nat) : Array MapEntry := #[⟨.int .i64 k, .agg #[.int .u32 t, .int .u32 f, .slice A n c, .slice B m e], 0⟩]
set_option maxHeartbeats 2000000 in
theorem put_old {w : World} {g m : Nat} {k : Int} {t0 f0 : Int} {A0 : Option Addr} {n0 c0' : Nat} {B0 : Option Addr} {m0 e0' : Nat} (h : Shelf1 w g m (One k t0 f0 A0 n0 c0' B0 m0 e0') 1) (hk : 0 ≤ k) (t f : Int) (A : Option Addr) (n c : Nat) (B : Option Addr) (m2 e : Nat) (hn : n ≤ 2048) (hn2 : m2 ≤ 128) (hnw : nw t f t0 f0 = false) :
    Calls Try.prog 12 #[.pointer (some ⟨g, 0, none⟩), .int .i64 k, .agg #[.int .u32 t, .int .u32 f, .slice A n c, .slice B m2 e]] w fun e w' => e = .returned (.int .i64 120) ∧ w.grownBy w' none := by
  have c0 := h.c0
  have c1 := h.c1
  have c01 := fun X => cell_more c0 X
  have c11 := fun X => cell_more c1 X
  have c02 := fun X Y => cell_more (cell_more c0 X) Y
  have c12 := fun X Y => cell_more (cell_more c1 X) Y
  have hl := fun X Y => look_one (heap_two h.hm X Y) k
  simp only [if_true] at hl
  have N := fun W => newer_any t f t0 f0 A n c B m2 e A0 n0 c0' B0 m0 e0' W
  rw [hnw] at N
  have HN := Lib.hid N
  clear N hnw
  go_enter Try.func12, Try.ntmps12
  go_wp2_with (first
    | (go_at_call 24; refine (HN.out _).mono ?_; rintro e w5 ⟨rfl, b5⟩)
    | go_in)
  go_ret
  refine ⟨rfl, ⟨b5.os, b5.tape, b5.output, ?_, fun k hk _ => ?_⟩⟩
  · have := b5.size; simp at this; omega
  · exact (b5.block k (by simp; omega)).trans (((Below.heap_alloc _ _ _ (by simp; omega)).trans (Below.heap_alloc _ _ _ (by simp; omega))).trans (Below.heap_alloc _ _ _ hk))
end Go.Proofs.Ytonfpomgkgljiaa
