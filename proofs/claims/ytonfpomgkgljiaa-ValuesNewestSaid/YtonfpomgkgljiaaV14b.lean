/- Put on a shelf that has the sort: a newer value. -/
import Derived.Test.YtonfpomgkgljiaaV14
import Derived.Lib.SmallJoins
namespace Go.Proofs.Ytonfpomgkgljiaa
open Go.RowKit
set_option linter.unusedVariables false
set_option maxRecDepth 100000

set_option maxHeartbeats 4000000 in
theorem put_upd {w : World} {g m : Nat} {k : Int} {t0 f0 : Int} {A0 : Option Addr} {n0 c0' : Nat} {B0 : Option Addr} {m0 e0' : Nat} (h : Shelf1 w g m (One k t0 f0 A0 n0 c0' B0 m0 e0') 1) (hk : 0 ≤ k) {v : Val} {A A2 : Option Addr} {n c n2 c2 : Nat} (hv : Vb w w.heap.size v A n c A2 n2 c2) (hn : n ≤ 2048) (hn2 : n2 ≤ 128) (hnw : nw v.ts v.fs t0 f0 = true) :
    Calls Try.prog 12 #[.pointer (some ⟨g, 0, none⟩), .int .i64 k, .agg #[.int .u32 (v.ts : Int), .int .u32 (v.fs : Int), .slice A n c, .slice A2 n2 c2]] w fun e w' => e = .returned (.int .i64 0) ∧ (∃ A' c' A2' c2', Shelf1 w' g m (One k v.ts v.fs A' n c' A2' n2 c2') 1 ∧ Vb w' w'.heap.size v A' n c' A2' n2 c2') ∧ w.grownBy w' (some m) := by
  have c0 := h.c0
  have c1 := h.c1
  have c01 := fun X => cell_more c0 X
  have c11 := fun X => cell_more c1 X
  have c02 := fun X Y => cell_more (cell_more c0 X) Y
  have c12 := fun X Y => cell_more (cell_more c1 X) Y
  have hl := fun X Y => look_one (heap_two h.hm X Y) k
  simp only [if_true] at hl
  have N := fun W => newer_any v.ts v.fs t0 f0 A n c A2 n2 c2 A0 n0 c0' B0 m0 e0' W
  rw [hnw] at N
  have HN := Lib.hid N
  have hlm := (Array.getElem?_eq_some_iff.1 h.hm).1
  have P3 := Lib.hid (show ∀ (X Y : Obj) (w5 : World), Below (((w.alloc (.cells #[.int .u32 (v.ts : Int), .int .u32 (v.fs : Int), .slice A n c, .slice A2 n2 c2] 33)).alloc X).alloc Y).heap.size (((w.alloc (.cells #[.int .u32 (v.ts : Int), .int .u32 (v.fs : Int), .slice A n c, .slice A2 n2 c2] 33)).alloc X).alloc Y) w5 →
      Shelf1 w5 g m (One k t0 f0 A0 n0 c0' B0 m0 e0') 1 ∧ BoxAt w5 w.heap.size v.ts v.fs (.slice A n c) (.slice A2 n2 c2) ∧ Vb w5 w5.heap.size v A n c A2 n2 c2 ∧ w.grownBy w5 none from fun X Y w5 b5 => by
    obtain ⟨w3, hw3⟩ : ∃ w3, w3 = (((w.alloc (.cells #[.int .u32 (v.ts : Int), .int .u32 (v.fs : Int), .slice A n c, .slice A2 n2 c2] 33)).alloc X).alloc Y) := ⟨_, rfl⟩
    rw [← hw3] at b5
    have q3 : w.grownBy w3 none := by rw [hw3]; exact ⟨rfl, rfl, rfl, by simp; omega, fun k hk _ => ((Below.heap_alloc _ _ _ (by simp; omega)).trans (Below.heap_alloc _ _ _ (by simp; omega))).trans (Below.heap_alloc _ _ _ hk)⟩
    have bx : BoxAt w3 w.heap.size v.ts v.fs (.slice A n c) (.slice A2 n2 c2) := by rw [hw3]; exact ((BoxAt.new w _ _ _ _).alloc _).alloc _
    have q5 : w.grownBy w5 none := ⟨b5.os.trans q3.os, b5.tape.trans q3.tape, b5.output.trans q3.output, Nat.le_trans q3.size b5.size, fun k hk hn => (b5.block k (Nat.lt_of_lt_of_le hk q3.size)).trans (q3.block k hk hn)⟩
    exact ⟨h.grown q5, bx.below b5, hv.far (below_none q5), q5⟩)
  clear N hnw
  go_enter Try.func12, Try.ntmps12
  go_wp2_with (first
    | (go_at_call 24; refine (HN.out _).mono ?_; rintro e w5 ⟨rfl, b5⟩; obtain ⟨sh5, bx5, hv5, q5⟩ := P3.out _ _ w5 b5; clear b5 c01 c11 c02 c12 hl c0 c1; have c0 := sh5.c0; have c1 := sh5.c1)
    | go_in)
  clear HN P3
  go_quiet (fail)
  obtain ⟨w7, hw7⟩ : ∃ w7, w5.drewN nq = w7 := ⟨_, rfl⟩
  have sh7 : Shelf1 w7 g m (One k t0 f0 A0 n0 c0' B0 m0 e0') 1 := by rw [← hw7]; exact ⟨sh5.c0, sh5.c1, sh5.hm⟩
  have bx7 : BoxAt w7 w.heap.size v.ts v.fs (.slice A n c) (.slice A2 n2 c2) := by rw [← hw7]; exact bx5
  have hv7 : Vb w7 w7.heap.size v A n c A2 n2 c2 := by rw [← hw7]; exact hv5.far (Joins.below_draws _ _ _)
  have q7 : w.grownBy w7 none := by rw [← hw7]; exact ⟨q5.os, q5.tape, q5.output, q5.size, fun k hk hn => q5.block k hk hn⟩
  rw [hw7]
  clear sh5 bx5 hv5 q5 hw7 c0 c1
  have c0 := sh7.c0
  have c1 := sh7.c1
  go_wp2_with fail
  have hm5 := sh7.hm
  have hgm := not_map c0 hm5
  have hsm : w.heap.size ≠ m := by omega
  have f0' : w7.drew.cell? ⟨g, 0, none⟩ = some (.int .i64 1) := c0
  have f1 : w7.drew.cell? ⟨g, 1, none⟩ = some (.map (some m)) := c1
  have f2 : w7.drew.heap[m]? = some (.map (One k t0 f0 A0 n0 c0' B0 m0 e0') 1) := hm5
  have hgl2 : g < w7.drew.heap.size := World.block_lt_of_cell? w7 _ c0
  have hml2 : m < w7.drew.heap.size := (Array.getElem?_eq_some_iff.1 hm5).1
  have bd : BoxAt w7.drew w.heap.size v.ts v.fs (.slice A n c) (.slice A2 n2 c2) := bx7
  have hvd : Vb w7.drew w7.drew.heap.size v A n c A2 n2 c2 := hv7.far ((Below.refl _ _).drew)
  have qd : w.grownBy w7.drew none := ⟨q7.os, q7.tape, q7.output, q7.size, fun k hk hn => q7.block k hk hn⟩
  clear bx7 hv7 sh7 c0 c1 hm5 q7
  obtain ⟨p0, p1, p2, p3⟩ := bd.cells
  go_region_held (fun w' => w'.cell? ⟨g, 1, none⟩ = some (.map (some m)) ∧ w'.cell? ⟨w.heap.size, 0, none⟩ = some (.int .u32 (v.ts : Int)) ∧ w'.cell? ⟨w.heap.size, 1, none⟩ = some (.int .u32 (v.fs : Int)) ∧ w'.cell? ⟨w.heap.size, 2, none⟩ = some (.slice A n c) ∧ w'.cell? ⟨w.heap.size, 3, none⟩ = some (.slice A2 n2 c2))
    (first | exact ⟨x6, q0, q1, q2, q3⟩ | exact ⟨x5, o0, o1, o2, o3⟩ | exact ⟨f1, p0, p1, p2, p3⟩)
    ((first
    | (go_at_call 29; refine (copied_any hvd (by omega) (by omega)).mono ?_; rintro e w6 ⟨A', c', A2', c2', rfl, hv5, b5⟩
       have x5 := (b5.cell (p := ⟨g, 1, none⟩) hgl2).trans f1
       have y5 := (b5.cell (p := ⟨g, 0, none⟩) hgl2).trans f0'
       have h5 : w6.heap[m]? = some (.map (One k t0 f0 A0 n0 c0' B0 m0 e0') 1) := (b5.block m hml2).trans f2
       have bx5 := bd.below b5
       obtain ⟨o0, o1, o2, o3⟩ := bx5.cells
       have hu5 := put_one h5 (.agg #[.int .u32 (v.ts : Int), .int .u32 (v.fs : Int), .slice A' n c', .slice A2' n2 c2'])
       have x6 := cell_put (o := .map #[⟨.int .i64 k, .agg #[.int .u32 (v.ts : Int), .int .u32 (v.fs : Int), .slice A' n c', .slice A2' n2 c2'], 0⟩] 1) x5 hgm
       have bx6 := bx5.put (o := .map #[⟨.int .i64 k, .agg #[.int .u32 (v.ts : Int), .int .u32 (v.fs : Int), .slice A' n c', .slice A2' n2 c2'], 0⟩] 1) hsm
       obtain ⟨q0, q1, q2, q3⟩ := bx6.cells)))
  go_wp2
  go_ret
  have gq : w.grownBy w6 none := ⟨b5.os.trans qd.os, b5.tape.trans qd.tape, b5.output.trans qd.output, Nat.le_trans qd.size b5.size, fun k hk hn => (b5.block k (Nat.lt_of_lt_of_le hk qd.size)).trans (qd.block k hk hn)⟩
  have gp := grownBy_putObj' w6 m (.map #[⟨.int .i64 k, .agg #[.int .u32 (v.ts : Int), .int .u32 (v.fs : Int), .slice A' n c', .slice A2' n2 c2'], 0⟩] 1)
  have hm5 := (Array.getElem?_eq_some_iff.1 h5).1
  exact ⟨rfl, ⟨A', c', A2', c2', ⟨cell_put y5 hgm, x6, World.putObj_heap_same hm5⟩, ⟨nb_put hv5.d h5 _, nb_put hv5.s h5 _⟩⟩, ⟨gp.os.trans gq.os, gp.tape.trans gq.tape, gp.output.trans gq.output, Nat.le_trans gq.size gp.size, fun k hk hn => (gp.block k (Nat.lt_of_lt_of_le hk gq.size) hn).trans (gq.block k hk (by simp))⟩⟩
end Go.Proofs.Ytonfpomgkgljiaa
