/- Put at any value, on a shelf with room for one sort. -/
import Derived.Test.YtonfpomgkgljiaaV11
namespace Go.Proofs.Ytonfpomgkgljiaa
open Go.RowKit
set_option linter.unusedVariables false
set_option maxRecDepth 100000

theorem below_none {w w' : World} (q : w.grownBy w' none) : Below w.heap.size w w' := ⟨q.os, q.tape, q.output, q.size, fun i hi => q.block i hi (by simp)⟩
theorem nb_put {w : World} {m n c k : Nat} {A : Option Addr} {xs : List Nat} {es : Array MapEntry} (h : Nb w w.heap.size A n c xs) (hm : w.heap[m]? = some (.map es k)) (o : Obj) : Nb (w.putObj m o) (w.putObj m o).heap.size A n c xs :=
  ⟨h.len, h.cap, h.room, h.lim, fun h0 => by
    obtain ⟨b, off, e, hb, hc⟩ := h.cell h0
    have hne : b ≠ m := fun e => by
      subst e
      have hl : 0 < xs.length := by rw [h.len]; exact h0
      have := hc 0 xs[0] (List.getElem?_eq_getElem hl)
      simp [World.cell?, hm] at this
    exact ⟨b, off, e, by simpa [World.putObj] using hb, fun j x hx => cell_put (hc j x hx) hne⟩⟩
theorem BoxAt.put {w : World} {m g : Nat} {t f : Int} {x y : Value} {o : Obj} (h : BoxAt w g t f x y) (hne : g ≠ m) : BoxAt (w.putObj m o) g t f x y := (World.putObj_heap_other hne).trans h
set_option maxHeartbeats 4000000 in
theorem put_new {w : World} {g m : Nat} (h : Shelf1 w g m #[] 0) (k : Nat) (hk : k ≤ 9223372036854775807) {v : Val} {A A2 : Option Addr} {n c n2 c2 : Nat} (hv : Vb w w.heap.size v A n c A2 n2 c2) (hn : n ≤ 2048) (hn2 : n2 ≤ 128) :
    Calls Try.prog 12 #[.pointer (some ⟨g, 0, none⟩), .int .i64 (k : Int), .agg #[.int .u32 (v.ts : Int), .int .u32 (v.fs : Int), .slice A n c, .slice A2 n2 c2]] w fun e w' => e = .returned (.int .i64 0) ∧ (∃ A' c' A2' c2', Shelf1 w' g m #[⟨.int .i64 (k : Int), .agg #[.int .u32 (v.ts : Int), .int .u32 (v.fs : Int), .slice A' n c', .slice A2' n2 c2'], 0⟩] 1 ∧ Vb w' w'.heap.size v A' n c' A2' n2 c2') ∧ w.grownBy w' (some m) := by
  have c0 := h.c0
  have c1 := h.c1
  have c01 := fun X => cell_more c0 X
  have c11 := fun X => cell_more c1 X
  have c02 := fun X Y => cell_more (cell_more c0 X) Y
  have c12 := fun X Y => cell_more (cell_more c1 X) Y
  have c03 := fun X Y Z => cell_more (cell_more (cell_more c0 X) Y) Z
  have c13 := fun X Y Z => cell_more (cell_more (cell_more c1 X) Y) Z
  have hl := fun X Y => look_empty (heap_two h.hm X Y) (k : Int)
  unfold zeroV at hl
  go_enter Try.func12, Try.ntmps12
  go_wp2
  obtain ⟨w3, hw3⟩ : ∃ w3, w3 = ((w.alloc (.cells #[.int .u32 (v.ts : Int), .int .u32 (v.fs : Int), .slice A n c, .slice A2 n2 c2] 33)).alloc (.cells #[.int .u32 (v.ts : Int), .int .u32 (v.fs : Int), .slice A n c, .slice A2 n2 c2] 33)).alloc (.cells #[.int .u32 0, .int .u32 0, .slice none 0 0, .slice none 0 0] 33) := ⟨_, rfl⟩
  have d0 : w3.cell? ⟨g, 0, none⟩ = some (.int .i64 1) := by rw [hw3]; exact c03 _ _ _
  have d1 : w3.cell? ⟨g, 1, none⟩ = some (.map (some m)) := by rw [hw3]; exact c13 _ _ _
  have d2 : w3.heap[m]? = some (.map #[] 0) := by
    have hlm := (Array.getElem?_eq_some_iff.1 h.hm).1
    rw [hw3]; exact (Below.heap_alloc _ _ _ (by simp; omega)).trans (heap_two h.hm _ _)
  have s3 : w3.heap.size = w.heap.size + 3 := by rw [hw3]; simp
  have q3 : w.grownBy w3 none := by rw [hw3]; exact ⟨rfl, rfl, rfl, by simp; omega, fun k hk _ => ((Below.heap_alloc _ _ _ (by simp; omega)).trans (Below.heap_alloc _ _ _ (by simp; omega))).trans (Below.heap_alloc _ _ _ hk)⟩
  have bx : BoxAt w3 w.heap.size v.ts v.fs (.slice A n c) (.slice A2 n2 c2) := by rw [hw3]; exact ((BoxAt.new w _ _ _ _).alloc _).alloc _
  rw [← hw3]
  clear c01 c11 c02 c12 c03 c13 hl hw3 c0 c1
  have e0 : w3.drew.cell? ⟨g, 0, none⟩ = some (.int .i64 1) := d0
  have e1 : w3.drew.cell? ⟨g, 1, none⟩ = some (.map (some m)) := d1
  have e2 : (Builtin.len_ #[49] 3 #[.map (some m)]).run Try.prog w3.drew = .ok (.int .i64 0) w3.drew := len_map (w := w3.drew) d2 3
  go_region_held (fun w' => w'.cell? ⟨g, 0, none⟩ = some (.int .i64 1) ∧ w'.cell? ⟨g, 1, none⟩ = some (.map (some m)) ∧ (Builtin.len_ #[49] 3 #[.map (some m)]).run Try.prog w' = .ok (.int .i64 0) w')
    (exact ⟨e0, e1, e2⟩) (fail)
  clear e2
  have hgm := not_map d0 d2
  have hsm : w.heap.size ≠ m := by have := (Array.getElem?_eq_some_iff.1 h.hm).1; omega
  have hml := (Array.getElem?_eq_some_iff.1 d2).1
  have hgl : g < w3.drew.heap.size := World.block_lt_of_cell? w3 _ d0
  have d2' : w3.drew.heap[m]? = some (.map #[] 0) := d2
  have q3' : w.grownBy w3.drew none := ⟨q3.os, q3.tape, q3.output, q3.size, fun k hk hn => q3.block k hk hn⟩
  have bx' : BoxAt w3.drew w.heap.size v.ts v.fs (.slice A n c) (.slice A2 n2 c2) := bx
  have hml' : m < w3.drew.heap.size := hml
  have t0 := fun X => cell_more e0 X
  have t1 := fun X => cell_more e1 X
  go_wp2
  clear t0 t1 d0 d1 d2 q3 bx hml s3
  generalize w3.drew = w4 at *
  have f0 : w4.drew.cell? ⟨g, 0, none⟩ = some (.int .i64 1) := e0
  have f1 : w4.drew.cell? ⟨g, 1, none⟩ = some (.map (some m)) := e1
  have f2 : w4.drew.heap[m]? = some (.map #[] 0) := d2'
  have hgl2 : g < w4.drew.heap.size := hgl
  have hml2 : m < w4.drew.heap.size := hml'
  have bd : BoxAt w4.drew w.heap.size v.ts v.fs (.slice A n c) (.slice A2 n2 c2) := bx'
  obtain ⟨p0, p1, p2, p3⟩ := bd.cells
  go_region_held (fun w' => w'.cell? ⟨g, 1, none⟩ = some (.map (some m)) ∧ w'.cell? ⟨w.heap.size, 0, none⟩ = some (.int .u32 (v.ts : Int)) ∧ w'.cell? ⟨w.heap.size, 1, none⟩ = some (.int .u32 (v.fs : Int)) ∧ w'.cell? ⟨w.heap.size, 2, none⟩ = some (.slice A n c) ∧ w'.cell? ⟨w.heap.size, 3, none⟩ = some (.slice A2 n2 c2))
    (first | exact ⟨x6, q0, q1, q2, q3⟩ | exact ⟨x5, o0, o1, o2, o3⟩ | exact ⟨f1, p0, p1, p2, p3⟩)
    ((first
    | (go_at_call 29; refine (copied_any (hv.far (far_ (below_none q3') (Below.refl _ _).drew)) (by omega) (by omega)).mono ?_; rintro e w5 ⟨A', c', A2', c2', rfl, hv5, b5⟩
       have x5 := (b5.cell (p := ⟨g, 1, none⟩) hgl2).trans f1
       have y5 := (b5.cell (p := ⟨g, 0, none⟩) hgl2).trans f0
       have h5 : w5.heap[m]? = some (.map #[] 0) := (b5.block m hml2).trans f2
       have bx5 := bd.below b5
       obtain ⟨o0, o1, o2, o3⟩ := bx5.cells
       have hu5 := put_empty h5 (k : Int) (.agg #[.int .u32 (v.ts : Int), .int .u32 (v.fs : Int), .slice A' n c', .slice A2' n2 c2'])
       have x6 := cell_put (o := .map #[⟨.int .i64 (k : Int), .agg #[.int .u32 (v.ts : Int), .int .u32 (v.fs : Int), .slice A' n c', .slice A2' n2 c2'], 0⟩] (0 + 1)) x5 hgm
       have bx6 := bx5.put (o := .map #[⟨.int .i64 (k : Int), .agg #[.int .u32 (v.ts : Int), .int .u32 (v.fs : Int), .slice A' n c', .slice A2' n2 c2'], 0⟩] (0 + 1)) hsm
       obtain ⟨q0, q1, q2, q3⟩ := bx6.cells)))
  go_wp2
  go_ret
  have gq : w.grownBy w5 none := ⟨b5.os.trans q3'.os, b5.tape.trans q3'.tape, b5.output.trans q3'.output, Nat.le_trans q3'.size b5.size, fun k hk hn => (b5.block k (Nat.lt_of_lt_of_le hk q3'.size)).trans (q3'.block k hk hn)⟩
  have gp := grownBy_putObj' w5 m (.map #[⟨.int .i64 (k : Int), .agg #[.int .u32 (v.ts : Int), .int .u32 (v.fs : Int), .slice A' n c', .slice A2' n2 c2'], 0⟩] (0 + 1))
  have hm5 := (Array.getElem?_eq_some_iff.1 h5).1
  exact ⟨rfl, ⟨A', c', A2', c2', ⟨cell_put y5 hgm, x6, World.putObj_heap_same hm5⟩, ⟨nb_put hv5.d h5 _, nb_put hv5.s h5 _⟩⟩, ⟨gp.os.trans gq.os, gp.tape.trans gq.tape, gp.output.trans gq.output, Nat.le_trans gq.size gp.size, fun k hk hn => (gp.block k (Nat.lt_of_lt_of_le hk gq.size) hn).trans (gq.block k hk (by simp))⟩⟩
end Go.Proofs.Ytonfpomgkgljiaa
