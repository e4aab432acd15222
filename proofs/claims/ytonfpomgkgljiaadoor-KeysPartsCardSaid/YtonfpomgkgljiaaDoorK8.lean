/- Hops: the own side. -/
import Derived.Test.YtonfpomgkgljiaaDoorK7
namespace Go.Proofs.YtonfpomgkgljiaaDoor
open Go.RowKit Go.Shelf
set_option linter.unusedVariables false
set_option maxRecDepth 100000
attribute [local go_sem] Oper.semAt_some

theorem box_load {w : World} {g t : Nat} {v : Value} (h : Boxed w g t v) (ty : TypeId) (ha : (isAgg ty).run Tryd.prog w = .ok false w) : (loadVar ty ⟨g, 0, none⟩).run Tryd.prog w = .ok v w := by
  have hc := h.cell
  simp [loadVar, Sem.run_bind, ha, Result.andThen, hc]
theorem results_boxes {w : World} {fn : Func} {p q : Tmp} (h : fn.results = #[.cell p 3, .cell q 31]) (tmps : Array Value) {g g2 t t2 : Nat} {v v2 : Value} (hp : tmps.getD p undef = .pointer (some ⟨g, 0, none⟩)) (hq : tmps.getD q undef = .pointer (some ⟨g2, 0, none⟩)) (h1 : Boxed w g t v) (h2 : Boxed w g2 t2 v2) :
    (results fn tmps).run Tryd.prog w = .ok (.tuple #[v, v2]) w := by
  have e1 := box_load h1 3 (by kernel_rfl)
  have e2 := box_load h2 31 (by kernel_rfl)
  have hp' : tmps[p]?.getD undef = .pointer (some ⟨g, 0, none⟩) := by simpa using hp
  have hq' : tmps[q]?.getD undef = .pointer (some ⟨g2, 0, none⟩) := by simpa using hq
  simp [results, h, Sem.run_bind, Result.andThen, hp', hq', asAddr, e1, e2]
theorem two_set {W : World} {s : Nat} {v1 v2 : Value} (j1 : Boxed W (s + 1) 3 v1) (j2 : Boxed W (s + 2) 31 v2) (u1 u2 : Value) :
    Boxed ((W.setCell ⟨s + 1, 0, none⟩ u1).setCell ⟨s + 1 + 1, 0, none⟩ u2) (s + 1) 3 u1 ∧ Boxed ((W.setCell ⟨s + 1, 0, none⟩ u1).setCell ⟨s + 1 + 1, 0, none⟩ u2) (s + 2) 31 u2 ∧
    KeepsOthers W ((W.setCell ⟨s + 1, 0, none⟩ u1).setCell ⟨s + 1 + 1, 0, none⟩ u2) ∧ ((W.setCell ⟨s + 1, 0, none⟩ u1).setCell ⟨s + 1 + 1, 0, none⟩ u2).heap.size = W.heap.size ∧ Below s W ((W.setCell ⟨s + 1, 0, none⟩ u1).setCell ⟨s + 1 + 1, 0, none⟩ u2) := by
  have l1 := j1.lt
  have l2 := j2.lt
  have a1 := j1.set u1
  have a2 := j2.other (B' := s + 1) (by omega) u1
  refine ⟨a1.other (by omega) u2, a2.set u2, (KeepsOthers.setCell _ _ _).trans (KeepsOthers.setCell _ _ _), by simp [World.setCell], ?_⟩
  exact ((Below.refl s W).grown (grown_setCell W ⟨s + 1, 0, none⟩ u1) (by omega) (fun k e => by cases e; simp)).grown (grown_setCell _ ⟨s + 1 + 1, 0, none⟩ u2) (by simp [World.setCell]; omega) (fun k e => by cases e; simp; omega)
theorem outs_ret (w : World) (l : Nat) (a : Act) (h0 : a.defers = []) (hp : a.tmps.getD 12 undef = .pointer (some ⟨w.heap.size + 1, 0, none⟩)) (hq : a.tmps.getD 13 undef = .pointer (some ⟨w.heap.size + 1 + 1, 0, none⟩)) :
    bodyPost Tryd.prog Tryd.f20 (fun e w' => e = .returned (.tuple #[.int .i64 0, .int .i64 1]) ∧ Below w.heap.size w w') .ret a (((w.alloc (.cells #[.int .u32 (l : Int)] 22)).alloc (.cells #[.int .i64 0] 3)).alloc (.cells #[.int .i64 1] 31)) := by
  have x1 : Boxed (((w.alloc (.cells #[.int .u32 (l : Int)] 22)).alloc (.cells #[.int .i64 0] 3)).alloc (.cells #[.int .i64 1] 31)) (w.heap.size + 1) 3 (.int .i64 0) := by
    have := Boxed.new (w.alloc (.cells #[.int .u32 (l : Int)] 22)) 3 (.int .i64 0)
    rw [World.size_alloc] at this
    exact this.alloc _
  have x2 : Boxed (((w.alloc (.cells #[.int .u32 (l : Int)] 22)).alloc (.cells #[.int .i64 0] 3)).alloc (.cells #[.int .i64 1] 31)) (w.heap.size + 1 + 1) 31 (.int .i64 1) := by
    have := Boxed.new ((w.alloc (.cells #[.int .u32 (l : Int)] 22)).alloc (.cells #[.int .i64 0] 3)) 31 (.int .i64 1)
    rwa [World.size_alloc, World.size_alloc] at this
  exact bodyPost_ret (results_boxes rfl _ hp hq x1 x2) h0 ⟨rfl, (((Below.refl _ _).alloc (Nat.le_refl _) _).alloc (by simp) _).alloc (by simp; omega) _⟩
theorem hops_out (a b c d l : Nat) (n : Int) (h : n < 0 ∨ 256 < n) (w : World) : Calls Tryd.prog 20 #[.int .u32 (a : Int), .int .u32 (b : Int), .int .u32 (c : Int), .int .u32 (d : Int), .int .u32 (l : Int), .int .i64 n] w fun e w' => e = .returned (.tuple #[.int .i64 0, .int .i64 1]) ∧ Below w.heap.size w w' := by
  by_cases h1 : n < 0
  · go_enter Tryd.func20, Tryd.ntmps20
    go_wp2
    exact outs_ret w _ _ rfl rfl rfl
  · have h2 : 256 < n := by omega
    go_enter Tryd.func20, Tryd.ntmps20
    go_wp2
    exact outs_ret w _ _ rfl rfl rfl
set_option maxHeartbeats 2000000 in
theorem hops_any {w : World} (hk : Ks w) (a b c d l m : Nat) (ha : a < 4294967296) (hb : b < 4294967296) (hc : c < 4294967296) (hd : d < 4294967296) (h2 : m ≤ 256) :
    Calls Tryd.prog 20 #[.int .u32 (a : Int), .int .u32 (b : Int), .int .u32 (c : Int), .int .u32 (d : Int), .int .u32 (l : Int), .int .i64 (m : Int)] w fun e w' => HopIs a b d c l m e ∧ Below w.heap.size w w' := by
  have hsz := hk.size
  obtain ⟨w2, hw2⟩ : ∃ w2, w2 = ((w.alloc (.cells #[.int .u32 (l : Int)] 22)).alloc (.cells #[.int .i64 0] 3)).alloc (.cells #[.int .i64 0] 31) := ⟨_, rfl⟩
  have z2 : w2.heap.size = w.heap.size + 3 := by rw [hw2]; simp
  have b2 : Below w.heap.size w w2 := by rw [hw2]; exact (((Below.refl _ _).alloc (Nat.le_refl _) _).alloc (by simp) _).alloc (by simp; omega) _
  have x0 : Boxed w2 w.heap.size 22 (.int .u32 (l : Int)) := by rw [hw2]; exact ((Boxed.new _ _ _).alloc _).alloc _
  have x1 : Boxed w2 (w.heap.size + 1) 3 (.int .i64 0) := by
    rw [hw2]
    have := Boxed.new (w.alloc (.cells #[.int .u32 (l : Int)] 22)) 3 (.int .i64 0)
    rw [World.size_alloc] at this
    exact this.alloc _
  have x2 : Boxed w2 (w.heap.size + 2) 31 (.int .i64 0) := by
    rw [hw2]
    have := Boxed.new ((w.alloc (.cells #[.int .u32 (l : Int)] 22)).alloc (.cells #[.int .i64 0] 3)) 31 (.int .i64 0)
    rw [World.size_alloc, World.size_alloc] at this
    exact this
  have HW2 := Lib.hid hw2
  clear hw2
  refine (callsIn_wide (n := 9)).1 ?_
  refine callsIn_of_wp_marks Tryd.func20 rfl trivial ?_ rfl
  simp only [Tryd.ntmps20, List.size_toArray, List.length_cons, List.length_nil, Nat.reduceAdd, Nat.reduceSub, Array.replicate_succ, Array.replicate_zero, List.push_toArray, List.append_toArray, List.nil_append, List.cons_append]
  gi_wp2_with fail
  refine ⟨trivial, ?_⟩
  change CallsIn _ _ _ _ _ (((w.alloc (.cells #[.int .u32 (l : Int)] 22)).alloc (.cells #[.int .i64 0] 3)).alloc (.cells #[.int .i64 0] 31)) _
  rw [← HW2.out, show ((m : Int) + 1) = ((m + 1 : Nat) : Int) by omega]
  refine (callsIn_wide.2 (numbers_any a b c d (m + 1) w2)).mono ?_
  rintro e w3 ⟨rfl, b3, z3, x3⟩
  rw [z2] at z3 x3 b3
  have y0 : Boxed w3 w.heap.size 22 (.int .u32 (l : Int)) := (b3.block _ (by omega)).trans x0
  have y1 : Boxed w3 (w.heap.size + 1) 3 (.int .i64 0) := (b3.block _ (by omega)).trans x1
  have y2 : Boxed w3 (w.heap.size + 2) 31 (.int .i64 0) := (b3.block _ (by omega)).trans x2
  have B3 := b2.trans (b3.mono (by omega))
  have Hst := Lib.hid (numbers_stops (hk.below B3 hsz) w.heap.size (w.heap.size + 3) a b c d (m + 1) ha hb hc hd hsz B3.size (by omega) x3 (by omega))
  clear x0 x1 x2 b2 b3 x3 ha hb hc hd HW2
  rw [z2] at *
  clear z2
  gi_wp2_with fail
  refine wpIn_rangeFunc_ownF (gf := 53) (lb := #[.pointer (some ⟨w.heap.size + 3 + 2, 0, none⟩), .pointer (some ⟨w.heap.size + 3 + 4, 0, none⟩), .pointer (some ⟨w.heap.size + 3, 0, none⟩), .pointer (some ⟨w.heap.size + 3 + 1, 0, none⟩), .pointer (some ⟨w.heap.size + 3 + 3, 0, none⟩)]) rfl (by omega) rfl trivial (enters_of Tryd.func53 (by kernel_rfl) rfl) Hst.out
    (fun h k => h.trans k) (fun W l o o' hl h _ _ => ⟨(Below.refl _ W).grown (grownBy_putObj' W l o') (by have := (Array.getElem?_eq_some_iff.1 h).1; omega) (fun k e => by cases e; omega), fun i _ _ => World.putObj_heap_other (by omega)⟩) (Below.refl _ _) (fun x => rfl)
    (fun pre W => (Boxed W w.heap.size 22 (.int .u32 (l : Int)) ∧ Boxed W (w.heap.size + 1) 3 (.int .i64 0) ∧ Boxed W (w.heap.size + 2) 31 (.int .i64 0)) ∧ (∀ y ∈ pre, y.2 ≠ l) ∧ Below w.heap.size w W ∧ w3.heap.size ≤ W.heap.size)
    (fun cc pre W => cc = .ret ∧ (∃ p x, pre = p ++ [x] ∧ x.2 = l ∧ (∀ y ∈ p, y.2 ≠ l) ∧ Boxed W (w.heap.size + 1) 3 (.int .i64 (x.1 : Int)) ∧ Boxed W (w.heap.size + 2) 31 (.int .i64 0)) ∧ Below w.heap.size w W ∧ w3.heap.size ≤ W.heap.size) ?hI ?hIx ⟨⟨y0, y1, y2⟩, (fun y hy => by cases hy), B3, Nat.le_refl _⟩
    (fun x => { tmps := #[.int .u32 (a : Int), .int .u32 (b : Int), .int .u32 (c : Int), .int .u32 (d : Int), .int .u32 (l : Int), .int .i64 (m : Int), undef, undef, undef, undef, .pointer (some ⟨w.heap.size, 0, none⟩), undef, .pointer (some ⟨w.heap.size + 1, 0, none⟩), .pointer (some ⟨w.heap.size + 1 + 1, 0, none⟩), .int .i64 (x.1 : Int), .int .u32 (x.2 : Int), .int .i64 (m : Int), .bool (decide ((m : Int) < 0)), .bool (decide ((m : Int) < 0)), .int .i64 (m : Int), .bool (decide (256 < (m : Int))), .bool (decide ((m : Int) < 0) || decide (256 < (m : Int))), .int .u32 (a : Int), .int .u32 (b : Int), .int .u32 (c : Int), .int .u32 (d : Int), .int .i64 (m : Int), .int .i64 ((m : Int) + 1), .func (.func 53) #[] #[.pointer (some ⟨w.heap.size + 3 + 2, 0, none⟩), .pointer (some ⟨w.heap.size + 3 + 4, 0, none⟩), .pointer (some ⟨w.heap.size + 3, 0, none⟩), .pointer (some ⟨w.heap.size + 3 + 1, 0, none⟩), .pointer (some ⟨w.heap.size + 3 + 3, 0, none⟩)], .int .i64 (x.1 : Int), .int .u32 (x.2 : Int), undef, undef, undef, undef], defers := [] }) ?assign ?body ?done ?stop
  case hI =>
    rintro pre W W' row ⟨⟨j0, j1, j2⟩, jn, j3, j4⟩ hg hr
    have hne : ∀ i, i < w3.heap.size → some i ≠ row := by
      intro i hi e
      have := (hr i e.symm).1
      omega
    have hB3 := B3.size
    exact ⟨⟨j0.kept hg (hne _ (by omega)), j1.kept hg (hne _ (by omega)), j2.kept hg (hne _ (by omega))⟩, jn, j3.grown hg (by omega) (fun k e => by have := (hr k e).1; omega), Nat.le_trans j4 hg.size⟩
  case hIx =>
    rintro cc pre W W' row ⟨jc, ⟨p, x, q1, q2, q3, j1, j2⟩, j3, j4⟩ hg hr
    have hne : ∀ i, i < w3.heap.size → some i ≠ row := by
      intro i hi e
      have := (hr i e.symm).1
      omega
    have hB3 := B3.size
    exact ⟨jc, ⟨p, x, q1, q2, q3, j1.kept hg (hne _ (by omega)), j2.kept hg (hne _ (by omega))⟩, j3.grown hg (by omega) (fun k e => by have := (hr k e).1; omega), Nat.le_trans j4 hg.size⟩
  case assign =>
    intro l v W K hK
    simp only [enc2]
    gi_wp2
    exact hK
  case body =>
    rintro lp pre x W ⟨⟨j0, j1, j2⟩, jn, j3, j4⟩ hlen
    have hB3 := B3.size
    have h0c := j0.cell
    have h1c := j1.cell
    have h1f := j1.frozen
    have h2c := j2.cell
    have h2f := j2.frozen
    by_cases he : x.2 = l
    · have hlit : (decide ((x.2 : Int) = (l : Int))) = true := by simp [he]
      clear hlen
      rw [he]
      gi_wp2_with fail
      obtain ⟨t1, t2, t3, t4, t5⟩ := two_set j1 j2 (.int .i64 (x.1 : Int)) (.int .i64 0)
      exact ⟨t3, rfl, ⟨pre, x, rfl, he, jn, t1, t2⟩, j3.trans t5, by rw [t4]; exact j4⟩
    · have he' : ¬ ((x.2 : Int) = (l : Int)) := by omega
      gi_wp2_with fail
      refine ⟨KeepsOthers.refl W, Kp.refl _ _ _, ⟨j0, j1, j2⟩, fun y hy => ?_, j3, j4⟩
      rcases List.mem_append.1 hy with h | h
      · exact jn y h
      · rw [List.mem_singleton.1 h]; exact he
  case done =>
    rintro D xs W hD rfl ⟨⟨j0, j1, j2⟩, jn, j3, j4⟩ hK
    have h1c := j1.cell
    have h1f := j1.frozen
    have h2c := j2.cell
    have h2f := j2.frozen
    gi_wp2_with fail
    obtain ⟨t1, t2, t3, t4, t5⟩ := two_set j1 j2 (.int .i64 0) (.int .i64 110)
    have hB3 := B3.size
    have hK' := t3.same _ _ hK rfl
    have hDl := (Array.getElem?_eq_some_iff.1 hK').1
    refine ⟨by simp, .inl ⟨_, _, rfl, run_takeDeferred hK', ?_⟩⟩
    exact ⟨_, results_boxes rfl _ rfl rfl (t1.kept (grownBy_putObj' _ D (.deferred none)) (by simp; omega)) (t2.kept (grownBy_putObj' _ D (.deferred none)) (by simp; omega)), Or.inr ⟨fun j hj => jn (j, hop a b d c j) (List.mem_map.2 ⟨j, List.mem_range.2 (by omega), rfl⟩), rfl⟩, (j3.trans t5).grown (grownBy_putObj' _ D _) (by omega) (fun k e => by cases e; omega)⟩
  case stop =>
    rintro D cc pre W hD ⟨k, hk, rfl⟩ ⟨rfl, ⟨p, x, q1, q2, q3, j1, j2⟩, j3, j4⟩ hK
    gi_wp2_with fail
    have hB3 := B3.size
    have hDl := (Array.getElem?_eq_some_iff.1 hK).1
    rw [steps_succ] at q1
    obtain ⟨rfl, h⟩ := List.append_inj' q1 rfl
    cases h
    refine ⟨by simp, .inl ⟨_, _, rfl, run_takeDeferred hK, ?_⟩⟩
    exact ⟨_, results_boxes rfl _ rfl rfl (j1.kept (grownBy_putObj' _ D (.deferred none)) (by simp; omega)) (j2.kept (grownBy_putObj' _ D (.deferred none)) (by simp; omega)), Or.inl ⟨k, by omega, fun j hj => q3 (j, hop a b d c j) (List.mem_map.2 ⟨j, List.mem_range.2 (by omega), rfl⟩), q2, rfl⟩, j3.grown (grownBy_putObj' _ D _) (by omega) (fun k e => by cases e; omega)⟩
end Go.Proofs.YtonfpomgkgljiaaDoor
