/- disc: an offset that is taken in. -/
import Derived.Test.YtbkcoijcoacbaaaDiD3
namespace Go.Proofs.Ytbkcoijcoacbaaa.Di
open Go.RowKit
set_option linter.unusedVariables false
set_option linter.unusedSimpArgs false
set_option maxRecDepth 100000
def Tb (w : World) (g : Nat) (x y : Int) : Prop := w.heap[g]? = some (.cells #[.int .i64 x, .int .i64 y] 47 (0, 0))
theorem Tb.cells {w : World} {g : Nat} {x y : Int} (h : Tb w g x y) : w.cell? ⟨g, 0, none⟩ = some (.int .i64 x) ∧ w.cell? ⟨g, 1, none⟩ = some (.int .i64 y) := by
  have h' : w.heap[g]? = _ := h
  refine ⟨?_, ?_⟩ <;> simp [World.cell?, h']
theorem Tb.fr {w : World} {g : Nat} {x y : Int} (h : Tb w g x y) (i : Nat) : w.frozen? ⟨g, i, none⟩ = false := by
  have h' : w.heap[g]? = _ := h
  simp [World.frozen?, h']
theorem Tb.below {w w' : World} {g B : Nat} {x y : Int} (h : Tb w g x y) (b : Below B w w') (hg : g < B) : Tb w' g x y := (b.block g hg).trans h
theorem Tb.lt {w : World} {g : Nat} {x y : Int} (h : Tb w g x y) : g < w.heap.size := (Array.getElem?_eq_some_iff.1 h).1
theorem Tb.setO {w : World} {g k : Nat} {x y : Int} (h : Tb w g x y) (hk : g ≠ k) (i : Nat) (v : Value) : Tb (w.setCell ⟨k, i, none⟩ v) g x y := (set_far w k i v hk).trans h
def put2 (w : World) (g : Nat) (x y : Int) : World := (w.setCell ⟨g, 0, none⟩ (.int .i64 x)).setCell ⟨g, 1, none⟩ (.int .i64 y)
theorem Tb.put {w : World} {g : Nat} {x0 y0 : Int} (h : Tb w g x0 y0) (x y : Int) : Tb (put2 w g x y) g x y := set_cell (set_cell h 0 (.int .i64 x)) 1 (.int .i64 y)
theorem Tb.put5 {w : World} {g k : Nat} {x y : Int} (h : Tb w g x y) (hk : g ≠ k) (c : Ck) : Tb (put5 w k c) g x y :=
  ((((h.setO hk _ _).setO hk _ _).setO hk _ _).setO hk _ _).setO hk _ _
theorem Box.put2 {w : World} {g k : Nat} {c : Ck} (h : Box w g c) (hk : g ≠ k) (x y : Int) : Box (put2 w k x y) g c := (h.setO hk _ _).setO hk _ _
theorem below_put2 {w0 w : World} {B g : Nat} (h : RowKit.Below B w0 w) (hg : B ≤ g) (x y : Int) : RowKit.Below B w0 (put2 w g x y) := below_set (below_set h hg _ _) hg _ _
theorem results_cct {fn : Func} {p q v : Tmp} {ty tz : TypeId} (h : fn.results = #[.cell p ty, .cell q tz, .tmp v]) (tmps : Array Value) (P : Program) (w : World) :
    (results fn tmps).run P w =
      ((asAddr (tmps.getD p undef)).run P w).andThen fun a w₁ => ((loadVar ty a).run P w₁).andThen fun x w₂ => ((asAddr (tmps.getD q undef)).run P w₂).andThen fun b w₃ => ((loadVar tz b).run P w₃).andThen fun y w₄ => .ok (.tuple #[x, y, tmps.getD v undef]) w₄ := by
  simp only [results, h]
  simp [Sem.run_bind, Result.andThen]
theorem told_new {w2 w4 : World} {g k x0 : Nat} {c d : Ck} {x y : Int} (e : w4 = w2.alloc (.cells #[.int .i64 x, .int .i64 y] 47)) (hx : Box w2 g c) (hy : Box w2 k d) (ht : Tb w2 x0 0 0) {B : Nat} {w : World} (h : RowKit.Below B w w2) (hB : B ≤ w2.heap.size) : Box w4 g c ∧ Box w4 k d ∧ Tb w4 x0 0 0 ∧ Tb w4 w2.heap.size x y ∧ w4.heap.size = w2.heap.size + 1 ∧ RowKit.Below B w w4 := by
  subst e
  have b : Below w2.heap.size w2 (w2.alloc (.cells #[.int .i64 x, .int .i64 y] 47)) := (Below.refl _ _).alloc (Nat.le_refl _) _
  refine ⟨hx.below b hx.lt, hy.below b hy.lt, ht.below b ht.lt, World.alloc_heap_new w2 _, World.size_alloc .., h.alloc hB _⟩
theorem ret_two {w : World} {g k : Nat} {c : Ck} {x y : Int} (h : Box w g c) (ht : Tb w k x y) {fn : Func} (hf : fn.results = #[.cell 6 45, .cell 7 47, .tmp 8]) (E : Int) (tmps : Array Value) (hp : tmps.getD 6 undef = .pointer (some ⟨g, 0, none⟩)) (hn : tmps.getD 7 undef = .pointer (some ⟨k, 0, none⟩)) (hq : tmps.getD 8 undef = .int .i64 E) :
    (results fn tmps).run Try.prog w = .ok (.tuple #[c.val, .agg #[.int .i64 x, .int .i64 y], .int .i64 E]) w := by
  rw [results_cct hf]
  have hl := run_loadVar_row (P := Try.prog) w g 45 45 #[.int .i64 c.f, .int .i64 c.l, .int .i64 c.a, .int .i64 c.p, .bool c.s] (0, 0) _ h Try.underlying45 rfl (by kernel_rfl)
  have hk := run_loadVar_row (P := Try.prog) w k 47 47 #[.int .i64 x, .int .i64 y] (0, 0) _ ht Try.underlying47 rfl (by kernel_rfl)
  rw [hp, hq, hn]
  simp [asAddr, Result.andThen, hl, hk, Ck.val]
theorem three_new {w w1 : World} {c : Ck} (hw1 : w1 = ((w.alloc (.cells #[.int .i64 c.f, .int .i64 c.l, .int .i64 c.a, .int .i64 c.p, .bool c.s] 45)).alloc (.cells #[.int .i64 0, .int .i64 0, .int .i64 0, .int .i64 0, .bool false] 45)).alloc (.cells #[.int .i64 0, .int .i64 0] 47)) :
    RowKit.Below w.heap.size w w1 ∧ Box w1 w.heap.size c ∧ Box w1 (w.heap.size + 1) Ck.zero ∧ Tb w1 (w.heap.size + 2) 0 0 ∧ w1.heap.size = w.heap.size + 3 := by
  obtain ⟨w2, hw2⟩ : ∃ w2, w2 = (w.alloc (.cells #[.int .i64 c.f, .int .i64 c.l, .int .i64 c.a, .int .i64 c.p, .bool c.s] 45)).alloc (.cells #[.int .i64 0, .int .i64 0, .int .i64 0, .int .i64 0, .bool false] 45) := ⟨_, rfl⟩
  rw [← hw2] at hw1
  obtain ⟨b, x, y, s⟩ := two_new hw2
  subst hw1
  have b2 : Below (w.heap.size + 2) w2 (w2.alloc (.cells #[.int .i64 0, .int .i64 0] 47)) := (Below.refl _ _).alloc (by omega) _
  have t := World.alloc_heap_new w2 (.cells #[.int .i64 0, .int .i64 0] 47)
  rw [s] at t
  exact ⟨b.trans (b2.mono (by omega)), x.below b2 (by omega), y.below b2 (by omega), t, by rw [World.size_alloc, s]⟩
theorem Box.drew {w : World} {g : Nat} {c : Ck} (h : Box w g c) : Box w.drew g c := h
theorem Tb.drew {w : World} {g : Nat} {x y : Int} (h : Tb w g x y) : Tb w.drew g x y := h
theorem below_drew {w0 w : World} {B : Nat} (h : RowKit.Below B w0 w) : RowKit.Below B w0 w.drew := ⟨h.os, h.tape, h.output, h.size, h.block⟩
/-- what Update tells -/
def Ck.upd (c : Ck) (o t : Int) : Ck × Int × Int × Int :=
  if ¬ (c.may ∧ inB 1152921504606846976 o ∧ inB 1152921504606846976 t) then (Ck.zero, 0, 0, 1)
  else if c.s = false then (⟨c.f, 0, t, c.p, true⟩, 1, o, 0)
  else if ¬ inB 4294967296000 o then (Ck.zero, 0, 0, 160)
  else if t < c.a then (Ck.zero, 0, 0, 1)
  else if ¬ inB 549755814 o then (⟨c.f, 0, t, c.p, true⟩, 2, o, 0)
  else (⟨clamp (c.f + drift c o t) 2147483, o, t, c.p, true⟩, 3, 0, 0)
def Ck.UpdIs (c : Ck) (o t : Int) (r : Ck × Int × Int × Int) (w : World) : Prop :=
    Calls Try.prog 15 #[.agg #[.int .i64 c.f, .int .i64 c.l, .int .i64 c.a, .int .i64 c.p, .bool c.s], .int .i64 o, .int .i64 t] w fun e w' => e = .returned (.tuple #[r.1.val, .agg #[.int .i64 r.2.1, .int .i64 r.2.2.1], .int .i64 r.2.2.2]) ∧ RowKit.Below w.heap.size w w'
theorem wrap_i64_eq {x : Int} (h : -9223372036854775808 ≤ x) (h2 : x ≤ 9223372036854775807) : IntKind.i64.wrap x = x := by rw [IntWalk.i64_left]; exact wrap64_eq h h2
theorem drift_sm (c : Ck) (o t : Int) (hm : c.may) (ho : inB 549755814 o) (hl : c.a ≤ t) : -1152921504606846976 ≤ drift c o t ∧ drift c o t ≤ 1152921504606846976 := by
  have ht := tc_lim hm.2.2.2.1 hm.2.2.2.2
  refine drift_lim ho ?_ ?_ (by omega) <;> unfold secs <;> omega
set_option maxHeartbeats 2000000 in
theorem upd_e1 {f l a p o t : Int} {s : Bool} (hm : ¬ Ck.may ⟨f, l, a, p, s⟩)  (w : World) : Ck.UpdIs ⟨f, l, a, p, s⟩ o t (Ck.zero, 0, 0, 1) w := by
  unfold Ck.UpdIs
  obtain ⟨w1, hw1⟩ : ∃ w1, w1 = ((w.alloc (.cells #[.int .i64 f, .int .i64 l, .int .i64 a, .int .i64 p, .bool s] 45)).alloc (.cells #[.int .i64 0, .int .i64 0, .int .i64 0, .int .i64 0, .bool false] 45)).alloc (.cells #[.int .i64 0, .int .i64 0] 47) := ⟨_, rfl⟩
  obtain ⟨b1, x1, y1, t1, s1⟩ := three_new (c := ⟨f, l, a, p, s⟩) hw1
  have HW := Lib.hid hw1
  have HB := Lib.hid b1
  have HX := Lib.hid x1
  have HY := Lib.hid y1
  have HT := Lib.hid t1
  have HS := Lib.hid s1
  have HM := Lib.hid (fun w => may_no hm w)
  obtain ⟨c0, c1, c2, c3, c4⟩ := x1.cells
  clear hw1 b1 x1 y1 s1 t1 hm
  dsimp only at c0 c1 c2 c3 c4 HM ⊢
  go_enter Try.func15, Try.ntmps15
  go_upto_region 1 with fail
  rw [← HW.out]
  go_wp2_with fail
  refine (HM.out _).mono ?_
  rintro e w2 ⟨rfl, hb⟩
  have HB2 := Lib.hid (HB.out.trans (hb.mono (by have := HS.out; omega)))
  have HX2 := Lib.hid (HX.out.below hb (by have := HS.out; omega))
  have HY2 := Lib.hid (HY.out.below hb (by have := HS.out; omega))
  have HT2 := Lib.hid (HT.out.below hb (by have := HS.out; omega))
  clear hb c0 c1 c2 c3 c4
  obtain ⟨c0, c1, c2, c3, c4⟩ := HX2.out.cells
  have f0 := HX2.out.fr
  dsimp only at c0 c1 c2 c3 c4
  obtain ⟨d0, d1, d2, d3, d4⟩ := HY2.out.cells
  obtain ⟨u0, u1⟩ := HT2.out.cells
  have g1 := HY2.out.fr
  have g2 := HT2.out.fr
  dsimp only [Ck.zero] at d0 d1 d2 d3 d4
  go_wp2_with ((go_at_call 32; (first | refine (isW_yes (by assumption) (by omega) _).mono ?_ | refine (isW_no (by assumption) (by omega) (by omega) _).mono ?_); rintro e w9 ⟨rfl, h9⟩; subst h9))
  have hY := (HY2.out.put Ck.zero).put2 (show w.heap.size + 1 ≠ w.heap.size + 2 by omega) 0 0
  have hT := (HT2.out.put5 (show w.heap.size + 2 ≠ w.heap.size + 1 by omega) Ck.zero).put 0 0
  have hB := below_put2 (below_put5 HB2.out (show w.heap.size ≤ w.heap.size + 1 by omega) Ck.zero) (show w.heap.size ≤ w.heap.size + 2 by omega) 0 0
  exact bodyPost_ret (ret_two hY hT rfl 1 _ rfl rfl rfl) rfl ⟨rfl, hB⟩
set_option maxHeartbeats 2000000 in
theorem upd_e2 {f l a p o t : Int} {s : Bool} (hm : Ck.may ⟨f, l, a, p, s⟩) (ho : ¬ inB 1152921504606846976 o) (w : World) : Ck.UpdIs ⟨f, l, a, p, s⟩ o t (Ck.zero, 0, 0, 1) w := by
  unfold Ck.UpdIs
  obtain ⟨w1, hw1⟩ : ∃ w1, w1 = ((w.alloc (.cells #[.int .i64 f, .int .i64 l, .int .i64 a, .int .i64 p, .bool s] 45)).alloc (.cells #[.int .i64 0, .int .i64 0, .int .i64 0, .int .i64 0, .bool false] 45)).alloc (.cells #[.int .i64 0, .int .i64 0] 47) := ⟨_, rfl⟩
  obtain ⟨b1, x1, y1, t1, s1⟩ := three_new (c := ⟨f, l, a, p, s⟩) hw1
  have HW := Lib.hid hw1
  have HB := Lib.hid b1
  have HX := Lib.hid x1
  have HY := Lib.hid y1
  have HT := Lib.hid t1
  have HS := Lib.hid s1
  have HM := Lib.hid (fun w => may_yes hm w)
  obtain ⟨c0, c1, c2, c3, c4⟩ := x1.cells
  clear hw1 b1 x1 y1 s1 t1 hm
  dsimp only at c0 c1 c2 c3 c4 HM ⊢
  go_enter Try.func15, Try.ntmps15
  go_upto_region 1 with fail
  rw [← HW.out]
  go_wp2_with fail
  refine (HM.out _).mono ?_
  rintro e w2 ⟨rfl, hb⟩
  have HB2 := Lib.hid (HB.out.trans (hb.mono (by have := HS.out; omega)))
  have HX2 := Lib.hid (HX.out.below hb (by have := HS.out; omega))
  have HY2 := Lib.hid (HY.out.below hb (by have := HS.out; omega))
  have HT2 := Lib.hid (HT.out.below hb (by have := HS.out; omega))
  clear hb c0 c1 c2 c3 c4
  obtain ⟨c0, c1, c2, c3, c4⟩ := HX2.out.cells
  have f0 := HX2.out.fr
  dsimp only at c0 c1 c2 c3 c4
  obtain ⟨d0, d1, d2, d3, d4⟩ := HY2.out.cells
  obtain ⟨u0, u1⟩ := HT2.out.cells
  have g1 := HY2.out.fr
  have g2 := HT2.out.fr
  dsimp only [Ck.zero] at d0 d1 d2 d3 d4
  go_wp2_with ((go_at_call 32; (first | refine (isW_yes (by assumption) (by omega) _).mono ?_ | refine (isW_no (by assumption) (by omega) (by omega) _).mono ?_); rintro e w9 ⟨rfl, h9⟩; subst h9))
  have hY := (HY2.out.put Ck.zero).put2 (show w.heap.size + 1 ≠ w.heap.size + 2 by omega) 0 0
  have hT := (HT2.out.put5 (show w.heap.size + 2 ≠ w.heap.size + 1 by omega) Ck.zero).put 0 0
  have hB := below_put2 (below_put5 HB2.out (show w.heap.size ≤ w.heap.size + 1 by omega) Ck.zero) (show w.heap.size ≤ w.heap.size + 2 by omega) 0 0
  exact bodyPost_ret (ret_two hY hT rfl 1 _ rfl rfl rfl) rfl ⟨rfl, hB⟩
set_option maxHeartbeats 2000000 in
theorem upd_e3 {f l a p o t : Int} {s : Bool} (hm : Ck.may ⟨f, l, a, p, s⟩) (ho : inB 1152921504606846976 o) (ht : ¬ inB 1152921504606846976 t) (w : World) : Ck.UpdIs ⟨f, l, a, p, s⟩ o t (Ck.zero, 0, 0, 1) w := by
  unfold Ck.UpdIs
  obtain ⟨w1, hw1⟩ : ∃ w1, w1 = ((w.alloc (.cells #[.int .i64 f, .int .i64 l, .int .i64 a, .int .i64 p, .bool s] 45)).alloc (.cells #[.int .i64 0, .int .i64 0, .int .i64 0, .int .i64 0, .bool false] 45)).alloc (.cells #[.int .i64 0, .int .i64 0] 47) := ⟨_, rfl⟩
  obtain ⟨b1, x1, y1, t1, s1⟩ := three_new (c := ⟨f, l, a, p, s⟩) hw1
  have HW := Lib.hid hw1
  have HB := Lib.hid b1
  have HX := Lib.hid x1
  have HY := Lib.hid y1
  have HT := Lib.hid t1
  have HS := Lib.hid s1
  have HM := Lib.hid (fun w => may_yes hm w)
  obtain ⟨c0, c1, c2, c3, c4⟩ := x1.cells
  clear hw1 b1 x1 y1 s1 t1 hm
  dsimp only at c0 c1 c2 c3 c4 HM ⊢
  go_enter Try.func15, Try.ntmps15
  go_upto_region 1 with fail
  rw [← HW.out]
  go_wp2_with fail
  refine (HM.out _).mono ?_
  rintro e w2 ⟨rfl, hb⟩
  have HB2 := Lib.hid (HB.out.trans (hb.mono (by have := HS.out; omega)))
  have HX2 := Lib.hid (HX.out.below hb (by have := HS.out; omega))
  have HY2 := Lib.hid (HY.out.below hb (by have := HS.out; omega))
  have HT2 := Lib.hid (HT.out.below hb (by have := HS.out; omega))
  clear hb c0 c1 c2 c3 c4
  obtain ⟨c0, c1, c2, c3, c4⟩ := HX2.out.cells
  have f0 := HX2.out.fr
  dsimp only at c0 c1 c2 c3 c4
  obtain ⟨d0, d1, d2, d3, d4⟩ := HY2.out.cells
  obtain ⟨u0, u1⟩ := HT2.out.cells
  have g1 := HY2.out.fr
  have g2 := HT2.out.fr
  dsimp only [Ck.zero] at d0 d1 d2 d3 d4
  go_wp2_with ((go_at_call 32; (first | refine (isW_yes (by assumption) (by omega) _).mono ?_ | refine (isW_no (by assumption) (by omega) (by omega) _).mono ?_); rintro e w9 ⟨rfl, h9⟩; subst h9))
  have hY := (HY2.out.put Ck.zero).put2 (show w.heap.size + 1 ≠ w.heap.size + 2 by omega) 0 0
  have hT := (HT2.out.put5 (show w.heap.size + 2 ≠ w.heap.size + 1 by omega) Ck.zero).put 0 0
  have hB := below_put2 (below_put5 HB2.out (show w.heap.size ≤ w.heap.size + 1 by omega) Ck.zero) (show w.heap.size ≤ w.heap.size + 2 by omega) 0 0
  exact bodyPost_ret (ret_two hY hT rfl 1 _ rfl rfl rfl) rfl ⟨rfl, hB⟩
set_option maxHeartbeats 2000000 in
theorem upd_new {f l a p o t : Int} (hm : Ck.may ⟨f, l, a, p, false⟩) (ho : inB 1152921504606846976 o) (ht : inB 1152921504606846976 t) (w : World) : Ck.UpdIs ⟨f, l, a, p, false⟩ o t (⟨f, 0, t, p, true⟩, 1, o, 0) w := by
  unfold Ck.UpdIs
  obtain ⟨w1, hw1⟩ : ∃ w1, w1 = ((w.alloc (.cells #[.int .i64 f, .int .i64 l, .int .i64 a, .int .i64 p, .bool false] 45)).alloc (.cells #[.int .i64 0, .int .i64 0, .int .i64 0, .int .i64 0, .bool false] 45)).alloc (.cells #[.int .i64 0, .int .i64 0] 47) := ⟨_, rfl⟩
  obtain ⟨b1, x1, y1, t1, s1⟩ := three_new (c := ⟨f, l, a, p, false⟩) hw1
  have HW := Lib.hid hw1
  have HB := Lib.hid b1
  have HX := Lib.hid x1
  have HY := Lib.hid y1
  have HT := Lib.hid t1
  have HS := Lib.hid s1
  have HM := Lib.hid (fun w => may_yes hm w)
  obtain ⟨c0, c1, c2, c3, c4⟩ := x1.cells
  clear hw1 b1 x1 y1 s1 t1 hm
  dsimp only at c0 c1 c2 c3 c4 HM ⊢
  go_enter Try.func15, Try.ntmps15
  go_upto_region 1 with fail
  rw [← HW.out]
  go_wp2_with fail
  refine (HM.out _).mono ?_
  rintro e w2 ⟨rfl, hb⟩
  have HB2 := Lib.hid (HB.out.trans (hb.mono (by have := HS.out; omega)))
  have HX2 := Lib.hid (HX.out.below hb (by have := HS.out; omega))
  have HY2 := Lib.hid (HY.out.below hb (by have := HS.out; omega))
  have HT2 := Lib.hid (HT.out.below hb (by have := HS.out; omega))
  clear hb c0 c1 c2 c3 c4
  obtain ⟨c0, c1, c2, c3, c4⟩ := HX2.out.cells
  have f0 := HX2.out.fr
  dsimp only at c0 c1 c2 c3 c4
  go_upto_region 10 with ((go_at_call 32; (first | refine (isW_yes (by assumption) (by omega) _).mono ?_ | refine (isW_no (by assumption) (by omega) (by omega) _).mono ?_); rintro e w9 ⟨rfl, h9⟩; subst h9))
  obtain ⟨w4, e4⟩ : ∃ w4, w4 = w9.alloc (.cells #[.int .i64 1, .int .i64 o] 47) := ⟨_, rfl⟩
  obtain ⟨x4, y4, t4, k4, s4, b4⟩ := told_new e4 HX2.out HY2.out HT2.out HB2.out HB2.out.size
  rw [← e4]
  clear e4 c0 c1 c2 c3 c4 f0
  have l4 := HT2.out.lt
  obtain ⟨k, hk⟩ : ∃ k, k = w9.heap.size := ⟨_, rfl⟩
  rw [← hk] at k4 s4 l4 ⊢
  obtain ⟨c0, c1, c2, c3, c4⟩ := x4.cells
  obtain ⟨v0, v1⟩ := k4.cells
  have f0 := x4.fr
  have f1 := k4.fr
  have n1 : ¬ w.heap.size = k := by omega
  have n2 : ¬ k = w.heap.size := by omega
  dsimp only at c0 c1 c2 c3 c4
  have HX4 := Lib.hid x4
  have HY4 := Lib.hid y4
  have HT4 := Lib.hid t4
  have HK4 := Lib.hid k4
  have HB4 := Lib.hid b4
  have HS4 := Lib.hid s4
  have HL4 := Lib.hid l4
  clear x4 y4 t4 k4 b4 s4 l4 HX HY HT HS HM HX2 HY2 HT2 HB2 hk
  go_upto_region 15 with fail
  obtain ⟨w5, e5⟩ : ∃ w5, w5 = ((w4.setCell ⟨w.heap.size, 4, none⟩ (.bool true)).setCell ⟨w.heap.size, 1, none⟩ (.int .i64 0)).setCell ⟨w.heap.size, 2, none⟩ (.int .i64 t) := ⟨_, rfl⟩
  have x5 : Box w5 w.heap.size ⟨f, 0, t, p, true⟩ := by rw [e5]; exact set_cell (set_cell (set_cell HX4.out 4 (.bool true)) 1 (.int .i64 0)) 2 (.int .i64 t)
  have y5 : Box w5 (w.heap.size + 1) Ck.zero := by rw [e5]; have := HL4.out; exact ((HY4.out.setO (by omega) _ _).setO (by omega) _ _).setO (by omega) _ _
  have t5 : Tb w5 (w.heap.size + 2) 0 0 := by rw [e5]; have := HL4.out; exact ((HT4.out.setO (by omega) _ _).setO (by omega) _ _).setO (by omega) _ _
  have k5 : Tb w5 k 1 o := by rw [e5]; have := HL4.out; exact ((HK4.out.setO (by omega) _ _).setO (by omega) _ _).setO (by omega) _ _
  have b5 : RowKit.Below w.heap.size w w5 := by rw [e5]; have := HL4.out; exact below_set (below_set (below_set HB4.out (Nat.le_refl _) _ _) (Nat.le_refl _) _ _) (Nat.le_refl _) _ _
  rw [← e5]
  clear e5 c0 c1 c2 c3 c4 f0 v0 v1 f1 n1 n2
  obtain ⟨x, hx⟩ : ∃ x, x = w.heap.size + 1 + 1 := ⟨_, rfl⟩
  obtain ⟨r, hr⟩ : ∃ r, r = w.heap.size + 1 := ⟨_, rfl⟩
  rw [show w.heap.size + 2 = w.heap.size + 1 + 1 from rfl] at t5
  rw [← hx] at t5 ⊢
  rw [← hr] at y5 ⊢
  obtain ⟨c0, c1, c2, c3, c4⟩ := x5.cells
  obtain ⟨d0, d1, d2, d3, d4⟩ := y5.cells
  obtain ⟨u0, u1⟩ := t5.cells
  obtain ⟨v0, v1⟩ := k5.cells
  have g1 := y5.fr
  have g2 := t5.fr
  have n2 : ¬ r = k := by have := HL4.out; omega
  have n3 : ¬ k = r := by have := HL4.out; omega
  have n4 : x ≠ r := by omega
  have n5 : w.heap.size ≤ r ∧ w.heap.size ≤ x := by omega
  dsimp only at c0 c1 c2 c3 c4
  clear HX4 HY4 HT4 HK4 HB4 hx hr
  have HN4 := Lib.hid n4
  have n6 : ¬ x = r := n4
  have n7 : ¬ r = x := fun h => n4 h.symm
  have HN5 := Lib.hid n5
  have HX5 := Lib.hid x5
  have HY5 := Lib.hid y5
  have HT5 := Lib.hid t5
  have HB5 := Lib.hid b5
  clear x5 y5 t5 k5 b5 n4 n5
  go_region
  go_wp2_with fail
  have hY := (HY5.out.put ⟨f, 0, t, p, true⟩).put2 HN4.out.symm 1 o
  have hT := (HT5.out.put5 HN4.out ⟨f, 0, t, p, true⟩).put 1 o
  have hB := below_drew (below_put2 (below_put5 HB5.out HN5.out.1 ⟨f, 0, t, p, true⟩) HN5.out.2 1 o)
  exact bodyPost_ret (ret_two hY.drew hT.drew rfl 0 _ rfl rfl rfl) rfl ⟨rfl, hB⟩
set_option maxHeartbeats 2000000 in
theorem upd_panic {f l a p o t : Int} (hm : Ck.may ⟨f, l, a, p, true⟩) (ho : inB 1152921504606846976 o) (ht : inB 1152921504606846976 t) (hp : ¬ inB 4294967296000 o) (w : World) : Ck.UpdIs ⟨f, l, a, p, true⟩ o t (Ck.zero, 0, 0, 160) w := by
  unfold Ck.UpdIs
  obtain ⟨w1, hw1⟩ : ∃ w1, w1 = ((w.alloc (.cells #[.int .i64 f, .int .i64 l, .int .i64 a, .int .i64 p, .bool true] 45)).alloc (.cells #[.int .i64 0, .int .i64 0, .int .i64 0, .int .i64 0, .bool false] 45)).alloc (.cells #[.int .i64 0, .int .i64 0] 47) := ⟨_, rfl⟩
  obtain ⟨b1, x1, y1, t1, s1⟩ := three_new (c := ⟨f, l, a, p, true⟩) hw1
  have HW := Lib.hid hw1
  have HB := Lib.hid b1
  have HX := Lib.hid x1
  have HY := Lib.hid y1
  have HT := Lib.hid t1
  have HS := Lib.hid s1
  have HM := Lib.hid (fun w => may_yes hm w)
  obtain ⟨c0, c1, c2, c3, c4⟩ := x1.cells
  clear hw1 b1 x1 y1 s1 t1 hm
  dsimp only at c0 c1 c2 c3 c4 HM ⊢
  go_enter Try.func15, Try.ntmps15
  go_upto_region 1 with fail
  rw [← HW.out]
  go_wp2_with fail
  refine (HM.out _).mono ?_
  rintro e w2 ⟨rfl, hb⟩
  have HB2 := Lib.hid (HB.out.trans (hb.mono (by have := HS.out; omega)))
  have HX2 := Lib.hid (HX.out.below hb (by have := HS.out; omega))
  have HY2 := Lib.hid (HY.out.below hb (by have := HS.out; omega))
  have HT2 := Lib.hid (HT.out.below hb (by have := HS.out; omega))
  clear hb c0 c1 c2 c3 c4
  obtain ⟨c0, c1, c2, c3, c4⟩ := HX2.out.cells
  have f0 := HX2.out.fr
  dsimp only at c0 c1 c2 c3 c4
  obtain ⟨d0, d1, d2, d3, d4⟩ := HY2.out.cells
  obtain ⟨u0, u1⟩ := HT2.out.cells
  have g1 := HY2.out.fr
  have g2 := HT2.out.fr
  dsimp only [Ck.zero] at d0 d1 d2 d3 d4
  go_wp2_with ((go_at_call 32; (first | refine (isW_yes (by assumption) (by omega) _).mono ?_ | refine (isW_no (by assumption) (by omega) (by omega) _).mono ?_); rintro e w9 ⟨rfl, h9⟩; subst h9))
  have hY := (HY2.out.put Ck.zero).put2 (show w.heap.size + 1 ≠ w.heap.size + 2 by omega) 0 0
  have hT := (HT2.out.put5 (show w.heap.size + 2 ≠ w.heap.size + 1 by omega) Ck.zero).put 0 0
  have hB := below_put2 (below_put5 HB2.out (show w.heap.size ≤ w.heap.size + 1 by omega) Ck.zero) (show w.heap.size ≤ w.heap.size + 2 by omega) 0 0
  exact bodyPost_ret (ret_two hY hT rfl 160 _ rfl rfl rfl) rfl ⟨rfl, hB⟩
set_option maxHeartbeats 2000000 in
theorem upd_old {f l a p o t : Int} (hm : Ck.may ⟨f, l, a, p, true⟩) (ho : inB 1152921504606846976 o) (ht : inB 1152921504606846976 t) (hp : inB 4294967296000 o) (hl : t < a) (w : World) : Ck.UpdIs ⟨f, l, a, p, true⟩ o t (Ck.zero, 0, 0, 1) w := by
  unfold Ck.UpdIs
  obtain ⟨w1, hw1⟩ : ∃ w1, w1 = ((w.alloc (.cells #[.int .i64 f, .int .i64 l, .int .i64 a, .int .i64 p, .bool true] 45)).alloc (.cells #[.int .i64 0, .int .i64 0, .int .i64 0, .int .i64 0, .bool false] 45)).alloc (.cells #[.int .i64 0, .int .i64 0] 47) := ⟨_, rfl⟩
  obtain ⟨b1, x1, y1, t1, s1⟩ := three_new (c := ⟨f, l, a, p, true⟩) hw1
  have HW := Lib.hid hw1
  have HB := Lib.hid b1
  have HX := Lib.hid x1
  have HY := Lib.hid y1
  have HT := Lib.hid t1
  have HS := Lib.hid s1
  have HM := Lib.hid (fun w => may_yes hm w)
  obtain ⟨c0, c1, c2, c3, c4⟩ := x1.cells
  clear hw1 b1 x1 y1 s1 t1 hm
  dsimp only at c0 c1 c2 c3 c4 HM ⊢
  go_enter Try.func15, Try.ntmps15
  go_upto_region 1 with fail
  rw [← HW.out]
  go_wp2_with fail
  refine (HM.out _).mono ?_
  rintro e w2 ⟨rfl, hb⟩
  have HB2 := Lib.hid (HB.out.trans (hb.mono (by have := HS.out; omega)))
  have HX2 := Lib.hid (HX.out.below hb (by have := HS.out; omega))
  have HY2 := Lib.hid (HY.out.below hb (by have := HS.out; omega))
  have HT2 := Lib.hid (HT.out.below hb (by have := HS.out; omega))
  clear hb c0 c1 c2 c3 c4
  obtain ⟨c0, c1, c2, c3, c4⟩ := HX2.out.cells
  have f0 := HX2.out.fr
  dsimp only at c0 c1 c2 c3 c4
  have e1 : decide (t < a) = true := by simpa using hl
  obtain ⟨d0, d1, d2, d3, d4⟩ := HY2.out.cells
  obtain ⟨u0, u1⟩ := HT2.out.cells
  have g1 := HY2.out.fr
  have g2 := HT2.out.fr
  dsimp only [Ck.zero] at d0 d1 d2 d3 d4
  go_wp2_with ((go_at_call 32; (first | refine (isW_yes (by assumption) (by omega) _).mono ?_ | refine (isW_no (by assumption) (by omega) (by omega) _).mono ?_); rintro e w9 ⟨rfl, h9⟩; subst h9))
  have hY := (HY2.out.put Ck.zero).put2 (show w.heap.size + 1 ≠ w.heap.size + 2 by omega) 0 0
  have hT := (HT2.out.put5 (show w.heap.size + 2 ≠ w.heap.size + 1 by omega) Ck.zero).put 0 0
  have hB := below_put2 (below_put5 HB2.out (show w.heap.size ≤ w.heap.size + 1 by omega) Ck.zero) (show w.heap.size ≤ w.heap.size + 2 by omega) 0 0
  exact bodyPost_ret (ret_two hY hT rfl 1 _ rfl rfl rfl) rfl ⟨rfl, hB⟩
set_option maxHeartbeats 2000000 in
theorem upd_step {f l a p o t : Int} (hm : Ck.may ⟨f, l, a, p, true⟩) (ho : inB 1152921504606846976 o) (ht : inB 1152921504606846976 t) (hp : inB 4294967296000 o) (hl : (t < a) = False) (hq : ¬ inB 549755814 o) (w : World) : Ck.UpdIs ⟨f, l, a, p, true⟩ o t (⟨f, 0, t, p, true⟩, 2, o, 0) w := by
  unfold Ck.UpdIs
  obtain ⟨w1, hw1⟩ : ∃ w1, w1 = ((w.alloc (.cells #[.int .i64 f, .int .i64 l, .int .i64 a, .int .i64 p, .bool true] 45)).alloc (.cells #[.int .i64 0, .int .i64 0, .int .i64 0, .int .i64 0, .bool false] 45)).alloc (.cells #[.int .i64 0, .int .i64 0] 47) := ⟨_, rfl⟩
  obtain ⟨b1, x1, y1, t1, s1⟩ := three_new (c := ⟨f, l, a, p, true⟩) hw1
  have HW := Lib.hid hw1
  have HB := Lib.hid b1
  have HX := Lib.hid x1
  have HY := Lib.hid y1
  have HT := Lib.hid t1
  have HS := Lib.hid s1
  have HM := Lib.hid (fun w => may_yes hm w)
  obtain ⟨c0, c1, c2, c3, c4⟩ := x1.cells
  clear hw1 b1 x1 y1 s1 t1 hm
  dsimp only at c0 c1 c2 c3 c4 HM ⊢
  go_enter Try.func15, Try.ntmps15
  go_upto_region 1 with fail
  rw [← HW.out]
  go_wp2_with fail
  refine (HM.out _).mono ?_
  rintro e w2 ⟨rfl, hb⟩
  have HB2 := Lib.hid (HB.out.trans (hb.mono (by have := HS.out; omega)))
  have HX2 := Lib.hid (HX.out.below hb (by have := HS.out; omega))
  have HY2 := Lib.hid (HY.out.below hb (by have := HS.out; omega))
  have HT2 := Lib.hid (HT.out.below hb (by have := HS.out; omega))
  clear hb c0 c1 c2 c3 c4
  obtain ⟨c0, c1, c2, c3, c4⟩ := HX2.out.cells
  have f0 := HX2.out.fr
  dsimp only at c0 c1 c2 c3 c4
  go_upto_region 10 with ((go_at_call 32; (first | refine (isW_yes (by assumption) (by omega) _).mono ?_ | refine (isW_no (by assumption) (by omega) (by omega) _).mono ?_); rintro e w9 ⟨rfl, h9⟩; subst h9))
  obtain ⟨w4, e4⟩ : ∃ w4, w4 = w9.alloc (.cells #[.int .i64 1, .int .i64 o] 47) := ⟨_, rfl⟩
  obtain ⟨x4, y4, t4, k4, s4, b4⟩ := told_new e4 HX2.out HY2.out HT2.out HB2.out HB2.out.size
  rw [← e4]
  clear e4 c0 c1 c2 c3 c4 f0
  have l4 := HT2.out.lt
  obtain ⟨k, hk⟩ : ∃ k, k = w9.heap.size := ⟨_, rfl⟩
  rw [← hk] at k4 s4 l4 ⊢
  obtain ⟨c0, c1, c2, c3, c4⟩ := x4.cells
  obtain ⟨v0, v1⟩ := k4.cells
  have f0 := x4.fr
  have f1 := k4.fr
  have n1 : ¬ w.heap.size = k := by omega
  have n2 : ¬ k = w.heap.size := by omega
  dsimp only at c0 c1 c2 c3 c4
  have HX4 := Lib.hid x4
  have HY4 := Lib.hid y4
  have HT4 := Lib.hid t4
  have HK4 := Lib.hid k4
  have HB4 := Lib.hid b4
  have HS4 := Lib.hid s4
  have HL4 := Lib.hid l4
  clear x4 y4 t4 k4 b4 s4 l4 HX HY HT HS HM HX2 HY2 HT2 HB2 hk
  go_upto_region 15 with ((go_at_call 32; (first | refine (isW_yes (by assumption) (by omega) _).mono ?_ | refine (isW_no (by assumption) (by omega) (by omega) _).mono ?_); rintro e w9 ⟨rfl, h9⟩; subst w9))
  obtain ⟨w5, e5⟩ : ∃ w5, w5 = ((w4.setCell ⟨k, 0, none⟩ (.int .i64 2)).setCell ⟨w.heap.size, 1, none⟩ (.int .i64 0)).setCell ⟨w.heap.size, 2, none⟩ (.int .i64 t) := ⟨_, rfl⟩
  have x5 : Box w5 w.heap.size ⟨f, 0, t, p, true⟩ := by rw [e5]; exact set_cell (set_cell (HX4.out.setO (show w.heap.size ≠ k by have := HL4.out; omega) 0 (.int .i64 2)) 1 (.int .i64 0)) 2 (.int .i64 t)
  have y5 : Box w5 (w.heap.size + 1) Ck.zero := by rw [e5]; have := HL4.out; exact ((HY4.out.setO (by omega) _ _).setO (by omega) _ _).setO (by omega) _ _
  have t5 : Tb w5 (w.heap.size + 2) 0 0 := by rw [e5]; have := HL4.out; exact ((HT4.out.setO (by omega) _ _).setO (by omega) _ _).setO (by omega) _ _
  have k5 : Tb w5 k 2 o := by rw [e5]; have := HL4.out; exact ((show Tb _ k 2 o from set_cell HK4.out 0 (.int .i64 2)).setO (by omega) _ _).setO (by omega) _ _
  have b5 : RowKit.Below w.heap.size w w5 := by rw [e5]; have := HL4.out; exact below_set (below_set (below_set HB4.out (by omega) _ _) (Nat.le_refl _) _ _) (Nat.le_refl _) _ _
  rw [← e5]
  clear e5 c0 c1 c2 c3 c4 f0 v0 v1 f1 n1 n2
  obtain ⟨x, hx⟩ : ∃ x, x = w.heap.size + 1 + 1 := ⟨_, rfl⟩
  obtain ⟨r, hr⟩ : ∃ r, r = w.heap.size + 1 := ⟨_, rfl⟩
  rw [show w.heap.size + 2 = w.heap.size + 1 + 1 from rfl] at t5
  rw [← hx] at t5 ⊢
  rw [← hr] at y5 ⊢
  obtain ⟨c0, c1, c2, c3, c4⟩ := x5.cells
  obtain ⟨d0, d1, d2, d3, d4⟩ := y5.cells
  obtain ⟨u0, u1⟩ := t5.cells
  obtain ⟨v0, v1⟩ := k5.cells
  have g1 := y5.fr
  have g2 := t5.fr
  have n2 : ¬ r = k := by have := HL4.out; omega
  have n3 : ¬ k = r := by have := HL4.out; omega
  have n4 : x ≠ r := by omega
  have n5 : w.heap.size ≤ r ∧ w.heap.size ≤ x := by omega
  dsimp only at c0 c1 c2 c3 c4
  clear HX4 HY4 HT4 HK4 HB4 hx hr
  have HN4 := Lib.hid n4
  have n6 : ¬ x = r := n4
  have n7 : ¬ r = x := fun h => n4 h.symm
  have HN5 := Lib.hid n5
  have HX5 := Lib.hid x5
  have HY5 := Lib.hid y5
  have HT5 := Lib.hid t5
  have HB5 := Lib.hid b5
  clear x5 y5 t5 k5 b5 n4 n5
  go_region
  go_wp2_with fail
  have hY := (HY5.out.put ⟨f, 0, t, p, true⟩).put2 HN4.out.symm 2 o
  have hT := (HT5.out.put5 HN4.out ⟨f, 0, t, p, true⟩).put 2 o
  have hB := below_drew (below_put2 (below_put5 HB5.out HN5.out.1 ⟨f, 0, t, p, true⟩) HN5.out.2 2 o)
  exact bodyPost_ret (ret_two hY.drew hT.drew rfl 0 _ rfl rfl rfl) rfl ⟨rfl, hB⟩
set_option maxHeartbeats 2000000 in
theorem upd_slew {f l a p o t : Int} (hm : Ck.may ⟨f, l, a, p, true⟩) (ho : inB 1152921504606846976 o) (ht : inB 1152921504606846976 t) (hp : inB 4294967296000 o) (hl : (t < a) = False) (hq : inB 549755814 o) (w : World) : Ck.UpdIs ⟨f, l, a, p, true⟩ o t (⟨clamp (f + drift ⟨f, o, a, p, true⟩ o t) 2147483, o, t, p, true⟩, 3, 0, 0) w := by
  have hc : Ck.may ⟨f, o, a, p, true⟩ := ⟨hm.1, ho, hm.2.2.1, hm.2.2.2⟩
  have hlt : a ≤ t := by
    have : ¬ t < a := by rw [hl]; exact not_false
    omega
  have HDr := Lib.hid (fun w' => drift_any ⟨f, o, a, p, true⟩ o t hc hq hlt ht w')
  have hDl := drift_sm ⟨f, o, a, p, true⟩ o t hc hq hlt
  obtain ⟨D, hD⟩ : ∃ D, D = drift ⟨f, o, a, p, true⟩ o t := ⟨_, rfl⟩
  have hfl := hc.1
  unfold inB at hfl
  dsimp only at hfl
  rw [← hD] at HDr hDl ⊢
  dsimp only at HDr
  unfold Ck.val at HDr
  dsimp only at HDr
  have hwr : IntKind.i64.wrap (f + D) = f + D := wrap_i64_eq (by omega) (by omega)
  have HWi := Lib.hid (fun w' => within_any (f + D) 2147483 (by omega) (by omega) w')
  obtain ⟨F, hF⟩ : ∃ F, F = clamp (f + D) 2147483 := ⟨_, rfl⟩
  rw [← hF] at HWi ⊢
  clear hD hF hc hlt
  unfold Ck.UpdIs
  obtain ⟨w1, hw1⟩ : ∃ w1, w1 = ((w.alloc (.cells #[.int .i64 f, .int .i64 l, .int .i64 a, .int .i64 p, .bool true] 45)).alloc (.cells #[.int .i64 0, .int .i64 0, .int .i64 0, .int .i64 0, .bool false] 45)).alloc (.cells #[.int .i64 0, .int .i64 0] 47) := ⟨_, rfl⟩
  obtain ⟨b1, x1, y1, t1, s1⟩ := three_new (c := ⟨f, l, a, p, true⟩) hw1
  have HW := Lib.hid hw1
  have HB := Lib.hid b1
  have HX := Lib.hid x1
  have HY := Lib.hid y1
  have HT := Lib.hid t1
  have HS := Lib.hid s1
  have HM := Lib.hid (fun w => may_yes hm w)
  obtain ⟨c0, c1, c2, c3, c4⟩ := x1.cells
  clear hw1 b1 x1 y1 s1 t1 hm
  dsimp only at c0 c1 c2 c3 c4 HM ⊢
  go_enter Try.func15, Try.ntmps15
  go_upto_region 1 with fail
  rw [← HW.out]
  go_wp2_with fail
  refine (HM.out _).mono ?_
  rintro e w2 ⟨rfl, hb⟩
  have HB2 := Lib.hid (HB.out.trans (hb.mono (by have := HS.out; omega)))
  have HX2 := Lib.hid (HX.out.below hb (by have := HS.out; omega))
  have HY2 := Lib.hid (HY.out.below hb (by have := HS.out; omega))
  have HT2 := Lib.hid (HT.out.below hb (by have := HS.out; omega))
  clear hb c0 c1 c2 c3 c4
  obtain ⟨c0, c1, c2, c3, c4⟩ := HX2.out.cells
  have f0 := HX2.out.fr
  dsimp only at c0 c1 c2 c3 c4
  go_upto_region 10 with ((go_at_call 32; (first | refine (isW_yes (by assumption) (by omega) _).mono ?_ | refine (isW_no (by assumption) (by omega) (by omega) _).mono ?_); rintro e w9 ⟨rfl, h9⟩; subst h9))
  obtain ⟨w4, e4⟩ : ∃ w4, w4 = w9.alloc (.cells #[.int .i64 1, .int .i64 o] 47) := ⟨_, rfl⟩
  obtain ⟨x4, y4, t4, k4, s4, b4⟩ := told_new e4 HX2.out HY2.out HT2.out HB2.out HB2.out.size
  rw [← e4]
  clear e4 c0 c1 c2 c3 c4 f0
  have l4 := HT2.out.lt
  obtain ⟨k, hk⟩ : ∃ k, k = w9.heap.size := ⟨_, rfl⟩
  rw [← hk] at k4 s4 l4 ⊢
  obtain ⟨c0, c1, c2, c3, c4⟩ := x4.cells
  obtain ⟨v0, v1⟩ := k4.cells
  have f0 := x4.fr
  have f1 := k4.fr
  have n1 : ¬ w.heap.size = k := by omega
  have n2 : ¬ k = w.heap.size := by omega
  dsimp only at c0 c1 c2 c3 c4
  have HX4 := Lib.hid x4
  have HY4 := Lib.hid y4
  have HT4 := Lib.hid t4
  have HK4 := Lib.hid k4
  have HB4 := Lib.hid b4
  have HS4 := Lib.hid s4
  have HL4 := Lib.hid l4
  clear x4 y4 t4 k4 b4 s4 l4 HX HY HT HS HM HX2 HY2 HT2 HB2 hk
  go_upto_region 9 with ((go_at_call 32; (first | refine (isW_yes (by assumption) (by omega) _).mono ?_ | refine (isW_no (by assumption) (by omega) (by omega) _).mono ?_); rintro e w9 ⟨rfl, h9⟩; subst w9))
  obtain ⟨w6, e6⟩ : ∃ w6, w6 = ((w4.setCell ⟨k, 0, none⟩ (.int .i64 3)).setCell ⟨k, 1, none⟩ (.int .i64 0)).setCell ⟨w.heap.size, 1, none⟩ (.int .i64 o) := ⟨_, rfl⟩
  have x6 : Box w6 w.heap.size ⟨f, o, a, p, true⟩ := by rw [e6]; exact set_cell ((HX4.out.setO (show w.heap.size ≠ k by have := HL4.out; omega) 0 (.int .i64 3)).setO (show w.heap.size ≠ k by have := HL4.out; omega) 1 (.int .i64 0)) 1 (.int .i64 o)
  have y6 : Box w6 (w.heap.size + 1) Ck.zero := by rw [e6]; have := HL4.out; exact ((HY4.out.setO (by omega) _ _).setO (by omega) _ _).setO (by omega) _ _
  have t6 : Tb w6 (w.heap.size + 2) 0 0 := by rw [e6]; have := HL4.out; exact ((HT4.out.setO (by omega) _ _).setO (by omega) _ _).setO (by omega) _ _
  have k6 : Tb w6 k 3 0 := by rw [e6]; have := HL4.out; exact Tb.setO (set_cell (set_cell HK4.out 0 (.int .i64 3)) 1 (.int .i64 0)) (by omega) _ _
  have b6 : RowKit.Below w.heap.size w w6 := by rw [e6]; have := HL4.out; exact below_set (below_set (below_set HB4.out (by omega) _ _) (by omega) _ _) (Nat.le_refl _) _ _
  have l6 : w.heap.size + 2 < k ∧ k < w6.heap.size := ⟨by have := HL4.out; omega, k6.lt⟩
  rw [← e6]
  clear e6 c0 c1 c2 c3 c4 f0 v0 v1 f1 n1 n2
  obtain ⟨c0, c1, c2, c3, c4⟩ := x6.cells
  have f0 := x6.fr
  dsimp only at c0 c1 c2 c3 c4
  have HX6 := Lib.hid x6
  have HY6 := Lib.hid y6
  have HT6 := Lib.hid t6
  have HK6 := Lib.hid k6
  have HB6 := Lib.hid b6
  have HL6 := Lib.hid l6
  clear x6 y6 t6 k6 b6 l6
  go_region_with (first
      | (go_at_call 34; (with_reducible refine (HDr.out _).mono ?_); rintro e w7 ⟨rfl, e7⟩
         have b7 : RowKit.Below w6.heap.size w6 w7 := by rw [e7]; exact (Below.refl _ _).drew.alloc (Nat.le_refl _) _
         have x7 := HX6.out.below b7 HX6.out.lt
         obtain ⟨z0, z1, z2, z3, z4⟩ := x7.cells
         have z5 := x7.fr
         dsimp only at z0 z1 z2 z3 z4
         clear e7)
      | (go_at_call 33; (with_reducible refine (HWi.out _).mono ?_); rintro e w8 ⟨rfl, e8⟩; subst w8))
  all_goals
    have HX7 := Lib.hid x7
    have HB7 := Lib.hid b7
    clear x7 b7
    go_upto_region 15 with fail
    obtain ⟨w5, e5⟩ : ∃ w5, w5 = (w7.setCell ⟨w.heap.size, 0, none⟩ (.int .i64 F)).setCell ⟨w.heap.size, 2, none⟩ (.int .i64 t) := ⟨_, rfl⟩
    have x5 : Box w5 w.heap.size ⟨F, o, t, p, true⟩ := by rw [e5]; exact set_cell (set_cell HX7.out 0 (.int .i64 F)) 2 (.int .i64 t)
    have y5 : Box w5 (w.heap.size + 1) Ck.zero := by rw [e5]; have := HL4.out; exact ((HY6.out.below HB7.out (by have := HL6.out; omega)).setO (by omega) _ _).setO (by omega) _ _
    have t5 : Tb w5 (w.heap.size + 2) 0 0 := by rw [e5]; have := HL4.out; exact ((HT6.out.below HB7.out (by have := HL6.out; omega)).setO (by omega) _ _).setO (by omega) _ _
    have k5 : Tb w5 k 3 0 := by rw [e5]; have := HL4.out; exact ((HK6.out.below HB7.out HL6.out.2).setO (by omega) _ _).setO (by omega) _ _
    have b5 : RowKit.Below w.heap.size w w5 := by rw [e5]; have := HL4.out; exact below_set (below_set (HB6.out.trans (HB7.out.mono (by have := HL6.out; omega))) (Nat.le_refl _) _ _) (Nat.le_refl _) _ _
    rw [← e5]
    clear e5 c0 c1 c2 c3 c4 f0 z0 z1 z2 z3 z4 z5
    obtain ⟨x, hx⟩ : ∃ x, x = w.heap.size + 1 + 1 := ⟨_, rfl⟩
    obtain ⟨r, hr⟩ : ∃ r, r = w.heap.size + 1 := ⟨_, rfl⟩
    rw [show w.heap.size + 2 = w.heap.size + 1 + 1 from rfl] at t5
    rw [← hx] at t5 ⊢
    rw [← hr] at y5 ⊢
    obtain ⟨c0, c1, c2, c3, c4⟩ := x5.cells
    obtain ⟨d0, d1, d2, d3, d4⟩ := y5.cells
    obtain ⟨u0, u1⟩ := t5.cells
    obtain ⟨v0, v1⟩ := k5.cells
    have g1 := y5.fr
    have g2 := t5.fr
    have n2 : ¬ r = k := by have := HL4.out; omega
    have n3 : ¬ k = r := by have := HL4.out; omega
    have n4 : x ≠ r := by omega
    have n5 : w.heap.size ≤ r ∧ w.heap.size ≤ x := by omega
    dsimp only at c0 c1 c2 c3 c4
    clear HX4 HY4 HT4 HK4 HB4 hx hr
    have HN4 := Lib.hid n4
    have n6 : ¬ x = r := n4
    have n7 : ¬ r = x := fun h => n4 h.symm
    have HN5 := Lib.hid n5
    have HX5 := Lib.hid x5
    have HY5 := Lib.hid y5
    have HT5 := Lib.hid t5
    have HB5 := Lib.hid b5
    clear x5 y5 t5 k5 b5 n4 n5
    go_region
    go_wp2_with fail
    have hY := (HY5.out.put ⟨F, o, t, p, true⟩).put2 HN4.out.symm 3 0
    have hT := (HT5.out.put5 HN4.out ⟨F, o, t, p, true⟩).put 3 0
    have hB := below_drew (below_put2 (below_put5 HB5.out HN5.out.1 ⟨F, o, t, p, true⟩) HN5.out.2 3 0)
    exact bodyPost_ret (ret_two hY.drew hT.drew rfl 0 _ rfl rfl rfl) rfl ⟨rfl, hB⟩
end Go.Proofs.Ytbkcoijcoacbaaa.Di
