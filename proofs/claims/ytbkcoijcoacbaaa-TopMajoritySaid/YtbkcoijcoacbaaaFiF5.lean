/- filter: the filter's block; New, Len, Reset, Add. -/
import Derived.Test.YtbkcoijcoacbaaaFiF3
import Derived.Deep.RegionHeldLaw
namespace Go.Proofs.Ytbkcoijcoacbaaa.Fi
open Go.RowKit Go.Sort
set_option linter.unusedVariables false
set_option linter.unusedSimpArgs false
set_option maxRecDepth 100000

def sc (xs : List S4) : List Value := xs.flatMap S4.cs
theorem sc_len (xs : List S4) : (sc xs).length = 4 * xs.length := by
  induction xs with
  | nil => rfl
  | cons x xs ih => simp only [sc, List.flatMap_cons, List.length_append, List.length_cons] at *; rw [ih]; show 4 + _ = _; omega
theorem sc_cons (x : S4) (xs : List S4) : sc (x :: xs) = x.cs ++ sc xs := rfl
theorem sc_get {xs : List S4} {i : Nat} {s : S4} (h : xs[i]? = some s) (q : Nat) (hq : q < 4) : (sc xs)[4 * i + q]? = s.cs[q]? := by
  induction xs generalizing i with
  | nil => simp at h
  | cons x xs ih =>
    rw [sc_cons]
    cases i with
    | zero =>
      simp only [List.getElem?_cons_zero, Option.some.injEq] at h
      subst h
      rw [List.getElem?_append_left (by show _ < 4; omega)]
      simp
    | succ i =>
      simp only [List.getElem?_cons_succ] at h
      rw [List.getElem?_append_right (by show 4 ≤ _; omega), show 4 * (i + 1) + q - x.cs.length = 4 * i + q by show 4 * (i + 1) + q - 4 = _; omega]
      exact ih h
def fcs (ring : List S4) (nx ct : Nat) : List Value := sc ring ++ [.int .i64 (nx : Int), .int .i64 (ct : Int)]
def Fb (w : World) (g : Nat) (ring : List S4) (nx ct : Nat) : Prop := w.heap[g]? = some (.cells (fcs ring nx ct).toArray 69 (0, 0))
/-- the filter at g has the samples L, the last one ahead -/
structure Rg (ring : List S4) (nx : Nat) (L : List S4) : Prop where
  len : ring.length = 8
  nlt : nx < 8
  ctl : L.length ≤ 8
  spot : ∀ j, j < L.length → ring[(nx + 7 - j) % 8]? = L[j]?
def Flt (w : World) (g : Nat) (L : List S4) : Prop := ∃ ring nx, Fb w g ring nx L.length ∧ Rg ring nx L
def push (s : S4) (L : List S4) : List S4 := (s :: L).take 8
theorem Rg.push {ring : List S4} {nx : Nat} {L : List S4} (h : Rg ring nx L) (s : S4) : Rg (ring.set nx s) ((nx + 1) % 8) (push s L) ∧ (push s L).length = min (L.length + 1) 8 := by
  have hlen := h.len
  have hnx := h.nlt
  have hct := h.ctl
  have hl : (Ytbkcoijcoacbaaa.Fi.push s L).length = min (L.length + 1) 8 := by unfold Ytbkcoijcoacbaaa.Fi.push; simp; omega
  refine ⟨⟨by simp [hlen], by omega, by omega, fun j hj => ?_⟩, hl⟩
  rw [hl] at hj
  unfold Ytbkcoijcoacbaaa.Fi.push
  rw [List.getElem?_take_of_lt (by omega)]
  cases j with
  | zero =>
    rw [show ((nx + 1) % 8 + 7 - 0) % 8 = nx by omega]
    simp [hlen, hnx]
  | succ j =>
    rw [List.getElem?_cons_succ, ← h.spot j (by omega), show ((nx + 1) % 8 + 7 - (j + 1)) % 8 = (nx + 7 - j) % 8 by omega, List.getElem?_set_ne (by omega)]
theorem Fb.lt {w : World} {g : Nat} {ring : List S4} {nx ct : Nat} (h : Fb w g ring nx ct) : g < w.heap.size := (Array.getElem?_eq_some_iff.1 h).1
theorem Fb.cell {w : World} {g : Nat} {ring : List S4} {nx ct : Nat} (h : Fb w g ring nx ct) {i : Nat} {v : Value} (hi : (fcs ring nx ct)[i]? = some v) : w.cell? ⟨g, i, none⟩ = some v := by
  have h' : w.heap[g]? = _ := h
  simp [World.cell?, h', hi]
theorem Fb.next {w : World} {g : Nat} {ring : List S4} {nx ct : Nat} (h : Fb w g ring nx ct) (hl : ring.length = 8) : w.cell? ⟨g, 32, none⟩ = some (.int .i64 (nx : Int)) :=
  h.cell (by unfold fcs; rw [List.getElem?_append_right (by rw [sc_len, hl]; omega), sc_len, hl]; rfl)
theorem Fb.count {w : World} {g : Nat} {ring : List S4} {nx ct : Nat} (h : Fb w g ring nx ct) (hl : ring.length = 8) : w.cell? ⟨g, 33, none⟩ = some (.int .i64 (ct : Int)) :=
  h.cell (by unfold fcs; rw [List.getElem?_append_right (by rw [sc_len, hl]; omega), sc_len, hl]; rfl)
theorem Fb.at_ {w : World} {g : Nat} {ring : List S4} {nx ct : Nat} (h : Fb w g ring nx ct) {i : Nat} {s : S4} (hi : ring[i]? = some s) :
    w.cell? ⟨g, 4 * i, none⟩ = some (.int .i64 s.o) ∧ w.cell? ⟨g, 4 * i + 1, none⟩ = some (.int .i64 s.d) ∧ w.cell? ⟨g, 4 * i + 2, none⟩ = some (.int .i64 s.p) ∧ w.cell? ⟨g, 4 * i + 3, none⟩ = some (.int .i64 s.a) := by
  have hlt := (List.getElem?_eq_some_iff.1 hi).1
  have H : ∀ q, q < 4 → (fcs ring nx ct)[4 * i + q]? = s.cs[q]? := fun q hq => by
    unfold fcs
    rw [List.getElem?_append_left (by rw [sc_len]; omega)]
    exact sc_get hi q hq
  exact ⟨h.cell (H 0 (by omega)), h.cell (H 1 (by omega)), h.cell (H 2 (by omega)), h.cell (H 3 (by omega))⟩
theorem Fb.fr {w : World} {g : Nat} {ring : List S4} {nx ct : Nat} (h : Fb w g ring nx ct) (i : Nat) : w.frozen? ⟨g, i, none⟩ = false := by
  have h' : w.heap[g]? = _ := h
  simp [World.frozen?, h']
theorem set_cell {w : World} {g : Nat} {cs : Array Value} {t : TypeId} {fr : Nat × Nat} (h : w.heap[g]? = some (.cells cs t fr)) (i : Nat) (v : Value) : (w.setCell ⟨g, i, none⟩ v).heap[g]? = some (.cells (cs.setIfInBounds i v) t fr) := by
  simp [World.setCell, Array.getElem?_modify, h]
theorem set_far (w : World) (g i : Nat) (v : Value) {k : Nat} (hk : k ≠ g) : (w.setCell ⟨g, i, none⟩ v).heap[k]? = w.heap[k]? := by
  simp only [World.setCell, Array.getElem?_modify]
  rw [if_neg (fun h => hk h.symm)]
theorem sc_set (xs : List S4) (i : Nat) (s : S4) : ((((sc xs).set (4 * i) (.int .i64 s.o)).set (4 * i + 1) (.int .i64 s.d)).set (4 * i + 2) (.int .i64 s.p)).set (4 * i + 3) (.int .i64 s.a) = sc (xs.set i s) := by
  induction xs generalizing i with
  | nil => simp [sc]
  | cons x xs ih =>
    cases i with
    | zero => rfl
    | succ i =>
      have e : ∀ q, 4 * (i + 1) + q = 4 * i + q + 1 + 1 + 1 + 1 := fun q => by omega
      rw [List.set_cons_succ, sc_cons, sc_cons, ← ih i]
      show ((((_ :: _ :: _ :: _ :: sc xs).set (4 * (i + 1)) _).set _ _).set _ _).set _ _ = _ :: _ :: _ :: _ :: _
      rw [e 1, e 2, e 3, show 4 * (i + 1) = 4 * i + 1 + 1 + 1 + 1 by omega]
      simp only [List.set_cons_succ]
      rfl
theorem fcs_set (xs : List S4) (nx ct : Nat) (i : Nat) (hi : i < xs.length) (s : S4) : ((((fcs xs nx ct).set (4 * i) (.int .i64 s.o)).set (4 * i + 1) (.int .i64 s.d)).set (4 * i + 2) (.int .i64 s.p)).set (4 * i + 3) (.int .i64 s.a) = fcs (xs.set i s) nx ct := by
  unfold fcs
  have hl := sc_len xs
  rw [List.set_append_left _ _ (by omega), List.set_append_left _ _ (by rw [List.length_set]; omega), List.set_append_left _ _ (by rw [List.length_set, List.length_set]; omega), List.set_append_left _ _ (by rw [List.length_set, List.length_set, List.length_set]; omega), sc_set]
theorem Fb.put {w : World} {g : Nat} {ring : List S4} {nx ct : Nat} (h : Fb w g ring nx ct) {i : Nat} (hi : i < ring.length) (s : S4) :
    Fb ((((w.setCell ⟨g, 4 * i, none⟩ (.int .i64 s.o)).setCell ⟨g, 4 * i + 1, none⟩ (.int .i64 s.d)).setCell ⟨g, 4 * i + 2, none⟩ (.int .i64 s.p)).setCell ⟨g, 4 * i + 3, none⟩ (.int .i64 s.a)) g (ring.set i s) nx ct := by
  have h' := set_cell (set_cell (set_cell (set_cell h (4 * i) (.int .i64 s.o)) (4 * i + 1) (.int .i64 s.d)) (4 * i + 2) (.int .i64 s.p)) (4 * i + 3) (.int .i64 s.a)
  unfold Fb
  rw [h', ← fcs_set ring nx ct i hi s]
  simp
theorem Fb.putN {w : World} {g : Nat} {ring : List S4} {nx ct : Nat} (h : Fb w g ring nx ct) (hl : ring.length = 8) (n : Nat) : Fb (w.setCell ⟨g, 32, none⟩ (.int .i64 (n : Int))) g ring n ct := by
  have h' := set_cell h 32 (.int .i64 (n : Int))
  unfold Fb
  rw [h']
  have hl := sc_len ring
  have : (fcs ring nx ct).set 32 (.int .i64 (n : Int)) = fcs ring n ct := by
    unfold fcs
    rw [List.set_append_right _ _ (by omega), show 32 - (sc ring).length = 0 by omega]
    rfl
  rw [← this]
  simp
theorem Fb.putC {w : World} {g : Nat} {ring : List S4} {nx ct : Nat} (h : Fb w g ring nx ct) (hl : ring.length = 8) (n : Nat) : Fb (w.setCell ⟨g, 33, none⟩ (.int .i64 (n : Int))) g ring nx n := by
  have h' := set_cell h 33 (.int .i64 (n : Int))
  unfold Fb
  rw [h']
  have hl := sc_len ring
  have : (fcs ring nx ct).set 33 (.int .i64 (n : Int)) = fcs ring nx n := by
    unfold fcs
    rw [List.set_append_right _ _ (by omega), show 33 - (sc ring).length = 1 by omega]
    rfl
  rw [← this]
  simp
/-- only block g and new blocks have changed -/
def Only (g : Nat) (w w' : World) : Prop := w.grownBy w' (some g)
theorem Only.set {w0 w : World} {g : Nat} (h : Only g w0 w) (i : Nat) (v : Value) : Only g w0 (w.setCell ⟨g, i, none⟩ v) :=
  ⟨h.os, h.tape, h.output, by rw [World.size_setCell]; exact h.size, fun k hk hn => (set_far w g i v (fun e => hn (by rw [e]))).trans (h.block k hk hn)⟩
theorem len_any {w : World} {g : Nat} {L : List S4} (h : Flt w g L) : Calls Try.prog 62 #[.pointer (some ⟨g, 0, none⟩)] w fun e w' => e = .returned (.int .i64 (L.length : Int)) ∧ w' = w := by
  obtain ⟨ring, nx, hb, hr⟩ := h
  have c1 := hb.count hr.len
  clear hb hr
  go_enter Try.func62, Try.ntmps62
  go_wp2_with fail
  go_ret
  exact ⟨rfl, rfl⟩
theorem len_nil (w : World) : Calls Try.prog 62 #[.pointer none] w fun e w' => e = .returned (.int .i64 0) ∧ w' = w := by
  go_enter Try.func62, Try.ntmps62
  go_wp2_with fail
  go_ret
  exact ⟨rfl, rfl⟩
def S0 : S4 := ⟨0, 0, 0, 0⟩
theorem new_any (w : World) : Calls Try.prog 8 #[] w fun e w' => e = .returned (.pointer (some ⟨w.heap.size, 0, none⟩)) ∧ Flt w' w.heap.size [] ∧ w' = w.alloc (.cells (fcs (List.replicate 8 S0) 0 0).toArray 69) := by
  have hF : Flt (w.alloc (.cells (fcs (List.replicate 8 S0) 0 0).toArray 69)) w.heap.size [] := ⟨List.replicate 8 S0, 0, World.alloc_heap_new w _, ⟨rfl, by omega, by simp, fun j hj => by simp at hj⟩⟩
  have HF := Lib.hid hF
  clear hF
  go_enter Try.func8, Try.ntmps8
  go_wp2_with fail
  go_ret
  exact ⟨rfl, HF.out, rfl⟩
theorem add_nil (s : S4) (w : World) : Calls Try.prog 9 #[.pointer none, s.val] w fun e w' => e = .returned (.int .i64 6) ∧ ∃ os, w' = grow w os := by
  unfold S4.val
  go_enter Try.func9, Try.ntmps9
  go_wp2_with fail
  go_ret
  exact ⟨rfl, _, by rw [alloc_eq_grow]⟩
set_option maxHeartbeats 1000000 in
theorem add_not {w : World} {g : Nat} {s : S4} (hs : ¬ s.may) : Calls Try.prog 9 #[.pointer (some ⟨g, 0, none⟩), s.val] w fun e w' => e = .returned (.int .i64 1) ∧ ∃ os, w' = grow w os := by
  obtain ⟨w1, hw1⟩ : ∃ w1, w1 = w.alloc (.cells #[.int .i64 s.o, .int .i64 s.d, .int .i64 s.p, .int .i64 s.a] 34) := ⟨_, rfl⟩
  have x1 : Box w1 w.heap.size s := by rw [hw1]; exact World.alloc_heap_new w _
  obtain ⟨c0, c1, c2, c3⟩ := x1.cells
  have HW := Lib.hid hw1
  have HM := Lib.hid (fun w => may_any s w)
  rw [decide_eq_false hs] at HM
  clear hw1 x1 hs
  unfold S4.val at HM ⊢
  go_enter Try.func9, Try.ntmps9
  go_upto_region 1 with fail
  rw [← HW.out]
  go_wp2_with (go_at_call 24; refine (HM.out _).mono ?_; rintro e w2 ⟨rfl, hw2⟩; have HW2 := Lib.hid hw2; clear hw2)
  go_ret
  exact ⟨rfl, #[_, _], by rw [HW2.out, HW.out, alloc_eq_grow, alloc_eq_grow, grow_grow]; rfl⟩
set_option maxHeartbeats 2000000 in
theorem add_any {w : World} {g : Nat} {s : S4} {L : List S4} (hs : s.may) (h : Flt w g L) :
    Calls Try.prog 9 #[.pointer (some ⟨g, 0, none⟩), s.val] w fun e w' => e = .returned (.int .i64 0) ∧ Flt w' g (push s L) ∧ w.grownBy w' (some g) := by
  obtain ⟨ring, nx, hb, hr⟩ := h
  obtain ⟨w1, hw1⟩ : ∃ w1, w1 = w.alloc (.cells #[.int .i64 s.o, .int .i64 s.d, .int .i64 s.p, .int .i64 s.a] 34) := ⟨_, rfl⟩
  have x1 : Box w1 w.heap.size s := by rw [hw1]; exact World.alloc_heap_new w _
  have hgl := hb.lt
  have b1 : Fb w1 g ring nx L.length := by rw [hw1]; exact (Below.heap_alloc _ _ _ hgl).trans hb
  have HW := Lib.hid hw1
  have HM := Lib.hid (fun w => may_any s w)
  rw [decide_eq_true hs] at HM
  obtain ⟨w2, hw2⟩ : ∃ w2, w2 = w1.alloc (.cells #[.int .i64 s.o, .int .i64 s.d, .int .i64 s.p, .int .i64 s.a] 34) := ⟨_, rfl⟩
  have x2 : Box w2 w.heap.size s := by rw [hw2]; exact (Below.heap_alloc _ _ _ x1.lt).trans x1
  have b2 : Fb w2 g ring nx L.length := by rw [hw2]; exact (Below.heap_alloc _ _ _ b1.lt).trans b1
  obtain ⟨c0, c1, c2, c3⟩ := x1.cells
  have HW2 := Lib.hid hw2
  have hne : g ≠ w.heap.size := by omega
  have HNE := Lib.hid hne
  obtain ⟨s0, hs0⟩ : ∃ s0, ring[nx]? = some s0 := by
    have := hr.len; have := hr.nlt
    exact ⟨_, List.getElem?_eq_getElem (by omega)⟩
  have hn8 := hr.nlt
  have hct := hr.ctl
  have HB2 := Lib.hid b2
  have HX2 := Lib.hid x2
  have HR := Lib.hid hr
  have HS0 := Lib.hid hs0
  clear hw1 x1 hs hw2 b1 hb hr x2 b2 hs0
  unfold S4.val at HM ⊢
  go_enter Try.func9, Try.ntmps9
  go_upto_region 1 with fail
  rw [← HW.out]
  go_upto_region 5 with (go_at_call 24; refine (HM.out _).mono ?_; rintro e w3 ⟨rfl, hw3⟩; rw [← HW2.out] at hw3; subst hw3)
  clear c0 c1 c2 c3
  obtain ⟨d0, d1, d2, d3⟩ := HX2.out.cells
  have e1 := HB2.out.next HR.out.len
  obtain ⟨f0, f1, f2, f3⟩ := HB2.out.at_ HS0.out
  have g0 := HB2.out.fr (4 * nx)
  have g1 := HB2.out.fr (4 * nx + 1)
  have g2 := HB2.out.fr (4 * nx + 2)
  have g3 := HB2.out.fr (4 * nx + 3)
  rw [Nat.mul_comm 4 nx] at f0 f1 f2 f3 g0 g1 g2 g3
  go_region
  obtain ⟨w4, hw4⟩ : ∃ w4, w4 = ((((w3.setCell ⟨g, nx * 4, none⟩ (.int .i64 s.o)).setCell ⟨g, nx * 4 + 1, none⟩ (.int .i64 s.d)).setCell ⟨g, nx * 4 + 2, none⟩ (.int .i64 s.p)).setCell ⟨g, nx * 4 + 3, none⟩ (.int .i64 s.a)).drew := ⟨_, rfl⟩
  have b4 : Fb w4 g (ring.set nx s) nx L.length := by
    rw [hw4, Nat.mul_comm nx 4]
    exact HB2.out.put (by have := HR.out.len; omega) s
  have o3 : Only g w w3 := by
    rw [HW2.out, HW.out]
    exact ⟨rfl, rfl, rfl, by simp; omega, fun k hk _ => (Below.heap_alloc _ _ _ (by simp; omega)).trans (Below.heap_alloc _ _ _ hk)⟩
  have o4 : Only g w w4 := by
    rw [hw4]
    have := (((o3.set (nx * 4) (.int .i64 s.o)).set (nx * 4 + 1) (.int .i64 s.d)).set (nx * 4 + 2) (.int .i64 s.p)).set (nx * 4 + 3) (.int .i64 s.a)
    exact ⟨this.os, this.tape, this.output, this.size, this.block⟩
  rw [← hw4]
  clear hw4 f0 f1 f2 f3 g0 g1 g2 g3 d0 d1 d2 d3 e1 o3 HX2 HW HW2 HS0 HM
  have hl4 : (ring.set nx s).length = 8 := by rw [List.length_set]; exact HR.out.len
  obtain ⟨hrp, hlp⟩ := HR.out.push s
  have HRP := Lib.hid hrp
  have HLP := Lib.hid hlp
  have HL4 := Lib.hid hl4
  have HO4 := Lib.hid o4
  have HB4 := Lib.hid b4
  have e4 := b4.next hl4
  have e5 := b4.count hl4
  have z4 := b4.fr 32
  have z5 := b4.fr 33
  clear hrp hlp hl4 o4 b4 HR HB2
  obtain ⟨n', hn'⟩ : ∃ n' : Nat, n' = (nx + 1) % 8 := ⟨_, rfl⟩
  have hnz : ((nx : Int) + 1) % 8 = (n' : Int) := by omega
  rw [← hn'] at HRP
  have HNZ := Lib.hid hnz
  obtain ⟨ct, hct'⟩ : ∃ ct, ct = L.length := ⟨_, rfl⟩
  rw [← hct'] at e5 hct HB4 HLP
  clear hnz hn' hct'
  go_wp2_with fail
  · rw [HNZ.out]
    go_ret
    exact ⟨rfl, ⟨ring.set nx s, n', by rw [HLP.out, show min (ct + 1) 8 = 8 by omega]; exact (HB4.out.putN HL4.out n').putC HL4.out 8, HRP.out⟩, (HO4.out.set _ _).set _ _⟩
  · rw [HNZ.out]
    go_ret
    exact ⟨rfl, ⟨ring.set nx s, n', by rw [HLP.out, show min (ct + 1) 8 = ct + 1 by omega]; exact (HB4.out.putN HL4.out n').putC HL4.out (ct + 1), HRP.out⟩, (HO4.out.set _ _).set _ _⟩
end Go.Proofs.Ytbkcoijcoacbaaa.Fi
