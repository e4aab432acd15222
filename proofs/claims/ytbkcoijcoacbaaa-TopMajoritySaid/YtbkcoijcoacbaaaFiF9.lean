/- filter: Row and Best. -/
import Derived.Test.YtbkcoijcoacbaaaFiF8
namespace Go.Proofs.Ytbkcoijcoacbaaa.Fi
open Go.RowKit Go.Sort Go.Shelf Go.Lib
set_option linter.unusedVariables false
set_option linter.unusedSimpArgs false
set_option maxRecDepth 100000

theorem ltOf_cfS (now : Int) (x y : S4) : ltOf (cfS now) x y = decide (x.dist now < y.dist now) := by
  unfold ltOf cfS cmpI
  split
  · simp [*]
  · split
    · simp [*]
    · simp [*]
theorem swoS (now : Int) : SWO (ltOf (cfS now)) := by
  constructor
  · intro x; rw [ltOf_cfS]; simp
  · intro x y z; rw [ltOf_cfS, ltOf_cfS, ltOf_cfS]; simp only [decide_eq_true_eq]; omega
  · intro x y z; rw [ltOf_cfS, ltOf_cfS, ltOf_cfS]; simp only [decide_eq_false_iff_not]; omega
theorem sorted_facts (now : Int) (L : List S4) : (sorted now L).length = L.length ∧ (sorted now L).Perm L ∧ ∀ (i j : Nat) (s t : S4), i < j → (sorted now L)[i]? = some s → (sorted now L)[j]? = some t → s.dist now ≤ t.dist now := by
  obtain ⟨⟨h1, _, h3⟩, h4⟩ := insertionSort_holds (lt := ltOf (cfS now)) (swoS now) L.toArray 0 L.length (Nat.zero_le _) (by simp)
  unfold sorted
  generalize insertionSort (ltOf (cfS now)) L.toArray 0 L.length = d at *
  have hs : d.size = L.length := by simpa using h1
  refine ⟨by simp [hs], ?_, ?_⟩
  · have e1 : d.extract 0 L.length = d := by rw [← hs]; exact Array.extract_size
    have e2 : L.toArray.extract 0 L.length = L.toArray := by
      simp
    rw [e1, e2] at h3
    simpa using h3
  · intro i j s t hij hi hj
    have hjl := (List.getElem?_eq_some_iff.1 hj).1
    have hjl' : j < d.size := by simpa using hjl
    have := h4 i j (Nat.zero_le _) hij (by omega)
    rw [ltOf_cfS, decide_eq_false_iff_not] at this
    have ei : d[i]! = s := by
      rw [getElem!_pos d i (by omega)]
      have := (List.getElem?_eq_some_iff.1 hi).2
      simpa using this
    have ej : d[j]! = t := by
      rw [getElem!_pos d j hjl']
      have := (List.getElem?_eq_some_iff.1 hj).2
      simpa using this
    rw [ei, ej] at this
    omega
theorem sorted_nil (now : Int) : sorted now [] = [] := by
  have := (sorted_facts now []).1
  exact List.length_eq_zero_iff.1 this
/-- a filter, or none -/
def Pf (w : World) (p : Option Addr) (L : List S4) : Prop := (p = none ∧ L = []) ∨ ∃ g, p = some ⟨g, 0, none⟩ ∧ Flt w g L
theorem Pf.below {w w' : World} {p : Option Addr} {L : List S4} (h : Pf w p L) (b : RowKit.Below w.heap.size w w') : Pf w' p L := by
  rcases h with h | ⟨g, rfl, h⟩
  · exact .inl h
  · exact .inr ⟨g, rfl, h.below b h.lt⟩
theorem latest_pf {w : World} {p : Option Addr} {L : List S4} (h : Pf w p L) :
    Calls Try.prog 44 #[.pointer p] w fun e w' => ∃ A c, e = .returned (.slice A L.length c) ∧ Gs w' w.heap.size A L.length c L ∧ RowKit.Below w.heap.size w w' := by
  rcases h with ⟨rfl, rfl⟩ | ⟨g, rfl, h⟩
  · refine (latest_nil w).mono ?_
    rintro e w' ⟨rfl, rfl⟩
    exact ⟨none, 0, rfl, Gs.nil _ _, Below.refl _ _⟩
  · exact latest_any h
theorem Pf.ct {w : World} {p : Option Addr} {L : List S4} (h : Pf w p L) : L.length ≤ 8 := by
  rcases h with ⟨_, rfl⟩ | ⟨g, _, ring, nx, _, h⟩
  · simp
  · exact h.ctl
theorem Gs.room {w : World} {base n c : Nat} {A : Option Addr} {L : List S4} (h : Gs w base A n c L) : n ≤ c := by
  rcases h.2.2 with ⟨hv, h0⟩ | ⟨g, cap, cur, hv, _, _, hnc, _⟩
  · omega
  · cases hv; exact hnc
theorem Gs.none {w : World} {base n c : Nat} {A : Option Addr} {L : List S4} (h : Gs w base A n c L) (hn : n = 0) : (A = none ∧ c = 0) ∨ ∃ g, A = some ⟨g, 0, none⟩ ∧ base ≤ g ∧ g < w.heap.size ∧ HoldsK S4.cs 4 w g 0 L.toArray := by
  subst hn
  have hl : L = [] := List.length_eq_zero_iff.1 h.1
  subst hl
  rcases h.2.2 with ⟨hv, h0⟩ | ⟨g, cap, cur, hv, hb, hg, _⟩
  · cases hv; exact .inl ⟨rfl, rfl⟩
  · cases hv
    exact .inr ⟨g, rfl, hb, (Array.getElem?_eq_some_iff.1 hg).1, fun j hj => by simp at hj⟩
/-- sorting what latest gave -/
theorem sort_gs {w : World} {base bn n c : Nat} {A : Option Addr} {L : List S4} {now : Int} (h : Gs w base A n c L) (hn : w.cell? ⟨bn, 0, none⟩ = some (.int .i64 now)) (hb : bn < base) (hbase : base ≤ w.heap.size) (h8 : n ≤ 8) :
    Calls Try.prog 45 #[.slice A n c, .func (.func 46) #[] #[.pointer (some ⟨bn, 0, none⟩)]] w fun e w' => e = .returned (.tuple #[]) ∧ Rd w' w'.heap.size A n (sorted now L) ∧ RowKit.Below base w w' := by
  have hl := h.1
  have key : (A = none ∧ c = 0 ∧ n = 0) ∨ ∃ g, A = some ⟨g, 0, none⟩ ∧ base ≤ g ∧ g < w.heap.size ∧ HoldsK S4.cs 4 w g 0 L.toArray := by
    rcases Nat.eq_zero_or_pos n with h0 | h0
    · rcases h.none h0 with ⟨a, b⟩ | hh
      · exact .inl ⟨a, b, h0⟩
      · exact .inr hh
    · exact .inr (h.holds h0)
  rcases key with ⟨rfl, rfl, rfl⟩ | ⟨g, rfl, hg, hgl, hH⟩
  · refine (stable_none _ w).mono ?_
    rintro e w' ⟨rfl, rfl⟩
    exact ⟨rfl, ⟨by rw [(sorted_facts now L).1]; exact hl, .inl rfl⟩, Below.refl _ _⟩
  · have hs : L.toArray.size = n := by simpa using hl
    have := stable_any (cap := c) hn (by omega) (by omega) hH hgl (by omega)
    rw [hs] at this
    refine this.mono ?_
    rintro e w' ⟨rfl, m, os, rfl⟩
    refine ⟨rfl, ?_, below_sortK hbase hg⟩
    have hsz : (insertionSort (ltOf (cfS now)) L.toArray 0 n).size = n := by
      have := (insertionSort_holds (lt := ltOf (cfS now)) (swoS now) L.toArray 0 n (Nat.zero_le _) (by omega)).1.1
      omega
    have hh := holdsK_sortWorldK_c S4.cs 4 w g 0 L.toArray (insertionSort (ltOf (cfS now)) L.toArray 0 n) m os hH hgl (by omega)
    have hr := HoldsK.rd hh (Nat.lt_of_lt_of_le hgl (size_sortWorldK_c S4.cs 4 w g 0 m _ os))
    rw [hsz] at hr
    unfold sorted
    rw [hl]
    exact hr
set_option maxHeartbeats 2000000 in
theorem row_any {w : World} {p : Option Addr} {L : List S4} (now : Int) (h : Pf w p L) :
    Calls Try.prog 27 #[.pointer p, .int .i64 now] w fun e w' => ∃ A c, e = .returned (.slice A L.length c) ∧ Rd w' w'.heap.size A L.length (sorted now L) ∧ L.length ≤ c ∧ RowKit.Below w.heap.size w w' := by
  obtain ⟨w1, hw1⟩ : ∃ w1, w1 = w.alloc (.cells #[.int .i64 now] 2) := ⟨_, rfl⟩
  have b1 : RowKit.Below w.heap.size w w1 := by rw [hw1]; exact (Below.refl _ _).alloc (Nat.le_refl _) _
  have s1 : w1.heap.size = w.heap.size + 1 := by rw [hw1]; simp
  have n1 : w1.cell? ⟨w.heap.size, 0, none⟩ = some (.int .i64 now) := by rw [hw1]; simp
  have HL := Lib.hid (latest_pf (h.below b1))
  have HW := Lib.hid hw1
  have HF := Lib.hid (show RowKit.Below w.heap.size w w1 ∧ w1.heap.size = w.heap.size + 1 ∧ w1.cell? ⟨w.heap.size, 0, none⟩ = some (.int .i64 now) ∧ L.length ≤ 8 from ⟨b1, s1, n1, h.ct⟩)
  clear hw1 b1 s1 n1 h
  generalize L.length = n at *
  go_enter Try.func27, Try.ntmps27
  go_upto_region 1 with fail
  rw [← HW.out]
  go_wp2_with fail
  refine HL.out.mono ?_
  rintro e w2 ⟨A, c, rfl, hg, hb⟩
  have HS := Lib.hid (show Calls Try.prog 45 #[.slice A n c, .func (.func 46) #[] #[.pointer (some ⟨w.heap.size, 0, none⟩)]] w2 (fun e w' => e = .returned (.tuple #[]) ∧ Rd w' w'.heap.size A n (sorted now L) ∧ RowKit.Below w1.heap.size w2 w') from sort_gs hg ((World.cell?_of_block (hb.block w.heap.size (by have := HF.out.2.1; omega))).trans HF.out.2.2.1) (by have := HF.out.2.1; omega) hb.size HF.out.2.2.2)
  have HG := Lib.hid (show n ≤ c ∧ RowKit.Below w1.heap.size w1 w2 from ⟨hg.room, hb⟩)
  clear hg hb
  go_wp2_with fail
  refine HS.out.mono ?_
  rintro e w3 ⟨rfl, hr, hb3⟩
  have HR := Lib.hid hr
  have HB3 := Lib.hid hb3
  clear hr hb3
  go_wp2_with fail
  go_ret
  exact ⟨A, c, rfl, HR.out, HG.out.1, HF.out.1.trans ((HG.out.2.trans HB3.out).mono (by have := HF.out.2.1; omega))⟩
def headS (L : List S4) : S4 := L.headD ⟨0, 0, 0, 0⟩
theorem Box.ret {w : World} {g : Nat} {s : S4} (h : Box w g s) {fn : Func} (hf : fn.results = #[.cell 4 34, .tmp 5]) (E : Int) (tmps : Array Value) (hp : tmps.getD 4 undef = .pointer (some ⟨g, 0, none⟩)) (hq : tmps.getD 5 undef = .int .i64 E) :
    (results fn tmps).run Try.prog w = .ok (.tuple #[s.val, .int .i64 E]) w := by
  rw [results_cell_tmp hf]
  have hl := run_loadVar_row (P := Try.prog) w g 34 34 #[.int .i64 s.o, .int .i64 s.d, .int .i64 s.p, .int .i64 s.a] (0, 0) _ h Try.underlying34 rfl (by kernel_rfl)
  rw [hp, hq]
  simp [asAddr, Result.andThen, hl, S4.val]
def put4 (w : World) (g : Nat) (s : S4) : World := (((w.setCell ⟨g, 0, none⟩ (.int .i64 s.o)).setCell ⟨g, 1, none⟩ (.int .i64 s.d)).setCell ⟨g, 2, none⟩ (.int .i64 s.p)).setCell ⟨g, 3, none⟩ (.int .i64 s.a)
theorem Box.put {w : World} {g : Nat} {s0 : S4} (h : Box w g s0) (s : S4) : Box (put4 w g s) g s := by
  have h' := set_cell (set_cell (set_cell (set_cell h 0 (.int .i64 s.o)) 1 (.int .i64 s.d)) 2 (.int .i64 s.p)) 3 (.int .i64 s.a)
  exact h'
theorem below_set {w0 w : World} {B g : Nat} (h : RowKit.Below B w0 w) (hg : B ≤ g) (i : Nat) (v : Value) : RowKit.Below B w0 (w.setCell ⟨g, i, none⟩ v) :=
  ⟨h.os, h.tape, h.output, by rw [World.size_setCell]; exact h.size, fun k hk => (set_far w g i v (by omega)).trans (h.block k hk)⟩
theorem below_put4 {w0 w : World} {B g : Nat} (h : RowKit.Below B w0 w) (hg : B ≤ g) (s : S4) : RowKit.Below B w0 (put4 w g s) :=
  below_set (below_set (below_set (below_set h hg _ _) hg _ _) hg _ _) hg _ _
theorem Box.fr {w : World} {g : Nat} {s : S4} (h : Box w g s) (i : Nat) : w.frozen? ⟨g, i, none⟩ = false := by
  have h' : w.heap[g]? = _ := h
  simp [World.frozen?, h']
set_option maxHeartbeats 2000000 in
theorem best_any {w : World} {p : Option Addr} {L : List S4} (now : Int) (h : Pf w p L) :
    Calls Try.prog 11 #[.pointer p, .int .i64 now] w fun e w' => e = .returned (.tuple #[(headS (sorted now L)).val, .int .i64 (if L = [] then 4 else 0)]) ∧ RowKit.Below w.heap.size w w' := by
  obtain ⟨w1, hw1⟩ : ∃ w1, w1 = w.alloc (.cells #[.int .i64 0, .int .i64 0, .int .i64 0, .int .i64 0] 34) := ⟨_, rfl⟩
  have b1 : RowKit.Below w.heap.size w w1 := by rw [hw1]; exact (Below.refl _ _).alloc (Nat.le_refl _) _
  have x1 : Box w1 w.heap.size ⟨0, 0, 0, 0⟩ := by rw [hw1]; exact World.alloc_heap_new w _
  have HR := Lib.hid (row_any now (h.below b1))
  have HW := Lib.hid hw1
  have HF := Lib.hid (show RowKit.Below w.heap.size w w1 ∧ Box w1 w.heap.size ⟨0, 0, 0, 0⟩ ∧ w.heap.size ≤ w1.heap.size from ⟨b1, x1, b1.size⟩)
  clear hw1 b1 x1 h
  by_cases hL : L = []
  · have e4 : (if L = [] then (4 : Int) else 0) = 4 := if_pos hL
    rw [e4]
    subst hL
    rw [sorted_nil] at HR ⊢
    clear e4
    go_enter Try.func11, Try.ntmps11
    go_upto_region 1 with fail
    rw [← HW.out]
    go_wp2_with fail
    refine HR.out.mono ?_
    rintro e w2 ⟨A, c, rfl, hr, hc, hb⟩
    have x2 : Box w2 w.heap.size ⟨0, 0, 0, 0⟩ := (hb.block _ HF.out.2.1.lt).trans HF.out.2.1
    obtain ⟨c0, c1, c2, c3⟩ := x2.cells
    have f0 := x2.fr
    have HB := Lib.hid hb
    have HX := Lib.hid x2
    clear hr hb x2
    go_wp2_with fail
    exact bodyPost_ret ((HX.out.put ⟨0, 0, 0, 0⟩).ret rfl 4 _ rfl rfl) rfl ⟨rfl, below_put4 (HF.out.1.trans (HB.out.mono HF.out.2.2)) (Nat.le_refl _) ⟨0, 0, 0, 0⟩⟩
  · have e4 : (if L = [] then (4 : Int) else 0) = 0 := if_neg hL
    rw [e4]
    have hl := (sorted_facts now L).1
    have hpos : 0 < L.length := by
      rcases Nat.eq_zero_or_pos L.length with h0 | h0
      · exact absurd (List.length_eq_zero_iff.1 h0) hL
      · exact h0
    generalize sorted now L = M at *
    obtain ⟨s, T, rfl⟩ : ∃ s T, M = s :: T := by
      cases M with
      | nil => simp at hl; omega
      | cons s T => exact ⟨s, T, rfl⟩
    generalize L.length = n at *
    clear e4 hl hL
    have hn0 : ((n : Int) = 0) = False := by simp only [eq_iff_iff, iff_false]; omega
    have hn1 : (0 : Int) < (n : Int) := by omega
    go_enter Try.func11, Try.ntmps11
    go_upto_region 1 with fail
    rw [← HW.out]
    go_wp2_with fail
    refine HR.out.mono ?_
    rintro e w2 ⟨A, c, rfl, hr, hc, hb⟩
    have x2 : Box w2 w.heap.size ⟨0, 0, 0, 0⟩ := (hb.block _ HF.out.2.1.lt).trans HF.out.2.1
    obtain ⟨c0, c1, c2, c3⟩ := x2.cells
    have f0 := x2.fr
    have HB := Lib.hid hb
    have HX := Lib.hid x2
    rcases hr.2 with h0 | ⟨g, off, rfl, hg, hcl⟩
    · omega
    obtain ⟨d0, d1, d2, d3⟩ := hcl 0 s rfl
    rw [Nat.zero_mul, Nat.add_zero] at d0 d1 d2 d3
    clear hr hb x2 hcl
    go_wp2_with fail
    exact bodyPost_ret ((HX.out.put s).ret rfl 0 _ rfl rfl) rfl ⟨rfl, below_put4 (HF.out.1.trans (HB.out.mono HF.out.2.2)) (Nat.le_refl _) s⟩
end Go.Proofs.Ytbkcoijcoacbaaa.Fi
