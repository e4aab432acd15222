/- choose: intervals; which may not be; how many have a point. -/
import Derived.Test.YtbkcoijcoacbaaaProg
import Derived.WalkKit
import Derived.Below
import Derived.Laws.CopyOwn
import Derived.Deep.QuietTactic
import Derived.BigQuiet
import Derived.Lib.Hide
import Derived.Deep.Cut
import Derived.Deep.RegionHeld3
import Derived.RangeFuncBox
namespace Go.Proofs.Ytbkcoijcoacbaaa.Ch
open Go.RowKit
set_option linter.unusedVariables false
set_option linter.unusedSimpArgs false
set_option maxRecDepth 100000

structure Sp where
  (lo mid hi : Int)
instance : Inhabited Sp := ⟨⟨0, 0, 0⟩⟩
def Sp.may (s : Sp) : Prop := s.lo ≤ s.mid ∧ s.mid ≤ s.hi
instance (s : Sp) : Decidable s.may := by unfold Sp.may; exact inferInstance
def Sp.has (s : Sp) (x : Int) : Prop := s.lo ≤ x ∧ x ≤ s.hi
instance (s : Sp) (x : Int) : Decidable (s.has x) := by unfold Sp.has; exact inferInstance
def Box (w : World) (g : Nat) (c : Sp) : Prop := w.heap[g]? = some (.cells #[.int .i64 c.lo, .int .i64 c.mid, .int .i64 c.hi] 28 (0, 0))
theorem Box.cells {w : World} {g : Nat} {c : Sp} (h : Box w g c) : w.cell? ⟨g, 0, none⟩ = some (.int .i64 c.lo) ∧ w.cell? ⟨g, 1, none⟩ = some (.int .i64 c.mid) ∧ w.cell? ⟨g, 2, none⟩ = some (.int .i64 c.hi) := by
  have h' : w.heap[g]? = _ := h
  refine ⟨?_, ?_, ?_⟩ <;> simp [World.cell?, h']
theorem Box.lt {w : World} {g : Nat} {c : Sp} (h : Box w g c) : g < w.heap.size := (Array.getElem?_eq_some_iff.1 h).1
theorem Box.below {w w' : World} {g B : Nat} {c : Sp} (h : Box w g c) (b : Below B w w') (hg : g < B) : Box w' g c := (b.block g hg).trans h
theorem Box.fr {w : World} {g : Nat} {c : Sp} (h : Box w g c) (i : Nat) : w.frozen? ⟨g, i, none⟩ = false := by
  have h' : w.heap[g]? = _ := h
  simp [World.frozen?, h']
theorem one_new {w w1 : World} {c : Sp} (e : w1 = w.alloc (.cells #[.int .i64 c.lo, .int .i64 c.mid, .int .i64 c.hi] 28)) :
    RowKit.Below w.heap.size w w1 ∧ Box w1 w.heap.size c ∧ w1.heap.size = w.heap.size + 1 := by
  subst e
  exact ⟨(Below.refl _ _).alloc (Nat.le_refl _) _, World.alloc_heap_new w _, World.size_alloc ..⟩
theorem bthen {B : Nat} {w0 w w' : World} (h : RowKit.Below B w0 w) (k : RowKit.Below w.heap.size w w') (hB : B ≤ w0.heap.size) : RowKit.Below B w0 w' := h.trans (k.mono (Nat.le_trans hB h.size))
theorem below_drewN {w0 w : World} {B : Nat} (h : RowKit.Below B w0 w) (n : Nat) : RowKit.Below B w0 (w.drewN n) := ⟨h.os, h.tape, h.output, h.size, h.block⟩
/-- intervals that can be read: a row below block B -/
def Rs (w : World) (B : Nat) (A : Option Addr) (n : Nat) (xs : List Sp) : Prop :=
  xs.length = n ∧ (n = 0 ∨ ∃ g off, A = some ⟨g, off, none⟩ ∧ g < B ∧ ∀ i s, xs[i]? = some s →
    w.cell? ⟨g, off + i * 3, none⟩ = some (.int .i64 s.lo) ∧ w.cell? ⟨g, off + i * 3 + 1, none⟩ = some (.int .i64 s.mid) ∧ w.cell? ⟨g, off + i * 3 + 2, none⟩ = some (.int .i64 s.hi))
theorem Rs.below {w w' : World} {B C n : Nat} {A : Option Addr} {xs : List Sp} (h : Rs w B A n xs) (b : Below C w w') (hB : B ≤ C) : Rs w' B A n xs := by
  refine ⟨h.1, h.2.imp id ?_⟩
  rintro ⟨g, off, rfl, hg, hc⟩
  refine ⟨g, off, rfl, hg, fun i s hs => ?_⟩
  obtain ⟨c0, c1, c2⟩ := hc i s hs
  have e := b.block g (by omega)
  exact ⟨(World.cell?_of_block e).trans c0, (World.cell?_of_block e).trans c1, (World.cell?_of_block e).trans c2⟩
theorem Rs.le {w : World} {B C n : Nat} {A : Option Addr} {xs : List Sp} (h : Rs w B A n xs) (hB : B ≤ C) : Rs w C A n xs := by
  refine ⟨h.1, h.2.imp id ?_⟩
  rintro ⟨g, off, rfl, hg, hc⟩
  exact ⟨g, off, rfl, by omega, hc⟩
theorem Rs.cells {w : World} {B n : Nat} {A : Option Addr} {xs : List Sp} (h : Rs w B A n xs) (h0 : 0 < n) : ∃ g off, A = some ⟨g, off, none⟩ ∧ g < B ∧ ∀ w', RowKit.Below B w w' → ∀ i s, xs[i]? = some s →
    w'.cell? ⟨g, off + i * 3, none⟩ = some (.int .i64 s.lo) ∧ w'.cell? ⟨g, off + i * 3 + 1, none⟩ = some (.int .i64 s.mid) ∧ w'.cell? ⟨g, off + i * 3 + 2, none⟩ = some (.int .i64 s.hi) := by
  rcases h.2 with h1 | ⟨g, off, rfl, hg, hc⟩
  · omega
  · refine ⟨g, off, rfl, hg, fun w' b i s hs => ?_⟩
    have h' := (h.below b (Nat.le_refl _)).2
    rcases h' with h1 | ⟨g', off', e, _, hc'⟩
    · omega
    · cases e
      exact hc' i s hs
theorem wrong_any (s : Sp) (w : World) :
    Calls Try.prog 29 #[.agg #[.int .i64 s.lo, .int .i64 s.mid, .int .i64 s.hi]] w fun e w' => e = .returned (.bool (!decide s.may)) ∧ RowKit.Below w.heap.size w w' := by
  obtain ⟨w1, hw1⟩ : ∃ w1, w1 = w.alloc (.cells #[.int .i64 s.lo, .int .i64 s.mid, .int .i64 s.hi] 28) := ⟨_, rfl⟩
  obtain ⟨b1, x1, s1⟩ := one_new hw1
  obtain ⟨c0, c1, c2⟩ := x1.cells
  have HW := Lib.hid hw1
  have HB := Lib.hid b1
  have HM := Lib.hid (show s.may ↔ s.lo ≤ s.mid ∧ s.mid ≤ s.hi from Iff.rfl)
  obtain ⟨q, hq⟩ : ∃ q, q = !decide s.may := ⟨_, rfl⟩
  rw [← hq]
  have HQ := Lib.hid hq
  clear hw1 b1 x1 s1 hq
  by_cases h1 : s.mid < s.lo
  · obtain rfl : q = true := by rw [HQ.out, decide_eq_false (fun x => by have := HM.out.1 x; omega)]; rfl
    clear HQ HM
    go_enter Try.func29, Try.ntmps29
    go_upto_region 1 with fail
    rw [← HW.out]
    go_wp2_with fail
    go_ret
    exact ⟨rfl, HB.out⟩
  · have h1' : (s.mid < s.lo) = False := by simp only [h1]
    by_cases h2 : s.hi < s.mid
    · obtain rfl : q = true := by rw [HQ.out, decide_eq_false (fun x => by have := HM.out.1 x; omega)]; rfl
      clear HQ HM
      go_enter Try.func29, Try.ntmps29
      go_upto_region 1 with fail
      rw [← HW.out]
      go_wp2_with fail
      go_ret
      exact ⟨rfl, HB.out⟩
    · have h2' : (s.hi < s.mid) = False := by simp only [h2]
      obtain rfl : q = false := by rw [HQ.out, decide_eq_true (HM.out.2 (by omega))]; rfl
      clear HQ HM
      go_enter Try.func29, Try.ntmps29
      go_upto_region 1 with fail
      rw [← HW.out]
      go_wp2_with fail
      go_ret
      exact ⟨rfl, HB.out⟩
theorem wrong_yes {s : Sp} (h : ¬ s.may) (w : World) : Calls Try.prog 29 #[.agg #[.int .i64 s.lo, .int .i64 s.mid, .int .i64 s.hi]] w fun e w' => e = .returned (.bool true) ∧ RowKit.Below w.heap.size w w' := by
  have := wrong_any s w
  rwa [decide_eq_false h] at this
theorem wrong_no {s : Sp} (h : s.may) (w : World) : Calls Try.prog 29 #[.agg #[.int .i64 s.lo, .int .i64 s.mid, .int .i64 s.hi]] w fun e w' => e = .returned (.bool false) ∧ RowKit.Below w.heap.size w w' := by
  have := wrong_any s w
  rwa [decide_eq_true h] at this
def AllMay (xs : List Sp) : Prop := ∀ s ∈ xs, s.may
instance (xs : List Sp) : Decidable (AllMay xs) := by unfold AllMay; exact inferInstance
set_option maxHeartbeats 1000000 in
theorem index_any {w : World} {A : Option Addr} {B n c : Nat} {xs : List Sp} (h : Rs w B A n xs) (hB : B ≤ w.heap.size) (hmx : n ≤ 9223372036854775807) :
    Calls Try.prog 49 #[.slice A n c, .func (.func 29) #[] #[]] w fun e w' => (∃ r : Int, e = .returned (.int .i64 r) ∧ (0 ≤ r ↔ ¬ AllMay xs)) ∧ RowKit.Below w.heap.size w w' := by
  have HR := Lib.hid h
  have HL := Lib.hid h.1
  have HB := Lib.hid hB
  clear h hB
  go_enter Try.func49, Try.ntmps49
  go_wp2_with fail
  go_loopw [8] (fun i wr => ∃ j : Nat, j ≤ n ∧ i = .int .i64 (j : Int) ∧ Hid (∀ (k : Nat) (s : Sp), k < j → xs[k]? = some s → s.may) ∧ RowKit.Below w.heap.size w wr) (fun i _ => (n - (match i with | .int _ z => z.toNat | _ => 0)))
  case atStart => exact ⟨0, by omega, rfl, fun k s hk => absurd hk (Nat.not_lt_zero _), Below.refl _ _⟩
  case round =>
    obtain ⟨j, hjn, rfl, HN, hb⟩ := hrel
    have HBr := Lib.hid hb
    clear hb
    by_cases hj : j < n
    · have e1 : decide ((j : Int) < (n : Int)) = true := by simp; omega
      have e1' : (j : Int) < (n : Int) := by omega
      obtain ⟨s, hs⟩ : ∃ s, xs[j]? = some s := ⟨_, List.getElem?_eq_getElem (by have := HL.out; omega)⟩
      obtain ⟨g, off, rfl, hg, hc⟩ := HR.out.cells (by omega)
      obtain ⟨c0, c1, c2⟩ := hc wr (HBr.out.mono HB.out) j s hs
      have HS := Lib.hid hs
      clear hc hs
      by_cases hm : s.may
      · have HC := Lib.hid (fun w => wrong_no hm w)
        have HMm := Lib.hid hm
        clear hm
        go_wp2_with fail
        refine (HC.out _).mono ?_
        rintro e w2 ⟨rfl, b2⟩
        have HB2 := Lib.hid (bthen HBr.out b2 (Nat.le_refl _))
        clear b2
        go_wp2_with fail
        exact ⟨⟨j + 1, by omega, rfl, fun k t hk ht => by
          rcases Nat.lt_or_eq_of_le (Nat.le_of_lt_succ hk) with hk | rfl
          · exact HN.out k t hk ht
          · rw [HS.out] at ht; cases ht; exact HMm.out, HB2.out⟩, by show n - ((j : Int) + 1).toNat < n - (j : Int).toNat; omega⟩
      · have HC := Lib.hid (fun w => wrong_yes hm w)
        have HMm := Lib.hid hm
        clear hm
        go_wp2_with fail
        refine (HC.out _).mono ?_
        rintro e w2 ⟨rfl, b2⟩
        have HB2 := Lib.hid (bthen HBr.out b2 (Nat.le_refl _))
        clear b2
        go_wp2_with fail
        go_ret
        exact ⟨⟨(j : Int), rfl, ⟨fun _ hA => HMm.out (hA s (List.mem_of_getElem? HS.out)), fun _ => by omega⟩⟩, HB2.out⟩
    · have e1' : ((j : Int) < (n : Int)) = False := by simp only [eq_iff_iff, iff_false]; omega
      have HNa := Lib.hid (show AllMay xs from fun s hs => by
        obtain ⟨k, hk, rfl⟩ := List.getElem_of_mem hs
        exact HN.out k _ (by have := HL.out; omega) (List.getElem?_eq_getElem hk))
      clear HN
      go_wp2_with fail
      go_ret
      exact ⟨⟨-1, rfl, ⟨fun h => by omega, fun h => absurd HNa.out h⟩⟩, HBr.out⟩
theorem contains_any {w : World} {A : Option Addr} {B n c : Nat} {xs : List Sp} (h : Rs w B A n xs) (hB : B ≤ w.heap.size) (hmx : n ≤ 9223372036854775807) :
    Calls Try.prog 28 #[.slice A n c, .func (.func 29) #[] #[]] w fun e w' => e = .returned (.bool (!decide (AllMay xs))) ∧ RowKit.Below w.heap.size w w' := by
  have HI := Lib.hid (index_any (c := c) h hB hmx)
  obtain ⟨q, hq⟩ : ∃ q, q = !decide (AllMay xs) := ⟨_, rfl⟩
  rw [← hq]
  have HQ := Lib.hid hq
  clear hq h
  go_enter Try.func28, Try.ntmps28
  go_wp2_with fail
  refine HI.out.mono ?_
  rintro e w2 ⟨⟨r, rfl, hr⟩, b2⟩
  have HR := Lib.hid hr
  have HB := Lib.hid b2
  clear hr b2
  go_wp2_with fail
  go_ret
  refine ⟨?_, HB.out⟩
  rw [HQ.out]
  show Ending.returned (.bool (decide (0 ≤ r))) = _
  have e : decide (0 ≤ r) = !decide (AllMay xs) := by
    by_cases h : AllMay xs
    · rw [decide_eq_true h, decide_eq_false (fun x => HR.out.1 x h)]; rfl
    · rw [decide_eq_false h, decide_eq_true (HR.out.2 h)]; rfl
  rw [e]
end Go.Proofs.Ytbkcoijcoacbaaa.Ch
