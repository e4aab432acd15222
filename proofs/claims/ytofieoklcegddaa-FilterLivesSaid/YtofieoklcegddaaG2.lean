/- clepsydralaw14.filled: a filter with samples. -/
import Derived.Test.YtofieoklcegddaaG1
namespace Go.Proofs.Ytofieoklcegddaa
open Go.RowKit Go.Sort Go.Shelf Go.Lib
set_option linter.unusedVariables false
set_option linter.unusedSimpArgs false
set_option maxRecDepth 100000

def add1 (L : List S4) (s : S4) : List S4 := if s.may then push s L else L
def fillL (L xs : List S4) : List S4 := xs.foldl add1 L
theorem fillL_take (L xs : List S4) {j : Nat} {s : S4} (h : xs[j]? = some s) : fillL L (xs.take (j + 1)) = add1 (fillL L (xs.take j)) s := by
  unfold fillL
  rw [List.take_add_one, h, List.foldl_append]
  rfl
theorem Flt.only {w w' : World} {g h : Nat} {L : List S4} (hf : Flt w g L) (k : w.grownBy w' (some h)) (hne : g ≠ h) : Flt w' g L := by
  obtain ⟨ring, nx, hb, hr⟩ := hf
  have hb' : w.heap[g]? = _ := hb
  exact ⟨ring, nx, (k.block g hb.lt (by simp; omega)).trans hb', hr⟩
theorem add_all {w : World} {g : Nat} (s : S4) {L : List S4} (h : Flt w g L) :
    Calls Try.prog 14 #[.pointer (some ⟨g, 0, none⟩), s.val] w fun e w' => e = .returned (.int .i64 (if s.may then 0 else 1)) ∧ Flt w' g (add1 L s) ∧ w.grownBy w' (some g) := by
  unfold add1
  by_cases hs : s.may
  · rw [if_pos hs, if_pos hs]
    exact add_any hs h
  · rw [if_neg hs, if_neg hs]
    refine (add_not hs).mono ?_
    rintro e w' ⟨rfl, os, rfl⟩
    have hb : RowKit.Below w.heap.size w (grow w os) := below_of_grow (n := 0) (Nat.le_refl _) rfl
    exact ⟨rfl, h.below hb h.lt, ⟨hb.os, hb.tape, hb.output, hb.size, fun k hk _ => hb.block k hk⟩⟩
set_option maxHeartbeats 2000000 in
theorem filled_any {w : World} {B : Nat} {A : Option Addr} {n c : Nat} {xs : List S4} (h : Rd w B A n xs) (hB : B ≤ w.heap.size) :
    Calls Try.prog 22 #[.slice A n c] w fun e w' => e = .returned (.pointer (some ⟨w.heap.size, 0, none⟩)) ∧ Flt w' w.heap.size (fillL [] (xs.take 100)) ∧ RowKit.Below w.heap.size w w' := by
  have HR := Lib.hid h
  have hl := h.1
  have HL := Lib.hid hl
  clear h hl
  go_enter Try.func22, Try.ntmps22
  go_wp2_with fail
  refine (new_any w).mono ?_
  rintro e w1 ⟨rfl, hf1, hw1⟩
  have b1 : RowKit.Below w.heap.size w w1 := by rw [hw1]; exact (Below.refl _ _).alloc (Nat.le_refl _) _
  have HF1 := Lib.hid hf1
  have B1 := Lib.hid b1
  clear hw1 hf1 b1
  go_wp2_with fail
  go_loopw [4] (fun i wr => ∃ j : Nat, j ≤ n ∧ j ≤ 100 ∧ i = .int .i64 (j : Int) ∧ Flt wr w.heap.size (fillL [] (xs.take j)) ∧ RowKit.Below w.heap.size w wr ∧ w.heap.size < wr.heap.size) (fun i _ => (100 - (match i with | .int _ z => z.toNat | _ => 0)))
  case atStart => exact ⟨0, by omega, by omega, rfl, HF1.out, B1.out, HF1.out.lt⟩
  case round =>
    obtain ⟨j, hjn, hj1, rfl, hf, hb, hs⟩ := hrel
    have HF := Lib.hid hf
    have HB := Lib.hid hb
    clear hf hb
    by_cases e1 : (j : Int) < (n : Int)
    · by_cases e2 : (j : Int) < 100
      · obtain ⟨s, hs⟩ : ∃ s, xs[j]? = some s := ⟨_, List.getElem?_eq_getElem (by have := HL.out; omega)⟩
        have hr2 := (HR.out.below HB.out hB).2
        have HT := Lib.hid (fillL_take [] xs hs)
        rcases hr2 with h0 | ⟨ga, off, rfl, hga, hc⟩
        · omega
        obtain ⟨c0, c1, c2, c3⟩ := hc j s hs
        have HA := Lib.hid (add_all s HF.out)
        rw [show s.val = .agg #[.int .i64 s.o, .int .i64 s.d, .int .i64 s.p, .int .i64 s.a] from rfl] at HA
        clear hc hs
        go_wp2_with fail
        refine HA.out.mono ?_
        rintro e w2 ⟨rfl, hf2, ho2⟩
        rw [← HT.out] at hf2
        have hb2 := only_below HB.out ho2 (by omega) (Nat.le_refl _)
        have HF2 := Lib.hid hf2
        have HB2 := Lib.hid hb2
        clear hf2 ho2 hb2 c0 c1 c2 c3 HA
        go_wp2_with fail
        exact ⟨⟨j + 1, by omega, by omega, rfl, HF2.out, HB2.out, HF2.out.lt⟩, by show 100 - ((j : Int) + 1).toNat < 100 - (j : Int).toNat; omega⟩
      · have e2' : ((j : Int) < 100) = False := by simp only [e2]
        have hj : j = 100 := by omega
        have HF' := Lib.hid (show Flt wr w.heap.size (fillL [] (xs.take 100)) by rw [← hj]; exact HF.out)
        clear HF
        go_wp2_with fail
        go_ret
        exact ⟨rfl, HF'.out, HB.out⟩
    · have e1' : ((j : Int) < (n : Int)) = False := by simp only [e1]
      have HF' := Lib.hid (show Flt wr w.heap.size (fillL [] (xs.take 100)) by
        have := HL.out
        rw [show xs.take 100 = xs.take j by rw [List.take_of_length_le (by omega), List.take_of_length_le (by omega)]]
        exact HF.out)
      clear HF
      go_wp2_with fail
      go_ret
      exact ⟨rfl, HF'.out, HB.out⟩
end Go.Proofs.Ytofieoklcegddaa
