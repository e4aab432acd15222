/- A part of two pieces, however they lie; what is left over. -/
import Derived.Test.YtafpnpfiefbddaaDoorOwn
namespace Go.Proofs.YtafpnpfiefbddaaDoor
set_option linter.unusedSimpArgs false
set_option linter.unusedVariables false
open Go.RowKit
set_option linter.unusedVariables false
set_option maxRecDepth 100000

theorem part2z {w : World} {A A2 : Option Addr} {n c m c2 : Nat} (zs : List Nat) (hn : n ≤ 1099511627776) (hm : m ≤ 1099511627776) (hc2 : m ≤ c2) (hr2 : c2 ≤ 9223372036854775807) (f : Nat) (hf : n < f) (hk : f ≤ n + m) :
    Calls Tryd.prog 63 #[.slice A n c, .slice A2 m c2, .int .i64 (f : Int), .int .i64 (f : Int)] w (PartIs zs f 0 w) := by
  obtain ⟨d, rfl⟩ : ∃ d, f = n + d := ⟨f - n, by omega⟩
  have e1 : IntKind.i64.wrap ((n : Int) + (d : Int) - (n : Int)) = (d : Int) := (IntWalk.i64_in _ (by omega)).trans (by omega)
  have h0 : 0 < d := by omega
  clear hf
  go_enter Tryd.func63, Tryd.ntmps63
  go_wp2
  go_ret
  refine ⟨A2, 0, ?_, nb_zero _ _ _ _, Below.refl _ _⟩
  simp
theorem part_any {w : World} {A A2 : Option Addr} {n c m c2 : Nat} {xs ys : List Nat} (h : Nb w w.heap.size A n c xs) (h2 : Nb w w.heap.size A2 m c2 ys) (hs : n + m ≤ 1099511627776) (f T : Nat) (hf : f ≤ T) (hT : T ≤ n + m) :
    Calls Tryd.prog 63 #[.slice A n c, .slice A2 m c2, .int .i64 (f : Int), .int .i64 (T : Int)] w (PartIs (xs ++ ys) f (T - f) w) := by
  by_cases h1 : T ≤ n
  · obtain ⟨k, rfl⟩ : ∃ k, T = f + k := ⟨T - f, by omega⟩
    rw [Nat.add_sub_cancel_left]
    exact part1 h (by omega) ys f k h1
  · by_cases h3 : n ≤ f
    · by_cases h4 : T = f
      · subst h4
        rw [Nat.sub_self]
        exact part2z _ (by omega) (by omega) h2.cap h2.room T (by omega) hT
      · obtain ⟨f', rfl⟩ : ∃ f', f = n + f' := ⟨f - n, by omega⟩
        obtain ⟨k, rfl⟩ : ∃ k, T = n + f' + k := ⟨T - (n + f'), by omega⟩
        rw [Nat.add_sub_cancel_left]
        exact part2 h.len (by omega) h2 f' k (by omega) (by omega)
    · obtain ⟨k2, rfl⟩ : ∃ k2, T = n + k2 := ⟨T - n, by omega⟩
      exact part3 h h2 f 0 k2 (by omega) (by omega) (by omega) hs

theorem leftOver_any {w : World} {A A2 : Option Addr} {n c m c2 : Nat} {xs ys : List Nat} (h : Nb w w.heap.size A n c xs) (h2 : Nb w w.heap.size A2 m c2 ys) (hs : n + m ≤ 1099511627776) :
    Calls Tryd.prog 54 #[.slice A n c, .slice A2 m c2] w (CopyIs ((xs ++ ys).drop (64 * ((n + m) / 64))) (n + m - 64 * ((n + m) / 64)) w) := by
  have hl : (xs ++ ys).length = n + m := by rw [List.length_append, h.len, h2.len]
  have Hl := Lib.hid hl
  clear hl
  obtain ⟨f, hf⟩ : ∃ f, 64 * ((n + m) / 64) = f := ⟨_, rfl⟩
  have hfle : f ≤ n + m := by omega
  rw [hf]
  have Hp := Lib.hid (part_any h h2 hs f (n + m) hfle (Nat.le_refl _))
  have Hf := Lib.hid hf
  clear hf
  go_enter Tryd.func54, Tryd.ntmps54
  go_wp2_with fail
  refine (whole_any A A2 n c m c2 (by omega) (by omega) _).mono ?_
  rintro e w' ⟨rfl, rfl⟩
  rw [Hf.out]
  go_wp2_with fail
  refine Hp.out.mono ?_
  rintro e w1 ⟨A1, c1, rfl, hn1, hb1⟩
  go_wp2_with fail
  refine (clone_any hn1 (by omega)).mono ?_
  rintro e w2 ⟨A3, c3, rfl, hn3, hg3, hb3⟩
  go_wp2
  go_ret
  refine ⟨A3, c3, rfl, ?_, fun h0 => ?_, hb1.trans (hb3.mono hb1.size)⟩
  · rw [List.take_of_length_le (by rw [List.length_drop, Hl.out]; omega)] at hn3
    exact hn3
  · obtain ⟨g, off, e, hg⟩ := hg3 h0
    exact ⟨g, off, e, Nat.le_trans hb1.size hg⟩
end Go.Proofs.YtafpnpfiefbddaaDoor
