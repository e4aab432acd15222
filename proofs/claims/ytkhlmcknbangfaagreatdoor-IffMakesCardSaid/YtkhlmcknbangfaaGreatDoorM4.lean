/- modn: timesPlus, filled, addDigit. -/
import Derived.Test.YtkhlmcknbangfaaGreatDoorM1
import Derived.Test.YtkhlmcknbangfaaGreatDoorMaths
namespace Go.Proofs.YtkhlmcknbangfaaGreatDoor
set_option linter.unusedSimpArgs false
set_option linter.unusedVariables false
open Go.RowKit
set_option linter.unusedVariables false

theorem three_in_two (s1 c1 s2 c2 hi lo p c d B : Nat) (h1 : s1 + c1 * B = lo + c + 0) (h2 : s2 + c2 * B = s1 + d + 0) (h3 : lo + hi * B = p) : s2 + (hi + c1 + c2) * B = p + c + d := by
  rw [Nat.add_mul, Nat.add_mul]
  omega
theorem plus_num {a b c d : Nat} : sm (sm (mlo a b) c 0) d 0 + (mhi a b + cr (mlo a b) c 0 + cr (sm (mlo a b) c 0) d 0) * 18446744073709551616 = a * b + c + d :=
  three_in_two _ _ _ _ _ _ _ _ _ _ (sm_cr (mlo a b) c 0) (sm_cr (sm (mlo a b) c 0) d 0) mul_dig
theorem two_digits {lo hi t : Nat} (h : lo + hi * 18446744073709551616 = t) (hl : lo < 18446744073709551616) : hi = t / 18446744073709551616 ∧ lo = t % 18446744073709551616 := by omega

set_option maxHeartbeats 1000000 in
theorem plus_any (a b c d : Nat) (ha : a < 18446744073709551616) (hb : b < 18446744073709551616) (hc : c < 18446744073709551616) (hd : d < 18446744073709551616) (w : World) :
    Calls Tryz.prog 168 #[.int .u64 (a : Int), .int .u64 (b : Int), .int .u64 (c : Int), .int .u64 (d : Int)] w fun e w' =>
      e = .returned (.tuple #[.int .u64 (((a * b + c + d) / 18446744073709551616 : Nat) : Int), .int .u64 (((a * b + c + d) % 18446744073709551616 : Nat) : Int)]) ∧ w = w' := by
  obtain ⟨e1, e2⟩ := two_digits (plus_num (a := a) (b := b) (c := c) (d := d)) (sm_lt _ _ _)
  rw [← e1, ← e2]
  have t1 := mhi_lt ha hb
  have t2 : cr (mlo a b) c 0 ≤ 1 := cr_le (mlo_lt a b) hc (Nat.zero_le 1)
  have t4 : mhi a b + cr (mlo a b) c 0 + cr (sm (mlo a b) c 0) d 0 < 18446744073709551616 := by
    rw [e1, Nat.div_lt_iff_lt_mul (by omega)]
    have := Nat.mul_le_mul (show a ≤ 18446744073709551615 by omega) (show b ≤ 18446744073709551615 by omega)
    omega
  clear e1 e2
  go_enter Tryz.func168, Tryz.ntmps168
  go_wp2_with fail
  refine (mul64_any _ _ ha hb _).mono ?_
  rintro e w1 ⟨rfl, rfl⟩
  go_wp2_with fail
  go_ret2
  exact ⟨rfl, rfl⟩

theorem wpList_copy_min {w : World} {ops : Array Oper} {rest : List Oper} {o : Oper} {a : Act} {Q : Exit → Act → World → Prop} (hgd : o.guard = none) (d s : Operand)
    (ho : o.op = .call { callee := .builtin .copy, args := #[d, s], argTypes := #[22, 22] }) {g N dc n c B : Nat} {A : Option Addr} {cur xs : List Nat} (hd : a.eval d = .slice (some ⟨g, 0, none⟩) N dc) (hs : a.eval s = .slice A n c)
    (hw : Ow w g cur) (hN : cur.length = N) (hx : Nt w B A n c xs)
    (h : ∀ w' (k : Nat), Ow w' g (xs.take N ++ cur.drop n) → w.grownBy w' (some g) → wpList Tryz.prog ops Q rest (a.put o.dst (goInt k)) w') :
    wpList Tryz.prog ops Q (o :: rest) a w := by
  by_cases hn : n ≤ N
  · refine wpList_copy_us hgd d s ho hd hs hw hN hx hn fun w' h1 h2 => h w' n ?_ h2
    rw [List.take_of_length_le (by rw [hx.len]; exact hn)]
    exact h1
  · have hsz : (Tryz.prog.info? 23).map (·.size) = some 1 := by kernel_rfl
    by_cases h0 : N = 0
    · subst h0
      refine wpList_copy_nothing hgd d s 22 22 ho 23 Tryz.underlying22 hsz _ _ _ _ _ _ hd hs (Nat.min_zero _) ?_
      have e : cur = [] := List.eq_nil_of_length_eq_zero hN
      exact h w 0 (by simpa [e] using hw) (World.grownBy.refl w _)
    · obtain ⟨b, off, rfl, hb, hc⟩ := hx.cell (by omega)
      have hul : (us (xs.take N)).length = N := by simp [us, hx.len]; omega
      refine wpList_copy_own hgd d s 22 22 ho 23 Tryz.underlying22 hsz g 0 N dc ⟨b, off, none⟩ n c hd hs (us cur).toArray 23 hw (us (xs.take N)) (by rw [hul]; exact (Nat.min_eq_right (by omega)).symm) ?_ (by simp [us, hx.len, hN]; omega) (us_one _) ?_
      · intro j v hv
        simp only [us, List.getElem?_map, Option.map_eq_some_iff] at hv
        obtain ⟨x, hx, rfl⟩ := hv
        rw [List.getElem?_take] at hx
        split at hx
        · by_cases hj : j = 0
          · subst hj; simpa [Addr.add] using hc 0 x hx
          · simpa [Addr.add, hj] using hc j x hx
        · cases hx
      · rw [hul]
        refine h _ N ?_ ⟨rfl, rfl, rfl, by simp [World.setRow], fun k hk hne => setRow_other w g k _ (by intro e; subst e; exact hne rfl)⟩
        have := setRow_heap w g (us cur).toArray (us (xs.take N ++ cur.drop N)).toArray 23 (0, 0) hw
        rw [us_append, us_drop] at this
        have e1 : cur.drop N = [] := by rw [List.drop_eq_nil_iff]; omega
        have e2 : cur.drop n = [] := by rw [List.drop_eq_nil_iff]; omega
        rw [e2, List.append_nil]
        have e3 : List.drop cur.length (us cur) = [] := by rw [List.drop_eq_nil_iff]; simp [us]
        subst hN
        simpa [Ow, us_append, us_drop, hul, e3] using this

/-- a row of its own of so many limbs, of a known value -/
structure Row (w w' : World) (N L g : Nat) (xs : List Nat) : Prop where
  ow : Ow w' g xs
  new : w.heap.size ≤ g
  len : xs.length = L
  lim : Lim 18446744073709551616 xs
  is : val 18446744073709551616 xs = N
  bel : Below w.heap.size w w'
theorem val_take_all {xs : List Nat} {k : Nat} (h : Lim 18446744073709551616 xs) (hk : k ≤ xs.length) (hv : val 18446744073709551616 xs < 18446744073709551616 ^ k) : val 18446744073709551616 (xs.take k) = val 18446744073709551616 xs := by
  have e := val_take_drop 18446744073709551616 xs k hk
  rcases Nat.eq_zero_or_pos (val 18446744073709551616 (xs.drop k)) with h0 | h0
  · rw [h0] at e; omega
  · exfalso
    have := Nat.mul_le_mul_left (18446744073709551616 ^ k) (show 1 ≤ val 18446744073709551616 (xs.drop k) from h0)
    omega
set_option maxHeartbeats 1000000 in
theorem filled_any {w : World} {A : Option Addr} {n c : Nat} {xs : List Nat} (h : Nt w w.heap.size A n c xs) (L : Nat) (hL : L ≤ 1099511627776) (hv : val 18446744073709551616 xs < 18446744073709551616 ^ L) :
    Calls Tryz.prog 132 #[.slice A n c, .int .i64 (L : Int)] w fun e w' => ∃ g ys, e = .returned (.slice (some ⟨g, 0, none⟩) L L) ∧ Row w w' (val 18446744073709551616 xs) L g ys := by
  have hr := h.rooms
  go_enter Tryz.func132, Tryz.ntmps132
  go_wp2_with (first
    | (refine wpList_make_us _ rfl _ _ rfl _ _ L rfl rfl rfl rfl (by omega) ?_; intro w1 hw1 hg1)
    | (refine wpList_copy_min rfl _ _ rfl rfl rfl hw1 (by simp) (h.below (below_none hg1 (Nat.le_refl _))) ?_; intro w2 k2 hw2 hg2))
  go_ret
  have hb := (below_none hg1 (Nat.le_refl _)).grown hg2 hg1.size (fun k hk => by cases hk; exact Nat.le_refl _)
  refine ⟨_, _, rfl, hw2, Nat.le_refl _, ?_, (h.lim.take _).append ((lim_replicate (by omega) _).drop _), ?_, hb⟩
  · have := h.len
    simp; omega
  · rw [List.drop_replicate, val_zeros]
    by_cases hn : L ≤ n
    · exact val_take_all h.lim (by rw [h.len]; exact hn) hv
    · rw [List.take_of_length_le (by rw [h.len]; omega)]
end Go.Proofs.YtkhlmcknbangfaaGreatDoor
